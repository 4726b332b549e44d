/-
  Writers as what they have: the fields' bytes, or failed. The walks of New, Num, Text, Done.
-/
import Derived.Test.YtmbmgncajfamiaaFldText
namespace Go.Proofs.Ytmbmgncajfamiaa.Fld
open Go.RowKit RowLaw Crc
set_option maxRecDepth 100000

/-- the bytes of a block of fields, its magic not yet laid -/
def fblk (f : List UInt8) : List UInt8 := 0 :: (f ++ List.replicate (255 - f.length) 0)
theorem fblk_length (f : List UInt8) (h : f.length ≤ 255) : (fblk f).length = 256 := by simp [fblk]; omega
theorem fblk_nil : fblk [] = zeros := rfl
theorem fblk_pad (f : List UInt8) (n : Nat) (h : f.length + n ≤ 255) : fblk (f ++ List.replicate n 0) = fblk f := by
  unfold fblk
  rw [List.append_assoc, List.replicate_append_replicate, List.length_append, List.length_replicate, show n + (255 - (f.length + n)) = 255 - f.length from by omega]
theorem fblk_lay (f bs : List UInt8) : lay (fblk f) (1 + f.length) bs = fblk (f ++ bs) := by
  unfold lay fblk
  rw [Nat.add_comm 1 f.length, List.take_succ_cons, show f.length + 1 + bs.length = (f.length + bs.length) + 1 from by omega, List.drop_succ_cons, List.take_left, List.drop_append,
    List.drop_of_length_le (by omega), List.drop_replicate, List.nil_append]
  simp
  omega

/-- what a writer in memory has -/
def WIs (w : World) (p : Nat) : Option (List UInt8) → Prop
  | some f => f.length ≤ 251 ∧ IsObj 88 w p (fblk f) (1 + f.length)
  | none => ∃ l : List UInt8, l.length = 256 ∧ IsObj 88 w p l 0
theorem WIs.lt {w : World} {p : Nat} : ∀ {st : Option (List UInt8)}, WIs w p st → p < w.heap.size
  | some _, h => h.2.lt
  | none, ⟨_, _, h⟩ => h.lt
theorem WIs.of_block {w w' : World} {p : Nat} : ∀ {st : Option (List UInt8)}, WIs w p st → w'.heap[p]? = w.heap[p]? → WIs w' p st
  | some _, h, e => ⟨h.1, e.trans h.2⟩
  | none, ⟨l, hl, h⟩, e => ⟨l, hl, e.trans h⟩
theorem WIs.apart {w w' : World} {p q : Nat} {st : Option (List UInt8)} (h : WIs w q st) (ha : Apart p w w') (hp : q ≠ p) : WIs w' q st := h.of_block (ha.block q h.lt hp)
theorem WIs.below {w w' : World} {p : Nat} {st : Option (List UInt8)} (h : WIs w p st) (hb : Below w.heap.size w w') : WIs w' p st := h.of_block (hb.block p h.lt)

/-- a field's bytes behind others -/
def app : Option (List UInt8) → Option (List UInt8) → Option (List UInt8)
  | some f, some bs => if f.length + bs.length ≤ 251 then some (f ++ bs) else none
  | _, _ => none
def numBytes (n : Nat) (width : Int) : Option (List UInt8) := if widthB width = true then some (leB n (numSz width)) else none
def textOk (s : ByteArray) (room : Int) : Bool := decide (0 ≤ room ∧ room ≤ 200 ∧ (s.size : Int) ≤ room)
def textField (s : ByteArray) (room : Int) : List UInt8 := UInt8.ofNat s.size :: (s.data.toList ++ List.replicate (room.toNat - s.size) 0)
def textBytes (s : ByteArray) (room : Int) : Option (List UInt8) := if textOk s room = true then some (textField s room) else none

/-- some bool -/
def SomeBool (e : Ending) : Prop := ∃ b : Bool, e = .returned (.bool b)

theorem add_any_no (st : Option (List UInt8)) (p sz : Nat) (fv : Value) (hs : sz ≤ 252) (hno : ∀ f, st = some f → fitB (1 + f.length) sz = false) (w : World) (hw : WIs w p st) :
    Calls Try.prog 40 #[.pointer (some ⟨p, 0, none⟩), .int .i64 (sz : Int), fv] w fun e w' => SomeBool e ∧ WIs w' p none ∧ Apart p w w' := by
  cases st with
  | none =>
    obtain ⟨l, hl, ho⟩ := hw
    exact (add_no p sz l 0 fv hl (by omega) hs (decide_eq_false (by omega)) w ho).mono fun _ _ ⟨he, h1, h2⟩ => ⟨⟨_, he⟩, ⟨l, hl, h1⟩, h2⟩
  | some f =>
    have hlen := fblk_length f (by have := hw.1; omega)
    exact (add_no p sz (fblk f) (1 + f.length) fv hlen (by have := hw.1; omega) hs (hno f rfl) w hw.2).mono fun _ _ ⟨he, h1, h2⟩ => ⟨⟨_, he⟩, ⟨_, hlen, h1⟩, h2⟩

theorem enter53 : ∀ (args : Array Value) (W : World), (callFunc 44 args).run Try.prog W = .ok (.enter 44 args) W := fun _ _ => by simp [go_sem]
theorem enter55 : ∀ (args : Array Value) (W : World), (callFunc 42 args).run Try.prog W = .ok (.enter 42 args) W := fun _ _ => by simp [go_sem]

theorem add_num (st : Option (List UInt8)) (p n : Nat) (width : Int) (q : Addr) (w : World) (hw : WIs w p st) (hq : w.cell? q = some (.int .u64 (n : Int))) (hqp : q.block ≠ p) (hql : q.block < w.heap.size) :
    Calls Try.prog 40 #[.pointer (some ⟨p, 0, none⟩), .int .i64 (numSz width : Int), .func (.func 44) #[] #[.pointer (some q)]] w fun e w' => SomeBool e ∧ WIs w' p (app st (numBytes n width)) ∧ Apart p w w' := by
  have hz := numSz_le width
  cases st with
  | none => exact (add_any_no none p (numSz width) _ (by omega) (fun f hf => by cases hf) w hw).mono fun _ _ h => h
  | some f =>
    cases hfit : fitB (1 + f.length) (numSz width) with
    | false =>
      have happ : app (some f) (numBytes n width) = none := by
        have hn : ¬ (1 + f.length ≠ 0 ∧ numSz width ≠ 0 ∧ 1 + f.length + numSz width ≤ 252) := of_decide_eq_false hfit
        unfold numBytes
        split
        · rename_i hwd
          have := (widthB_iff width).1 hwd
          show (if f.length + (leB n (numSz width)).length ≤ 251 then _ else _) = _
          rw [leB_length, if_neg (by omega)]
        · rfl
      rw [happ]
      exact add_any_no (some f) p (numSz width) _ (by omega) (fun f' hf => by cases hf; exact hfit) w hw
    | true =>
      have hy : 1 + f.length ≠ 0 ∧ numSz width ≠ 0 ∧ 1 + f.length + numSz width ≤ 252 := of_decide_eq_true hfit
      have hlen := fblk_length f (by omega)
      have happ : app (some f) (numBytes n width) = some (f ++ leB n (numSz width)) := by
        unfold numBytes
        rw [if_pos ((widthB_iff width).2 hy.2.1)]
        show (if f.length + (leB n (numSz width)).length ≤ 251 then _ else _) = _
        rw [leB_length, if_pos (by omega)]
      rw [happ]
      have hll : (lay (fblk f) (1 + f.length) (leB n (numSz width))).length = 256 := by rw [lay_length _ _ _ (by rw [leB_length, hlen]; omega), hlen]
      refine (add_yes p (numSz width) (fblk f) (lay (fblk f) (1 + f.length) (leB n (numSz width))) (1 + f.length) 44 #[.pointer (some q)] hlen hll hfit w hw.2 enter53 (fun W ho ha =>
        num1_any 88 p (1 + f.length) (numSz width) (256 - (1 + f.length)) (fblk f) (1 + f.length) n q hlen (by omega) (by omega) W ho (by rw [ha.cell hql hqp]; exact hq))).mono fun e w' ⟨he, h1, h2⟩ => ⟨⟨_, he⟩, ?_, h2⟩
      rw [fblk_lay _ _] at h1
      refine ⟨by rw [List.length_append, leB_length]; omega, ?_⟩
      rw [List.length_append, leB_length, ← Nat.add_assoc]
      exact h1

theorem textField_length (s : ByteArray) (room : Int) (h : textOk s room = true) : (textField s room).length = textSz room := by
  have ht : 0 ≤ room ∧ room ≤ 200 ∧ (s.size : Int) ≤ room := of_decide_eq_true h
  have hs : s.data.toList.length = s.size := by rw [Array.length_toList]; rfl
  unfold textField textSz
  rw [if_neg (by omega), List.length_cons, List.length_append, List.length_replicate, hs]
  omega

theorem add_text (st : Option (List UInt8)) (p : Nat) (s : ByteArray) (room : Int) (q r : Addr) (w : World) (hw : WIs w p st) (hq : w.cell? q = some (.string s)) (hr : w.cell? r = some (.int .i64 room)) (hqp : q.block ≠ p) (hql : q.block < w.heap.size) (hrp : r.block ≠ p) (hrl : r.block < w.heap.size) :
    Calls Try.prog 40 #[.pointer (some ⟨p, 0, none⟩), .int .i64 (textSz room : Int), .func (.func 42) #[] #[.pointer (some q), .pointer (some r)]] w fun e w' => SomeBool e ∧ WIs w' p (app st (textBytes s room)) ∧ Apart p w w' := by
  have hz := textSz_le room
  cases st with
  | none => exact (add_any_no none p (textSz room) _ (by omega) (fun f hf => by cases hf) w hw).mono fun _ _ h => h
  | some f =>
    cases hfit : fitB (1 + f.length) (textSz room) with
    | false =>
      have happ : app (some f) (textBytes s room) = none := by
        have hn : ¬ (1 + f.length ≠ 0 ∧ textSz room ≠ 0 ∧ 1 + f.length + textSz room ≤ 252) := of_decide_eq_false hfit
        unfold textBytes
        split
        · rename_i hok
          have ht : 0 ≤ room ∧ room ≤ 200 ∧ (s.size : Int) ≤ room := of_decide_eq_true hok
          have hsz : textSz room = 1 + room.toNat := if_neg (by omega)
          show (if f.length + (textField s room).length ≤ 251 then _ else _) = _
          rw [textField_length s room hok, if_neg (by omega)]
        · rfl
      rw [happ]
      exact add_any_no (some f) p (textSz room) _ (by omega) (fun f' hf => by cases hf; exact hfit) w hw
    | true =>
      have hy : 1 + f.length ≠ 0 ∧ textSz room ≠ 0 ∧ 1 + f.length + textSz room ≤ 252 := of_decide_eq_true hfit
      have hlen := fblk_length f (by omega)
      have hroom : 0 ≤ room ∧ room ≤ 200 ∧ textSz room = 1 + room.toNat := by
        have := hy.2.1
        unfold textSz at this ⊢
        split at this <;> rename_i h1 <;> first | omega | (rw [if_neg h1]; omega)
      have hrn : room = (room.toNat : Int) := by omega
      by_cases hs : (s.size : Int) ≤ room
      · have hok : textOk s room = true := decide_eq_true ⟨hroom.1, hroom.2.1, hs⟩
        have hfl := textField_length s room hok
        have happ : app (some f) (textBytes s room) = some (f ++ textField s room) := by
          unfold textBytes
          rw [if_pos hok]
          show (if f.length + (textField s room).length ≤ 251 then _ else _) = _
          rw [hfl, if_pos (by omega)]
        rw [happ]
        have hsl : s.data.toList.length = s.size := by rw [Array.length_toList]; rfl
        have hbl : (UInt8.ofNat s.size :: s.data.toList).length = 1 + s.size := by rw [List.length_cons, hsl]; omega
        have hll : (lay (fblk f) (1 + f.length) (UInt8.ofNat s.size :: s.data.toList)).length = 256 := by rw [lay_length _ _ _ (by rw [hbl, hlen]; omega), hlen]
        refine (add_yes p (textSz room) (fblk f) (lay (fblk f) (1 + f.length) (UInt8.ofNat s.size :: s.data.toList)) (1 + f.length) 42 #[.pointer (some q), .pointer (some r)] hlen hll hfit w hw.2 enter55 (fun W ho ha =>
          text1_yes 88 p (1 + f.length) (textSz room) (256 - (1 + f.length)) (1 + f.length) (fblk f) s room.toNat q r hlen hroom.2.2 (by omega) (by omega) (by omega) (by omega) W ho hqp (by rw [ha.cell hql hqp]; exact hq)
            (by rw [ha.cell hrl hrp, ← hrn]; exact hr))).mono fun e w' ⟨he, h1, h2⟩ => ⟨⟨_, he⟩, ?_, h2⟩
        rw [fblk_lay _ _, ← fblk_pad _ (room.toNat - s.size) (by rw [List.length_append, hbl]; omega), List.append_assoc] at h1
        refine ⟨by rw [List.length_append, hfl]; omega, ?_⟩
        rw [List.length_append, hfl, ← Nat.add_assoc]
        exact h1
      · have happ : app (some f) (textBytes s room) = none := by
          unfold textBytes
          rw [if_neg (by rw [show textOk s room = false from decide_eq_false (by omega)]; simp)]
          rfl
        rw [happ]
        exact (add_refused p (textSz room) (fblk f) (1 + f.length) 42 #[.pointer (some q), .pointer (some r)] hlen hfit w hw.2 enter55 (fun W ho ha =>
          (text1_no p (1 + f.length) (textSz room) (256 - (1 + f.length)) s room q r (by omega) W (by rw [ha.cell hql hqp]; exact hq) (by rw [ha.cell hrl hrp]; exact hr)).mono fun e W' ⟨he, hw'⟩ => ⟨he, hw' ▸ ho, hw' ▸ Apart.refl _ _⟩)).mono
            fun e w' ⟨he, h1, h2⟩ => ⟨⟨_, he⟩, ⟨_, hlen, h1⟩, h2⟩

end Go.Proofs.Ytmbmgncajfamiaa.Fld
