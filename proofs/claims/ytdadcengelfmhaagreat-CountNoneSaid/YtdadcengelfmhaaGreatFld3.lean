/-
  Fld3: FldRefs, FldItems, FldRefDone, FldWrites.
-/
import Derived.Test.YtdadcengelfmhaaGreatFld1
import Derived.Deep.OwnRows
import Derived.RegionTactic
import Derived.IntWalk
import Derived.Deep.RegionWith
import Derived.Test.YtdadcengelfmhaaGreatFld2
/-
  The walks of the reference's bytes of fields.
-/
namespace Go.Proofs.YtdadcengelfmhaaGreat.Fld
open Go.RowKit RowLaw Crc
set_option maxRecDepth 100000

theorem infoByte : (Tryz.prog.info? 5).map (fun i => (i.zero, i.size, i.bytes)) = some (some (.int .u8 0), 1, 1) := by kernel_rfl
def bcell (u : UInt8) : Obj := .cells #[.int .u8 (u.toNat : Int)] 5
def bmade (n : Nat) : Obj := .cells (madeCells #[.int .u8 0] n) 5

theorem conv_one (W : World) (b : Nat) (u : UInt8) (h : W.cell? ⟨b, 0, none⟩ = some (.int .u8 (u.toNat : Int))) : (convert 168 9 (.slice (some ⟨b, 0, none⟩) 1 1)).run Tryz.prog W = .ok (.string ⟨#[u]⟩) W :=
  run_convert_bytes_back (P := Tryz.prog) W 168 9 5 ⟨b, 0, none⟩ 1 [u] Tryz.underlying168 Tryz.underlying5 Tryz.underlying9 (fun j hj => by
    obtain rfl : j = 0 := by simpa using hj
    rw [Addr.add_mid]; exact h)

theorem conv_zeros (W : World) (b n : Nat) (h : W.heap[b]? = some (bmade n)) : (convert 168 9 (.slice (some ⟨b, 0, none⟩) n n)).run Tryz.prog W = .ok (.string ⟨(List.replicate n 0).toArray⟩) W := by
  have := run_convert_bytes_back (P := Tryz.prog) W 168 9 5 ⟨b, 0, none⟩ n (List.replicate n 0) Tryz.underlying168 Tryz.underlying5 Tryz.underlying9 (fun j hj => by
    have hj' : j < n := by simpa using hj
    rw [Addr.add_mid, Nat.zero_add, cell_of_row W b j _ _ _ h, List.getElem_replicate]
    simp [madeCells, hj', Nat.mod_one])
  rw [List.length_replicate] at this
  exact this

theorem ret_str2 {s t : ByteArray} {b : Bool} (h : s = t) : Ending.returned (.tuple #[.string s, .bool b]) = .returned (.tuple #[.string t, .bool b]) := by rw [h]
theorem ret_str {s t : ByteArray} (h : s = t) : Ending.returned (.string s) = .returned (.string t) := by rw [h]
theorem cat3 (u : UInt8) (s : ByteArray) (n : Nat) : ((⟨#[u]⟩ : ByteArray) ++ s ++ ⟨Array.replicate n 0⟩) = ⟨(u :: (s.data.toList ++ List.replicate n 0)).toArray⟩ := by
  apply ByteArray.ext
  simp

theorem cat2 (u : UInt8) (l : List UInt8) : ((⟨#[u]⟩ : ByteArray) ++ ⟨l.toArray⟩) = ⟨(u :: l).toArray⟩ := by
  apply ByteArray.ext
  simp

theorem conv_new (W : World) (u : UInt8) : (convert 168 9 (.slice (some ⟨W.heap.size, 0, none⟩) 1 1)).run Tryz.prog (W.alloc (bcell u)) = .ok (.string ⟨#[u]⟩) (W.alloc (bcell u)) := conv_one _ _ u (cell_of_row (W.alloc (bcell u)) W.heap.size 0 _ _ _ (heap_alloc_new _ _))
theorem conv_old (w w1 : World) (u : UInt8) (hb : Below (w.alloc (bcell u)).drew.heap.size (w.alloc (bcell u)).drew w1) : (convert 168 9 (.slice (some ⟨w.heap.size, 0, none⟩) 1 1)).run Tryz.prog w1 = .ok (.string ⟨#[u]⟩) w1 :=
  conv_one _ _ u ((hb.cell (p := ⟨w.heap.size, 0, none⟩) (by simp)).trans (cell_of_row (w.alloc (bcell u)) w.heap.size 0 _ _ _ (heap_alloc_new _ _)))

set_option maxHeartbeats 800000 in
theorem refNum_any : ∀ (m n : Nat) (w : World), m ≤ 8 → n < 18446744073709551616 →
    Calls Tryz.prog 73 #[.int .u64 (n : Int), .int .i64 (m : Int)] w fun e w' => e = .returned (.string ⟨(leB n m).toArray⟩) ∧ Below w.heap.size w w'
  | 0, n, w, _, _ => by
    rw [show ((0 : Nat) : Int) = 0 from rfl]
    go_enter Tryz.func73, Tryz.ntmps73
    go_wp2
    go_ret
    exact ⟨rfl, Below.refl _ _⟩
  | m + 1, n, w, hm, hn => by
    obtain ⟨u, hue⟩ : ∃ u, u = UInt8.ofNat n := ⟨_, rfl⟩
    have hu : (n : Int) % 256 = (u.toNat : Int) := by rw [hue, UInt8.toNat_ofNat']; omega
    obtain ⟨d, hde⟩ : ∃ d, d = n / 256 := ⟨_, rfl⟩
    have hd : (n : Int) / 256 = (d : Int) := by omega
    have hdl : d < 18446744073709551616 := by omega
    obtain ⟨M, hM⟩ : ∃ M, M = m + 1 := ⟨_, rfl⟩
    have ih := fun w => refNum_any m d w (by omega) hdl
    have hul := u.toNat_lt
    have z2 : IntKind.u8.wrap (u.toNat : Int) = (u.toNat : Int) := IntWalk.u8_in _ (by omega)
    have z3 : (M : Int) - 1 = (m : Int) := by omega
    have z4 : IntKind.i64.wrap ((M : Int) - 1) = (m : Int) := by rw [IntWalk.i64_in _ (by omega)]; omega
    have z5 : ¬ (M : Int) ≤ 0 := by omega
    have z6 : (n : Int).tmod 256 = (u.toNat : Int) := by rw [Int.tmod_eq_emod_of_nonneg (by omega)]; exact hu
    have z7 : IntKind.u64.wrap (d : Int) = (d : Int) := IntWalk.u64_in _ (by omega)
    have z8 : IntKind.i64.wrap (m : Int) = (m : Int) := IntWalk.i64_in _ (by omega)
    have hres := leB_cons n m
    rw [← hue, ← hde] at hres
    rw [← hM]
    have hLl : (leB d m).length ≤ 8 := by rw [leB_length]; omega
    obtain ⟨L, hL⟩ : ∃ L, L = leB d m := ⟨_, rfl⟩
    rw [← hL] at hLl hres
    simp only [← hL] at ih
    have HL := Lib.hid hL; clear hL
    have HR := Lib.hid hres; clear hres
    have HI := Lib.hid ih; clear ih
    have f1 : (convert 168 9 (.slice (some ⟨w.heap.size, 0, none⟩) 1 1)).run Tryz.prog (w.alloc (bcell u)).drew = .ok (.string ⟨#[u]⟩) (w.alloc (bcell u)).drew := conv_one _ _ u (cell_of_row (w.alloc (bcell u)) w.heap.size 0 _ _ _ (heap_alloc_new _ _))
    simp only [bcell] at f1
    have HU := Lib.hid hue; clear hue
    have HD := Lib.hid hde; clear hde
    have HM := Lib.hid hM; clear hM
    clear hn hm
    go_enter Tryz.func73, Tryz.ntmps73
    go_wp2
    go_region_with (go_at_call 73; (with_reducible refine (HI.out _).mono ?_); rintro e w1 ⟨rfl, hb⟩; have k2 := conv_new w1 u; have k1 := conv_old w w1 u; simp only [bcell] at k2 k1; (try replace k1 := k1 hb))
    all_goals
      change Exit.then _ _ Exit.normal (Act.put _ (some 4) _) _
      simp only [Act.put]
      go_wp2
      go_ret
      have hm1 := HM.out
      subst hm1
      rw [HR.out]
      refine ⟨ret_str (cat2 u L), ?_⟩
      first
        | exact (((Below.refl _ _).alloc (Nat.le_refl _) _).drew).trans (hb.mono (by simp))
        | exact ((Below.refl _ _).drew.trans hb).alloc hb.size _

end Go.Proofs.YtdadcengelfmhaaGreat.Fld

/-
  Items (fields as the laws take them), in memory; the walks of the laws' put and great.
-/
namespace Go.Proofs.YtdadcengelfmhaaGreat.Fld
open Go.RowKit RowLaw Crc
set_option maxRecDepth 100000

/-- a field as a law takes it -/
structure It where
  is : Bool
  n : Nat
  s : ByteArray
  size : Int

def itCells (x : It) : Array Value := #[.bool x.is, .int .u64 (x.n : Int), .string x.s, .int .i64 x.size]
def itBytes (x : It) : Option (List UInt8) := if x.is = true then textBytes x.s x.size else numBytes x.n x.size

theorem numBytes_some (n : Nat) (width : Int) : (numBytes n width).isSome = widthB width := by
  unfold numBytes
  cases h : widthB width <;> simp
theorem textBytes_some (s : ByteArray) (room : Int) : (textBytes s room).isSome = textOk s room := by
  unfold textBytes
  cases h : textOk s room <;> simp

theorem widthB_val {width : Int} (h : widthB width = true) : width = (numSz width : Int) := by
  have h' : width = 1 ∨ width = 2 ∨ width = 4 ∨ width = 8 := of_decide_eq_true h
  unfold numSz
  rw [if_pos h']
  omega

/-- the items of a slice lie in memory -/
def Items (w : World) (pa : Option Addr) (xs : List It) : Prop :=
  xs.length = 0 ∨ ∃ b off, pa = some ⟨b, off, none⟩ ∧ b < w.heap.size ∧ ∀ i (h : i < xs.length), (w.cell? ⟨b, off + i * 4, none⟩ = some (.bool xs[i].is) ∧ w.cell? ⟨b, off + i * 4 + 1, none⟩ = some (.int .u64 (xs[i].n : Int)) ∧
    w.cell? ⟨b, off + i * 4 + 2, none⟩ = some (.string xs[i].s) ∧ w.cell? ⟨b, off + i * 4 + 3, none⟩ = some (.int .i64 xs[i].size)) ∧ xs[i].n < 18446744073709551616 ∧ xs[i].s.size ≤ maxLen
theorem Items.below {w w' : World} {pa : Option Addr} {xs : List It} (h : Items w pa xs) (hb : Below w.heap.size w w') : Items w' pa xs := by
  rcases h with h | ⟨b, off, rfl, hlt, hc⟩
  · exact .inl h
  · refine .inr ⟨b, off, rfl, Nat.lt_of_lt_of_le hlt hb.size, fun i hi => ?_⟩
    obtain ⟨⟨c0, c1, c2, c3⟩, hn, hs⟩ := hc i hi
    exact ⟨⟨(hb.cell (p := ⟨b, _, none⟩) hlt).trans c0, (hb.cell (p := ⟨b, _, none⟩) hlt).trans c1, (hb.cell (p := ⟨b, _, none⟩) hlt).trans c2, (hb.cell (p := ⟨b, _, none⟩) hlt).trans c3⟩, hn, hs⟩
/-- .. where they lay when the call began -/
theorem Items.from_ {w w' : World} {pa : Option Addr} {xs : List It} (h : Items w pa xs) (hb : Below w.heap.size w w') : Items w' pa xs := h.below hb

/-- what the law's great tells -/
def GreatSays (n : Nat) (e : Ending) : Prop := ∃ g : Bool, e = .returned (.bool g) ∧ (g = false → n ≤ 100)

end Go.Proofs.YtdadcengelfmhaaGreat.Fld

/-
  The walk of the reference's Done; the bytes of items, one behind the other.
-/
namespace Go.Proofs.YtdadcengelfmhaaGreat.Fld
open Go.RowKit RowLaw Crc
set_option maxRecDepth 100000

/-- the block of the first k bytes, its magic laid -/
def blkTo (m : UInt8) (s : List UInt8) (k : Nat) : List UInt8 := (fblk (s.take k)).set 0 m
theorem blkTo_length (m : UInt8) (s : List UInt8) (k : Nat) (h : k ≤ 255) : (blkTo m s k).length = 256 := by
  unfold blkTo
  rw [List.length_set, fblk_length]
  rw [List.length_take]; omega
theorem blkTo_zero (m : UInt8) (s : List UInt8) : blkTo m s 0 = zeros.set 0 m := rfl
theorem blkTo_set (m : UInt8) (s : List UInt8) (k : Nat) (hk : k < s.length) (h : k < 255) : (blkTo m s k).set (1 + k) s[k] = blkTo m s (k + 1) := by
  have ht : (s.take k).length = k := by rw [List.length_take]; omega
  unfold blkTo fblk
  rw [List.take_succ_eq_append_getElem hk, List.set_cons_zero, List.set_cons_zero, Nat.add_comm 1 k, List.set_cons_succ, List.set_append_right _ _ (by omega), ht, Nat.sub_self,
    show 255 - k = (255 - (k + 1)) + 1 from by omega, List.replicate_succ, List.set_cons_zero, List.length_append, ht, List.append_assoc]
  rfl

set_option maxRecDepth 100000 in
set_option maxHeartbeats 800000 in
theorem refDone_long (str : ByteArray) (m : UInt8) (hs : str.size ≤ 100000) (hlong : 251 < str.size) (w : World) :
    Calls Tryz.prog 74 #[.int .u8 (m.toNat : Int), .string str] w fun e w' => e = .returned (.tuple #[.agg (cellsOf zeros), .int .i64 3]) ∧ Below w.heap.size w w' := by
  have hzv := (zero_of_info infoBlock).1
  have hi := sizeBlock zeros zeros_length
  have hA := Holds.new w zeros
  have hb : Below w.heap.size w (w.alloc (.cells (cellsOf zeros) 39)) := (Below.refl _ _).alloc (Nat.le_refl _) _
  have h1 : (252 : Int) < 1 + (str.size : Int) := by omega
  go_enter Tryz.func74, Tryz.ntmps74
  go_wp2_with (refine wpList_store_new rfl 39 _ _ rfl _ _ _ rfl rfl hi rfl (cellsOf_one _) ?_; generalize w.alloc (.cells (cellsOf zeros) 39) = W at hA hb ⊢)
  exact bodyPost_ret (results_row_tmp rfl _ _ _ _ _ _ _ rfl hA Tryz.underlying39 rfl hi) rfl ⟨rfl, hb⟩

set_option maxRecDepth 100000 in
set_option maxHeartbeats 1600000 in
theorem refDone_short (str : ByteArray) (s : List UInt8) (hstr : str.data.toList = s) (m : UInt8) (hshort : s.length ≤ 251) (w : World) :
    Calls Tryz.prog 74 #[.int .u8 (m.toNat : Int), .string str] w fun e w' => e = .returned (.tuple #[.agg (cellsOf (fdone s m)), .int .i64 0]) ∧ Below w.heap.size w w' := by
  have hzv := (zero_of_info infoBlock).1
  have hi := sizeBlock zeros zeros_length
  have hsz : str.size = s.length := by rw [← hstr, Array.length_toList]; rfl
  obtain ⟨n, hn⟩ : ∃ n, n = str.size := ⟨_, rfl⟩
  have hn251 : str.size ≤ 251 := by omega
  have hZ : Holds ((w.alloc (.cells (cellsOf zeros) 39)).alloc (.cells (cellsOf zeros) 39)) (w.heap.size + 1) zeros := heap_alloc2_new w _ _
  have hA : Holds (((w.alloc (.cells (cellsOf zeros) 39)).alloc (.cells (cellsOf zeros) 39)).setRow (w.heap.size + 1) (cellsOf zeros)) w.heap.size zeros := (setRow_other _ _ _ _ (by omega)).trans ((Holds.new w zeros).alloc _)
  have hB : Holds (((w.alloc (.cells (cellsOf zeros) 39)).alloc (.cells (cellsOf zeros) 39)).setRow (w.heap.size + 1) (cellsOf zeros)) (w.heap.size + 1) zeros := setRow_heap _ _ _ _ _ _ hZ
  have hb : Below w.heap.size w (((w.alloc (.cells (cellsOf zeros) 39)).alloc (.cells (cellsOf zeros) 39)).setRow (w.heap.size + 1) (cellsOf zeros)) := (((Below.refl _ _).alloc (Nat.le_refl _) _).alloc (by simp) _).trans ⟨rfl, rfl, rfl, by simp, fun k hk => setRow_other _ _ _ _ (by omega)⟩
  have HS := Lib.hid hsz; clear hsz
  have HT := Lib.hid hstr; clear hstr
  have HN := Lib.hid hn; clear hn
  go_enter Tryz.func74, Tryz.ntmps74
  have h251 : ¬ (252 : Int) < 1 + (str.size : Int) := by omega
  go_wp2_with (refine wpList_store_row rfl 39 _ _ rfl _ _ rfl rfl _ _ hZ hi rfl (cellsOf_one _) ?_; clear hZ; generalize ((w.alloc (.cells (cellsOf zeros) 39)).alloc (.cells (cellsOf zeros) 39)).setRow (w.heap.size + 1) (cellsOf zeros) = W at hA hB hb ⊢; have cB := hB.cell 0 (by rw [zeros_length]; omega); have fB := hB.frozen 0; have hB2 := hB.set_ 0 m; have hA2 := hA.other ⟨w.heap.size + 1, 0, none⟩ (.int .u8 (m.toNat : Int)) (by simp); have hb2 := hb.setCell (p := ⟨w.heap.size + 1, 0, none⟩) (by simp) (.int .u8 (m.toNat : Int)))
  clear hA hB hb cB fB
  go_loopw [7] (fun i wr => ∃ k : Nat, k ≤ str.size ∧ i = .int .i64 k ∧ Holds wr (w.heap.size + 1) (blkTo m s k) ∧ Holds wr w.heap.size zeros ∧ Below w.heap.size w wr) (fun i _ => str.size - (intOf i).toNat)
  case atStart => exact ⟨0, by omega, rfl, hB2, hA2, hb2⟩
  case round =>
    obtain ⟨k, hk, rfl, hB3, hA3, hb3⟩ := hrel
    clear hA2 hB2 hb2
    by_cases hlt : k < str.size
    · have hsl : k < s.length := by rw [← HS.out]; exact hlt
      have hchar : s[k] = str[k] := by
        have := HT.out
        subst this
        rfl
      have hbl := blkTo_length m s k (by omega)
      have hset := blkTo_set m s k hsl (by omega)
      have hB4 := hB3.set_ (1 + k) str[k]
      rw [← hchar, hset, hchar] at hB4
      have hA4 := hA3.other ⟨w.heap.size + 1, 1 + k, none⟩ (.int .u8 (str[k].toNat : Int)) (by simp)
      have hb4 := hb3.setCell (p := ⟨w.heap.size + 1, 1 + k, none⟩) (by simp) (.int .u8 (str[k].toNat : Int))
      obtain ⟨v, c⟩ : ∃ v, wr.cell? ⟨w.heap.size + 1, 1 + k, none⟩ = some v := ⟨_, hB3.cell (1 + k) (by omega)⟩
      have f := hB3.frozen (1 + k)
      clear hset hchar hbl
      go_wp2_with fail
      go_roundw
      case rel => exact ⟨k + 1, by omega, by go_num, hB4, hA4, hb4⟩
      case measure => simp [intOf]; omega
    · obtain rfl : k = str.size := by omega
      have hfull : blkTo m s str.size = (fblk s).set 0 m := by unfold blkTo; rw [HS.out, List.take_length]
      rw [hfull] at hB3
      have hl1 : ((fblk s).set 0 m).length = 256 := by rw [List.length_set, fblk_length _ (by rw [← HS.out]; omega)]
      have hi2 := sizeBlock _ hl1
      have hi3 := sizeBlock _ (sealB_length hl1)
      have hzz : (cellsOf zeros).size = (cellsOf (sealB ((fblk s).set 0 m))).size := by rw [cellsOf_size, cellsOf_size, sealB_length hl1, zeros_length]
      have HL := Lib.hid hl1; clear hl1 hfull
      go_wp2_with (first
        | (refine wpList_load_row rfl 39 _ rfl _ rfl _ _ _ _ hB3 Tryz.underlying39 rfl hi2 ?_)
        | (go_at_call 97; (with_reducible refine (refSeal_any _ HL.out _).mono ?_); rintro e W3 ⟨rfl, hb5⟩; replace hA3 := hA3.below hb5 hA3.lt; replace hb3 := hb3.trans (hb5.mono hb3.size); clear hb5)
        | (refine wpList_store_row rfl 39 _ _ rfl _ _ rfl rfl _ _ hA3 hi3 hzz (cellsOf_one _) ?_))
      refine bodyPost_ret (results_row_tmp rfl _ _ _ _ _ _ _ rfl (setRow_heap W3 _ _ _ _ _ hA3) Tryz.underlying39 rfl hi3) rfl ⟨rfl, ?_⟩
      exact Below.trans hb3 ⟨rfl, rfl, rfl, by simp, fun k hk => setRow_other W3 _ _ _ (by omega)⟩

/-! Items, one behind the other -/
def catTo (xs : List It) (k : Nat) : List UInt8 := ((xs.take k).map fun x => (itBytes x).getD []).flatten
def mayTo (xs : List It) (k : Nat) : Bool := (xs.take k).all fun x => (itBytes x).isSome
def stTo (xs : List It) (k : Nat) : Option (List UInt8) := if mayTo xs k = true ∧ (catTo xs k).length ≤ 251 then some (catTo xs k) else none
theorem catTo_zero (xs : List It) : catTo xs 0 = [] := rfl
theorem catTo_succ (xs : List It) (k : Nat) (h : k < xs.length) : catTo xs (k + 1) = catTo xs k ++ (itBytes xs[k]).getD [] := by
  unfold catTo
  rw [List.take_succ_eq_append_getElem h, List.map_append, List.flatten_append]
  simp only [List.map_cons, List.map_nil, List.flatten_cons, List.flatten_nil, List.append_nil]
theorem mayTo_succ (xs : List It) (k : Nat) (h : k < xs.length) : mayTo xs (k + 1) = (mayTo xs k && (itBytes xs[k]).isSome) := by
  unfold mayTo
  rw [List.take_succ_eq_append_getElem h, List.all_append]
  simp
theorem stTo_succ (xs : List It) (k : Nat) (h : k < xs.length) : stTo xs (k + 1) = app (stTo xs k) (itBytes xs[k]) := by
  unfold stTo
  rw [mayTo_succ xs k h, catTo_succ xs k h]
  cases hb : itBytes xs[k] with
  | none =>
    rw [if_neg (by simp)]
    cases hs : (if mayTo xs k = true ∧ (catTo xs k).length ≤ 251 then some (catTo xs k) else none) <;> rfl
  | some bs =>
    by_cases hm : mayTo xs k = true
    · by_cases hc : (catTo xs k).length ≤ 251
      · rw [if_pos (⟨hm, hc⟩ : mayTo xs k = true ∧ (catTo xs k).length ≤ 251)]
        simp [app, hm]
      · have hl : (catTo xs k ++ (some bs).getD []).length = (catTo xs k).length + bs.length := by simp
        rw [if_neg (fun h => by rw [hl] at h; exact hc (by omega)), if_neg (fun h => hc h.2)]; rfl
    · rw [if_neg (fun h => by simp [hm] at h), if_neg (fun h => hm h.1)]; rfl
theorem itBytes_length (x : It) (bs : List UInt8) (h : itBytes x = some bs) : bs.length ≤ 201 := by
  unfold itBytes at h
  split at h
  · unfold textBytes at h
    split at h
    · rename_i hok
      cases h
      rw [textField_length _ _ hok]
      exact textSz_le _
    · cases h
  · unfold numBytes at h
    split at h
    · cases h
      rw [leB_length]
      have := numSz_le x.size
      omega
    · cases h
theorem catTo_length (xs : List It) : ∀ k, k ≤ xs.length → (catTo xs k).length ≤ 201 * k
  | 0, _ => by simp [catTo_zero]
  | k + 1, h => by
    have ih := catTo_length xs k (by omega)
    rw [catTo_succ xs k (by omega), List.length_append]
    cases hb : itBytes xs[k] with
    | none => simp; omega
    | some bs =>
      have := itBytes_length _ _ hb
      simp
      omega

end Go.Proofs.YtdadcengelfmhaaGreat.Fld

/-
  The walk of the law FieldWrites.
-/
namespace Go.Proofs.YtdadcengelfmhaaGreat.Fld
open Go.RowKit RowLaw Crc
set_option maxRecDepth 100000

/-- what Done hands back -/
def doneB (m : UInt8) : Option (List UInt8) → List UInt8
  | some f => fdone f m
  | none => zeros
def doneE : Option (List UInt8) → Int
  | some _ => 0
  | none => 3
def shortSt (f : List UInt8) : Option (List UInt8) := if f.length ≤ 251 then some f else none
theorem fdone_length (f : List UInt8) (m : UInt8) (h : f.length ≤ 251) : (fdone f m).length = 256 := sealB_length (by rw [List.length_set, fblk_length _ (by omega)])
theorem doneB_short (f : List UInt8) (m : UInt8) : (doneB m (shortSt f)).length = 256 := by
  unfold shortSt
  split
  · rename_i h; exact fdone_length f m h
  · exact zeros_length
theorem doneB_length {st : Option (List UInt8)} {w : World} {p : Nat} (h : WIs w p st) (m : UInt8) : (doneB m st).length = 256 := by
  cases st with
  | none => exact zeros_length
  | some f => exact fdone_length f m h.1
theorem Done_any (st : Option (List UInt8)) (p : Nat) (m : UInt8) (w : World) (hw : WIs w p st) :
    Calls Tryz.prog 85 #[.pointer (some ⟨p, 0, none⟩), .int .u8 (m.toNat : Int)] w fun e w' => e = .returned (.tuple #[.agg (cellsOf (doneB m st)), .int .i64 (doneE st)]) ∧ Below w.heap.size w w' := by
  cases st with
  | none => exact Done_none p _ w hw
  | some f => exact Done_some p f m w hw
theorem refDone_any (f : List UInt8) (hf : f.length ≤ 100000) (m : UInt8) (w : World) :
    Calls Tryz.prog 74 #[.int .u8 (m.toNat : Int), .string ⟨f.toArray⟩] w fun e w' => e = .returned (.tuple #[.agg (cellsOf (doneB m (shortSt f))), .int .i64 (doneE (shortSt f))]) ∧ Below w.heap.size w w' := by
  have hsz : (⟨f.toArray⟩ : ByteArray).size = f.length := by simp [ByteArray.size]
  unfold shortSt
  by_cases h : f.length ≤ 251
  · rw [if_pos h]
    exact refDone_short ⟨f.toArray⟩ f rfl m h w
  · rw [if_neg h]
    exact refDone_long ⟨f.toArray⟩ m (by omega) (by omega) w

theorem cat_app (f g : List UInt8) : ((⟨f.toArray⟩ : ByteArray) ++ ⟨g.toArray⟩) = ⟨(f ++ g).toArray⟩ := by
  apply ByteArray.ext
  simp

end Go.Proofs.YtdadcengelfmhaaGreat.Fld

