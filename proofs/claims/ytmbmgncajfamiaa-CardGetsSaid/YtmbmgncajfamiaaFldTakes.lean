/-
  The reference's readers by the abstract state of a reader.
-/
import Derived.Test.YtmbmgncajfamiaaFldTakeText
namespace Go.Proofs.Ytmbmgncajfamiaa.Fld
open Go.RowKit RowLaw Crc
set_option maxRecDepth 100000

/-- the state of a reader that stands -/
def ROk (st : Option (List UInt8 × Nat)) : Prop := ∀ l k, st = some (l, k) → l.length = 256 ∧ 1 ≤ k ∧ k ≤ 252

theorem refEnd_any (st : Option (List UInt8 × Nat)) (hst : ROk st) (w : World) :
    Calls Try.prog 39 #[.agg (rowV st)] w fun e w' => e = .returned (.int .i64 (endE st)) ∧ Below w.heap.size w w' := by
  match st, hst with
  | none, _ => exact refEnd_none w
  | some (l, k), h => exact refEnd_some l k (h l k rfl).1 (h l k rfl).2.2 w

theorem fitB_false {k sz : Nat} (h : fitB k sz = false) (hk : k ≠ 0) : sz = 0 ∨ 252 < k + sz := by
  have h' : ¬ (k ≠ 0 ∧ sz ≠ 0 ∧ k + sz ≤ 252) := of_decide_eq_false h
  omega

theorem refTakeNum_any (st : Option (List UInt8 × Nat)) (hst : ROk st) (width : Int) (w : World) :
    Calls Try.prog 38 #[.agg (rowV st), .int .i64 width] w fun e w' => e = .returned (.tuple #[.int .u64 ((takeNum st width).1 : Int), .agg (rowV (takeNum st width).2)]) ∧ Below w.heap.size w w' := by
  match st, hst with
  | none, _ => exact refTakeNum_no zeros 0 false zeros_length (by omega) width (Or.inl rfl) w
  | some (l, k), h =>
    obtain ⟨hl, h1, h2⟩ := h l k rfl
    cases hf : fitB k (numSz width)
    · have e : takeNum (some (l, k)) width = (0, none) := by unfold takeNum; simp only [hf]; rfl
      rw [e]
      refine refTakeNum_no l k true hl h2 width ?_ w
      rcases fitB_false hf (by omega) with h0 | h0
      · refine Or.inr (Or.inl ?_)
        cases hw : widthB width
        · rfl
        · exact absurd h0 ((widthB_iff width).mp hw)
      · exact Or.inr (Or.inr h0)
    · have h' : k ≠ 0 ∧ numSz width ≠ 0 ∧ k + numSz width ≤ 252 := of_decide_eq_true hf
      have e : takeNum (some (l, k)) width = (leNat (piece l k (numSz width)), some (l, k + numSz width)) := by unfold takeNum; simp only [hf]; rfl
      rw [e]
      exact refTakeNum_yes l k hl width ((widthB_iff width).mpr h'.2.1) h'.2.2 w

theorem blankB_replicate (l : List UInt8) (n : Nat) (h : l.length = n) : (List.replicate n 0 == l) = blankB l := by
  induction l generalizing n with
  | nil => subst h; rfl
  | cons a t ih =>
    subst h
    rw [List.length_cons, List.replicate_succ, List.cons_beq_cons, ih _ rfl]
    unfold blankB
    rw [List.all_cons]
    congr 1
    exact Bool.eq_iff_iff.mpr ⟨fun h => by simpa using (beq_iff_eq.mp h).symm, fun h => by simpa using (beq_iff_eq.mp h).symm⟩

theorem append_beq (a b c d : List UInt8) (h : a = b) : (a ++ c == b ++ d) = (c == d) := by
  subst h
  induction a with
  | nil => rfl
  | cons x t ih => rw [List.cons_append, List.cons_append, List.cons_beq_cons, ih, beq_self_eq_true, Bool.true_and]

theorem text_same (l : List UInt8) (k n u : Nat) (hl : l.length = 256) (hk : k + 1 + n ≤ 252) (hu : (l.getD k 0).toNat = u) (hs : u ≤ n) :
    (textField ⟨(piece l (k + 1) u).toArray⟩ (n : Int) == piece l k (k + 1 + n - k)) = blankB ((piece l (k + 1) n).drop u) := by
  have hk' : k < l.length := by omega
  have hsz : (⟨(piece l (k + 1) u).toArray⟩ : ByteArray).size = u := by show (piece l (k + 1) u).toArray.size = u; rw [List.size_toArray, piece_length l (k + 1) u (by omega)]
  have hgd : l.getD k 0 = l[k] := by rw [List.getD_eq_getElem?_getD, List.getElem?_eq_getElem hk']; rfl
  have e1 : piece l k (k + 1 + n - k) = l[k] :: piece l (k + 1) n := by
    unfold piece
    rw [List.drop_eq_getElem_cons hk', show k + 1 + n - k = n + 1 from by omega, List.take_succ_cons]
  have e2 : piece l (k + 1) n = piece l (k + 1) u ++ (piece l (k + 1) n).drop u := by
    have : piece l (k + 1) u = (piece l (k + 1) n).take u := by unfold piece; rw [List.take_take, Nat.min_eq_left hs]
    rw [this, List.take_append_drop]
  have e3 : UInt8.ofNat u = l[k] := by rw [← hu, hgd, UInt8.ofNat_toNat]
  unfold textField
  rw [hsz, e1, e3, List.cons_beq_cons, beq_self_eq_true, Bool.true_and, e2]
  rw [append_beq _ _ _ _ rfl, List.drop_append_of_le_length (by rw [piece_length l (k + 1) u (by omega)]; exact Nat.le_refl _)]
  rw [List.drop_of_length_le (l := piece l (k + 1) u) (by rw [piece_length l (k + 1) u (by omega)]; exact Nat.le_refl _), List.nil_append]
  exact blankB_replicate _ _ (by rw [List.length_drop, piece_length l (k + 1) n (by omega)]; rfl)

theorem refTakeText_any (st : Option (List UInt8 × Nat)) (hst : ROk st) (room : Int) (w : World) :
    Calls Try.prog 36 #[.agg (rowV st), .int .i64 room] w fun e w' => e = .returned (.tuple #[.string ⟨(takeText st room).1.toArray⟩, .agg (rowV (takeText st room).2)]) ∧ Below w.heap.size w w' := by
  match st, hst with
  | none, _ => exact refTakeText_no zeros 0 false zeros_length (by omega) room (Or.inl rfl) w
  | some (l, k), h =>
    obtain ⟨hl, h1, h2⟩ := h l k rfl
    cases hf : fitB k (textSz room)
    · have e : takeText (some (l, k)) room = ([], none) := by unfold takeText; simp only [hf]; rfl
      rw [e]
      refine refTakeText_no l k true hl h2 room ?_ w
      have h0 := fitB_false hf (by omega)
      unfold textSz at h0
      split at h0 <;> omega
    · have h' : k ≠ 0 ∧ textSz room ≠ 0 ∧ k + textSz room ≤ 252 := of_decide_eq_true hf
      have hr : 0 ≤ room ∧ room ≤ 200 := by
        have := h'.2.1
        unfold textSz at this
        split at this <;> omega
      obtain ⟨n, rfl⟩ : ∃ n : Nat, room = (n : Int) := ⟨room.toNat, by omega⟩
      have hsz : textSz (n : Int) = 1 + n := by unfold textSz; rw [if_neg (by omega)]; rfl
      have hkn : k + 1 + n ≤ 252 := by omega
      by_cases hs : (l.getD k 0).toNat ≤ n
      · have e : takeText (some (l, k)) (n : Int) = if blankB ((piece l (k + 1) n).drop (l.getD k 0).toNat) = true then (piece l (k + 1) (l.getD k 0).toNat, some (l, k + 1 + n)) else ([], none) := by
          unfold takeText
          simp only [hf, if_true]
          unfold textAt
          have ht : (piece l (k + 1) n).take (l.getD k 0).toNat = piece l (k + 1) (l.getD k 0).toNat := by unfold piece; rw [List.take_take, Nat.min_eq_left hs]
          have en : (n : Int).toNat = n := rfl
          rw [en, hsz, ht]
          by_cases hb : blankB ((piece l (k + 1) n).drop (l.getD k 0).toNat) = true
          · rw [if_pos ⟨hs, hb⟩, if_pos hb, Nat.add_assoc]
          · rw [if_neg (fun x => hb x.2), if_neg hb]
        have hc := refTakeText_some l k n _ hl (by omega) hkn rfl hs _ (text_same l k n _ hl hkn rfl hs) w
        rw [e]
        cases hb : blankB ((piece l (k + 1) n).drop (l.getD k 0).toNat)
        · rw [hb] at hc; exact hc
        · rw [hb] at hc; exact hc
      · have e : takeText (some (l, k)) (n : Int) = ([], none) := by
          unfold takeText
          simp only [hf, if_true]
          unfold textAt
          have en : (n : Int).toNat = n := rfl
          rw [en, if_neg (fun x => hs x.1)]
        rw [e]
        exact refTakeText_long l k n hl (by omega) hkn (by omega) w

theorem takeNum_ok (st : Option (List UInt8 × Nat)) (hst : ROk st) (width : Int) : ROk (takeNum st width).2 := by
  match st, hst with
  | none, _ => intro l k h; cases h
  | some (l, k), h =>
    obtain ⟨hl, h1, h2⟩ := h l k rfl
    intro l' k' h'
    unfold takeNum at h'
    cases hf : fitB k (numSz width)
    · simp only [hf] at h'; cases h'
    · simp only [hf] at h'
      have hh : k ≠ 0 ∧ numSz width ≠ 0 ∧ k + numSz width ≤ 252 := of_decide_eq_true hf
      cases h'
      exact ⟨hl, by omega, by omega⟩

theorem takeText_ok (st : Option (List UInt8 × Nat)) (hst : ROk st) (room : Int) : ROk (takeText st room).2 := by
  match st, hst with
  | none, _ => intro l k h; cases h
  | some (l, k), h =>
    obtain ⟨hl, h1, h2⟩ := h l k rfl
    intro l' k' h'
    unfold takeText at h'
    cases hf : fitB k (textSz room)
    · simp only [hf] at h'; cases h'
    · simp only [hf, if_true] at h'
      have hh : k ≠ 0 ∧ textSz room ≠ 0 ∧ k + textSz room ≤ 252 := of_decide_eq_true hf
      split at h'
      · cases h'
        exact ⟨hl, by omega, by omega⟩
      · cases h'

theorem openSt_ok (l : List UInt8) (m : UInt8) (hl : l.length = 256) : ROk (openSt l m) := by
  intro l' k' h
  unfold openSt at h
  split at h
  · cases h
    exact ⟨hl, by omega, by omega⟩
  · cases h

end Go.Proofs.Ytmbmgncajfamiaa.Fld
