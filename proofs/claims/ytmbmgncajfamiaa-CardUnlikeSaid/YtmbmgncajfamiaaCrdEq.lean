/-
  Cards compared by '=='.
-/
import Derived.Test.YtmbmgncajfamiaaCrdRefMay
import Derived.Test.YtmbmgncajfamiaaCrcGood
import Derived.Laws.StructEq
import Derived.ChangeKeysEq
namespace Go.Proofs.Ytmbmgncajfamiaa.Crd
open Go.RowKit RowLaw Crc Fld
set_option maxRecDepth 100000

theorem noGuardC : Try.prog.eqGuardType Try.prog.depth 26 = false := by kernel_rfl
theorem fieldsC : Try.prog.underlying 26 = some (.struct (Try.prog.fieldsOf 26)) := by kernel_rfl
theorem fieldsAreC : ((Try.prog.fieldsOf 26).toList.map fun f => (decide (f.name ≠ "_"), f.type, f.offset)) = [(true, 9, 0), (true, 22, 1), (true, 22, 2), (true, 24, 3)] := by kernel_rfl
theorem stoodC : Try.prog.stoodInHeld 26 = false := by kernel_rfl
theorem fieldsV : Try.prog.underlying 24 = some (.struct (Try.prog.fieldsOf 24)) := by kernel_rfl
theorem fieldsAreV : ((Try.prog.fieldsOf 24).toList.map fun f => (decide (f.name ≠ "_"), f.type, f.offset)) = [(true, 22, 0), (true, 22, 1), (true, 22, 2), (true, 22, 3), (true, 22, 4), (true, 4, 5)] := by kernel_rfl
theorem stoodV : Try.prog.stoodInHeld 24 = false := by kernel_rfl

/-- a list of fields with these types and offsets -/
def FieldsAre (fs : List Field) (l : List (TypeId × Nat)) : Prop := (fs.map fun f => (decide (f.name ≠ "_"), f.type, f.offset)) = l.map fun x => (true, x.1, x.2)
theorem eqF_nil (w : World) (d : Nat) (xs ys : Array Value) (fs : List Field) (h : FieldsAre fs []) : (Op.eqFields d xs ys fs).run Try.prog w = .ok true w := by
  obtain rfl : fs = [] := by
    unfold FieldsAre at h
    simpa using h
  rw [Op.eqFields]; rfl
theorem eqF_cons (w : World) (d : Nat) (xs ys : Array Value) (fs : List Field) (t : TypeId) (o : Nat) (l : List (TypeId × Nat)) (x y : Value) (b r : Bool) (h : FieldsAre fs ((t, o) :: l)) (hx : (part t xs o).run Try.prog w = .ok x w) (hy : (part t ys o).run Try.prog w = .ok y w)
    (he : (Op.equalIn d t x y).run Try.prog w = .ok b w) (hr : ∀ gs, FieldsAre gs l → (Op.eqFields d xs ys gs).run Try.prog w = .ok r w) : (Op.eqFields d xs ys fs).run Try.prog w = .ok (b && r) w := by
  cases fs with
  | nil => unfold FieldsAre at h; simp at h
  | cons f gs =>
    unfold FieldsAre at h
    simp only [List.map_cons, List.cons.injEq, Prod.mk.injEq, decide_eq_true_eq] at h
    obtain ⟨⟨f1, f2, f3⟩, hg⟩ := h
    rw [Op.eqFields, if_pos f1, f2, f3, Sem.run_bind, hx, Result.andThen_ok, Sem.run_bind, hy, Result.andThen_ok, Sem.run_bind, he, Result.andThen_ok]
    cases b with
    | false => rw [if_pos (by simp)]; rfl
    | true => rw [if_neg (by simp), hr gs hg]; rfl

theorem part32 (w : World) (cs : Array Value) (i : Nat) (z : Int) (h : cs[i]? = some (.int .u32 z)) : (part 22 cs i).run Try.prog w = .ok (.int .u32 z) w := by
  simp [part, isAgg, run_underlying Try.underlying22, h]
theorem partB (w : World) (cs : Array Value) (i : Nat) (b : Bool) (h : cs[i]? = some (.bool b)) : (part 4 cs i).run Try.prog w = .ok (.bool b) w := by
  simp [part, isAgg, run_underlying Try.underlying4, h]
theorem partS (w : World) (cs : Array Value) (i : Nat) (s : ByteArray) (h : cs[i]? = some (.string s)) : (part 9 cs i).run Try.prog w = .ok (.string s) w := by
  simp [part, isAgg, run_underlying Try.underlying9, h]
theorem vol_extract (c : Cd) : (cells c).extract 3 9 = (volL c).toArray := by simp [cells, volL]
theorem partV (w : World) (c : Cd) : (part 24 (cells c) 3).run Try.prog w = .ok (.agg (volL c).toArray) w := by
  have he := vol_extract c
  have hs : Try.prog.cellsOf 24 = 6 := by kernel_rfl
  simp [part, isAgg, run_underlying fieldsV, he]

theorem bytes_inj {a b : ByteArray} (h : a.toList = b.toList) : a = b := by
  rw [ByteArray.toList_eq, ByteArray.toList_eq] at h
  exact ByteArray.ext (Array.toList_inj.1 h)
/-- are two cards the same? -/
def volEq (c d : Cd) : Bool := (((c.id : Int) == (d.id : Int)) && (((c.parent : Int) == (d.parent : Int)) && (((c.root : Int) == (d.root : Int)) && (((c.used : Int) == (d.used : Int)) && (((c.quota : Int) == (d.quota : Int)) && ((c.only == d.only) && true))))))
def eqB (c d : Cd) : Bool := (c.s.toList == d.s.toList) && (((c.left : Int) == (d.left : Int)) && (((c.right : Int) == (d.right : Int)) && (volEq c d && true)))
theorem eqB_iff {c d : Cd} : eqB c d = true ↔ c = d := by
  unfold eqB volEq
  simp only [Bool.and_eq_true, beq_iff_eq, Bool.and_true]
  constructor
  · rintro ⟨h0, h1, h2, h3, h4, h5, h6, h7, h8⟩
    cases c; cases d
    simp only at h0 h1 h2 h3 h4 h5 h6 h7 h8
    have hs := bytes_inj h0
    simp only [Cd.mk.injEq]
    exact ⟨hs, by omega, by omega, by omega, by omega, by omega, by omega, by omega, h8⟩
  · rintro rfl
    simp

theorem run_eqVol (w : World) (d : Nat) (c e : Cd) : (Op.equalIn (d + 1 + 1) 24 (.agg (volL c).toArray) (.agg (volL e).toArray)).run Try.prog w = .ok (volEq c e) w := by
  rw [run_equalIn_struct w (d + 1) 24 _ _ fieldsV stoodV]
  have q := fun (a b : Nat) => run_equalIn_int (P := Try.prog) w d 22 .u32 .u32 (a : Int) (b : Int) Try.underlying22
  refine eqF_cons w (d + 1) _ _ _ 22 0 [(22, 1), (22, 2), (22, 3), (22, 4), (4, 5)] _ _ _ _ fieldsAreV (part32 w _ 0 _ rfl) (part32 w _ 0 _ rfl) (q _ _) fun fs1 h1 => ?_
  refine eqF_cons w (d + 1) _ _ _ 22 1 [(22, 2), (22, 3), (22, 4), (4, 5)] _ _ _ _ h1 (part32 w _ 1 _ rfl) (part32 w _ 1 _ rfl) (q _ _) fun fs2 h2 => ?_
  refine eqF_cons w (d + 1) _ _ _ 22 2 [(22, 3), (22, 4), (4, 5)] _ _ _ _ h2 (part32 w _ 2 _ rfl) (part32 w _ 2 _ rfl) (q _ _) fun fs3 h3 => ?_
  refine eqF_cons w (d + 1) _ _ _ 22 3 [(22, 4), (4, 5)] _ _ _ _ h3 (part32 w _ 3 _ rfl) (part32 w _ 3 _ rfl) (q _ _) fun fs4 h4 => ?_
  refine eqF_cons w (d + 1) _ _ _ 22 4 [(4, 5)] _ _ _ _ h4 (part32 w _ 4 _ rfl) (part32 w _ 4 _ rfl) (q _ _) fun fs5 h5 => ?_
  exact eqF_cons w (d + 1) _ _ _ 4 5 [] _ _ _ _ h5 (partB w _ 5 _ rfl) (partB w _ 5 _ rfl) (run_equalIn_bool' w d 4 _ _ Try.underlying4) fun fs6 h6 => eqF_nil w _ _ _ fs6 h6
theorem run_eqCard (w : World) (c e : Cd) : (Op.equalIn 10000 26 (.agg (cells c)) (.agg (cells e))).run Try.prog w = .ok (eqB c e) w := by
  rw [show (10000 : Nat) = 9997 + 1 + 1 + 1 from rfl, run_equalIn_struct w (9997 + 1 + 1) 26 _ _ fieldsC stoodC]
  have q := fun (a b : Nat) => run_equalIn_int (P := Try.prog) w (9997 + 1) 22 .u32 .u32 (a : Int) (b : Int) Try.underlying22
  refine eqF_cons w (9997 + 1 + 1) _ _ _ 9 0 [(22, 1), (22, 2), (24, 3)] _ _ _ _ fieldsAreC (partS w _ 0 _ rfl) (partS w _ 0 _ rfl) (run_equalIn_string w (9997 + 1) 9 _ _ Try.underlying9) fun fs1 h1 => ?_
  refine eqF_cons w (9997 + 1 + 1) _ _ _ 22 1 [(22, 2), (24, 3)] _ _ _ _ h1 (part32 w _ 1 _ rfl) (part32 w _ 1 _ rfl) (q _ _) fun fs2 h2 => ?_
  refine eqF_cons w (9997 + 1 + 1) _ _ _ 22 2 [(24, 3)] _ _ _ _ h2 (part32 w _ 2 _ rfl) (part32 w _ 2 _ rfl) (q _ _) fun fs3 h3 => ?_
  exact eqF_cons w (9997 + 1 + 1) _ _ _ 24 3 [] _ _ _ _ h3 (partV w _) (partV w _) (run_eqVol w 9997 c e) fun fs4 h4 => eqF_nil w _ _ _ fs4 h4

end Go.Proofs.Ytmbmgncajfamiaa.Crd
