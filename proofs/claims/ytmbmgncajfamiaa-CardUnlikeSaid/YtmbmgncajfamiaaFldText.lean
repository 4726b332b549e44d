/-
  The walks of the writer's Text and Num.
-/
import Derived.Test.YtmbmgncajfamiaaFldAdd
import Derived.Laws.IdiomCopy
namespace Go.Proofs.Ytmbmgncajfamiaa.Fld
open Go.RowKit RowLaw Crc
set_option maxRecDepth 100000

/-- bytes as cells -/
def vals (l : List UInt8) : List Value := l.map fun u => Value.int .u8 (u.toNat : Int)
theorem vals_one (l : List UInt8) : ∀ v ∈ vals l, v.oneCell' = true := by
  intro v hv
  simp only [vals, List.mem_map] at hv
  obtain ⟨u, _, rfl⟩ := hv
  rfl

/-- 'copy(dst, s)' of a string that fits -/
theorem wpList_copy_str {P : Program} {w : World} {ops : Array Oper} {rest : List Oper} {o : Oper} {a : Act} {Q : Exit → Act → World → Prop} (hgd : o.guard = none) (d s : Operand) (dT sT : TypeId)
    (ho : o.op = .call { callee := .builtin .copy, args := #[d, s], argTypes := #[dT, sT] }) (elem : TypeId) (hu : P.underlying dT = some (.slice elem)) (hsz : (P.info? elem).map (·.size) = some 1)
    (g off dLen dCap : Nat) (str : ByteArray) (hd : a.eval d = .slice (some ⟨g, off, none⟩) dLen dCap) (hs : a.eval s = .string str) (hle : str.size ≤ dLen)
    (hc : ∀ j, j < str.size → (w.cell? ⟨g, off + j, none⟩).isSome = true) (hf : ∀ j, j < str.size → w.frozen? ⟨g, off + j, none⟩ = false)
    (h : wpList P ops Q rest (a.put o.dst (goInt str.size)) (w.setCells g off (vals str.data.toList))) : wpList P ops Q (o :: rest) a w := by
  refine wpList_plain hgd fun K hK => ?_
  have hlen : (vals str.data.toList).length = str.size := by simp [vals]
  have hst := run_storeCells_cells (P := P) g off (vals str.data.toList) 0 w (by rw [hlen]; simpa using hc) (by rw [hlen]; simpa using hf) (vals_one _)
  have hmin : Nat.min str.size dLen = str.size := Nat.min_eq_left hle
  have htk : List.take str.size (List.map (fun b => Value.int .u8 (b.toNat : Int)) str.data.toList) = vals str.data.toList := List.take_of_length_le (by simp)
  have hrun : (Builtin.copy_ #[dT, sT] o.type #[.slice (some ⟨g, off, none⟩) dLen dCap, .string str]).run P w = .ok (goInt str.size) (w.setCells g off (vals str.data.toList)) := by
    cases hq : P.info? elem with
    | none => simp [hq] at hsz
    | some i =>
      have hi : i.size = 1 := by simpa [hq] using hsz
      rw [Nat.add_zero] at hst
      simp [Builtin.copy_, run_underlying hu, Builtin.lenOf, Builtin.firstCells, sizeOf, typeInfo, hq, hmin, htk, hst]
  unfold Oper.wp
  simp [execOp, ho, resolve, invoke, builtin, hd, hs, hrun, Result.andThen]
  exact hK _ _ h

theorem lay_cons (l : List UInt8) (o : Nat) (u : UInt8) (r : List UInt8) (h : o < l.length) : lay (l.set o u) (o + 1) r = lay l o (u :: r) := by
  unfold lay
  rw [List.take_set, List.take_succ_eq_append_getElem h, List.set_append_right _ _ (by simp; omega), List.drop_set_of_lt (by omega)]
  simp [Nat.min_eq_left (Nat.le_of_lt h), show o + 1 + r.length = o + (r.length + 1) from by omega]

theorem IsObj.setCells {T : TypeId} {p k : Nat} : ∀ (bs : List UInt8) {w : World} {l : List UInt8} (o : Nat), IsObj T w p l k → o + bs.length ≤ l.length → IsObj T (w.setCells p o (vals bs)) p (lay l o bs) k
  | [], w, l, o, h, _ => by rw [lay_nil]; exact h
  | u :: r, w, l, o, h, hle => by
    have hlt : o < l.length := by simp at hle; omega
    rw [← lay_cons l o u r hlt]
    exact IsObj.setCells r (o + 1) (h.setByte o u hlt) (by simp at hle ⊢; omega)
theorem Apart.setCells {p : Nat} : ∀ (vs : List Value) {a w : World} (o : Nat), Apart p a w → Apart p a (w.setCells p o vs)
  | [], _, _, _, h => h
  | v :: r, _, _, o, h => Apart.setCells r (o + 1) (h.set_ o v)

theorem info8 : (Try.prog.info? 5).map (·.size) = some 1 := by kernel_rfl

set_option maxHeartbeats 400000 in
theorem text1_no (p off m c : Nat) (s : ByteArray) (room : Int) (q r : Addr) (hlong : room < s.size) (w : World) (hq : w.cell? q = some (.string s)) (hr : w.cell? r = some (.int .i64 room)) :
    Calls Try.prog 42 #[.slice (some ⟨p, off, none⟩) m c, .pointer (some q), .pointer (some r)] w fun e w' => e = .returned (.bool false) ∧ w = w' := by
  go_enter Try.func42, Try.ntmps42
  go_wp2
  go_ret
  exact ⟨rfl, rfl⟩

set_option maxHeartbeats 800000 in
theorem text1_yes (T : TypeId) (p off m c k : Nat) (l : List UInt8) (s : ByteArray) (room : Nat) (q r : Addr) (hl : l.length = 256) (hm : m = 1 + room) (hroom : room ≤ 200) (hoff : off + m ≤ 252) (hc : m < c) (hs : s.size ≤ room) (w : World) (hw : IsObj T w p l k) (hqp : q.block ≠ p) (hq : w.cell? q = some (.string s)) (hr : w.cell? r = some (.int .i64 (room : Int))) :
    Calls Try.prog 42 #[.slice (some ⟨p, off, none⟩) m c, .pointer (some q), .pointer (some r)] w fun e w' => e = .returned (.bool true) ∧ IsObj T w' p (lay l off (UInt8.ofNat s.size :: s.data.toList)) k ∧ Apart p w w' := by
  obtain ⟨v0, c1⟩ : ∃ v, w.cell? ⟨p, off, none⟩ = some v := ⟨_, hw.byte off (by omega)⟩
  have f1 := hw.frozen off
  have c2 : ¬ c = 1 := by omega
  have c3 : 1 ≤ m := by omega
  have c4 : m ≤ c := by omega
  have c5 : 0 < m := by omega
  have c6 : (1 : Int) ≤ (m : Int) := by omega
  have hm' := Lib.hid hm; clear hm
  go_enter Try.func42, Try.ntmps42
  go_wp2
  have ho := hw.setByte off (UInt8.ofNat s.size) (by omega)
  have hsn : ((UInt8.ofNat s.size).toNat : Int) = (s.size : Int) := by rw [UInt8.toNat_ofNat']; omega
  rw [hsn] at ho
  have ha : Apart p w (w.setCell ⟨p, off, none⟩ (.int .u8 (s.size : Int))) := (Apart.refl _ _).set_ _ _
  have hq1 : (w.setCell ⟨p, off, none⟩ (.int .u8 (s.size : Int))).cell? q = some (.string s) := (World.cell?_setCell_other _ _ _ _ (by intro e; apply hqp; rw [← e])).trans hq
  clear hq hr c1 f1
  generalize w.setCell ⟨p, off, none⟩ (.int .u8 (s.size : Int)) = W1 at ho ha hq1 ⊢
  refine wp_region_still_tail 3 (by kernel_rfl) (by kernel_rfl) ?_
  simp only [List.take_succ_cons, List.take_zero, List.drop_succ_cons, List.drop_zero]
  repeat still_step
  refine wpStill_nil ?_
  change wpList _ _ _ _ _ W1.drew
  replace ha := ha.drew
  replace ho : IsObj T W1.drew p (l.set off (UInt8.ofNat s.size)) k := ho
  clear hq1
  generalize W1.drew = W2 at ho ha ⊢
  have hll : (l.set off (UInt8.ofNat s.size)).length = 256 := by rw [List.length_set, hl]
  have hm1 := hm'.out
  refine wpList_copy_str rfl _ _ 50 9 rfl 5 Try.underlying50 info8 p (off + 1) (m - 1) (c - 1) s rfl rfl (by omega) (fun j hj => by rw [ho.byte (off + 1 + j) (by omega)]; rfl) (fun j _ => ho.frozen _) ?_
  have ho2 := ho.setCells s.data.toList (off + 1) (by rw [hll, Array.length_toList]; show off + 1 + s.size ≤ 256; omega)
  have ha2 := ha.setCells (vals s.data.toList) (off + 1)
  rw [lay_cons l off _ _ (by omega)] at ho2
  generalize W2.setCells p (off + 1) (vals s.data.toList) = W3 at ho2 ha2 ⊢
  clear hm1 hsn hll ho
  go_wp2
  go_ret
  exact ⟨rfl, ho2, ha2⟩

end Go.Proofs.Ytmbmgncajfamiaa.Fld
