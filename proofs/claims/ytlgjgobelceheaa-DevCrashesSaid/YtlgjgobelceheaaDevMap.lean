/-
  A map of blocks in memory: what it reads as, key by key; a look-up, a store, a delete, a copy; blocks by value.
-/
import Derived.Maps.OwnSet
import Derived.Maps.AppendAt
import Derived.Test.YtlgjgobelceheaaRowLaws
namespace Go.Proofs.Ytlgjgobelceheaa.Dev
open Go.RowKit Go.Maps Go.MapKept RowLaw
open Go.ChangeMaps (setBlock heap_setBlock_same heap_setBlock_other modify_eq_set)

/-- a block's bytes as cells -/
def cellsOf (l : List UInt8) : Array Value := (l.map fun u => Value.int .u8 (u.toNat : Int)).toArray
theorem cellsOf_size (l : List UInt8) : (cellsOf l).size = l.length := by simp [cellsOf]
theorem cellsOf_get (l : List UInt8) (j : Nat) (h : j < l.length) : (cellsOf l)[j]? = some (.int .u8 (l[j].toNat : Int)) := by simp [cellsOf, h]
theorem cellsOf_one (l : List UInt8) : (cellsOf l).all (·.oneCell') = true := by
  rw [Array.all_eq_true_iff_forall_mem]
  intro v hv
  simp only [cellsOf, List.mem_toArray, List.mem_map] at hv
  obtain ⟨u, _, rfl⟩ := hv
  rfl
theorem cellsOf_set (l : List UInt8) (j : Nat) (u : UInt8) : (cellsOf l).setIfInBounds j (.int .u8 (u.toNat : Int)) = cellsOf (l.set j u) := by
  simp [cellsOf, List.map_set]
theorem cellsOf_inj {l m : List UInt8} (h : cellsOf l = cellsOf m) : l = m := by
  have h' : l.map (fun u => Value.int .u8 (u.toNat : Int)) = m.map (fun u => Value.int .u8 (u.toNat : Int)) := by simpa [cellsOf] using h
  exact List.map_inj_right (fun a b hab => by injection hab with _ hab; exact UInt8.toNat_inj.1 (by exact_mod_cast hab)) |>.1 h'

def zeros : List UInt8 := List.replicate 256 0
theorem zeros_length : zeros.length = 256 := List.length_replicate

def upd (g : Nat → List UInt8) (a : Nat) (l : List UInt8) : Nat → List UInt8 := fun x => if x = a then l else g x

/-- BLOCK b OF w IS A MAP THAT HOLDS THE BLOCKS g; a key that isn't there has a zero block. -/
def MapIs (w : World) (b : Nat) (g : Nat → List UInt8) : Prop :=
  ∃ es clock, w.heap[b]? = some (.map es clock) ∧ Stamped es clock ∧
    (∀ x ∈ es.toList, ∃ a : Nat, a < 4294967296 ∧ x.key = .int .u32 (a : Int) ∧ x.val = .agg (cellsOf (g a))) ∧
    (∀ a : Nat, a < 4294967296 → g a ≠ zeros → ∃ x ∈ es.toList, x.key = .int .u32 (a : Int))

section
variable {P : Program} {w : World} {b : Nat} {g : Nat → List UInt8} {k e t : TypeId}

theorem wfU32 {a : Nat} (ha : a < 4294967296) : (Lit.int .u32 (a : Int)).wf = true := by
  simp [Lit.wf, IntKind.min, IntKind.max, IntKind.signed, IntKind.bits]; omega

theorem MapIs.lt (h : MapIs w b g) : b < w.heap.size := by
  obtain ⟨es, clock, hb, _⟩ := h
  exact (Array.getElem?_eq_some_iff.1 hb).1
theorem MapIs.made (w : World) : MapIs (w.alloc (.map #[] 0)) w.heap.size (fun _ => zeros) :=
  ⟨#[], 0, (MapKept.heap_alloc w _).1, stamped_empty 0, by simp, fun _ _ h => absurd rfl h⟩
theorem MapIs.kept {w' : World} (h : MapIs w b g) (hb : w'.heap[b]? = w.heap[b]?) : MapIs w' b g := by
  obtain ⟨es, clock, h1, h2⟩ := h
  exact ⟨es, clock, hb.trans h1, h2⟩

theorem MapIs.look (hk : P.underlying k = some (.int .u32)) (ht : P.underlying t = some (.map k e)) (hz : (zeroValue e).run P w = .ok (.agg (cellsOf zeros)) w) (h : MapIs w b g) {a : Nat} (ha : a < 4294967296) :
    (Instr.lookup t (.map (some b)) (.int .u32 (a : Int)) false).run P w = .ok (.agg (cellsOf (g a))) w := by
  obtain ⟨es, clock, hb, hs, hr, hc⟩ := h
  have K := int_keyed hk
  have hkey : keyOf P k (.int .u32 (a : Int)) = some (.int .u32 a) := keyOf_int_mk hk (wfU32 ha)
  have hks : ∀ x ∈ es.toList, ∃ l, keyOf P k x.key = some l := fun x hx => by
    obtain ⟨a', ha', he, _⟩ := hr x hx
    exact ⟨_, by rw [he]; exact keyOf_int_mk hk (wfU32 ha')⟩
  rcases K.find w hkey es.toList hks with ⟨h1, h2⟩ | ⟨j, e0, h1, h2, h3⟩
  · have hg : g a = zeros := by
      apply Decidable.byContradiction
      intro hne
      obtain ⟨x, hx, he⟩ := hc a ha hne
      exact h2 x hx he
    rw [hg]
    simp [Instr.lookup, run_underlying ht, MapKept.run_getObj_map hb, K.check w _ hkey, h1, hz, Result.andThen]
  · obtain ⟨a', ha', he, hv⟩ := hr e0 (List.mem_of_getElem? h2)
    have haa : a' = a := by rw [he] at h3; injection h3 with _ h3; omega
    subst haa
    simp [Instr.lookup, run_underlying ht, MapKept.run_getObj_map hb, K.check w _ hkey, h1, hv, Result.andThen]

theorem apart_of {es : Array MapEntry} {clock : Nat} (hs : Stamped es clock) {i j : Nat} {x y : MapEntry} (hi : es.toList[i]? = some x) (hj : es.toList[j]? = some y) (hne : i ≠ j) : x.key ≠ y.key := by
  have hp := ((stamped_iff es clock).1 hs).2.2
  obtain ⟨hi', rfl⟩ := List.getElem?_eq_some_iff.1 hi
  obtain ⟨hj', rfl⟩ := List.getElem?_eq_some_iff.1 hj
  rcases Nat.lt_or_gt_of_ne hne with h | h
  · exact List.pairwise_iff_getElem.1 hp i j hi' hj' h
  · exact fun he => List.pairwise_iff_getElem.1 hp j i hj' hi' h he.symm

theorem grown_setBlock {es : Array MapEntry} {clock : Nat} (hb : w.heap[b]? = some (.map es clock)) (o : Obj) : w.grownBy (setBlock w b o) (some b) :=
  ⟨rfl, rfl, rfl, by simp [setBlock], fun i _ hi => heap_setBlock_other hb _ (fun e => hi (by rw [e]))⟩

theorem MapIs.store (hk : P.underlying k = some (.int .u32)) (ht : P.underlying t = some (.map k e)) (h : MapIs w b g) {a : Nat} (ha : a < 4294967296) (l : List UInt8) :
    ∃ w', (Instr.mapUpdate t (.map (some b)) (.int .u32 (a : Int)) (.agg (cellsOf l))).run P w = .ok () w' ∧ MapIs w' b (upd g a l) ∧ w.grownBy w' (some b) := by
  obtain ⟨es, clock, hb, hs, hr, hc⟩ := h
  have K := int_keyed hk
  have hkey : keyOf P k (.int .u32 (a : Int)) = some (.int .u32 a) := keyOf_int_mk hk (wfU32 ha)
  have hks : ∀ x ∈ es.toList, ∃ l, keyOf P k x.key = some l := fun x hx => by
    obtain ⟨a', ha', he, _⟩ := hr x hx
    exact ⟨_, by rw [he]; exact keyOf_int_mk hk (wfU32 ha')⟩
  have old : ∀ x ∈ es.toList, x.key ≠ .int .u32 (a : Int) → ∃ a' : Nat, a' < 4294967296 ∧ x.key = .int .u32 (a' : Int) ∧ x.val = .agg (cellsOf (upd g a l a')) := fun x hx hne => by
    obtain ⟨a', ha', he, hv⟩ := hr x hx
    refine ⟨a', ha', he, ?_⟩
    rw [hv, show upd g a l a' = g a' from if_neg (fun h => hne (by rw [he, h]))]
  rcases K.find w hkey es.toList hks with ⟨h1, h2⟩ | ⟨j, e0, h1, h2, h3⟩
  · refine ⟨setBlock w b (.map (es.push ⟨.int .u32 (a : Int), .agg (cellsOf l), clock⟩) (clock + 1)), ?_, ⟨_, _, heap_setBlock_same hb _, stamped_push hs h2, ?_, ?_⟩, grown_setBlock hb _⟩
    · simp [Instr.mapUpdate, run_underlying ht, MapKept.run_getObj_map hb, K.check w false hkey, h1, MapKept.run_setObj_map _ hb, Result.andThen, setBlock]
    · intro x hx
      simp only [Array.toList_push, List.mem_append, List.mem_singleton] at hx
      rcases hx with hx | rfl
      · exact old x hx (h2 x hx)
      · exact ⟨a, ha, rfl, by rw [show upd g a l a = l from if_pos rfl]⟩
    · intro a' ha' hne
      simp only [Array.toList_push, List.mem_append, List.mem_singleton]
      by_cases haa : a' = a
      · subst haa
        exact ⟨_, .inr rfl, rfl⟩
      · rw [show upd g a l a' = g a' from if_neg haa] at hne
        obtain ⟨x, hx, he⟩ := hc a' ha' hne
        exact ⟨x, .inl hx, he⟩
  · have hj : es[j]? = some e0 := by simpa using h2
    have hkeyf : ∀ e', es[j]? = some e' → ({ e' with key := .int .u32 (a : Int), val := .agg (cellsOf l) } : MapEntry).key = e'.key := fun e' he' => by rw [hj] at he'; cases he'; exact h3.symm
    have hlist : (es.modify j (fun e' => { e' with key := .int .u32 (a : Int), val := .agg (cellsOf l) })).toList = es.toList.set j { e0 with key := .int .u32 (a : Int), val := .agg (cellsOf l) } := by rw [Array.toList_modify, modify_eq_set _ _ _ _ h2]
    refine ⟨setBlock w b (.map (es.modify j (fun e' => { e' with key := .int .u32 (a : Int), val := .agg (cellsOf l) })) clock), ?_, ⟨_, _, heap_setBlock_same hb _, stamped_modify hs _ _ (fun _ _ => rfl) (fun e' _ he' => hkeyf e' he'), ?_, ?_⟩, grown_setBlock hb _⟩
    · simp [Instr.mapUpdate, run_underlying ht, MapKept.run_getObj_map hb, K.check w false hkey, h1, hj, h3, K.stays w hkey, MapKept.run_setObj_map _ hb, Result.andThen, setBlock]
    · intro x hx
      rw [hlist] at hx
      obtain ⟨i, hi, ex⟩ := List.getElem_of_mem hx
      have hi' : i < es.toList.length := by simpa using hi
      rw [List.getElem_set] at ex
      split at ex
      · subst ex
        exact ⟨a, ha, rfl, by rw [show upd g a l a = l from if_pos rfl]⟩
      · rename_i hne
        subst ex
        exact old _ (List.getElem_mem hi') (fun he => apart_of hs (List.getElem?_eq_getElem hi') h2 (fun e => hne e.symm) (he.trans h3.symm))
    · intro a' ha' hne
      rw [hlist]
      have hjl : j < es.toList.length := (List.getElem?_eq_some_iff.1 h2).1
      by_cases haa : a' = a
      · subst haa
        exact ⟨{ e0 with key := .int .u32 (a' : Int), val := .agg (cellsOf l) }, List.mem_iff_getElem.2 ⟨j, by simpa using hjl, by simp⟩, rfl⟩
      · rw [show upd g a l a' = g a' from if_neg haa] at hne
        obtain ⟨x, hx, he⟩ := hc a' ha' hne
        obtain ⟨i, hi, ex⟩ := List.getElem_of_mem hx
        have hij : i ≠ j := by
          intro h
          subst h
          rw [List.getElem?_eq_getElem hi, ex] at h2
          cases h2
          rw [he] at h3
          injection h3 with _ h3
          omega
        exact ⟨x, List.mem_iff_getElem.2 ⟨i, by simpa using hi, by rw [List.getElem_set_ne (fun e => hij e.symm)]; exact ex⟩, he⟩

theorem MapIs.drop (hk : P.underlying k = some (.int .u32)) (ht : P.underlying t = some (.map k e)) (ty : TypeId) (h : MapIs w b g) {a : Nat} (ha : a < 4294967296) :
    ∃ w', (Builtin.delete_ #[t, k] ty #[.map (some b), .int .u32 (a : Int)]).run P w = .ok (.tuple #[]) w' ∧ MapIs w' b (upd g a zeros) ∧ w.grownBy w' (some b) := by
  obtain ⟨es, clock, hb, hs, hr, hc⟩ := h
  have K := int_keyed hk
  have hkey : keyOf P k (.int .u32 (a : Int)) = some (.int .u32 a) := keyOf_int_mk hk (wfU32 ha)
  have hks : ∀ x ∈ es.toList, ∃ l, keyOf P k x.key = some l := fun x hx => by
    obtain ⟨a', ha', he, _⟩ := hr x hx
    exact ⟨_, by rw [he]; exact keyOf_int_mk hk (wfU32 ha')⟩
  have old : ∀ x ∈ es.toList, x.key ≠ .int .u32 (a : Int) → ∃ a' : Nat, a' < 4294967296 ∧ x.key = .int .u32 (a' : Int) ∧ x.val = .agg (cellsOf (upd g a zeros a')) := fun x hx hne => by
    obtain ⟨a', ha', he, hv⟩ := hr x hx
    refine ⟨a', ha', he, ?_⟩
    rw [hv, show upd g a zeros a' = g a' from if_neg (fun h => hne (by rw [he, h]))]
  rcases K.find w hkey es.toList hks with ⟨h1, h2⟩ | ⟨j, e0, h1, h2, h3⟩
  · refine ⟨setBlock w b (.map es clock), ?_, ⟨_, _, heap_setBlock_same hb _, hs, fun x hx => old x hx (h2 x hx), ?_⟩, grown_setBlock hb _⟩
    · simp [Builtin.delete_, run_underlying ht, MapKept.run_getObj_map hb, K.check w _ hkey, h1, MapKept.run_setObj_map _ hb, Result.andThen, setBlock]
    · intro a' ha' hne
      by_cases haa : a' = a
      · exact absurd (if_pos haa) hne
      · rw [show upd g a zeros a' = g a' from if_neg haa] at hne
        exact hc a' ha' hne
  · have hjl : j < es.toList.length := (List.getElem?_eq_some_iff.1 h2).1
    have hjs : j < es.size := by simpa using hjl
    have hsub : (es.eraseIdxIfInBounds j).toList = es.toList.eraseIdx j := by
      unfold Array.eraseIdxIfInBounds
      rw [dif_pos hjs]
      simp
    refine ⟨setBlock w b (.map (es.eraseIdxIfInBounds j) clock), ?_, ⟨_, _, heap_setBlock_same hb _, stamped_erase hs j, ?_, ?_⟩, grown_setBlock hb _⟩
    · simp [Builtin.delete_, run_underlying ht, MapKept.run_getObj_map hb, K.check w _ hkey, h1, MapKept.run_setObj_map _ hb, Result.andThen, setBlock]
    · intro x hx
      rw [hsub] at hx
      obtain ⟨i, hne, hi⟩ := List.mem_eraseIdx_iff_getElem?.1 hx
      exact old x (List.mem_of_getElem? hi) (by rw [← h3]; exact apart_of hs hi h2 hne)
    · intro a' ha' hne
      by_cases haa : a' = a
      · exact absurd (if_pos haa) hne
      · rw [show upd g a zeros a' = g a' from if_neg haa] at hne
        obtain ⟨x, hx, he⟩ := hc a' ha' hne
        obtain ⟨i, hi⟩ := List.getElem?_of_mem hx
        have hij : i ≠ j := by
          intro h
          subst h
          rw [hi] at h2
          cases h2
          rw [he] at h3
          injection h3 with _ h3
          omega
        exact ⟨x, by rw [hsub]; exact List.mem_eraseIdx_iff_getElem?.2 ⟨i, hij, hi⟩, he⟩

theorem MapIs.clone (h : MapIs w b g) (t : TypeId) :
    ∃ w', (Extern.MapsClone.clone #[.iface t (.map (some b))]).run P w = .ok (.iface t (.map (some w.heap.size))) w' ∧ MapIs w' w.heap.size g ∧ w.grownBy w' none ∧ w'.heap.size = w.heap.size + 1 := by
  obtain ⟨es, clock, hb, h2⟩ := h
  have e : Extern.MapsClone.clone #[.iface t (.map (some b))] = (getObj b >>= fun o => match o with
      | .map entries clock => (newObj (.map entries clock) >>= fun n => pure (.iface t (.map (some n))))
      | _ => stuck "maps.clone: a map expected") := rfl
  refine ⟨w.alloc (.map es clock), ?_, ⟨es, clock, (MapKept.heap_alloc w _).1, h2⟩, World.grownBy_alloc w _ _, by simp⟩
  rw [e]
  simp [MapKept.run_getObj_map hb, Result.andThen]

end

/-! At the operation, for the walk. -/
section
variable {P : Program} {w : World} {b : Nat} {g : Nat → List UInt8} {k e t : TypeId} {ops : Array Oper} {rest : List Oper} {o : Oper} {ac : Act} {Q : Exit → Act → World → Prop}

theorem wpList_look (hg : o.guard = none) (m x : Operand) (hop : o.op = Op.lookup t m x false) (hk : P.underlying k = some (.int .u32)) (ht : P.underlying t = some (.map k e)) (hz : (zeroValue e).run P w = .ok (.agg (cellsOf zeros)) w)
    (h : MapIs w b g) {a : Nat} (ha : a < 4294967296) (hm : ac.eval m = .map (some b)) (hx : ac.eval x = .int .u32 (a : Int)) (hK : wpList P ops Q rest (ac.put o.dst (.agg (cellsOf (g a)))) w) : wpList P ops Q (o :: rest) ac w := by
  refine wpList_plain hg fun K' hK' => ?_
  have hrun := h.look hk ht hz ha
  unfold Oper.wp
  simp [execOp, hop, hm, hx, hrun, Result.andThen]
  exact hK' _ _ hK

theorem wpList_put (hg : o.guard = none) (m x v : Operand) (hop : o.op = Op.mapUpdate t m x v) (hk : P.underlying k = some (.int .u32)) (ht : P.underlying t = some (.map k e))
    (h : MapIs w b g) {a : Nat} (ha : a < 4294967296) {l : List UInt8} (hm : ac.eval m = .map (some b)) (hx : ac.eval x = .int .u32 (a : Int)) (hv : ac.eval v = .agg (cellsOf l))
    (hK : ∀ w', MapIs w' b (upd g a l) → w.grownBy w' (some b) → wpList P ops Q rest (ac.put o.dst undef) w') : wpList P ops Q (o :: rest) ac w := by
  refine wpList_plain hg fun K' hK' => ?_
  obtain ⟨w', hrun, r1, r2⟩ := h.store hk ht ha l
  unfold Oper.wp
  simp [execOp, hop, hm, hx, hv, hrun, Result.andThen]
  exact hK' _ _ (hK w' r1 r2)

theorem wpList_drop (hg : o.guard = none) (m x : Operand) (hop : o.op = Op.call { callee := Callee.builtin Builtin.delete, args := #[m, x], argTypes := #[t, k] }) (hk : P.underlying k = some (.int .u32)) (ht : P.underlying t = some (.map k e))
    (h : MapIs w b g) {a : Nat} (ha : a < 4294967296) (hm : ac.eval m = .map (some b)) (hx : ac.eval x = .int .u32 (a : Int))
    (hK : ∀ w', MapIs w' b (upd g a zeros) → w.grownBy w' (some b) → wpList P ops Q rest (ac.put o.dst (.tuple #[])) w') : wpList P ops Q (o :: rest) ac w := by
  refine wpList_plain hg fun K' hK' => ?_
  obtain ⟨w', hrun, r1, r2⟩ := h.drop hk ht o.type ha
  unfold Oper.wp
  simp [execOp, hop, resolve, invoke, builtin, hm, hx, hrun, Result.andThen]
  exact hK' _ _ (hK w' r1 r2)

end

end Go.Proofs.Ytlgjgobelceheaa.Dev
