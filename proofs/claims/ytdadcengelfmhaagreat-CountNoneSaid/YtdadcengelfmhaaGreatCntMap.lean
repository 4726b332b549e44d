/-
  A map of pointers in memory, by numbers: what it reads as, key by key; a look-up, a store.
-/
import Derived.Test.YtdadcengelfmhaaGreatDev1
namespace Go.Proofs.YtdadcengelfmhaaGreat.Cnt
open Go.RowKit Go.Maps Go.MapKept RowLaw
open Go.ChangeMaps (setBlock heap_setBlock_same heap_setBlock_other modify_eq_set)
open Go.Proofs.YtdadcengelfmhaaGreat.Dev (wfU32 apart_of grown_setBlock Turn)
set_option maxRecDepth 100000

def setP (f : Nat → Option Nat) (a q : Nat) : Nat → Option Nat := fun x => if x = a then some q else f x
theorem setP_self (f : Nat → Option Nat) (a q : Nat) : setP f a q a = some q := if_pos rfl
theorem setP_other {f : Nat → Option Nat} {a q x : Nat} (h : x ≠ a) : setP f a q x = f x := if_neg h
/-- a pointer to a block, or none -/
def pv : Option Nat → Value
  | none => .pointer none
  | some q => .pointer (some ⟨q, 0, none⟩)

/-- BLOCK b OF w IS A MAP THAT HOLDS POINTERS TO THE BLOCKS f. -/
def PMap (w : World) (b : Nat) (f : Nat → Option Nat) : Prop :=
  ∃ es clock, w.heap[b]? = some (.map es clock) ∧ Stamped es clock ∧
    (∀ x ∈ es.toList, ∃ a q : Nat, a < 4294967296 ∧ x.key = .int .u32 (a : Int) ∧ f a = some q ∧ x.val = pv (some q)) ∧
    (∀ a q : Nat, f a = some q → ∃ x ∈ es.toList, x.key = .int .u32 (a : Int))

section
variable {P : Program} {w : World} {b : Nat} {f : Nat → Option Nat} {k e t : TypeId}
theorem PMap.lt (h : PMap w b f) : b < w.heap.size := by
  obtain ⟨es, clock, hb, _⟩ := h
  exact (Array.getElem?_eq_some_iff.1 hb).1
theorem PMap.made (w : World) : PMap (w.alloc (.map #[] 0)) w.heap.size (fun _ => none) :=
  ⟨#[], 0, (MapKept.heap_alloc w _).1, stamped_empty 0, by simp, fun _ _ h => by cases h⟩
theorem PMap.kept {w' : World} (h : PMap w b f) (hb : w'.heap[b]? = w.heap[b]?) : PMap w' b f := by
  obtain ⟨es, clock, h1, h2⟩ := h
  exact ⟨es, clock, hb.trans h1, h2⟩
theorem PMap.turn {w' : World} {B : List Nat} (h : PMap w b f) (ht : Turn B w w') (hb : b ∉ B) : PMap w' b f := h.kept (ht.block b h.lt hb)
theorem PMap.key_lt (h : PMap w b f) {a q : Nat} (hf : f a = some q) : a < 4294967296 := by
  obtain ⟨es, clock, _, _, hr, hc⟩ := h
  obtain ⟨x, hx, he⟩ := hc a q hf
  obtain ⟨a', _, ha', he', _⟩ := hr x hx
  rw [he] at he'
  injection he' with _ he'
  omega
/-- a map is no row of cells -/
theorem PMap.notCells (h : PMap w b f) {cs : Array Value} {T : TypeId} {fr : Nat × Nat} (hq : w.heap[b]? = some (.cells cs T fr)) : False := by
  obtain ⟨es, clock, h1, _⟩ := h
  rw [h1] at hq
  cases hq

theorem PMap.look (hk : P.underlying k = some (.int .u32)) (ht : P.underlying t = some (.map k e)) (hz : (zeroValue e).run P w = .ok (.pointer none) w) (h : PMap w b f) {a : Nat} (ha : a < 4294967296) :
    (Instr.lookup t (.map (some b)) (.int .u32 (a : Int)) false).run P w = .ok (pv (f a)) w := by
  obtain ⟨es, clock, hb, hs, hr, hc⟩ := h
  have K := int_keyed hk
  have hkey : keyOf P k (.int .u32 (a : Int)) = some (.int .u32 a) := keyOf_int_mk hk (wfU32 ha)
  have hks : ∀ x ∈ es.toList, ∃ l, keyOf P k x.key = some l := fun x hx => by
    obtain ⟨a', _, ha', he, _⟩ := hr x hx
    exact ⟨_, by rw [he]; exact keyOf_int_mk hk (wfU32 ha')⟩
  rcases K.find w hkey es.toList hks with ⟨h1, h2⟩ | ⟨j, e0, h1, h2, h3⟩
  · have hg : f a = none := by
      cases hf : f a with
      | none => rfl
      | some q =>
        obtain ⟨x, hx, he⟩ := hc a q hf
        exact absurd he (h2 x hx)
    rw [hg]
    simp [Instr.lookup, run_underlying ht, MapKept.run_getObj_map hb, K.check w _ hkey, h1, hz, Result.andThen, pv]
  · obtain ⟨a', q, ha', he, hf, hv⟩ := hr e0 (List.mem_of_getElem? h2)
    have haa : a' = a := by rw [he] at h3; injection h3 with _ h3; omega
    subst haa
    rw [hf]
    simp [Instr.lookup, run_underlying ht, MapKept.run_getObj_map hb, K.check w _ hkey, h1, hv, Result.andThen]

theorem PMap.store (hk : P.underlying k = some (.int .u32)) (ht : P.underlying t = some (.map k e)) (h : PMap w b f) {a : Nat} (ha : a < 4294967296) (q : Nat) :
    ∃ w', (Instr.mapUpdate t (.map (some b)) (.int .u32 (a : Int)) (pv (some q))).run P w = .ok () w' ∧ PMap w' b (setP f a q) ∧ w.grownBy w' (some b) ∧ w'.heap.size = w.heap.size := by
  obtain ⟨es, clock, hb, hs, hr, hc⟩ := h
  have K := int_keyed hk
  have hkey : keyOf P k (.int .u32 (a : Int)) = some (.int .u32 a) := keyOf_int_mk hk (wfU32 ha)
  have hks : ∀ x ∈ es.toList, ∃ l, keyOf P k x.key = some l := fun x hx => by
    obtain ⟨a', _, ha', he, _⟩ := hr x hx
    exact ⟨_, by rw [he]; exact keyOf_int_mk hk (wfU32 ha')⟩
  have old : ∀ x ∈ es.toList, x.key ≠ .int .u32 (a : Int) → ∃ a' q' : Nat, a' < 4294967296 ∧ x.key = .int .u32 (a' : Int) ∧ setP f a q a' = some q' ∧ x.val = pv (some q') := fun x hx hne => by
    obtain ⟨a', q', ha', he, hf, hv⟩ := hr x hx
    exact ⟨a', q', ha', he, by rw [setP_other (fun h => hne (by rw [he, h]))]; exact hf, hv⟩
  rcases K.find w hkey es.toList hks with ⟨h1, h2⟩ | ⟨j, e0, h1, h2, h3⟩
  · refine ⟨setBlock w b (.map (es.push ⟨.int .u32 (a : Int), pv (some q), clock⟩) (clock + 1)), ?_, ⟨_, _, heap_setBlock_same hb _, stamped_push hs h2, ?_, ?_⟩, grown_setBlock hb _, by simp [setBlock]⟩
    · simp [Instr.mapUpdate, run_underlying ht, MapKept.run_getObj_map hb, K.check w false hkey, h1, MapKept.run_setObj_map _ hb, Result.andThen, setBlock]
    · intro x hx
      simp only [Array.toList_push, List.mem_append, List.mem_singleton] at hx
      rcases hx with hx | rfl
      · exact old x hx (h2 x hx)
      · exact ⟨a, q, ha, rfl, setP_self _ _ _, rfl⟩
    · intro a' q' hf
      simp only [Array.toList_push, List.mem_append, List.mem_singleton]
      by_cases haa : a' = a
      · subst haa
        exact ⟨_, .inr rfl, rfl⟩
      · rw [setP_other haa] at hf
        obtain ⟨x, hx, he⟩ := hc a' q' hf
        exact ⟨x, .inl hx, he⟩
  · have hj : es[j]? = some e0 := by simpa using h2
    have hkeyf : ∀ e', es[j]? = some e' → ({ e' with key := .int .u32 (a : Int), val := pv (some q) } : MapEntry).key = e'.key := fun e' he' => by rw [hj] at he'; cases he'; exact h3.symm
    have hlist : (es.modify j (fun e' => { e' with key := .int .u32 (a : Int), val := pv (some q) })).toList = es.toList.set j { e0 with key := .int .u32 (a : Int), val := pv (some q) } := by rw [Array.toList_modify, modify_eq_set _ _ _ _ h2]
    refine ⟨setBlock w b (.map (es.modify j (fun e' => { e' with key := .int .u32 (a : Int), val := pv (some q) })) clock), ?_, ⟨_, _, heap_setBlock_same hb _, stamped_modify hs _ _ (fun _ _ => rfl) (fun e' _ he' => hkeyf e' he'), ?_, ?_⟩, grown_setBlock hb _, by simp [setBlock]⟩
    · simp [Instr.mapUpdate, run_underlying ht, MapKept.run_getObj_map hb, K.check w false hkey, h1, hj, h3, K.stays w hkey, MapKept.run_setObj_map _ hb, Result.andThen, setBlock]
    · intro x hx
      rw [hlist] at hx
      obtain ⟨i, hi, ex⟩ := List.getElem_of_mem hx
      have hi' : i < es.toList.length := by simpa using hi
      rw [List.getElem_set] at ex
      split at ex
      · subst ex
        exact ⟨a, q, ha, rfl, setP_self _ _ _, rfl⟩
      · rename_i hne
        subst ex
        exact old _ (List.getElem_mem hi') (fun he => apart_of hs (List.getElem?_eq_getElem hi') h2 (fun e => hne e.symm) (he.trans h3.symm))
    · intro a' q' hf
      rw [hlist]
      have hjl : j < es.toList.length := (List.getElem?_eq_some_iff.1 h2).1
      by_cases haa : a' = a
      · subst haa
        exact ⟨{ e0 with key := .int .u32 (a' : Int), val := pv (some q) }, List.mem_iff_getElem.2 ⟨j, by simpa using hjl, by simp⟩, rfl⟩
      · rw [setP_other haa] at hf
        obtain ⟨x, hx, he⟩ := hc a' q' hf
        obtain ⟨i, hi, ex⟩ := List.getElem_of_mem hx
        have hij : i ≠ j := by
          intro h
          subst h
          rw [List.getElem?_eq_getElem hi, ex] at h2
          cases h2
          rw [he] at h3
          injection h3 with _ h3
          omega
        exact ⟨x, List.mem_iff_getElem.2 ⟨i, by simpa using hi, by rw [List.getElem_set_ne (fun e => hij e.symm)]; exact ex⟩, he⟩
end

/-! At the operation, for the walk. -/
section
variable {P : Program} {w : World} {b : Nat} {f : Nat → Option Nat} {k e t : TypeId} {ops : Array Oper} {rest : List Oper} {o : Oper} {ac : Act} {Q : Exit → Act → World → Prop}

theorem wpList_lookP (hg : o.guard = none) (m x : Operand) (hop : o.op = Op.lookup t m x false) (hk : P.underlying k = some (.int .u32)) (ht : P.underlying t = some (.map k e)) (hz : (zeroValue e).run P w = .ok (.pointer none) w)
    (h : PMap w b f) {a : Nat} (ha : a < 4294967296) (hm : ac.eval m = .map (some b)) (hx : ac.eval x = .int .u32 (a : Int)) (hK : wpList P ops Q rest (ac.put o.dst (pv (f a))) w) : wpList P ops Q (o :: rest) ac w := by
  refine wpList_plain hg fun K' hK' => ?_
  have hrun := h.look hk ht hz ha
  unfold Oper.wp
  simp [execOp, hop, hm, hx, hrun, Result.andThen]
  exact hK' _ _ hK

theorem wpList_look_some (hg : o.guard = none) (m x : Operand) (hop : o.op = Op.lookup t m x false) (hk : P.underlying k = some (.int .u32)) (ht : P.underlying t = some (.map k e)) (hz : (zeroValue e).run P w = .ok (.pointer none) w)
    (h : PMap w b f) {a q : Nat} (ha : a < 4294967296) (hf : f a = some q) (hm : ac.eval m = .map (some b)) (hx : ac.eval x = .int .u32 (a : Int)) (hK : wpList P ops Q rest (ac.put o.dst (.pointer (some ⟨q, 0, none⟩))) w) : wpList P ops Q (o :: rest) ac w :=
  wpList_lookP hg m x hop hk ht hz h ha hm hx (by rw [hf]; exact hK)
theorem wpList_look_none (hg : o.guard = none) (m x : Operand) (hop : o.op = Op.lookup t m x false) (hk : P.underlying k = some (.int .u32)) (ht : P.underlying t = some (.map k e)) (hz : (zeroValue e).run P w = .ok (.pointer none) w)
    (h : PMap w b f) {a : Nat} (ha : a < 4294967296) (hf : f a = none) (hm : ac.eval m = .map (some b)) (hx : ac.eval x = .int .u32 (a : Int)) (hK : wpList P ops Q rest (ac.put o.dst (.pointer none)) w) : wpList P ops Q (o :: rest) ac w :=
  wpList_lookP hg m x hop hk ht hz h ha hm hx (by rw [hf]; exact hK)

theorem wpList_putP (hg : o.guard = none) (m x v : Operand) (hop : o.op = Op.mapUpdate t m x v) (hk : P.underlying k = some (.int .u32)) (ht : P.underlying t = some (.map k e))
    (h : PMap w b f) {a q : Nat} (ha : a < 4294967296) (hm : ac.eval m = .map (some b)) (hx : ac.eval x = .int .u32 (a : Int)) (hv : ac.eval v = .pointer (some ⟨q, 0, none⟩))
    (hK : ∀ w', PMap w' b (setP f a q) → w.grownBy w' (some b) → w'.heap.size = w.heap.size → wpList P ops Q rest (ac.put o.dst undef) w') : wpList P ops Q (o :: rest) ac w := by
  refine wpList_plain hg fun K' hK' => ?_
  obtain ⟨w', hrun, r1, r2, r3⟩ := h.store hk ht ha q
  unfold Oper.wp
  unfold pv at hrun
  simp [execOp, hop, hm, hx, hv, hrun, Result.andThen]
  exact hK' _ _ (hK w' r1 r2 r3)
end

end Go.Proofs.YtdadcengelfmhaaGreat.Cnt
