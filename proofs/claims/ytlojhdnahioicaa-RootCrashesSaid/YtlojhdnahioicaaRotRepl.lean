/-
  The walk of root.replace; what its steps come to when they are run.
-/
import Derived.Test.YtlojhdnahioicaaRotClos
namespace Go.Proofs.Ytlojhdnahioicaa.Rot
open Go.RowKit RowLaw Crc
set_option maxRecDepth 100000
open Go.Proofs.Ytlojhdnahioicaa.Slt (Rt cells rootO rtB rtB_length infoR sizeR cells_one mayB)
open Go.Proofs.Ytlojhdnahioicaa.Dev (Dev DS ptr writeS writeE flushS flushE putCells Box Step below_own new_cells)

def fStep (pb lb ib : Nat) : Value := .func (.func 54) #[] #[ptr pb, ptr lb, ptr ib]
def fSettle (pb : Nat) : Value := .func (.func 55) #[] #[ptr pb]
def fSwap (rb pb : Nat) : Value := .func (.func 56) #[] #[ptr rb, ptr pb]
theorem infoFn : (Try.prog.info? 95).map (fun i => (i.zero, i.size, i.bytes)) = some (some .nilFunc, 1, 8) := by kernel_rfl
theorem own_ne {W : World} {base : Nat} {e T : TypeId} {size n q : Nat} {v : Value} {xs : List Value} {cs : Array Value} {fr : Nat × Nat} (h : W.ownsRow base e size v n xs) (hq : W.heap[q]? = some (.cells cs T fr)) (hT : T ≠ e) : v.ownBlock ≠ some q := fun he => by
  rcases h.2 with ⟨rfl, _⟩ | ⟨g, cap, cur, rfl, h3, h4, _⟩
  · cases he
  · simp only [Value.ownBlock, Option.some.injEq] at he
    rw [he, hq] at h4
    injection h4 with h4
    injection h4 with h4 h5
    exact hT h5
theorem grown_at {W W' : World} {base : Nat} {e T : TypeId} {size n q : Nat} {v : Value} {xs : List Value} {cs : Array Value} {fr : Nat × Nat} (h : W.ownsRow base e size v n xs) (hg : W.grownBy W' v.ownBlock) (hq : W.heap[q]? = some (.cells cs T fr)) (hT : T ≠ e) : W'.heap[q]? = some (.cells cs T fr) :=
  (hg.block q (Array.getElem?_eq_some_iff.1 hq).1 (fun he => own_ne h hq hT he.symm)).trans hq

def devO (p : Nat) : Obj := .cells #[ptr p] 39 (0, 0)
def lstO (pa : Option Addr) (n c : Nat) : Obj := .cells #[.slice pa n c] 35 (0, 0)
def intO (k : Nat) : Obj := .cells #[.int .i64 (k : Int)] 3 (0, 0)
/-- the steps laid so far -/
structure Todo (w : World) (p : Nat) (pa : Option Addr) (n c : Nat) (r : Rt) (pb lb rb : Nat) (is : List Nat) (v : Value) (xs : List Value) (m : Nat) (W : World) : Prop where
  bel : Below w.heap.size w W
  own : W.ownsRow w.heap.size 95 1 v m xs
  dev : w.heap.size ≤ pb ∧ W.heap[pb]? = some (devO p)
  lst : w.heap.size ≤ lb ∧ W.heap[lb]? = some (lstO pa n c)
  rt : w.heap.size ≤ rb ∧ W.heap[rb]? = some (rootO r)
  ints : ∀ j (hj : j < is.length), w.heap.size ≤ is[j] ∧ W.heap[is[j]]? = some (intO j)
section
variable {w W W' : World} {p : Nat} {pa : Option Addr} {n c : Nat} {r : Rt} {pb lb rb : Nat} {is : List Nat} {v v' : Value} {xs ys : List Value} {m m' : Nat}
theorem Todo.below (h : Todo w p pa n c r pb lb rb is v xs m W) (hb : Below W.heap.size W W') (ho : W'.ownsRow w.heap.size 95 1 v m xs) : Todo w p pa n c r pb lb rb is v xs m W' :=
  ⟨h.bel.trans (hb.mono h.bel.size), ho, ⟨h.dev.1, (hb.block _ (Array.getElem?_eq_some_iff.1 h.dev.2).1).trans h.dev.2⟩, ⟨h.lst.1, (hb.block _ (Array.getElem?_eq_some_iff.1 h.lst.2).1).trans h.lst.2⟩, ⟨h.rt.1, (hb.block _ (Array.getElem?_eq_some_iff.1 h.rt.2).1).trans h.rt.2⟩,
    fun j hj => ⟨(h.ints j hj).1, (hb.block _ (Array.getElem?_eq_some_iff.1 (h.ints j hj).2).1).trans (h.ints j hj).2⟩⟩
theorem Todo.alloc (h : Todo w p pa n c r pb lb rb is v xs m W) (o : Obj) : Todo w p pa n c r pb lb rb is v xs m (W.alloc o) := h.below ((Below.refl _ _).alloc (Nat.le_refl _) o) (World.ownsRow.alloc h.own o)
/-- one more number's block -/
theorem Todo.int (h : Todo w p pa n c r pb lb rb is v xs m W) : Todo w p pa n c r pb lb rb (is ++ [W.heap.size]) v xs m (W.alloc (.cells #[.int .i64 (is.length : Int)] 3)) := by
  have h' := h.alloc (.cells #[.int .i64 (is.length : Int)] 3)
  refine { h' with ints := fun j hj => ?_ }
  by_cases hjl : j < is.length
  · rw [List.getElem_append_left hjl]
    exact h'.ints j hjl
  · have : j = is.length := by simp at hj; omega
    subst this
    rw [List.getElem_append_right (Nat.le_refl _)]
    simp only [Nat.sub_self, List.getElem_cons_zero]
    exact ⟨h.bel.size, heap_alloc_new W _⟩
/-- an append -/
theorem Todo.grown (h : Todo w p pa n c r pb lb rb is v xs m W) (ho : W'.ownsRow w.heap.size 95 1 v' m' ys) (hg : W.grownBy W' v.ownBlock) : Todo w p pa n c r pb lb rb is v' ys m' W' :=
  ⟨h.bel.trans (below_own h.own hg h.bel.size), ho, ⟨h.dev.1, grown_at h.own hg h.dev.2 (by decide)⟩, ⟨h.lst.1, grown_at h.own hg h.lst.2 (by decide)⟩, ⟨h.rt.1, grown_at h.own hg h.rt.2 (by decide)⟩, fun j hj => ⟨(h.ints j hj).1, grown_at h.own hg (h.ints j hj).2 (by decide)⟩⟩
end

set_option maxHeartbeats 1600000 in
theorem replace_any (w : World) (p : Nat) (pa : Option Addr) (n c : Nat) (r : Rt) (hn : n < 4294967296) :
    Calls Try.prog 28 #[ptr p, .slice pa n c, .agg (cells r)] w fun e w' => ∃ g c2 pb lb rb is, is.length = n ∧ e = .returned (.slice (some ⟨g, 0, none⟩) (n + 3) c2) ∧
      Todo w p pa n c r pb lb rb is (.slice (some ⟨g, 0, none⟩) (n + 3) c2) (is.map (fStep pb lb) ++ [fSettle pb, fSwap rb pb, fSettle pb]) (n + 3) w' := by
  have hmf : ∀ (fn : Fn) (first cap : Array Value) (w : World), (Instr.makeFunc fn first cap).run Try.prog w = .ok (.func fn first cap) w := fun _ _ _ _ => rfl
  obtain ⟨ik, hik0, hik1, hik2, hik3⟩ := info_parts infoFn
  have hK : Kept w [(w.heap.size + 1 + 1, rootO r), (w.heap.size + 1, lstO pa n c), (w.heap.size, devO p)] (((w.alloc (devO p)).alloc (lstO pa n c)).alloc (rootO r)) := by
    have h := (((Kept.start w).alloc (devO p)).alloc (lstO pa n c)).alloc (rootO r)
    rw [show ((w.alloc (devO p)).alloc (lstO pa n c)).heap.size = w.heap.size + 1 + 1 from by simp, show (w.alloc (devO p)).heap.size = w.heap.size + 1 from by simp] at h
    exact h
  have hT : Todo w p pa n c r w.heap.size (w.heap.size + 1) (w.heap.size + 1 + 1) [] (.slice none 0 0) [] 0 (((w.alloc (devO p)).alloc (lstO pa n c)).alloc (rootO r)) :=
    ⟨hK.bel, World.ownsRow_nil _ _ _ _, ⟨Nat.le_refl _, hK.at_ (q := w.heap.size) (by simp)⟩, ⟨by omega, hK.at_ (q := w.heap.size + 1) (by simp)⟩, ⟨by omega, hK.at_ (q := w.heap.size + 1 + 1) (by simp)⟩, fun j hj => by simp at hj⟩
  have c1 : (((w.alloc (devO p)).alloc (lstO pa n c)).alloc (rootO r)).cell? ⟨w.heap.size + 1, 0, none⟩ = some (.slice pa n c) := (cell_of_row _ (w.heap.size + 1) 0 _ _ _ hT.lst.2).trans rfl
  clear hK
  go_enter Try.func28, Try.ntmps28
  go_upto_region 1 with fail
  change Code.wp _ _ _ _ (((w.alloc (devO p)).alloc (lstO pa n c)).alloc (rootO r))
  generalize ((w.alloc (devO p)).alloc (lstO pa n c)).alloc (rootO r) = W0 at hT c1 ⊢
  generalize w.heap.size + 1 + 1 = rb at hT ⊢
  generalize w.heap.size + 1 = lb at hT c1 ⊢
  obtain ⟨pb, hpb⟩ : ∃ pb, pb = w.heap.size := ⟨_, rfl⟩
  rw [← hpb]
  have hT' : Todo w p pa n c r pb lb rb [] (.slice none 0 0) [] 0 W0 := by rw [hpb]; exact hT
  clear hT hpb
  go_wp2_with fail
  clear c1
  go_loopw [7, 13] (fun v i wr => ∃ is : List Nat, is.length ≤ n ∧ i = .int .i64 is.length ∧ Todo w p pa n c r pb lb rb is v (is.map (fStep pb lb)) is.length wr) (fun _ i _ => n - (intOf i).toNat)
  case atStart => exact ⟨[], Nat.zero_le _, rfl, hT'⟩
  case round =>
    clear hT'
    obtain ⟨is, hle, rfl, hT⟩ := hrel
    by_cases hlt : is.length < n
    · have hI := hT.int
      have i0 : (is.length : Int) < (n : Int) := by omega
      have hm : is.map (fStep pb lb) ++ [fStep pb lb wr.heap.size] = (is ++ [wr.heap.size]).map (fStep pb lb) := by simp
      have HM := Lib.hid hm
      clear hm
      go_upto_region 5 with fail
      change Code.wp _ _ _ _ (wr.alloc (.cells #[.int .i64 (is.length : Int)] 3))
      generalize wr.alloc (.cells #[.int .i64 (is.length : Int)] 3) = W1 at hI ⊢
      generalize wr.heap.size = u at hI HM ⊢
      have hA := hI.alloc (.cells [fStep pb lb u].toArray 95)
      have hnew := new_cells W1 [fStep pb lb u] 95
      have hown := hA.own
      have hb2 := hA.bel
      have HL := Lib.hid (show (is ++ [u]).length = is.length + 1 by simp)
      have HA := Lib.hid hA
      clear hI hT hA
      unfold fStep at hnew
      go_wp2_with (first | (at_builtin; refine wpList_append_own _ rfl _ _ 69 rfl w.heap.size 95 ik .nilFunc 1 8 Try.underlying69 hik0 hik1 hik2 hik3 rfl (by omega) _ is.length _ rfl hown ⟨W1.heap.size, 0, none⟩ 1 1 [fStep pb lb u] rfl rfl hnew (by simp [fStep, Value.oneCell']) (by unfold maxLen; omega) (by omega) hb2.size ?_; intro v' w1 hown1 hgrow hnil))
      go_roundw
      case rel =>
        refine ⟨is ++ [u], by rw [HL.out]; omega, by rw [HL.out]; go_num, ?_⟩
        rw [HL.out, ← HM.out]
        exact HA.out.grown hown1 hgrow
      case measure => simp [intOf]; omega
    · obtain rfl : is.length = n := by omega
      have hA := hT.alloc (.cells [fSettle pb, fSwap rb pb, fSettle pb].toArray 95)
      have hnew := new_cells wr [fSettle pb, fSwap rb pb, fSettle pb] 95
      have hown := hA.own
      have hb2 := hA.bel
      have HA := Lib.hid hA
      clear hT hA
      unfold fSettle fSwap at hnew
      go_wp2_with (first | (at_builtin; refine wpList_append_lies _ rfl _ _ 69 rfl w.heap.size 95 ik .nilFunc 1 8 Try.underlying69 hik0 hik1 hik2 hik3 rfl (by omega) _ is.length _ rfl hown ⟨wr.heap.size, 0, none⟩ 3 3 [fSettle pb, fSwap rb pb, fSettle pb] rfl rfl hnew (by simp [fSettle, fSwap, Value.oneCell']) (by omega) (by unfold maxLen; omega) (by omega) hb2.size _ rfl ?_; intro g cap w1 hown1 hgrow hat hlt))
      go_ret
      exact ⟨g, cap, pb, lb, rb, is, rfl, rfl, HA.out.grown hown1 hgrow⟩

end Go.Proofs.Ytlojhdnahioicaa.Rot
