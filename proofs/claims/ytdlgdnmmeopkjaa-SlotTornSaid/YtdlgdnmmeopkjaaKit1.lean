/-
  Kit1: StructEq, Allocs.
-/
import Derived.Test.YtdlgdnmmeopkjaaRowLaws
import Derived.Test.YtdlgdnmmeopkjaaProg
import Derived.Laws.StructEq
import Derived.ChangeKeysEq
import Derived.OrdersHeld
import Derived.Deep.RegionHeld
/-
  Structs compared field by field.
-/
namespace Go.Proofs.Ytdlgdnmmeopkjaa.RowLaw
open Go.RowKit
set_option maxRecDepth 100000

/-- a list of fields with these types and offsets -/
def FieldsAre (fs : List Field) (l : List (TypeId × Nat)) : Prop := (fs.map fun f => (decide (f.name ≠ "_"), f.type, f.offset)) = l.map fun x => (true, x.1, x.2)
theorem eqF_nil (w : World) (d : Nat) (xs ys : Array Value) (fs : List Field) (h : FieldsAre fs []) : (Op.eqFields d xs ys fs).run Try.prog w = .ok true w := by
  obtain rfl : fs = [] := by
    unfold FieldsAre at h
    simpa using h
  rw [Op.eqFields]; rfl
theorem eqF_cons (w : World) (d : Nat) (xs ys : Array Value) (fs : List Field) (t : TypeId) (o : Nat) (l : List (TypeId × Nat)) (x y : Value) (b r : Bool) (h : FieldsAre fs ((t, o) :: l)) (hx : (part t xs o).run Try.prog w = .ok x w) (hy : (part t ys o).run Try.prog w = .ok y w)
    (he : (Op.equalIn d t x y).run Try.prog w = .ok b w) (hr : ∀ gs, FieldsAre gs l → (Op.eqFields d xs ys gs).run Try.prog w = .ok r w) : (Op.eqFields d xs ys fs).run Try.prog w = .ok (b && r) w := by
  cases fs with
  | nil => unfold FieldsAre at h; simp at h
  | cons f gs =>
    unfold FieldsAre at h
    simp only [List.map_cons, List.cons.injEq, Prod.mk.injEq, decide_eq_true_eq] at h
    obtain ⟨⟨f1, f2, f3⟩, hg⟩ := h
    rw [Op.eqFields, if_pos f1, f2, f3, Sem.run_bind, hx, Result.andThen_ok, Sem.run_bind, hy, Result.andThen_ok, Sem.run_bind, he, Result.andThen_ok]
    cases b with
    | false => rw [if_pos (by simp)]; rfl
    | true => rw [if_neg (by simp), hr gs hg]; rfl

theorem part32 (w : World) (cs : Array Value) (i : Nat) (z : Int) (h : cs[i]? = some (.int .u32 z)) : (part 23 cs i).run Try.prog w = .ok (.int .u32 z) w := by
  simp [part, isAgg, run_underlying Try.underlying23, h]
theorem partB (w : World) (cs : Array Value) (i : Nat) (b : Bool) (h : cs[i]? = some (.bool b)) : (part 4 cs i).run Try.prog w = .ok (.bool b) w := by
  simp [part, isAgg, run_underlying Try.underlying4, h]
theorem partS (w : World) (cs : Array Value) (i : Nat) (s : ByteArray) (h : cs[i]? = some (.string s)) : (part 9 cs i).run Try.prog w = .ok (.string s) w := by
  simp [part, isAgg, run_underlying Try.underlying9, h]
theorem bytes_inj {a b : ByteArray} (h : a.toList = b.toList) : a = b := by
  rw [ByteArray.toList_eq, ByteArray.toList_eq] at h
  exact ByteArray.ext (Array.toList_inj.1 h)
end Go.Proofs.Ytdlgdnmmeopkjaa.RowLaw

/-
  A region that draws its order and makes several blocks in whatever order: one theorem instead of a branch for each order.
-/
namespace Go.Proofs.Ytdlgdnmmeopkjaa.RowLaw
open Go.RowKit

def upd (f : Nat → Option Nat) (i q : Nat) : Nat → Option Nat := fun j => if j = i then some q else f j
def vOf : Option Nat → Value
  | none => undef
  | some q => .pointer (some ⟨q, 0, none⟩)
/-- f: where each of the blocks lies that have been made; c: how many are not made yet; lst, F: the listed operations and the frame by f -/
theorem wpAnyH_allocs {P : Program} {md : Region.Mode} {ops : Array Oper} {Q : Exit → Act → World → Prop} {S : World → Prop} (lo hi m : Nat) (lst : (Nat → Option Nat) → Array Bool) (F : (Nat → Option Nat) → Act) (Inv : (Nat → Option Nat) → World → Prop) (c : (Nat → Option Nat) → Nat)
    (hready : ∀ f, c f ≠ 0 → Region.ready md ops (lst f) ≠ [] ∧ ∀ i ∈ Region.ready md ops (lst f), lo ≤ i ∧ i < hi ∧ f i = none)
    (hset : ∀ f i q, lo ≤ i → i < hi → (lst f).setIfInBounds i true = lst (upd f i q))
    (hcount : ∀ f i q, lo ≤ i → i < hi → f i = none → c (upd f i q) + 1 = c f)
    (hS : ∀ f W, Inv f W → S W)
    (hstep : ∀ i f W (K : Act → World → Prop), lo ≤ i → i < hi → f i = none → Inv f W → (∀ q W', Inv (upd f i q) W' → K (F (upd f i q)) W') → wpOp P ops Q i K (F f) W)
    (hend : ∀ f W, c f = 0 → Inv f W → wpAnyH P md ops Q S m (lst f) (F f) W) :
    ∀ k f W, c f = k → Inv f W → wpAnyH P md ops Q S (m + k) (lst f) (F f) W
  | 0, f, W, hc, hI => hend f W hc hI
  | k + 1, f, W, hc, hI => by
    have hr := hready f (by omega)
    refine wpAnyH_all (rs := Region.ready md ops (lst f)) rfl hr.1 fun i him => ?_
    obtain ⟨h1, h2, h3⟩ := hr.2 i him
    refine hstep i f W _ h1 h2 h3 hI fun q W' hI' => ⟨hS _ _ hI', ?_⟩
    rw [hset f i q h1 h2]
    exact wpAnyH_allocs lo hi m lst F Inv c hready hset hcount hS hstep hend k (upd f i q) W' (by have := hcount f i q h1 h2 h3; omega) hI'

/-- an alloc comes up -/
theorem wpOp_alloc {P : Program} {ops : Array Oper} {Q : Exit → Act → World → Prop} {i : Nat} {K : Act → World → Prop} {a : Act} {W : World} (o : Oper) (ho : ops[i]? = some o) (hg : o.guard = none) (ty : TypeId) (hop : o.op = .alloc ty) (cs : Array Value)
    (hz : ∀ w : World, (zeroValue ty).run P w = .ok (.agg cs) w) (h : K (a.put o.dst (.pointer (some ⟨W.heap.size, 0, none⟩))) (W.alloc (.cells cs ty))) : wpOp P ops Q i K a W := by
  refine wpOp_step ho (fun K' hK => ?_)
  rw [if_pos (by unfold Region.wanted; rw [hg])]
  unfold Oper.wp execOp
  simp [hop, Instr.alloc, hz]
  exact hK _ _ h

/-- no guard: not passed over, whatever is listed -/
theorem ready_mem {md : Region.Mode} {ops : Array Oper} {listed : Array Bool} {i : Nat} (h : i ∈ Region.ready md ops listed) : listed.getD i true = false ∧ ∃ o, ops[i]? = some o ∧ ∀ e ∈ o.after, Region.binds md e = true → listed.getD e.on false = true := mem_ready.1 h

end Go.Proofs.Ytdlgdnmmeopkjaa.RowLaw

