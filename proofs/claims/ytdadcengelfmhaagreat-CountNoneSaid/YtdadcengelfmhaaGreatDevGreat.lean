/-
  great; acts out of the argument.
-/
import Derived.Test.YtdadcengelfmhaaGreatDev3
import Derived.Test.YtdadcengelfmhaaGreatDevOpen
namespace Go.Proofs.YtdadcengelfmhaaGreat.Dev
open Go.RowKit RowLaw
set_option maxRecDepth 100000

theorem Ac.val_length (x : Ac) : x.val.length = 5 := rfl
/-- the acts of the argument, in whatever world keeps old memory -/
theorem acts_at {w W : World} {b off : Nat} {xs : List Ac} (h : ActsAt w b off xs) (hb : b < w.heap.size) (hbel : Below w.heap.size w W) {i : Nat} (hi : i < xs.length) :
    W.cell? ⟨b, off + i * 5, none⟩ = some (.int .u8 (xs[i].what : Int)) ∧ W.cell? ⟨b, off + i * 5 + 1, none⟩ = some (.int .u32 (xs[i].a : Int)) ∧ W.cell? ⟨b, off + i * 5 + 3, none⟩ = some (.slice xs[i].pa xs[i].keep.length xs[i].cap) ∧ W.rangeAt b (off + i * 5) xs[i].val := by
  have hr : W.rangeAt b (off + i * 5) xs[i].val := fun j v hj => (World.cell?_of_block (w := w) (a := ⟨b, off + i * 5 + j, none⟩) (hbel.block b hb)).trans (h i hi j v hj)
  exact ⟨hr 0 _ rfl, hr 1 _ rfl, hr 3 _ rfl, hr⟩

/-- what great may answer of n acts -/
def GreatAns (n : Nat) (e : Ending) : Prop := ∃ b : Bool, e = .returned (.bool b) ∧ (b = false → n ≤ 60)

end Go.Proofs.YtdadcengelfmhaaGreat.Dev
