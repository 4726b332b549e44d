/-
  CntG: CntApM, CntApK.
-/
import Derived.Test.YtojpcgjmainbfaaGreatCntF
import Derived.Test.YtojpcgjmainbfaaGreatCntE
import Derived.Test.YtojpcgjmainbfaaGreatCntHallB
import Derived.Test.YtojpcgjmainbfaaGreatCntOpenSets
import Derived.Test.YtojpcgjmainbfaaGreatCntHead
/-
  The mathematics of CountApart: counts set one by one; the tallies that are touched.
-/
namespace Go.Proofs.YtojpcgjmainbfaaGreat.Cnt
open Go.RowKit Go.Maps Go.MapKept RowLaw Crc
open Go.Proofs.YtojpcgjmainbfaaGreat.Dev (Dev DS readB)
open Go.Proofs.YtojpcgjmainbfaaGreat.Tal (kT kP fT fP getE getNs getI zs zs_length putB putB_length)
open Go.Proofs.YtojpcgjmainbfaaGreat.Rot (planOk tlN pkN fsN plan_facts)
set_option maxRecDepth 100000

section
variable {s : DS} {ch : Nat} {T : TD}
theorem setC_now (T : TD) (p : Nat) (ns : List Nat) (q : Nat) : (setC T p ns).now q = if q = p then ns else T.now q := by
  unfold TD.now setC
  simp only
  split <;> rfl
theorem setS_same (T : TD) (a v : Nat) : (setS T a v).n = T.n ∧ (setS T a v).d = T.d ∧ (setS T a v).ch = T.ch ∧ (setS T a v).PV = T.PV ∧ (setS T a v).TV = T.TV := by
  unfold setS
  split <;> exact ⟨rfl, rfl, rfl, rfl, rfl⟩
theorem setS_ok (h : TOk T) {a v : Nat} (hv : v < 65536) : TOk (setS T a v) := by
  unfold setS
  split
  · rename_i hr
    obtain ⟨h1, h2⟩ := plan_of h.plan
    have hp := plan_facts h1 h2
    refine h.setC (by rw [List.length_set]; exact (h.now _).1) (fun x hx => ?_) (by unfold tlN; omega)
    rcases List.mem_or_eq_of_mem_set hx with hx | rfl
    · exact (h.now _).2 x hx
    · exact hv
  · exact h
theorem Of.setS (h : Of s ch T) (a v : Nat) : Of s ch (Cnt.setS T a v) := by
  obtain ⟨h1, h2, h3, h4, h5⟩ := setS_same T a v
  exact ⟨h1.trans h.n, h3.trans h.chE, by rw [h4, h2]; exact h.PV, by rw [h5, h2]; exact h.TV⟩
theorem Reads.setS (h : Reads s T) (a v : Nat) : Reads s (Cnt.setS T a v) := by
  unfold Cnt.setS
  split
  · exact ⟨h.n, h.pend, h.pick, h.tally⟩
  · exact h
theorem nowC_setS (h : TOk T) (a v b : Nat) : (setS T a v).nowC b = if fsN T.n ≤ a ∧ a < T.n ∧ a = b then v else T.nowC b := by
  unfold TD.nowC cntV
  rw [(setS_same T a v).1]
  by_cases hr : fsN T.n ≤ a ∧ a < T.n
  · have e : setS T a v = setC T (a / 64) ((T.now (a / 64)).set (a % 64) v) := by unfold setS; rw [if_pos hr]
    rw [e, setC_now]
    by_cases hb : fsN T.n ≤ b ∧ b < T.n
    · rw [if_pos hb, if_pos hb]
      by_cases h1 : b / 64 = a / 64
      · rw [if_pos h1, getD_set _ _ _ _ (by rw [(h.now _).1]; omega)]
        by_cases h2 : a % 64 = b % 64
        · rw [if_pos h2, if_pos ⟨hr.1, hr.2, by omega⟩]
        · rw [if_neg h2, if_neg (fun hh => h2 (by rw [hh.2.2])), h1]
      · rw [if_neg h1, if_neg (fun hh => h1 (by rw [hh.2.2]))]
    · rw [if_neg hb, if_neg hb, if_neg (show ¬ (fsN T.n ≤ a ∧ a < T.n ∧ a = b) from fun hh => hb (hh.2.2 ▸ hr))]
  · have e : setS T a v = T := by unfold setS; rw [if_neg hr]
    rw [e, if_neg (show ¬ (fsN T.n ≤ a ∧ a < T.n ∧ a = b) from fun hh => hr ⟨hh.1, hh.2.1⟩)]
/-- nothing stands where no block is counted -/
def Clean (T : TD) : Prop := ∀ p i, p < tlN T.n → i < 64 → ¬ (fsN T.n ≤ p * 64 + i ∧ p * 64 + i < T.n) → (T.now p).getD i 0 = 0
theorem Clean.setS (h : Clean T) (hok : TOk T) (a v : Nat) : Clean (Cnt.setS T a v) := by
  intro p i hp hi hn
  rw [(setS_same T a v).1] at hp hn
  by_cases hr : fsN T.n ≤ a ∧ a < T.n
  · have e : Cnt.setS T a v = setC T (a / 64) ((T.now (a / 64)).set (a % 64) v) := by unfold Cnt.setS; rw [if_pos hr]
    rw [e, setC_now]
    by_cases h1 : p = a / 64
    · rw [if_pos h1, getD_set _ _ _ _ (by rw [(hok.now _).1]; omega), if_neg (fun h2 => hn (by omega)), ← h1]
      exact h p i hp hi hn
    · rw [if_neg h1]
      exact h p i hp hi hn
  · have e : Cnt.setS T a v = T := by unfold Cnt.setS; rw [if_neg hr]
    rw [e]
    exact h p i hp hi hn
/-- a table over a formatted device, with counts set in it -/
structure Good (s : DS) (T : TD) : Prop where
  of_ : Of s 0 T
  ok : TOk T
  reads : Reads s T
  clean : Clean T
  pz : T.PV 0 = zs kP
  tz : ∀ p, p < tlN T.n → T.TV p = zs kT
theorem Good.setS (h : Good s T) (a : Nat) {v : Nat} (hv : v < 65536) : Good s (Cnt.setS T a v) := by
  obtain ⟨h1, h2, h3, h4, h5⟩ := setS_same T a v
  exact ⟨h.of_.setS a v, setS_ok h.ok hv, h.reads.setS a v, h.clean.setS h.ok a v, by rw [h4]; exact h.pz, by rw [h1, h5]; exact h.tz⟩
theorem Good.keys (h : Good s T) (hn : T.n ≤ 5000) : ∀ ss : List Nat, ss.Nodup → (∀ a, a ∈ ss ↔ (T.C a).isSome = true) → ss.length ≤ 255 := fun ss h1 h2 =>
  Nat.le_trans (nodup_len (tlN T.n) ss h1 (fun x hx => by
    obtain ⟨ns, hns⟩ := Option.isSome_iff_exists.1 ((h2 x).1 hx)
    exact h.ok.ck x ns hns)) (by unfold tlN; omega)

/-! ### What is touched -/
/-- has tally p a count that is not 0, ahead of block k? -/
def tch (A : List Nat) (k p : Nat) : Bool := (List.range k).any fun a => decide (a / 64 = p ∧ A.getD a 0 ≠ 0)
def cnt (A : List Nat) (k m : Nat) : Nat := ((List.range m).filter (tch A k)).length
/-- the counts in a row -/
structure NowIs (T : TD) (A : List Nat) : Prop where
  len : A.length = T.n
  at_ : ∀ a, a < T.n → A.getD a 0 = T.nowC a
theorem NowIs.setS {A : List Nat} (h : NowIs T A) (hok : TOk T) {a v : Nat} (ha : fsN T.n ≤ a ∧ a < T.n) : NowIs (Cnt.setS T a v) (A.set a v) := by
  refine ⟨by rw [List.length_set, (setS_same T a v).1]; exact h.len, fun b hb => ?_⟩
  rw [(setS_same T a v).1] at hb
  rw [getD_set _ _ _ _ (by rw [h.len]; exact ha.2), nowC_setS hok]
  by_cases e : a = b
  · rw [if_pos e, if_pos ⟨ha.1, ha.2, e⟩]
  · rw [if_neg e, if_neg (fun hh => e hh.2.2)]
    exact h.at_ b hb
theorem setS_out {a v : Nat} (ha : ¬ (fsN T.n ≤ a ∧ a < T.n)) : Cnt.setS T a v = T := by unfold Cnt.setS; rw [if_neg ha]
theorem Good.sealCh (h : Good s T) (ks : List Nat) : sealCh T ks = if chs T ks = [] then 0 else 1 := by
  unfold Cnt.sealCh
  rw [h.of_.chE]
  rfl
theorem Good.seal_len (ks : List Nat) : (sealL T ks).length = (chs T ks).length + min (chs T ks).length 1 := by
  unfold sealL
  rw [List.length_append, List.length_map]
  cases chs T ks with
  | nil => rfl
  | cons a l => simp
end
end Go.Proofs.YtojpcgjmainbfaaGreat.Cnt

/-
  For the laws on counts, walked in parts: rows of a law's own beside devices and tables; rows of sets that come in.
-/
namespace Go.Proofs.YtojpcgjmainbfaaGreat.Cnt
open Go.RowKit Go.Maps Go.MapKept RowLaw Crc
open Go.Proofs.YtojpcgjmainbfaaGreat.Dev (Dev DS ptr Turn Step)
set_option maxRecDepth 100000

/-- the outermost loops of a text, in their order -/
def loopsOf : Code → List Code
  | .loop c => [c]
  | .seq a b => loopsOf a ++ loopsOf b
  | .block _ c => loopsOf c
  | .scope c => loopsOf c
  | .cond _ a b => loopsOf a ++ loopsOf b
  | _ => []
section
variable {w W W' : World} {l : List Thing} {K : List (Nat × Obj)}
/-- a store into a block of its own -/
theorem Hall.setCell {q j : Nat} {cs : Array Value} {T : TypeId} {v : Value} (h : Hall w l ((q, .cells cs T (0, 0)) :: K) W) (hw : w.heap.size ≤ q) (hne : ∀ x ∈ K, x.1 ≠ q) : Hall w l ((q, .cells (cs.setIfInBounds j v) T (0, 0)) :: K) (W.setCell ⟨q, j, none⟩ v) := by
  obtain ⟨h1, f, h2, h3, h4⟩ := h
  have h0 := h4 _ List.mem_cons_self
  have ht : Turn [q] W (W.setCell ⟨q, j, none⟩ v) := (Turn.refl _ _).setCell _ _ (.inl (by simp))
  refine ⟨h1.trans (ht.below (by simpa using hw) h1.size), f, fun i x hi => ⟨(h2 i x hi).1.turn ht (fun k hk => ?_), (h2 i x hi).2⟩, h3, fun x hx => ?_⟩
  · have := h0.2 i (List.getElem?_eq_some_iff.1 hi).1
    simp only [List.mem_singleton]
    rintro rfl
    exact this hk
  · rcases List.mem_cons.1 hx with rfl | hx
    · exact ⟨heap_setCell_same W q j _ _ _ h0.1, h0.2⟩
    · have h5 := h4 x (List.mem_cons_of_mem _ hx)
      exact ⟨(heap_setCell_other W ⟨q, j, none⟩ x.1 v (hne x hx)).trans h5.1, h5.2⟩
theorem Hall.size (h : Hall w l K W) : w.heap.size ≤ W.heap.size := h.1.size
end
/-! ### rows -/
/-- the cells of the j-th set that came in -/
theorem Sts.cells {w : World} {pa : Option Addr} {xs : List St} (h : Sts w pa xs) {j : Nat} (hj : j < xs.length) : ∃ b off, pa = some ⟨b, off, none⟩ ∧ xs[j].Fits ∧ ∀ W, Below w.heap.size w W →
    W.cell? ⟨b, off + j * 260, none⟩ = some (.int .u32 (xs[j].a : Int)) ∧ W.cell? ⟨b, off + j * 260 + 1, none⟩ = some (.int .u16 (xs[j].n : Int)) ∧ W.cell? ⟨b, off + j * 260 + 2, none⟩ = some (.bool xs[j].s) := by
  obtain ⟨h1, h2⟩ := h
  rcases h2 with h0 | ⟨b, off, hp, hb⟩
  · rw [h0] at hj; exact absurd hj (by simp)
  · refine ⟨b, off, hp, h1 _ (List.getElem_mem hj), fun W hW => ?_⟩
    have hc : ∀ i v, (stCells xs[j])[i]? = some v → W.cell? ⟨b, off + j * 260 + i, none⟩ = some v := fun i v hv => (hW.cell (p := ⟨b, off + j * 260 + i, none⟩) hb.old).trans (hb.at_ j hj i v hv)
    exact ⟨hc 0 _ rfl, hc 1 _ rfl, hc 2 _ rfl⟩
end Go.Proofs.YtojpcgjmainbfaaGreat.Cnt

