/-
  CntG: CntApM, CntApK.
-/
import Derived.Test.YtojpcgjmainbfaaGreatCntF
import Derived.Test.YtojpcgjmainbfaaGreatCntE
import Derived.Test.YtojpcgjmainbfaaGreatCntHallB
import Derived.Test.YtojpcgjmainbfaaGreatCntOpenSets
import Derived.Test.YtojpcgjmainbfaaGreatCntHead
/-
  The mathematics of CountApart: counts set one by one; the tallies that are touched.
-/
namespace Go.Proofs.YtojpcgjmainbfaaGreat.Cnt
open Go.RowKit Go.Maps Go.MapKept RowLaw Crc
open Go.Proofs.YtojpcgjmainbfaaGreat.Dev (Dev DS readB)
open Go.Proofs.YtojpcgjmainbfaaGreat.Tal (kT kP fT fP getE getNs getI zs zs_length putB putB_length)
open Go.Proofs.YtojpcgjmainbfaaGreat.Rot (planOk tlN pkN fsN plan_facts)
set_option maxRecDepth 100000

section
variable {s : DS} {ch : Nat} {T : TD}
theorem setC_now (T : TD) (p : Nat) (ns : List Nat) (q : Nat) : (setC T p ns).now q = if q = p then ns else T.now q := by
  unfold TD.now setC
  simp only
  split <;> rfl
theorem setS_same (T : TD) (a v : Nat) : (setS T a v).n = T.n ∧ (setS T a v).d = T.d ∧ (setS T a v).ch = T.ch ∧ (setS T a v).PV = T.PV ∧ (setS T a v).TV = T.TV := by
  unfold setS
  split <;> exact ⟨rfl, rfl, rfl, rfl, rfl⟩
theorem setS_ok (h : TOk T) {a v : Nat} (hv : v < 65536) : TOk (setS T a v) := by
  unfold setS
  split
  · rename_i hr
    obtain ⟨h1, h2⟩ := plan_of h.plan
    have hp := plan_facts h1 h2
    refine h.setC (by rw [List.length_set]; exact (h.now _).1) (fun x hx => ?_) (by unfold tlN; omega)
    rcases List.mem_or_eq_of_mem_set hx with hx | rfl
    · exact (h.now _).2 x hx
    · exact hv
  · exact h
theorem Of.setS (h : Of s ch T) (a v : Nat) : Of s ch (Cnt.setS T a v) := by
  obtain ⟨h1, h2, h3, h4, h5⟩ := setS_same T a v
  exact ⟨h1.trans h.n, h3.trans h.chE, by rw [h4, h2]; exact h.PV, by rw [h5, h2]; exact h.TV⟩
theorem Reads.setS (h : Reads s T) (a v : Nat) : Reads s (Cnt.setS T a v) := by
  unfold Cnt.setS
  split
  · exact ⟨h.n, h.pend, h.pick, h.tally⟩
  · exact h
theorem nowC_setS (h : TOk T) (a v b : Nat) : (setS T a v).nowC b = if fsN T.n ≤ a ∧ a < T.n ∧ a = b then v else T.nowC b := by
  unfold TD.nowC cntV
  rw [(setS_same T a v).1]
  by_cases hr : fsN T.n ≤ a ∧ a < T.n
  · have e : setS T a v = setC T (a / 64) ((T.now (a / 64)).set (a % 64) v) := by unfold setS; rw [if_pos hr]
    rw [e, setC_now]
    by_cases hb : fsN T.n ≤ b ∧ b < T.n
    · rw [if_pos hb, if_pos hb]
      by_cases h1 : b / 64 = a / 64
      · rw [if_pos h1, getD_set _ _ _ _ (by rw [(h.now _).1]; omega)]
        by_cases h2 : a % 64 = b % 64
        · rw [if_pos h2, if_pos ⟨hr.1, hr.2, by omega⟩]
        · rw [if_neg h2, if_neg (fun hh => h2 (by rw [hh.2.2])), h1]
      · rw [if_neg h1, if_neg (fun hh => h1 (by rw [hh.2.2]))]
    · rw [if_neg hb, if_neg hb, if_neg (show ¬ (fsN T.n ≤ a ∧ a < T.n ∧ a = b) from fun hh => hb (hh.2.2 ▸ hr))]
  · have e : setS T a v = T := by unfold setS; rw [if_neg hr]
    rw [e, if_neg (show ¬ (fsN T.n ≤ a ∧ a < T.n ∧ a = b) from fun hh => hr ⟨hh.1, hh.2.1⟩)]
/-- nothing stands where no block is counted -/
def Clean (T : TD) : Prop := ∀ p i, p < tlN T.n → i < 64 → ¬ (fsN T.n ≤ p * 64 + i ∧ p * 64 + i < T.n) → (T.now p).getD i 0 = 0
theorem Clean.setS (h : Clean T) (hok : TOk T) (a v : Nat) : Clean (Cnt.setS T a v) := by
  intro p i hp hi hn
  rw [(setS_same T a v).1] at hp hn
  by_cases hr : fsN T.n ≤ a ∧ a < T.n
  · have e : Cnt.setS T a v = setC T (a / 64) ((T.now (a / 64)).set (a % 64) v) := by unfold Cnt.setS; rw [if_pos hr]
    rw [e, setC_now]
    by_cases h1 : p = a / 64
    · rw [if_pos h1, getD_set _ _ _ _ (by rw [(hok.now _).1]; omega), if_neg (fun h2 => hn (by omega)), ← h1]
      exact h p i hp hi hn
    · rw [if_neg h1]
      exact h p i hp hi hn
  · have e : Cnt.setS T a v = T := by unfold Cnt.setS; rw [if_neg hr]
    rw [e]
    exact h p i hp hi hn
/-- a table over a formatted device, with counts set in it -/
structure Good (s : DS) (T : TD) : Prop where
  of_ : Of s 0 T
  ok : TOk T
  reads : Reads s T
  clean : Clean T
  pz : T.PV 0 = zs kP
  tz : ∀ p, p < tlN T.n → T.TV p = zs kT
theorem Good.setS (h : Good s T) (a : Nat) {v : Nat} (hv : v < 65536) : Good s (Cnt.setS T a v) := by
  obtain ⟨h1, h2, h3, h4, h5⟩ := setS_same T a v
  exact ⟨h.of_.setS a v, setS_ok h.ok hv, h.reads.setS a v, h.clean.setS h.ok a v, by rw [h4]; exact h.pz, by rw [h1, h5]; exact h.tz⟩
theorem Good.keys (h : Good s T) (hn : T.n ≤ 5000) : ∀ ss : List Nat, ss.Nodup → (∀ a, a ∈ ss ↔ (T.C a).isSome = true) → ss.length ≤ 255 := fun ss h1 h2 =>
  Nat.le_trans (nodup_len (tlN T.n) ss h1 (fun x hx => by
    obtain ⟨ns, hns⟩ := Option.isSome_iff_exists.1 ((h2 x).1 hx)
    exact h.ok.ck x ns hns)) (by unfold tlN; omega)

/-! ### What is touched -/
/-- has tally p a count that is not 0, ahead of block k? -/
def tch (A : List Nat) (k p : Nat) : Bool := (List.range k).any fun a => decide (a / 64 = p ∧ A.getD a 0 ≠ 0)
def cnt (A : List Nat) (k m : Nat) : Nat := ((List.range m).filter (tch A k)).length
theorem tch_succ (A : List Nat) (k p : Nat) : tch A (k + 1) p = (tch A k p || decide (k / 64 = p ∧ A.getD k 0 ≠ 0)) := by
  unfold tch
  rw [List.range_succ, List.any_append]
  simp
theorem tch_zero (A : List Nat) (p : Nat) : tch A 0 p = false := rfl
theorem filter_flip (f : Nat → Bool) (q : Nat) (hf : f q = false) : ∀ m, ((List.range m).filter (fun p => f p || decide (q = p))).length = ((List.range m).filter f).length + (if q < m then 1 else 0) := by
  intro m
  induction m with
  | zero => simp
  | succ m ih =>
    rw [List.range_succ, List.filter_append, List.filter_append, List.length_append, List.length_append, ih]
    by_cases h : q = m
    · subst h
      simp [hf]
    · have h1 : (q < m + 1) = (q < m) := by apply propext; omega
      have h2 : decide (q = m) = false := decide_eq_false h
      simp only [h1, List.filter_cons, List.filter_nil, h2, Bool.or_false]
      cases f m <;> simp <;> omega
theorem cnt_succ (A : List Nat) (k m : Nat) (hk : k / 64 < m) : cnt A (k + 1) m = if A.getD k 0 ≠ 0 ∧ tch A k (k / 64) = false then cnt A k m + 1 else cnt A k m := by
  have e : tch A (k + 1) = fun p => (tch A k p || (decide (k / 64 = p) && decide (A.getD k 0 ≠ 0))) := funext fun p => by rw [tch_succ, Bool.decide_and]
  unfold cnt
  rw [e]
  by_cases h0 : A.getD k 0 ≠ 0
  · rw [decide_eq_true h0]
    by_cases h1 : tch A k (k / 64) = false
    · rw [if_pos ⟨h0, h1⟩]
      have := filter_flip (tch A k) (k / 64) h1 m
      rw [if_pos hk] at this
      rw [← this]
      congr 2
      funext p
      rw [Bool.and_true]
    · rw [if_neg (fun h => h1 h.2)]
      congr 2
      funext p
      by_cases h2 : k / 64 = p
      · subst h2
        have : tch A k (k / 64) = true := by simpa using h1
        simp [this]
      · simp [h2]
  · rw [if_neg (fun h => h0 h.1), decide_eq_false h0]
    congr 2
    funext p
    rw [Bool.and_false, Bool.or_false]
theorem cnt_zero (A : List Nat) (m : Nat) : cnt A 0 m = 0 := by
  unfold cnt
  rw [List.length_eq_zero_iff, List.filter_eq_nil_iff]
  intro a _
  rw [tch_zero]
  simp
theorem tch_iff (A : List Nat) (k p : Nat) : tch A k p = true ↔ ∃ a, a < k ∧ a / 64 = p ∧ A.getD a 0 ≠ 0 := by
  unfold tch
  rw [List.any_eq_true]
  simp only [List.mem_range, decide_eq_true_eq]

theorem sorted_ext : ∀ {l m : List Nat}, l.Pairwise (· < ·) → m.Pairwise (· < ·) → (∀ a, a ∈ l ↔ a ∈ m) → l = m
  | [], [], _, _, _ => rfl
  | [], b :: m, _, _, h => absurd ((h b).2 List.mem_cons_self) (by simp)
  | a :: l, [], _, _, h => absurd ((h a).1 List.mem_cons_self) (by simp)
  | a :: l, b :: m, h1, h2, h => by
    obtain ⟨p1, q1⟩ := List.pairwise_cons.1 h1
    obtain ⟨p2, q2⟩ := List.pairwise_cons.1 h2
    have hab : a = b := by
      rcases List.mem_cons.1 ((h a).1 List.mem_cons_self) with e | e
      · exact e
      · rcases List.mem_cons.1 ((h b).2 List.mem_cons_self) with e' | e'
        · exact e'.symm
        · have := p1 b e'
          have := p2 a e
          omega
    subst hab
    congr 1
    refine sorted_ext q1 q2 fun x => ⟨fun hx => ?_, fun hx => ?_⟩
    · rcases List.mem_cons.1 ((h x).1 (List.mem_cons_of_mem _ hx)) with e | e
      · have := p1 x hx; omega
      · exact e
    · rcases List.mem_cons.1 ((h x).2 (List.mem_cons_of_mem _ hx)) with e | e
      · have := p2 x hx; omega
      · exact e
/-- the counts in a row -/
structure NowIs (T : TD) (A : List Nat) : Prop where
  len : A.length = T.n
  at_ : ∀ a, a < T.n → A.getD a 0 = T.nowC a
theorem NowIs.setS {A : List Nat} (h : NowIs T A) (hok : TOk T) {a v : Nat} (ha : fsN T.n ≤ a ∧ a < T.n) : NowIs (Cnt.setS T a v) (A.set a v) := by
  refine ⟨by rw [List.length_set, (setS_same T a v).1]; exact h.len, fun b hb => ?_⟩
  rw [(setS_same T a v).1] at hb
  rw [getD_set _ _ _ _ (by rw [h.len]; exact ha.2), nowC_setS hok]
  by_cases e : a = b
  · rw [if_pos e, if_pos ⟨ha.1, ha.2, e⟩]
  · rw [if_neg e, if_neg (fun hh => e hh.2.2)]
    exact h.at_ b hb
theorem setS_out {a v : Nat} (ha : ¬ (fsN T.n ≤ a ∧ a < T.n)) : Cnt.setS T a v = T := by unfold Cnt.setS; rw [if_neg ha]
theorem zs_getD (i : Nat) : (zs kT).getD i 0 = 0 := by
  unfold zs
  rw [List.getD_eq_getElem?_getD, List.getElem?_replicate]
  split <;> rfl
/-- the tallies that are sealed are those that are touched -/
theorem chs_touched {A : List Nat} {ks : List Nat} (h : Good s T) (hA : NowIs T A) (hks : ks.Pairwise (· < ·)) (hmem : ∀ a, a ∈ ks ↔ (T.C a).isSome = true) : chs T ks = (List.range (T.n / 64 + 1)).filter (tch A T.n) := by
  refine sorted_ext (hks.filter _) (List.pairwise_lt_range.filter _) fun p => ?_
  have hch : ∀ p, p < tlN T.n → (chg T p ≠ [] ↔ tch A T.n p = true) := fun p hp => by
    rw [tch_iff]
    constructor
    · intro hc
      obtain ⟨x, hx⟩ := List.exists_mem_of_ne_nil _ hc
      obtain ⟨i, hi, _⟩ := List.mem_map.1 hx
      obtain ⟨hi1, hi2⟩ := List.mem_filter.1 hi
      have hi3 := List.mem_range.1 hi1
      unfold differs at hi2
      rw [decide_eq_true_eq, h.tz p hp, zs_getD] at hi2
      have hr : fsN T.n ≤ p * 64 + i ∧ p * 64 + i < T.n := Classical.byContradiction fun hn => hi2 (h.clean p i hp hi3 hn)
      refine ⟨p * 64 + i, hr.2, by omega, ?_⟩
      rw [hA.at_ _ hr.2]
      unfold TD.nowC cntV
      rw [if_pos hr, show (p * 64 + i) / 64 = p by omega, show (p * 64 + i) % 64 = i by omega]
      exact hi2
    · rintro ⟨a, ha, rfl, hne⟩ hc
      rw [hA.at_ a ha] at hne
      unfold TD.nowC cntV at hne
      split at hne
      · rename_i hr
        have := now_of_none h.ok hc
        rw [this, h.tz _ hp, zs_getD] at hne
        exact hne rfl
      · exact hne rfl
  unfold chs
  rw [List.mem_filter, List.mem_filter, List.mem_range, decide_eq_true_eq]
  constructor
  · rintro ⟨h1, h2⟩
    obtain ⟨ns, hns⟩ := Option.isSome_iff_exists.1 ((hmem p).1 h1)
    have hp := h.ok.ck p ns hns
    exact ⟨by unfold tlN at hp; omega, (hch p hp).1 h2⟩
  · rintro ⟨h1, h2⟩
    obtain ⟨a, ha, hap, hne⟩ := (tch_iff _ _ _).1 h2
    have hp : p < tlN T.n := by unfold tlN; omega
    have h3 := (hch p hp).2 h2
    refine ⟨(hmem p).2 ?_, h3⟩
    cases hc : T.C p with
    | some ns => rfl
    | none =>
      exfalso
      rw [hA.at_ a ha] at hne
      unfold TD.nowC cntV at hne
      split at hne
      · rw [hap, now_none hc, h.tz p hp, zs_getD] at hne
        exact hne rfl
      · exact hne rfl
/-- where the tallies and the pick are put -/
theorem Good.tlPut_at (h : Good s T) (hn : T.n ≤ 5000) {p : Nat} (hp : p < tlN T.n) : (tlPut T p).1 = 2 * (2 + p) + 1 := by
  obtain ⟨h1, h2⟩ := plan_of h.ok.plan
  have hp1 := (pkN_one h1 (by omega)).1
  show other (tlAt T p) = _
  have hb : bitAt (T.PV 0) p = 0 := by rw [h.pz, bitAt_zs]
  rw [tlAt_one hp1 (by unfold tlN at hp; omega), hb, other_two _ _ (by omega)]
theorem Good.pkPut_at (h : Good s T) (L : List Nat) : (pkPut T L).1 = 3 := by
  show other (pkAt T 0) = _
  rw [pkAt_one, h.of_.chE, other_two _ _ (by omega)]
theorem Good.sealCh (h : Good s T) (ks : List Nat) : sealCh T ks = if chs T ks = [] then 0 else 1 := by
  unfold Cnt.sealCh
  rw [h.of_.chE]
  rfl
theorem Good.seal_len (ks : List Nat) : (sealL T ks).length = (chs T ks).length + min (chs T ks).length 1 := by
  unfold sealL
  rw [List.length_append, List.length_map]
  cases chs T ks with
  | nil => rfl
  | cons a l => simp
theorem seal_get (T : TD) (ks : List Nat) : (∀ j (hc : j < (chs T ks).length), (sealL T ks)[j]? = some (tlPut T (chs T ks)[j])) ∧ (chs T ks ≠ [] → (sealL T ks)[(chs T ks).length]? = some (pkPut T (chs T ks))) := by
  unfold sealL
  refine ⟨fun j hc => ?_, fun hz => ?_⟩
  · rw [List.getElem?_append_left (by rw [List.length_map]; exact hc), List.getElem?_map, List.getElem?_eq_getElem hc]
    rfl
  · rw [List.getElem?_append_right (by rw [List.length_map]; exact Nat.le_refl _), List.length_map, Nat.sub_self, if_neg hz]
    rfl
/-- the addresses of what is sealed -/
theorem Good.seal_at (h : Good s T) (hn : T.n ≤ 5000) {ks : List Nat} (hks : ks.Pairwise (· < ·)) (hmem : ∀ a, a ∈ ks ↔ (T.C a).isSome = true) :
    (∀ j (hj : j < (sealL T ks).length), 2 ≤ (sealL T ks)[j].1 ∧ (sealL T ks)[j].1 < fsN T.n) ∧
    (∀ j (hj : j + 1 < (sealL T ks).length), j + 1 < (chs T ks).length → ((sealL T ks)[j]'(by omega)).1 < (sealL T ks)[j + 1].1) := by
  obtain ⟨h1, h2⟩ := plan_of h.ok.plan
  have hpf := plan_facts h1 h2
  have hlt : ∀ p ∈ chs T ks, p < tlN T.n := fun p hp => by
    obtain ⟨ns, hns⟩ := Option.isSome_iff_exists.1 ((hmem p).1 (List.mem_filter.1 hp).1)
    exact h.ok.ck p ns hns
  obtain ⟨g1, g2⟩ := seal_get T ks
  have hl := Good.seal_len (T := T) ks
  have hget : ∀ j (hj : j < (sealL T ks).length) (hc : j < (chs T ks).length), (sealL T ks)[j].1 = 2 * (2 + (chs T ks)[j]) + 1 := fun j hj hc => by
    have e := g1 j hc
    rw [List.getElem?_eq_getElem hj] at e
    rw [Option.some.inj e, h.tlPut_at hn (hlt _ (List.getElem_mem hc))]
  refine ⟨fun j hj => ?_, fun j hj hc => ?_⟩
  · by_cases hc : j < (chs T ks).length
    · rw [hget j hj hc]
      have := hlt _ (List.getElem_mem hc)
      omega
    · have hz : chs T ks ≠ [] := fun e => by
        rw [hl, e] at hj
        exact absurd hj (by simp)
      have hm1 : min (chs T ks).length 1 ≤ 1 := Nat.min_le_right _ _
      rw [hl] at hj
      have h3 : j = (chs T ks).length := by omega
      rw [← hl] at hj
      subst h3
      have e := g2 hz
      rw [List.getElem?_eq_getElem hj] at e
      rw [Option.some.inj e, h.pkPut_at]
      omega
  · rw [hget j (by omega) (by omega), hget (j + 1) hj hc]
    have hp : (chs T ks).Pairwise (· < ·) := hks.filter _
    have := List.pairwise_iff_getElem.1 hp j (j + 1) (by omega) hc (by omega)
    omega
/-- all counts 0: nothing is sealed -/
theorem chs_none {ks : List Nat} (h : Good s T) (hks : ks.Pairwise (· < ·)) (hmem : ∀ a, a ∈ ks ↔ (T.C a).isSome = true) (hz : ∀ a, a < T.n → T.nowC a = 0) : chs T ks = [] := by
  rw [chs_touched h (A := List.replicate T.n 0) ⟨by simp, fun a ha => by rw [hz a ha, List.getD_eq_getElem?_getD, List.getElem?_replicate]; split <;> rfl⟩ hks hmem, List.filter_eq_nil_iff]
  intro p _ hp
  obtain ⟨a, _, _, hne⟩ := (tch_iff _ _ _).1 hp
  rw [List.getD_eq_getElem?_getD, List.getElem?_replicate] at hne
  split at hne <;> exact hne rfl
end
end Go.Proofs.YtojpcgjmainbfaaGreat.Cnt

/-
  For the laws on counts, walked in parts: rows of a law's own beside devices and tables; rows of sets that come in.
-/
namespace Go.Proofs.YtojpcgjmainbfaaGreat.Cnt
open Go.RowKit Go.Maps Go.MapKept RowLaw Crc
open Go.Proofs.YtojpcgjmainbfaaGreat.Dev (Dev DS ptr Turn Step)
set_option maxRecDepth 100000

/-- the outermost loops of a text, in their order -/
def loopsOf : Code → List Code
  | .loop c => [c]
  | .seq a b => loopsOf a ++ loopsOf b
  | .block _ c => loopsOf c
  | .scope c => loopsOf c
  | .cond _ a b => loopsOf a ++ loopsOf b
  | _ => []
section
variable {w W W' : World} {l : List Thing} {K : List (Nat × Obj)}
/-- a store into a block of its own -/
theorem Hall.setCell {q j : Nat} {cs : Array Value} {T : TypeId} {v : Value} (h : Hall w l ((q, .cells cs T (0, 0)) :: K) W) (hw : w.heap.size ≤ q) (hne : ∀ x ∈ K, x.1 ≠ q) : Hall w l ((q, .cells (cs.setIfInBounds j v) T (0, 0)) :: K) (W.setCell ⟨q, j, none⟩ v) := by
  obtain ⟨h1, f, h2, h3, h4⟩ := h
  have h0 := h4 _ List.mem_cons_self
  have ht : Turn [q] W (W.setCell ⟨q, j, none⟩ v) := (Turn.refl _ _).setCell _ _ (.inl (by simp))
  refine ⟨h1.trans (ht.below (by simpa using hw) h1.size), f, fun i x hi => ⟨(h2 i x hi).1.turn ht (fun k hk => ?_), (h2 i x hi).2⟩, h3, fun x hx => ?_⟩
  · have := h0.2 i (List.getElem?_eq_some_iff.1 hi).1
    simp only [List.mem_singleton]
    rintro rfl
    exact this hk
  · rcases List.mem_cons.1 hx with rfl | hx
    · exact ⟨heap_setCell_same W q j _ _ _ h0.1, h0.2⟩
    · have h5 := h4 x (List.mem_cons_of_mem _ hx)
      exact ⟨(heap_setCell_other W ⟨q, j, none⟩ x.1 v (hne x hx)).trans h5.1, h5.2⟩
theorem Hall.size (h : Hall w l K W) : w.heap.size ≤ W.heap.size := h.1.size
end
/-! ### rows -/
def nowCs (A : List Nat) : Array Value := (A.map fun x : Nat => Value.int .u16 (x : Int)).toArray
def nowO (A : List Nat) : Obj := .cells (nowCs A) 37 (0, 0)
theorem nowCs_get {A : List Nat} {j : Nat} (hj : j < A.length) : (nowCs A)[j]? = some (.int .u16 ((A.getD j 0 : Nat) : Int)) := by
  unfold nowCs
  rw [List.getElem?_toArray, List.getElem?_map, List.getElem?_eq_getElem hj, List.getD_eq_getElem?_getD, List.getElem?_eq_getElem hj]
  rfl
theorem nowCs_set (A : List Nat) (j v : Nat) : (nowCs A).setIfInBounds j (.int .u16 (v : Int)) = nowCs (A.set j v) := by
  unfold nowCs
  rw [List.setIfInBounds_toArray, List.map_set]
def tcCs (f : Nat → Bool) (m : Nat) : Array Value := ((List.range m).map fun p => Value.bool (f p)).toArray
def tcO (f : Nat → Bool) (m : Nat) : Obj := .cells (tcCs f m) 4 (0, 0)
theorem tcCs_get (f : Nat → Bool) {m p : Nat} (h : p < m) : (tcCs f m)[p]? = some (.bool (f p)) := by
  unfold tcCs
  rw [List.getElem?_toArray, List.getElem?_map, List.getElem?_range h]
  rfl
theorem tcCs_set (f : Nat → Bool) (m q : Nat) : (tcCs f m).setIfInBounds q (.bool true) = tcCs (fun p => f p || decide (q = p)) m := by
  unfold tcCs
  rw [List.setIfInBounds_toArray]
  congr 1
  refine List.ext_getElem? fun i => ?_
  rw [List.getElem?_set, List.getElem?_map, List.getElem?_map]
  by_cases hi : i < m
  · rw [List.getElem?_range hi]
    by_cases e : q = i
    · subst e
      rw [if_pos rfl, if_pos (by simpa using hi)]
      simp
    · rw [if_neg e]
      simp [e]
  · have hn : (List.range m)[i]? = none := by rw [List.getElem?_eq_none]; simpa using hi
    rw [hn]
    by_cases e : q = i
    · subst e
      rw [if_pos rfl, if_neg (by simpa using hi)]
      rfl
    · rw [if_neg e]
      rfl
theorem info16 : (Tryz.prog.info? 37).map (fun i => (i.zero, i.size, i.bytes)) = some (some (.int .u16 0), 1, 2) := by kernel_rfl
theorem infoBl : (Tryz.prog.info? 4).map (fun i => (i.zero, i.size, i.bytes)) = some (some (.bool false), 1, 1) := by kernel_rfl
theorem make_16 (W : World) (n : Nat) (hn : n ≤ 1000000) : ∃ W' g c, (Instr.makeSlice 52 (.int .u32 (n : Int)) (.int .u32 (n : Int))).run Tryz.prog W = .ok (.slice (some ⟨g, 0, none⟩) n c) W' ∧
    g = W.heap.size ∧ W'.heap[g]? = some (nowO (List.replicate n 0)) ∧ Below W.heap.size W W' := by
  obtain ⟨i0, hi0, hz0, hz1, hz2⟩ := info_parts info16
  obtain ⟨W', h1, h2, h3⟩ := run_make_full (P := Tryz.prog) W W.heap.size 52 37 i0 (.int .u16 0) 1 Tryz.underlying52 hi0 hz0 hz1 .u32 .u32 n (by rw [hz2]; omega) (by unfold maxLen; omega) (Nat.le_refl _)
  refine ⟨W', W.heap.size, n, h1, rfl, ?_, (Turn.of_grown' (B := []) h3 (fun k hk => by cases hk)).nil⟩
  rcases h2.2 with ⟨h4, _⟩ | ⟨g, cap, cur, h4, h5, h6, h7, h8, h9, h10⟩
  · cases h4
  · obtain ⟨rfl, rfl⟩ : g = W.heap.size ∧ cap = n := by cases h4; exact ⟨rfl, rfl⟩
    have e : cur = nowCs (List.replicate cap 0) := by
      apply Array.toList_inj.1
      rw [List.take_of_length_le (by rw [Array.length_toList, h9]; omega)] at h10
      rw [h10]
      refine List.ext_getElem? fun i => ?_
      simp [madeCells, nowCs, Value.cells, Nat.mod_one, List.getElem?_map, List.getElem?_replicate]
      by_cases h : i < cap
      · rw [List.getElem?_range h, if_pos h]; rfl
      · rw [List.getElem?_eq_none (by simpa using h), if_neg h]; rfl
    rw [h6, e]
    rfl
theorem make_bl (W : World) (n : Nat) (hn : n ≤ 1000000) : ∃ W' g c, (Instr.makeSlice 53 (.int .u32 (n : Int)) (.int .u32 (n : Int))).run Tryz.prog W = .ok (.slice (some ⟨g, 0, none⟩) n c) W' ∧
    g = W.heap.size ∧ W'.heap[g]? = some (tcO (fun _ => false) n) ∧ Below W.heap.size W W' := by
  obtain ⟨i0, hi0, hz0, hz1, hz2⟩ := info_parts infoBl
  obtain ⟨W', h1, h2, h3⟩ := run_make_full (P := Tryz.prog) W W.heap.size 53 4 i0 (.bool false) 1 Tryz.underlying53 hi0 hz0 hz1 .u32 .u32 n (by rw [hz2]; omega) (by unfold maxLen; omega) (Nat.le_refl _)
  refine ⟨W', W.heap.size, n, h1, rfl, ?_, (Turn.of_grown' (B := []) h3 (fun k hk => by cases hk)).nil⟩
  rcases h2.2 with ⟨h4, _⟩ | ⟨g, cap, cur, h4, h5, h6, h7, h8, h9, h10⟩
  · cases h4
  · obtain ⟨rfl, rfl⟩ : g = W.heap.size ∧ cap = n := by cases h4; exact ⟨rfl, rfl⟩
    have e : cur = tcCs (fun _ => false) cap := by
      apply Array.toList_inj.1
      rw [List.take_of_length_le (by rw [Array.length_toList, h9]; omega)] at h10
      rw [h10]
      refine List.ext_getElem? fun i => ?_
      simp [madeCells, tcCs, Value.cells, Nat.mod_one, List.getElem?_map]
    rw [h6, e]
    rfl
/-- the cells of the j-th set that came in -/
theorem Sts.cells {w : World} {pa : Option Addr} {xs : List St} (h : Sts w pa xs) {j : Nat} (hj : j < xs.length) : ∃ b off, pa = some ⟨b, off, none⟩ ∧ xs[j].Fits ∧ ∀ W, Below w.heap.size w W →
    W.cell? ⟨b, off + j * 260, none⟩ = some (.int .u32 (xs[j].a : Int)) ∧ W.cell? ⟨b, off + j * 260 + 1, none⟩ = some (.int .u16 (xs[j].n : Int)) ∧ W.cell? ⟨b, off + j * 260 + 2, none⟩ = some (.bool xs[j].s) := by
  obtain ⟨h1, h2⟩ := h
  rcases h2 with h0 | ⟨b, off, hp, hb⟩
  · rw [h0] at hj; exact absurd hj (by simp)
  · refine ⟨b, off, hp, h1 _ (List.getElem_mem hj), fun W hW => ?_⟩
    have hc : ∀ i v, (stCells xs[j])[i]? = some v → W.cell? ⟨b, off + j * 260 + i, none⟩ = some v := fun i v hv => (hW.cell (p := ⟨b, off + j * 260 + i, none⟩) hb.old).trans (hb.at_ j hj i v hv)
    exact ⟨hc 0 _ rfl, hc 1 _ rfl, hc 2 _ rfl⟩
end Go.Proofs.YtojpcgjmainbfaaGreat.Cnt

