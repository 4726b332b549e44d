/-
  Tables of counts in memory: what one of them reads as; the blocks that it lies in; what a device must hold for it.
-/
import Derived.Test.YtdadcengelfmhaaGreatCntMap
import Derived.Test.YtdadcengelfmhaaGreatRotD
import Derived.Test.YtdadcengelfmhaaGreatTal1
namespace Go.Proofs.YtdadcengelfmhaaGreat.Cnt
open Go.RowKit Go.Maps Go.MapKept RowLaw Crc
open Go.Proofs.YtdadcengelfmhaaGreat.Dev (Dev DS ptr Turn Step readB)
open Go.Proofs.YtdadcengelfmhaaGreat.Tal (pgCells IsPg kT kP getE getNs)
open Go.Proofs.YtdadcengelfmhaaGreat.Rot (planOk tlN pkN fsN planCells)
set_option maxRecDepth 100000

/-- a table, by value: its device's object, the device's size, the root's Picks, the picks and the tallies that the root gives, the tallies in which counts were set -/
structure TD where
  d : Nat
  n : Nat
  ch : Nat
  PV : Nat → List Nat
  TV : Nat → List Nat
  C : Nat → Option (List Nat)
structure TOk (T : TD) : Prop where
  plan : planOk T.n = true
  ch : T.ch < 4294967296
  pl : ∀ k, (T.PV k).length = 16
  pn : ∀ k, ∀ x ∈ T.PV k, x < 18446744073709551616
  tl : ∀ p, (T.TV p).length = 64
  tn : ∀ p, ∀ x ∈ T.TV p, x < 65536
  cl : ∀ p ns, T.C p = some ns → ns.length = 64 ∧ ∀ x ∈ ns, x < 65536
  ck : ∀ p ns, T.C p = some ns → p < tlN T.n
/-- the present counts of a tally -/
def TD.now (T : TD) (p : Nat) : List Nat := (T.C p).getD (T.TV p)
def bitAt (ns : List Nat) (i : Nat) : Nat := ns.getD (i / 64) 0 / 2 ^ (i % 64) % 2
def pkAt (T : TD) (k : Nat) : Nat := 2 + 2 * k + T.ch / 2 ^ k % 2
def tlAt (T : TD) (p : Nat) : Nat := 2 + 2 * (pkN T.n + p) + bitAt (T.PV (p / 1024)) (p % 1024)
/-- the device holds the pages -/
structure Reads (s : DS) (T : TD) : Prop where
  n : s.n = T.n
  pend : s.pend.length < 4294967296
  pick : ∀ k, k < pkN T.n → getE kP (readB s (pkAt T k)) k = 0 ∧ getNs kP (readB s (pkAt T k)) k = T.PV k
  tally : ∀ p, p < tlN T.n → getE kT (readB s (tlAt T p)) p = 0 ∧ getNs kT (readB s (tlAt T p)) p = T.TV p

theorem plan_of {n : Nat} (h : planOk n = true) : 64 ≤ n ∧ n ≤ 1048576 := by
  simpa [planOk] using h
theorem bitAt_lt (ns : List Nat) (i : Nat) : bitAt ns i < 2 := Nat.mod_lt _ (by omega)
theorem pkAt_lt {T : TD} (hk : TOk T) {k : Nat} (h : k < pkN T.n) : pkAt T k < T.n := by
  obtain ⟨h1, h2⟩ := plan_of hk.plan
  have := Rot.plan_facts h1 h2
  have : T.ch / 2 ^ k % 2 < 2 := Nat.mod_lt _ (by omega)
  unfold pkAt
  omega
theorem tlAt_lt {T : TD} (hk : TOk T) {p : Nat} (h : p < tlN T.n) : tlAt T p < T.n := by
  obtain ⟨h1, h2⟩ := plan_of hk.plan
  have := Rot.plan_facts h1 h2
  have := bitAt_lt (T.PV (p / 1024)) (p % 1024)
  unfold tlAt
  omega
theorem pick_of_tally {T : TD} (hk : TOk T) {p : Nat} (h : p < tlN T.n) : p / 1024 < pkN T.n := by
  obtain ⟨h1, h2⟩ := plan_of hk.plan
  have := Rot.plan_facts h1 h2
  omega

def tabCells (T : TD) (bp bt bc : Nat) : Array Value :=
  #[ptr T.d, .int .u32 (tlN T.n : Int), .int .u32 (pkN T.n : Int), .int .u32 (fsN T.n : Int), .int .u32 (T.ch : Int), .map (some bp), .map (some bt), .map (some bc)]

structure TabAt (w : World) (t bp bt bc : Nat) (fp ft fc : Nat → Option Nat) (B : List Nat) (T : TD) : Prop where
  ok : TOk T
  obj : w.heap[t]? = some (.cells (tabCells T bp bt bc) 57 (0, 0))
  mp : PMap w bp fp
  mt : PMap w bt ft
  mc : PMap w bc fc
  pp : ∀ k q, fp k = some q → IsPg .u64 73 w q k (T.PV k) ∧ q ∈ B
  pt : ∀ p q, ft p = some q → IsPg .u16 68 w q p (T.TV p) ∧ q ∈ B
  pc : ∀ p q, fc p = some q → (∃ ns, T.C p = some ns ∧ IsPg .u16 68 w q p ns) ∧ q ∈ B
  nc : ∀ p, fc p = none → T.C p = none
  has : ∀ p q, fc p = some q → ∃ q', ft p = some q'
  hasP : ∀ p q, ft p = some q → ∃ q', fp (p / 1024) = some q'
  dis : ∀ p p' q, ft p = some q → fc p' = some q → False
  inB : t ∈ B ∧ bp ∈ B ∧ bt ∈ B ∧ bc ∈ B
  ne : bp ≠ bt ∧ bp ≠ bc ∧ bt ≠ bc
  ltB : ∀ k ∈ B, k < w.heap.size
def TabIn (w : World) (t bp bt bc : Nat) (B : List Nat) (T : TD) : Prop := ∃ fp ft fc, TabAt w t bp bt bc fp ft fc B T
def Tab (w : World) (t : Nat) (B : List Nat) (T : TD) : Prop := ∃ bp bt bc, TabIn w t bp bt bc B T

theorem notPg_of_map {K : IntKind} {ty : TypeId} {w : World} {b q idx : Nat} {ns : List Nat} {f : Nat → Option Nat} (hm : PMap w b f) (h : IsPg K ty w q idx ns) : b ≠ q := fun e => by
  subst e
  exact hm.notCells h

section
variable {w w' : World} {t bp bt bc : Nat} {fp ft fc : Nat → Option Nat} {B C : List Nat} {T : TD}
theorem TabAt.turn (h : TabAt w t bp bt bc fp ft fc B T) (ht : Turn C w w') (hd : ∀ k ∈ B, k ∉ C) : TabAt w' t bp bt bc fp ft fc B T := by
  have hb : ∀ k ∈ B, w'.heap[k]? = w.heap[k]? := fun k hk => ht.block k (h.ltB k hk) (hd k hk)
  refine ⟨h.ok, (hb t h.inB.1).trans h.obj, h.mp.kept (hb _ h.inB.2.1), h.mt.kept (hb _ h.inB.2.2.1), h.mc.kept (hb _ h.inB.2.2.2), fun k q hq => ?_, fun p q hq => ?_, fun p q hq => ?_, h.nc, h.has, h.hasP, h.dis, h.inB, h.ne, fun k hk => Nat.lt_of_lt_of_le (h.ltB k hk) ht.size⟩
  · obtain ⟨h1, h2⟩ := h.pp k q hq
    exact ⟨(hb q h2).trans h1, h2⟩
  · obtain ⟨h1, h2⟩ := h.pt p q hq
    exact ⟨(hb q h2).trans h1, h2⟩
  · obtain ⟨⟨ns, h0, h1⟩, h2⟩ := h.pc p q hq
    exact ⟨⟨ns, h0, (hb q h2).trans h1⟩, h2⟩
theorem TabAt.below (h : TabAt w t bp bt bc fp ft fc B T) (ht : Below w.heap.size w w') : TabAt w' t bp bt bc fp ft fc B T := h.turn (C := []) (Turn.of_below ht) (by simp)
theorem TabAt.drew (h : TabAt w t bp bt bc fp ft fc B T) : TabAt w.drew t bp bt bc fp ft fc B T := h.below ⟨rfl, rfl, rfl, Nat.le_refl _, fun _ _ => rfl⟩
theorem TabAt.alloc (h : TabAt w t bp bt bc fp ft fc B T) (o : Obj) : TabAt (w.alloc o) t bp bt bc fp ft fc B T := h.below ((Below.refl _ _).alloc (Nat.le_refl _) o)
theorem TabAt.cell (h : TabAt w t bp bt bc fp ft fc B T) (j : Nat) : w.cell? ⟨t, j, none⟩ = (tabCells T bp bt bc)[j]? := cell_of_row w t j _ _ _ h.obj
theorem TabAt.more (h : TabAt w t bp bt bc fp ft fc B T) {q : Nat} (hq : q < w.heap.size) : TabAt w t bp bt bc fp ft fc (q :: B) T :=
  { h with
    pp := fun k x hx => ⟨(h.pp k x hx).1, List.mem_cons_of_mem _ (h.pp k x hx).2⟩
    pt := fun k x hx => ⟨(h.pt k x hx).1, List.mem_cons_of_mem _ (h.pt k x hx).2⟩
    pc := fun k x hx => ⟨(h.pc k x hx).1, List.mem_cons_of_mem _ (h.pc k x hx).2⟩
    inB := ⟨List.mem_cons_of_mem _ h.inB.1, List.mem_cons_of_mem _ h.inB.2.1, List.mem_cons_of_mem _ h.inB.2.2.1, List.mem_cons_of_mem _ h.inB.2.2.2⟩
    ltB := fun k hk => by
      rcases List.mem_cons.1 hk with rfl | hk
      · exact hq
      · exact h.ltB k hk }
/-- the object is no map, and no page -/
theorem TabAt.neT (h : TabAt w t bp bt bc fp ft fc B T) : bp ≠ t ∧ bt ≠ t ∧ bc ≠ t := ⟨fun e => h.mp.notCells (by rw [e]; exact h.obj), fun e => h.mt.notCells (by rw [e]; exact h.obj), fun e => h.mc.notCells (by rw [e]; exact h.obj)⟩
theorem notObj {K : IntKind} {ty : TypeId} {q idx : Nat} {ns : List Nat} (h : TabAt w t bp bt bc fp ft fc B T) (hp : IsPg K ty w q idx ns) (hn : ty ≠ 57) : q ≠ t := fun e => by
  subst e
  unfold IsPg at hp
  rw [h.obj] at hp
  injection hp with hp
  injection hp with _ hp
  exact hn hp.symm
theorem sameIdx {K : IntKind} {ty : TypeId} {q idx idx' : Nat} {ns ns' : List Nat} (h : IsPg K ty w q idx ns) (h' : IsPg K ty w q idx' ns') : idx = idx' := by
  have e := h.index.symm.trans h'.index
  injection e with e
  injection e with _ e
  omega
theorem pick_not_tally {q k p : Nat} {ns ns' : List Nat} (h : IsPg .u64 73 w q k ns) (h' : IsPg .u16 68 w q p ns') : False := by
  unfold IsPg at h h'
  rw [h] at h'
  injection h' with e
  injection e with _ e
  exact absurd e (by decide)

theorem hasP_set {f : Nat → Option Nat} {k q j : Nat} (h : ∃ x, f j = some x) : ∃ x, setP f k q j = some x := by
  obtain ⟨x, hx⟩ := h
  by_cases hk : j = k
  · exact ⟨q, by rw [hk, setP_self]⟩
  · exact ⟨x, by rw [setP_other hk]; exact hx⟩
/-- a pick is kept -/
theorem TabAt.addP (h : TabAt w t bp bt bc fp ft fc B T) {k q : Nat} (hq : IsPg .u64 73 w q k (T.PV k)) (hn : q ∉ B) (hm : PMap w' bp (setP fp k q)) (hg : w.grownBy w' (some bp)) :
    TabAt w' t bp bt bc (setP fp k q) ft fc (q :: B) T := by
  have h' := h.more hq.lt
  have hb : ∀ x ∈ q :: B, x ≠ bp → w'.heap[x]? = w.heap[x]? := fun x hx hne => hg.block x (h'.ltB x hx) (fun e => hne (by cases e; rfl))
  have nq : q ≠ bp := fun e => hn (e ▸ h.inB.2.1)
  refine ⟨h.ok, (hb t h'.inB.1 h.neT.1.symm).trans h.obj, hm, h.mt.kept (hb _ h'.inB.2.2.1 h.ne.1.symm), h.mc.kept (hb _ h'.inB.2.2.2 h.ne.2.1.symm), fun k' x hx => ?_, fun p x hx => ?_, fun p x hx => ?_, h.nc, h.has, fun p x hx => hasP_set (h.hasP p x hx), h.dis, h'.inB, h.ne, fun x hx => Nat.lt_of_lt_of_le (h'.ltB x hx) hg.size⟩
  · by_cases hk : k' = k
    · subst hk
      rw [setP_self] at hx
      cases hx
      exact ⟨(hb q List.mem_cons_self nq).trans hq, List.mem_cons_self⟩
    · rw [setP_other hk] at hx
      obtain ⟨h1, h2⟩ := h'.pp k' x hx
      exact ⟨(hb x h2 (notPg_of_map h.mp h1).symm).trans h1, h2⟩
  · obtain ⟨h1, h2⟩ := h'.pt p x hx
    exact ⟨(hb x h2 (notPg_of_map h.mp h1).symm).trans h1, h2⟩
  · obtain ⟨⟨ns, h0, h1⟩, h2⟩ := h'.pc p x hx
    exact ⟨⟨ns, h0, (hb x h2 (notPg_of_map h.mp h1).symm).trans h1⟩, h2⟩
/-- a tally is kept -/
theorem TabAt.addT (h : TabAt w t bp bt bc fp ft fc B T) {k q : Nat} (hqp : ∃ x, fp (k / 1024) = some x) (hq : IsPg .u16 68 w q k (T.TV k)) (hn : q ∉ B) (hm : PMap w' bt (setP ft k q)) (hg : w.grownBy w' (some bt)) :
    TabAt w' t bp bt bc fp (setP ft k q) fc (q :: B) T := by
  have h' := h.more hq.lt
  have hb : ∀ x ∈ q :: B, x ≠ bt → w'.heap[x]? = w.heap[x]? := fun x hx hne => hg.block x (h'.ltB x hx) (fun e => hne (by cases e; rfl))
  have nq : q ≠ bt := fun e => hn (e ▸ h.inB.2.2.1)
  refine ⟨h.ok, (hb t h'.inB.1 h.neT.2.1.symm).trans h.obj, h.mp.kept (hb _ h'.inB.2.1 h.ne.1), hm, h.mc.kept (hb _ h'.inB.2.2.2 h.ne.2.2.symm), fun p x hx => ?_, fun k' x hx => ?_, fun p x hx => ?_, h.nc, fun p x hx => ?_, fun p x hx => (if hpk : p = k then hpk ▸ hqp else h.hasP p x (by rwa [setP_other hpk] at hx)), fun p p' x hx hx' => ?_, h'.inB, h.ne, fun x hx => Nat.lt_of_lt_of_le (h'.ltB x hx) hg.size⟩
  · obtain ⟨h1, h2⟩ := h'.pp p x hx
    exact ⟨(hb x h2 (notPg_of_map h.mt h1).symm).trans h1, h2⟩
  · by_cases hk : k' = k
    · subst hk
      rw [setP_self] at hx
      cases hx
      exact ⟨(hb q List.mem_cons_self nq).trans hq, List.mem_cons_self⟩
    · rw [setP_other hk] at hx
      obtain ⟨h1, h2⟩ := h'.pt k' x hx
      exact ⟨(hb x h2 (notPg_of_map h.mt h1).symm).trans h1, h2⟩
  · obtain ⟨⟨ns, h0, h1⟩, h2⟩ := h'.pc p x hx
    exact ⟨⟨ns, h0, (hb x h2 (notPg_of_map h.mt h1).symm).trans h1⟩, h2⟩
  · obtain ⟨q', hq'⟩ := h.has p x hx
    by_cases hk : p = k
    · exact ⟨q, by rw [hk, setP_self]⟩
    · exact ⟨q', by rw [setP_other hk]; exact hq'⟩
  · by_cases hk : p = k
    · rw [hk, setP_self] at hx
      cases hx
      exact hn (h.pc p' _ hx').2
    · rw [setP_other hk] at hx
      exact h.dis p p' x hx hx'
def setC (T : TD) (p : Nat) (ns : List Nat) : TD := { T with C := fun x => if x = p then some ns else T.C x }
theorem TOk.setC (h : TOk T) {p : Nat} {ns : List Nat} (hl : ns.length = 64) (hn : ∀ x ∈ ns, x < 65536) (hp : p < tlN T.n) : TOk (Cnt.setC T p ns) :=
  ⟨h.plan, h.ch, h.pl, h.pn, h.tl, h.tn, fun p' ns' he => by
    unfold Cnt.setC at he
    simp only at he
    split at he
    · cases he; exact ⟨hl, hn⟩
    · exact h.cl p' ns' he, fun p' ns' he => by
    unfold Cnt.setC at he ⊢
    simp only at he ⊢
    split at he
    · rename_i e; rw [e]; exact hp
    · exact h.ck p' ns' he⟩
/-- a tally of one's own is kept -/
theorem TabAt.addC (h : TabAt w t bp bt bc fp ft fc B T) {p q : Nat} {ns : List Nat} (hl : ns.length = 64) (hnn : ∀ x ∈ ns, x < 65536) (hpn : p < tlN T.n) (hq : IsPg .u16 68 w q p ns) (hn : q ∉ B) (ho : ∃ q', ft p = some q') (hm : PMap w' bc (setP fc p q)) (hg : w.grownBy w' (some bc)) :
    TabAt w' t bp bt bc fp ft (setP fc p q) (q :: B) (setC T p ns) := by
  have h' := h.more hq.lt
  have hb : ∀ x ∈ q :: B, x ≠ bc → w'.heap[x]? = w.heap[x]? := fun x hx hne => hg.block x (h'.ltB x hx) (fun e => hne (by cases e; rfl))
  have nq : q ≠ bc := fun e => hn (e ▸ h.inB.2.2.2)
  refine ⟨h.ok.setC hl hnn hpn, (hb t h'.inB.1 h.neT.2.2.symm).trans h.obj, h.mp.kept (hb _ h'.inB.2.1 h.ne.2.1), h.mt.kept (hb _ h'.inB.2.2.1 h.ne.2.2), hm, fun k x hx => ?_, fun k x hx => ?_, fun p' x hx => ?_, fun p' hx => ?_, fun p' x hx => ?_, h.hasP, fun k p' x hx hx' => ?_, h'.inB, h.ne, fun x hx => Nat.lt_of_lt_of_le (h'.ltB x hx) hg.size⟩
  · obtain ⟨h1, h2⟩ := h'.pp k x hx
    exact ⟨(hb x h2 (notPg_of_map h.mc h1).symm).trans h1, h2⟩
  · obtain ⟨h1, h2⟩ := h'.pt k x hx
    exact ⟨(hb x h2 (notPg_of_map h.mc h1).symm).trans h1, h2⟩
  · by_cases hk : p' = p
    · subst hk
      rw [setP_self] at hx
      cases hx
      exact ⟨⟨ns, if_pos rfl, (hb q List.mem_cons_self nq).trans hq⟩, List.mem_cons_self⟩
    · rw [setP_other hk] at hx
      obtain ⟨⟨ns', h0, h1⟩, h2⟩ := h'.pc p' x hx
      exact ⟨⟨ns', (if_neg hk).trans h0, (hb x h2 (notPg_of_map h.mc h1).symm).trans h1⟩, h2⟩
  · by_cases hk : p' = p
    · rw [hk, setP_self] at hx
      cases hx
    · rw [setP_other hk] at hx
      exact (if_neg hk).trans (h.nc p' hx)
  · by_cases hk : p' = p
    · rw [hk]; exact ho
    · rw [setP_other hk] at hx
      exact h.has p' x hx
  · by_cases hk : p' = p
    · rw [hk, setP_self] at hx'
      cases hx'
      exact hn (h.pt k _ hx).2
    · rw [setP_other hk] at hx'
      exact h.dis k p' x hx hx'
/-- a count of a tally of one's own is stored -/
theorem TabAt.setNum (h : TabAt w t bp bt bc fp ft fc B T) {p q j n : Nat} {ns : List Nat} (hf : fc p = some q) (hns : T.C p = some ns) (hn : n < 65536) :
    TabAt (w.setCell ⟨q, 1 + j, none⟩ (.int .u16 (n : Int))) t bp bt bc fp ft fc B (setC T p (ns.set j n)) ∧ Step B w (w.setCell ⟨q, 1 + j, none⟩ (.int .u16 (n : Int))) B := by
  obtain ⟨⟨ns1, h0, hq⟩, hqB⟩ := h.pc p q hf
  rw [hns] at h0
  cases h0
  have hcl := h.ok.cl p ns hns
  have hne : ∀ x, x ≠ q → (w.setCell ⟨q, 1 + j, none⟩ (.int .u16 (n : Int))).heap[x]? = w.heap[x]? := fun x hx => heap_setCell_other w _ x _ hx
  have hsz : (w.setCell ⟨q, 1 + j, none⟩ (.int .u16 (n : Int))).heap.size = w.heap.size := by simp [World.setCell]
  refine ⟨⟨h.ok.setC (by rw [List.length_set]; exact hcl.1) (fun x hx => ?_) (h.ok.ck p ns hns), (hne t (notObj h hq (by decide)).symm).trans h.obj, h.mp.kept (hne _ (notPg_of_map h.mp hq)), h.mt.kept (hne _ (notPg_of_map h.mt hq)), h.mc.kept (hne _ (notPg_of_map h.mc hq)), fun k x hx => ?_, fun k x hx => ?_, fun p' x hx => ?_, fun p' hx => ?_, h.has, h.hasP, h.dis, h.inB, h.ne, fun x hx => by rw [hsz]; exact h.ltB x hx⟩, Step.of_turn ((Turn.refl _ _).setCell _ _ (.inl hqB))⟩
  · rcases List.mem_or_eq_of_mem_set hx with hx | rfl
    · exact hcl.2 x hx
    · exact hn
  · obtain ⟨h1, h2⟩ := h.pp k x hx
    exact ⟨(hne x (fun e => pick_not_tally h1 (e ▸ hq))).trans h1, h2⟩
  · obtain ⟨h1, h2⟩ := h.pt k x hx
    exact ⟨(hne x (fun e => h.dis k p q (e ▸ hx) hf)).trans h1, h2⟩
  · by_cases hk : p' = p
    · subst hk
      rw [hf] at hx
      cases hx
      exact ⟨⟨_, if_pos rfl, hq.setNum j n⟩, hqB⟩
    · obtain ⟨⟨ns', h0, h1⟩, h2⟩ := h.pc p' x hx
      exact ⟨⟨ns', (if_neg hk).trans h0, (hne x (fun e => hk (sameIdx (e ▸ h1) hq))).trans h1⟩, h2⟩
  · by_cases hk : p' = p
    · rw [hk, hf] at hx
      cases hx
    · exact (if_neg hk).trans (h.nc p' hx)
end

end Go.Proofs.YtdadcengelfmhaaGreat.Cnt
