/-
  The keys of a map of pointers by numbers, one by one, collected in a slice.
-/
import Derived.Test.YtdadcengelfmhaaGreatCntMap
import Derived.RangeFuncBox
import Derived.RangeFuncLeaves
import Derived.RangeFuncNested
import Derived.RangeFuncBound
import Derived.RangeFuncCalls
import Derived.Shelf.Abstract
import Derived.WalkKit
import Derived.OwnWalkIn
import Derived.TacticsInMore
import Derived.RegionIn
import Derived.LoopNIn
import Derived.LoopIn
import Derived.Maps.AppendAt
import Derived.Sort.MapsRangeIn
import Derived.Sort.KeysCollected
namespace Go.Proofs.YtdadcengelfmhaaGreat.Cnt
open Go.RowKit Go.Shelf RowLaw
open Go.Maps Go.MapKept
open Go.WideShapes (sorted_perm)
open Go.WideElems (Fit rd rg rg_of rd_mk)
open Go.Proofs.YtdadcengelfmhaaGreat.Dev (wfU32)
set_option maxRecDepth 100000
attribute [local go_sem] Oper.semAt_some

theorem nodup_len : ∀ (n : Nat) (l : List Nat), l.Nodup → (∀ x ∈ l, x < n) → l.length ≤ n
  | 0, l, _, h => by
    cases l with
    | nil => exact Nat.le_refl _
    | cons x l => exact absurd (h x List.mem_cons_self) (by omega)
  | n + 1, l, hd, h => by
    have h1 := nodup_len n (l.erase n) (hd.erase n) (fun x hx => by
      have h2 := h x (List.mem_of_mem_erase hx)
      have h3 : x ≠ n := fun e => by
        subst e
        exact (List.Nodup.mem_erase_iff hd).1 hx |>.1 rfl
      omega)
    have h2 := List.length_erase (a := n) (l := l)
    split at h2 <;> omega

/-- how the pointers read: they don't matter -/
def anyR : Value → Option (DataW Unit × List MemPlace) := fun _ => some (.lit (.bool true), [])
abbrev encN (a : Nat) : Value := .int .u32 (a : Int)

theorem key32 {P : Program} {k : TypeId} (hk : P.underlying k = some (.int .u32)) {key : Value} {kl : Lit} (h : keyOf P k key = some kl) : ∃ a : Nat, key = encN a ∧ kl = .int .u32 (a : Int) ∧ a < 4294967296 := by
  cases key <;> simp [keyOf, hk, mapKey] at h
  rename_i q a
  obtain ⟨⟨rfl, hw⟩, rfl⟩ := h
  have : 0 ≤ a ∧ a ≤ 4294967295 := by
    simp [Lit.wf, IntKind.min, IntKind.max, IntKind.signed, IntKind.bits] at hw
    omega
  exact ⟨a.toNat, by unfold encN; rw [Int.toNat_of_nonneg this.1], by rw [Int.toNat_of_nonneg this.1], by omega⟩

section
variable {P : Program} {k : TypeId} {w : World} {b : Nat} {f : Nat → Option Nat}
theorem PMap.owns (hk : P.underlying k = some (.int .u32)) (h : PMap w b f) : ∃ D0 : DataW Unit, w.ownsMap P k anyR b 4294967296 D0 ∧ (∀ a : Nat, has D0 (.int .u32 (a : Int)) = true ↔ (f a).isSome = true) ∧ size D0 ≤ 4294967296 := by
  obtain ⟨es, clock, hb, hs, hr, hc⟩ := h
  have hrd : ∀ x ∈ es.toList, ∃ a q : Nat, a < 4294967296 ∧ f a = some q ∧ x.key = .int .u32 (a : Int) ∧ rd P k anyR x = some (.int .u32 (a : Int), .lit (.bool true)) := fun x hx => by
    obtain ⟨a, q, ha, he, hf, _⟩ := hr x hx
    refine ⟨a, q, ha, hf, he, ?_⟩
    have := rd_mk (P := P) (k := k) (R := anyR) (key := x.key) (val := x.val) (born := x.born) (kl := .int .u32 (a : Int)) (yv := (.lit (.bool true), [])) (by rw [he]; exact keyOf_int_mk hk (wfU32 ha)) rfl
    exact this
  have hlen : es.size ≤ 4294967296 := by
    have hp := ((stamped_iff es clock).1 hs).2.2
    let g : MapEntry → Nat := fun x => match x.key with
      | .int _ a => a.toNat
      | _ => 0
    have hg : ∀ x ∈ es.toList, x.key = .int .u32 (g x : Int) ∧ g x < 4294967296 := fun x hx => by
      obtain ⟨a, _, ha, _, he, _⟩ := hrd x hx
      have : g x = a := by show (match x.key with | .int _ a => a.toNat | _ => 0) = a; rw [he]; simp
      rw [this]; exact ⟨he, ha⟩
    have h1 := nodup_len 4294967296 (es.toList.map g) (by
      refine List.pairwise_map.2 (hp.imp_of_mem fun {x y} hx hy hne e => hne ?_)
      rw [(hg x hx).1, (hg y hy).1, e]) (fun x hx => by
      obtain ⟨y, hy, rfl⟩ := List.mem_map.1 hx
      exact (hg y hy).2)
    simpa using h1
  have F : Fit P k anyR es clock := ⟨Nat.le_trans hlen (by decide), hs, fun x hx => by obtain ⟨a, _, _, _, _, h⟩ := hrd x hx; exact ⟨_, h⟩⟩
  refine ⟨_, ⟨es, clock, hb, F, hlen, rfl⟩, fun a => ?_, ?_⟩
  · rw [has_eq, List.any_eq_true]
    constructor
    · rintro ⟨p, hp, hsk⟩
      obtain ⟨x, hx, rfl⟩ := List.mem_map.1 (mem_sorted.1 hp)
      obtain ⟨a', q, _, hf, _, hrx⟩ := hrd x hx
      rw [rg_of hrx] at hsk
      have : a' = a := by
        simp [Lit.sameKey] at hsk
        omega
      rw [← this, hf]; rfl
    · intro hs
      obtain ⟨q, hq⟩ := Option.isSome_iff_exists.1 hs
      obtain ⟨x, hx, he⟩ := hc a q hq
      refine ⟨_, mem_sorted.2 (List.mem_map.2 ⟨x, hx, rfl⟩), ?_⟩
      obtain ⟨a', _, _, _, he', hrx⟩ := hrd x hx
      rw [he] at he'
      injection he' with _ he'
      rw [rg_of hrx]
      simp [Lit.sameKey, he']
  · rw [size_eq, (sorted_perm _).length_eq, List.length_map]
    simpa using hlen
end

/-- what has come of a map's keys -/
def Coll (D0 : DataW Unit) (left : Lit → Bool) (ss : List Nat) : Prop := ss.Nodup ∧ ∀ a : Nat, a ∈ ss ↔ (has D0 (.int .u32 (a : Int)) = true ∧ left (.int .u32 (a : Int)) = false)
theorem Coll.start (D0 : DataW Unit) : Coll D0 (has D0) [] := ⟨List.nodup_nil, fun a => by cases has D0 (.int .u32 (a : Int)) <;> simp⟩
theorem Coll.step {D0 : DataW Unit} {left : Lit → Bool} {ss : List Nat} (h : Coll D0 left ss) {x : Nat} {y : DataW Unit} (hlk : left (.int .u32 (x : Int)) = true) (hat : ∀ zd, D0.atKey (.int .u32 (x : Int)) zd = y) :
    Coll D0 (fun z => left z && !z.sameKey (.int .u32 (x : Int))) (ss ++ [x]) := by
  have hhas : has D0 (.int .u32 (x : Int)) = true := has_true_of_atKey hat
  have hnew : x ∉ ss := fun hx => by have := ((h.2 x).1 hx).2; rw [hlk] at this; cases this
  refine ⟨List.nodup_append.2 ⟨h.1, by simp, fun a ha b hb => by simp at hb; subst hb; exact fun e => hnew (e ▸ ha)⟩, fun y => ?_⟩
  by_cases hy : y = x
  · subst hy; simp [hhas, Lit.sameKey]
  · have : ¬ (y : Int) = (x : Int) := by omega
    simp [h.2 y, hy, Lit.sameKey, this]

def keysF (q : Nat) : Value := .func (.func 90) #[] #[.pointer (some ⟨q, 0, none⟩)]
set_option maxHeartbeats 1600000 in
theorem Keys_in (n : Nat) (mb : Nat) (W : World) : CallsIn Fence.wide n Tryz.prog 61 #[.map (some mb)] W fun e w' => e = .returned (keysF W.heap.size) ∧ w' = W.alloc (.cells #[.map (some mb)] 55) := by
  refine callsIn_of_wp Tryz.func61 rfl trivial ?_ rfl
  simp only [Tryz.ntmps61, List.size_toArray, List.length_cons, List.length_nil, Nat.reduceAdd, Nat.reduceSub, Array.replicate_succ, Array.replicate_zero, List.push_toArray, List.append_toArray, List.nil_append, List.cons_append]
  gi_wp2
  go_ret
  exact ⟨rfl, rfl⟩

set_option linter.unusedSimpArgs false in
set_option maxHeartbeats 3200000 in
theorem keys_stops (n : Nat) (hn : 1 ≤ n) {w : World} {b q : Nat} {f : Nat → Option Nat} (hm : PMap w b f) (hq : w.cell? ⟨q, 0, none⟩ = some (.map (some b))) (hql : q < w.heap.size) :
    SeqStops Fence.wide n Tryz.prog 90 #[.pointer (some ⟨q, 0, none⟩)] encN (fun ss => ss.Nodup ∧ ∀ a, a ∈ ss ↔ (f a).isSome = true) (fun _ => True) 4294967296 w := fun l J Jx W hW hJ _ hY h0 => by
  have hm' : PMap W b f := hm.kept (hW.block b hm.lt)
  obtain ⟨D0, hown, hhas, hsz⟩ := hm'.owns (P := Tryz.prog) (k := 22) Tryz.underlying22
  have hqW : W.cell? ⟨q, 0, none⟩ = some (.map (some b)) := (hW.cell (p := ⟨q, 0, none⟩) hql).trans hq
  refine callsIn_of_wp Tryz.func90 rfl trivial ?_ rfl
  simp only [Tryz.ntmps90, List.size_toArray, List.length_cons, List.length_nil, Nat.reduceAdd, Nat.reduceSub, Array.replicate_succ, Array.replicate_zero, List.push_toArray, List.append_toArray, List.nil_append, List.cons_append]
  gi_wp2_with (first
    | (gi_at_range; refine wpListIn_range_own _ rfl _ 55 rfl 22 88 (int_keyed Tryz.underlying22) Tryz.underlying55 anyR b 4294967296 _ rfl hown ?_; intro w0 hrg0 hg0 hs0)
    | gi_in)
  go_frame
  gi_loopw [3] (fun _ wr => ∃ (left : Lit → Bool) (cnt : Nat) (ss : List Nat), wr.ranges Tryz.prog 22 anyR b W.heap.size 4294967296 D0 left cnt ∧ ss.length + cnt ≤ size D0 ∧ Coll D0 left ss ∧ J ss wr)
    (fun _ wr => wr.rangeLeft b W.heap.size)
  case atStart =>
    exact ⟨_, _, [], hrg0, by simp, Coll.start D0, hJ [] W w0 none h0 hg0 (fun r e => by cases e)⟩
  case round =>
    obtain ⟨left, cnt, ss, hrg, hcs, hC, hJs⟩ := hrel
    gi_wp2_with (first
      | (gi_at_next; refine wpListIn_next_ranges _ rfl _ rfl 22 (int_keyed Tryz.underlying22) anyR encN id (fun key kl hk => by obtain ⟨x, hx, _⟩ := key32 Tryz.underlying22 hk; exact ⟨x, hx⟩) (fun v _ _ => ⟨v, rfl⟩) b W.heap.size 4294967296 _ _ _ rfl hrg ?_ ?_)
      | gi_in)
    · intro hc0 hl0
      gi_wp2
      go_end0
      exact ⟨⟨_, rfl⟩, .inl ⟨ss, ⟨hC.1, fun a => by rw [hC.2 a, hl0, hhas a]; simp⟩, hJs⟩⟩
    · intro x c kl yd yp w2 cnt2 hkey hlk hv hat hrg2 hlt hg2 hs2 hen
      obtain ⟨x', ex, rfl, _⟩ := key32 Tryz.underlying22 hkey
      obtain rfl : x = x' := by unfold encN at ex; injection ex with _ ex; omega
      have hJ2 : J ss w2 := hJ ss wr w2 (some W.heap.size) hJs hg2 (fun r e => by cases e; exact ⟨Nat.le_refl _, hrg.iter_walk⟩)
      obtain ⟨fn, tmps, assign, body, hy, hR⟩ := hY ss x w2 hJ2 (by omega)
      have hC2 := hC.step hlk hat
      clear hs2
      gi_wp2
      refine hR.mono ?_
      rintro e W3 (⟨rfl, hJ3, hk3⟩ | ⟨rfl, hJx3⟩)
      · gi_wp2
        have hrg3 := hrg2.of_walks hk3
        go_roundw
        case rel => exact ⟨_, cnt2, ss ++ [x], hrg3, by simp; omega, hC2, hJ3⟩
        case measure => rw [hrg3.left_eq, hrg.left_eq]; exact hlt
      · gi_wp2
        refine bodyPost_ret (results_none rfl _ _ _) rfl ?_
        exact ⟨⟨_, rfl⟩, .inr ⟨ss ++ [x], trivial, hJx3⟩⟩
end Go.Proofs.YtdadcengelfmhaaGreat.Cnt
