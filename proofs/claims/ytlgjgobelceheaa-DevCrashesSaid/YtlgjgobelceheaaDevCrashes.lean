/-
  The walk of the law DevCrashes.
-/
import Derived.Test.YtlgjgobelceheaaDevMany
import Derived.Test.YtlgjgobelceheaaDevCrashesMath
import Derived.Test.YtlgjgobelceheaaDevCrashAddrs
import Derived.Deep.AppendLies
namespace Go.Proofs.Ytlgjgobelceheaa.Dev
open Go.RowKit RowLaw

def LiveC (w : World) (p : Nat) (xs : List Ac) (i : Nat) (W : World) : Prop := ∃ s, CP xs i s ∧ Live w p s [] W
/-- a row beside several devices stays what a crash is told -/
theorem many_row {w W0 W : World} {l : List (Nat × DS)} {pt : Option Addr} {xs : List (Nat × Nat)} (h : Many w l [] W0) (hb : Below W0.heap.size W0 W) (hk : Keeps W pt xs) (hpt : ∀ a, pt = some a → W0.heap.size ≤ a.block ∧ a.block < W.heap.size) :
    ∃ K, Many w l K W ∧ Mine w K pt ∧ ∀ l' W', Many w l' K W' → Keeps W' pt xs := by
  by_cases hne : xs = []
  · subst hne
    cases pt with
    | none => exact ⟨[], h.below hb, fun a ha => (by cases ha), fun _ _ _ => .inl rfl⟩
    | some a =>
      obtain ⟨h1, h2⟩ := hpt a rfl
      exact ⟨[(a.block, W.heap[a.block])], h.more hb h1 (Array.getElem?_eq_getElem h2), fun b hb => (by cases hb; exact .inr ⟨_, List.mem_singleton.2 rfl⟩), fun _ _ _ => .inl rfl⟩
  · rcases hk with hk | ⟨g, off, rfl, hg, hc⟩
    · exact absurd hk hne
    · obtain ⟨h1, h2⟩ := hpt _ rfl
      refine ⟨[(g, W.heap[g])], h.more hb h1 (Array.getElem?_eq_getElem h2), fun b hb => (by cases hb; exact .inr ⟨_, List.mem_singleton.2 rfl⟩), fun l' W' h' => ?_⟩
      have e : W'.heap[g]? = W.heap[g]? := (h'.at_ (q := g) (List.mem_singleton.2 rfl)).trans (Array.getElem?_eq_getElem h2).symm
      refine .inr ⟨g, off, rfl, ?_, fun i hi => ?_⟩
      · rw [Array.getElem?_eq_getElem h2] at e; exact (Array.getElem?_eq_some_iff.1 e).1
      · obtain ⟨k1, k2, k3⟩ := hc i hi
        exact ⟨(World.cell?_of_block (w := W) (a := ⟨g, off + i * 2, none⟩) e).trans k1, (World.cell?_of_block (w := W) (a := ⟨g, off + i * 2 + 1, none⟩) e).trans k2, k3⟩

set_option linter.unusedSimpArgs false in
set_option maxRecDepth 100000 in
set_option maxHeartbeats 12800000 in
theorem crashes_any {w : World} {pa : Option Addr} {cap : Nat} {xs : List Ac} (hl : xs.length ≤ maxLen) (hx : Acts w pa xs) {pk : Option Addr} {capk : Nat} {ks : List (Nat × Nat)} (hkl : ks.length ≤ maxLen) (hk : Keeps w pk ks) (hko : ks ≠ [] → ∀ a, pk = some a → a.block < w.heap.size) :
    Calls Try.prog 3 #[.slice pa xs.length cap, .slice pk ks.length capk] w fun e w' => e = .returned (.bool true) ∧ Below w.heap.size w w' := by
  have hgr := great_any (w := w) (cap := cap) hl hx w (Below.refl _ _)
  obtain ⟨n, hn⟩ : ∃ n, n = xs.length := ⟨_, rfl⟩
  rw [← hn] at hgr ⊢
  obtain ⟨m, hm⟩ : ∃ m, m = ks.length := ⟨_, rfl⟩
  rw [← hm] at hkl ⊢
  have hm63 : m ≤ 9223372036854775807 := by unfold maxLen at hkl; omega
  have HN := Lib.hid hn; clear hn
  have HM := Lib.hid hm; clear hm
  have HX := Lib.hid hx; clear hx hl hkl
  have HK := Lib.hid hk; clear hk
  have HKO := Lib.hid hko; clear hko
  have HG := Lib.hid hgr; clear hgr
  have hzv := (zero_of_info infoBlock).1
  have hzk := (zero_of_info infoKeep).1
  have hzq := (zero_of_info infoRQ).1
  have HZ := Lib.hid size0
  unfold rq0 at hzq HZ
  obtain ⟨ik, hik0, hik1, hik2, hik3⟩ := info_parts infoKeep3
  have hg := fun (W : World) (op : BinOp) (x y : Operand) (xs ys : Array Value) => run_eqGuard_agg (P := Try.prog) W op 47 x y xs ys noGuard
  go_enter Try.func3, Try.ntmps3
  go_wp2_with fail
  refine HG.out.mono ?_
  rintro e V2 ⟨⟨g, rfl, hg60⟩, hV⟩
  subst hV
  cases g with
  | true =>
    clear hg60
    go_wp2_with fail
    refine (head_any _).mono ?_
    rintro e V3 ⟨rfl, hx3⟩
    go_wp2_with fail
    go_ret
    exact ⟨rfl, hx3⟩
  | false =>
    have hn60 : n ≤ 60 := hg60 rfl
    clear hg60
    by_cases hm2 : 200 < m
    · have i1 : (200 : Int) < (m : Int) := by omega
      go_wp2_with fail
      refine (head_any _).mono ?_
      rintro e V3 ⟨rfl, hx3⟩
      go_wp2_with fail
      go_ret
      exact ⟨rfl, hx3⟩
    · have i1 : ¬ (200 : Int) < (m : Int) := by omega
      go_wp2_with fail
      refine (New_live _ 64 (by omega) (by omega)).mono ?_
      rintro e V ⟨p, rfl, hl⟩
      unfold ptr
      have hA : LiveC V2 p xs 0 V := ⟨_, CP.new xs, hl⟩
      clear hl
      go_wp2_with fail
      go_loopw [7] (fun i wr => ∃ j : Nat, j ≤ n ∧ i = .int .i64 j ∧ LiveC V2 p xs j wr) (fun i _ => n - (intOf i).toNat)
      case atStart => exact ⟨0, Nat.zero_le _, rfl, hA⟩
      case round =>
        obtain ⟨j, hj, rfl, s, hcp, hl⟩ := hrel
        clear hA
        by_cases hjn : j < n
        · have hjl : j < xs.length := by have := HN.out; omega
          rcases HX.out.2 with h0 | ⟨b, off, rfl, hb, hat⟩
          · rw [h0] at hjl; exact absurd hjl (by simp)
          have hcs := fun W hW => acts_at (w := V2) (W := W) hat hb hW hjl
          have hok := HX.out.1 _ (List.getElem_mem hjl)
          have hnext := hcp.act hjl
          have hskip := hcp.skip
          have hplen := hcp.len
          clear hat
          generalize xs[j] = x at hcs hok hnext
          obtain ⟨c0, _, _, _⟩ := hcs wr hl.bel
          have hw256 := hok.what
          have HC := Lib.hid hcs; clear hcs
          have HOK := Lib.hid hok; clear hok
          obtain ⟨k5, hk5⟩ : ∃ k, k = x.what % 5 := ⟨_, rfl⟩
          have m1 : (x.what : Int) % 5 = (k5 : Int) := by omega
          have m2 : Int.tmod (x.what : Int) 5 = (k5 : Int) := by rw [Int.tmod_eq_emod_of_nonneg (by omega)]; exact m1
          have h5 : k5 < 5 := by omega
          have HK5 := Lib.hid hk5; clear hk5
          have i0 : (j : Int) < (n : Int) := by omega
          have z2 : IntKind.i64.wrap ((j : Int) + 1) = (j : Int) + 1 := IntWalk.i64_in _ (by omega)
          by_cases h4 : k5 < 4
          · have i4 : (k5 : Int) < 4 := by omega
            have hl2 := hl.alloc (.cells #[.int .u32 0, .slice none 0 0, .slice none 0 0, .bool false, .int .i64 0, .bool false, .int .u64 0] 36)
            clear hl
            go_wp2_with fail
            generalize wr.heap.size = q8 at hl2 ⊢
            generalize wr.alloc (.cells #[.int .u32 0, .slice none 0 0, .slice none 0 0, .bool false, .int .i64 0, .bool false, .int .u64 0] 36) = V1 at hl2 ⊢
            clear c0
            refine wp_region_noPanic ?_
            have hl' := hl2.drew
            have hS : Below V2.heap.size V2 V1.drew ∧ V1.drew.heap[q8]? = some (.cells #[.int .u32 0, .slice none 0 0, .slice none 0 0, .bool false, .int .i64 0, .bool false, .int .u64 0] 36 (0, 0)) := ⟨hl'.bel, hl'.at_ (by simp)⟩
            clear hl2
            refine wp_region_held_drew (S := fun W => Below V2.heap.size V2 W ∧ W.heap[q8]? = some (.cells #[.int .u32 0, .slice none 0 0, .slice none 0 0, .bool false, .int .i64 0, .bool false, .int .u64 0] 36 (0, 0))) (by kernel_rfl) hS ?_
            intro hS
            generalize V1.drew = V at hS hl' ⊢
            refine wpAnyH_take (i := 0) (v := .pointer (some ⟨p, 0, none⟩)) rfl (by kernel_rfl) (by kernel_rfl) (by kernel_rfl) (fun _ _ _ h => (h : False).elim) (Or.inl ⟨by rfl, fun _ _ => by go_simp⟩) hS ?_
            change wpAnyH _ _ _ _ _ _ _ (Act.put _ (some 60) _) _
            simp only [Act.put, List.setIfInBounds_toArray, List.set_cons_succ, List.set_cons_zero]
            refine wpAnyH_take (i := 1) (v := .agg #[.int .u32 0, .slice none 0 0, .slice none 0 0, .bool false, .int .i64 0, .bool false, .int .u64 0]) rfl (by kernel_rfl) (by kernel_rfl) (by kernel_rfl) (fun _ _ _ h => (h : False).elim) (yieldsIf_load_row (by rfl) 36 _ rfl q8 rfl _ _ _ _ (fun W hW => hW.2) Try.underlying36 rfl HZ.out) hS ?_
            change wpAnyH _ _ _ _ _ _ _ (Act.put _ (some 61) _) _
            simp only [Act.put, List.setIfInBounds_toArray, List.set_cons_succ, List.set_cons_zero]
            refine wpAnyH_take (i := 2) (v := .slice (some ⟨b, off, none⟩) n cap) rfl (by kernel_rfl) (by kernel_rfl) (by kernel_rfl) (fun _ _ _ h => (h : False).elim) (Or.inl ⟨by rfl, fun _ _ => by go_simp⟩) hS ?_
            change wpAnyH _ _ _ _ _ _ _ (Act.put _ (some 62) _) _
            simp only [Act.put, List.setIfInBounds_toArray, List.set_cons_succ, List.set_cons_zero]
            refine wpAnyH_take (i := 3) (v := .int .i64 (j : Int)) rfl (by kernel_rfl) (by kernel_rfl) (by kernel_rfl) (fun _ _ _ h => (h : False).elim) (Or.inl ⟨by rfl, fun _ _ => by go_simp⟩) hS ?_
            change wpAnyH _ _ _ _ _ _ _ (Act.put _ (some 63) _) _
            simp only [Act.put, List.setIfInBounds_toArray, List.set_cons_succ, List.set_cons_zero]
            refine wpAnyH_take (i := 4) (v := .pointer (some ⟨b, off + j * 5, none⟩)) rfl (by kernel_rfl) (by kernel_rfl) (by kernel_rfl) (fun _ _ _ h => (h : False).elim) (Or.inl ⟨by rfl, fun _ _ => by go_simp⟩) hS ?_
            change wpAnyH _ _ _ _ _ _ _ (Act.put _ (some 64) _) _
            simp only [Act.put, List.setIfInBounds_toArray, List.set_cons_succ, List.set_cons_zero]
            refine wpAnyH_take (i := 5) (v := .agg x.val.toArray) rfl (by kernel_rfl) (by kernel_rfl) (by kernel_rfl) (fun _ _ _ h => (h : False).elim) (yieldsIf_load_mid (by rfl) 32 _ rfl b (off + j * 5) rfl x.val _ (fun W hW => (HC.out W hW.1).2.2.2) Try.underlying32 rfl (sizeAct x)) hS ?_
            change wpAnyH _ _ _ _ _ _ _ (Act.put _ (some 65) _) _
            simp only [Act.put, List.setIfInBounds_toArray, List.set_cons_succ, List.set_cons_zero]
            refine wpAnyH_ready (rs := [6]) (by kernel_rfl) (by simp) ?_
            refine AllReadyH.cons rfl (fun K hK => ?_) AllReadyH.nil
            rw [if_pos (by rfl)]
            go_simp
            refine (does_any x.what x.a x.c x.pa x.cap x.z hl' (by omega) HOK.out.a HOK.out.len HOK.out.keep HOK.out.old HOK.out.what (by rw [← HK5.out]; exact h4)).mono ?_
            rintro e V4 ⟨⟨v, rfl⟩, hl⟩
            clear hl'
            dsimp only
            refine hK.out _ _ ⟨hl.bel, hl.at_ (by simp)⟩ (fun hS => ?_)
            clear hK K
            refine wpAnyH_done (by kernel_rfl) ?_ _
            refine NoPanic.normal ?_
            clear hS
            go_wp2_with fail
            go_roundw
            case rel => exact ⟨j + 1, by omega, by go_num, _, hnext, hl.less (by simp)⟩
            case measure => simp [intOf]; omega
          · have i4 : ¬ (k5 : Int) < 4 := by omega
            go_wp2_with fail
            go_roundw
            case rel => exact ⟨j + 1, by omega, by go_num, _, hskip, hl⟩
            case measure => simp [intOf]; omega
        · have hjj : j = n := by omega
          subst hjj
          have hM : Many V2 [(p, s)] [] wr := Many.of_live hl
          have hplen := hcp.len
          have hbl := hl.bel
          clear hl
          go_wp2_with fail
          refine (hM.copy (i := 0) rfl (by omega)).mono ?_
          clear hM
          rintro e W1 ⟨q1, rfl, hM⟩
          simp only [List.cons_append, List.nil_append] at hM
          unfold ptr
          go_wp2_with fail
          refine (hM.copy (i := 0) rfl (by omega)).mono ?_
          clear hM
          rintro e W2 ⟨q2, rfl, hM⟩
          simp only [List.cons_append, List.nil_append] at hM
          unfold ptr
          go_wp2_with fail
          refine (hM.copy (i := 0) rfl (by omega)).mono ?_
          clear hM
          rintro e W3 ⟨q3, rfl, hM⟩
          simp only [List.cons_append, List.nil_append] at hM
          unfold ptr
          go_wp2_with fail
          refine (hM.copy (i := 0) rfl (by omega)).mono ?_
          clear hM
          rintro e W4 ⟨q4, rfl, hM⟩
          simp only [List.cons_append, List.nil_append] at hM
          unfold ptr
          obtain ⟨P, hP⟩ : ∃ P, P = s.pend.length := ⟨_, rfl⟩
          have hP60 : P ≤ 60 := by omega
          have HP := Lib.hid hP; clear hP hplen
          go_wp2_with fail
          go_loopw [13, 14] (fun v i wq => ∃ t : Nat, t ≤ P ∧ i = .int .i64 (t : Int) ∧ wq.ownsRow W4.heap.size 43 2 v t (keepCs (wholeK t)) ∧ Below W4.heap.size W4 wq) (fun _ i _ => P - (intOf i).toNat)
          case atStart => exact ⟨0, Nat.zero_le _, by simp, by simpa [keepCs, wholeK] using World.ownsRow_nil _ _ _ _, Below.refl _ _⟩
          case round =>
            obtain ⟨t, ht, rfl, hrow, hbq⟩ := hrel
            go_wp2_with fail
            refine ((hM.below hbq).pending (i := 0) rfl).mono ?_
            rintro e W5 ⟨rfl, hW5⟩
            subst hW5
            rw [← HP.out]
            by_cases htP : t < P
            · have i5 : (t : Int) < (P : Int) := by omega
              have zt : IntKind.u16.wrap (t : Int) = (t : Int) := IntWalk.u16_in _ (by omega)
              have z3 : IntKind.i64.wrap ((t : Int) + 1) = (t : Int) + 1 := IntWalk.i64_in _ (by omega)
              have hrow2 := hrow.alloc (.cells [Value.int .u16 (t : Int), .int .u8 15].toArray 43)
              have hnew := new_cells W5 [Value.int .u16 (t : Int), .int .u8 15] 43
              have hb2 : Below W4.heap.size W4 (W5.alloc (.cells [Value.int .u16 (t : Int), .int .u8 15].toArray 43)) := hbq.alloc hbq.size _
              clear hrow hbq
              go_wp2_with (at_builtin; refine wpList_append_own _ rfl _ _ 23 rfl W4.heap.size 43 ik (.agg #[.int .u16 0, .int .u8 0]) 2 4 Try.underlying23 hik0 hik1 hik2 hik3 rfl (by omega) _ t (keepCs (wholeK t)) rfl hrow2 ⟨W5.heap.size, 0, none⟩ 1 1 [Value.int .u16 (t : Int), .int .u8 15] rfl rfl hnew (keep_one (t, 15)) (by unfold maxLen; omega) (by omega) hb2.size ?_; intro v' w1 hown1 hgrow hnil)
              go_roundw
              case rel => exact ⟨t + 1, by omega, by go_num, by rw [wholeK_succ, keepCs_snoc]; exact hown1, hb2.trans (below_own hrow2 hgrow hb2.size)⟩
              case measure => simp [intOf]; omega
            · have htm2 : t = P := by omega
              subst htm2
              obtain ⟨pt, ct, rfl, hkp, hpt⟩ := keeps_of_row hrow (fun x hx => by
                simp only [wholeK, List.mem_map, List.mem_range] at hx
                obtain ⟨i, hi, rfl⟩ := hx
                exact ⟨by show i < 65536; omega, by show 15 < 256; omega⟩)
              obtain ⟨K, hM2, hmine, hkeeps⟩ := many_row hM hbq hkp hpt
              clear hrow hkp hpt hbq
              have HMK := Lib.hid (And.intro hmine hkeeps)
              clear hmine hkeeps
              go_wp2_with fail
              refine (hM2.crash (i := 1) (xs := []) rfl rfl (by simp) (.inl rfl) (fun h => absurd rfl h)).mono ?_
              clear hM2
              rintro e X1 ⟨rfl, hM2⟩
              simp only [List.set_cons_succ, List.set_cons_zero] at hM2
              go_wp2_with fail
              refine (hM2.crash (i := 2) rfl (wholeK_length t).symm (by rw [wholeK_length]; omega) (HMK.out.2 _ _ hM2) (fun _ => HMK.out.1)).mono ?_
              clear hM2
              rintro e X2 ⟨rfl, hM2⟩
              simp only [List.set_cons_succ, List.set_cons_zero] at hM2
              go_wp2_with fail
              refine (hM2.crash (i := 3) rfl HM.out (by rw [← HM.out]; exact hm63) (HK.out.turn (Turn.of_below (B := []) hM2.bel) (fun _ _ _ hm => by cases hm)) (fun hne a ha => .inl (HKO.out hne a ha))).mono ?_
              clear hM2
              rintro e X3 ⟨rfl, hM2⟩
              simp only [List.set_cons_succ, List.set_cons_zero] at hM2
              go_wp2_with fail
              obtain ⟨hf1, hf2, hf3, hf4⟩ := hcp.flush
              refine (hM2.flush (i := 4) rfl (by rw [← HP.out]; omega)).mono ?_
              clear hM2
              rintro e X4 ⟨rfl, hM2⟩
              simp only [List.set_cons_succ, List.set_cons_zero] at hM2
              rw [hf4]
              go_wp2_with fail
              refine (hM2.pending (i := 3) rfl).mono ?_
              rintro e X5 ⟨rfl, hX5⟩
              subst hX5
              have hp0 : ((crashS s ks).pend.length : Int) = 0 := rfl
              rw [hp0]
              clear hp0
              obtain ⟨okg, okp⟩ := hM2.okG (i := 0) rfl
              have n0 : s.n = 64 := hcp.n
              have n1 : (crashS s []).n = 64 := hcp.n
              have n2 : (crashS s (wholeK t)).n = 64 := hcp.n
              have n3 : (crashS s ks).n = 64 := hcp.n
              have n4 : (flushS s).n = 64 := hf1.n
              have p0 : s.pend.length < 4294967296 := by rw [← HP.out]; omega
              have p1 : (crashS s []).pend.length < 4294967296 := by show 0 < _; omega
              have p2 : (crashS s (wholeK t)).pend.length < 4294967296 := by show 0 < _; omega
              have p3 : (crashS s ks).pend.length < 4294967296 := by show 0 < _; omega
              have p4 : (flushS s).pend.length < 4294967296 := by rw [hf3]; show 0 < _; omega
              obtain ⟨Y, hYd⟩ : ∃ Y, Y = applyP s.g s.pend := ⟨_, rfl⟩
              have r0 : ∀ a, applyP s.g s.pend a = Y a := fun a => by rw [hYd]
              have r1 : ∀ a, applyP (crashS s []).g (crashS s []).pend a = s.g a := fun _ => rfl
              have r2 : ∀ a, applyP (crashS s (wholeK t)).g (crashS s (wholeK t)).pend a = Y a := fun a => by
                rw [hYd]
                show crashG s.pend s.g (wholeK t) a = _
                rw [HP.out, crashG_whole okg okp]
              have r3 : ∀ a, applyP (crashS s ks).g (crashS s ks).pend a = crashG s.pend s.g ks a := fun _ => rfl
              have r4 : ∀ a, applyP (flushS s).g (flushS s).pend a = Y a := fun a => by rw [hYd, hf2, hf3]; rfl
              have hlY : ∀ a, (Y a).length = 256 := fun a => by rw [hYd]; exact applyP_length _ okg okp a
              have hlZ : ∀ a, (crashG s.pend s.g ks a).length = 256 := crashG_length okp ks s.g okg
              have hfrom : ∀ a j, j < 256 → (crashG s.pend s.g ks a)[j]? = (s.g a)[j]? ∨ ∃ (i : Nat) (hi : i < xs.length), xs[i].a = a ∧ (crashG s.pend s.g ks a)[j]? = (blockB xs[i].c)[j]? := fun a j hj => by
                rcases crashG_from okp a j hj ks s.g okg with h | ⟨y, hy, h1, h2⟩
                · exact .inl h
                · obtain ⟨i, hi, h3, h4⟩ := hcp.from_ y hy
                  exact .inr ⟨i, hi, h3.trans h1, by rw [h2, h4]⟩
              replace hM2 := hM2.less (K' := []) (fun x hx => by cases hx)
              clear hf1 hf2 hf3 hf4 HMK okp hcp hYd
              have HE := Lib.hid (And.intro (And.intro okg (And.intro hlY hlZ)) hfrom)
              have A0 := Lib.hid (Reads.of (w := V2) (l := [(p, s), (q1, crashS s []), (q2, crashS s (wholeK t)), (q3, crashS s ks), (q4, flushS s)]) (i := 0) rfl n0 p0 r0)
              have A1 := Lib.hid (Reads.of (w := V2) (l := [(p, s), (q1, crashS s []), (q2, crashS s (wholeK t)), (q3, crashS s ks), (q4, flushS s)]) (i := 1) rfl n1 p1 r1)
              have A2 := Lib.hid (Reads.of (w := V2) (l := [(p, s), (q1, crashS s []), (q2, crashS s (wholeK t)), (q3, crashS s ks), (q4, flushS s)]) (i := 2) rfl n2 p2 r2)
              have A3 := Lib.hid (Reads.of (w := V2) (l := [(p, s), (q1, crashS s []), (q2, crashS s (wholeK t)), (q3, crashS s ks), (q4, flushS s)]) (i := 3) rfl n3 p3 r3)
              have A4 := Lib.hid (Reads.of (w := V2) (l := [(p, s), (q1, crashS s []), (q2, crashS s (wholeK t)), (q3, crashS s ks), (q4, flushS s)]) (i := 4) rfl n4 p4 r4)
              clear n0 n1 n2 n3 n4 p0 p1 p2 p3 p4 r0 r1 r2 r3 r4 hlY hlZ hfrom okg
              have HM2 := Lib.hid hM2
              clear hM2
              go_wp2_with fail
              refine addrs_loop A0.out A1.out A2.out A3.out A4.out HE.out.1.1 HE.out.1.2.1 HE.out.1.2.2 HN.out hn60 HX.out HE.out.2 HM2.out ?_
              intro _ _ _ _ _ _ _ _ _ _ _ _ _ _ _ _ _ _ _ _ _ _ _ _ _ _ _ _ _ _ _ _ _ _ _ _ _ _ _ _ _ _ _ _ _ _ _ _ _ _ _ _ _ _ _ _ _ _ _ _ _ _ _ _ _ _ _ _ _ _ _ _ _ _ _ _ _ _ _ _ _ _ _ _ _ _ _ _ _ _ _ _ _ _ _ _ _ _ _ _ _ _ _ WA hl
              have hb := hl.bel
              clear hl HM2 A0 A1 A2 A3 A4 HE
              go_wp2_with fail
              refine (head_any _).mono ?_
              rintro e V11 ⟨rfl, hx3⟩
              have hf := hb.trans (hx3.mono hb.size)
              clear hb hx3
              go_wp2_with fail
              go_ret
              exact ⟨rfl, hf⟩

end Go.Proofs.Ytlgjgobelceheaa.Dev
