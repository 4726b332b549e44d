/-
  The walk of the law DevApart.
-/
import Derived.Test.YtbgigahgcekpjaaDevApartKit
import Derived.Deep.AppendLies
namespace Go.Proofs.Ytbgigahgcekpjaa.Dev
open Go.RowKit RowLaw

set_option linter.unusedSimpArgs false in
set_option maxRecDepth 100000 in
set_option maxHeartbeats 12800000 in
theorem apart_any {w : World} {pa : Option Addr} {cap : Nat} {xs : List Ac} (hl : xs.length ≤ maxLen) (hx : Acts w pa xs) {pk : Option Addr} {capk : Nat} {ks : List (Nat × Nat)} (hkl : ks.length ≤ maxLen) (hk : Keeps w pk ks) (hko : ks ≠ [] → ∀ a, pk = some a → a.block < w.heap.size) :
    Calls Try.prog 6 #[.slice pa xs.length cap, .slice pk ks.length capk] w fun e w' => e = .returned (.bool true) ∧ Below w.heap.size w w' := by
  have hgr := fun W hW => great_any (w := w) (cap := cap) hl hx W hW
  obtain ⟨n, hn⟩ : ∃ n, n = xs.length := ⟨_, rfl⟩
  rw [← hn] at hgr ⊢
  obtain ⟨m, hm⟩ : ∃ m, m = ks.length := ⟨_, rfl⟩
  rw [← hm] at hkl ⊢
  have hm63 : m ≤ 9223372036854775807 := by unfold maxLen at hkl; omega
  have HN := Lib.hid hn; clear hn
  have HM := Lib.hid hm; clear hm
  have HX := Lib.hid hx; clear hx hl hkl
  have HK := Lib.hid hk; clear hk
  have HKO := Lib.hid hko; clear hko
  have HG := Lib.hid hgr; clear hgr
  have hzv := (zero_of_info infoBlock).1
  have hzk := (zero_of_info infoKeep).1
  obtain ⟨ik, hik0, hik1, hik2, hik3⟩ := info_parts infoKeep3
  have hsk : (Try.prog.info? 43).map (·.size) = some 2 := by kernel_rfl
  have hg := fun (W : World) (op : BinOp) (x y : Operand) (xs ys : Array Value) => run_eqGuard_agg (P := Try.prog) W op 47 x y xs ys noGuard
  go_enter Try.func6, Try.ntmps6
  go_wp2_with fail
  refine (New_live w 64 (by omega) (by omega)).mono ?_
  rintro e V ⟨p, rfl, hl⟩
  unfold ptr
  go_wp2_with fail
  refine (HG.out V hl.bel).mono ?_
  rintro e V2 ⟨⟨g, rfl, hg60⟩, hV⟩
  subst hV
  cases g with
  | true =>
    have hb := hl.bel
    clear hl hg60
    go_wp2_with fail
    refine (head_any _).mono ?_
    rintro e V3 ⟨rfl, hx3⟩
    have hf := hb.trans (hx3.mono hb.size)
    go_wp2_with fail
    go_ret
    exact ⟨rfl, hf⟩
  | false =>
    have hn60 : n ≤ 60 := hg60 rfl
    clear hg60
    by_cases hm2 : 200 < m
    · have i1 : (200 : Int) < (m : Int) := by omega
      have hb := hl.bel
      clear hl
      go_wp2_with fail
      refine (head_any _).mono ?_
      rintro e V3 ⟨rfl, hx3⟩
      have hf := hb.trans (hx3.mono hb.size)
      go_wp2_with fail
      go_ret
      exact ⟨rfl, hf⟩
    · have i1 : ¬ (200 : Int) < (m : Int) := by omega
      obtain ⟨W1, hmk, hblk, hbel1⟩ := make_bools V2
      have hA : LiveA w p V2.heap.size (fun _ => false) 0 W1 := ⟨_, AP.new, hl.more hbel1 (Nat.le_refl _) hblk⟩
      have hsbw : w.heap.size ≤ V2.heap.size := hl.bel.size
      clear hl hblk hbel1
      go_wp2_with fail
      clear hmk
      generalize V2.heap.size = sb at hA hsbw ⊢
      go_loopw [8] (fun i wr => ∃ (j : Nat) (f : Nat → Bool), j ≤ n ∧ i = .int .i64 j ∧ LiveA w p sb f j wr) (fun i _ => n - (intOf i).toNat)
      case atStart => exact ⟨0, _, Nat.zero_le _, rfl, hA⟩
      case round =>
        obtain ⟨j, f, hj, rfl, hl⟩ := hrel
        clear hA
        by_cases hjn : j < n
        · have hjl : j < xs.length := by have := HN.out; omega
          rcases HX.out.2 with h0 | ⟨b, off, rfl, hb, hat⟩
          · rw [h0] at hjl; exact absurd hjl (by simp)
          have hcs := fun W hW => acts_at (w := w) (W := W) hat hb hW hjl
          have hok := HX.out.1 _ (List.getElem_mem hjl)
          clear hat
          generalize xs[j] = x at hcs hok
          obtain ⟨c0, c1, _, c4⟩ := hcs wr hl.bel
          have hxa := hok.a
          clear hcs
          obtain ⟨am, ham⟩ : ∃ am, am = x.a % 64 := ⟨_, rfl⟩
          have hmod : am < 64 := by rw [ham]; exact Nat.mod_lt _ (by omega)
          have m1 : (x.a : Int) % 64 = (am : Int) := by omega
          have m2 : Int.tmod (x.a : Int) 64 = (am : Int) := by rw [Int.tmod_eq_emod_of_nonneg (by omega)]; exact m1
          clear ham
          have z2 : IntKind.i64.wrap ((j : Int) + 1) = (j : Int) + 1 := IntWalk.i64_in _ (by omega)
          have cb := bool_at hl.blk hmod
          by_cases hf : f am = true
          · have hfz := frozen_of_row wr sb am _ _ hl.blk
            rw [hf] at cb
            go_wp2_with fail
            go_roundw
            case rel => exact ⟨j + 1, _, by omega, by go_num, hl.again hsbw hf⟩
            case measure => simp [intOf]; omega
          · have hf' : f am = false := by simpa using hf
            rw [hf'] at cb
            go_wp2_with (refine wpList_load_mid rfl 32 _ rfl b (off + j * 5) rfl x.val _ c4 Try.underlying32 rfl (sizeAct x) ?_)
            refine (block_A hl x.what x.a x.c (.slice x.pa x.keep.length x.cap) x.z).mono ?_
            clear hl c0 c1 c4 cb
            rintro e V4 ⟨rfl, hl⟩
            go_wp2_with fail
            refine (Write_A hl (by omega) hmod hf' (blockB_length x.c)).mono ?_
            clear hl
            rintro e V5 ⟨⟨z, rfl⟩, hl⟩
            have cb := bool_at hl.blk hmod
            have hfz := frozen_of_row V5 sb am _ _ hl.blk
            go_wp2_with fail
            go_roundw
            case rel => exact ⟨j + 1, _, by omega, by go_num, hl.set hsbw⟩
            case measure => simp [intOf]; omega
        · have hjj : j = n := by omega
          subst hjj
          have hbw := hl.bel
          have z1 : IntKind.i64.wrap ((m : Int) - 1) = (m : Int) - 1 := IntWalk.i64_in _ (by omega)
          go_wp2_with fail
          generalize wr = W0 at hl hbw ⊢
          go_loopw [10, 11] (fun v i wq => ∃ t : Nat, t ≤ m ∧ i = .int .i64 ((m : Int) - 1 - (t : Int)) ∧ wq.ownsRow W0.heap.size 43 2 v t (keepCs (ks.reverse.take t)) ∧ Below W0.heap.size W0 wq) (fun _ i _ => ((intOf i) + 1).toNat)
          case atStart => exact ⟨0, Nat.zero_le _, by simp, by simpa [keepCs] using World.ownsRow_nil _ _ _ _, Below.refl _ _⟩
          case round =>
            obtain ⟨t, ht, rfl, hrow, hbq⟩ := hrel
            by_cases htm : t < m
            · have hne : ks ≠ [] := fun e => by have := HM.out; rw [e] at this; simp at this; omega
              rcases HK.out with h0 | ⟨b, off, rfl, hb, hat⟩
              · exact absurd h0 hne
              have hbel : Below w.heap.size w wr := hbw.trans (hbq.mono hbw.size)
              obtain ⟨r, hr⟩ : ∃ r, r = m - 1 - t := ⟨_, rfl⟩
              have hrl : r < ks.length := by have := HM.out; omega
              obtain ⟨k1, k2, _, _⟩ := hat r hrl
              have hkr : ks.reverse.take (t + 1) = ks.reverse.take t ++ [ks[r]] := by
                have hlt : t < ks.reverse.length := by rw [List.length_reverse, ← HM.out]; exact htm
                rw [List.take_succ_eq_append_getElem hlt, List.getElem_reverse]
                have hm2 := HM.out
                have e : ks.length - 1 - t = r := by omega
                simp only [e]
              generalize ks[r] = kk at k1 k2 hkr
              replace k1 := (World.cell?_of_block (w := w) (a := ⟨b, off + r * 2, none⟩) (hbel.block b hb)).trans k1
              replace k2 := (World.cell?_of_block (w := w) (a := ⟨b, off + r * 2 + 1, none⟩) (hbel.block b hb)).trans k2
              have hra : wr.rangeAt b (off + r * 2) [.int .u16 (kk.1 : Int), .int .u8 (kk.2 : Int)] := fun j v hj => by
                match j, hj with
                | 0, hj => cases hj; exact k1
                | 1, hj => cases hj; exact k2
              clear hat k1 k2
              have hrm : r < m := by omega
              have ei : (m : Int) - 1 - (t : Int) = (r : Int) := by omega
              rw [ei]
              have HR := Lib.hid hr
              clear hr ei
              have z3 : IntKind.i64.wrap ((r : Int) - 1) = (r : Int) - 1 := IntWalk.i64_in _ (by omega)
              have hrow2 := hrow.alloc (.cells [Value.int .u16 (kk.1 : Int), .int .u8 (kk.2 : Int)].toArray 43)
              have hnew := new_cells wr [Value.int .u16 (kk.1 : Int), .int .u8 (kk.2 : Int)] 43
              have hb2 : Below W0.heap.size W0 (wr.alloc (.cells [Value.int .u16 (kk.1 : Int), .int .u8 (kk.2 : Int)].toArray 43)) := hbq.alloc hbq.size _
              clear hrow hbq hbel
              go_wp2_with (first | (at_builtin; refine wpList_append_own _ rfl _ _ 23 rfl W0.heap.size 43 ik (.agg #[.int .u16 0, .int .u8 0]) 2 4 Try.underlying23 hik0 hik1 hik2 hik3 rfl (by omega) _ t (keepCs (ks.reverse.take t)) rfl hrow2 ⟨wr.heap.size, 0, none⟩ 1 1 [Value.int .u16 (kk.1 : Int), .int .u8 (kk.2 : Int)] rfl rfl hnew (keep_one kk) (by unfold maxLen; omega) (by omega) hb2.size ?_; intro v' w1 hown1 hgrow hnil) | (refine wpList_load_mid rfl 43 _ rfl b (off + r * 2) rfl [Value.int .u16 (kk.1 : Int), .int .u8 (kk.2 : Int)] _ hra Try.underlying43 rfl hsk ?_))
              go_roundw
              case rel => exact ⟨t + 1, by omega, by rw [show (r : Int) - 1 = (m : Int) - 1 - ((t + 1 : Nat) : Int) by have hr := HR.out; omega], by rw [hkr, keepCs_snoc]; exact hown1, hb2.trans (below_own hrow2 hgrow hb2.size)⟩
              case measure => simp [intOf]
            · have htm2 : t = m := by omega
              subst htm2
              have ei : (t : Int) - 1 - (t : Int) = -1 := by omega
              rw [ei]
              have hkt : ∀ x ∈ ks.reverse, x.1 < 65536 ∧ x.2 < 256 := fun x hx => by
                rcases HK.out with h0 | ⟨b, off, _, hb, hat⟩
                · rw [h0] at hx; simp at hx
                · obtain ⟨i, hi, rfl⟩ := List.mem_iff_getElem.1 (List.mem_reverse.1 hx)
                  exact (hat i hi).2.2
              rw [List.take_of_length_le (by rw [List.length_reverse, ← HM.out]; exact Nat.le_refl _)] at hrow
              obtain ⟨pt, ct, rfl, hkp, hpt⟩ := keeps_of_row hrow hkt
              clear hrow hkt ei
              go_wp2_with fail
              refine (Copy_A hl hn60 hbq HK.out HKO.out hkp hpt).mono ?_
              clear hl hbq hkp hpt
              rintro e V6 ⟨q, s, rfl, hap, hpair⟩
              unfold ptr
              go_wp2_with fail
              refine (Crash_P hpair HM.out (by have := HM.out; omega)).mono ?_
              clear hpair
              rintro e V7 ⟨rfl, hpair⟩
              go_wp2_with fail
              refine (Crash_P1 hpair HM.out (by have := HM.out; omega)).mono ?_
              clear hpair
              rintro e V8 ⟨rfl, h2⟩
              have hp256 : ∀ x ∈ s.pend, x.2.length = 256 := fun x hx => (hap.addr x hx).2
              have hg256 : ∀ a, (s.g a).length = 256 := fun a => by rw [hap.g]; exact zeros_length
              have hsame : ∀ a, crashG s.pend s.g ks.reverse a = crashG s.pend s.g ks a := crashG_turned hp256 hap.dist ks s.g hg256
              have hlen : ∀ a, (crashG s.pend s.g ks a).length = 256 := crashG_length hp256 ks s.g hg256
              have hoff : ∀ a, a < 64 → f a = false → crashG s.pend s.g ks a = zeros := fun a ha hf => by
                rw [crashG_off (fun x hx e => by have := (hap.seen a ha).2 ⟨x, hx, e⟩; rw [hf] at this; cases this), hap.g]
                rfl
              have hn1 : (crashS s ks).n = 64 := hap.n
              have hn2 : (crashS s ks.reverse).n = 64 := hap.n
              have hq1 : ∀ a, (crashS s ks).g a = crashG s.pend s.g ks a := fun _ => rfl
              have hq2 : ∀ a, (crashS s ks.reverse).g a = crashG s.pend s.g ks a := hsame
              have hr1 : (crashS s ks).pend = [] := rfl
              have hr2 : (crashS s ks.reverse).pend = [] := rfl
              generalize crashS s ks = S1 at h2 hn1 hq1 hr1
              generalize crashS s ks.reverse = S2 at h2 hn2 hq2 hr2
              generalize crashG s.pend s.g ks = G at hlen hoff hq1 hq2
              clear hap hp256 hg256 hsame
              go_wp2_with fail
              go_loopw [13] (fun i wt => ∃ a : Nat, a ≤ 64 ∧ i = .int .u32 (a : Int) ∧ Two w p S1 q S2 [(sb, .cells (boolCells f) 4)] wt) (fun i _ => 64 - (intOf i).toNat)
              case atStart => exact ⟨0, by omega, rfl, h2⟩
              case round =>
                obtain ⟨a, ha, rfl, hl⟩ := hrel
                clear h2
                by_cases ha64 : a < 64
                · have hla := hlen a
                  have hg1 := hq1 a
                  have hg2 := hq2 a
                  have hof := hoff a ha64
                  generalize G a = l at hla hg1 hg2 hof
                  have hir := sizeBlock l hla
                  have z3 : IntKind.u32.wrap ((a : Int) + 1) = (a : Int) + 1 := IntWalk.u32_in _ (by omega)
                  go_wp2_with fail
                  refine (Read_one hl ha64 hn1 hr1 hg1).mono ?_
                  clear hl
                  rintro e V9 ⟨rfl, hl⟩
                  have hl2 := hl.alloc (.cells (cellsOf l) 47)
                  have tok : True := trivial
                  clear hl
                  go_wp2_with (have _t := tok; refine wpList_store_new rfl 47 _ _ rfl (cellsOf l) _ _ rfl rfl hir (by rw [cellsOf_size, cellsOf_size, hla, zeros_length]) (cellsOf_one _) ?_; generalize V9.heap.size = q14 at hl2 ⊢; generalize V9.alloc (.cells (cellsOf l) 47) = V9 at hl2 ⊢; clear _t tok)
                  refine (Read_two hl2 ha64 hn2 hr2 hg2).mono ?_
                  clear hl2
                  rintro e V10 ⟨rfl, hl⟩
                  have hl2 := hl.alloc (.cells (cellsOf l) 47)
                  have tok : True := trivial
                  clear hl
                  have heA : ∀ W : World, (Op.equalIn 10000 47 (.agg (cellsOf l)) (.agg (cellsOf l))).run Try.prog W = .ok true W := fun W => by rw [run_eqBlock W l l hla hla]; simp
                  have e16 : (V10.alloc (.cells (cellsOf l) 47)).heap[V10.heap.size]? = some (.cells (cellsOf l) 47 (0, 0)) := hl2.at_ (by simp)
                  have e14 : (V10.alloc (.cells (cellsOf l) 47)).heap[q14]? = some (.cells (cellsOf l) 47 (0, 0)) := hl2.at_ (by simp)
                  have hsbk : (V10.alloc (.cells (cellsOf l) 47)).heap[sb]? = some (.cells (boolCells f) 4 (0, 0)) := hl2.at_ (by simp)
                  have cb := bool_at hsbk ha64
                  clear hsbk
                  replace hl2 := hl2.less (K' := [(sb, .cells (boolCells f) 4)]) (by simp)
                  by_cases hf : f a = true
                  · rw [hf] at cb
                    go_wp2_with (first | (have _t := tok; refine wpList_store_new rfl 47 _ _ rfl (cellsOf l) _ _ rfl rfl hir (by rw [cellsOf_size, cellsOf_size, hla, zeros_length]) (cellsOf_one _) ?_; generalize V10.heap.size = q16 at e16 ⊢; generalize V10.alloc (.cells (cellsOf l) 47) = V10 at hl2 e16 e14 cb ⊢; clear _t tok) | (refine wpList_load_want (by rfl) 47 _ rfl q14 rfl _ _ _ _ e14 Try.underlying47 rfl hir ?_) | (refine wpList_load_want (by rfl) 47 _ rfl q16 rfl _ _ _ _ e16 Try.underlying47 rfl hir ?_))
                    go_roundw
                    case rel => exact ⟨a + 1, by omega, by go_num, hl2⟩
                    case measure => simp [intOf]; omega
                  · have hf' : f a = false := by simpa using hf
                    rw [hf'] at cb
                    obtain rfl : l = zeros := hof hf'
                    go_wp2_with (first | (have _t := tok; refine wpList_store_new rfl 47 _ _ rfl (cellsOf zeros) _ _ rfl rfl hir rfl (cellsOf_one _) ?_; generalize V10.heap.size = q16 at e16 ⊢; generalize V10.alloc (.cells (cellsOf zeros) 47) = V10 at hl2 e16 e14 cb ⊢; clear _t tok) | (refine wpList_load_want (by rfl) 47 _ rfl q14 rfl _ _ _ _ e14 Try.underlying47 rfl hir ?_) | (refine wpList_load_want (by rfl) 47 _ rfl q16 rfl _ _ _ _ e16 Try.underlying47 rfl hir ?_))
                    go_roundw
                    case rel => exact ⟨a + 1, by omega, by go_num, hl2⟩
                    case measure => simp [intOf]; omega
                · have ha2 : a = 64 := by omega
                  subst ha2
                  have hb := hl.bel
                  clear hl
                  go_wp2_with fail
                  refine (head_any _).mono ?_
                  rintro e V11 ⟨rfl, hx3⟩
                  have hf := hb.trans (hx3.mono hb.size)
                  clear hb hx3
                  go_wp2_with fail
                  go_ret
                  exact ⟨rfl, hf⟩

end Go.Proofs.Ytbgigahgcekpjaa.Dev
