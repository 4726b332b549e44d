/-
  A table is opened.
-/
import Derived.Test.YtdadcengelfmhaaGreatCntSet
namespace Go.Proofs.YtdadcengelfmhaaGreat.Cnt
open Go.RowKit RowLaw Crc
open Go.Proofs.YtdadcengelfmhaaGreat.Dev (Dev DS ptr Turn Step readB)
open Go.Proofs.YtdadcengelfmhaaGreat.Rot (planOk tlN pkN fsN planCells)
open Go.Proofs.YtdadcengelfmhaaGreat.Slt (Rt cells rootO IsRt)
open Go.Proofs.YtdadcengelfmhaaGreat.Tal (kT kP fT fP getNs getNs_length getE zs PK nsOf numAt)
set_option maxRecDepth 100000

/-- the table of a device in a state, of a root with these Picks -/
def tdOf (d : Nat) (s : DS) (ch : Nat) : TD :=
  let T0 : TD := ⟨d, s.n, ch, fun _ => [], fun _ => [], fun _ => none⟩
  let T1 : TD := { T0 with PV := fun k => getNs kP (readB s (pkAt T0 k)) k }
  { T1 with TV := fun p => getNs kT (readB s (tlAt T1 p)) p }
theorem numAt_lt (k : PK) {l : List UInt8} (j : Nat) : numAt k l j < 256 ^ k.wd := by
  unfold numAt
  refine Nat.lt_of_lt_of_le (Fld.leNat_lt _) (Nat.pow_le_pow_right (by omega) ?_)
  unfold Fld.piece
  rw [List.length_take]
  exact Nat.min_le_left _ _
theorem getNs_mem (k : PK) {l : List UInt8} {idx x : Nat} (h : x ∈ getNs k l idx) (hp : 0 < 256 ^ k.wd) : x < 256 ^ k.wd := by
  unfold getNs at h
  split at h
  · unfold nsOf Tal.nsTo at h
    rw [List.mem_map] at h
    obtain ⟨j, _, rfl⟩ := h
    exact numAt_lt k j
  · unfold zs at h
    rw [List.mem_replicate] at h
    rw [h.2]; exact hp
theorem tdOf_ok {d : Nat} {s : DS} {ch : Nat} (h : planOk s.n = true) (hc : ch < 4294967296) : TOk (tdOf d s ch) :=
  ⟨h, hc, fun _ => getNs_length _ _ _, fun _ _ hx => getNs_mem kP hx (by decide), fun _ => getNs_length _ _ _, fun _ _ hx => getNs_mem kT hx (by decide), fun _ _ h => (by cases h), fun _ _ h => (by cases h)⟩
/-- the device is good for the root: its pages are pages -/
structure Sound (s : DS) (ch : Nat) : Prop where
  plan : planOk s.n = true
  chl : ch < 4294967296
  pend : s.pend.length < 4294967296
  pick : ∀ k, k < pkN s.n → getE kP (readB s (pkAt (tdOf 0 s ch) k)) k = 0
  tally : ∀ p, p < tlN s.n → getE kT (readB s (tlAt (tdOf 0 s ch) p)) p = 0
theorem Sound.reads {s : DS} {ch : Nat} (h : Sound s ch) (d : Nat) : Reads s (tdOf d s ch) := ⟨rfl, h.pend, fun k hk => ⟨h.pick k hk, rfl⟩, fun p hp => ⟨h.tally p hp, rfl⟩⟩

def tabV (d tl pk fs ch a b c : Nat) : Array Value := #[ptr d, .int .u32 (tl : Int), .int .u32 (pk : Int), .int .u32 (fs : Int), .int .u32 (ch : Int), .map (some a), .map (some b), .map (some c)]
theorem built_tab (d tl pk fs ch a b c : Nat) : Tryz.prog.built 57 [(0, ptr d), (1, .agg (planCells tl pk fs)), (2, .int .u32 (ch : Int)), (3, .map (some a)), (4, .map (some b)), (5, .map (some c))] = some (tabV d tl pk fs ch a b c) := by kernel_rfl
theorem wpList_build_tab {ops : Array Oper} {rest : List Oper} {o : Oper} {ac : Act} {w : World} {Q : Exit → Act → World → Prop} (hgd : o.guard = none) (x0 x1 x2 x3 x4 x5 : Operand) (ho : o.op = .build 57 #[(0, x0), (1, x1), (2, x2), (3, x3), (4, x4), (5, x5)]) (d tl pk fs ch a b c : Nat)
    (h0 : ac.eval x0 = ptr d) (h1 : ac.eval x1 = .agg (planCells tl pk fs)) (h2 : ac.eval x2 = .int .u32 (ch : Int)) (h3 : ac.eval x3 = .map (some a)) (h4 : ac.eval x4 = .map (some b)) (h5 : ac.eval x5 = .map (some c))
    (h : wpList Tryz.prog ops Q rest (ac.put o.dst (.agg (tabV d tl pk fs ch a b c))) w) : wpList Tryz.prog ops Q (o :: rest) ac w := by
  refine wpList_plain hgd fun K hK => ?_
  unfold Oper.wp execOp
  simp only [ho, List.map_toArray, List.map_cons, List.map_nil, h0, h1, h2, h3, h4, h5, Sem.run_bind, Sem.run_pure, run_build w _ _ _ (built_tab d tl pk fs ch a b c), Result.andThen_ok]
  exact hK _ _ h
theorem three_maps (W : World) : PMap (((W.alloc (.map #[] 0)).alloc (.map #[] 0)).alloc (.map #[] 0)) W.heap.size (fun _ => none) ∧ PMap (((W.alloc (.map #[] 0)).alloc (.map #[] 0)).alloc (.map #[] 0)) (W.heap.size + 1) (fun _ => none) ∧
    PMap (((W.alloc (.map #[] 0)).alloc (.map #[] 0)).alloc (.map #[] 0)) (W.heap.size + 1 + 1) (fun _ => none) ∧ Below W.heap.size W (((W.alloc (.map #[] 0)).alloc (.map #[] 0)).alloc (.map #[] 0)) ∧ (((W.alloc (.map #[] 0)).alloc (.map #[] 0)).alloc (.map #[] 0)).heap.size = W.heap.size + 3 := by
  have h0 := PMap.made W
  have h1 := PMap.made (W.alloc (.map #[] 0))
  have h2 := PMap.made ((W.alloc (.map #[] 0)).alloc (.map #[] 0))
  simp only [World.size_alloc] at h1 h2
  refine ⟨(h0.kept (Below.heap_alloc _ _ _ (by simp only [World.size_alloc]; omega))).kept (Below.heap_alloc _ _ _ (by simp only [World.size_alloc]; omega)), h1.kept (Below.heap_alloc _ _ _ (by simp only [World.size_alloc]; omega)), h2,
    (((Below.refl _ _).alloc (Nat.le_refl _) _).alloc (by simp only [World.size_alloc]; omega) _).alloc (by simp only [World.size_alloc]; omega) _, by simp only [World.size_alloc]⟩

section
variable {w : World} {d : Nat} {C : List Nat} {s : DS}
theorem Open_nil (r : Rt) (w : World) : Calls Tryz.prog 9 #[.pointer none, .agg (cells r)] w fun e w' => e = .returned (.tuple #[.pointer none, .int .i64 1]) ∧ Below w.heap.size w w' := by
  have hS := fun W => Rot.Size_nil W
  have hb : Below w.heap.size w (w.alloc (rootO r)) := (Below.refl _ _).alloc (Nat.le_refl _) _
  go_enter Tryz.func9, Tryz.ntmps9
  go_upto_region 1 with fail
  change Code.wp _ _ _ _ (w.alloc (rootO r))
  generalize w.alloc (rootO r) = W1 at hb ⊢
  go_wp2_with ((with_reducible refine (hS _).mono ?_); rintro e W2 ⟨rfl, rfl⟩)
  go_ret2
  exact ⟨rfl, hb⟩

set_option linter.unusedSimpArgs false in
set_option maxHeartbeats 3200000 in
theorem Open_any (hd : Dev w d C s) (hp : planOk s.n = true) {r : Rt} (hr : r.size = s.n) (hc : r.picks < 4294967296) :
    Calls Tryz.prog 9 #[ptr d, .agg (cells r)] w fun e w' => ∃ t B, e = .returned (.tuple #[ptr t, .int .i64 0]) ∧ Tab w' t B (tdOf d s r.picks) ∧ Below w.heap.size w w' ∧ ∀ k ∈ B, w.heap.size ≤ k := by
  have hok := tdOf_ok (d := d) hp hc
  obtain ⟨h1, h2⟩ := plan_of hp
  have hb : Below w.heap.size w (w.alloc (rootO r)) := (Below.refl _ _).alloc (Nat.le_refl _) _
  have hz : ((s.n : Int) == 0) = false := by rw [beq_eq_false_iff_ne]; omega
  have hSz : Hid (∀ W, Below w.heap.size w W → Calls Tryz.prog 24 #[ptr d] W fun e w' => e = .returned (.int .u32 (s.n : Int)) ∧ w' = W) := Lib.hid (fun W hW => Rot.Size_any (hd.below hW))
  have hR : IsRt (w.alloc (rootO r)) w.heap.size r := heap_alloc_new w _
  have HLy := Lib.hid (fun W => Rot.Layout_yes hp W)
  rw [← hr] at hz hSz HLy
  have HR := Lib.hid hr
  clear hd hp hr h1 h2
  unfold ptr at hSz ⊢
  go_enter Tryz.func9, Tryz.ntmps9
  go_upto_region 1 with fail
  change Code.wp _ _ _ _ (w.alloc (rootO r))
  generalize hq : w.heap.size = q at hR
  generalize w.alloc (rootO r) = W1 at hb hR ⊢
  have hS1 := hSz.out W1 hb
  have c1 := hR.size
  have c2 : W1.cell? ⟨q, 2, none⟩ = some (.int .u32 (r.picks : Int)) := hR.picks
  go_wp2_with ((with_reducible refine hS1.mono ?_); rintro e W2 ⟨rfl, rfl⟩)
  refine (HLy.out _).mono ?_
  clear HLy c1 c2 hS1 hz
  rintro e W3 ⟨rfl, hx⟩
  have hb3 := hb.trans (hx.mono hb.size)
  have hR3 : IsRt W3 q r := (hx.block q (Array.getElem?_eq_some_iff.1 hR).1).trans hR
  clear hb hx hR
  have hzp := (zero_of_info Rot.infoPlan).1
  obtain ⟨tl, htl⟩ : ∃ tl, tl = tlN r.size := ⟨_, rfl⟩
  obtain ⟨pk, hpk⟩ : ∃ pk, pk = pkN r.size := ⟨_, rfl⟩
  obtain ⟨fs, hfs⟩ : ∃ fs, fs = fsN r.size := ⟨_, rfl⟩
  rw [← htl, ← hpk, ← hfs]
  have HTL := Lib.hid htl; have HPK := Lib.hid hpk; have HFS := Lib.hid hfs
  clear htl hpk hfs
  have tok : True := trivial
  go_upto_region 4 with (have _t := tok; refine wpList_store_new rfl 53 _ _ rfl (planCells tl pk fs) _ _ rfl rfl (Rot.sizePlan _ _ _) rfl (Rot.planCells_one _ _ _) ?_; change wpList _ _ _ _ _ (W3.alloc (Rot.planO tl pk fs)); clear _t tok)
  change Code.wp _ _ _ _ (W3.alloc (Rot.planO tl pk fs))
  have hb4 : Below w.heap.size w (W3.alloc (Rot.planO tl pk fs)) := hb3.trans ((Below.refl _ _).alloc hb3.size _)
  have hR4 : IsRt (W3.alloc (Rot.planO tl pk fs)) q r := (Below.heap_alloc _ _ q (Array.getElem?_eq_some_iff.1 hR3).1).trans hR3
  have hP4 : (W3.alloc (Rot.planO tl pk fs)).heap[W3.heap.size]? = some (.cells (planCells tl pk fs) 53 (0, 0)) := heap_alloc_new W3 _
  generalize W3.heap.size = p6 at hP4 ⊢
  generalize W3.alloc (Rot.planO tl pk fs) = W4 at hb4 hR4 hP4 ⊢
  clear hb3 hR3 hzp
  have c1 := hR4.size
  have hbq : ∀ n, Below w.heap.size w (W4.drewN n) := fun n => ⟨hb4.os, hb4.tape, hb4.output, hb4.size, hb4.block⟩
  have d0 : ((r.size : Int) != (r.size : Int)) = false := by simp
  go_wp2_with fail
  go_quiet ((go_at_call 24; exact Calls.quiet_of_same (hSz.out _ (hbq _))))
  have hb5 := hbq nq
  have hR5 : IsRt (W4.drewN nq) q r := hR4
  have hP5 : (W4.drewN nq).heap[p6]? = some (.cells (planCells tl pk fs) 53 (0, 0)) := hP4
  generalize W4.drewN nq = W5 at hb5 hR5 hP5 ⊢
  clear hbq hb4 hR4 hP4 c1 d0
  have c2 : W5.cell? ⟨q, 2, none⟩ = some (.int .u32 (r.picks : Int)) := hR5.picks
  have hmm := @run_makeMap Tryz.prog
  have tok : True := trivial
  go_wp2_with (first
    | (have _t := tok; refine wpList_load_row rfl 53 _ rfl p6 rfl _ _ _ _ hP5 Tryz.underlying53 rfl (Rot.sizePlan _ _ _) ?_; clear _t tok)
    | (refine wpList_build_tab rfl _ _ _ _ _ _ rfl d tl pk fs r.picks _ _ _ rfl rfl rfl rfl rfl rfl ?_; clear hmm
       obtain ⟨m0, m1, m2, mb, ms⟩ := three_maps W5
       simp only [World.size_alloc]
       have ha := hb5.size
       replace mb := hb5.trans (mb.mono hb5.size)
       clear hb5 c2
       generalize W5.heap.size = a0 at m0 m1 m2 ms ha ⊢
       generalize ((W5.alloc (.map #[] 0)).alloc (.map #[] 0)).alloc (.map #[] 0) = W6 at m0 m1 m2 mb ms ⊢))
  go_ret2
  have hT : TabAt (W6.alloc (.cells (tabV d tl pk fs r.picks a0 (a0 + 1) (a0 + 1 + 1)) 57)) (a0 + 3) a0 (a0 + 1) (a0 + 1 + 1) (fun _ => none) (fun _ => none) (fun _ => none) [a0 + 3, a0, a0 + 1, a0 + 1 + 1] (tdOf d s r.picks) := by
    refine ⟨hok, ?_, m0.kept (Below.heap_alloc _ _ _ (by omega)), m1.kept (Below.heap_alloc _ _ _ (by omega)), m2.kept (Below.heap_alloc _ _ _ (by omega)), fun _ _ h => (by cases h), fun _ _ h => (by cases h), fun _ _ h => (by cases h), fun _ _ => rfl, fun _ _ h => (by cases h), fun _ _ h => (by cases h), fun _ _ _ h => (by cases h), by simp, by omega, fun k hk => ?_⟩
    · have := heap_alloc_new W6 (.cells (tabV d tl pk fs r.picks a0 (a0 + 1) (a0 + 1 + 1)) 57)
      rw [ms] at this
      rw [this, HTL.out, HPK.out, HFS.out, HR.out]
      rfl
    · simp only [World.size_alloc, ms]
      simp only [List.mem_cons, List.not_mem_nil, or_false] at hk
      omega
  refine ⟨a0 + 3, _, rfl, ⟨_, _, _, _, _, _, hT⟩, mb.trans ((Below.refl _ _).alloc mb.size _), fun k hk => ?_⟩
  simp only [List.mem_cons, List.not_mem_nil, or_false] at hk
  omega
end
end Go.Proofs.YtdadcengelfmhaaGreat.Cnt
