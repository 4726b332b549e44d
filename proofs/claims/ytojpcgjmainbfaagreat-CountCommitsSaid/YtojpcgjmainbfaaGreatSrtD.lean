/-
  SrtD: SrtPdq, SrtAll.
-/
import Derived.Test.YtojpcgjmainbfaaGreatSrtB
import Derived.Test.YtojpcgjmainbfaaGreatSrtC
import Derived.Sort.AssemblyPlain
import Derived.Deep.CutRange
import Derived.Test.YtojpcgjmainbfaaGreatCntC
/-
  Sorting a slice of uint32 (at most 255 numbers).
-/
namespace Go.Proofs.YtojpcgjmainbfaaGreat.Srt
open Go.RowKit RowLaw
open Go.Proofs.YtojpcgjmainbfaaGreat.Dev (Turn)
set_option maxRecDepth 100000
theorem swoN : Sort.SWO ltN where
  irrefl := fun x => by simp [ltN]
  trans := fun x y z h1 h2 => by simp [ltN] at h1 h2 ⊢; omega
  ntrans := fun x y z h1 h2 => by simp [ltN] at h1 h2 ⊢; omega
/-- what stands between a and b sorted -/
def Post (w : World) (g c a b : Nat) (d : Array Nat) (W : World) : Prop := ∃ d' : Array Nat, Sort.PermIn a b d d' ∧ Sort.SortedIn ltN a b d' ∧ Turn [g] w W ∧ Rw W g c d'
/-- a part is left to be sorted -/
structure Inv (w : World) (g c m a b : Nat) (d : Array Nat) (a' b' : Nat) (W : World) (D : Array Nat) : Prop where
  size : D.size = m
  turn : Turn [g] w W
  row : Rw W g c D
  below : Sort.Below ltN a' b' D
  go_on : ∀ R, Sort.PermIn a' b' D R → Sort.SortedIn ltN a' b' R → Sort.PermIn a b d R ∧ Sort.SortedIn ltN a b R
section
variable {w W W' : World} {g c m a b a' b' : Nat} {d D D' : Array Nat}
theorem Inv.step (h : Inv w g c m a b d a' b' W D) (hb : b' ≤ m) (ht : Turn [g] W W') (hp : Sort.PermIn a' b' D D') (hr : Rw W' g c D') : Inv w g c m a b d a' b' W' D' :=
  ⟨hp.1.trans h.size, h.turn.trans ht, hr, h.below.perm (by rw [h.size]; exact hb) hp, fun R h1 h2 => h.go_on R (Sort.permIn_trans _ _ _ a' b' hp h1) h2⟩
theorem Inv.done (h : Inv w g c m a b d a' b' W D) (ht : Turn [g] W W') (hp : Sort.PermIn a' b' D D') (hs : Sort.SortedIn ltN a' b' D') (hr : Rw W' g c D') : Post w g c a b d W' :=
  ⟨D', (h.go_on D' hp hs).1, (h.go_on D' hp hs).2, h.turn.trans ht, hr⟩
theorem Inv.same (h : Inv w g c m a b d a' b' W D) (hb : Below W.heap.size W W') (hm : 0 < m) : Inv w g c m a b d a' b' W' D :=
  ⟨h.size, h.turn.trans (Turn.of_below hb), h.row.block (hb.block g (World.block_lt_of_cell? W _ (h.row.cell (i := 0) (by rw [h.size]; exact hm)))), h.below, h.go_on⟩
theorem Inv.drew (h : Inv w g c m a b d a' b' W D) (n : Nat) : Inv w g c m a b d a' b' (W.drewN n) D :=
  ⟨h.size, h.turn.drewN n, h.row.any rfl, h.below, h.go_on⟩
theorem Inv.ins (h : Inv w g c m a b d a' b' W D) (hab : a' ≤ b') (hb : b' ≤ m) (hm : m ≤ 255) :
    Calls Tryz.prog 189 #[.slice (some ⟨g, 0, none⟩) m c, .int .i64 (a' : Int), .int .i64 (b' : Int)] W fun e w' => e = .returned (.tuple #[]) ∧ Post w g c a b d w' := by
  have hs := h.size
  subst hs
  obtain ⟨h1, h2⟩ := Sort.insertionSort_holds swoN D a' b' hab hb
  exact (insertion_any h.row hab hb (by omega)).mono fun e w' ⟨e1, e2, e3⟩ => ⟨e1, h.done e2 h1 h2 e3⟩
theorem Inv.heap (h : Inv w g c m a b d a' b' W D) (hab : a' < b') (hb : b' ≤ m) (hm : m ≤ 255) :
    Calls Tryz.prog 190 #[.slice (some ⟨g, 0, none⟩) m c, .int .i64 (a' : Int), .int .i64 (b' : Int)] W fun e w' => e = .returned (.tuple #[]) ∧ Post w g c a b d w' := by
  have hs := h.size
  subst hs
  obtain ⟨h1, h2⟩ := Sort.heapSort_holds swoN D a' b' (by omega) hb
  exact (heap_any h.row hab hb (by omega)).mono fun e w' ⟨e1, e2, e3⟩ => ⟨e1, h.done e2 h1 h2 e3⟩
theorem Inv.brk (h : Inv w g c m a b d a' b' W D) (hab : a' + 8 ≤ b') (hb : b' ≤ m) (hm : m ≤ 255) :
    Calls Tryz.prog 191 #[.slice (some ⟨g, 0, none⟩) m c, .int .i64 (a' : Int), .int .i64 (b' : Int)] W fun e w' => e = .returned (.tuple #[]) ∧ ∃ D', Inv w g c m a b d a' b' w' D' := by
  have hs := h.size
  subst hs
  exact (break_any h.row hab hb (by omega)).mono fun e w' ⟨e1, D', e2, e3, e4⟩ => ⟨e1, D', h.step hb e3 e2 e4⟩
theorem Inv.rev (h : Inv w g c m a b d a' b' W D) (hab : a' < b') (hb : b' ≤ m) (hm : m ≤ 255) :
    Calls Tryz.prog 193 #[.slice (some ⟨g, 0, none⟩) m c, .int .i64 (a' : Int), .int .i64 (b' : Int)] W fun e w' => e = .returned (.tuple #[]) ∧ ∃ D', Inv w g c m a b d a' b' w' D' := by
  have hs := h.size
  subst hs
  exact (reverse_any h.row hab hb (by omega)).mono fun e w' ⟨e1, e2, e3⟩ => ⟨e1, _, h.step hb e2 (Sort.reverseRange_holds D a' b' (by omega) hb) e3⟩
theorem Inv.piv (h : Inv w g c m a b d a' b' W D) (hab : a' + 8 ≤ b') (hb : b' ≤ m) (hm : m ≤ 255) :
    Calls Tryz.prog 192 #[.slice (some ⟨g, 0, none⟩) m c, .int .i64 (a' : Int), .int .i64 (b' : Int)] W fun e w' => ∃ p h : Nat, e = .returned (.tuple #[.int .i64 (p : Int), .int .i64 (h : Int)]) ∧ (a' ≤ p ∧ p < b' ∧ h ≤ 2) ∧ Inv w g c m a b d a' b' w' D := by
  have hs := h.size
  subst hs
  exact (pivot_any h.row hab hb (by omega)).mono fun e w' ⟨p, q, e1, e2, e3, e4, e5⟩ => ⟨p, q, e1, ⟨e2, e3, e4⟩, h.same e5 (by omega)⟩
theorem Inv.par (h : Inv w g c m a b d a' b' W D) (hab : a' < b') (hb : b' ≤ m) (hm : m ≤ 255) :
    Calls Tryz.prog 194 #[.slice (some ⟨g, 0, none⟩) m c, .int .i64 (a' : Int), .int .i64 (b' : Int)] W fun e w' => ∃ t : Bool, e = .returned (.bool t) ∧ Hid (t = true → Post w g c a b d w') ∧ ∃ D', Inv w g c m a b d a' b' w' D' := by
  have hs := h.size
  subst hs
  obtain ⟨h1, h2⟩ := Sort.partialInsertionSort_holds swoN D a' b' hab hb h.below
  exact (partial_any h.row hab hb (by omega)).mono fun e w' ⟨e1, e2, e3⟩ => ⟨_, e1, Lib.hid (fun ht => h.done e2 h1 (h2 ht) e3), _, h.step hb e2 h1 e3⟩
theorem Inv.peq {p : Nat} (h : Inv w g c m a b d a' b' W D) (ha : 0 < a') (hp : a' ≤ p) (hpb : p < b') (hb : b' ≤ m) (hm : m ≤ 255) (hl : ¬ D[a' - 1]! < D[p]!) :
    Calls Tryz.prog 196 #[.slice (some ⟨g, 0, none⟩) m c, .int .i64 (a' : Int), .int .i64 (b' : Int), .int .i64 (p : Int)] W fun e w' => ∃ mid : Nat, e = .returned (.int .i64 (mid : Int)) ∧ (a' < mid ∧ mid ≤ b') ∧ ∃ D', Inv w g c m a b d mid b' w' D' := by
  have hs := h.size
  subst hs
  obtain ⟨mid, D', hx⟩ : ∃ mid D', Sort.partitionEqual ltN D a' b' p = (mid, D') := ⟨_, _, rfl⟩
  have hc := partEq_any h.row hp hpb hb (by omega)
  rw [hx] at hc
  obtain ⟨r1, r2, r3, r4, r5⟩ := Sort.round_eq swoN (Sort.partitionEqual_holds ltN) ha hp hpb hb h.below (show ltN D[a' - 1]! D[p]! = false from decide_eq_false hl) hx
  exact hc.mono fun e w' ⟨e1, e2, e3⟩ => ⟨mid, e1, ⟨r1, r2⟩, D', r3, h.turn.trans e2, e3, r4, fun R k1 k2 => h.go_on R (r5 R k1 k2).1 (r5 R k1 k2).2⟩
theorem Inv.prt {p : Nat} (h : Inv w g c m a b d a' b' W D) (hp : a' ≤ p) (hpb : p < b') (hb : b' ≤ m) (hm : m ≤ 255) :
    Calls Tryz.prog 197 #[.slice (some ⟨g, 0, none⟩) m c, .int .i64 (a' : Int), .int .i64 (b' : Int), .int .i64 (p : Int)] W fun e w' => ∃ (mid : Nat) (ap : Bool), e = .returned (.tuple #[.int .i64 (mid : Int), .bool ap]) ∧ (a' ≤ mid ∧ mid < b') ∧ ∃ D', D'.size = m ∧ Rw w' g c D' ∧
      (Sort.Below ltN a' mid D' ∧ ∀ W2, Post w' g c a' mid D' W2 → ∃ D2, Inv w g c m a b d (mid + 1) b' W2 D2) ∧ (Sort.Below ltN (mid + 1) b' D' ∧ ∀ W2, Post w' g c (mid + 1) b' D' W2 → ∃ D2, Inv w g c m a b d a' mid W2 D2) := by
  have hs := h.size
  subst hs
  obtain ⟨mid, ap, D', hx⟩ : ∃ mid ap D', Sort.partition ltN D a' b' p = (mid, ap, D') := ⟨_, _, _, rfl⟩
  have hc := partition_any h.row hp hpb hb (by omega)
  rw [hx] at hc
  obtain ⟨r1, r2, r3, r4, r5, r6, r7⟩ := Sort.round_part swoN (Sort.partition_holds ltN) hp hpb hb h.below hx
  refine hc.mono fun e w' ⟨e1, e2, e3⟩ => ⟨mid, ap, e1, ⟨r1, r2⟩, D', r3, e3, ⟨r4, fun W2 ⟨L, k1, k2, k3, k4⟩ => ?_⟩, ⟨r5, fun W2 ⟨L, k1, k2, k3, k4⟩ => ?_⟩⟩
  · obtain ⟨s1, s2⟩ := r6 L k1 k2
    exact ⟨L, k1.1.trans r3, (h.turn.trans e2).trans k3, k4, s1, fun R q1 q2 => h.go_on R (s2 R q1 q2).1 (s2 R q1 q2).2⟩
  · obtain ⟨s1, s2⟩ := r7 L k1 k2
    exact ⟨L, k1.1.trans r3, (h.turn.trans e2).trans k3, k4, s1, fun R q1 q2 => h.go_on R (s2 R q1 q2).1 (s2 R q1 q2).2⟩
end

set_option linter.unusedSimpArgs false in
set_option maxHeartbeats 12800000 in
theorem pdq_any : ∀ (N : Nat) {w : World} {g c a b lim0 : Nat} {d : Array Nat}, b - a < N → Rw w g c d → a ≤ b → b ≤ d.size → d.size ≤ 255 → lim0 ≤ 1000 → Sort.Below ltN a b d →
    Calls Tryz.prog 174 #[.slice (some ⟨g, 0, none⟩) d.size c, .int .i64 (a : Int), .int .i64 (b : Int), .int .i64 (lim0 : Int)] w fun e w' => e = .returned (.tuple #[]) ∧ Post w g c a b d w' := by
  intro N
  induction N with
  | zero => intro w g c a b lim0 d h; exact absurd h (Nat.not_lt_zero _)
  | succ N ih =>
    intro w g c a b lim0 d hN hr hab hb hd hlim hbel
    obtain ⟨m, hm⟩ : ∃ m, m = d.size := ⟨_, rfl⟩
    have HI0 : Hid (Inv w g c m a b d a b w d) := Lib.hid ⟨hm.symm, Turn.refl _ _, hr, hbel, fun R h1 h2 => ⟨h1, h2⟩⟩
    have IH : Hid (∀ (W : World) (x y l : Nat) (D : Array Nat), y - x < N → D.size = m → Rw W g c D → x ≤ y → y ≤ m → l ≤ 1000 → Sort.Below ltN x y D →
        Calls Tryz.prog 174 #[.slice (some ⟨g, 0, none⟩) m c, .int .i64 (x : Int), .int .i64 (y : Int), .int .i64 (l : Int)] W fun e w' => e = .returned (.tuple #[]) ∧ Post W g c x y D w') := Lib.hid (fun W x y l D h1 h2 h3 h4 h5 h6 h7 => by
      subst h2
      exact ih h1 h3 h4 h5 (by omega) h6 h7)
    rw [← hm] at hb hd ⊢
    clear hm hr hbel ih
    go_enter Tryz.func174, Tryz.ntmps174
    go_wp2_with fail
    go_loopw [1, 2, 3, 8, 9] (fun v1 v2 v3 v8 v9 W => ∃ (a' b' lim : Nat) (wb wp : Bool) (D : Array Nat), v1 = .int .i64 (a' : Int) ∧ v2 = .int .i64 (b' : Int) ∧ v3 = .int .i64 (lim : Int) ∧ v8 = .bool wb ∧ v9 = .bool wp ∧
      (a' ≤ b' ∧ b' ≤ m ∧ b' - a' ≤ N ∧ lim ≤ 1000) ∧ Hid (Inv w g c m a b d a' b' W D)) (fun v1 v2 _ _ _ _ => (intOf v2).toNat - (intOf v1).toNat)
    case atStart => exact ⟨a, b, lim0, true, true, d, rfl, rfl, rfl, rfl, rfl, ⟨hab, hb, by omega, hlim⟩, HI0⟩
    case round =>
      clear HI0 hN hab hb hlim
      obtain ⟨a', b', lim, wb, wp, D, rfl, rfl, rfl, rfl, rfl, hrg, HI⟩ := hrel
      obtain ⟨hab, hb, hN, hlim⟩ := hrg
      by_cases h12 : b' - a' ≤ 12
      · have h12z : (b' : Int) - (a' : Int) ≤ 12 := by omega
        have HC := Lib.hid (HI.out.ins hab hb hd)
        clear HI IH
        go_wp2_with fail
        refine HC.out.mono ?_
        clear HC
        rintro e W1 ⟨rfl, hp⟩
        have HP := Lib.hid hp
        clear hp
        go_wp2_with fail
        (try simp only [Exit.inBlock, Exit.then])
        refine bodyPost_ret (results_none rfl _ _ _) rfl ?_
        exact ⟨rfl, HP.out⟩
      · have h12z : ¬ (b' : Int) - (a' : Int) ≤ 12 := by omega
        have h12n : a' + 13 ≤ b' := by omega
        clear h12 hab
        by_cases hl0 : lim = 0
        · subst hl0
          have HC := Lib.hid (HI.out.heap (by omega) hb hd)
          clear HI IH
          go_wp2_with fail
          refine HC.out.mono ?_
          clear HC
          rintro e W1 ⟨rfl, hp⟩
          have HP := Lib.hid hp
          clear hp
          go_wp2_with fail
          (try simp only [Exit.inBlock, Exit.then])
          refine bodyPost_ret (results_none rfl _ _ _) rfl ?_
          exact ⟨rfl, HP.out⟩
        · have hl0z : ¬ (lim : Int) = 0 := by omega
          go_upto_if 35 with fail
          go_cut [3] from 19 to 41 (fun v3 wx => ∃ (lim1 : Nat) (D1 : Array Nat), v3 = .int .i64 (lim1 : Int) ∧ lim1 ≤ 1000 ∧ Hid (Inv w g c m a b d a' b' wx D1))
          case first =>
            clear IH
            cases wb
            · have HC := Lib.hid (HI.out.brk (by omega) hb hd)
              clear HI
              go_wp2_with fail
              refine HC.out.mono ?_
              clear HC
              rintro e W1 ⟨rfl, D1, hp⟩
              have HP := Lib.hid hp
              clear hp
              go_wp2_with fail
              go_meet
              case rel => exact ⟨lim - 1, D1, by congr 1; omega, by omega, HP⟩
            · go_wp2_with fail
              go_meet
              case rel => exact ⟨lim, D, rfl, hlim, HI⟩
          case rest =>
            clear HI D hl0 hl0z hlim
            obtain ⟨lim1, D1, rfl, hlim, HI1⟩ := hcut
            have HC := Lib.hid (HI1.out.piv (by omega) hb hd)
            clear HI1
            go_upto_if 50 with ((with_reducible refine HC.out.mono ?_); rintro e W1 ⟨p, h, rfl, hp, hi⟩)
            have HI1 := Lib.hid hi
            obtain ⟨hp1, hp2, hh2⟩ := hp
            clear HC hi
            go_cut [11, 12] from 42 to 60 (fun v11 v12 wx => ∃ (p h : Nat) (D2 : Array Nat), v11 = .int .i64 (p : Int) ∧ v12 = .int .i64 (h : Int) ∧ (a' ≤ p ∧ p < b' ∧ h ≤ 2) ∧ Hid (Inv w g c m a b d a' b' wx D2))
            case first =>
              clear IH
              by_cases hh : h = 2
              · subst hh
                have HC := Lib.hid (HI1.out.rev (by omega) hb hd)
                clear HI1
                go_wp2_with fail
                refine HC.out.mono ?_
                clear HC
                rintro e W2 ⟨rfl, D2, hp⟩
                have HP := Lib.hid hp
                clear hp
                go_wp2_with fail
                go_meet
                case rel => exact ⟨(b' - 1) - (p - a'), 1, D2, by congr 1; omega, rfl, by omega, HP⟩
              · have hhz : ¬ (h : Int) = 2 := by omega
                go_wp2_with fail
                go_meet
                case rel => exact ⟨p, h, D1, rfl, rfl, ⟨hp1, hp2, hh2⟩, HI1⟩
            case rest =>
              clear HI1 hp1 hp2 hh2 p h D1 W1
              obtain ⟨p, h, D2, rfl, rfl, hp, HI2⟩ := hcut
              obtain ⟨hp1, hp2, hh2⟩ := hp
              go_upto_region 15 with fail
              go_cut [68] from 61 to 68 (fun v68 wx => ∃ t : Bool, v68 = .bool t ∧ wx = wc)
              case first =>
                clear IH
                by_cases h1 : h = 1
                · subst h1
                  cases wb <;> cases wp <;>
                    (go_wp2_with fail
                     go_meet
                     exact ⟨_, rfl, rfl⟩)
                · have h1z : ¬ (h : Int) = 1 := by omega
                  cases wb <;> cases wp <;>
                    (go_wp2_with fail
                     go_meet
                     exact ⟨_, rfl, rfl⟩)
              case rest =>
                obtain ⟨t, rfl, rfl⟩ := hcut
                go_upto_if 68 with fail
                go_cut [] from 61 to 72 (fun wx => ∃ D3 : Array Nat, Hid (Inv w g c m a b d a' b' wx D3))
                case first =>
                  clear IH
                  cases t
                  · go_wp2_with fail
                    go_meet
                    case rel => exact ⟨D2, HI2⟩
                  · have HC := Lib.hid (HI2.out.par (by omega) hb hd)
                    clear HI2
                    go_wp2_with fail
                    refine HC.out.mono ?_
                    clear HC
                    rintro e W2 ⟨t, rfl, HT, D3, hp⟩
                    have HP := Lib.hid hp
                    clear hp
                    cases t
                    · go_wp2_with fail
                      go_meet
                      case rel => exact ⟨D3, HP⟩
                    · go_wp2_with fail
                      (try simp only [Exit.inBlock, Exit.then])
                      refine bodyPost_ret (results_none rfl _ _ _) rfl ?_
                      exact ⟨rfl, HT.out (by simp)⟩
                case rest =>
                  clear HI2 t
                  obtain ⟨D3, HI3⟩ := hcut
                  have cp : wc.cell? ⟨g, p, none⟩ = some (.int .u32 (D3[p]! : Int)) := HI3.out.row.cell (by rw [HI3.out.size]; omega)
                  have ca : 0 < a' → wc.cell? ⟨g, a' - 1, none⟩ = some (.int .u32 (D3[a' - 1]! : Int)) := fun h => HI3.out.row.cell (by rw [HI3.out.size]; omega)
                  obtain ⟨x, hx⟩ : ∃ x, x = D3[a' - 1]! := ⟨_, rfl⟩
                  obtain ⟨y, hy⟩ : ∃ y, y = D3[p]! := ⟨_, rfl⟩
                  obtain ⟨bb, hbb⟩ : ∃ bb : Bool, bb = (decide (0 < a') && !decide (x < y)) := ⟨_, rfl⟩
                  have HBT : Hid (bb = true → 0 < a' ∧ ¬ D3[a' - 1]! < D3[p]!) := Lib.hid (fun h => by rw [← hx, ← hy]; rw [hbb] at h; simpa using h)
                  rw [← hx] at ca
                  rw [← hy] at cp
                  have HBB := Lib.hid hbb
                  clear hx hy hbb
                  go_upto_region 17 with fail
                  go_cut [87] from 73 to 87 (fun v87 wx => v87 = .bool bb ∧ Hid (Inv w g c m a b d a' b' wx D3))
                  case first =>
                    clear IH HBT
                    by_cases h1 : 0 < a'
                    · have h1z : (0 : Int) < (a' : Int) := by omega
                      have h2m : a' - 1 < m := by omega
                      have hpm : p < m := by omega
                      replace ca := ca h1
                      have hbe : bb = !decide (x < y) := by rw [HBB.out, decide_eq_true h1, Bool.true_and]
                      have HBE := Lib.hid hbe
                      clear hbe
                      go_big_quiet (first | (go_at_call 195; refine Calls.quiet_of_same (Less_any _ _ _)))
                      go_wp2_with fail
                      go_meet
                      case rel => exact ⟨by rw [HBE.out], Lib.hid (HI3.out.drew nq)⟩
                    · have h1z : decide ((0 : Int) < (a' : Int)) = false := decide_eq_false (by omega)
                      have hbe : bb = false := by rw [HBB.out, decide_eq_false h1, Bool.false_and]
                      have HBE := Lib.hid hbe
                      clear hbe ca
                      go_big_quiet (first | (go_at_call 195; refine Calls.quiet_of_same (Less_any _ _ _)))
                      go_wp2_with fail
                      go_meet
                      case rel => exact ⟨by rw [HBE.out], Lib.hid (HI3.out.drew nq)⟩
                  case rest =>
                    clear HI3 cp ca HBB
                    obtain ⟨rfl, HI4⟩ := hcut
                    cases hb2 : bb
                    · subst hb2
                      clear HBT
                      have HC := Lib.hid (HI4.out.prt hp1 hp2 hb hd)
                      clear HI4
                      go_upto_if 113 with ((with_reducible refine HC.out.mono ?_); rintro e W7 ⟨mid, ap, rfl, hmid, D4, hD4, hW4, hL, hR⟩)
                      have HW4 := Lib.hid hW4; have HD4 := Lib.hid hD4; have HL := Lib.hid hL; have HR := Lib.hid hR
                      obtain ⟨hm1, hm2⟩ := hmid
                      clear HC hW4 hL hR hD4
                      by_cases h4 : mid - a' < b' - mid
                      · have h4z : (mid : Int) - (a' : Int) < (b' : Int) - (mid : Int) := by omega
                        have HC := Lib.hid (IH.out W7 a' mid lim1 D4 (by omega) HD4.out HW4.out (by omega) (by omega) hlim HL.out.1)
                        clear IH HR
                        go_wp2_with fail
                        refine HC.out.mono ?_
                        clear HC
                        rintro e W8 ⟨rfl, hp⟩
                        have HP := Lib.hid (HL.out.2 _ hp)
                        clear hp HL
                        go_wp2_with fail
                        go_roundw
                        case rel =>
                          obtain ⟨D5, h5⟩ := HP.out
                          exact ⟨mid + 1, b', lim1, _, ap, D5, by go_num, rfl, rfl, rfl, rfl, by omega, Lib.hid h5⟩
                        case measure => simp [intOf]; omega
                      · have h4z : ¬ (mid : Int) - (a' : Int) < (b' : Int) - (mid : Int) := by omega
                        have HC := Lib.hid (IH.out W7 (mid + 1) b' lim1 D4 (by omega) HD4.out HW4.out (by omega) (by omega) hlim HR.out.1)
                        clear IH HL
                        go_wp2_with fail
                        refine HC.out.mono ?_
                        clear HC
                        rintro e W8 ⟨rfl, hp⟩
                        have HP := Lib.hid (HR.out.2 _ hp)
                        clear hp HR
                        go_wp2_with fail
                        go_roundw
                        case rel =>
                          obtain ⟨D5, h5⟩ := HP.out
                          exact ⟨a', mid, lim1, _, ap, D5, rfl, rfl, rfl, rfl, rfl, by omega, Lib.hid h5⟩
                        case measure => simp [intOf]; omega
                    · obtain ⟨ht1, ht2⟩ := HBT.out hb2
                      have HC := Lib.hid (HI4.out.peq ht1 hp1 hp2 hb hd ht2)
                      subst hb2
                      clear HI4 ht2 HBT IH
                      go_wp2_with fail
                      refine HC.out.mono ?_
                      clear HC
                      rintro e W7 ⟨mid, rfl, hmid, D4, h5⟩
                      have HP := Lib.hid h5
                      clear h5
                      obtain ⟨hm1, hm2⟩ := hmid
                      go_wp2_with fail
                      go_roundw
                      case rel => exact ⟨mid, b', lim1, wb, wp, D4, rfl, rfl, rfl, rfl, rfl, by omega, HP⟩
                      case measure => simp [intOf]; omega
end Go.Proofs.YtojpcgjmainbfaaGreat.Srt

/-
  Sorting a slice of uint32: at most 255 numbers.
-/
namespace Go.Proofs.YtojpcgjmainbfaaGreat.Cnt
open Go.RowKit RowLaw
open Go.Proofs.YtojpcgjmainbfaaGreat.Dev (Turn)
open Go.Proofs.YtojpcgjmainbfaaGreat.Srt (Rw pdq_any Post len_any swoN ltN)
set_option maxRecDepth 100000

theorem sortOk : SortOk 255 := fun base v ss W hown hlen hlt => by
  rcases hown.2 with ⟨rfl, hz⟩ | ⟨g, cap, cur, rfl, hbg, hcell, hsz, hcap, hfz, htk⟩
  · have he : ss = [] := List.eq_nil_of_length_eq_zero hz
    subst he
    exact sortOk1 base _ [] W hown (by simp) hlt
  · obtain ⟨d, hd⟩ : ∃ d : Array Nat, d = ss.toArray := ⟨_, rfl⟩
    have hds : d.size = ss.length := by rw [hd]; simp
    have hdl : d.toList = ss := by rw [hd]
    have hR : Rw W g cap d := by
      unfold Rw
      rw [hdl, hds]
      exact ⟨hown.1, .inr ⟨g, cap, cur, rfl, Nat.zero_le _, hcell, hsz, hcap, hfz, htk⟩⟩
    have hlb : Sort.bitsLen d.size ≤ 1000 := by
      have := (Sort.bitsLen_le_iff d.size 8).2 (by omega)
      omega
    have HP := Lib.hid (fun W (h : Rw W g cap d) => pdq_any (d.size + 1) (w := W) (g := g) (c := cap) (a := 0) (b := d.size) (lim0 := Sort.bitsLen d.size) (d := d) (by omega) h (Nat.zero_le _) (Nat.le_refl _) (by omega) hlb (.inl rfl))
    have HL := Lib.hid (len_any d.size (by omega))
    have HR := Lib.hid hR
    obtain ⟨m, hm⟩ : ∃ m, m = d.size := ⟨_, rfl⟩
    have hm255 : m ≤ 255 := by omega
    have hc : Calls Tryz.prog 143 #[.slice (some ⟨g, 0, none⟩) m cap] W fun e w' => e = .returned (.tuple #[]) ∧ Post W g cap 0 d.size d w' := by
      rw [← hm] at HP HL ⊢
      have HP2 : Hid (Calls Tryz.prog 174 #[.slice (some ⟨g, 0, none⟩) m cap, .int .i64 0, .int .i64 (m : Int), .int .i64 (Sort.bitsLen m : Int)] W fun e w' => e = .returned (.tuple #[]) ∧ Post W g cap 0 m d w') := Lib.hid (HP.out W HR.out)
      clear hown hcell hsz hcap hfz htk hlen hlt hd hds hdl hR hlb HP HR hm
      have z1 : IntKind.u64.wrap (m : Int) = (m : Int) := IntWalk.u64_in _ (by omega)
      go_enter Tryz.func143, Tryz.ntmps143
      go_wp2_with (first | ((with_reducible refine (HL.out _).mono ?_); rintro e W1 ⟨rfl, rfl⟩) | ((with_reducible refine HP2.out.mono ?_); rintro e W2 ⟨rfl, hp⟩))
      go_end0
      exact ⟨rfl, hp⟩
    rw [hm, hds] at hc
    refine hc.mono fun e w' ⟨he, d', hp, hs, ht, hr⟩ => ⟨he, d'.toList, ?_, ?_, ?_, ?_⟩
    · have h2 := hp.2.2
      rw [← hds, Array.extract_eq_self_of_le (Nat.le_refl _), hdl] at h2
      rw [← hp.1, Array.extract_eq_self_of_le (Nat.le_refl _)] at h2
      exact h2
    · rw [List.pairwise_iff_getElem]
      intro i j hi hj hij
      have h3 := hs i j (Nat.zero_le _) hij (by rw [← hds, ← hp.1]; simpa using hj)
      rw [getElem!_pos d' i (by simpa using hi), getElem!_pos d' j (by simpa using hj)] at h3
      have h4 : ¬ d'[j]'(by simpa using hj) < d'[i]'(by simpa using hi) := of_decide_eq_false h3
      simp only [Array.getElem_toList]
      omega
    · have hsz2 : d'.toList.length = ss.length := by rw [Array.length_toList, hp.1, hds]
      have hr' := hr
      unfold Rw at hr'
      rw [show d'.size = ss.length from hp.1.trans hds] at hr'
      rcases hr'.2 with ⟨h1, _⟩ | ⟨g', c', cur', h1, _, k3, k4, k5, k6, k7⟩
      · cases h1
      · cases h1
        rw [hsz2]
        exact ⟨by simpa using hsz2, .inr ⟨g, cap, cur', rfl, hbg, k3, k4, k5, k6, k7⟩⟩
    · exact ht
end Go.Proofs.YtojpcgjmainbfaaGreat.Cnt

