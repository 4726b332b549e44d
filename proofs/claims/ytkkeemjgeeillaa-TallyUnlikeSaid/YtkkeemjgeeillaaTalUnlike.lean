/-
  The walk of the law TallyUnlike.
-/
import Derived.Test.YtkkeemjgeeillaaTalHead
import Derived.Test.YtkkeemjgeeillaaTalDiff
import Derived.Test.YtkkeemjgeeillaaFldHead
import Derived.Deep.RegionHeld3
namespace Go.Proofs.Ytkkeemjgeeillaa.Tal
open Go.RowKit RowLaw Crc Fld
set_option maxRecDepth 100000

set_option maxHeartbeats 6400000 in
theorem unlike_no (ai : Nat) (an : List Nat) (han : an.length = kT.n) (has : ∀ j (hj : j < an.length), an[j] < 256 ^ kT.wd) (bi : Nat) (bn : List Nat) (hbn : bn.length = kT.n) (hbs : ∀ j (hj : j < bn.length), bn[j] < 256 ^ kT.wd) (pi : Nat) (pn : List Nat) (hpn : pn.length = kP.n) (hps : ∀ j (hj : j < pn.length), pn[j] < 256 ^ kP.wd) (hno : ¬ ai < kT.lim ∨ ¬ bi < kT.lim ∨ ¬ pi < kP.lim) (w : World) :
    Calls Try.prog 5 #[.agg (pgCells .u16 ai an), .agg (pgCells .u16 bi bn), .agg (pgCells .u64 pi pn)] w fun e w' => e = .returned (.bool true) ∧ Below w.heap.size w w' := by
  have hzv := (zero_of_info infoBlock).1
  have hzt := (zero_of_info infoT).1
  have hzp := (zero_of_info infoP).1
  have hia := sizeT ai an han
  have hib := sizeT bi bn hbn
  have hip := sizeP pi pn hpn
  have hXl := putB_length fT ai han
  have hYl := putB_length fT bi hbn
  have hZl := putB_length fP pi hpn
  have hpa := fun W => Put_anyT ai an han has W
  have hpb := fun W => Put_anyT bi bn hbn hbs W
  have hpp := fun W => Put_anyP pi pn hpn hps W
  have hor : putE kT ai ≠ 0 ∨ putE kT bi ≠ 0 ∨ putE kP pi ≠ 0 := by
    rcases hno with h | h | h
    · exact .inl (by rw [putE_no h]; decide)
    · exact .inr (.inl (by rw [putE_no h]; decide))
    · exact .inr (.inr (by rw [putE_no h]; decide))
  generalize putE kT ai = E at hpa hor
  generalize putE kT bi = F at hpb hor
  generalize putE kP pi = G at hpp hor
  generalize putB kT ai an = X at hpa hXl
  generalize putB kT bi bn = Y at hpb hYl
  generalize putB kP pi pn = Z at hpp hZl
  have hiX := sizeBlock X hXl
  have hiY := sizeBlock Y hYl
  have hiZ := sizeBlock Z hZl
  have hzX : (cellsOf zeros).size = (cellsOf X).size := by rw [cellsOf_size, cellsOf_size, hXl, zeros_length]
  have hzY : (cellsOf zeros).size = (cellsOf Y).size := by rw [cellsOf_size, cellsOf_size, hYl, zeros_length]
  have hzZ : (cellsOf zeros).size = (cellsOf Z).size := by rw [cellsOf_size, cellsOf_size, hZl, zeros_length]
  have HPA := Lib.hid hpa
  have HPB := Lib.hid hpb
  have HPP := Lib.hid hpp
  clear hpa hpb hpp hXl hYl hZl hno han hbn hpn has hbs hps
  by_cases hE : E = 0
  · have hE1 : (E != 0) = false := by rw [hE]; rfl
    have hE2 : (E == 0) = true := by rw [hE]; rfl
    by_cases hF : F = 0
    · have hG : G ≠ 0 := by
        rcases hor with h | h | h
        · exact absurd hE h
        · exact absurd hF h
        · exact h
      have hF1 : (F != 0) = false := by rw [hF]; rfl
      have hF2 : (F == 0) = true := by rw [hF]; rfl
      have hG1 : (G != 0) = true := by simpa using hG
      have hG2 : (G == 0) = false := by simpa using hG
      clear hE hF hG hor
      have h2 := (((Kept.start w).alloc (.cells (pgCells .u16 ai an) 26)).alloc (.cells (pgCells .u16 bi bn) 26)).alloc (.cells (pgCells .u64 pi pn) 30)
      rw [show ((w.alloc (.cells (pgCells .u16 ai an) 26)).alloc (.cells (pgCells .u16 bi bn) 26)).heap.size = w.heap.size + 2 from by simp, show (w.alloc (.cells (pgCells .u16 ai an) 26)).heap.size = w.heap.size + 1 from by simp] at h2
      go_enter Try.func5, Try.ntmps5
      go_wp2_with (refine wpList_load_row rfl 26 _ rfl (w.heap.size) rfl _ _ _ _ (h2.at_ (q := w.heap.size) (o := .cells (pgCells .u16 ai an) 26) (by simp)) Try.underlying26 rfl hia ?_)
      refine (HPA.out _).mono ?_
      rintro e W2 ⟨rfl, hx⟩
      have h3 := (h2.below hx).alloc (.cells (cellsOf X) 32)
      clear h2 hx
      have tok : True := trivial
      go_wp2_with (first
        | (have _t := tok; refine wpList_store_new rfl 32 _ _ rfl (cellsOf X) _ _ rfl rfl hiX hzX (cellsOf_one _) ?_; generalize W2.heap.size = q7 at h3 ⊢; generalize W2.alloc (.cells (cellsOf X) 32) = W3 at h3 ⊢; clear _t tok)
        | (refine wpList_load_row rfl 26 _ rfl (w.heap.size + 1) rfl _ _ _ _ (h3.at_ (q := w.heap.size + 1) (o := .cells (pgCells .u16 bi bn) 26) (by simp)) Try.underlying26 rfl hib ?_))
      refine (HPB.out _).mono ?_
      rintro e W4 ⟨rfl, hx⟩
      have h4 := (h3.below hx).alloc (.cells (cellsOf Y) 32)
      clear h3 hx
      have tok : True := trivial
      go_wp2_with (first
        | (have _t := tok; refine wpList_store_new rfl 32 _ _ rfl (cellsOf Y) _ _ rfl rfl hiY hzY (cellsOf_one _) ?_; generalize W4.heap.size = q9 at h4 ⊢; generalize W4.alloc (.cells (cellsOf Y) 32) = W5 at h4 ⊢; clear _t tok)
        | (refine wpList_load_row rfl 30 _ rfl (w.heap.size + 2) rfl _ _ _ _ (h4.at_ (q := w.heap.size + 2) (o := .cells (pgCells .u64 pi pn) 30) (by simp)) Try.underlying30 rfl hip ?_))
      refine (HPP.out _).mono ?_
      rintro e W6 ⟨rfl, hx⟩
      have h5 := (h4.below hx).alloc (.cells (cellsOf Z) 32)
      clear h4 hx
      have tok : True := trivial
      go_wp2_with (first | (have _t := tok; refine wpList_store_new rfl 32 _ _ rfl (cellsOf Z) _ _ rfl rfl hiZ hzZ (cellsOf_one _) ?_; generalize W6.heap.size = q11 at h5 ⊢; generalize W6.alloc (.cells (cellsOf Z) 32) = W7 at h5 ⊢; clear _t tok) | (go_at_call 14; (with_reducible refine (head_any _).mono ?_); rintro e WZ ⟨rfl, hx⟩))
      go_ret
      exact ⟨rfl, h5.bel.trans (hx.mono h5.bel.size)⟩
    · have hF1 : (F != 0) = true := by simpa using hF
      have hF2 : (F == 0) = false := by simpa using hF
      clear hE hF hor
      have h2 := (((Kept.start w).alloc (.cells (pgCells .u16 ai an) 26)).alloc (.cells (pgCells .u16 bi bn) 26)).alloc (.cells (pgCells .u64 pi pn) 30)
      rw [show ((w.alloc (.cells (pgCells .u16 ai an) 26)).alloc (.cells (pgCells .u16 bi bn) 26)).heap.size = w.heap.size + 2 from by simp, show (w.alloc (.cells (pgCells .u16 ai an) 26)).heap.size = w.heap.size + 1 from by simp] at h2
      go_enter Try.func5, Try.ntmps5
      go_wp2_with (refine wpList_load_row rfl 26 _ rfl (w.heap.size) rfl _ _ _ _ (h2.at_ (q := w.heap.size) (o := .cells (pgCells .u16 ai an) 26) (by simp)) Try.underlying26 rfl hia ?_)
      refine (HPA.out _).mono ?_
      rintro e W2 ⟨rfl, hx⟩
      have h3 := (h2.below hx).alloc (.cells (cellsOf X) 32)
      clear h2 hx
      have tok : True := trivial
      go_wp2_with (first
        | (have _t := tok; refine wpList_store_new rfl 32 _ _ rfl (cellsOf X) _ _ rfl rfl hiX hzX (cellsOf_one _) ?_; generalize W2.heap.size = q7 at h3 ⊢; generalize W2.alloc (.cells (cellsOf X) 32) = W3 at h3 ⊢; clear _t tok)
        | (refine wpList_load_row rfl 26 _ rfl (w.heap.size + 1) rfl _ _ _ _ (h3.at_ (q := w.heap.size + 1) (o := .cells (pgCells .u16 bi bn) 26) (by simp)) Try.underlying26 rfl hib ?_))
      refine (HPB.out _).mono ?_
      rintro e W4 ⟨rfl, hx⟩
      have h4 := (h3.below hx).alloc (.cells (cellsOf Y) 32)
      clear h3 hx
      have tok : True := trivial
      go_wp2_with (first
        | (have _t := tok; refine wpList_store_new rfl 32 _ _ rfl (cellsOf Y) _ _ rfl rfl hiY hzY (cellsOf_one _) ?_; generalize W4.heap.size = q9 at h4 ⊢; generalize W4.alloc (.cells (cellsOf Y) 32) = W5 at h4 ⊢; clear _t tok)
        | (refine wpList_load_row rfl 30 _ rfl (w.heap.size + 2) rfl _ _ _ _ (h4.at_ (q := w.heap.size + 2) (o := .cells (pgCells .u64 pi pn) 30) (by simp)) Try.underlying30 rfl hip ?_))
      refine (HPP.out _).mono ?_
      rintro e W6 ⟨rfl, hx⟩
      have h5 := (h4.below hx).alloc (.cells (cellsOf Z) 32)
      clear h4 hx
      have tok : True := trivial
      go_wp2_with (first | (have _t := tok; refine wpList_store_new rfl 32 _ _ rfl (cellsOf Z) _ _ rfl rfl hiZ hzZ (cellsOf_one _) ?_; generalize W6.heap.size = q11 at h5 ⊢; generalize W6.alloc (.cells (cellsOf Z) 32) = W7 at h5 ⊢; clear _t tok) | (go_at_call 14; (with_reducible refine (head_any _).mono ?_); rintro e WZ ⟨rfl, hx⟩))
      go_ret
      exact ⟨rfl, h5.bel.trans (hx.mono h5.bel.size)⟩
  · have hE1 : (E != 0) = true := by simpa using hE
    have hE2 : (E == 0) = false := by simpa using hE
    clear hE hor
    have h2 := (((Kept.start w).alloc (.cells (pgCells .u16 ai an) 26)).alloc (.cells (pgCells .u16 bi bn) 26)).alloc (.cells (pgCells .u64 pi pn) 30)
    rw [show ((w.alloc (.cells (pgCells .u16 ai an) 26)).alloc (.cells (pgCells .u16 bi bn) 26)).heap.size = w.heap.size + 2 from by simp, show (w.alloc (.cells (pgCells .u16 ai an) 26)).heap.size = w.heap.size + 1 from by simp] at h2
    go_enter Try.func5, Try.ntmps5
    go_wp2_with (refine wpList_load_row rfl 26 _ rfl (w.heap.size) rfl _ _ _ _ (h2.at_ (q := w.heap.size) (o := .cells (pgCells .u16 ai an) 26) (by simp)) Try.underlying26 rfl hia ?_)
    refine (HPA.out _).mono ?_
    rintro e W2 ⟨rfl, hx⟩
    have h3 := (h2.below hx).alloc (.cells (cellsOf X) 32)
    clear h2 hx
    have tok : True := trivial
    go_wp2_with (first
      | (have _t := tok; refine wpList_store_new rfl 32 _ _ rfl (cellsOf X) _ _ rfl rfl hiX hzX (cellsOf_one _) ?_; generalize W2.heap.size = q7 at h3 ⊢; generalize W2.alloc (.cells (cellsOf X) 32) = W3 at h3 ⊢; clear _t tok)
      | (refine wpList_load_row rfl 26 _ rfl (w.heap.size + 1) rfl _ _ _ _ (h3.at_ (q := w.heap.size + 1) (o := .cells (pgCells .u16 bi bn) 26) (by simp)) Try.underlying26 rfl hib ?_))
    refine (HPB.out _).mono ?_
    rintro e W4 ⟨rfl, hx⟩
    have h4 := (h3.below hx).alloc (.cells (cellsOf Y) 32)
    clear h3 hx
    have tok : True := trivial
    go_wp2_with (first
      | (have _t := tok; refine wpList_store_new rfl 32 _ _ rfl (cellsOf Y) _ _ rfl rfl hiY hzY (cellsOf_one _) ?_; generalize W4.heap.size = q9 at h4 ⊢; generalize W4.alloc (.cells (cellsOf Y) 32) = W5 at h4 ⊢; clear _t tok)
      | (refine wpList_load_row rfl 30 _ rfl (w.heap.size + 2) rfl _ _ _ _ (h4.at_ (q := w.heap.size + 2) (o := .cells (pgCells .u64 pi pn) 30) (by simp)) Try.underlying30 rfl hip ?_))
    refine (HPP.out _).mono ?_
    rintro e W6 ⟨rfl, hx⟩
    have h5 := (h4.below hx).alloc (.cells (cellsOf Z) 32)
    clear h4 hx
    have tok : True := trivial
    go_wp2_with (first | (have _t := tok; refine wpList_store_new rfl 32 _ _ rfl (cellsOf Z) _ _ rfl rfl hiZ hzZ (cellsOf_one _) ?_; generalize W6.heap.size = q11 at h5 ⊢; generalize W6.alloc (.cells (cellsOf Z) 32) = W7 at h5 ⊢; clear _t tok) | (go_at_call 14; (with_reducible refine (head_any _).mono ?_); rintro e WZ ⟨rfl, hx⟩))
    go_ret
    exact ⟨rfl, h5.bel.trans (hx.mono h5.bel.size)⟩

set_option maxHeartbeats 12800000 in
theorem unlike_yes (ai : Nat) (an : List Nat) (han : an.length = kT.n) (has : ∀ j (hj : j < an.length), an[j] < 256 ^ kT.wd) (bi : Nat) (bn : List Nat) (hbn : bn.length = kT.n) (hbs : ∀ j (hj : j < bn.length), bn[j] < 256 ^ kT.wd) (pi : Nat) (pn : List Nat) (hpn : pn.length = kP.n) (hps : ∀ j (hj : j < pn.length), pn[j] < 256 ^ kP.wd) (hbi : bi < 4294967296) (hoa : ai < kT.lim) (hob : bi < kT.lim) (hop : pi < kP.lim) (w : World) :
    Calls Try.prog 5 #[.agg (pgCells .u16 ai an), .agg (pgCells .u16 bi bn), .agg (pgCells .u64 pi pn)] w fun e w' => e = .returned (.bool true) ∧ Below w.heap.size w w' := by
  have hzv := (zero_of_info infoBlock).1
  have hzt := (zero_of_info infoT).1
  have hzp := (zero_of_info infoP).1
  have hia := sizeT ai an han
  have hib := sizeT bi bn hbn
  have hip := sizeP pi pn hpn
  have hXl := putB_length fT ai han
  have hYl := putB_length fT bi hbn
  have hZl := putB_length fP pi hpn
  have hpa := fun W => Put_anyT ai an han has W
  have hpb := fun W => Put_anyT bi bn hbn hbs W
  have hpp := fun W => Put_anyP pi pn hpn hps W
  rw [putE_yes hoa] at hpa
  rw [putE_yes hob] at hpb
  rw [putE_yes hop] at hpp
  have hgp : ∀ W, Calls Try.prog 13 #[.agg (cellsOf (putB kT ai an)), .int .u32 (pi : Int)] W fun e w' => e = .returned (.tuple #[.agg (pgCells .u64 0 (zs kP)), .int .i64 250]) ∧ Below W.heap.size W w' := fun W => by
    have h := Get_anyP (putB kT ai an) hXl pi W
    have hE : getE kP (putB kT ai an) pi = 250 := by rw [putB_yes an hoa]; exact other_kind fT fP (by decide) (by decide) han hop
    have hg := got_no (k := kP) (l := putB kT ai an) (idx := pi) (by rw [hE]; decide)
    rw [hg.1, hg.2, hE] at h
    exact h
  have hgt : ∀ W, Calls Try.prog 12 #[.agg (cellsOf (putB kP pi pn)), .int .u32 (ai : Int)] W fun e w' => e = .returned (.tuple #[.agg (pgCells .u16 0 (zs kT)), .int .i64 250]) ∧ Below W.heap.size W w' := fun W => by
    have h := Get_anyT (putB kP pi pn) hZl ai W
    have hE : getE kT (putB kP pi pn) ai = 250 := by rw [putB_yes pn hop]; exact other_kind fP fT (by decide) (by decide) hpn hoa
    have hg := got_no (k := kT) (l := putB kP pi pn) (idx := ai) (by rw [hE]; decide)
    rw [hg.1, hg.2, hE] at h
    exact h
  have hl16 : kT.lim = 16384 := rfl
  have hd : decide (putB kT ai an = putB kT bi bn) = decide (ai = bi ∧ an = bn) := decide_eq_decide.2 ⟨fun h => by
    rw [putB_yes an hoa, putB_yes bn hob] at h
    exact pgB_inj fT han hbn has hbs (by omega) hbi h, fun h => by rw [h.1, h.2]⟩
  obtain ⟨k, hk⟩ : ∃ k, k = bi % 64 := ⟨_, rfl⟩
  have hk64 : k < 64 := by omega
  have hn64 : kT.n = 64 := rfl
  have hkb : k < bn.length := by omega
  have hka : k < an.length := by omega
  obtain ⟨v, hv⟩ : ∃ v, v = bn[k] := ⟨_, rfl⟩
  obtain ⟨ak, hak⟩ : ∃ ak, ak = an[k] := ⟨_, rfl⟩
  have hvl : v < 65536 := by rw [hv]; exact hbs k hkb
  have hakl : ak < 65536 := by rw [hak]; exact has k hka
  have hcn : (an.set k v).length = kT.n := by rw [List.length_set]; exact han
  have hcs := set_lt has k v hvl
  have hpc := fun W => Put_anyT ai (an.set k v) hcn hcs W
  rw [putE_yes hoa] at hpc
  have hX2l := putB_length fT ai hcn
  have hic := sizeT ai (an.set k v) hcn
  have hdiff : ∀ i, i < 252 → (putB kT ai an)[i]? = (putB kT ai (an.set k v))[i]? ∨ i = 5 + 2 * k ∨ i = 6 + 2 * k := fun i hi => by
    rw [putB_yes an hoa, putB_yes _ hoa]
    by_cases h1 : i = 5 + 2 * k
    · exact .inr (.inl h1)
    · by_cases h2 : i = 6 + 2 * k
      · exact .inr (.inr h2)
      · exact .inl (diff_out ai an han k v i hi ⟨h1, h2⟩)
  have hza := fun W => Zeros_any ai an han W
  have hzc := fun W => Zeros_any ai (an.set k v) hcn W
  have hzs := zerosIn_set an k v hka
  rw [← hak] at hzs
  have hzal := zerosIn_le an
  have hzcl := zerosIn_le (an.set k v)
  rw [han] at hzal
  rw [hcn] at hzcl
  rw [hn64] at hzal hzcl
  generalize zerosIn an = za at hza hzs hzal
  generalize zerosIn (an.set k v) = zc at hzc hzs hzcl
  have heq := fun W : World => run_eqBlock W (putB kT ai an) (putB kT bi bn) hXl hYl
  have heqn := fun W : World => run_eqPgT W ai bi an bn han hbn
  rw [hd] at heq
  generalize decide (ai = bi ∧ an = bn) = d at heq heqn
  clear hd hl16
  generalize putB kT ai an = X at hpa hXl heq hdiff hgp
  generalize putB kT bi bn = Y at hpb hYl heq
  generalize putB kP pi pn = Z at hpp hZl hgt
  generalize putB kT ai (an.set k v) = X2 at hpc hX2l hdiff
  have hiX := sizeBlock X hXl
  have hiY := sizeBlock Y hYl
  have hiZ := sizeBlock Z hZl
  have hzX : (cellsOf zeros).size = (cellsOf X).size := by rw [cellsOf_size, cellsOf_size, hXl, zeros_length]
  have hzY : (cellsOf zeros).size = (cellsOf Y).size := by rw [cellsOf_size, cellsOf_size, hYl, zeros_length]
  have hzZ : (cellsOf zeros).size = (cellsOf Z).size := by rw [cellsOf_size, cellsOf_size, hZl, zeros_length]
  have hi2 := sizeBlock X2 hX2l
  have hz2 : (cellsOf zeros).size = (cellsOf X2).size := by rw [cellsOf_size, cellsOf_size, hX2l, zeros_length]
  have hsa : (pgCells .u16 0 (zs kT)).size = (pgCells .u16 ai an).size := by rw [pgCells_size, pgCells_size, han, zs_length]
  have hit0 := sizeT 0 (zs kT) (zs_length kT)
  have hip0 := sizeP 0 (zs kP) (zs_length kP)
  have hg := fun (W : World) (op : BinOp) (x y : Operand) (xs ys : Array Value) => run_eqGuard_agg (P := Try.prog) W op 32 x y xs ys noGuard
  have hgn := fun (W : World) (op : BinOp) (x y : Operand) (xs ys : Array Value) => run_eqGuard_agg (P := Try.prog) W op 26 x y xs ys noGuardT
  have hdd : (d != d) = false := by simp
  have HPA := Lib.hid hpa
  have HPB := Lib.hid hpb
  have HPP := Lib.hid hpp
  have HPC := Lib.hid hpc
  have HGP := Lib.hid hgp
  have HGT := Lib.hid hgt
  have HZA := Lib.hid hza
  have HZC := Lib.hid hzc
  have HDF := Lib.hid hdiff
  have HXL := Lib.hid hXl
  have HX2L := Lib.hid hX2l
  have HV := Lib.hid hv
  have HAK := Lib.hid hak
  have HZS := Lib.hid hzs
  have hrem : (bi : Int) % 64 = (k : Int) := by omega
  have hrem2 : Int.tmod (bi : Int) 64 = (k : Int) := by rw [Int.tmod_eq_emod_of_nonneg (by omega)]; exact hrem
  have zk : IntKind.u32.wrap (k : Int) = (k : Int) := IntWalk.u32_in _ (by omega)
  have zk2 : IntKind.i64.wrap (k : Int) = (k : Int) := IntWalk.i64_in _ (by omega)
  clear hpa hpb hpp hpc hgp hgt hza hzc hdiff hXl hYl hZl hX2l hv hak hzs hk han hbn hpn has hbs hps hcs hcn hoa hob hop hn64 hvl hakl
  have h2 := (((Kept.start w).alloc (.cells (pgCells .u16 ai an) 26)).alloc (.cells (pgCells .u16 bi bn) 26)).alloc (.cells (pgCells .u64 pi pn) 30)
  rw [show ((w.alloc (.cells (pgCells .u16 ai an) 26)).alloc (.cells (pgCells .u16 bi bn) 26)).heap.size = w.heap.size + 2 from by simp, show (w.alloc (.cells (pgCells .u16 ai an) 26)).heap.size = w.heap.size + 1 from by simp] at h2
  go_enter Try.func5, Try.ntmps5
  go_wp2_with (refine wpList_load_row rfl 26 _ rfl (w.heap.size) rfl _ _ _ _ (h2.at_ (q := w.heap.size) (o := .cells (pgCells .u16 ai an) 26) (by simp)) Try.underlying26 rfl hia ?_)
  refine (HPA.out _).mono ?_
  rintro e W2 ⟨rfl, hx⟩
  have h3 := (h2.below hx).alloc (.cells (cellsOf X) 32)
  clear h2 hx
  have tok : True := trivial
  go_wp2_with (first
    | (have _t := tok; refine wpList_store_new rfl 32 _ _ rfl (cellsOf X) _ _ rfl rfl hiX hzX (cellsOf_one _) ?_; generalize W2.heap.size = q7 at h3 ⊢; generalize W2.alloc (.cells (cellsOf X) 32) = W3 at h3 ⊢; clear _t tok)
    | (refine wpList_load_row rfl 26 _ rfl (w.heap.size + 1) rfl _ _ _ _ (h3.at_ (q := w.heap.size + 1) (o := .cells (pgCells .u16 bi bn) 26) (by simp)) Try.underlying26 rfl hib ?_))
  refine (HPB.out _).mono ?_
  rintro e W4 ⟨rfl, hx⟩
  have h4 := (h3.below hx).alloc (.cells (cellsOf Y) 32)
  clear h3 hx
  have tok : True := trivial
  go_wp2_with (first
    | (have _t := tok; refine wpList_store_new rfl 32 _ _ rfl (cellsOf Y) _ _ rfl rfl hiY hzY (cellsOf_one _) ?_; generalize W4.heap.size = q9 at h4 ⊢; generalize W4.alloc (.cells (cellsOf Y) 32) = W5 at h4 ⊢; clear _t tok)
    | (refine wpList_load_row rfl 30 _ rfl (w.heap.size + 2) rfl _ _ _ _ (h4.at_ (q := w.heap.size + 2) (o := .cells (pgCells .u64 pi pn) 30) (by simp)) Try.underlying30 rfl hip ?_))
  refine (HPP.out _).mono ?_
  rintro e W6 ⟨rfl, hx⟩
  have h5 := (h4.below hx).alloc (.cells (cellsOf Z) 32)
  clear h4 hx
  have tok : True := trivial
  go_wp2_with (first
    | (have _t := tok; refine wpList_store_new rfl 32 _ _ rfl (cellsOf Z) _ _ rfl rfl hiZ hzZ (cellsOf_one _) ?_; generalize W6.heap.size = q11 at h5 ⊢; generalize W6.alloc (.cells (cellsOf Z) 32) = W7 at h5 ⊢; clear _t tok; have c5 := IsPg.index (h5.at_ (q := w.heap.size + 2) (o := .cells (pgCells .u64 pi pn) 30) (by simp)))
    | (refine wpList_load_row rfl 32 _ rfl (q7) rfl _ _ _ _ (h5.at_ (q := q7) (o := .cells (cellsOf X) 32) (by simp)) Try.underlying32 rfl hiX ?_))
  refine (HGP.out _).mono ?_
  rintro e W8 ⟨rfl, hx⟩
  have h6 := (h5.below hx).alloc (.cells (pgCells .u64 0 (zs kP)) 30)
  clear h5 hx c5
  have tok : True := trivial
  go_wp2_with (first
    | (have _t := tok; refine wpList_store_new rfl 30 _ _ rfl (pgCells .u64 0 (zs kP)) _ _ rfl rfl hip0 rfl (pgCells_one _ _) ?_; generalize W8.heap.size = q13 at h6 ⊢; generalize W8.alloc (.cells (pgCells .u64 0 (zs kP)) 30) = W9 at h6 ⊢; clear _t tok; have c3 := IsPg.index (h6.at_ (q := w.heap.size) (o := .cells (pgCells .u16 ai an) 26) (by simp)))
    | (refine wpList_load_row rfl 32 _ rfl (q11) rfl _ _ _ _ (h6.at_ (q := q11) (o := .cells (cellsOf Z) 32) (by simp)) Try.underlying32 rfl hiZ ?_))
  refine (HGT.out _).mono ?_
  rintro e WA ⟨rfl, hx⟩
  have h7 := (h6.below hx).alloc (.cells (pgCells .u16 0 (zs kT)) 26)
  clear h6 hx c3
  have tok : True := trivial
  go_wp2_with (have _t := tok; refine wpList_store_new rfl 26 _ _ rfl (pgCells .u16 0 (zs kT)) _ _ rfl rfl hit0 rfl (pgCells_one _ _) ?_; generalize WA.heap.size = q15 at h7 ⊢; generalize WA.alloc (.cells (pgCells .u16 0 (zs kT)) 26) = WB at h7 ⊢; clear _t tok)
  generalize w.heap.size + 2 = q5 at h7 ⊢
  generalize w.heap.size + 1 = q4 at h7 ⊢
  generalize w.heap.size = q3 at h7 ⊢
  refine wp_region_noPanic ?_
  refine wp_region_held_drew (S := fun W => Kept w [(q15, .cells (pgCells .u16 0 (zs kT)) 26), (q13, .cells (pgCells .u64 0 (zs kP)) 30), (q11, .cells (cellsOf Z) 32), (q9, .cells (cellsOf Y) 32), (q7, .cells (cellsOf X) 32), (q5, .cells (pgCells .u64 pi pn) 30), (q4, .cells (pgCells .u16 bi bn) 26), (q3, .cells (pgCells .u16 ai an) 26)] W) (by kernel_rfl) h7.drew ?_
  intro hS
  clear h7
  generalize WB.drew = WD at hS ⊢
  refine wpAnyH_take (i := 0) (v := .agg (cellsOf X)) rfl (by kernel_rfl) (by kernel_rfl) (by kernel_rfl) (fun _ _ _ h => (h : False).elim) (yieldsIf_load_row (by rfl) 32 _ rfl q7 rfl _ _ _ _ (fun W hW => hW.at_ (q := q7) (o := .cells (cellsOf X) 32) (by simp)) Try.underlying32 rfl hiX) hS ?_
  change wpAnyH _ _ _ _ _ _ _ (Act.put _ (some 63) _) _
  simp only [Act.put, List.setIfInBounds_toArray, List.set_cons_succ, List.set_cons_zero]
  refine wpAnyH_take (i := 1) (v := .agg (cellsOf Y)) rfl (by kernel_rfl) (by kernel_rfl) (by kernel_rfl) (fun _ _ _ h => (h : False).elim) (yieldsIf_load_row (by rfl) 32 _ rfl q9 rfl _ _ _ _ (fun W hW => hW.at_ (q := q9) (o := .cells (cellsOf Y) 32) (by simp)) Try.underlying32 rfl hiY) hS ?_
  change wpAnyH _ _ _ _ _ _ _ (Act.put _ (some 64) _) _
  simp only [Act.put, List.setIfInBounds_toArray, List.set_cons_succ, List.set_cons_zero]
  refine wpAnyH_take (i := 2) (v := .bool d) rfl (by kernel_rfl) (by kernel_rfl) (by kernel_rfl) (fun _ _ _ h => (h : False).elim) (Or.inl ⟨by rfl, fun _ _ => by go_simp⟩) hS ?_
  change wpAnyH _ _ _ _ _ _ _ (Act.put _ (some 65) _) _
  simp only [Act.put, List.setIfInBounds_toArray, List.set_cons_succ, List.set_cons_zero]
  refine wpAnyH_take (i := 3) (v := .agg (pgCells .u16 ai an)) rfl (by kernel_rfl) (by kernel_rfl) (by kernel_rfl) (fun _ _ _ h => (h : False).elim) (yieldsIf_load_row (by rfl) 26 _ rfl q3 rfl _ _ _ _ (fun W hW => hW.at_ (q := q3) (o := .cells (pgCells .u16 ai an) 26) (by simp)) Try.underlying26 rfl hia) hS ?_
  change wpAnyH _ _ _ _ _ _ _ (Act.put _ (some 66) _) _
  simp only [Act.put, List.setIfInBounds_toArray, List.set_cons_succ, List.set_cons_zero]
  refine wpAnyH_take (i := 4) (v := .agg (pgCells .u16 bi bn)) rfl (by kernel_rfl) (by kernel_rfl) (by kernel_rfl) (fun _ _ _ h => (h : False).elim) (yieldsIf_load_row (by rfl) 26 _ rfl q4 rfl _ _ _ _ (fun W hW => hW.at_ (q := q4) (o := .cells (pgCells .u16 bi bn) 26) (by simp)) Try.underlying26 rfl hib) hS ?_
  change wpAnyH _ _ _ _ _ _ _ (Act.put _ (some 67) _) _
  simp only [Act.put, List.setIfInBounds_toArray, List.set_cons_succ, List.set_cons_zero]
  refine wpAnyH_take (i := 5) (v := .bool d) rfl (by kernel_rfl) (by kernel_rfl) (by kernel_rfl) (fun _ _ _ h => (h : False).elim) (Or.inl ⟨by rfl, fun _ _ => by go_simp⟩) hS ?_
  change wpAnyH _ _ _ _ _ _ _ (Act.put _ (some 68) _) _
  simp only [Act.put, List.setIfInBounds_toArray, List.set_cons_succ, List.set_cons_zero]
  refine wpAnyH_take (i := 6) (v := .bool false) rfl (by kernel_rfl) (by kernel_rfl) (by kernel_rfl) (fun _ _ _ h => (h : False).elim) (Or.inl ⟨by rfl, fun _ _ => by go_simp⟩) hS ?_
  change wpAnyH _ _ _ _ _ _ _ (Act.put _ (some 69) _) _
  simp only [Act.put, List.setIfInBounds_toArray, List.set_cons_succ, List.set_cons_zero]
  refine wpAnyH_take (i := 7) (v := .bool false) rfl (by kernel_rfl) (by kernel_rfl) (by kernel_rfl) (fun _ _ _ h => (h : False).elim) (Or.inl ⟨by rfl, fun _ _ => by go_simp⟩) hS ?_
  change wpAnyH _ _ _ _ _ _ _ (Act.put _ (some 70) _) _
  simp only [Act.put, List.setIfInBounds_toArray, List.set_cons_succ, List.set_cons_zero]
  refine wpAnyH_take (i := 8) (v := .int .i64 250) rfl (by kernel_rfl) (by kernel_rfl) (by kernel_rfl) (fun _ _ _ h => (h : False).elim) (Or.inl ⟨by rfl, fun _ _ => by go_simp⟩) hS ?_
  change wpAnyH _ _ _ _ _ _ _ (Act.put _ (some 71) _) _
  simp only [Act.put, List.setIfInBounds_toArray, List.set_cons_succ, List.set_cons_zero]
  refine wpAnyH_take (i := 9) (v := .bool false) rfl (by kernel_rfl) (by kernel_rfl) (by kernel_rfl) (fun _ _ _ h => (h : False).elim) (Or.inl ⟨by rfl, fun _ _ => by go_simp⟩) hS ?_
  change wpAnyH _ _ _ _ _ _ _ (Act.put _ (some 72) _) _
  simp only [Act.put, List.setIfInBounds_toArray, List.set_cons_succ, List.set_cons_zero]
  refine wpAnyH_take (i := 10) (v := .bool false) rfl (by kernel_rfl) (by kernel_rfl) (by kernel_rfl) (fun _ _ _ h => (h : False).elim) (Or.inl ⟨by rfl, fun _ _ => by go_simp⟩) hS ?_
  change wpAnyH _ _ _ _ _ _ _ (Act.put _ (some 73) _) _
  simp only [Act.put, List.setIfInBounds_toArray, List.set_cons_succ, List.set_cons_zero]
  refine wpAnyH_take (i := 11) (v := .bool false) rfl (by kernel_rfl) (by kernel_rfl) (by kernel_rfl) (fun _ _ _ h => (h : False).elim) (Or.inl ⟨by rfl, fun _ _ => by go_simp⟩) hS ?_
  change wpAnyH _ _ _ _ _ _ _ (Act.put _ (some 74) _) _
  simp only [Act.put, List.setIfInBounds_toArray, List.set_cons_succ, List.set_cons_zero]
  refine wpAnyH_take (i := 12) (v := .int .i64 250) rfl (by kernel_rfl) (by kernel_rfl) (by kernel_rfl) (fun _ _ _ h => (h : False).elim) (Or.inl ⟨by rfl, fun _ _ => by go_simp⟩) hS ?_
  change wpAnyH _ _ _ _ _ _ _ (Act.put _ (some 75) _) _
  simp only [Act.put, List.setIfInBounds_toArray, List.set_cons_succ, List.set_cons_zero]
  refine wpAnyH_take (i := 13) (v := .bool false) rfl (by kernel_rfl) (by kernel_rfl) (by kernel_rfl) (fun _ _ _ h => (h : False).elim) (Or.inl ⟨by rfl, fun _ _ => by go_simp⟩) hS ?_
  change wpAnyH _ _ _ _ _ _ _ (Act.put _ (some 76) _) _
  simp only [Act.put, List.setIfInBounds_toArray, List.set_cons_succ, List.set_cons_zero]
  refine wpAnyH_take (i := 14) (v := .bool false) rfl (by kernel_rfl) (by kernel_rfl) (by kernel_rfl) (fun _ _ _ h => (h : False).elim) (Or.inl ⟨by rfl, fun _ _ => by go_simp⟩) hS ?_
  change wpAnyH _ _ _ _ _ _ _ (Act.put _ (some 77) _) _
  simp only [Act.put, List.setIfInBounds_toArray, List.set_cons_succ, List.set_cons_zero]
  refine wpAnyH_done (by kernel_rfl) ?_ _
  refine NoPanic.normal ?_
  have h8 := hS.less (K' := [(q7, .cells (cellsOf X) 32), (q4, .cells (pgCells .u16 bi bn) 26), (q3, .cells (pgCells .u16 ai an) 26)]) (by simp)
  clear hS heq heqn hdd
  have h9 := h8.alloc (.cells (pgCells .u16 ai an) 26)
  have hne := h8.notin
  have cI := IsPg.index (h8.at_ (q := q4) (o := .cells (pgCells .u16 bi bn) 26) (by simp))
  have c4 : WD.cell? ⟨q4, 1 + k, none⟩ = some (.int .u16 (v : Int)) := by
    rw [HV.out]
    exact IsPg.num (h8.at_ (q := q4) (o := .cells (pgCells .u16 bi bn) 26) (by simp)) k hkb
  have c4' := (((Below.refl WD.heap.size WD).alloc (Nat.le_refl _) (.cells (pgCells .u16 ai an) 26)).cell (p := ⟨q4, 1 + k, none⟩) (h8.lt_ (q := q4) (o := .cells (pgCells .u16 bi bn) 26) (by simp))).trans c4
  clear c4
  have ik : (k : Int) < 64 := by omega
  have ik0 : (0 : Int) ≤ (k : Int) := by omega
  have tok : True := trivial
  go_wp2_with (first
    | (have _t := tok; refine wpList_store_new rfl 26 _ _ rfl (pgCells .u16 ai an) _ _ rfl rfl hia hsa (pgCells_one _ _) ?_; generalize WD.heap.size = q18 at h9 hne c4' ⊢; generalize WD.alloc (.cells (pgCells .u16 ai an) 26) = WE at h9 c4' ⊢; clear _t tok cI; obtain ⟨v0, c18⟩ : ∃ v0, WE.cell? ⟨q18, 1 + k, none⟩ = some v0 := ⟨_, IsPg.num (h9.at_ (q := q18) (o := .cells (pgCells .u16 ai an) 26) (by simp)) k hka⟩; have f18 := frozen_of_row WE q18 (1 + k) _ _ (h9.at_ (q := q18) (o := .cells (pgCells .u16 ai an) 26) (by simp)); have ha := h9.setCell (j := 1 + k) (v := .int .u16 (v : Int)) hne; rw [pgCells_set] at ha; clear h9 hne h8)
    | (refine wpList_load_row rfl 26 _ rfl (q3) rfl _ _ _ _ (h8.at_ (q := q3) (o := .cells (pgCells .u16 ai an) 26) (by simp)) Try.underlying26 rfl hia ?_)
    | (refine wpList_load_row rfl 26 _ rfl q18 rfl _ _ _ _ (ha.at_ (q := q18) (o := .cells (pgCells .u16 ai (an.set k v)) 26) (by simp)) Try.underlying26 rfl hic ?_; generalize WE.setCell ⟨q18, 1 + k, none⟩ (.int .u16 (v : Int)) = WF at ha ⊢; clear c18 f18 c4'))
  refine (HPC.out _).mono ?_
  rintro e WG ⟨rfl, hx⟩
  have hb := (ha.below hx).alloc (.cells (cellsOf X2) 32)
  clear ha hx
  have tok : True := trivial
  go_wp2_with (have _t := tok; refine wpList_store_new rfl 32 _ _ rfl (cellsOf X2) _ _ rfl rfl hi2 hz2 (cellsOf_one _) ?_; generalize WG.heap.size = q19 at hb ⊢; generalize WG.alloc (.cells (cellsOf X2) 32) = WH at hb ⊢; clear _t tok)
  have hc := hb.less (K' := [(q19, .cells (cellsOf X2) 32), (q18, .cells (pgCells .u16 ai (an.set k v)) 26), (q7, .cells (cellsOf X) 32), (q3, .cells (pgCells .u16 ai an) 26)]) (by simp)
  clear hb
  go_loopw [21] (fun x wr => ∃ i : Nat, i ≤ 252 ∧ x = .int .i64 i ∧ Kept w [(q19, .cells (cellsOf X2) 32), (q18, .cells (pgCells .u16 ai (an.set k v)) 26), (q7, .cells (cellsOf X) 32), (q3, .cells (pgCells .u16 ai an) 26)] wr) (fun x _ => 252 - (intOf x).toNat)
  case atStart => exact ⟨0, by omega, rfl, hc⟩
  case round =>
    obtain ⟨i, hi, rfl, h⟩ := hrel
    clear hc
    by_cases hlt : i < 252
    · have hdf := HDF.out i hlt
      have hxl := HXL.out
      have hzl := HX2L.out
      have cX : wr.cell? ⟨q7, i, none⟩ = some (.int .u8 ((X[i]'(by omega)).toNat : Int)) := (cell_of_row wr q7 i _ _ _ (h.at_ (q := q7) (o := .cells (cellsOf X) 32) (by simp))).trans (cellsOf_get X i (by omega))
      have cZ : wr.cell? ⟨q19, i, none⟩ = some (.int .u8 ((X2[i]'(by omega)).toNat : Int)) := (cell_of_row wr q19 i _ _ _ (h.at_ (q := q19) (o := .cells (cellsOf X2) 32) (by simp))).trans (cellsOf_get X2 i (by omega))
      rw [List.getElem?_eq_getElem (by omega : i < X.length), List.getElem?_eq_getElem (by omega : i < X2.length)] at hdf
      generalize (X[i]'(by omega)) = bx at cX hdf
      generalize (X2[i]'(by omega)) = bz at cZ hdf
      clear hxl hzl
      have i1 : (i : Int) < 256 := by omega
      have i2 : (0 : Int) ≤ (i : Int) := by omega
      have i3 : (i : Int) < 252 := by omega
      by_cases hbz : bx = bz
      · have q1 : ((bx.toNat : Int) != (bz.toNat : Int)) = false := by rw [hbz]; simp
        have q2 : ((bx.toNat : Int) == (bz.toNat : Int)) = true := by rw [hbz]; simp
        clear hdf hbz
        go_wp2
        go_quiet (fail)
        go_wp2
        go_roundw
        case rel => exact ⟨i + 1, by omega, by go_num, h.drewN _⟩
        case measure => simp [intOf]; omega
      · have hr : i = 5 + 2 * k ∨ i = 6 + 2 * k := by
          rcases hdf with h1 | h1
          · exact absurd (Option.some.inj h1) hbz
          · exact h1
        have hne2 : bx.toNat ≠ bz.toNat := fun e => hbz (UInt8.toNat_inj.1 e)
        have q1 : ((bx.toNat : Int) != (bz.toNat : Int)) = true := by simp; omega
        have q2 : ((bx.toNat : Int) == (bz.toNat : Int)) = false := by simp; omega
        have z2 : IntKind.i64.wrap (2 * (k : Int)) = 2 * (k : Int) := IntWalk.i64_in _ (by omega)
        have z5 : IntKind.i64.wrap (5 + 2 * (k : Int)) = 5 + 2 * (k : Int) := IntWalk.i64_in _ (by omega)
        have z6 : IntKind.i64.wrap (6 + 2 * (k : Int)) = 6 + 2 * (k : Int) := IntWalk.i64_in _ (by omega)
        by_cases h5 : i = 5 + 2 * k
        · have d1 : ((i : Int) != 5 + 2 * (k : Int)) = false := by rw [bne_eq_false_iff_eq]; omega
          have d2 : ((i : Int) == 5 + 2 * (k : Int)) = true := by rw [beq_iff_eq]; omega
          clear hdf hbz hr hne2 h5
          go_wp2
          go_quiet (fail)
          clear z2 z5 z6 d1 d2 q1 q2
          go_wp2
          go_roundw
          case rel => exact ⟨i + 1, by omega, by go_num, h.drewN _⟩
          case measure => simp [intOf]; omega
        · have h6 : i = 6 + 2 * k := hr.resolve_left h5
          have d1 : ((i : Int) != 5 + 2 * (k : Int)) = true := by rw [bne_iff_ne]; omega
          have d2 : ((i : Int) == 5 + 2 * (k : Int)) = false := by rw [beq_eq_false_iff_ne]; omega
          have d3 : ((i : Int) != 6 + 2 * (k : Int)) = false := by rw [bne_eq_false_iff_eq]; omega
          have d4 : ((i : Int) == 6 + 2 * (k : Int)) = true := by rw [beq_iff_eq]; omega
          clear hdf hbz hr hne2 h5 h6
          go_wp2
          go_quiet (fail)
          clear z2 z5 z6 d1 d2 d3 d4 q1 q2
          go_wp2
          go_roundw
          case rel => exact ⟨i + 1, by omega, by go_num, h.drewN _⟩
          case measure => simp [intOf]; omega
    · obtain rfl : i = 252 := by omega
      have hzs := HZS.out
      go_wp2_with (refine wpList_load_row rfl 26 _ rfl (q3) rfl _ _ _ _ (h.at_ (q := q3) (o := .cells (pgCells .u16 ai an) 26) (by simp)) Try.underlying26 rfl hia ?_)
      refine (HZA.out _).mono ?_
      rintro e WK ⟨rfl, hx⟩
      replace h := (h.below hx).less (K' := [(q18, .cells (pgCells .u16 ai (an.set k v)) 26), (q3, .cells (pgCells .u16 ai an) 26)]) (by simp)
      clear hx
      have hbe := h.bel
      have cA : WK.cell? ⟨q3, 1 + k, none⟩ = some (.int .u16 (ak : Int)) := by
        rw [HAK.out]
        exact IsPg.num (h.at_ (q := q3) (o := .cells (pgCells .u16 ai an) 26) (by simp)) k hka
      have cC : WK.cell? ⟨q18, 1 + k, none⟩ = some (.int .u16 (v : Int)) := by
        have := IsPg.num (h.at_ (q := q18) (o := .cells (pgCells .u16 ai (an.set k v)) 26) (by simp)) k (by rw [List.length_set]; exact hka)
        rwa [List.getElem_set_self] at this
      by_cases ha0 : ak = 0
      · have a1 : ((ak : Int) == 0) = true := by rw [ha0]; rfl
        rw [if_pos ha0] at hzs
        clear ha0
        by_cases hv0 : v = 0
        · have v1 : ((v : Int) == 0) = true := by rw [hv0]; rfl
          rw [if_pos hv0] at hzs
          clear hv0
          have e1 : ((zc : Int) == (za : Int) - 1 + 1) = true := by rw [beq_iff_eq]; omega
          have e2 : ((zc : Int) == (za : Int)) = true := by rw [beq_iff_eq]; omega
          have x1 : IntKind.i64.wrap ((za : Int) - 1) = (za : Int) - 1 := IntWalk.i64_in _ (by omega)
          have x2 : IntKind.i64.wrap ((za : Int) - 1 + 1) = (za : Int) - 1 + 1 := IntWalk.i64_in _ (by omega)
          have x3 : IntKind.i64.wrap (za : Int) = (za : Int) := IntWalk.i64_in _ (by omega)
          clear hzs
          go_wp2_with (refine wpList_load_row rfl 26 _ rfl (q18) rfl _ _ _ _ (h.at_ (q := q18) (o := .cells (pgCells .u16 ai (an.set k v)) 26) (by simp)) Try.underlying26 rfl hic ?_)
          refine (HZC.out _).mono ?_
          rintro e WE ⟨rfl, hx⟩
          have hb := hbe.trans (hx.mono hbe.size)
          clear h hx hbe
          go_wp2_with (go_at_call 14; (with_reducible refine (head_any _).mono ?_); rintro e WZ ⟨rfl, hx⟩)
          go_ret
          exact ⟨rfl, hb.trans (hx.mono hb.size)⟩
        · have v1 : ((v : Int) == 0) = false := by simp; omega
          rw [if_neg hv0] at hzs
          clear hv0
          have e1 : ((zc : Int) == (za : Int) - 1) = true := by rw [beq_iff_eq]; omega
          have x1 : IntKind.i64.wrap ((za : Int) - 1) = (za : Int) - 1 := IntWalk.i64_in _ (by omega)
          clear hzs
          go_wp2_with (refine wpList_load_row rfl 26 _ rfl (q18) rfl _ _ _ _ (h.at_ (q := q18) (o := .cells (pgCells .u16 ai (an.set k v)) 26) (by simp)) Try.underlying26 rfl hic ?_)
          refine (HZC.out _).mono ?_
          rintro e WE ⟨rfl, hx⟩
          have hb := hbe.trans (hx.mono hbe.size)
          clear h hx hbe
          go_wp2_with (go_at_call 14; (with_reducible refine (head_any _).mono ?_); rintro e WZ ⟨rfl, hx⟩)
          go_ret
          exact ⟨rfl, hb.trans (hx.mono hb.size)⟩
      · have a1 : ((ak : Int) == 0) = false := by simp; omega
        rw [if_neg ha0] at hzs
        clear ha0
        by_cases hv0 : v = 0
        · have v1 : ((v : Int) == 0) = true := by rw [hv0]; rfl
          rw [if_pos hv0] at hzs
          clear hv0
          have e1 : ((zc : Int) == (za : Int) + 1) = true := by rw [beq_iff_eq]; omega
          have x2 : IntKind.i64.wrap ((za : Int) + 1) = (za : Int) + 1 := IntWalk.i64_in _ (by omega)
          clear hzs
          go_wp2_with (refine wpList_load_row rfl 26 _ rfl (q18) rfl _ _ _ _ (h.at_ (q := q18) (o := .cells (pgCells .u16 ai (an.set k v)) 26) (by simp)) Try.underlying26 rfl hic ?_)
          refine (HZC.out _).mono ?_
          rintro e WE ⟨rfl, hx⟩
          have hb := hbe.trans (hx.mono hbe.size)
          clear h hx hbe
          go_wp2_with (go_at_call 14; (with_reducible refine (head_any _).mono ?_); rintro e WZ ⟨rfl, hx⟩)
          go_ret
          exact ⟨rfl, hb.trans (hx.mono hb.size)⟩
        · have v1 : ((v : Int) == 0) = false := by simp; omega
          rw [if_neg hv0] at hzs
          clear hv0
          have e1 : ((zc : Int) == (za : Int)) = true := by rw [beq_iff_eq]; omega
          clear hzs
          go_wp2_with (refine wpList_load_row rfl 26 _ rfl (q18) rfl _ _ _ _ (h.at_ (q := q18) (o := .cells (pgCells .u16 ai (an.set k v)) 26) (by simp)) Try.underlying26 rfl hic ?_)
          refine (HZC.out _).mono ?_
          rintro e WE ⟨rfl, hx⟩
          have hb := hbe.trans (hx.mono hbe.size)
          clear h hx hbe
          go_wp2_with (go_at_call 14; (with_reducible refine (head_any _).mono ?_); rintro e WZ ⟨rfl, hx⟩)
          go_ret
          exact ⟨rfl, hb.trans (hx.mono hb.size)⟩

theorem unlike_any (ai : Nat) (an : List Nat) (han : an.length = kT.n) (has : ∀ j (hj : j < an.length), an[j] < 256 ^ kT.wd) (bi : Nat) (bn : List Nat) (hbn : bn.length = kT.n) (hbs : ∀ j (hj : j < bn.length), bn[j] < 256 ^ kT.wd) (pi : Nat) (pn : List Nat) (hpn : pn.length = kP.n) (hps : ∀ j (hj : j < pn.length), pn[j] < 256 ^ kP.wd) (hbi : bi < 4294967296) (w : World) :
    Calls Try.prog 5 #[.agg (pgCells .u16 ai an), .agg (pgCells .u16 bi bn), .agg (pgCells .u64 pi pn)] w fun e w' => e = .returned (.bool true) ∧ Below w.heap.size w w' := by
  by_cases h1 : ai < kT.lim
  · by_cases h2 : bi < kT.lim
    · by_cases h3 : pi < kP.lim
      · exact unlike_yes ai an han has bi bn hbn hbs pi pn hpn hps hbi h1 h2 h3 w
      · exact unlike_no ai an han has bi bn hbn hbs pi pn hpn hps (.inr (.inr h3)) w
    · exact unlike_no ai an han has bi bn hbn hbs pi pn hpn hps (.inr (.inl h2)) w
  · exact unlike_no ai an han has bi bn hbn hbs pi pn hpn hps (.inl h1) w

end Go.Proofs.Ytkkeemjgeeillaa.Tal
