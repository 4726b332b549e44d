/-
  The walk of the reference's Get.
-/
import Derived.Test.YtmbmgncajfamiaaCrdRead
import Derived.Test.YtmbmgncajfamiaaCrdRefPut
import Derived.Test.YtmbmgncajfamiaaFldTakes
namespace Go.Proofs.Ytmbmgncajfamiaa.Crd
open Go.RowKit RowLaw Crc Fld
set_option maxRecDepth 100000

theorem rowV_size (st : Option (List UInt8 × Nat)) (h : ROk st) : (rowV st).size = 258 := by
  match st, h with
  | none, _ => show (rowCells zeros 0 false).size = 258; rw [rowCells_size, zeros_length]
  | some (l, k), h => show (rowCells l k true).size = 258; rw [rowCells_size, (h l k rfl).1]
theorem rowV_one (st : Option (List UInt8 × Nat)) : (rowV st).all (·.oneCell') = true := by
  match st with
  | none => exact rowCells_one _ _ _
  | some (l, k) => exact rowCells_one _ _ _
theorem sizeRowV (st : Option (List UInt8 × Nat)) (h : ROk st) : (Try.prog.info? 79).map (·.size) = some (rowV st).size := by
  rw [rowV_size st h]; exact (zero_of_info infoRow).2
theorem info7 : (Try.prog.info? 83).map (fun i => (i.zero, i.size)) = some (some (.agg (wordsV nil)), 7) := by kernel_rfl
theorem words_setN (c : Cd) (j x : Nat) (hj : j < 7) : (wordsV c).setIfInBounds j (.int .u32 (x : Int)) = wordsV (setN c j x) := by
  rcases (by omega : j = 0 ∨ j = 1 ∨ j = 2 ∨ j = 3 ∨ j = 4 ∨ j = 5 ∨ j = 6) with rfl | rfl | rfl | rfl | rfl | rfl | rfl <;> simp [wordsV, setN]
theorem stN_ok (l : List UInt8) (hl : l.length = 256) : ∀ j, ROk (stN l j)
  | 0 => takeText_ok _ (openSt_ok l 67 hl) _
  | j + 1 => takeNum_ok _ (stN_ok l hl j) _
theorem onT_ok (l : List UInt8) (hl : l.length = 256) : ROk (onT l).2 := takeNum_ok _ (stN_ok l hl 7) _
def rowO (st : Option (List UInt8 × Nat)) : Obj := .cells (rowV st) 79 (0, 0)
def numsO (c : Cd) : Obj := .cells (wordsV c) 83 (0, 0)

set_option maxHeartbeats 6400000 in
theorem refGet_any (l : List UInt8) (hl : l.length = 256) (w : World) :
    Calls Try.prog 17 #[.agg (cellsOf l)] w fun e w' => e = .returned (.tuple #[.agg (cells (getC l)), .int .i64 (getE l)]) ∧ Below w.heap.size w w' := by
  have hzc := (zero_of_info infoC).1
  have hzr := (zero_of_info infoRow).1
  have hz7 := (zero_of_info info7).1
  have hi := sizeBlock l hl
  have hK : Kept w [(w.heap.size + 1, cardO nil), (w.heap.size, blockO l)] ((w.alloc (.cells (cellsOf l) 29)).alloc (.cells (cells nil) 26)) := by
    have h := ((Kept.start w).alloc (blockO l)).alloc (cardO nil)
    rw [show (w.alloc (blockO l)).heap.size = w.heap.size + 1 from by simp] at h
    exact h
  have hopen := fun W => refOpen_any l hl 67 W
  have htext := fun W => refTakeText_any (openSt l 67) (openSt_ok l 67 hl) 24 W
  rw [show takeText (openSt l 67) 24 = ((nmT l).1, stN l 0) from rfl] at htext
  have hnum := fun j W => refTakeNum_any (stN l j) (stN_ok l hl j) 4 W
  have hone := fun W => refTakeNum_any (stN l 7) (stN_ok l hl 7) 1 W
  rw [show takeNum (stN l 7) 1 = ((onT l).1, (onT l).2) from rfl] at hone
  have hend := fun W => refEnd_any (onT l).2 (onT_ok l hl) W
  have hxl := onT_lt l
  have hok := stN_ok l hl
  have hokE := onT_ok l hl
  have hcases : (endE (onT l).2 ≠ 0 → getC l = nil ∧ getE l = 250) ∧ (¬ (onT l).1 ≤ 1 → getC l = nil ∧ getE l = 250) ∧ (mayB (rawC l) = false → getC l = nil ∧ getE l = 250) ∧ (endE (onT l).2 = 0 → (onT l).1 ≤ 1 → mayB (rawC l) = true → getC l = rawC l ∧ getE l = 0) := by
    unfold getC getE isC
    refine ⟨fun h => ?_, fun h => ?_, fun h => ?_, fun h1 h2 h3 => ?_⟩
    · rw [decide_eq_false h]; exact ⟨rfl, rfl⟩
    · rw [decide_eq_false h]; simp
    · rw [h]; simp
    · rw [decide_eq_true h1, decide_eq_true h2, h3]; exact ⟨rfl, rfl⟩
  have HCS := Lib.hid hcases
  have HOP := Lib.hid hopen
  have HTX := Lib.hid htext
  have HNU := Lib.hid hnum
  have HON := Lib.hid hone
  have HEN := Lib.hid hend
  have HOK := Lib.hid hok
  have HOE := Lib.hid hokE
  clear hcases hopen htext hnum hone hend hok hokE
  go_enter Try.func17, Try.ntmps17
  go_wp2_with (refine wpList_load_row rfl 29 _ rfl (w.heap.size) rfl _ _ _ _ (hK.at_ (q := w.heap.size) (o := blockO l) (by simp)) Try.underlying29 rfl hi ?_)
  refine (HOP.out _).mono ?_
  rintro e W1 ⟨rfl, hx⟩
  replace hK := hK.below hx
  clear hx
  go_wp2_with fail
  refine (HTX.out _).mono ?_
  rintro e W2 ⟨rfl, hx⟩
  have hK2 := (hK.below hx).alloc (rowO (stN l 0))
  have hg1 : w.heap.size + 1 < W2.heap.size := (hK.below hx).lt_ (q := w.heap.size + 1) (o := cardO nil) (by simp)
  clear hK hx
  unfold rowO at hK2
  have tok : True := trivial
  go_upto_region 2 with (have _t := tok; refine wpList_store_new rfl 79 _ _ rfl _ _ _ rfl rfl (sizeRowV _ (HOK.out 0)) (by rw [rowV_size _ (HOK.out 0), rowCells_size, zeros_length]) (rowV_one _) ?_; generalize hp5 : W2.heap.size = p5 at hK2 hg1 ⊢; generalize hW3 : W2.alloc (.cells (rowV (stN l 0)) 79) = W3 at hK2 ⊢; clear _t tok)
  clear hW3 hp5
  have hK3 := hK2.alloc (numsO nil)
  have hp6 : p5 < W3.heap.size := hK2.lt_ (q := p5) (o := rowO (stN l 0)) List.mem_cons_self
  clear hK2
  unfold numsO at hK3
  go_upto_region 3 with fail
  generalize W3.heap.size = p6 at hK3 hp6 ⊢
  generalize W3.alloc (.cells (wordsV nil) 83) = W4 at hK3 ⊢
  clear hzc hz7
  go_wp2_with fail
  go_loopw [7] (fun i wr => ∃ j : Nat, j ≤ 7 ∧ i = .int .i64 j ∧ Kept w [(p6, numsO (prog l j)), (p5, rowO (stN l j)), (w.heap.size + 1, cardO nil)] wr) (fun i _ => 7 - (intOf i).toNat)
  case atStart => exact ⟨0, by omega, rfl, hK3.less (by intro x hx; simp only [List.mem_cons, List.not_mem_nil, or_false] at hx ⊢; rcases hx with rfl | rfl | rfl; exact .inl rfl; exact .inr (.inl rfl); exact .inr (.inr (.inl rfl)))⟩
  case round =>
    clear hK3
    obtain ⟨j, hj, rfl, hK⟩ := hrel
    by_cases hlt : j < 7
    · have hx9 := nAt_lt l j
      have hnu := HNU.out j
      rw [show takeNum (stN l j) 4 = (nAt l j, stN l (j + 1)) from by unfold nAt; rw [stN]] at hnu
      have hset := words_setN (prog l j) j (nAt l j) hlt
      rw [show setN (prog l j) j (nAt l j) = prog l (j + 1) from rfl] at hset
      have HS := Lib.hid hset; clear hset
      have HN := Lib.hid hnu; clear hnu
      have o1 := Lib.hid (HOK.out j)
      have o2 := Lib.hid (HOK.out (j + 1))
      have hz : numsO (prog l j) = numsO (prog l j) := rfl
      generalize nAt l j = x at hx9 HS HN
      obtain ⟨st', hst'⟩ : ∃ st', st' = stN l (j + 1) := ⟨_, rfl⟩
      obtain ⟨c', hc'⟩ : ∃ c', c' = prog l (j + 1) := ⟨_, rfl⟩
      rw [← hst'] at HN o2
      rw [← hc'] at HS
      have HST := Lib.hid hst'
      have HCC := Lib.hid hc'
      clear hst' hc'
      generalize stN l j = st at HN o1 hK
      generalize prog l j = c at HS hK
      clear hz
      have z1 : IntKind.u32.wrap (x : Int) = (x : Int) := IntWalk.u32_in _ (by omega)
      go_wp2_with (refine wpList_load_row rfl 79 _ rfl p5 rfl _ _ _ _ (hK.at_ (q := p5) (o := rowO st) (by simp)) Try.underlying79 rfl (sizeRowV _ o1.out) ?_)
      refine (HN.out _).mono ?_
      rintro e W5 ⟨rfl, hx⟩
      have hb := hK.below hx
      clear hK hx
      have hp9 : p6 < W5.heap.size := hb.lt_ (q := p6) (o := numsO c) (by simp)
      have hb2 := hb.alloc (rowO st')
      clear hb
      unfold rowO at hb2
      have tok : True := trivial
      go_upto_region 7 with (have _t := tok; refine wpList_store_new rfl 79 _ _ rfl _ _ _ rfl rfl (sizeRowV _ o2.out) (by rw [rowV_size _ o2.out, rowCells_size, zeros_length]) (rowV_one _) ?_; generalize W5.heap.size = p9 at hb2 hp9 ⊢; generalize W5.alloc (.cells (rowV st') 79) = W6 at hb2 ⊢; clear _t tok)
      have hb3 : Kept w ((p6, .cells (wordsV c) 83 (0, 0)) :: [(p9, rowO st'), (p5, rowO st), (w.heap.size + 1, cardO nil)]) W6 := hb2.less (by intro x hx; simp only [List.mem_cons, List.not_mem_nil, or_false] at hx ⊢; rcases hx with rfl | rfl | rfl | rfl; exact .inr (.inl rfl); exact .inl rfl; exact .inr (.inr (.inl rfl)); exact .inr (.inr (.inr rfl)))
      clear hb2
      have hc : W6.heap[p6]? = some (.cells (wordsV c) 83 (0, 0)) := hb3.at_ List.mem_cons_self
      have hne6 : ∀ y ∈ [(p9, rowO st'), (p5, rowO st), (w.heap.size + 1, cardO nil)], y.1 ≠ p6 := by intro y hy; simp only [List.mem_cons, List.not_mem_nil, or_false] at hy; rcases hy with rfl | rfl | rfl <;> simp <;> omega
      have c9 : ∃ v, W6.cell? ⟨p6, j, none⟩ = some v := ⟨_, (cell_of_row W6 p6 j _ _ _ hc).trans (wordsV_get c j hlt)⟩
      obtain ⟨v9, c9⟩ := c9
      have f9 : W6.frozen? ⟨p6, j, none⟩ = false := frozen_of_row W6 p6 j _ _ hc
      have hb4 := hb3.setCell (j := j) (v := .int .u32 (x : Int)) hne6
      rw [HS.out] at hb4
      clear hb3 hc
      go_upto_region 8 with fail
      generalize W6.setCell ⟨p6, j, none⟩ (.int .u32 (x : Int)) = W7 at hb4 ⊢
      clear c9 f9 hne6
      have hb5 : Kept w ((p5, .cells (rowV st) 79 (0, 0)) :: [(p6, numsO c'), (w.heap.size + 1, cardO nil)]) W7 := hb4.less (by intro x hx; simp only [List.mem_cons, List.not_mem_nil, or_false] at hx ⊢; rcases hx with rfl | rfl | rfl; exact .inr (.inr (.inl rfl)); exact .inl rfl; exact .inr (.inr (.inr rfl)))
      have hn9 := hb4.at_ (q := p9) (o := rowO st') (by simp)
      have hn5 := hb4.at_ (q := p5) (o := rowO st) (by simp)
      have hne5 : ∀ y ∈ [(p6, numsO c'), (w.heap.size + 1, cardO nil)], y.1 ≠ p5 := by intro y hy; simp only [List.mem_cons, List.not_mem_nil, or_false] at hy; rcases hy with rfl | rfl <;> simp <;> omega
      have hb6 := hb5.setRow (cs' := rowV st') hne5
      have hss : (rowV st).size = (rowV st').size := by rw [rowV_size _ o1.out, rowV_size _ o2.out]
      clear hb4 hb5 hne5
      go_wp2_with (first | (refine wpList_load_row rfl 79 _ rfl p9 rfl _ _ _ _ hn9 Try.underlying79 rfl (sizeRowV _ o2.out) ?_) | (refine wpList_store_row rfl 79 _ _ rfl p5 _ rfl rfl _ _ hn5 (sizeRowV _ o2.out) hss (rowV_one _) ?_))
      go_roundw
      case rel => exact ⟨j + 1, by omega, by go_num, by rw [← HST.out, ← HCC.out]; exact hb6.less (by intro x hx; simp only [List.mem_cons, List.not_mem_nil, or_false] at hx ⊢; rcases hx with rfl | rfl | rfl; exact .inr (.inl rfl); exact .inl rfl; exact .inr (.inr rfl))⟩
      case measure => simp [intOf]; omega
    · obtain rfl : j = 7 := by omega
      have o1 := Lib.hid (HOK.out 7)
      have hraw : cells (rawC l) = #[.string ⟨(nmT l).1.toArray⟩, .int .u32 (nAt l 0 : Int), .int .u32 (nAt l 1 : Int), .int .u32 (nAt l 2 : Int), .int .u32 (nAt l 3 : Int), .int .u32 (nAt l 4 : Int), .int .u32 (nAt l 5 : Int), .int .u32 (nAt l 6 : Int), .bool (decide ((onT l).1 = 1))] := rfl
      have hx6 : wr.heap[p6]? = some (.cells #[.int .u32 (nAt l 0 : Int), .int .u32 (nAt l 1 : Int), .int .u32 (nAt l 2 : Int), .int .u32 (nAt l 3 : Int), .int .u32 (nAt l 4 : Int), .int .u32 (nAt l 5 : Int), .int .u32 (nAt l 6 : Int)] 83 (0, 0)) := hK.at_ (q := p6) (o := numsO (prog l 7)) (by simp)
      have hmay := fun W => refMay_any (rawC l) W
      have HMY := Lib.hid hmay; clear hmay
      generalize nAt l 0 = n0 at hraw hx6
      generalize nAt l 1 = n1 at hraw hx6
      generalize nAt l 2 = n2 at hraw hx6
      generalize nAt l 3 = n3 at hraw hx6
      generalize nAt l 4 = n4 at hraw hx6
      generalize nAt l 5 = n5 at hraw hx6
      generalize nAt l 6 = n6 at hraw hx6
      generalize prog l 7 = c at hK
      generalize stN l 7 = st at hK o1 HON
      generalize (onT l).1 = x at hxl HON HCS hraw
      generalize (onT l).2 = st' at HON HEN HCS HOE
      generalize endE st' = E at HEN HCS
      obtain ⟨m, hm⟩ : ∃ m, m = mayB (rawC l) := ⟨_, rfl⟩
      rw [← hm] at HMY HCS
      clear hm
      generalize rawC l = R at hraw HMY HCS
      generalize (⟨(nmT l).1.toArray⟩ : ByteArray) = nm at hraw ⊢
      obtain ⟨b, hbe⟩ : ∃ b, b = decide (x = 1) := ⟨_, rfl⟩
      have hxb : ((x : Int) == 1) = b := by rw [hbe, Bool.eq_iff_iff, beq_iff_eq, decide_eq_true_eq]; omega
      rw [← hbe] at hraw
      clear hbe
      have HR := Lib.hid hraw; clear hraw
      go_wp2_with (refine wpList_load_row rfl 79 _ rfl p5 rfl _ _ _ _ (hK.at_ (q := p5) (o := rowO st) (by simp)) Try.underlying79 rfl (sizeRowV _ o1.out) ?_)
      refine (HON.out _).mono ?_
      rintro e W5 ⟨rfl, hx⟩
      replace hx6 := (hx.block p6 (Array.getElem?_eq_some_iff.1 hx6).1).trans hx6
      have hb2 := (hK.below hx).alloc (rowO st')
      clear hK hx
      unfold rowO at hb2
      replace hx6 := (Below.heap_alloc W5 (.cells (rowV st') 79) p6 (Array.getElem?_eq_some_iff.1 hx6).1).trans hx6
      have tok : True := trivial
      go_upto_region 10 with (have _t := tok; refine wpList_store_new rfl 79 _ _ rfl _ _ _ rfl rfl (sizeRowV _ HOE.out) (by rw [rowV_size _ HOE.out, rowCells_size, zeros_length]) (rowV_one _) ?_; generalize W5.heap.size = p11 at hb2 ⊢; generalize W5.alloc (.cells (rowV st') 79) = W6 at hb2 hx6 ⊢; clear _t tok)
      have k0 : W6.cell? ⟨p6, 0, none⟩ = some (.int .u32 (n0 : Int)) := (cell_of_row W6 p6 0 _ _ _ hx6).trans rfl
      have k1 : W6.cell? ⟨p6, 1, none⟩ = some (.int .u32 (n1 : Int)) := (cell_of_row W6 p6 1 _ _ _ hx6).trans rfl
      have k2 : W6.cell? ⟨p6, 2, none⟩ = some (.int .u32 (n2 : Int)) := (cell_of_row W6 p6 2 _ _ _ hx6).trans rfl
      have k3 : W6.cell? ⟨p6, 3, none⟩ = some (.int .u32 (n3 : Int)) := (cell_of_row W6 p6 3 _ _ _ hx6).trans rfl
      have k4 : W6.cell? ⟨p6, 4, none⟩ = some (.int .u32 (n4 : Int)) := (cell_of_row W6 p6 4 _ _ _ hx6).trans rfl
      have k5 : W6.cell? ⟨p6, 5, none⟩ = some (.int .u32 (n5 : Int)) := (cell_of_row W6 p6 5 _ _ _ hx6).trans rfl
      have k6 : W6.cell? ⟨p6, 6, none⟩ = some (.int .u32 (n6 : Int)) := (cell_of_row W6 p6 6 _ _ _ hx6).trans rfl
      have hzc : ∀ w : World, (zeroValue 26).run Try.prog w = .ok (.agg #[.string ⟨#[]⟩, .int .u32 0, .int .u32 0, .int .u32 0, .int .u32 0, .int .u32 0, .int .u32 0, .int .u32 0, .bool false]) w := (zero_of_info infoC).1
      clear hx6
      go_upto_region 11 with fail
      rw [← HR.out]
      have hK := hb2.alloc (.cells (cells R) 26)
      generalize W6.heap.size = p12 at hK ⊢
      generalize W6.alloc (.cells (cells R) 26) = W7 at hK ⊢
      clear hb2 k0 k1 k2 k3 k4 k5 k6
      replace hzc := (zero_of_info infoC).1
      go_wp2_with (refine wpList_load_row rfl 79 _ rfl p11 rfl _ _ _ _ (hK.at_ (q := p11) (o := rowO st') (by unfold rowO; simp)) Try.underlying79 rfl (sizeRowV _ HOE.out) ?_)
      refine (HEN.out _).mono ?_
      rintro e W8 ⟨rfl, hx⟩
      replace hK := hK.below hx
      clear hx
      by_cases h0 : E = 0
      · have d0 : (E != 0) = false := by rw [h0]; rfl
        by_cases h1 : x ≤ 1
        · have d1 : ¬ (1 : Int) < (x : Int) := by omega
          cases hm : m with
          | false =>
            have HG := Lib.hid (HCS.out.2.2.1 hm)
            rw [hm] at HMY
            clear h0 h1 hm
            have m12 := hK.at_ (q := p12) (o := .cells (cells R) 26 (0, 0)) (by simp)
            have i0 := IsCd.name m12
            have i1 := IsCd.left m12
            have i2 := IsCd.right m12
            have i3 := IsCd.id m12
            have i4 := IsCd.parent m12
            have i5 := IsCd.root m12
            have i6 := IsCd.used m12
            have i7 := IsCd.quota m12
            have i8 := IsCd.only m12
            clear m12
            go_wp2_with fail
            clear i0 i1 i2 i3 i4 i5 i6 i7 i8
            refine (HMY.out _).mono ?_
            rintro e W9 ⟨rfl, hx⟩
            replace hK := hK.below hx
            clear hx
            have hbel := hK.bel
            have hRr := hK.at_ (q := w.heap.size + 1) (o := cardO nil) (by simp)
            go_wp2_with (refine wpList_store_row rfl 26 _ _ rfl (w.heap.size + 1) _ rfl rfl _ _ hRr (sizeC nil) rfl (cells_one _) ?_)
            exact bodyPost_ret (results_row_tmp rfl _ _ _ _ _ _ _ rfl (setRow_heap _ _ _ _ _ _ hRr) Try.underlying26 rfl (sizeC nil)) rfl ⟨by rw [HG.out.1, HG.out.2]; rfl, below_row hbel (by omega)⟩
          | true =>
            have HG := Lib.hid (HCS.out.2.2.2 h0 h1 hm)
            rw [hm] at HMY
            clear h0 h1 hm
            have m12 := hK.at_ (q := p12) (o := .cells (cells R) 26 (0, 0)) (by simp)
            have i0 := IsCd.name m12
            have i1 := IsCd.left m12
            have i2 := IsCd.right m12
            have i3 := IsCd.id m12
            have i4 := IsCd.parent m12
            have i5 := IsCd.root m12
            have i6 := IsCd.used m12
            have i7 := IsCd.quota m12
            have i8 := IsCd.only m12
            clear m12
            go_wp2_with fail
            clear i0 i1 i2 i3 i4 i5 i6 i7 i8
            refine (HMY.out _).mono ?_
            rintro e W9 ⟨rfl, hx⟩
            replace hK := hK.below hx
            clear hx
            have hbel := hK.bel
            have hRr := hK.at_ (q := w.heap.size + 1) (o := cardO nil) (by simp)
            have hgo := hK.at_ (q := p12) (o := .cells (cells R) 26 (0, 0)) (by simp)
            go_wp2_with (first | (refine wpList_load_row rfl 26 _ rfl p12 rfl _ _ _ _ hgo Try.underlying26 rfl (sizeC R) ?_) | (refine wpList_store_row rfl 26 _ _ rfl (w.heap.size + 1) _ rfl rfl _ _ hRr (sizeC R) rfl (cells_one _) ?_))
            exact bodyPost_ret (results_row_tmp rfl _ _ _ _ _ _ _ rfl (setRow_heap _ _ _ _ _ _ hRr) Try.underlying26 rfl (sizeC R)) rfl ⟨by rw [HG.out.1, HG.out.2]; rfl, below_row hbel (by omega)⟩
        · have d1 : (1 : Int) < (x : Int) := by omega
          have HG := Lib.hid (HCS.out.2.1 h1)
          clear h0 h1
          have hbel := hK.bel
          have hRr := hK.at_ (q := w.heap.size + 1) (o := cardO nil) (by simp)
          go_wp2_with (refine wpList_store_row rfl 26 _ _ rfl (w.heap.size + 1) _ rfl rfl _ _ hRr (sizeC nil) rfl (cells_one _) ?_)
          exact bodyPost_ret (results_row_tmp rfl _ _ _ _ _ _ _ rfl (setRow_heap _ _ _ _ _ _ hRr) Try.underlying26 rfl (sizeC nil)) rfl ⟨by rw [HG.out.1, HG.out.2]; rfl, below_row hbel (by omega)⟩
      · have d0 : (E != 0) = true := by simpa using h0
        have HG := Lib.hid (HCS.out.1 h0)
        clear h0
        have hbel := hK.bel
        have hRr := hK.at_ (q := w.heap.size + 1) (o := cardO nil) (by simp)
        go_wp2_with (refine wpList_store_row rfl 26 _ _ rfl (w.heap.size + 1) _ rfl rfl _ _ hRr (sizeC nil) rfl (cells_one _) ?_)
        exact bodyPost_ret (results_row_tmp rfl _ _ _ _ _ _ _ rfl (setRow_heap _ _ _ _ _ _ hRr) Try.underlying26 rfl (sizeC nil)) rfl ⟨by rw [HG.out.1, HG.out.2]; rfl, below_row hbel (by omega)⟩

end Go.Proofs.Ytmbmgncajfamiaa.Crd
