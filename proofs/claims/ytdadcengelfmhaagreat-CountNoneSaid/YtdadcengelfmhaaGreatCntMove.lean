/-
  A page is put into the other one of its two blocks.
-/
import Derived.Test.YtdadcengelfmhaaGreatCntChgs
import Derived.Test.YtdadcengelfmhaaGreatTal1
namespace Go.Proofs.YtdadcengelfmhaaGreat.Cnt
open Go.RowKit RowLaw Crc
open Go.Proofs.YtdadcengelfmhaaGreat.Dev (Dev DS ptr putCells putCells_one putCells_length size_of_putCells sizePut infoPut exec_build)
open Go.Proofs.YtdadcengelfmhaaGreat.Tal (pgCells pgCells_size pgCells_one IsPg kT kP fT fP putB putE putB_length sizeT sizeP Put_anyT Put_anyP)
open Go.Proofs.YtdadcengelfmhaaGreat.Fld (blockO)
set_option maxRecDepth 100000

/-- the other one of two blocks -/
def other (a : Nat) : Nat := a ^^^ 1
theorem infoPutZ : (Tryz.prog.info? 65).map (fun i => (i.zero, i.size)) = some (some (.agg (putCells (0, zeros)).toArray), 257) := by kernel_rfl
theorem wpList_build_put2 {ops : Array Oper} {rest : List Oper} {o : Oper} {ac : Act} {w : World} {Q : Exit → Act → World → Prop} (hgd : o.guard = none) (d0 d1 : Tmp) (ho : o.op = .build 65 #[(0, .tmp d0), (1, .tmp d1)]) (a : Nat) (l : List UInt8) (hl : l.length = 256)
    (h0 : ac.eval (.tmp d0) = .int .u32 (a : Int)) (h1 : ac.eval (.tmp d1) = .agg (cellsOf l)) (h : wpList Tryz.prog ops Q rest (ac.put o.dst (.agg (putCells (a, l)).toArray)) w) : wpList Tryz.prog ops Q (o :: rest) ac w := by
  refine wpList_plain hgd fun K hK => ?_
  unfold Oper.wp
  rw [exec_build d0 d1 ho a l hl h0 h1 w]
  exact hK _ _ h

set_option linter.unusedSimpArgs false in
set_option maxHeartbeats 3200000 in
theorem moveT_any (idx : Nat) (ns : List Nat) (hn : ns.length = kT.n) (hs : ∀ j (hj : j < ns.length), ns[j] < 256 ^ kT.wd) {a : Nat} (ha : a < 4294967296) (w : World) :
    Calls Tryz.prog 33 #[.agg (pgCells .u16 idx ns), .int .u32 (a : Int), .func (.func 34) #[] #[]] w fun e w' => e = .returned (.agg (putCells (other a, putB kT idx ns)).toArray) ∧ Below w.heap.size w w' := by
  have hP := fun W => Put_anyT idx ns hn hs W
  have hpl := putB_length fT idx hn
  have HP := Lib.hid hP
  generalize putB kT idx ns = b at HP hpl ⊢
  generalize putE kT idx = z at HP
  have hip := sizeT idx ns hn
  have hzb := (zero_of_info infoBlock).1
  have hzp := (zero_of_info infoPutZ).1
  have hib := sizeBlock b hpl
  have hzz : (cellsOf zeros).size = (cellsOf b).size := by rw [cellsOf_size, cellsOf_size, hpl, zeros_length]
  have hx := xor_u32 a 1 ha (by decide)
  have hoa : a ^^^ 1 = other a := rfl
  rw [hoa] at hx
  generalize other a = a2 at hx ⊢
  have hiu : (Tryz.prog.info? 65).map (·.size) = some (putCells (a2, b)).toArray.size := by rw [List.size_toArray]; exact sizePut _ hpl
  have hzu : (putCells (0, zeros)).toArray.size = (putCells (a2, b)).toArray.size := by rw [size_of_putCells zeros_length, size_of_putCells hpl]
  have hone : (putCells (a2, b)).toArray.all (·.oneCell') = true := by rw [List.all_toArray]; exact List.all_eq_true.2 (putCells_one _)
  have hK : Kept w [(w.heap.size + 1, .cells (putCells (0, zeros)).toArray 65), (w.heap.size, .cells (pgCells .u16 idx ns) 68)] ((w.alloc (.cells (pgCells .u16 idx ns) 68)).alloc (.cells (putCells (0, zeros)).toArray 65)) := by
    have h := ((Kept.start w).alloc (.cells (pgCells .u16 idx ns) 68)).alloc (.cells (putCells (0, zeros)).toArray 65)
    rwa [show (w.alloc (.cells (pgCells .u16 idx ns) 68)).heap.size = w.heap.size + 1 from by simp] at h
  have hge : w.heap.size ≤ w.heap.size + 1 := by omega
  clear hP hn hs hoa
  go_enter Tryz.func33, Tryz.ntmps33
  go_upto_region 1 with fail
  change Code.wp _ _ _ _ ((w.alloc (.cells (pgCells .u16 idx ns) 68)).alloc (.cells (putCells (0, zeros)).toArray 65))
  generalize (w.alloc (.cells (pgCells .u16 idx ns) 68)).alloc (.cells (putCells (0, zeros)).toArray 65) = W1 at hK ⊢
  generalize w.heap.size + 1 = b6 at hK hge ⊢
  obtain ⟨b3, hb3⟩ : ∃ b3, b3 = w.heap.size := ⟨_, rfl⟩
  rw [← hb3]
  have hK' : Kept w [(b6, .cells (putCells (0, zeros)).toArray 65), (b3, .cells (pgCells .u16 idx ns) 68)] W1 := by rw [hb3]; exact hK
  clear hK hb3
  have r3 : W1.heap[b3]? = some (.cells (pgCells .u16 idx ns) 68 (0, 0)) := hK'.at_ (q := b3) (o := .cells (pgCells .u16 idx ns) 68) (by simp)
  go_wp2_with (refine wpList_load_row rfl 68 _ rfl b3 rfl _ _ _ _ r3 Tryz.underlying68 rfl hip ?_)
  refine (HP.out _).mono ?_
  clear HP r3 hip
  rintro e W2 ⟨rfl, hx2⟩
  have hK2 := (hK'.below hx2).alloc (blockO b)
  clear hK' hx2
  have tok : True := trivial
  go_upto_region 2 with (have _t := tok; refine wpList_store_new rfl 39 _ _ rfl (cellsOf b) _ _ rfl rfl hib hzz (cellsOf_one _) ?_; change wpList _ _ _ _ _ (W2.alloc (blockO b)); clear _t tok)
  change Code.wp _ _ _ _ (W2.alloc (blockO b))
  generalize W2.heap.size = b7 at hK2 ⊢
  generalize W2.alloc (blockO b) = W3 at hK2 ⊢
  have r7 : W3.heap[b7]? = some (.cells (cellsOf b) 39 (0, 0)) := hK2.at_ (q := b7) (o := blockO b) List.mem_cons_self
  have r6 : W3.heap[b6]? = some (.cells (putCells (0, zeros)).toArray 65 (0, 0)) := hK2.at_ (q := b6) (o := .cells (putCells (0, zeros)).toArray 65) (by simp)
  have hbel := hK2.bel
  clear hK2 hzz
  have hxx : bits .xor .u32 (a : Int) 1 = (a2 : Int) := hx
  clear hx
  have tok : True := trivial
  go_wp2_with (first
    | (refine wpList_load_row rfl 39 _ rfl b7 rfl _ _ _ _ r7 Tryz.underlying39 rfl hib ?_)
    | (refine wpList_build_put2 rfl _ _ rfl a2 b hpl rfl rfl ?_)
    | (have _t := tok; refine wpList_store_row rfl 65 _ _ rfl b6 _ rfl rfl _ _ r6 hiu hzu hone ?_; clear _t tok))
  exact bodyPost_ret (v := .agg (putCells (a2, b)).toArray) (results_cell_row rfl _ _ _ _ _ _ _ rfl (setRow_heap W3 _ _ _ _ _ r6) Tryz.underlying65 rfl hiu) rfl ⟨rfl, below_row hbel hge⟩

set_option linter.unusedSimpArgs false in
set_option maxHeartbeats 3200000 in
theorem moveP_any (idx : Nat) (ns : List Nat) (hn : ns.length = kP.n) (hs : ∀ j (hj : j < ns.length), ns[j] < 256 ^ kP.wd) {a : Nat} (ha : a < 4294967296) (w : World) :
    Calls Tryz.prog 37 #[.agg (pgCells .u64 idx ns), .int .u32 (a : Int), .func (.func 38) #[] #[]] w fun e w' => e = .returned (.agg (putCells (other a, putB kP idx ns)).toArray) ∧ Below w.heap.size w w' := by
  have hP := fun W => Put_anyP idx ns hn hs W
  have hpl := putB_length fP idx hn
  have HP := Lib.hid hP
  generalize putB kP idx ns = b at HP hpl ⊢
  generalize putE kP idx = z at HP
  have hip := sizeP idx ns hn
  have hzb := (zero_of_info infoBlock).1
  have hzp := (zero_of_info infoPutZ).1
  have hib := sizeBlock b hpl
  have hzz : (cellsOf zeros).size = (cellsOf b).size := by rw [cellsOf_size, cellsOf_size, hpl, zeros_length]
  have hx := xor_u32 a 1 ha (by decide)
  have hoa : a ^^^ 1 = other a := rfl
  rw [hoa] at hx
  generalize other a = a2 at hx ⊢
  have hiu : (Tryz.prog.info? 65).map (·.size) = some (putCells (a2, b)).toArray.size := by rw [List.size_toArray]; exact sizePut _ hpl
  have hzu : (putCells (0, zeros)).toArray.size = (putCells (a2, b)).toArray.size := by rw [size_of_putCells zeros_length, size_of_putCells hpl]
  have hone : (putCells (a2, b)).toArray.all (·.oneCell') = true := by rw [List.all_toArray]; exact List.all_eq_true.2 (putCells_one _)
  have hK : Kept w [(w.heap.size + 1, .cells (putCells (0, zeros)).toArray 65), (w.heap.size, .cells (pgCells .u64 idx ns) 73)] ((w.alloc (.cells (pgCells .u64 idx ns) 73)).alloc (.cells (putCells (0, zeros)).toArray 65)) := by
    have h := ((Kept.start w).alloc (.cells (pgCells .u64 idx ns) 73)).alloc (.cells (putCells (0, zeros)).toArray 65)
    rwa [show (w.alloc (.cells (pgCells .u64 idx ns) 73)).heap.size = w.heap.size + 1 from by simp] at h
  have hge : w.heap.size ≤ w.heap.size + 1 := by omega
  clear hP hn hs hoa
  go_enter Tryz.func37, Tryz.ntmps37
  go_upto_region 1 with fail
  change Code.wp _ _ _ _ ((w.alloc (.cells (pgCells .u64 idx ns) 73)).alloc (.cells (putCells (0, zeros)).toArray 65))
  generalize (w.alloc (.cells (pgCells .u64 idx ns) 73)).alloc (.cells (putCells (0, zeros)).toArray 65) = W1 at hK ⊢
  generalize w.heap.size + 1 = b6 at hK hge ⊢
  obtain ⟨b3, hb3⟩ : ∃ b3, b3 = w.heap.size := ⟨_, rfl⟩
  rw [← hb3]
  have hK' : Kept w [(b6, .cells (putCells (0, zeros)).toArray 65), (b3, .cells (pgCells .u64 idx ns) 73)] W1 := by rw [hb3]; exact hK
  clear hK hb3
  have r3 : W1.heap[b3]? = some (.cells (pgCells .u64 idx ns) 73 (0, 0)) := hK'.at_ (q := b3) (o := .cells (pgCells .u64 idx ns) 73) (by simp)
  go_wp2_with (refine wpList_load_row rfl 73 _ rfl b3 rfl _ _ _ _ r3 Tryz.underlying73 rfl hip ?_)
  refine (HP.out _).mono ?_
  clear HP r3 hip
  rintro e W2 ⟨rfl, hx2⟩
  have hK2 := (hK'.below hx2).alloc (blockO b)
  clear hK' hx2
  have tok : True := trivial
  go_upto_region 2 with (have _t := tok; refine wpList_store_new rfl 39 _ _ rfl (cellsOf b) _ _ rfl rfl hib hzz (cellsOf_one _) ?_; change wpList _ _ _ _ _ (W2.alloc (blockO b)); clear _t tok)
  change Code.wp _ _ _ _ (W2.alloc (blockO b))
  generalize W2.heap.size = b7 at hK2 ⊢
  generalize W2.alloc (blockO b) = W3 at hK2 ⊢
  have r7 : W3.heap[b7]? = some (.cells (cellsOf b) 39 (0, 0)) := hK2.at_ (q := b7) (o := blockO b) List.mem_cons_self
  have r6 : W3.heap[b6]? = some (.cells (putCells (0, zeros)).toArray 65 (0, 0)) := hK2.at_ (q := b6) (o := .cells (putCells (0, zeros)).toArray 65) (by simp)
  have hbel := hK2.bel
  clear hK2 hzz
  have hxx : bits .xor .u32 (a : Int) 1 = (a2 : Int) := hx
  clear hx
  have tok : True := trivial
  go_wp2_with (first
    | (refine wpList_load_row rfl 39 _ rfl b7 rfl _ _ _ _ r7 Tryz.underlying39 rfl hib ?_)
    | (refine wpList_build_put2 rfl _ _ rfl a2 b hpl rfl rfl ?_)
    | (have _t := tok; refine wpList_store_row rfl 65 _ _ rfl b6 _ rfl rfl _ _ r6 hiu hzu hone ?_; clear _t tok))
  exact bodyPost_ret (v := .agg (putCells (a2, b)).toArray) (results_cell_row rfl _ _ _ _ _ _ _ rfl (setRow_heap W3 _ _ _ _ _ r6) Tryz.underlying65 rfl hiu) rfl ⟨rfl, below_row hbel hge⟩
end Go.Proofs.YtdadcengelfmhaaGreat.Cnt
