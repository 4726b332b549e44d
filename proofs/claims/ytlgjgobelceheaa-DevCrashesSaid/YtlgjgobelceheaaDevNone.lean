/-
  What a device that is none answers.
-/
import Derived.Test.YtlgjgobelceheaaDevHead
namespace Go.Proofs.Ytlgjgobelceheaa.Dev
open Go.RowKit RowLaw

/-- whatever has become of the world, d is no device -/
def NoDev (d : Value) (w : World) : Prop := ∀ W, Below w.heap.size w W → Calls Try.prog 27 #[d] W fun e w' => e = .returned (.bool false) ∧ w' = W
theorem NoDev.nil (w : World) : NoDev (.pointer none) w := fun W _ => exists_nil W
theorem NoDev.zero {w : World} {p : Nat} (hc : w.cell? ⟨p, 0, none⟩ = some (.int .u32 0)) : NoDev (ptr p) w := fun _ hb =>
  exists_zero ((World.cell?_of_block (a := ⟨p, 0, none⟩) (hb.block p (World.block_lt_of_cell? w _ hc))).trans hc)
theorem NoDev.below {d : Value} {w W : World} (h : NoDev d w) (hb : Below w.heap.size w W) : NoDev d W := fun V hV => h V (hb.trans (hV.mono hb.size))

set_option maxHeartbeats 800000 in
theorem run_none (d : Value) (sb n : Nat) (hn : 0 < n) (hn2 : n < 1000) (w : World) (c0 : w.cell? ⟨sb, 0, none⟩ = some (.func (.func 27) #[] #[])) (c1 : w.cell? ⟨sb, 1, none⟩ = some (.int .i64 1)) (hx : NoDev d w) :
    Calls Try.prog 30 #[d, .slice (some ⟨sb, 0, none⟩) n n] w fun e w' => e = .returned (.int .i64 1) ∧ Below w.heap.size w w' := by
  have hzs := (zero_of_info infoStep).1
  have hb : Below w.heap.size w (w.alloc (.cells #[.func (.func 27) #[] #[], .int .i64 1] 76)) := (Below.refl _ _).alloc (Nat.le_refl _) _
  have hc := hx _ hb
  have hX := heap_alloc_new w (.cells #[.func (.func 27) #[] #[], .int .i64 1] 76)
  have d1 := cell_of_row _ w.heap.size 1 _ _ _ hX
  have d1' : (w.alloc (.cells #[.func (.func 27) #[] #[], .int .i64 1] 76)).cell? ⟨w.heap.size, 1, none⟩ = some (.int .i64 1) := d1
  have i0 : (0 : Int) < (n : Int) := by omega
  have tok : True := trivial
  clear hX d1 hx
  go_enter Try.func30, Try.ntmps30
  go_wp2_with fail
  refine wp_loop_rounds 1 ?_
  rw [rounds_succ]
  go_wp2_with (first | (have _t := tok; refine wpList_store_new rfl 76 _ _ rfl #[.func (.func 27) #[] #[], .int .i64 1] _ _ rfl rfl (zero_of_info infoStep).2 rfl (by simp [Value.oneCell']) ?_; clear _t tok) | (go_at_call 27; (with_reducible refine hc.mono ?_); rintro e W2 ⟨rfl, hw2⟩; subst hw2))
  go_ret
  exact ⟨rfl, hb⟩

set_option maxHeartbeats 800000 in
theorem Write_none {d : Value} {w : World} (hx : NoDev d w) (a : Nat) (l : List UInt8) :
    Calls Try.prog 17 #[d, .int .u32 (a : Int), .agg (cellsOf l)] w fun e w' => e = .returned (.int .i64 1) ∧ Below w.heap.size w w' := by
  have hzs := (zero_of_info infoStep).1
  have hzv := (zero_of_info infoBlock).1
  have hmf : ∀ (fn : Fn) (first cap : Array Value) (w : World), (Instr.makeFunc fn first cap).run Try.prog w = .ok (.func fn first cap) w := fun _ _ _ _ => rfl
  have hb : Below w.heap.size w ((((w.alloc (.cells #[.int .u32 (a : Int)] 30)).alloc (.cells (cellsOf l) 47)).alloc (.cells #[.int .u32 (a : Int)] 30)).alloc (.cells #[.func (.func 27) #[] #[], .int .i64 1, .func (.func 48) #[] #[.pointer (some ⟨w.heap.size + 1 + 1, 0, none⟩)], .int .i64 2, .func (.func 33) #[] #[], .int .i64 30, .func (.func 39) #[] #[.pointer (some ⟨w.heap.size, 0, none⟩), .pointer (some ⟨w.heap.size + 1, 0, none⟩)], .int .i64 0, .func (.func 34) #[] #[], .int .i64 30] 76)) := ((((Below.refl _ _).alloc (Nat.le_refl _) _).alloc (by simp) _).alloc (by simp; omega) _).alloc (by simp; omega) _
  obtain ⟨x0, x1, x2, x3, xs_⟩ := heap4 w (.cells #[.int .u32 (a : Int)] 30) (.cells (cellsOf l) 47) (.cells #[.int .u32 (a : Int)] 30) (.cells #[.func (.func 27) #[] #[], .int .i64 1, .func (.func 48) #[] #[.pointer (some ⟨w.heap.size + 1 + 1, 0, none⟩)], .int .i64 2, .func (.func 33) #[] #[], .int .i64 30, .func (.func 39) #[] #[.pointer (some ⟨w.heap.size, 0, none⟩), .pointer (some ⟨w.heap.size + 1, 0, none⟩)], .int .i64 0, .func (.func 34) #[] #[], .int .i64 30] 76)
  have c0 := cell_of_row _ (w.heap.size + 1 + 1 + 1) 0 _ _ _ x3
  have c1 := cell_of_row _ (w.heap.size + 1 + 1 + 1) 1 _ _ _ x3
  have hx2 := hx.below hb
  clear hx
  clear x0 x1 x2 x3 xs_
  go_enter Try.func17, Try.ntmps17
  go_wp2_with ((with_reducible refine (has_any _ _).mono ?_); rintro e W2 ⟨rfl, hw2⟩; subst hw2)
  refine (run_none d _ 5 (by omega) (by omega) _ c0 c1 hx2).mono ?_
  rintro e W3 ⟨rfl, h3⟩
  have hf := hb.trans (h3.mono hb.size)
  clear c0 c1 hx2 h3 hb
  go_wp2
  go_ret
  exact ⟨rfl, hf⟩

set_option maxHeartbeats 800000 in
theorem Flush_none {d : Value} {w : World} (hx : NoDev d w)  :
    Calls Try.prog 14 #[d] w fun e w' => e = .returned (.int .i64 1) ∧ Below w.heap.size w w' := by
  have hzs := (zero_of_info infoStep).1
  have hzv := (zero_of_info infoBlock).1
  have hmf : ∀ (fn : Fn) (first cap : Array Value) (w : World), (Instr.makeFunc fn first cap).run Try.prog w = .ok (.func fn first cap) w := fun _ _ _ _ => rfl
  have hb : Below w.heap.size w (w.alloc (.cells #[.func (.func 27) #[] #[], .int .i64 1, .func (.func 33) #[] #[], .int .i64 30, .func (.func 34) #[] #[], .int .i64 30, .func (.func 35) #[] #[], .int .i64 0] 76)) := (Below.refl _ _).alloc (Nat.le_refl _) _
  have x0 := heap_alloc_new w (.cells #[.func (.func 27) #[] #[], .int .i64 1, .func (.func 33) #[] #[], .int .i64 30, .func (.func 34) #[] #[], .int .i64 30, .func (.func 35) #[] #[], .int .i64 0] 76)
  have c0 := cell_of_row _ (w.heap.size) 0 _ _ _ x0
  have c1 := cell_of_row _ (w.heap.size) 1 _ _ _ x0
  have hx2 := hx.below hb
  clear hx
  clear x0
  go_enter Try.func14, Try.ntmps14
  go_wp2_with fail
  refine (run_none d _ 4 (by omega) (by omega) _ c0 c1 hx2).mono ?_
  rintro e W3 ⟨rfl, h3⟩
  have hf := hb.trans (h3.mono hb.size)
  clear c0 c1 hx2 h3 hb
  go_wp2
  go_ret
  exact ⟨rfl, hf⟩

set_option maxHeartbeats 800000 in
theorem Crash_none {d : Value} {w : World} (hx : NoDev d w) (pa : Option Addr) (ln cap : Nat) :
    Calls Try.prog 13 #[d, .slice pa ln cap] w fun e w' => e = .returned (.int .i64 1) ∧ Below w.heap.size w w' := by
  have hzs := (zero_of_info infoStep).1
  have hzv := (zero_of_info infoBlock).1
  have hmf : ∀ (fn : Fn) (first cap : Array Value) (w : World), (Instr.makeFunc fn first cap).run Try.prog w = .ok (.func fn first cap) w := fun _ _ _ _ => rfl
  have hb : Below w.heap.size w ((w.alloc (.cells #[.slice pa ln cap] 23)).alloc (.cells #[.func (.func 27) #[] #[], .int .i64 1, .func (.func 31) #[] #[.pointer (some ⟨w.heap.size, 0, none⟩)], .int .i64 0] 76)) := ((Below.refl _ _).alloc (Nat.le_refl _) _).alloc (by simp) _
  obtain ⟨x0, x1, xs_⟩ := heap2 w (.cells #[.slice pa ln cap] 23) (.cells #[.func (.func 27) #[] #[], .int .i64 1, .func (.func 31) #[] #[.pointer (some ⟨w.heap.size, 0, none⟩)], .int .i64 0] 76)
  have c0 := cell_of_row _ (w.heap.size + 1) 0 _ _ _ x1
  have c1 := cell_of_row _ (w.heap.size + 1) 1 _ _ _ x1
  have hx2 := hx.below hb
  clear hx
  clear x0 x1 xs_
  go_enter Try.func13, Try.ntmps13
  go_wp2_with fail
  refine (run_none d _ 2 (by omega) (by omega) _ c0 c1 hx2).mono ?_
  rintro e W3 ⟨rfl, h3⟩
  have hf := hb.trans (h3.mono hb.size)
  clear c0 c1 hx2 h3 hb
  go_wp2
  go_ret
  exact ⟨rfl, hf⟩

set_option maxHeartbeats 800000 in
theorem Fuse_none {d : Value} {w : World} (hx : NoDev d w) (z0 : Int) :
    Calls Try.prog 18 #[d, .int .i64 z0] w fun e w' => e = .returned (.int .i64 1) ∧ Below w.heap.size w w' := by
  have hzs := (zero_of_info infoStep).1
  have hzv := (zero_of_info infoBlock).1
  have hmf : ∀ (fn : Fn) (first cap : Array Value) (w : World), (Instr.makeFunc fn first cap).run Try.prog w = .ok (.func fn first cap) w := fun _ _ _ _ => rfl
  have hb : Below w.heap.size w ((w.alloc (.cells #[.int .i64 z0] 3)).alloc (.cells #[.func (.func 27) #[] #[], .int .i64 1, .func (.func 40) #[] #[.pointer (some ⟨w.heap.size, 0, none⟩)], .int .i64 2, .func (.func 33) #[] #[], .int .i64 30, .func (.func 41) #[] #[.pointer (some ⟨w.heap.size, 0, none⟩)], .int .i64 0] 76)) := ((Below.refl _ _).alloc (Nat.le_refl _) _).alloc (by simp) _
  obtain ⟨x0, x1, xs_⟩ := heap2 w (.cells #[.int .i64 z0] 3) (.cells #[.func (.func 27) #[] #[], .int .i64 1, .func (.func 40) #[] #[.pointer (some ⟨w.heap.size, 0, none⟩)], .int .i64 2, .func (.func 33) #[] #[], .int .i64 30, .func (.func 41) #[] #[.pointer (some ⟨w.heap.size, 0, none⟩)], .int .i64 0] 76)
  have c0 := cell_of_row _ (w.heap.size + 1) 0 _ _ _ x1
  have c1 := cell_of_row _ (w.heap.size + 1) 1 _ _ _ x1
  have hx2 := hx.below hb
  clear hx
  clear x0 x1 xs_
  go_enter Try.func18, Try.ntmps18
  go_wp2_with fail
  refine (run_none d _ 4 (by omega) (by omega) _ c0 c1 hx2).mono ?_
  rintro e W3 ⟨rfl, h3⟩
  have hf := hb.trans (h3.mono hb.size)
  clear c0 c1 hx2 h3 hb
  go_wp2
  go_ret
  exact ⟨rfl, hf⟩

set_option maxHeartbeats 800000 in
theorem Read_none {d : Value} {w : World} (hx : NoDev d w) (a : Nat) :
    Calls Try.prog 15 #[d, .int .u32 (a : Int)] w fun e w' => e = .returned (.tuple #[.agg (cellsOf zeros), .int .i64 1]) ∧ Below w.heap.size w w' := by
  have hzs := (zero_of_info infoStep).1
  have hzv := (zero_of_info infoBlock).1
  have hmf : ∀ (fn : Fn) (first cap : Array Value) (w : World), (Instr.makeFunc fn first cap).run Try.prog w = .ok (.func fn first cap) w := fun _ _ _ _ => rfl
  have hb : Below w.heap.size w ((((w.alloc (.cells #[.int .u32 (a : Int)] 30)).alloc (.cells (cellsOf zeros) 47)).alloc (.cells #[.int .u32 (a : Int)] 30)).alloc (.cells #[.func (.func 27) #[] #[], .int .i64 1, .func (.func 48) #[] #[.pointer (some ⟨w.heap.size + 1 + 1, 0, none⟩)], .int .i64 2, .func (.func 37) #[] #[.pointer (some ⟨w.heap.size, 0, none⟩), .pointer (some ⟨w.heap.size + 1, 0, none⟩)], .int .i64 0] 76)) := ((((Below.refl _ _).alloc (Nat.le_refl _) _).alloc (by simp) _).alloc (by simp; omega) _).alloc (by simp; omega) _
  obtain ⟨x0, x1, x2, x3, xs_⟩ := heap4 w (.cells #[.int .u32 (a : Int)] 30) (.cells (cellsOf zeros) 47) (.cells #[.int .u32 (a : Int)] 30) (.cells #[.func (.func 27) #[] #[], .int .i64 1, .func (.func 48) #[] #[.pointer (some ⟨w.heap.size + 1 + 1, 0, none⟩)], .int .i64 2, .func (.func 37) #[] #[.pointer (some ⟨w.heap.size, 0, none⟩), .pointer (some ⟨w.heap.size + 1, 0, none⟩)], .int .i64 0] 76)
  have c0 := cell_of_row _ (w.heap.size + 1 + 1 + 1) 0 _ _ _ x3
  have c1 := cell_of_row _ (w.heap.size + 1 + 1 + 1) 1 _ _ _ x3
  have hx2 := hx.below hb
  clear hx
  have l1 : w.heap.size + 1 < w.heap.size + 1 + 1 + 1 + 1 := by omega
  rw [← xs_] at l1
  have hiz := sizeBlock _ zeros_length
  clear x0 x2 x3
  go_enter Try.func15, Try.ntmps15
  go_wp2_with ((with_reducible refine (has_any a _).mono ?_); rintro e W2 ⟨rfl, hw2⟩; subst hw2)
  refine (run_none d _ 3 (by omega) (by omega) _ c0 c1 hx2).mono ?_
  rintro e W3 ⟨rfl, h3⟩
  have hf := hb.trans (h3.mono hb.size)
  have hh : Holds W3 (w.heap.size + 1) zeros := (h3.block _ l1).trans x1
  have hge : w.heap.size ≤ w.heap.size + 1 := by omega
  clear c0 c1 hx2 h3 hb x1 l1 xs_
  generalize w.heap.size + 1 = q1 at hh hge ⊢
  go_wp2_with (first | (refine wpList_load_row rfl 47 _ rfl q1 rfl _ _ _ _ hh Try.underlying47 rfl hiz ?_) | (refine wpList_store_row rfl 47 _ _ rfl q1 _ rfl rfl _ _ hh hiz rfl (cellsOf_one _) ?_))
  exact bodyPost_ret (results_row_tmp rfl _ _ _ _ _ _ _ rfl (setRow_heap W3 _ _ _ _ _ hh) Try.underlying47 rfl hiz) rfl ⟨rfl, below_row hf hge⟩

theorem Copy_none {d : Value} {w : World} (hx : NoDev d w) : Calls Try.prog 11 #[d] w fun e w' => e = .returned (.pointer none) ∧ Below w.heap.size w w' := by
  have h := hx w (Below.refl _ _)
  clear hx
  go_enter Try.func11, Try.ntmps11
  go_wp2_with fail
  refine h.mono ?_
  rintro e W ⟨rfl, hw⟩
  subst hw
  clear h
  go_wp2
  go_ret
  exact ⟨rfl, Below.refl _ _⟩

theorem Size_nil (w : World) : Calls Try.prog 19 #[.pointer none] w fun e w' => e = .returned (.int .u32 0) ∧ Below w.heap.size w w' := by
  go_enter Try.func19, Try.ntmps19
  go_wp2
  go_ret
  exact ⟨rfl, Below.refl _ _⟩
theorem Size_zero {w : World} {p : Nat} (c0 : w.cell? ⟨p, 0, none⟩ = some (.int .u32 0)) : Calls Try.prog 19 #[ptr p] w fun e w' => e = .returned (.int .u32 0) ∧ Below w.heap.size w w' := by
  unfold ptr
  go_enter Try.func19, Try.ntmps19
  go_wp2
  go_ret
  exact ⟨rfl, Below.refl _ _⟩

theorem Down_nil (w : World) : Calls Try.prog 20 #[.pointer none] w fun e w' => e = .returned (.bool false) ∧ Below w.heap.size w w' := by
  go_enter Try.func20, Try.ntmps20
  go_wp2
  go_ret
  exact ⟨rfl, Below.refl _ _⟩
theorem Down_zero {w : World} {p : Nat} (c0 : w.cell? ⟨p, 4, none⟩ = some (.bool false)) : Calls Try.prog 20 #[ptr p] w fun e w' => e = .returned (.bool false) ∧ Below w.heap.size w w' := by
  unfold ptr
  go_enter Try.func20, Try.ntmps20
  go_wp2
  go_ret
  exact ⟨rfl, Below.refl _ _⟩

theorem Writes_nil (w : World) : Calls Try.prog 21 #[.pointer none] w fun e w' => e = .returned (.int .u64 0) ∧ Below w.heap.size w w' := by
  go_enter Try.func21, Try.ntmps21
  go_wp2
  go_ret
  exact ⟨rfl, Below.refl _ _⟩
theorem Writes_zero {w : World} {p : Nat} (c0 : w.cell? ⟨p, 5, none⟩ = some (.int .u64 0)) : Calls Try.prog 21 #[ptr p] w fun e w' => e = .returned (.int .u64 0) ∧ Below w.heap.size w w' := by
  unfold ptr
  go_enter Try.func21, Try.ntmps21
  go_wp2
  go_ret
  exact ⟨rfl, Below.refl _ _⟩

theorem Pending_nil (w : World) : Calls Try.prog 12 #[.pointer none] w fun e w' => e = .returned (.int .i64 0) ∧ Below w.heap.size w w' := by
  go_enter Try.func12, Try.ntmps12
  go_wp2
  go_ret
  exact ⟨rfl, Below.refl _ _⟩
theorem Pending_zero {w : World} {p : Nat} (c0 : w.cell? ⟨p, 2, none⟩ = some (.slice none 0 0)) : Calls Try.prog 12 #[ptr p] w fun e w' => e = .returned (.int .i64 0) ∧ Below w.heap.size w w' := by
  unfold ptr
  go_enter Try.func12, Try.ntmps12
  go_wp2
  go_ret
  exact ⟨rfl, Below.refl _ _⟩

end Go.Proofs.Ytlgjgobelceheaa.Dev
