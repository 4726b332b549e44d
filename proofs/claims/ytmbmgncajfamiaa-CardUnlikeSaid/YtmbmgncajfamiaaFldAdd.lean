/-
  The walks of the writer's add, with its closures.
-/
import Derived.Test.YtmbmgncajfamiaaFldSplit
import Derived.StillTailTactics
import Derived.BigQuiet
import Derived.IntWalk
namespace Go.Proofs.Ytmbmgncajfamiaa.Fld
open Go.RowKit RowLaw Crc
set_option maxRecDepth 100000

set_option maxHeartbeats 400000 in
theorem num1_any (T : TypeId) (p off m cap : Nat) (l : List UInt8) (k n : Nat) (q : Addr) (hl : l.length = 256) (hm : m ≤ 8) (hoff : off + m ≤ 256) (w : World) (hw : IsObj T w p l k) (hq : w.cell? q = some (.int .u64 (n : Int))) :
    Calls Try.prog 44 #[.slice (some ⟨p, off, none⟩) m cap, .pointer (some q)] w fun e w' => e = .returned (.bool true) ∧ IsObj T w' p (lay l off (leB n m)) k ∧ Apart p w w' := by
  go_enter Try.func44, Try.ntmps44
  go_wp2_with (go_at_call 45; refine (split_any T p off m cap l k n hl hm hoff _ hw).mono ?_; rintro e W1 ⟨rfl, ho, ha⟩)
  go_ret
  exact ⟨rfl, ho, ha⟩

/-- the deferred closure: ok -/
theorem fin_ok (q r : Addr) (u : FrameMode) (w : World) (hq : w.cell? q = some (.bool true)) :
    CallsD Try.prog 63 #[.pointer (some q), .pointer (some r)] u w fun e u' w' => u' = u ∧ e = .returned (.tuple #[]) ∧ w' = w := by
  go_enter_d Try.func63, Try.ntmps63
  go_wp2
  go_end0
  exact ⟨rfl, rfl⟩
/-- the deferred closure: not ok -/
theorem fin_no (q r : Addr) (p : Nat) (x : Value) (u : FrameMode) (w : World) (hq : w.cell? q = some (.bool false)) (hr : w.cell? r = some (.pointer (some ⟨p, 0, none⟩))) (hc : w.cell? ⟨p, 256, none⟩ = some x) (hf : w.frozen? ⟨p, 256, none⟩ = false) :
    CallsD Try.prog 63 #[.pointer (some q), .pointer (some r)] u w fun e u' w' => u' = u ∧ e = .returned (.tuple #[]) ∧ w' = w.setCell ⟨p, 256, none⟩ (.int .i64 0) := by
  go_enter_d Try.func63, Try.ntmps63
  go_wp2
  go_end0
  exact ⟨rfl, rfl⟩

theorem fits_as (a s : Nat) (b : Bool) (hb : fitB a s = b) (ha : a ≤ 252) (hs : s ≤ 252) (w : World) :
    Calls Try.prog 64 #[.int .i64 (a : Int), .int .i64 (s : Int)] w fun e w' => e = .returned (.bool b) ∧ w' = w :=
  (fits_any a s ha hs w).mono fun _ _ ⟨he, hw⟩ => ⟨by rw [he, hb], hw.symm⟩

set_option maxHeartbeats 800000 in
theorem add_nil (sz : Int) (fv : Value) (w : World) :
    Calls Try.prog 40 #[.pointer none, .int .i64 sz, fv] w fun e w' => e = .returned (.bool false) ∧ Below w.heap.size w w' := by
  have hmf : ∀ (fn : Fn) (first cap : Array Value) (w : World), (Instr.makeFunc fn first cap).run Try.prog w = .ok (.func fn first cap) w := fun _ _ _ _ => rfl
  go_enter_defers Try.func40, Try.ntmps40
  go_wp2
  simp [bodyPostD, Leaves, results, Try.results40, go_sem]
  exact ((Below.refl _ _).alloc (Nat.le_refl _) _).alloc (by simp) _

/-- the world in which add's region is met: the pointer's and the result's variables -/
structure AddBox (T : TypeId) (w : World) (p : Nat) (l : List UInt8) (k : Nat) (ok : Bool) (W : World) : Prop where
  obj : IsObj T W p l k
  ptr : W.cell? ⟨w.heap.size, 0, none⟩ = some (.pointer (some ⟨p, 0, none⟩))
  res : W.cell? ⟨w.heap.size + 1, 0, none⟩ = some (.bool ok)
  resf : W.frozen? ⟨w.heap.size + 1, 0, none⟩ = false
  apart : Apart p w W
  size : w.heap.size + 2 ≤ W.heap.size
theorem AddBox.start {T : TypeId} {w : World} {p : Nat} {l : List UInt8} {k : Nat} (h : IsObj T w p l k) (t u : TypeId) :
    AddBox T w p l k false ((w.alloc (.cells #[.pointer (some ⟨p, 0, none⟩)] t)).alloc (.cells #[.bool false] u)) :=
  ⟨(h.alloc _).alloc _, by go_simp, by go_simp, by go_simp, ((Apart.refl _ _).alloc _).alloc _, by simp⟩
theorem AddBox.step {T : TypeId} {w W W' : World} {p : Nat} {l l' : List UInt8} {k k' : Nat} {ok : Bool} (h : AddBox T w p l k ok W) (hp : p < w.heap.size) (ho : IsObj T W' p l' k') (ha : Apart p W W') : AddBox T w p l' k' ok W' :=
  have hs := h.size
  ⟨ho, (ha.cell (q := ⟨w.heap.size, 0, none⟩) (by simp; omega) (by simp; omega)).trans h.ptr, (ha.cell (q := ⟨w.heap.size + 1, 0, none⟩) (by simp; omega) (by simp; omega)).trans h.res,
    (ha.frozen (q := ⟨w.heap.size + 1, 0, none⟩) (by simp; omega) (by simp; omega)).trans h.resf, h.apart.trans ha, Nat.le_trans hs ha.size⟩
theorem AddBox.setRes {T : TypeId} {w W : World} {p : Nat} {l : List UInt8} {k : Nat} {ok : Bool} (h : AddBox T w p l k ok W) (hp : p < w.heap.size) (b : Bool) : AddBox T w p l k b (W.setCell ⟨w.heap.size + 1, 0, none⟩ (.bool b)) :=
  have hs := h.size
  ⟨h.obj.other _ _ (by simp; omega), (World.cell?_setCell_other W _ _ _ (by simp)).trans h.ptr, World.cell?_setCell_same' W _ _ (by rw [h.res]; rfl), by rw [World.frozen?_setCell]; exact h.resf, h.apart.own _ (by simp) _, by simp [World.setCell]; omega⟩

set_option maxHeartbeats 800000 in
theorem add_no (p sz : Nat) (l : List UInt8) (k : Nat) (fv : Value) (hl : l.length = 256) (hk : k ≤ 252) (hs : sz ≤ 252) (hfit : fitB k sz = false) (w : World) (hw : IsObj 88 w p l k) :
    Calls Try.prog 40 #[.pointer (some ⟨p, 0, none⟩), .int .i64 (sz : Int), fv] w fun e w' => e = .returned (.bool false) ∧ IsObj 88 w' p l 0 ∧ Apart p w w' := by
  have hmf : ∀ (fn : Fn) (first cap : Array Value) (w : World), (Instr.makeFunc fn first cap).run Try.prog w = .ok (.func fn first cap) w := fun _ _ _ _ => rfl
  have hb := AddBox.start hw 51 4
  have hlt := hw.lt
  go_enter_defers Try.func40, Try.ntmps40
  go_wp2
  generalize (w.alloc (.cells #[.pointer (some ⟨p, 0, none⟩)] 51)).alloc (.cells #[.bool false] 4) = W at hb ⊢
  have c1 := hb.ptr
  have c2 := hb.res
  have f2 := hb.resf
  have c3 := hb.obj.pos hl
  go_quiet ((go_at_call 64; exact Calls.quiet_of_same (fits_as k sz false hfit hk hs _)))
  go_wp2
  replace hb : AddBox 88 w p l k false ((W.drewN nq).setCell ⟨w.heap.size + 1, 0, none⟩ (.bool false)) := (hb.step hlt (W' := W.drewN nq) hb.obj ⟨rfl, rfl, rfl, Nat.le_refl _, fun _ _ _ => rfl⟩).setRes hlt false
  generalize (W.drewN nq).setCell ⟨w.heap.size + 1, 0, none⟩ (.bool false) = W2 at hb ⊢
  refine leaves_cons (f := 63) (args := #[.pointer (some ⟨w.heap.size + 1, 0, none⟩), .pointer (some ⟨w.heap.size, 0, none⟩)]) (by simp) (by simp [go_sem]) ?_
  refine (fin_no _ _ p _ .returning _ hb.res hb.ptr (hb.obj.pos hl) (hb.obj.frozen 256)).mono ?_
  rintro e u' w'' ⟨rfl, rfl, rfl⟩
  have ho := hb.obj.setPos hl 0
  have ha := hb.apart.set_ 256 (.int .i64 0)
  have hr := (hb.step hlt ho ((Apart.refl _ _).set_ 256 (.int .i64 0))).res
  generalize W2.setCell ⟨p, 256, none⟩ (.int .i64 0) = W3 at hr ho ha ⊢
  exact ⟨_, by simp [results, Try.results40, go_sem, hr], rfl, ho, ha⟩

set_option maxHeartbeats 1600000 in
theorem add_yes (p sz : Nat) (l l' : List UInt8) (k : Nat) (fid : FuncId) (cap : Array Value) (hl : l.length = 256) (hl' : l'.length = 256) (hfit : fitB k sz = true) (w : World) (hw : IsObj 88 w p l k) (hen : ∀ (args : Array Value) (W : World), (callFunc fid args).run Try.prog W = .ok (.enter fid args) W)
    (hfill : ∀ W : World, IsObj 88 W p l k → Apart p w W → Calls Try.prog fid (#[.slice (some ⟨p, k, none⟩) sz (256 - k)] ++ cap) W fun e W' => e = .returned (.bool true) ∧ IsObj 88 W' p l' k ∧ Apart p W W') :
    Calls Try.prog 40 #[.pointer (some ⟨p, 0, none⟩), .int .i64 (sz : Int), .func (.func fid) #[] cap] w fun e w' => e = .returned (.bool true) ∧ IsObj 88 w' p l' (k + sz) ∧ Apart p w w' := by
  have hmf : ∀ (fn : Fn) (first cap : Array Value) (w : World), (Instr.makeFunc fn first cap).run Try.prog w = .ok (.func fn first cap) w := fun _ _ _ _ => rfl
  have hb := AddBox.start hw 51 4
  have hlt := hw.lt
  have hk : k ≠ 0 ∧ sz ≠ 0 ∧ k + sz ≤ 252 := of_decide_eq_true hfit
  obtain ⟨hk0, hs0, hks⟩ := hk
  have HF := Lib.hid hfill; clear hfill
  go_enter_defers Try.func40, Try.ntmps40
  go_wp2
  generalize (w.alloc (.cells #[.pointer (some ⟨p, 0, none⟩)] 51)).alloc (.cells #[.bool false] 4) = W at hb ⊢
  have c1 := hb.ptr
  have c2 := hb.res
  have f2 := hb.resf
  have c3 := hb.obj.pos hl
  have z1 : IntKind.i64.wrap ((k : Int) + (sz : Int)) = (k : Int) + (sz : Int) := IntWalk.i64_in _ (by omega)
  have z2 : ((k : Int) + (sz : Int)).toNat = k + sz := by omega
  have z3 : 0 ≤ (k : Int) + (sz : Int) := by omega
  have z4 : (k : Int) + (sz : Int) ≤ 256 := by omega
  have z5 : (k : Int) ≤ (k : Int) + (sz : Int) := by omega
  have z6 : ¬ 256 = k := by omega
  refine wp_region_still_tail 23 (by kernel_rfl) (by kernel_rfl) ?_
  simp only [List.take_succ_cons, List.take_zero, List.drop_succ_cons, List.drop_zero]
  repeat still_step
  still_call (fits_as k sz true hfit (by omega) (by omega) _)
  repeat still_step
  refine wpStill_nil ?_
  change wpList _ _ _ _ _ W.drew
  replace hb := hb.step hlt (W' := W.drew) hb.obj ⟨rfl, rfl, rfl, Nat.le_refl _, fun _ _ _ => rfl⟩
  clear c1 c2 c3 f2
  generalize W.drew = W2 at hb ⊢
  go_wp2_with ((with_reducible refine (HF.out W2 hb.obj hb.apart).mono ?_); rintro e W3 ⟨rfl, ho, ha⟩; clear HF; replace hb := hb.step hlt ho ha; have c1 := hb.ptr; have c2 := hb.res; have f2 := hb.resf; have c3 := hb.obj.pos hl'; have f3 := hb.obj.frozen 256)
  have ho2 := hb.obj.setPos hl' (k + sz)
  have hb2 := (hb.step hlt ho2 ((Apart.refl _ _).set_ 256 _)).setRes hlt true
  rw [show (((k + sz : Nat) : Int)) = (k : Int) + (sz : Int) from by omega] at hb2
  generalize ((W3.setCell ⟨p, 256, none⟩ (.int .i64 ((k : Int) + (sz : Int)))).setCell ⟨w.heap.size + 1, 0, none⟩ (.bool true)) = W4 at hb2 ⊢
  refine leaves_cons (f := 63) (args := #[.pointer (some ⟨w.heap.size + 1, 0, none⟩), .pointer (some ⟨w.heap.size, 0, none⟩)]) (by simp) (by simp [go_sem]) ?_
  refine (fin_ok _ _ .returning _ hb2.res).mono ?_
  rintro e u' w'' ⟨rfl, rfl, rfl⟩
  have hr := hb2.res
  exact ⟨_, by simp [results, Try.results40, go_sem, hr], rfl, hb2.obj, hb2.apart⟩

set_option maxHeartbeats 1600000 in
theorem add_refused (p sz : Nat) (l : List UInt8) (k : Nat) (fid : FuncId) (cap : Array Value) (hl : l.length = 256) (hfit : fitB k sz = true) (w : World) (hw : IsObj 88 w p l k) (hen : ∀ (args : Array Value) (W : World), (callFunc fid args).run Try.prog W = .ok (.enter fid args) W)
    (hfill : ∀ W : World, IsObj 88 W p l k → Apart p w W → Calls Try.prog fid (#[.slice (some ⟨p, k, none⟩) sz (256 - k)] ++ cap) W fun e W' => e = .returned (.bool false) ∧ IsObj 88 W' p l k ∧ Apart p W W') :
    Calls Try.prog 40 #[.pointer (some ⟨p, 0, none⟩), .int .i64 (sz : Int), .func (.func fid) #[] cap] w fun e w' => e = .returned (.bool false) ∧ IsObj 88 w' p l 0 ∧ Apart p w w' := by
  have hmf : ∀ (fn : Fn) (first cap : Array Value) (w : World), (Instr.makeFunc fn first cap).run Try.prog w = .ok (.func fn first cap) w := fun _ _ _ _ => rfl
  have hb := AddBox.start hw 51 4
  have hlt := hw.lt
  have hk : k ≠ 0 ∧ sz ≠ 0 ∧ k + sz ≤ 252 := of_decide_eq_true hfit
  obtain ⟨hk0, hs0, hks⟩ := hk
  have HF := Lib.hid hfill; clear hfill
  go_enter_defers Try.func40, Try.ntmps40
  go_wp2
  generalize (w.alloc (.cells #[.pointer (some ⟨p, 0, none⟩)] 51)).alloc (.cells #[.bool false] 4) = W at hb ⊢
  have c1 := hb.ptr
  have c2 := hb.res
  have f2 := hb.resf
  have c3 := hb.obj.pos hl
  have z1 : IntKind.i64.wrap ((k : Int) + (sz : Int)) = (k : Int) + (sz : Int) := IntWalk.i64_in _ (by omega)
  have z2 : ((k : Int) + (sz : Int)).toNat = k + sz := by omega
  have z3 : 0 ≤ (k : Int) + (sz : Int) := by omega
  have z4 : (k : Int) + (sz : Int) ≤ 256 := by omega
  have z5 : (k : Int) ≤ (k : Int) + (sz : Int) := by omega
  have z6 : ¬ 256 = k := by omega
  refine wp_region_still_tail 23 (by kernel_rfl) (by kernel_rfl) ?_
  simp only [List.take_succ_cons, List.take_zero, List.drop_succ_cons, List.drop_zero]
  repeat still_step
  still_call (fits_as k sz true hfit (by omega) (by omega) _)
  repeat still_step
  refine wpStill_nil ?_
  change wpList _ _ _ _ _ W.drew
  replace hb := hb.step hlt (W' := W.drew) hb.obj ⟨rfl, rfl, rfl, Nat.le_refl _, fun _ _ _ => rfl⟩
  clear c1 c2 c3 f2
  generalize W.drew = W2 at hb ⊢
  go_wp2_with ((with_reducible refine (HF.out W2 hb.obj hb.apart).mono ?_); rintro e W3 ⟨rfl, ho, ha⟩; clear HF; replace hb := hb.step hlt ho ha; have c1 := hb.ptr; have c2 := hb.res; have f2 := hb.resf; have c3 := hb.obj.pos hl; have f3 := hb.obj.frozen 256)
  replace hb := hb.setRes hlt false
  generalize W3.setCell ⟨w.heap.size + 1, 0, none⟩ (.bool false) = W4 at hb ⊢
  refine leaves_cons (f := 63) (args := #[.pointer (some ⟨w.heap.size + 1, 0, none⟩), .pointer (some ⟨w.heap.size, 0, none⟩)]) (by simp) (by simp [go_sem]) ?_
  refine (fin_no _ _ p _ .returning _ hb.res hb.ptr (hb.obj.pos hl) (hb.obj.frozen 256)).mono ?_
  rintro e u' w'' ⟨rfl, rfl, rfl⟩
  have ho := hb.obj.setPos hl 0
  have ha := hb.apart.set_ 256 (.int .i64 0)
  have hr := (hb.step hlt ho ((Apart.refl _ _).set_ 256 (.int .i64 0))).res
  generalize W4.setCell ⟨p, 256, none⟩ (.int .i64 0) = W5 at hr ho ha ⊢
  exact ⟨_, by simp [results, Try.results40, go_sem, hr], rfl, ho, ha⟩

end Go.Proofs.Ytmbmgncajfamiaa.Fld
