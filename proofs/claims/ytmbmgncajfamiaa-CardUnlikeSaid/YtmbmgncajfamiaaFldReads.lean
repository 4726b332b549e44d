/-
  The walks of the reader's generic read, at uint64 and at string.
-/
import Derived.Test.YtmbmgncajfamiaaFldRead
namespace Go.Proofs.Ytmbmgncajfamiaa.Fld
open Go.RowKit RowLaw Crc
set_option maxRecDepth 100000

/-! read[uint64] -/
theorem rfin_ok_uint64 (q r : Addr) (u : FrameMode) (w : World) (hq : w.cell? q = some (.bool true)) :
    CallsD Try.prog 70 #[.pointer (some q), .pointer (some r)] u w fun e u' w' => u' = u ∧ e = .returned (.tuple #[]) ∧ w' = w := by
  go_enter_d Try.func70, Try.ntmps70
  go_wp2
  go_end0
  exact ⟨rfl, rfl⟩
theorem rfin_no_uint64 (q r : Addr) (p : Nat) (x : Value) (u : FrameMode) (w : World) (hq : w.cell? q = some (.bool false)) (hr : w.cell? r = some (.pointer (some ⟨p, 0, none⟩))) (hc : w.cell? ⟨p, 256, none⟩ = some x) (hf : w.frozen? ⟨p, 256, none⟩ = false) :
    CallsD Try.prog 70 #[.pointer (some q), .pointer (some r)] u w fun e u' w' => u' = u ∧ e = .returned (.tuple #[]) ∧ w' = w.setCell ⟨p, 256, none⟩ (.int .i64 0) := by
  go_enter_d Try.func70, Try.ntmps70
  go_wp2
  go_end0
  exact ⟨rfl, rfl⟩

set_option maxHeartbeats 800000 in
theorem read_nil_uint64 (sz : Int) (fv : Value) (w : World) :
    Calls Try.prog 67 #[.pointer none, .int .i64 sz, fv] w fun e w' => e = .returned (.tuple #[.int .u64 0, .bool false]) ∧ Below w.heap.size w w' := by
  have hmf : ∀ (fn : Fn) (first cap : Array Value) (w : World), (Instr.makeFunc fn first cap).run Try.prog w = .ok (.func fn first cap) w := fun _ _ _ _ => rfl
  go_enter_defers Try.func67, Try.ntmps67
  go_wp2
  simp [bodyPostD, Leaves, results, Try.results67, go_sem]
  exact ((Below.refl _ _).alloc (Nat.le_refl _) _).alloc (by simp) _

set_option maxHeartbeats 800000 in
theorem read_no_uint64 (p sz : Nat) (l : List UInt8) (k : Nat) (fv : Value) (hl : l.length = 256) (hk : k ≤ 252) (hs : sz ≤ 252) (hfit : fitB k sz = false) (w : World) (hw : IsObj 95 w p l k) :
    Calls Try.prog 67 #[.pointer (some ⟨p, 0, none⟩), .int .i64 (sz : Int), fv] w fun e w' => e = .returned (.tuple #[.int .u64 0, .bool false]) ∧ IsObj 95 w' p l 0 ∧ Apart p w w' := by
  have hmf : ∀ (fn : Fn) (first cap : Array Value) (w : World), (Instr.makeFunc fn first cap).run Try.prog w = .ok (.func fn first cap) w := fun _ _ _ _ => rfl
  have hb := AddBox.start hw 69 4
  have hlt := hw.lt
  have c3 := hb.obj.pos hl
  have c1 := hb.ptr
  go_enter_defers Try.func67, Try.ntmps67
  go_wp2_with (go_at_call 64; (with_reducible refine (fits_as k sz false hfit hk hs _).mono ?_); rintro e w' ⟨rfl, rfl⟩)
  clear c1 c3
  generalize (w.alloc (.cells #[.pointer (some ⟨p, 0, none⟩)] 69)).alloc (.cells #[.bool false] 4) = W4 at hb ⊢
  refine leaves_cons (f := 70) (args := #[.pointer (some ⟨w.heap.size + 1, 0, none⟩), .pointer (some ⟨w.heap.size, 0, none⟩)]) (by simp) (by simp [go_sem]) ?_
  refine (rfin_no_uint64 _ _ p _ .returning _ hb.res hb.ptr (hb.obj.pos hl) (hb.obj.frozen 256)).mono ?_
  rintro e u' w'' ⟨rfl, rfl, rfl⟩
  have ho := hb.obj.setPos hl 0
  have ha := hb.apart.set_ 256 (.int .i64 0)
  have hr := (hb.step hlt ho ((Apart.refl _ _).set_ 256 (.int .i64 0))).res
  generalize W4.setCell ⟨p, 256, none⟩ (.int .i64 0) = W5 at hr ho ha ⊢
  exact ⟨_, by simp [results, Try.results67, go_sem, hr], rfl, ho, ha⟩

set_option maxHeartbeats 1600000 in
theorem read_yes_uint64 (p sz : Nat) (l : List UInt8) (k : Nat) (fid : FuncId) (v : Value) (ok : Bool) (hl : l.length = 256) (hfit : fitB k sz = true) (w : World) (hw : IsObj 95 w p l k) (hen : ∀ (args : Array Value) (W : World), (callFunc fid args).run Try.prog W = .ok (.enter fid args) W)
    (hval : ∀ W : World, IsObj 95 W p l (k + sz) → Calls Try.prog fid #[.slice (some ⟨p, k, none⟩) sz (256 - k)] W fun e W' => e = .returned (.tuple #[v, .bool ok]) ∧ Below W.heap.size W W') :
    Calls Try.prog 67 #[.pointer (some ⟨p, 0, none⟩), .int .i64 (sz : Int), .func (.func fid) #[] #[]] w fun e w' => e = .returned (.tuple #[v, .bool ok]) ∧ IsObj 95 w' p l (if ok = true then k + sz else 0) ∧ Apart p w w' := by
  have hmf : ∀ (fn : Fn) (first cap : Array Value) (w : World), (Instr.makeFunc fn first cap).run Try.prog w = .ok (.func fn first cap) w := fun _ _ _ _ => rfl
  have hb := AddBox.start hw 69 4
  have hlt := hw.lt
  have hk : k ≠ 0 ∧ sz ≠ 0 ∧ k + sz ≤ 252 := of_decide_eq_true hfit
  obtain ⟨hk0, hs0, hks⟩ := hk
  have c3 := hb.obj.pos hl
  have c1 := hb.ptr
  have HF := Lib.hid hval; clear hval
  go_enter_defers Try.func67, Try.ntmps67
  go_wp2_with (go_at_call 64; (with_reducible refine (fits_as k sz true hfit (by omega) (by omega) _).mono ?_); rintro e w' ⟨rfl, rfl⟩)
  clear c1 c3
  generalize (w.alloc (.cells #[.pointer (some ⟨p, 0, none⟩)] 69)).alloc (.cells #[.bool false] 4) = W at hb ⊢
  have c1 := hb.ptr
  have c2 := hb.res
  have f2 := hb.resf
  have c3 := hb.obj.pos hl
  have z1 : IntKind.i64.wrap ((k : Int) + (sz : Int)) = (k : Int) + (sz : Int) := IntWalk.i64_in _ (by omega)
  have z2 : ((k : Int) + (sz : Int)).toNat = k + sz := by omega
  have z3 : 0 ≤ (k : Int) + (sz : Int) := by omega
  have z4 : (k : Int) + (sz : Int) ≤ 256 := by omega
  have z5 : (k : Int) ≤ (k : Int) + (sz : Int) := by omega
  have z6 : ¬ 256 = k := by omega
  go_quiet (fail)
  clear c1 c2 c3 f2
  replace hb := hb.step hlt (W' := W.drewN nq) hb.obj ⟨rfl, rfl, rfl, Nat.le_refl _, fun _ _ _ => rfl⟩
  generalize W.drewN nq = W2 at hb ⊢
  have c1 := hb.ptr
  have c3 := hb.obj.pos hl
  have f3 := hb.obj.frozen 256
  have ho := hb.obj.setPos hl (k + sz)
  have hb2 := hb.step hlt ho ((Apart.refl _ _).set_ 256 _)
  rw [show (((k + sz : Nat) : Int)) = (k : Int) + (sz : Int) from by omega] at hb2
  cases ok
  · go_wp2_with (generalize W2.setCell ⟨p, 256, none⟩ (.int .i64 ((k : Int) + (sz : Int))) = W3 at hb2 ⊢; (with_reducible refine (HF.out W3 hb2.obj).mono ?_); rintro e W4 ⟨rfl, hbel⟩; clear HF c1 c3 f3; replace hb2 := hb2.step hlt (hb2.obj.below hbel hb2.obj.lt) (Apart.of_below hbel); have c2 := hb2.res; have f2 := hb2.resf)
    replace hb2 := hb2.setRes hlt false
    generalize W4.setCell ⟨w.heap.size + 1, 0, none⟩ (.bool false) = W5 at hb2 ⊢
    refine leaves_cons (f := 70) (args := #[.pointer (some ⟨w.heap.size + 1, 0, none⟩), .pointer (some ⟨w.heap.size, 0, none⟩)]) (by simp) (by simp [go_sem]) ?_
    refine (rfin_no_uint64 _ _ p _ .returning _ hb2.res hb2.ptr (hb2.obj.pos hl) (hb2.obj.frozen 256)).mono ?_
    rintro e u' w'' ⟨rfl, rfl, rfl⟩
    have ho3 := hb2.obj.setPos hl 0
    have ha3 := hb2.apart.set_ 256 (.int .i64 0)
    have hr := (hb2.step hlt ho3 ((Apart.refl _ _).set_ 256 (.int .i64 0))).res
    generalize W5.setCell ⟨p, 256, none⟩ (.int .i64 0) = W6 at hr ho3 ha3 ⊢
    exact ⟨_, by simp [results, Try.results67, go_sem, hr], rfl, ho3, ha3⟩
  · go_wp2_with (generalize W2.setCell ⟨p, 256, none⟩ (.int .i64 ((k : Int) + (sz : Int))) = W3 at hb2 ⊢; (with_reducible refine (HF.out W3 hb2.obj).mono ?_); rintro e W4 ⟨rfl, hbel⟩; clear HF c1 c3 f3; replace hb2 := hb2.step hlt (hb2.obj.below hbel hb2.obj.lt) (Apart.of_below hbel); have c2 := hb2.res; have f2 := hb2.resf)
    replace hb2 := hb2.setRes hlt true
    generalize W4.setCell ⟨w.heap.size + 1, 0, none⟩ (.bool true) = W5 at hb2 ⊢
    refine leaves_cons (f := 70) (args := #[.pointer (some ⟨w.heap.size + 1, 0, none⟩), .pointer (some ⟨w.heap.size, 0, none⟩)]) (by simp) (by simp [go_sem]) ?_
    refine (rfin_ok_uint64 _ _ .returning _ hb2.res).mono ?_
    rintro e u' w'' ⟨rfl, rfl, rfl⟩
    have hr := hb2.res
    exact ⟨_, by simp [results, Try.results67, go_sem, hr], rfl, hb2.obj, hb2.apart⟩

/-! read[string] -/
theorem rfin_ok_string (q r : Addr) (u : FrameMode) (w : World) (hq : w.cell? q = some (.bool true)) :
    CallsD Try.prog 66 #[.pointer (some q), .pointer (some r)] u w fun e u' w' => u' = u ∧ e = .returned (.tuple #[]) ∧ w' = w := by
  go_enter_d Try.func66, Try.ntmps66
  go_wp2
  go_end0
  exact ⟨rfl, rfl⟩
theorem rfin_no_string (q r : Addr) (p : Nat) (x : Value) (u : FrameMode) (w : World) (hq : w.cell? q = some (.bool false)) (hr : w.cell? r = some (.pointer (some ⟨p, 0, none⟩))) (hc : w.cell? ⟨p, 256, none⟩ = some x) (hf : w.frozen? ⟨p, 256, none⟩ = false) :
    CallsD Try.prog 66 #[.pointer (some q), .pointer (some r)] u w fun e u' w' => u' = u ∧ e = .returned (.tuple #[]) ∧ w' = w.setCell ⟨p, 256, none⟩ (.int .i64 0) := by
  go_enter_d Try.func66, Try.ntmps66
  go_wp2
  go_end0
  exact ⟨rfl, rfl⟩

set_option maxHeartbeats 800000 in
theorem read_nil_string (sz : Int) (fv : Value) (w : World) :
    Calls Try.prog 55 #[.pointer none, .int .i64 sz, fv] w fun e w' => e = .returned (.tuple #[.string ⟨#[]⟩, .bool false]) ∧ Below w.heap.size w w' := by
  have hmf : ∀ (fn : Fn) (first cap : Array Value) (w : World), (Instr.makeFunc fn first cap).run Try.prog w = .ok (.func fn first cap) w := fun _ _ _ _ => rfl
  go_enter_defers Try.func55, Try.ntmps55
  go_wp2
  simp [bodyPostD, Leaves, results, Try.results55, go_sem]
  exact ((Below.refl _ _).alloc (Nat.le_refl _) _).alloc (by simp) _

set_option maxHeartbeats 800000 in
theorem read_no_string (p sz : Nat) (l : List UInt8) (k : Nat) (fv : Value) (hl : l.length = 256) (hk : k ≤ 252) (hs : sz ≤ 252) (hfit : fitB k sz = false) (w : World) (hw : IsObj 95 w p l k) :
    Calls Try.prog 55 #[.pointer (some ⟨p, 0, none⟩), .int .i64 (sz : Int), fv] w fun e w' => e = .returned (.tuple #[.string ⟨#[]⟩, .bool false]) ∧ IsObj 95 w' p l 0 ∧ Apart p w w' := by
  have hmf : ∀ (fn : Fn) (first cap : Array Value) (w : World), (Instr.makeFunc fn first cap).run Try.prog w = .ok (.func fn first cap) w := fun _ _ _ _ => rfl
  have hb := AddBox.start hw 69 4
  have hlt := hw.lt
  have c3 := hb.obj.pos hl
  have c1 := hb.ptr
  go_enter_defers Try.func55, Try.ntmps55
  go_wp2_with (go_at_call 64; (with_reducible refine (fits_as k sz false hfit hk hs _).mono ?_); rintro e w' ⟨rfl, rfl⟩)
  clear c1 c3
  generalize (w.alloc (.cells #[.pointer (some ⟨p, 0, none⟩)] 69)).alloc (.cells #[.bool false] 4) = W4 at hb ⊢
  refine leaves_cons (f := 66) (args := #[.pointer (some ⟨w.heap.size + 1, 0, none⟩), .pointer (some ⟨w.heap.size, 0, none⟩)]) (by simp) (by simp [go_sem]) ?_
  refine (rfin_no_string _ _ p _ .returning _ hb.res hb.ptr (hb.obj.pos hl) (hb.obj.frozen 256)).mono ?_
  rintro e u' w'' ⟨rfl, rfl, rfl⟩
  have ho := hb.obj.setPos hl 0
  have ha := hb.apart.set_ 256 (.int .i64 0)
  have hr := (hb.step hlt ho ((Apart.refl _ _).set_ 256 (.int .i64 0))).res
  generalize W4.setCell ⟨p, 256, none⟩ (.int .i64 0) = W5 at hr ho ha ⊢
  exact ⟨_, by simp [results, Try.results55, go_sem, hr], rfl, ho, ha⟩

set_option maxHeartbeats 1600000 in
theorem read_yes_string (p sz : Nat) (l : List UInt8) (k : Nat) (fid : FuncId) (v : Value) (ok : Bool) (hl : l.length = 256) (hfit : fitB k sz = true) (w : World) (hw : IsObj 95 w p l k) (hen : ∀ (args : Array Value) (W : World), (callFunc fid args).run Try.prog W = .ok (.enter fid args) W)
    (hval : ∀ W : World, IsObj 95 W p l (k + sz) → Calls Try.prog fid #[.slice (some ⟨p, k, none⟩) sz (256 - k)] W fun e W' => e = .returned (.tuple #[v, .bool ok]) ∧ Below W.heap.size W W') :
    Calls Try.prog 55 #[.pointer (some ⟨p, 0, none⟩), .int .i64 (sz : Int), .func (.func fid) #[] #[]] w fun e w' => e = .returned (.tuple #[v, .bool ok]) ∧ IsObj 95 w' p l (if ok = true then k + sz else 0) ∧ Apart p w w' := by
  have hmf : ∀ (fn : Fn) (first cap : Array Value) (w : World), (Instr.makeFunc fn first cap).run Try.prog w = .ok (.func fn first cap) w := fun _ _ _ _ => rfl
  have hb := AddBox.start hw 69 4
  have hlt := hw.lt
  have hk : k ≠ 0 ∧ sz ≠ 0 ∧ k + sz ≤ 252 := of_decide_eq_true hfit
  obtain ⟨hk0, hs0, hks⟩ := hk
  have c3 := hb.obj.pos hl
  have c1 := hb.ptr
  have HF := Lib.hid hval; clear hval
  go_enter_defers Try.func55, Try.ntmps55
  go_wp2_with (go_at_call 64; (with_reducible refine (fits_as k sz true hfit (by omega) (by omega) _).mono ?_); rintro e w' ⟨rfl, rfl⟩)
  clear c1 c3
  generalize (w.alloc (.cells #[.pointer (some ⟨p, 0, none⟩)] 69)).alloc (.cells #[.bool false] 4) = W at hb ⊢
  have c1 := hb.ptr
  have c2 := hb.res
  have f2 := hb.resf
  have c3 := hb.obj.pos hl
  have z1 : IntKind.i64.wrap ((k : Int) + (sz : Int)) = (k : Int) + (sz : Int) := IntWalk.i64_in _ (by omega)
  have z2 : ((k : Int) + (sz : Int)).toNat = k + sz := by omega
  have z3 : 0 ≤ (k : Int) + (sz : Int) := by omega
  have z4 : (k : Int) + (sz : Int) ≤ 256 := by omega
  have z5 : (k : Int) ≤ (k : Int) + (sz : Int) := by omega
  have z6 : ¬ 256 = k := by omega
  go_quiet (fail)
  clear c1 c2 c3 f2
  replace hb := hb.step hlt (W' := W.drewN nq) hb.obj ⟨rfl, rfl, rfl, Nat.le_refl _, fun _ _ _ => rfl⟩
  generalize W.drewN nq = W2 at hb ⊢
  have c1 := hb.ptr
  have c3 := hb.obj.pos hl
  have f3 := hb.obj.frozen 256
  have ho := hb.obj.setPos hl (k + sz)
  have hb2 := hb.step hlt ho ((Apart.refl _ _).set_ 256 _)
  rw [show (((k + sz : Nat) : Int)) = (k : Int) + (sz : Int) from by omega] at hb2
  cases ok
  · go_wp2_with (generalize W2.setCell ⟨p, 256, none⟩ (.int .i64 ((k : Int) + (sz : Int))) = W3 at hb2 ⊢; (with_reducible refine (HF.out W3 hb2.obj).mono ?_); rintro e W4 ⟨rfl, hbel⟩; clear HF c1 c3 f3; replace hb2 := hb2.step hlt (hb2.obj.below hbel hb2.obj.lt) (Apart.of_below hbel); have c2 := hb2.res; have f2 := hb2.resf)
    replace hb2 := hb2.setRes hlt false
    generalize W4.setCell ⟨w.heap.size + 1, 0, none⟩ (.bool false) = W5 at hb2 ⊢
    refine leaves_cons (f := 66) (args := #[.pointer (some ⟨w.heap.size + 1, 0, none⟩), .pointer (some ⟨w.heap.size, 0, none⟩)]) (by simp) (by simp [go_sem]) ?_
    refine (rfin_no_string _ _ p _ .returning _ hb2.res hb2.ptr (hb2.obj.pos hl) (hb2.obj.frozen 256)).mono ?_
    rintro e u' w'' ⟨rfl, rfl, rfl⟩
    have ho3 := hb2.obj.setPos hl 0
    have ha3 := hb2.apart.set_ 256 (.int .i64 0)
    have hr := (hb2.step hlt ho3 ((Apart.refl _ _).set_ 256 (.int .i64 0))).res
    generalize W5.setCell ⟨p, 256, none⟩ (.int .i64 0) = W6 at hr ho3 ha3 ⊢
    exact ⟨_, by simp [results, Try.results55, go_sem, hr], rfl, ho3, ha3⟩
  · go_wp2_with (generalize W2.setCell ⟨p, 256, none⟩ (.int .i64 ((k : Int) + (sz : Int))) = W3 at hb2 ⊢; (with_reducible refine (HF.out W3 hb2.obj).mono ?_); rintro e W4 ⟨rfl, hbel⟩; clear HF c1 c3 f3; replace hb2 := hb2.step hlt (hb2.obj.below hbel hb2.obj.lt) (Apart.of_below hbel); have c2 := hb2.res; have f2 := hb2.resf)
    replace hb2 := hb2.setRes hlt true
    generalize W4.setCell ⟨w.heap.size + 1, 0, none⟩ (.bool true) = W5 at hb2 ⊢
    refine leaves_cons (f := 66) (args := #[.pointer (some ⟨w.heap.size + 1, 0, none⟩), .pointer (some ⟨w.heap.size, 0, none⟩)]) (by simp) (by simp [go_sem]) ?_
    refine (rfin_ok_string _ _ .returning _ hb2.res).mono ?_
    rintro e u' w'' ⟨rfl, rfl, rfl⟩
    have hr := hb2.res
    exact ⟨_, by simp [results, Try.results55, go_sem, hr], rfl, hb2.obj, hb2.apart⟩

end Go.Proofs.Ytmbmgncajfamiaa.Fld
