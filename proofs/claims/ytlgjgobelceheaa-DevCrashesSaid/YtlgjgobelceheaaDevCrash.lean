/-
  crash; Crash.
-/
import Derived.Test.YtlgjgobelceheaaDevKeep
import Derived.Deep.QuietTactic
import Derived.BigQuiet
namespace Go.Proofs.Ytlgjgobelceheaa.Dev
open Go.RowKit RowLaw

/-- what a crash is told to keep: indices and sectors, in memory -/
def KeepsAt (W : World) (b off : Nat) (xs : List (Nat × Nat)) : Prop := ∀ i (hi : i < xs.length), W.cell? ⟨b, off + i * 2, none⟩ = some (.int .u16 (xs[i].1 : Int)) ∧ W.cell? ⟨b, off + i * 2 + 1, none⟩ = some (.int .u8 (xs[i].2 : Int)) ∧ xs[i].1 < 65536 ∧ xs[i].2 < 256
def Keeps (W : World) (pa : Option Addr) (xs : List (Nat × Nat)) : Prop := xs = [] ∨ ∃ b off, pa = some ⟨b, off, none⟩ ∧ b < W.heap.size ∧ KeepsAt W b off xs
/-- .. that lie in no block of B -/
def Off (pa : Option Addr) (B : List Nat) : Prop := ∀ a, pa = some a → a.block ∉ B
theorem Keeps.turn {W W' : World} {pa : Option Addr} {xs : List (Nat × Nat)} {B : List Nat} (h : Keeps W pa xs) (ht : Turn B W W') (ho : xs ≠ [] → Off pa B) : Keeps W' pa xs := by
  by_cases hne : xs = []
  · exact .inl hne
  rcases h with rfl | ⟨b, off, rfl, hb, hc⟩
  · exact .inl rfl
  · refine .inr ⟨b, off, rfl, Nat.lt_of_lt_of_le hb ht.size, fun i hi => ?_⟩
    obtain ⟨h1, h2, h3⟩ := hc i hi
    exact ⟨(ht.cell (q := ⟨b, off + i * 2, none⟩) hb (ho hne ⟨b, off, none⟩ rfl)).trans h1, (ht.cell (q := ⟨b, off + i * 2 + 1, none⟩) hb (ho hne ⟨b, off, none⟩ rfl)).trans h2, h3⟩

/-- one step of a crash: what an index and its sectors keep -/
def keepG (pend : List (Nat × List UInt8)) (g : Nat → List UInt8) (k : Nat × Nat) : Nat → List UInt8 :=
  match pend[k.1]? with
  | some x => upd g x.1 (keepB (g x.1) x.2 k.2)
  | none => g
def crashG (pend : List (Nat × List UInt8)) (g : Nat → List UInt8) (xs : List (Nat × Nat)) : Nat → List UInt8 := xs.foldl (keepG pend) g
theorem crashG_snoc (pend : List (Nat × List UInt8)) (g : Nat → List UInt8) (xs : List (Nat × Nat)) (k : Nat) (hk : k < xs.length) : crashG pend g (xs.take (k + 1)) = keepG pend (crashG pend g (xs.take k)) xs[k] := by
  unfold crashG
  rw [List.take_add_one, List.getElem?_eq_getElem hk, List.foldl_append]
  rfl
def crashS (s : DS) (xs : List (Nat × Nat)) : DS := { s with g := crashG s.pend s.g xs, pend := [], left := -1, down := false }

theorem infoKeep : (Try.prog.info? 43).map (fun i => (i.zero, i.size)) = some (some (.agg #[.int .u16 0, .int .u8 0]), 2) := by kernel_rfl

/-- a load of cells that are an array's, out of the middle of a block, as a step of a still walk -/
theorem still_load_mid {P : Program} {o : Oper} {a : Act} {w : World} {K : Act → Prop} (ty : TypeId) (x : Operand) (ho : o.op = .load ty x) (b off : Nat) (hx : a.eval x = .pointer (some ⟨b, off, none⟩))
    (cs : List Value) (d : TypeDesc) (hc : w.rangeAt b off cs) (hu : P.underlying ty = some d) (hd : d.isRow = true) (hi : (P.info? ty).map (·.size) = some cs.length)
    (hk : K (a.put o.dst (.agg cs.toArray))) : o.still P a w K := by
  have hrun : (execOp a.eval o).run P w = .ok (.value (.agg cs.toArray)) w := by
    unfold execOp
    simp only [ho, hx, Instr.loadAt, Instr.sureAddr, Sem.run_bind, Sem.run_pure, Result.andThen_ok, run_loadVar_mid w b off ty cs d hc hu hd hi]
  unfold Oper.still
  rw [hrun, Oper.stillUpon_value]
  exact hk

set_option maxRecDepth 100000 in
set_option maxHeartbeats 3200000 in
theorem crash_any {w : World} {p : Nat} {B : List Nat} {s : DS} (hd : Dev w p B s) {pa : Option Addr} {cap : Nat} {xs : List (Nat × Nat)} (hxl : xs.length ≤ 9223372036854775807) (hx : Keeps w pa xs) (ho : xs ≠ [] → Off pa B) :
    Calls Try.prog 32 #[ptr p, .slice pa xs.length cap] w fun e w' => e = .returned (.bool true) ∧ Dev w' p B (crashS s xs) ∧ Turn B w w' := by
  obtain ⟨bm, pv, h⟩ := hd
  have hzk := (zero_of_info infoKeep).1
  obtain ⟨ao, cap2, hpv⟩ := h.pvIs
  obtain ⟨np, hnp⟩ : ∃ np, np = s.pend.length := ⟨_, rfl⟩
  rw [← hnp] at hpv
  have HNP := Lib.hid hnp; clear hnp
  have HPV := Lib.hid hpv; clear hpv
  obtain ⟨n, hn⟩ : ∃ n, n = xs.length := ⟨_, rfl⟩
  rw [← hn] at hxl
  rw [← hn]
  have HN := Lib.hid hn; clear hn
  have HX := Lib.hid hx; clear hx
  have HO := Lib.hid ho; clear ho
  go_enter Try.func32, Try.ntmps32
  unfold ptr
  go_wp2
  go_loopw [9] (fun i wr => ∃ k : Nat, k ≤ n ∧ i = .int .i64 k ∧ DevAt wr p bm pv B { s with g := crashG s.pend s.g (xs.take k) } ∧ Turn B w wr) (fun i _ => n - (intOf i).toNat)
  case atStart => exact ⟨0, Nat.zero_le _, rfl, h, Turn.refl _ _⟩
  case round =>
    obtain ⟨k, hk, rfl, hb, ht⟩ := hrel
    clear h
    by_cases hkn : k < n
    · have hkl : k < xs.length := by have := HN.out; omega
      have hK := HX.out.turn ht HO.out
      rcases hK with hK | ⟨b, off, rfl, hbb, hc⟩
      · rw [hK] at hkl; exact absurd hkl (by simp)
      obtain ⟨c1, c2, b1, b2⟩ := hc k hkl
      have hstep := crashG_snoc s.pend s.g xs k hkl
      have HS := Lib.hid hstep
      clear hc hstep
      generalize xs[k] = x at c1 c2 b1 b2 HS
      obtain ⟨xi, xm⟩ := x
      simp only at c1 c2 b1 b2
      have hbA := hb.alloc (.cells #[.int .u16 (xi : Int), .int .u8 (xm : Int)] 43)
      have htA := ht.alloc (.cells #[.int .u16 (xi : Int), .int .u8 (xm : Int)] 43)
      have hX := heap_alloc_new wr (.cells #[.int .u16 (xi : Int), .int .u8 (xm : Int)] 43)
      have d0 : (wr.alloc (.cells #[.int .u16 (xi : Int), .int .u8 (xm : Int)] 43)).cell? ⟨wr.heap.size, 0, none⟩ = some (.int .u16 (xi : Int)) := cell_of_row _ _ 0 _ _ _ hX
      have d1 : (wr.alloc (.cells #[.int .u16 (xi : Int), .int .u8 (xm : Int)] 43)).cell? ⟨wr.heap.size, 1, none⟩ = some (.int .u8 (xm : Int)) := cell_of_row _ _ 1 _ _ _ hX
      have tok : True := trivial
      clear hb ht hX
      go_wp2_with (have _t := tok; refine wpList_store_new rfl 43 _ _ rfl #[.int .u16 (xi : Int), .int .u8 (xm : Int)] _ _ rfl rfl (zero_of_info infoKeep).2 rfl (by simp [Value.oneCell']) ?_; clear _t tok)
      generalize wr.heap.size = q0 at d0 d1 ⊢
      generalize wr.alloc (.cells #[.int .u16 (xi : Int), .int .u8 (xm : Int)] 43) = W1 at hbA htA d0 d1 ⊢
      have c3 : W1.cell? ⟨p, 2, none⟩ = some pv := hbA.cell 2
      rw [HPV.out] at c3
      have z1 : IntKind.i64.wrap (xi : Int) = (xi : Int) := IntWalk.i64_in _ (by omega)
      have HB := Lib.hid hbA
      have HT := Lib.hid htA
      clear hbA htA c1 c2
      simp only [Act.put]
      refine wp_region_still_lit (by kernel_rfl) (by kernel_rfl) ?_
      repeat still_step
      refine wpStill_nil ?_
      change Exit.then _ _ Exit.normal _ W1.drew
      have e0 : W1.drew.cell? ⟨q0, 0, none⟩ = some (.int .u16 (xi : Int)) := d0
      have e1 : W1.drew.cell? ⟨q0, 1, none⟩ = some (.int .u8 (xm : Int)) := d1
      have hbA := HB.out.drew
      have htA := HT.out.drew
      have c4 : W1.drew.cell? ⟨p, 2, none⟩ = some (.slice ao np cap2) := c3
      clear HB HT d0 d1 c3
      generalize W1.drew = W2 at e0 e1 hbA htA c4 ⊢
      by_cases hin : xi < np
      · have hpl : xi < s.pend.length := by have := HNP.out; omega
        obtain ⟨gr, cap', he, hun⟩ := hbA.pendAt xi hpl
        have hr := hbA.rangePut he xi hpl
        obtain rfl : ao = some ⟨gr, 0, none⟩ := by have e := HPV.out; rw [he] at e; injection e with e; exact e.symm
        have hxa := hbA.okA _ (List.getElem_mem hpl)
        have hxl2 := hbA.okP _ (List.getElem_mem hpl)
        have hg1 : s.pend[xi]? = some s.pend[xi] := List.getElem?_eq_getElem hpl
        clear he hun
        simp only at hr hxa hxl2 hg1
        generalize s.pend[xi] = x at hr hxa hxl2 hg1
        obtain ⟨xa, xl⟩ := x
        simp only at hxa hxl2
        have HG := Lib.hid hg1
        have hsp := sizePut (xa, xl) hxl2
        have HB := Lib.hid hbA
        have HT := Lib.hid htA
        clear hg1 hbA htA hpl
        have i1 : (xi : Int) < (np : Int) := by omega
        go_wp2_with fail
        refine wp_region_still_tail 11 (by kernel_rfl) (by kernel_rfl) ?_
        simp only [List.take_succ_cons, List.take_zero, List.drop_succ_cons, List.drop_zero]
        have HR := Lib.hid hr
        have HSP := Lib.hid hsp
        clear hr hsp
        still_step
        still_step
        still_step
        still_step
        still_step
        still_step
        still_step
        still_step
        refine wpStill_step (fun K hK => ?_)
        rw [if_pos (by rfl)]
        refine still_load_mid 72 _ rfl gr (xi * 257) rfl (putCells (xa, xl)) _ HR.out Try.underlying72 rfl HSP.out ?_
        refine hK _ ?_
        clear hK K
        still_step
        still_step
        refine wpStill_nil ?_
        change wpList _ _ _ _ _ W2.drew
        have hbB := HB.out.drew
        have htB := HT.out.drew
        clear HB HT HR e0 e1 c4
        generalize W2.drew = W3 at hbB htB ⊢
        go_wp2_with fail
        refine (keep_any hbB hxa hxl2 b2).mono ?_
        rintro e W4 ⟨rfl, h4, ht4⟩
        have hb5 : DevAt W4 p bm pv B { s with g := crashG s.pend s.g (xs.take (k + 1)) } := by
          rw [HS.out, keepG]
          simp only [HG.out]
          exact h4
        have ht5 := htB.trans ht4
        clear h4 ht4 hbB htB
        go_wp2_with fail
        go_roundw
        case rel => exact ⟨k + 1, by omega, by go_num, hb5, ht5⟩
        case measure => simp [intOf]; omega
      · have hg1 : s.pend[xi]? = none := List.getElem?_eq_none (by have := HNP.out; omega)
        have hb2 : DevAt W2 p bm pv B { s with g := crashG s.pend s.g (xs.take (k + 1)) } := by
          rw [HS.out, keepG]
          simp only [hg1]
          exact hbA
        clear hbA hg1
        have hd : decide (xi < np) = false := decide_eq_false hin
        go_wp2_with fail
        go_roundw
        case rel => exact ⟨k + 1, by omega, by go_num, hb2, htA⟩
        case measure => simp [intOf]; omega
    · have hkk : k = n := by omega
      subst hkk
      have f2 := hb.frozen 2
      have c2 := hb.cell 2
      have e1 : xs.take k = xs := by rw [HN.out]; exact List.take_length
      rw [e1] at hb
      have hs := hb.setField 2 (.slice none 0 0) { s with g := crashG s.pend s.g xs, pend := [] } (.slice none 0 0) rfl rfl rfl (.inr ⟨rfl, rfl⟩) hb.okL
      have c3 := hs.cell 3
      have f3 := hs.frozen 3
      have hs2 := hs.setField 3 (.int .i64 (-1)) { s with g := crashG s.pend s.g xs, pend := [], left := -1 } (.slice none 0 0) rfl rfl rfl (.inl ⟨rfl, rfl⟩) ⟨by show (-1 : Int) ≤ -1; omega, by show (-1 : Int) < _; omega⟩
      have c4 := hs2.cell 4
      have f4 := hs2.frozen 4
      have hs3 := hs2.setField 4 (.bool false) (crashS s xs) (.slice none 0 0) rfl rfl rfl (.inl ⟨rfl, rfl⟩) ⟨by show (-1 : Int) ≤ -1; omega, by show (-1 : Int) < _; omega⟩
      have ht3 := ((ht.setCell ⟨p, 2, none⟩ (.slice none 0 0) (.inl hb.inP)).setCell ⟨p, 3, none⟩ (.int .i64 (-1)) (.inl hb.inP)).setCell ⟨p, 4, none⟩ (.bool false) (.inl hb.inP)
      clear hb ht hs hs2
      go_wp2
      go_ret
      exact ⟨rfl, ⟨bm, _, hs3⟩, ht3⟩

theorem enterCrash1 : ∀ (args : Array Value) (W : World), (callFunc 31 args).run Try.prog W = .ok (.enter 31 args) W := fun _ _ => by simp [go_sem]

set_option maxHeartbeats 800000 in
theorem crash1_any {w : World} {p q : Nat} {B : List Nat} {s : DS} (hd : Dev w p B s) {pa : Option Addr} {cap : Nat} {xs : List (Nat × Nat)} (hxl : xs.length ≤ 9223372036854775807) (hx : Keeps w pa xs) (ho : xs ≠ [] → Off pa B) (hc : w.cell? ⟨q, 0, none⟩ = some (.slice pa xs.length cap)) :
    Calls Try.prog 31 #[ptr p, .pointer (some ⟨q, 0, none⟩)] w fun e w' => e = .returned (.bool true) ∧ Dev w' p B (crashS s xs) ∧ Turn B w w' := by
  have HX := Lib.hid hx
  have HO := Lib.hid ho
  clear hx ho
  go_enter Try.func31, Try.ntmps31
  go_wp2_with fail
  refine (crash_any hd hxl HX.out HO.out).mono ?_
  rintro e W ⟨rfl, h1, h2⟩
  go_wp2
  go_ret
  exact ⟨rfl, h1, h2⟩

set_option maxRecDepth 100000 in
set_option maxHeartbeats 1600000 in
theorem Crash_any {w : World} {p : Nat} {B : List Nat} {s : DS} (hd : Dev w p B s) {pa : Option Addr} {cap : Nat} {xs : List (Nat × Nat)} (hxl : xs.length ≤ 9223372036854775807) (hx : Keeps w pa xs) (ho : xs ≠ [] → Off pa B) :
    Calls Try.prog 13 #[ptr p, .slice pa xs.length cap] w fun e w' => e = .returned (.int .i64 0) ∧ Dev w' p B (crashS s xs) ∧ Turn B w w' := by
  have hzs := (zero_of_info infoStep).1
  have hmf : ∀ (fn : Fn) (first cap : Array Value) (w : World), (Instr.makeFunc fn first cap).run Try.prog w = .ok (.func fn first cap) w := fun _ _ _ _ => rfl
  have HO := Lib.hid ho
  go_enter Try.func13, Try.ntmps13
  go_wp2_with fail
  have hs0 : Step B w ((w.alloc (.cells #[.slice pa (xs.length : Nat) cap] 23)).alloc (.cells #[.func (.func 27) #[] #[], .int .i64 1, .func (.func 31) #[] #[.pointer (some ⟨w.heap.size, 0, none⟩)], .int .i64 0] 76)) B := Step.of_turn (Turn.alloc (Turn.alloc (Turn.refl _ _) _) _)
  have hb0 : Below w.heap.size w ((w.alloc (.cells #[.slice pa (xs.length : Nat) cap] 23)).alloc (.cells #[.func (.func 27) #[] #[], .int .i64 1, .func (.func 31) #[] #[.pointer (some ⟨w.heap.size, 0, none⟩)], .int .i64 0] 76)) := ((Below.refl _ _).alloc (Nat.le_refl _) _).alloc (by simp) _
  have hx1 : Keeps ((w.alloc (.cells #[.slice pa (xs.length : Nat) cap] 23)).alloc (.cells #[.func (.func 27) #[] #[], .int .i64 1, .func (.func 31) #[] #[.pointer (some ⟨w.heap.size, 0, none⟩)], .int .i64 0] 76)) pa xs := hx.turn (Turn.of_below (B := []) hb0) (fun _ _ _ => by simp)
  obtain ⟨x0, x1, xs_⟩ := heap2 w (.cells #[.slice pa (xs.length : Nat) cap] 23) (.cells #[.func (.func 27) #[] #[], .int .i64 1, .func (.func 31) #[] #[.pointer (some ⟨w.heap.size, 0, none⟩)], .int .i64 0] 76)
  have hlt := hd.ltB
  replace hd := hd.turn (C := []) (Turn.mono (C := []) (B := []) (Turn.alloc (Turn.alloc (Turn.refl [] _) (.cells #[.slice pa (xs.length : Nat) cap] 23)) (.cells #[.func (.func 27) #[] #[], .int .i64 1, .func (.func 31) #[] #[.pointer (some ⟨w.heap.size, 0, none⟩)], .int .i64 0] 76)) (fun _ h => h)) (by simp)
  generalize (w.alloc (.cells #[.slice pa (xs.length : Nat) cap] 23)).alloc (.cells #[.func (.func 27) #[] #[], .int .i64 1, .func (.func 31) #[] #[.pointer (some ⟨w.heap.size, 0, none⟩)], .int .i64 0] 76) = W1 at hd hs0 hb0 hx1 x0 x1 xs_ ⊢
  obtain ⟨q0, hq0⟩ : ∃ z, z = w.heap.size := ⟨_, rfl⟩
  obtain ⟨sb, hsb⟩ : ∃ z, z = q0 + 1 := ⟨_, rfl⟩
  simp only [← hq0, ← hsb] at x0 x1 ⊢
  have n0 : q0 ∉ B := fun hm => by have := hlt _ hm; omega
  have ns : sb ∉ B := fun hm => by have := hlt _ hm; omega
  have l0 : q0 < W1.heap.size := by omega
  have ls : sb < W1.heap.size := by omega
  have c0 := cell_of_row W1 q0 0 _ _ _ x0
  refine (run_any (ptr p) sb 2 (by omega) (fun k => match k with | 0 => 27 | _ => 31)
    (fun k => match k with | 0 => #[] | _ => #[.pointer (some ⟨q0, 0, none⟩)]) (fun k => match k with | 0 => 1 | _ => 0)
    (fun k => match k with | 0 => true | _ => true) (fun k W => Turn B W1 W ∧ Dev W p B (if k < 2 then s else crashS s xs)) W1
    (fun k hk => match k, hk with
      | 0, _ => enterExists
      | 1, _ => enterCrash1)
    (fun k W hS j hj => ⟨(hS.1.cell (q := ⟨sb, j * 2, none⟩) ls ns).trans (match j, hj with | 0, _ => cell_of_row W1 sb 0 _ _ _ x1 | 1, _ => cell_of_row W1 sb 2 _ _ _ x1), (hS.1.cell (q := ⟨sb, j * 2 + 1, none⟩) ls ns).trans (match j, hj with | 0, _ => cell_of_row W1 sb 1 _ _ _ x1 | 1, _ => cell_of_row W1 sb 3 _ _ _ x1)⟩)
    (fun k hk => match k, hk with
      | 0, _ => fun _ W o hS => (exists_yes (hS.2.alloc o)).mono fun _ _ ⟨he, hw⟩ => by subst hw; exact ⟨he, ⟨hS.1.alloc o, hS.2.alloc o⟩, heap_alloc_new W o⟩
      | 1, _ => fun _ W o hS => (crash1_any (hS.2.alloc o) hxl (hx1.turn (hS.1.alloc o) HO.out) HO.out (((hS.1.alloc o).cell (q := ⟨q0, 0, none⟩) l0 n0).trans c0)).mono fun _ W' ⟨he, hd2, ht⟩ =>
          ⟨he, ⟨(hS.1.alloc o).trans ht, hd2⟩, (ht.block _ (by simp) (fun hm => by have := hS.2.ltB _ hm; omega)).trans (heap_alloc_new W o)⟩)
    ⟨Turn.refl _ _, hd⟩).mono ?_
  rintro e W2 ⟨m, z, rfl, hend, ht, hd2⟩
  obtain ⟨rfl, rfl⟩ := runEnd_all hend (fun k hk => by
    have hk' : k = 0 ∨ k = 1 := by omega
    rcases hk' with rfl | rfl <;> rfl)
  have ht2 : Turn B w W2 := (Turn.of_below hb0).trans ht
  replace hd2 : Dev W2 p B (crashS s xs) := hd2
  clear hend ht hd hs0 hb0 hx1 x0 x1 c0 xs_ l0 ls hsb hq0 hx
  go_wp2
  go_ret
  exact ⟨rfl, hd2, ht2⟩

end Go.Proofs.Ytlgjgobelceheaa.Dev
