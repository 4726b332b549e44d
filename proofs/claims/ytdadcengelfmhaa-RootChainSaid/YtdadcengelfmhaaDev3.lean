/-
  Dev3: DevCrash, DevFull, DevLive, DevHead.
-/
import Derived.Test.YtdadcengelfmhaaDev2
import Derived.Deep.QuietTactic
import Derived.BigQuiet
/-
  crash; Crash.
-/
namespace Go.Proofs.Ytdadcengelfmhaa.Dev
open Go.RowKit RowLaw
set_option maxRecDepth 100000

/-- what a crash is told to keep: indices and sectors, in memory -/
def KeepsAt (W : World) (b off : Nat) (xs : List (Nat × Nat)) : Prop := ∀ i (hi : i < xs.length), W.cell? ⟨b, off + i * 2, none⟩ = some (.int .u16 (xs[i].1 : Int)) ∧ W.cell? ⟨b, off + i * 2 + 1, none⟩ = some (.int .u8 (xs[i].2 : Int)) ∧ xs[i].1 < 65536 ∧ xs[i].2 < 256
def Keeps (W : World) (pa : Option Addr) (xs : List (Nat × Nat)) : Prop := xs = [] ∨ ∃ b off, pa = some ⟨b, off, none⟩ ∧ b < W.heap.size ∧ KeepsAt W b off xs
/-- .. that lie in no block of B -/
def Off (pa : Option Addr) (B : List Nat) : Prop := ∀ a, pa = some a → a.block ∉ B
theorem Keeps.turn {W W' : World} {pa : Option Addr} {xs : List (Nat × Nat)} {B : List Nat} (h : Keeps W pa xs) (ht : Turn B W W') (ho : xs ≠ [] → Off pa B) : Keeps W' pa xs := by
  by_cases hne : xs = []
  · exact .inl hne
  rcases h with rfl | ⟨b, off, rfl, hb, hc⟩
  · exact .inl rfl
  · refine .inr ⟨b, off, rfl, Nat.lt_of_lt_of_le hb ht.size, fun i hi => ?_⟩
    obtain ⟨h1, h2, h3⟩ := hc i hi
    exact ⟨(ht.cell (q := ⟨b, off + i * 2, none⟩) hb (ho hne ⟨b, off, none⟩ rfl)).trans h1, (ht.cell (q := ⟨b, off + i * 2 + 1, none⟩) hb (ho hne ⟨b, off, none⟩ rfl)).trans h2, h3⟩

/-- one step of a crash: what an index and its sectors keep -/
def keepG (pend : List (Nat × List UInt8)) (g : Nat → List UInt8) (k : Nat × Nat) : Nat → List UInt8 :=
  match pend[k.1]? with
  | some x => upd g x.1 (keepB (g x.1) x.2 k.2)
  | none => g
def crashG (pend : List (Nat × List UInt8)) (g : Nat → List UInt8) (xs : List (Nat × Nat)) : Nat → List UInt8 := xs.foldl (keepG pend) g
theorem crashG_snoc (pend : List (Nat × List UInt8)) (g : Nat → List UInt8) (xs : List (Nat × Nat)) (k : Nat) (hk : k < xs.length) : crashG pend g (xs.take (k + 1)) = keepG pend (crashG pend g (xs.take k)) xs[k] := by
  unfold crashG
  rw [List.take_add_one, List.getElem?_eq_getElem hk, List.foldl_append]
  rfl
def crashS (s : DS) (xs : List (Nat × Nat)) : DS := { s with g := crashG s.pend s.g xs, pend := [], left := -1, down := false }

theorem infoKeep : (Try.prog.info? 88).map (fun i => (i.zero, i.size)) = some (some (.agg #[.int .u16 0, .int .u8 0]), 2) := by kernel_rfl

/-- a load of cells that are an array's, out of the middle of a block, as a step of a still walk -/
theorem still_load_mid {P : Program} {o : Oper} {a : Act} {w : World} {K : Act → Prop} (ty : TypeId) (x : Operand) (ho : o.op = .load ty x) (b off : Nat) (hx : a.eval x = .pointer (some ⟨b, off, none⟩))
    (cs : List Value) (d : TypeDesc) (hc : w.rangeAt b off cs) (hu : P.underlying ty = some d) (hd : d.isRow = true) (hi : (P.info? ty).map (·.size) = some cs.length)
    (hk : K (a.put o.dst (.agg cs.toArray))) : o.still P a w K := by
  have hrun : (execOp a.eval o).run P w = .ok (.value (.agg cs.toArray)) w := by
    unfold execOp
    simp only [ho, hx, Instr.loadAt, Instr.sureAddr, Sem.run_bind, Sem.run_pure, Result.andThen_ok, run_loadVar_mid w b off ty cs d hc hu hd hi]
  unfold Oper.still
  rw [hrun, Oper.stillUpon_value]
  exact hk

set_option maxRecDepth 100000 in
set_option maxHeartbeats 3200000 in
theorem crash_any {w : World} {p : Nat} {B : List Nat} {s : DS} (hd : Dev w p B s) {pa : Option Addr} {cap : Nat} {xs : List (Nat × Nat)} (hxl : xs.length ≤ 9223372036854775807) (hx : Keeps w pa xs) (ho : xs ≠ [] → Off pa B) :
    Calls Try.prog 28 #[ptr p, .slice pa xs.length cap] w fun e w' => e = .returned (.bool true) ∧ Dev w' p B (crashS s xs) ∧ Turn B w w' := by
  obtain ⟨bm, pv, h⟩ := hd
  have hzk := (zero_of_info infoKeep).1
  obtain ⟨ao, cap2, hpv⟩ := h.pvIs
  obtain ⟨np, hnp⟩ : ∃ np, np = s.pend.length := ⟨_, rfl⟩
  rw [← hnp] at hpv
  have HNP := Lib.hid hnp; clear hnp
  have HPV := Lib.hid hpv; clear hpv
  obtain ⟨n, hn⟩ : ∃ n, n = xs.length := ⟨_, rfl⟩
  rw [← hn] at hxl
  rw [← hn]
  have HN := Lib.hid hn; clear hn
  have HX := Lib.hid hx; clear hx
  have HO := Lib.hid ho; clear ho
  go_enter Try.func28, Try.ntmps28
  unfold ptr
  go_wp2
  go_loopw [9] (fun i wr => ∃ k : Nat, k ≤ n ∧ i = .int .i64 k ∧ DevAt wr p bm pv B { s with g := crashG s.pend s.g (xs.take k) } ∧ Turn B w wr) (fun i _ => n - (intOf i).toNat)
  case atStart => exact ⟨0, Nat.zero_le _, rfl, h, Turn.refl _ _⟩
  case round =>
    obtain ⟨k, hk, rfl, hb, ht⟩ := hrel
    clear h
    by_cases hkn : k < n
    · have hkl : k < xs.length := by have := HN.out; omega
      have hK := HX.out.turn ht HO.out
      rcases hK with hK | ⟨b, off, rfl, hbb, hc⟩
      · rw [hK] at hkl; exact absurd hkl (by simp)
      obtain ⟨c1, c2, b1, b2⟩ := hc k hkl
      have hstep := crashG_snoc s.pend s.g xs k hkl
      have HS := Lib.hid hstep
      clear hc hstep
      generalize xs[k] = x at c1 c2 b1 b2 HS
      obtain ⟨xi, xm⟩ := x
      simp only at c1 c2 b1 b2
      have hbA := hb.alloc (.cells #[.int .u16 (xi : Int), .int .u8 (xm : Int)] 88)
      have htA := ht.alloc (.cells #[.int .u16 (xi : Int), .int .u8 (xm : Int)] 88)
      have hX := heap_alloc_new wr (.cells #[.int .u16 (xi : Int), .int .u8 (xm : Int)] 88)
      have d0 : (wr.alloc (.cells #[.int .u16 (xi : Int), .int .u8 (xm : Int)] 88)).cell? ⟨wr.heap.size, 0, none⟩ = some (.int .u16 (xi : Int)) := cell_of_row _ _ 0 _ _ _ hX
      have d1 : (wr.alloc (.cells #[.int .u16 (xi : Int), .int .u8 (xm : Int)] 88)).cell? ⟨wr.heap.size, 1, none⟩ = some (.int .u8 (xm : Int)) := cell_of_row _ _ 1 _ _ _ hX
      have tok : True := trivial
      clear hb ht hX
      go_wp2_with (have _t := tok; refine wpList_store_new rfl 88 _ _ rfl #[.int .u16 (xi : Int), .int .u8 (xm : Int)] _ _ rfl rfl (zero_of_info infoKeep).2 rfl (by simp [Value.oneCell']) ?_; clear _t tok)
      generalize wr.heap.size = q0 at d0 d1 ⊢
      generalize wr.alloc (.cells #[.int .u16 (xi : Int), .int .u8 (xm : Int)] 88) = W1 at hbA htA d0 d1 ⊢
      have c3 : W1.cell? ⟨p, 2, none⟩ = some pv := hbA.cell 2
      rw [HPV.out] at c3
      have z1 : IntKind.i64.wrap (xi : Int) = (xi : Int) := IntWalk.i64_in _ (by omega)
      have HB := Lib.hid hbA
      have HT := Lib.hid htA
      clear hbA htA c1 c2
      simp only [Act.put]
      refine wp_region_still_lit (by kernel_rfl) (by kernel_rfl) ?_
      repeat still_step
      refine wpStill_nil ?_
      change Exit.then _ _ Exit.normal _ W1.drew
      have e0 : W1.drew.cell? ⟨q0, 0, none⟩ = some (.int .u16 (xi : Int)) := d0
      have e1 : W1.drew.cell? ⟨q0, 1, none⟩ = some (.int .u8 (xm : Int)) := d1
      have hbA := HB.out.drew
      have htA := HT.out.drew
      have c4 : W1.drew.cell? ⟨p, 2, none⟩ = some (.slice ao np cap2) := c3
      clear HB HT d0 d1 c3
      generalize W1.drew = W2 at e0 e1 hbA htA c4 ⊢
      by_cases hin : xi < np
      · have hpl : xi < s.pend.length := by have := HNP.out; omega
        obtain ⟨gr, cap', he, hun⟩ := hbA.pendAt xi hpl
        have hr := hbA.rangePut he xi hpl
        obtain rfl : ao = some ⟨gr, 0, none⟩ := by have e := HPV.out; rw [he] at e; injection e with e; exact e.symm
        have hxa := hbA.okA _ (List.getElem_mem hpl)
        have hxl2 := hbA.okP _ (List.getElem_mem hpl)
        have hg1 : s.pend[xi]? = some s.pend[xi] := List.getElem?_eq_getElem hpl
        clear he hun
        simp only at hr hxa hxl2 hg1
        generalize s.pend[xi] = x at hr hxa hxl2 hg1
        obtain ⟨xa, xl⟩ := x
        simp only at hxa hxl2
        have HG := Lib.hid hg1
        have hsp := sizePut (xa, xl) hxl2
        have HB := Lib.hid hbA
        have HT := Lib.hid htA
        clear hg1 hbA htA hpl
        have i1 : (xi : Int) < (np : Int) := by omega
        go_wp2_with fail
        refine wp_region_still_tail 11 (by kernel_rfl) (by kernel_rfl) ?_
        simp only [List.take_succ_cons, List.take_zero, List.drop_succ_cons, List.drop_zero]
        have HR := Lib.hid hr
        have HSP := Lib.hid hsp
        clear hr hsp
        still_step
        still_step
        still_step
        still_step
        still_step
        still_step
        still_step
        still_step
        refine wpStill_step (fun K hK => ?_)
        rw [if_pos (by rfl)]
        refine still_load_mid 40 _ rfl gr (xi * 257) rfl (putCells (xa, xl)) _ HR.out Try.underlying40 rfl HSP.out ?_
        refine hK _ ?_
        clear hK K
        still_step
        still_step
        refine wpStill_nil ?_
        change wpList _ _ _ _ _ W2.drew
        have hbB := HB.out.drew
        have htB := HT.out.drew
        clear HB HT HR e0 e1 c4
        generalize W2.drew = W3 at hbB htB ⊢
        go_wp2_with fail
        refine (keep_any hbB hxa hxl2 b2).mono ?_
        rintro e W4 ⟨rfl, h4, ht4⟩
        have hb5 : DevAt W4 p bm pv B { s with g := crashG s.pend s.g (xs.take (k + 1)) } := by
          rw [HS.out, keepG]
          simp only [HG.out]
          exact h4
        have ht5 := htB.trans ht4
        clear h4 ht4 hbB htB
        go_wp2_with fail
        go_roundw
        case rel => exact ⟨k + 1, by omega, by go_num, hb5, ht5⟩
        case measure => simp [intOf]; omega
      · have hg1 : s.pend[xi]? = none := List.getElem?_eq_none (by have := HNP.out; omega)
        have hb2 : DevAt W2 p bm pv B { s with g := crashG s.pend s.g (xs.take (k + 1)) } := by
          rw [HS.out, keepG]
          simp only [hg1]
          exact hbA
        clear hbA hg1
        have hd : decide (xi < np) = false := decide_eq_false hin
        go_wp2_with fail
        go_roundw
        case rel => exact ⟨k + 1, by omega, by go_num, hb2, htA⟩
        case measure => simp [intOf]; omega
    · have hkk : k = n := by omega
      subst hkk
      have f2 := hb.frozen 2
      have c2 := hb.cell 2
      have e1 : xs.take k = xs := by rw [HN.out]; exact List.take_length
      rw [e1] at hb
      have hs := hb.setField 2 (.slice none 0 0) { s with g := crashG s.pend s.g xs, pend := [] } (.slice none 0 0) rfl rfl rfl (.inr ⟨rfl, rfl⟩) hb.okL
      have c3 := hs.cell 3
      have f3 := hs.frozen 3
      have hs2 := hs.setField 3 (.int .i64 (-1)) { s with g := crashG s.pend s.g xs, pend := [], left := -1 } (.slice none 0 0) rfl rfl rfl (.inl ⟨rfl, rfl⟩) ⟨by show (-1 : Int) ≤ -1; omega, by show (-1 : Int) < _; omega⟩
      have c4 := hs2.cell 4
      have f4 := hs2.frozen 4
      have hs3 := hs2.setField 4 (.bool false) (crashS s xs) (.slice none 0 0) rfl rfl rfl (.inl ⟨rfl, rfl⟩) ⟨by show (-1 : Int) ≤ -1; omega, by show (-1 : Int) < _; omega⟩
      have ht3 := ((ht.setCell ⟨p, 2, none⟩ (.slice none 0 0) (.inl hb.inP)).setCell ⟨p, 3, none⟩ (.int .i64 (-1)) (.inl hb.inP)).setCell ⟨p, 4, none⟩ (.bool false) (.inl hb.inP)
      clear hb ht hs hs2
      go_wp2
      go_ret
      exact ⟨rfl, ⟨bm, _, hs3⟩, ht3⟩

theorem enterCrash1 : ∀ (args : Array Value) (W : World), (callFunc 27 args).run Try.prog W = .ok (.enter 27 args) W := fun _ _ => by simp [go_sem]

set_option maxHeartbeats 800000 in
theorem crash1_any {w : World} {p q : Nat} {B : List Nat} {s : DS} (hd : Dev w p B s) {pa : Option Addr} {cap : Nat} {xs : List (Nat × Nat)} (hxl : xs.length ≤ 9223372036854775807) (hx : Keeps w pa xs) (ho : xs ≠ [] → Off pa B) (hc : w.cell? ⟨q, 0, none⟩ = some (.slice pa xs.length cap)) :
    Calls Try.prog 27 #[ptr p, .pointer (some ⟨q, 0, none⟩)] w fun e w' => e = .returned (.bool true) ∧ Dev w' p B (crashS s xs) ∧ Turn B w w' := by
  have HX := Lib.hid hx
  have HO := Lib.hid ho
  clear hx ho
  go_enter Try.func27, Try.ntmps27
  go_wp2_with fail
  refine (crash_any hd hxl HX.out HO.out).mono ?_
  rintro e W ⟨rfl, h1, h2⟩
  go_wp2
  go_ret
  exact ⟨rfl, h1, h2⟩

set_option maxRecDepth 100000 in
set_option maxHeartbeats 1600000 in
theorem Crash_any {w : World} {p : Nat} {B : List Nat} {s : DS} (hd : Dev w p B s) {pa : Option Addr} {cap : Nat} {xs : List (Nat × Nat)} (hxl : xs.length ≤ 9223372036854775807) (hx : Keeps w pa xs) (ho : xs ≠ [] → Off pa B) :
    Calls Try.prog 9 #[ptr p, .slice pa xs.length cap] w fun e w' => e = .returned (.int .i64 0) ∧ Dev w' p B (crashS s xs) ∧ Turn B w w' := by
  have hzs := (zero_of_info infoStep).1
  have hmf : ∀ (fn : Fn) (first cap : Array Value) (w : World), (Instr.makeFunc fn first cap).run Try.prog w = .ok (.func fn first cap) w := fun _ _ _ _ => rfl
  have HO := Lib.hid ho
  go_enter Try.func9, Try.ntmps9
  go_wp2_with fail
  have hs0 : Step B w ((w.alloc (.cells #[.slice pa (xs.length : Nat) cap] 27)).alloc (.cells #[.func (.func 20) #[] #[], .int .i64 1, .func (.func 27) #[] #[.pointer (some ⟨w.heap.size, 0, none⟩)], .int .i64 0] 63)) B := Step.of_turn (Turn.alloc (Turn.alloc (Turn.refl _ _) _) _)
  have hb0 : Below w.heap.size w ((w.alloc (.cells #[.slice pa (xs.length : Nat) cap] 27)).alloc (.cells #[.func (.func 20) #[] #[], .int .i64 1, .func (.func 27) #[] #[.pointer (some ⟨w.heap.size, 0, none⟩)], .int .i64 0] 63)) := ((Below.refl _ _).alloc (Nat.le_refl _) _).alloc (by simp) _
  have hx1 : Keeps ((w.alloc (.cells #[.slice pa (xs.length : Nat) cap] 27)).alloc (.cells #[.func (.func 20) #[] #[], .int .i64 1, .func (.func 27) #[] #[.pointer (some ⟨w.heap.size, 0, none⟩)], .int .i64 0] 63)) pa xs := hx.turn (Turn.of_below (B := []) hb0) (fun _ _ _ => by simp)
  obtain ⟨x0, x1, xs_⟩ := heap2 w (.cells #[.slice pa (xs.length : Nat) cap] 27) (.cells #[.func (.func 20) #[] #[], .int .i64 1, .func (.func 27) #[] #[.pointer (some ⟨w.heap.size, 0, none⟩)], .int .i64 0] 63)
  have hlt := hd.ltB
  replace hd := hd.turn (C := []) (Turn.mono (C := []) (B := []) (Turn.alloc (Turn.alloc (Turn.refl [] _) (.cells #[.slice pa (xs.length : Nat) cap] 27)) (.cells #[.func (.func 20) #[] #[], .int .i64 1, .func (.func 27) #[] #[.pointer (some ⟨w.heap.size, 0, none⟩)], .int .i64 0] 63)) (fun _ h => h)) (by simp)
  generalize (w.alloc (.cells #[.slice pa (xs.length : Nat) cap] 27)).alloc (.cells #[.func (.func 20) #[] #[], .int .i64 1, .func (.func 27) #[] #[.pointer (some ⟨w.heap.size, 0, none⟩)], .int .i64 0] 63) = W1 at hd hs0 hb0 hx1 x0 x1 xs_ ⊢
  obtain ⟨q0, hq0⟩ : ∃ z, z = w.heap.size := ⟨_, rfl⟩
  obtain ⟨sb, hsb⟩ : ∃ z, z = q0 + 1 := ⟨_, rfl⟩
  simp only [← hq0, ← hsb] at x0 x1 ⊢
  have n0 : q0 ∉ B := fun hm => by have := hlt _ hm; omega
  have ns : sb ∉ B := fun hm => by have := hlt _ hm; omega
  have l0 : q0 < W1.heap.size := by omega
  have ls : sb < W1.heap.size := by omega
  have c0 := cell_of_row W1 q0 0 _ _ _ x0
  refine (run_any (ptr p) sb 2 (by omega) (fun k => match k with | 0 => 20 | _ => 27)
    (fun k => match k with | 0 => #[] | _ => #[.pointer (some ⟨q0, 0, none⟩)]) (fun k => match k with | 0 => 1 | _ => 0)
    (fun k => match k with | 0 => true | _ => true) (fun k W => Turn B W1 W ∧ Dev W p B (if k < 2 then s else crashS s xs)) W1
    (fun k hk => match k, hk with
      | 0, _ => enterExists
      | 1, _ => enterCrash1)
    (fun k W hS j hj => ⟨(hS.1.cell (q := ⟨sb, j * 2, none⟩) ls ns).trans (match j, hj with | 0, _ => cell_of_row W1 sb 0 _ _ _ x1 | 1, _ => cell_of_row W1 sb 2 _ _ _ x1), (hS.1.cell (q := ⟨sb, j * 2 + 1, none⟩) ls ns).trans (match j, hj with | 0, _ => cell_of_row W1 sb 1 _ _ _ x1 | 1, _ => cell_of_row W1 sb 3 _ _ _ x1)⟩)
    (fun k hk => match k, hk with
      | 0, _ => fun _ W o hS => (exists_yes (hS.2.alloc o)).mono fun _ _ ⟨he, hw⟩ => by subst hw; exact ⟨he, ⟨hS.1.alloc o, hS.2.alloc o⟩, heap_alloc_new W o⟩
      | 1, _ => fun _ W o hS => (crash1_any (hS.2.alloc o) hxl (hx1.turn (hS.1.alloc o) HO.out) HO.out (((hS.1.alloc o).cell (q := ⟨q0, 0, none⟩) l0 n0).trans c0)).mono fun _ W' ⟨he, hd2, ht⟩ =>
          ⟨he, ⟨(hS.1.alloc o).trans ht, hd2⟩, (ht.block _ (by simp) (fun hm => by have := hS.2.ltB _ hm; omega)).trans (heap_alloc_new W o)⟩)
    ⟨Turn.refl _ _, hd⟩).mono ?_
  rintro e W2 ⟨m, z, rfl, hend, ht, hd2⟩
  obtain ⟨rfl, rfl⟩ := runEnd_all hend (fun k hk => by
    have hk' : k = 0 ∨ k = 1 := by omega
    rcases hk' with rfl | rfl <;> rfl)
  have ht2 : Turn B w W2 := (Turn.of_below hb0).trans ht
  replace hd2 : Dev W2 p B (crashS s xs) := hd2
  clear hend ht hd hs0 hb0 hx1 x0 x1 c0 xs_ l0 ls hsb hq0 hx
  go_wp2
  go_ret
  exact ⟨rfl, hd2, ht2⟩

end Go.Proofs.Ytdadcengelfmhaa.Dev

/-
  Blocks that the laws make: full of one byte; an act's.
-/
namespace Go.Proofs.Ytdadcengelfmhaa.Dev
open Go.RowKit RowLaw
set_option maxRecDepth 100000

def fullB (c : UInt8) : List UInt8 := List.replicate 256 c
def fullTo (c : UInt8) (k : Nat) : List UInt8 := List.replicate k c ++ List.replicate (256 - k) 0
theorem fullTo_length (c : UInt8) {k : Nat} (hk : k ≤ 256) : (fullTo c k).length = 256 := by simp [fullTo]; omega
theorem fullB_length (c : UInt8) : (fullB c).length = 256 := List.length_replicate
theorem fullTo_zero (c : UInt8) : fullTo c 0 = zeros := by unfold fullTo zeros; rw [Nat.sub_zero, List.replicate_zero, List.nil_append]
theorem fullTo_all (c : UInt8) : fullTo c 256 = fullB c := by unfold fullTo fullB; rw [Nat.sub_self, List.replicate_zero, List.append_nil]
theorem fullTo_set (c : UInt8) {k : Nat} (hk : k < 256) : (fullTo c k).set k c = fullTo c (k + 1) := by
  apply List.ext_getElem?
  intro j
  rw [List.getElem?_set]
  simp only [fullTo, List.length_append, List.length_replicate]
  by_cases hj : k = j
  · subst hj
    rw [if_pos rfl, if_pos (by omega), List.getElem?_append_left (by simp), List.getElem?_replicate, if_pos (by omega)]
  · rw [if_neg hj]
    by_cases h1 : j < k
    · rw [List.getElem?_append_left (by simp; omega), List.getElem?_append_left (by simp; omega), List.getElem?_replicate, List.getElem?_replicate, if_pos h1, if_pos (by omega)]
    · rw [List.getElem?_append_right (by simp; omega), List.getElem?_append_right (by simp; omega), List.getElem?_replicate, List.getElem?_replicate]
      simp only [List.length_replicate]
      by_cases h2 : j < 256
      · rw [if_pos (by omega), if_pos (by omega)]
      · rw [if_neg (by omega), if_neg (by omega)]

/-- two new blocks of bytes -/
structure TwoBox (w : World) (b0 b1 : Nat) (l : List UInt8) (W : World) : Prop where
  res : Holds W b0 zeros
  cur : Holds W b1 l
  ne : b0 ≠ b1
  ge0 : w.heap.size ≤ b0
  ge1 : w.heap.size ≤ b1
  bel : Below w.heap.size w W

/-- an act's block: its byte at the beginning, and the next ones at the beginnings of the sectors -/
def blockTo (c : UInt8) : Nat → List UInt8
  | 0 => zeros
  | k + 1 => (blockTo c k).set (64 * k) (c + UInt8.ofNat k)
def blockB (c : UInt8) : List UInt8 := blockTo c 4
theorem blockTo_length (c : UInt8) : ∀ k, (blockTo c k).length = 256
  | 0 => zeros_length
  | k + 1 => by unfold blockTo; rw [List.length_set]; exact blockTo_length c k
theorem blockB_length (c : UInt8) : (blockB c).length = 256 := blockTo_length c 4

def actV (what a : Nat) (c : UInt8) (lv : Value) (k : Int) : Array Value := #[.int .u8 (what : Int), .int .u32 (a : Int), .int .u8 (c.toNat : Int), lv, .int .i64 k]

theorem blockTo_one (c : UInt8) : cellsOf (blockTo c 1) = (cellsOf zeros).setIfInBounds 0 (.int .u8 (c.toNat : Int)) := by
  have e : blockTo c 1 = zeros.set 0 c := by
    show zeros.set (64 * 0) (c + UInt8.ofNat 0) = zeros.set 0 c
    rw [Nat.mul_zero]
    congr 1
    exact UInt8.add_zero c
  rw [e, ← cellsOf_set]
theorem u8_plus (c : UInt8) (k : Nat) (hk : k < 256) : IntKind.u8.wrap ((c.toNat : Int) + (k : Int)) = ((c + UInt8.ofNat k).toNat : Int) := by
  rw [IntKind.wrap_u8, UInt8.toNat_add, UInt8.toNat_ofNat', Nat.mod_eq_of_lt (by omega : k < 2 ^ 8)]
  omega

end Go.Proofs.Ytdadcengelfmhaa.Dev

/-
  A device that a law has made, beside blocks of the law's own that stay: the methods' contracts once more, on the two together.
-/
namespace Go.Proofs.Ytdadcengelfmhaa.Dev
open Go.RowKit RowLaw
set_option maxRecDepth 100000

/-- a device p in the state s, all of it new since w; the blocks K beside it; below it all is as it was in w -/
def Live (w : World) (p : Nat) (s : DS) (K : List (Nat × Obj)) (W : World) : Prop :=
  ∃ B, Dev W p B s ∧ (∀ k ∈ B, w.heap.size ≤ k) ∧ Below w.heap.size w W ∧ ∀ x ∈ K, W.heap[x.1]? = some x.2 ∧ x.1 ∉ B ∧ x.1 < W.heap.size

section
variable {w W : World} {p : Nat} {s : DS} {K : List (Nat × Obj)}
theorem Live.bel (h : Live w p s K W) : Below w.heap.size w W := by obtain ⟨_, _, _, h, _⟩ := h; exact h
theorem Live.at_ (h : Live w p s K W) {q : Nat} {o : Obj} (hq : (q, o) ∈ K) : W.heap[q]? = some o := by obtain ⟨_, _, _, _, h⟩ := h; exact (h _ hq).1
theorem Live.lt_ (h : Live w p s K W) {q : Nat} {o : Obj} (hq : (q, o) ∈ K) : q < W.heap.size := by obtain ⟨_, _, _, _, h⟩ := h; exact (h _ hq).2.2
theorem Live.less (h : Live w p s K W) {K' : List (Nat × Obj)} (hk : ∀ x ∈ K', x ∈ K) : Live w p s K' W := by
  obtain ⟨B, h1, h2, h3, h4⟩ := h
  exact ⟨B, h1, h2, h3, fun x hx => h4 x (hk x hx)⟩
theorem Live.below {W' : World} (h : Live w p s K W) (hb : Below W.heap.size W W') : Live w p s K W' := by
  obtain ⟨B, h1, h2, h3, h4⟩ := h
  exact ⟨B, h1.below hb, h2, h3.trans (hb.mono h3.size), fun x hx => ⟨(hb.block _ (h4 x hx).2.2).trans (h4 x hx).1, (h4 x hx).2.1, Nat.lt_of_lt_of_le (h4 x hx).2.2 hb.size⟩⟩
theorem Live.alloc (h : Live w p s K W) (o : Obj) : Live w p s ((W.heap.size, o) :: K) (W.alloc o) := by
  have hb : Below W.heap.size W (W.alloc o) := (Below.refl _ _).alloc (Nat.le_refl _) o
  obtain ⟨B, h1, h2, h3, h4⟩ := h
  refine ⟨B, h1.below hb, h2, h3.trans (hb.mono h3.size), fun x hx => ?_⟩
  rcases List.mem_cons.1 hx with rfl | hx
  · exact ⟨heap_alloc_new W o, fun hm => by have := h1.ltB _ hm; omega, by simp⟩
  · exact ⟨(hb.block _ (h4 x hx).2.2).trans (h4 x hx).1, (h4 x hx).2.1, Nat.lt_of_lt_of_le (h4 x hx).2.2 hb.size⟩
theorem Live.drew (h : Live w p s K W) : Live w p s K W.drew := h.below ⟨rfl, rfl, rfl, Nat.le_refl _, fun _ _ => rfl⟩
theorem Live.step {W' : World} {s' : DS} {B C : List Nat} (h2 : ∀ k ∈ B, w.heap.size ≤ k) (h3 : Below w.heap.size w W) (h4 : ∀ x ∈ K, W.heap[x.1]? = some x.2 ∧ x.1 ∉ B ∧ x.1 < W.heap.size) (hd : Dev W' p C s') (hs : Step B W W' C) : Live w p s' K W' :=
  ⟨C, hd, hs.above h2 h3.size, h3.trans (hs.below h2 h3.size), fun x hx => ⟨(hs.turn.block _ (h4 x hx).2.2 (h4 x hx).2.1).trans (h4 x hx).1, hs.notIn (h4 x hx).2.2 (h4 x hx).2.1, Nat.lt_of_lt_of_le (h4 x hx).2.2 hs.turn.size⟩⟩
/-- where a crash's row may lie -/
def Mine (w : World) (K : List (Nat × Obj)) (pa : Option Addr) : Prop := ∀ a, pa = some a → a.block < w.heap.size ∨ ∃ o, (a.block, o) ∈ K

theorem New_live (w : World) (n : Nat) (h1 : 64 ≤ n) (h2 : n ≤ 1048576) : Calls Try.prog 4 #[.int .u32 (n : Int)] w fun e w' => ∃ p, e = .returned (.tuple #[ptr p, .int .i64 0]) ∧ Live w p (newS n) [] w' :=
  (New_any w n h1 h2).mono fun _ _ ⟨p, B, he, hd, hB, hb⟩ => ⟨p, he, B, hd, hB, hb, fun x hx => by cases hx⟩
/-- .. beside blocks that are there -/
theorem New_more {w0 : World} {Ks : List (Nat × Obj)} (w : World) (h0 : Below w0.heap.size w0 w) (hK : ∀ x ∈ Ks, w.heap[x.1]? = some x.2 ∧ x.1 < w.heap.size) (n : Nat) (h1 : 64 ≤ n) (h2 : n ≤ 1048576) :
    Calls Try.prog 4 #[.int .u32 (n : Int)] w fun e w' => ∃ p, e = .returned (.tuple #[ptr p, .int .i64 0]) ∧ Live w0 p (newS n) Ks w' :=
  (New_any w n h1 h2).mono fun _ _ ⟨p, B, he, hd, hB, hb⟩ => ⟨p, he, B, hd, (fun k hk => Nat.le_trans h0.size (hB k hk)), h0.trans (hb.mono h0.size), fun x hx =>
    ⟨(hb.block _ (hK x hx).2).trans (hK x hx).1, fun hm => by have := hB _ hm; have := (hK x hx).2; omega, Nat.lt_of_lt_of_le (hK x hx).2 hb.size⟩⟩
theorem Write_live (h : Live w p s K W) {a : Nat} (ha : a < 4294967296) {l : List UInt8} (hl : l.length = 256) (hlen : s.pend.length < 4294967295) :
    Calls Try.prog 37 #[ptr p, .int .u32 (a : Int), .agg (cellsOf l)] W fun e W' => e = .returned (.int .i64 (writeE s a)) ∧ Live w p (writeS s a l) K W' := by
  obtain ⟨B, h1, h2, h3, h4⟩ := h
  exact (Write_any h1 ha hl hlen).mono fun _ _ ⟨he, C, hd, hs⟩ => ⟨he, Live.step h2 h3 h4 hd hs⟩
theorem Flush_live (h : Live w p s K W) (hlen : s.pend.length < 4294967296) :
    Calls Try.prog 39 #[ptr p] W fun e W' => e = .returned (.int .i64 (flushE s)) ∧ Live w p (flushS s) K W' := by
  obtain ⟨B, h1, h2, h3, h4⟩ := h
  exact (Flush_any h1 hlen).mono fun _ _ ⟨he, C, hd, hs⟩ => ⟨he, Live.step h2 h3 h4 hd hs⟩
theorem Fuse_live (h : Live w p s K W) {z : Int} (hz : z < 9223372036854775808) :
    Calls Try.prog 7 #[ptr p, .int .i64 z] W fun e W' => e = .returned (.int .i64 (fuseE s z)) ∧ Live w p (fuseS s z) K W' := by
  obtain ⟨B, h1, h2, h3, h4⟩ := h
  exact (Fuse_any h1 hz).mono fun _ _ ⟨he, C, hd, hs⟩ => ⟨he, Live.step h2 h3 h4 hd hs⟩
theorem Crash_live (h : Live w p s K W) {pa : Option Addr} {cap : Nat} {xs : List (Nat × Nat)} (hxl : xs.length ≤ 9223372036854775807) (hx : Keeps W pa xs) (hm : xs ≠ [] → Mine w K pa) :
    Calls Try.prog 9 #[ptr p, .slice pa xs.length cap] W fun e W' => e = .returned (.int .i64 0) ∧ Live w p (crashS s xs) K W' := by
  obtain ⟨B, h1, h2, h3, h4⟩ := h
  have ho : xs ≠ [] → Off pa B := fun hne a ha hm2 => by
    rcases hm hne a ha with h5 | ⟨o, h5⟩
    · have := h2 _ hm2; omega
    · exact (h4 _ h5).2.1 hm2
  exact (Crash_any h1 hxl hx ho).mono fun _ _ ⟨he, hd, ht⟩ => ⟨he, Live.step h2 h3 h4 hd (Step.of_turn ht)⟩
theorem Read_live (h : Live w p s K W) {a : Nat} (ha : a < 4294967296) (hlen : s.pend.length < 4294967296) :
    Calls Try.prog 11 #[ptr p, .int .u32 (a : Int)] W fun e W' => e = .returned (.tuple #[.agg (cellsOf (readR s a)), .int .i64 (readE s a)]) ∧ Live w p s K W' := by
  have h' := h
  obtain ⟨B, h1, _⟩ := h
  exact (Read_any h1 ha hlen).mono fun _ _ ⟨he, hb⟩ => ⟨he, h'.below hb⟩
end

end Go.Proofs.Ytdadcengelfmhaa.Dev

/-
  The statements' known answers: one device, walked.
-/
namespace Go.Proofs.Ytdadcengelfmhaa.Dev
open Go.RowKit RowLaw
set_option maxRecDepth 100000

def gZ : Nat → List UInt8 := fun _ => zeros
def bA : List UInt8 := fullB 97
def bB : List UInt8 := fullB 98
def bM : List UInt8 := keepB bA bB 9
theorem bA_len : bA.length = 256 := fullB_length 97
theorem bB_len : bB.length = 256 := fullB_length 98
theorem bM_len : bM.length = 256 := keepB_length bA_len bB_len 9
def t1 : DS := ⟨64, gZ, [(5, bA)], -1, false, 1⟩
def t2 : DS := ⟨64, upd gZ 5 bA, [], -1, false, 2⟩
def t3 : DS := ⟨64, upd gZ 5 bA, [(5, bB)], -1, false, 3⟩
def t4 : DS := ⟨64, upd (upd gZ 5 bA) 5 bM, [], -1, false, 3⟩
def t5 : DS := ⟨64, upd (upd gZ 5 bA) 5 bM, [], 1, false, 3⟩
def t6 : DS := ⟨64, upd (upd gZ 5 bA) 5 bM, [(6, bA)], 0, false, 4⟩
def t7 : DS := ⟨64, upd (upd gZ 5 bA) 5 bM, [(6, bA)], 0, true, 4⟩
def t8 : DS := ⟨64, upd (upd (upd gZ 5 bA) 5 bM) 6 (keepB zeros bA 15), [], -1, false, 4⟩
theorem w1 : writeS (newS 64) 5 bA = t1 := rfl
theorem w2 : flushS t1 = t2 := rfl
theorem w3 : writeS t2 5 bB = t3 := rfl
theorem w3b : writeS t3 64 bB = t3 := rfl
theorem w4 : crashS t3 [(0, 9)] = t4 := rfl
theorem w5 : fuseS t4 1 = t5 := rfl
theorem w6 : writeS t5 6 bA = t6 := rfl
theorem w7 : flushS t6 = t7 := rfl
theorem w7b : writeS t7 6 bB = t7 := rfl
theorem w8 : crashS t7 [(0, 15)] = t8 := rfl
theorem r1 : readR t1 5 = bA := rfl
theorem r4 : readR t4 5 = bM := rfl
theorem keep_all {old new : List UInt8} (ho : old.length = 256) (hn : new.length = 256) : keepB old new 15 = new := by
  apply List.ext_getElem?
  intro j
  by_cases hj : j < 256
  · rw [keepB_get ho hn 15 j hj]
    have hk : j / 64 = 0 ∨ j / 64 = 1 ∨ j / 64 = 2 ∨ j / 64 = 3 := by omega
    rcases hk with h | h | h | h <;> rw [h] <;> rfl
  · rw [List.getElem?_eq_none (by rw [keepB_length ho hn]; omega), List.getElem?_eq_none (by omega)]
theorem r8 : readR t8 6 = bA := keep_all zeros_length bA_len
theorem bM_at (j : Nat) (hj : j < 256) : bM[j]'(by rw [bM_len]; exact hj) = if Nat.testBit 9 (j / 64) = true then 98 else 97 := by
  have h := keepB_get bA_len bB_len 9 j hj
  have h2 : bM[j]? = some (bM[j]'(by rw [bM_len]; exact hj)) := List.getElem?_eq_getElem _
  have h3 : bM[j]? = if Nat.testBit 9 (j / 64) = true then bB[j]? else bA[j]? := h
  rw [h2] at h3
  have hA : bA[j]? = some 97 := by
    show (List.replicate 256 (97 : UInt8))[j]? = some 97
    rw [List.getElem?_replicate, if_pos hj]
  have hB : bB[j]? = some 98 := by
    show (List.replicate 256 (98 : UInt8))[j]? = some 98
    rw [List.getElem?_replicate, if_pos hj]
  rw [hA, hB] at h3
  split at h3
  · rename_i h4; rw [if_pos h4]; exact Option.some.inj h3
  · rename_i h4; rw [if_neg h4]; exact Option.some.inj h3

theorem bM_cell (j : Nat) (hj : j < 256) : (cellsOf bM)[j]? = some (.int .u8 (if Nat.testBit 9 (j / 64) = true then 98 else 97)) := by
  rw [cellsOf_get bM j (by rw [bM_len]; exact hj), bM_at j hj]
  split <;> rfl

section
variable {w W : World} {p : Nat} {s : DS} {K : List (Nat × Obj)}
theorem write_as {a : Nat} {l : List UInt8} {s' : DS} {e' : Int} (h : Live w p s K W) (ha : a < 4294967296) (hl : l.length = 256) (hlen : s.pend.length < 4294967295) (hs : writeS s a l = s') (he : writeE s a = e') :
    Calls Try.prog 37 #[ptr p, .int .u32 (a : Int), .agg (cellsOf l)] W fun e W' => e = .returned (.int .i64 e') ∧ Live w p s' K W' := by
  subst hs he; exact Write_live h ha hl hlen
theorem flush_as {s' : DS} {e' : Int} (h : Live w p s K W) (hlen : s.pend.length < 4294967296) (hs : flushS s = s') (he : flushE s = e') :
    Calls Try.prog 39 #[ptr p] W fun e W' => e = .returned (.int .i64 e') ∧ Live w p s' K W' := by
  subst hs he; exact Flush_live h hlen
theorem read_as {a : Nat} {l : List UInt8} (h : Live w p s K W) (ha : a < 4294967296) (hlen : s.pend.length < 4294967296) (hs : readR s a = l) {e' : Int} (he : readE s a = e') :
    Calls Try.prog 11 #[ptr p, .int .u32 (a : Int)] W fun e W' => e = .returned (.tuple #[.agg (cellsOf l), .int .i64 e']) ∧ Live w p s K W' := by
  subst hs he; exact Read_live h ha hlen
theorem fuse_as {z : Int} {s' : DS} {e' : Int} (h : Live w p s K W) (hz : z < 9223372036854775808) (hs : fuseS s z = s') (he : fuseE s z = e') :
    Calls Try.prog 7 #[ptr p, .int .i64 z] W fun e W' => e = .returned (.int .i64 e') ∧ Live w p s' K W' := by
  subst hs he; exact Fuse_live h hz
/-- a load of a byte in a quiet walk -/
theorem quiet_load_u8 {I : World → Prop} {K : Act → Prop} {o : Oper} {a : Act} (x : Operand) (ho : o.op = .load 5 x) (ad : Addr) (hx : a.eval x = .pointer (some ad)) (v : Value) (hc : ∀ w : World, I w → w.cell? ad = some v)
    (hk : K (a.put o.dst v)) : o.quiet Try.prog a (fun w' => ∃ x : {w' : World // I w'}, w' = x.1) K :=
  ⟨v, fun w hw => by
    obtain ⟨y, rfl⟩ := hw
    have h := hc y.1 y.2
    unfold Oper.quietAt execOp
    simp only [ho, hx]
    go_simp, hk⟩
/-- a crash with one index of sectors, laid by the law itself -/
theorem crash_one {s' : DS} {q m : Nat} (h : Live w p s K W) (hq : (q, Obj.cells #[.int .u16 0, .int .u8 (m : Int)] 88) ∈ K) (hm : m < 256) (hs : crashS s [(0, m)] = s') :
    Calls Try.prog 9 #[ptr p, .slice (some ⟨q, 0, none⟩) 1 1] W fun e W' => e = .returned (.int .i64 0) ∧ Live w p s' K W' := by
  subst hs
  have hat := h.at_ hq
  refine Crash_live (xs := [(0, m)]) h (by simp) (.inr ⟨q, 0, rfl, h.lt_ hq, fun i hi => ?_⟩) (fun _ a ha => .inr ⟨_, by cases ha; exact hq⟩)
  obtain rfl : i = 0 := by simpa using hi
  exact ⟨cell_of_row W q 0 _ _ _ hat, cell_of_row W q 1 _ _ _ hat, by show (0 : Nat) < 65536; omega, hm⟩
end

end Go.Proofs.Ytdadcengelfmhaa.Dev

