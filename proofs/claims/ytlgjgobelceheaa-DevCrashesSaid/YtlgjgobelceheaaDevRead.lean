/-
  What is read at an address: find; Read.
-/
import Derived.Test.YtlgjgobelceheaaDevFuse
import Derived.Scope
namespace Go.Proofs.Ytlgjgobelceheaa.Dev
open Go.RowKit RowLaw

theorem applyP_none {a : Nat} : ∀ (l : List (Nat × List UInt8)) (g : Nat → List UInt8), (∀ x ∈ l, x.1 ≠ a) → applyP g l a = g a
  | [], _, _ => rfl
  | x :: r, g, h => by
    show applyP (upd g x.1 x.2) r a = g a
    rw [applyP_none r _ (fun y hy => h y (by simp [hy]))]
    exact if_neg (fun e => h x (by simp) e.symm)
theorem applyP_append (g : Nat → List UInt8) (l m : List (Nat × List UInt8)) : applyP g (l ++ m) = applyP (applyP g l) m := by simp [applyP]
theorem applyP_last {a : Nat} (l : List (Nat × List UInt8)) (g : Nat → List UInt8) (k : Nat) (hk : k < l.length) (he : l[k].1 = a) (h : ∀ j (hj : j < l.length), k < j → l[j].1 ≠ a) : applyP g l a = l[k].2 := by
  have e : l = l.take (k + 1) ++ l.drop (k + 1) := (List.take_append_drop _ _).symm
  have e2 : applyP g l = applyP (applyP g (l.take (k + 1))) (l.drop (k + 1)) := by rw [← applyP_append, ← e]
  rw [e2, applyP_none, applyP_snoc g l k hk]
  · exact if_pos he.symm
  · intro x hx
    obtain ⟨i, hi, rfl⟩ := List.mem_iff_getElem.1 hx
    rw [List.getElem_drop]
    exact h _ (by simp at hi; omega) (by omega)

/-- what is read at an address -/
def readB (s : DS) (a : Nat) : List UInt8 := applyP s.g s.pend a
theorem applyP_len {l : List (Nat × List UInt8)} : ∀ {g : Nat → List UInt8}, (∀ a, (g a).length = 256) → (∀ x ∈ l, x.2.length = 256) → ∀ a, (applyP g l a).length = 256 := by
  induction l with
  | nil => intro g hg _ a; exact hg a
  | cons x r ih => intro g hg hl a; exact ih (upd_length hg (hl x (by simp)) x.1) (fun y hy => hl y (by simp [hy])) a
theorem Dev.readLen {w : World} {p : Nat} {B : List Nat} {s : DS} (h : Dev w p B s) (a : Nat) : (readB s a).length = 256 := by
  obtain ⟨bm, pv, h⟩ := h
  exact applyP_len h.okG h.okP a

theorem below_row {B g : Nat} {a w : World} {cs : Array Value} (h : Below B a w) (hg : B ≤ g) : Below B a (w.setRow g cs) :=
  h.trans ⟨rfl, rfl, rfl, by simp, fun k hk => setRow_other w g k cs (by omega)⟩

/-- what find has in memory besides the device: the result's place, the block found so far -/
structure FBox (w : World) (p bm : Nat) (pv : Value) (B : List Nat) (s : DS) (b0 b1 : Nat) (l : List UInt8) (W : World) : Prop where
  dev : DevAt W p bm pv B s
  res : Holds W b0 zeros
  cur : Holds W b1 l
  ne : b0 ≠ b1
  ge0 : w.heap.size ≤ b0
  ge1 : w.heap.size ≤ b1
  bel : Below w.heap.size w W

set_option maxRecDepth 100000 in
set_option maxHeartbeats 3200000 in
theorem find_any {w : World} {p : Nat} {B : List Nat} {s : DS} (hd : Dev w p B s) {a : Nat} (ha : a < 4294967296) (hlen : s.pend.length < 4294967296) :
    Calls Try.prog 38 #[ptr p, .int .u32 (a : Int)] w fun e w' => e = .returned (.agg (cellsOf (readB s a))) ∧ Below w.heap.size w w' := by
  obtain ⟨bm, pv, h⟩ := hd
  obtain ⟨ao, cap, hpv⟩ := h.pvIs
  have hzv := (zero_of_info infoBlock).1
  have hgl := h.okG a
  have hig := sizeBlock _ hgl
  have h1 := h.alloc (.cells (cellsOf zeros) 47)
  have c1 : (w.alloc (.cells (cellsOf zeros) 47)).cell? ⟨p, 1, none⟩ = some (.map (some bm)) := h1.cell 1
  have hbox : FBox w p bm pv B s w.heap.size (w.heap.size + 1) (s.g a) ((w.alloc (.cells (cellsOf zeros) 47)).alloc (.cells (cellsOf (s.g a)) 47)) :=
    ⟨h1.alloc _, (Holds.new w zeros).alloc _, heap_alloc2_new w _ _, by omega, Nat.le_refl _, by omega, ((Below.refl _ _).alloc (Nat.le_refl _) _).alloc (by simp) _⟩
  have hm := h1.map
  clear h
  go_enter Try.func38, Try.ntmps38
  unfold ptr
  have tok : True := trivial
  go_wp2_with fail
  go_step3
  go_wp2_with (first | (at_lookup; refine wpList_look rfl _ _ rfl Try.underlying30 Try.underlying52 (zeroBlock _) hm ha rfl rfl ?_) | (have _t := tok; refine wpList_store_new rfl 47 _ _ rfl (cellsOf (s.g a)) _ _ (by simp [Act.eval]) rfl hig (by rw [cellsOf_size, cellsOf_size, hgl, zeros_length]) (cellsOf_one _) ?_; clear _t tok))
  clear c1 h1 hm
  generalize w.heap.size + 1 = b1 at hbox ⊢
  obtain ⟨b0, hb0⟩ : ∃ b0, b0 = w.heap.size := ⟨_, rfl⟩
  rw [← hb0] at hbox
  simp only [← hb0]
  clear hb0
  generalize (w.alloc (.cells (cellsOf zeros) 47)).alloc (.cells (cellsOf (s.g a)) 47) = W at hbox ⊢
  obtain ⟨n, hn⟩ : ∃ n, n = s.pend.length := ⟨_, rfl⟩
  have c2 : W.cell? ⟨p, 2, none⟩ = some pv := hbox.dev.cell 2
  rw [← hn] at hlen hpv
  rw [hpv] at c2
  have HN := Lib.hid hn; clear hn
  have HPV := Lib.hid hpv; clear hpv
  have z1 : IntKind.i64.wrap ((n : Int) - 1) = (n : Int) - 1 := IntWalk.i64_in _ (by omega)
  go_step3
  go_wp2_with fail
  clear z1 c2
  go_loopw [6] (fun i wr => ∃ k : Nat, k ≤ n ∧ i = .int .i64 ((k : Int) - 1) ∧ FBox w p bm pv B s b0 b1 (s.g a) wr ∧ Hid (∀ j (hj : j < s.pend.length), k ≤ j → s.pend[j].1 ≠ a)) (fun i _ => (intOf i + 1).toNat)
  case atStart => exact ⟨n, Nat.le_refl _, rfl, hbox, show ∀ j (hj : j < s.pend.length), n ≤ j → s.pend[j].1 ≠ a from fun j hj hk => by have := HN.out; omega⟩
  case round =>
    obtain ⟨k, hk, rfl, hb, hnone⟩ := hrel
    clear hbox
    cases k with
    | zero =>
      have hr := hb.res
      have hc := hb.cur
      have hbel := hb.bel
      have hge := hb.ge0
      have e : readB s a = s.g a := applyP_none _ _ (fun x hx => by
        obtain ⟨j, hj, rfl⟩ := List.mem_iff_getElem.1 hx
        exact hnone.out j hj (Nat.zero_le _))
      rw [show ((0 : Nat) : Int) - 1 = -1 from rfl]
      clear hb hnone
      go_wp2_with (first | (refine wpList_load_row rfl 47 _ rfl b1 rfl _ _ _ _ hc Try.underlying47 rfl hig ?_) | (refine wpList_store_row rfl 47 _ _ rfl b0 _ rfl rfl _ _ hr hig (by rw [cellsOf_size, cellsOf_size, hgl, zeros_length]) (cellsOf_one _) ?_))
      simp only [Exit.noGoto]
      refine bodyPost_ret (v := .agg (cellsOf (readB s a))) ?_ rfl ⟨rfl, ?_⟩
      · rw [e]; exact results_cell_row rfl _ _ _ _ _ _ _ rfl (setRow_heap wr _ _ _ _ _ hr) Try.underlying47 rfl hig
      · exact below_row hbel hge
    | succ k =>
      have hkl : k < s.pend.length := by have := HN.out; omega
      obtain ⟨gr, cap', he, _⟩ := hb.dev.pendAt k hkl
      obtain rfl : ao = some ⟨gr, 0, none⟩ := by have e := HPV.out; rw [he] at e; injection e with e; exact e.symm
      have hr := hb.dev.rangePut he k hkl
      have hxl := hb.dev.okP _ (List.getElem_mem hkl)
      have c2 : wr.cell? ⟨p, 2, none⟩ = some pv := hb.dev.cell 2
      rw [HPV.out] at c2
      generalize hx : s.pend[k] = x at hr hxl
      have HX := Lib.hid hx; clear hx he
      obtain ⟨xa, xl⟩ := x
      simp only at hxl
      have ca : wr.cell? ⟨gr, k * 257, none⟩ = some (.int .u32 (xa : Int)) := by simpa using hr 0 _ rfl
      have cr : wr.rangeAt gr (k * 257 + 1) (cellsOf xl).toList := fun j v hv => by
        rw [Nat.add_assoc, Nat.add_comm 1 j]
        exact hr (j + 1) v hv
      rw [show ((k + 1 : Nat) : Int) - 1 = (k : Int) from by omega]
      have hsb := sizeBlock xl hxl
      clear hr
      by_cases hxa : xa = a
      · have ed : ((xa : Int) == (a : Int)) = true := by simp [hxa]
        have e : readB s a = xl := by
          have h1 := applyP_last s.pend s.g k hkl (by rw [HX.out]; exact hxa) (fun j hj hkj => hnone.out j hj (by omega))
          rw [HX.out] at h1
          exact h1
        have hres := hb.res
        have hcur := hb.cur
        have hbel := hb.bel
        have hge0 := hb.ge0
        have hge1 := hb.ge1
        have hne := hb.ne
        have hres2 : Holds (wr.setRow b1 (cellsOf xl)) b0 zeros := (setRow_other wr _ _ _ hne).trans hres
        have hcur2 : Holds (wr.setRow b1 (cellsOf xl)) b1 xl := setRow_heap wr _ _ _ _ _ hcur
        clear hb hnone hne hxa
        have tok : True := trivial
        go_wp2_with (first | (refine wpList_load_sub rfl 47 _ rfl gr (k * 257 + 1) rfl (cellsOf xl) _ cr Try.underlying47 rfl hsb ?_) | (have _t := tok; refine wpList_store_row rfl 47 _ _ rfl b1 _ rfl rfl _ _ hcur hsb (by rw [cellsOf_size, cellsOf_size, hgl, hxl]) (cellsOf_one _) ?_; clear _t tok) | (refine wpList_load_row rfl 47 _ rfl b1 rfl _ _ _ _ hcur2 Try.underlying47 rfl hsb ?_) | (refine wpList_store_row rfl 47 _ _ rfl b0 _ rfl rfl _ _ hres2 hsb (by rw [cellsOf_size, cellsOf_size, hxl, zeros_length]) (cellsOf_one _) ?_))
        simp only [Exit.noGoto]
        refine bodyPost_ret (v := .agg (cellsOf (readB s a))) ?_ rfl ⟨rfl, ?_⟩
        · rw [e]; exact results_cell_row rfl _ _ _ _ _ _ _ rfl (setRow_heap _ _ _ _ _ _ hres2) Try.underlying47 rfl hsb
        · exact below_row (below_row hbel hge1) hge0
      · have ed : ((xa : Int) == (a : Int)) = false := by simp; omega
        have hn2 : Hid (∀ j (hj : j < s.pend.length), k ≤ j → s.pend[j].1 ≠ a) := show ∀ j (hj : j < s.pend.length), k ≤ j → s.pend[j].1 ≠ a from fun j hj hkj => by
          by_cases h : j = k
          · subst h; rw [HX.out]; exact hxa
          · exact hnone.out j hj (by omega)
        have z2 : IntKind.i64.wrap ((k : Int) - 1) = (k : Int) - 1 := IntWalk.i64_in _ (by omega)
        clear hnone hxa cr
        go_wp2
        go_roundw
        case rel => exact ⟨k, by omega, rfl, hb, hn2⟩
        case measure => simp [intOf]

theorem enterRead1 : ∀ (args : Array Value) (W : World), (callFunc 37 args).run Try.prog W = .ok (.enter 37 args) W := fun _ _ => by simp [go_sem]

set_option maxRecDepth 100000 in
set_option maxHeartbeats 1600000 in
theorem read1_any {w : World} {p q0 q1 : Nat} {B : List Nat} {s : DS} (hd : Dev w p B s) {a : Nat} (ha : a < 4294967296) (hlen : s.pend.length < 4294967296) (h0 : w.cell? ⟨q0, 0, none⟩ = some (.int .u32 (a : Int))) (h1 : Holds w q1 zeros) :
    Calls Try.prog 37 #[ptr p, .pointer (some ⟨q0, 0, none⟩), .pointer (some ⟨q1, 0, none⟩)] w fun e w' => e = .returned (.bool true) ∧ Holds w' q1 (readB s a) ∧ Turn [q1] w w' := by
  have hrl := hd.readLen a
  have hir := sizeBlock _ hrl
  go_enter Try.func37, Try.ntmps37
  go_wp2_with fail
  refine (find_any hd ha hlen).mono ?_
  rintro e W ⟨rfl, hx⟩
  have h2 := h1.below hx h1.lt
  have ht : Turn [q1] w W := Turn.of_below hx
  clear hx h0
  go_wp2_with (refine wpList_store_row rfl 47 _ _ rfl q1 _ rfl rfl _ _ h2 hir (by rw [cellsOf_size, cellsOf_size, hrl, zeros_length]) (cellsOf_one _) ?_)
  go_ret
  exact ⟨rfl, setRow_heap W _ _ _ _ _ h2, ht.trans ⟨rfl, rfl, rfl, by simp, fun k _ hk => setRow_other W q1 k _ (by simpa using hk)⟩⟩

theorem results_row_tmp {P : Program} {fn : Func} {p u : Tmp} {ty : TypeId} (h : fn.results = #[.cell p ty, .tmp u]) (tmps : Array Value) (w : World) (g : Nat) (t : TypeId) (cs : Array Value) (fr : Nat × Nat) (d : TypeDesc)
    (hp : tmps.getD p undef = .pointer (some ⟨g, 0, none⟩)) (hg : w.heap[g]? = some (.cells cs t fr))
    (hu : P.underlying ty = some d) (hd : (match d with | .struct _ | .array _ _ => true | _ => false) = true) (hi : (P.info? ty).map (·.size) = some cs.size) :
    (results fn tmps).run P w = .ok (.tuple #[.agg cs, tmps.getD u undef]) w := by
  rw [results_cell_tmp h, hp]
  simp only [asAddr, Sem.run_pure, Result.andThen_ok, run_loadVar_row w g t ty cs fr d hg hu hd hi]

/-- Read's answer -/
def readE (s : DS) (a : Nat) : Int := if s.n ≤ a then 2 else 0
def readR (s : DS) (a : Nat) : List UInt8 := if s.n ≤ a then zeros else readB s a

set_option maxRecDepth 100000 in
set_option maxHeartbeats 1600000 in
theorem Read_any {w : World} {p : Nat} {B : List Nat} {s : DS} (hd : Dev w p B s) {a : Nat} (ha : a < 4294967296) (hlen : s.pend.length < 4294967296) :
    Calls Try.prog 15 #[ptr p, .int .u32 (a : Int)] w fun e w' => e = .returned (.tuple #[.agg (cellsOf (readR s a)), .int .i64 (readE s a)]) ∧ Below w.heap.size w w' := by
  have hzs := (zero_of_info infoStep).1
  have hzv := (zero_of_info infoBlock).1
  have hmf : ∀ (fn : Fn) (first cap : Array Value) (w : World), (Instr.makeFunc fn first cap).run Try.prog w = .ok (.func fn first cap) w := fun _ _ _ _ => rfl
  go_enter Try.func15, Try.ntmps15
  go_wp2_with ((with_reducible refine (has_any a _).mono ?_); rintro e W2 ⟨rfl, rfl⟩)
  have hs0 : Step B w ((((w.alloc (.cells #[.int .u32 (a : Int)] 30)).alloc (.cells (cellsOf zeros) 47)).alloc (.cells #[.int .u32 (a : Int)] 30)).alloc (.cells #[.func (.func 27) #[] #[], .int .i64 1, .func (.func 48) #[] #[.pointer (some ⟨w.heap.size + 1 + 1, 0, none⟩)], .int .i64 2, .func (.func 37) #[] #[.pointer (some ⟨w.heap.size, 0, none⟩), .pointer (some ⟨w.heap.size + 1, 0, none⟩)], .int .i64 0] 76)) B := Step.of_turn (Turn.alloc (Turn.alloc (Turn.alloc (Turn.alloc (Turn.refl _ _) _) _) _) _)
  have hb0 : Below w.heap.size w ((((w.alloc (.cells #[.int .u32 (a : Int)] 30)).alloc (.cells (cellsOf zeros) 47)).alloc (.cells #[.int .u32 (a : Int)] 30)).alloc (.cells #[.func (.func 27) #[] #[], .int .i64 1, .func (.func 48) #[] #[.pointer (some ⟨w.heap.size + 1 + 1, 0, none⟩)], .int .i64 2, .func (.func 37) #[] #[.pointer (some ⟨w.heap.size, 0, none⟩), .pointer (some ⟨w.heap.size + 1, 0, none⟩)], .int .i64 0] 76)) := ((((Below.refl _ _).alloc (Nat.le_refl _) _).alloc (by simp) _).alloc (by simp; omega) _).alloc (by simp; omega) _
  obtain ⟨x0, x1, x2, x3, xs⟩ := heap4 w (.cells #[.int .u32 (a : Int)] 30) (.cells (cellsOf zeros) 47) (.cells #[.int .u32 (a : Int)] 30) (.cells #[.func (.func 27) #[] #[], .int .i64 1, .func (.func 48) #[] #[.pointer (some ⟨w.heap.size + 1 + 1, 0, none⟩)], .int .i64 2, .func (.func 37) #[] #[.pointer (some ⟨w.heap.size, 0, none⟩), .pointer (some ⟨w.heap.size + 1, 0, none⟩)], .int .i64 0] 76)
  have hlt := hd.ltB
  replace hd := hd.turn (C := []) (Turn.mono (C := []) (B := []) (Turn.alloc (Turn.alloc (Turn.alloc (Turn.alloc (Turn.refl [] _) (.cells #[.int .u32 (a : Int)] 30)) (.cells (cellsOf zeros) 47)) (.cells #[.int .u32 (a : Int)] 30)) (.cells #[.func (.func 27) #[] #[], .int .i64 1, .func (.func 48) #[] #[.pointer (some ⟨w.heap.size + 1 + 1, 0, none⟩)], .int .i64 2, .func (.func 37) #[] #[.pointer (some ⟨w.heap.size, 0, none⟩), .pointer (some ⟨w.heap.size + 1, 0, none⟩)], .int .i64 0] 76)) (fun _ h => h)) (by simp)
  generalize (((w.alloc (.cells #[.int .u32 (a : Int)] 30)).alloc (.cells (cellsOf zeros) 47)).alloc (.cells #[.int .u32 (a : Int)] 30)).alloc (.cells #[.func (.func 27) #[] #[], .int .i64 1, .func (.func 48) #[] #[.pointer (some ⟨w.heap.size + 1 + 1, 0, none⟩)], .int .i64 2, .func (.func 37) #[] #[.pointer (some ⟨w.heap.size, 0, none⟩), .pointer (some ⟨w.heap.size + 1, 0, none⟩)], .int .i64 0] 76) = W1 at hd hs0 hb0 x0 x1 x2 x3 xs ⊢
  obtain ⟨q0, hq0⟩ : ∃ z, z = w.heap.size := ⟨_, rfl⟩
  obtain ⟨q1, hq1⟩ : ∃ z, z = q0 + 1 := ⟨_, rfl⟩
  obtain ⟨q2, hq2⟩ : ∃ z, z = q1 + 1 := ⟨_, rfl⟩
  obtain ⟨sb, hsb⟩ : ∃ z, z = q2 + 1 := ⟨_, rfl⟩
  simp only [← hq0, ← hq1, ← hq2, ← hsb] at x0 x1 x2 x3 ⊢
  clear hs0
  have n1 : q1 ∉ B := fun hm => by have := hlt _ hm; omega
  have l0 : q0 < W1.heap.size := by omega
  have l1 : q1 < W1.heap.size := by omega
  have l2 : q2 < W1.heap.size := by omega
  have ls : sb < W1.heap.size := by omega
  have d0 : q0 ∉ [q1] := by simp; omega
  have d2 : q2 ∉ [q1] := by simp; omega
  have ds : sb ∉ [q1] := by simp; omega
  have hge : w.heap.size ≤ q1 := by omega
  have c0 := cell_of_row W1 q0 0 _ _ _ x0
  have c2 := cell_of_row W1 q2 0 _ _ _ x2
  have hrl := hd.readLen a
  have hoff : ∀ (W : World) (o : Obj), Turn [q1] W1 W → W.heap.size ∉ [q1] := fun W o h => by have := h.size; simp; omega
  refine (run_any (ptr p) sb 3 (by omega) (fun k => match k with | 0 => 27 | 1 => 48 | _ => 37)
    (fun k => match k with | 0 => #[] | 1 => #[.pointer (some ⟨q2, 0, none⟩)] | _ => #[.pointer (some ⟨q0, 0, none⟩), .pointer (some ⟨q1, 0, none⟩)]) (fun k => match k with | 0 => 1 | 1 => 2 | _ => 0)
    (fun k => match k with | 0 => true | 1 => decide (a < s.n) | _ => true) (fun k W => Turn [q1] W1 W ∧ Holds W q1 (if k < 3 then zeros else readB s a) ∧ Dev W p B s) W1
    (fun k hk => match k, hk with
      | 0, _ => enterExists
      | 1, _ => enterHas1
      | 2, _ => enterRead1)
    (fun k W hS j hj => ⟨(hS.1.cell (q := ⟨sb, j * 2, none⟩) ls ds).trans (match j, hj with | 0, _ => cell_of_row W1 sb 0 _ _ _ x3 | 1, _ => cell_of_row W1 sb 2 _ _ _ x3 | 2, _ => cell_of_row W1 sb 4 _ _ _ x3), (hS.1.cell (q := ⟨sb, j * 2 + 1, none⟩) ls ds).trans (match j, hj with | 0, _ => cell_of_row W1 sb 1 _ _ _ x3 | 1, _ => cell_of_row W1 sb 3 _ _ _ x3 | 2, _ => cell_of_row W1 sb 5 _ _ _ x3)⟩)
    (fun k hk => match k, hk with
      | 0, _ => fun _ W o hS => (exists_yes (hS.2.2.alloc o)).mono fun _ _ ⟨he, hw⟩ => by subst hw; exact ⟨he, ⟨hS.1.alloc o, hS.2.1.alloc o, hS.2.2.alloc o⟩, heap_alloc_new W o⟩
      | 1, _ => fun _ W o hS => (has1_any (hS.2.2.alloc o) (((hS.1.alloc o).cell (q := ⟨q2, 0, none⟩) l2 d2).trans c2)).mono fun _ W' ⟨he, hw⟩ =>
          ⟨he, ⟨(hS.1.alloc o).trans (Turn.of_below hw), (hS.2.1.alloc o).below hw (hS.2.1.alloc o).lt, (hS.2.2.alloc o).below hw⟩, (hw.block _ (by simp)).trans (heap_alloc_new W o)⟩
      | 2, _ => fun _ W o hS => (read1_any (hS.2.2.alloc o) ha hlen (((hS.1.alloc o).cell (q := ⟨q0, 0, none⟩) l0 d0).trans c0) (hS.2.1.alloc o)).mono fun _ W' ⟨he, hh, ht⟩ =>
          ⟨he, ⟨(hS.1.alloc o).trans ht, hh, (hS.2.2.alloc o).turn ht (fun k hk hm => n1 (by simp only [List.mem_singleton] at hm; exact hm ▸ hk))⟩, (ht.block _ (by simp) (hoff W o hS.1)).trans (heap_alloc_new W o)⟩)
    ⟨Turn.refl _ _, x1, hd⟩).mono ?_
  rintro e W2 ⟨m, z, rfl, hend, ht, hh, hd2⟩
  have key : z = readE s a ∧ Holds W2 q1 (readR s a) := by
    by_cases hn : s.n ≤ a
    · obtain ⟨rfl, rfl⟩ := runEnd_stop hend 1 (by omega) (fun k hk => by obtain rfl : k = 0 := by omega
                                                                         rfl) (decide_eq_false (by omega))
      exact ⟨(if_pos hn).symm, by rw [show readR s a = zeros from if_pos hn]; exact hh⟩
    · obtain ⟨rfl, rfl⟩ := runEnd_all hend (fun k hk => by
        have hk' : k = 0 ∨ k = 1 ∨ k = 2 := by omega
        rcases hk' with rfl | rfl | rfl
        · rfl
        · exact decide_eq_true (by omega)
        · rfl)
      exact ⟨(if_neg hn).symm, by rw [show readR s a = readB s a from if_neg hn]; exact hh⟩
  obtain ⟨rfl, hh2⟩ := key
  have hrr : (readR s a).length = 256 := by
    unfold readR
    split
    · exact zeros_length
    · exact hrl
  have hir := sizeBlock _ hrr
  have hb2 : Below w.heap.size w W2 := hb0.trans (ht.below (fun k hk => by simp only [List.mem_singleton] at hk; omega) hb0.size)
  clear hend hh ht hd2 hd hoff x0 x1 x2 x3 c0 c2 xs d0 d2 ds l0 l1 l2 ls hsb hq2 hq1 hq0
  go_wp2_with (first | (refine wpList_load_row rfl 47 _ rfl q1 rfl _ _ _ _ hh2 Try.underlying47 rfl hir ?_) | (refine wpList_store_row rfl 47 _ _ rfl q1 _ rfl rfl _ _ hh2 hir rfl (cellsOf_one _) ?_))
  exact bodyPost_ret (results_row_tmp rfl _ _ _ _ _ _ _ rfl (setRow_heap W2 _ _ _ _ _ hh2) Try.underlying47 rfl hir) rfl ⟨rfl, below_row hb2 hge⟩

end Go.Proofs.Ytlgjgobelceheaa.Dev
