/-
  The steps of a device's call; making a write durable; Flush.
-/
import Derived.Test.YtlgjgobelceheaaDevBlk
namespace Go.Proofs.Ytlgjgobelceheaa.Dev
open Go.RowKit RowLaw

theorem DevAt.setMap {w w' : World} {p bm : Nat} {pv : Value} {B : List Nat} {s : DS} (h : DevAt w p bm pv B s) {g : Nat → List UInt8} (hm : MapIs w' bm g) (hg : w.grownBy w' (some bm)) (hl : ∀ a, (g a).length = 256) : DevAt w' p bm pv B { s with g := g } :=
  { h with
    obj := (hg.block p (h.ltB p h.inP) (fun e => h.neM (by injection e with e; exact e.symm))).trans h.obj
    map := hm
    row := ownsRow_block h.row (fun k hk => hg.block k (h.ltB k (h.inR k hk)) (fun e => h.neMR (by rw [hk, e])))
    ltB := fun k hk => Nat.lt_of_lt_of_le (h.ltB k hk) hg.size
    okG := hl }
theorem upd_length {g : Nat → List UInt8} (hg : ∀ a, (g a).length = 256) {l : List UInt8} (hl : l.length = 256) (a : Nat) : ∀ x, (upd g a l x).length = 256 := fun x => by
  unfold upd
  split
  · exact hl
  · exact hg x

set_option maxRecDepth 100000 in
set_option maxHeartbeats 1600000 in
theorem store_at {w : World} {p bm : Nat} {pv : Value} {B : List Nat} {s : DS} (h : DevAt w p bm pv B s) {a : Nat} (ha : a < 4294967296) {l : List UInt8} (hl : l.length = 256) :
    Calls Try.prog 47 #[ptr p, .int .u32 (a : Int), .agg (cellsOf l)] w fun e w' => e = .returned (.tuple #[]) ∧ DevAt w' p bm pv B { s with g := upd s.g a l } ∧ Turn B w w' := by
  have hzv := (zero_of_info infoBlock).1
  have hA := Holds.new w l
  have hi := sizeBlock l hl
  have h1 := h.alloc (.cells (cellsOf l) 47)
  have ht1 : Turn B w (w.alloc (.cells (cellsOf l) 47)) := (Turn.refl _ _).alloc _
  have hg := fun (W : World) (op : BinOp) (x y : Operand) (xs ys : Array Value) => run_eqGuard_agg (P := Try.prog) W op 47 x y xs ys noGuard
  have he := fun (W : World) => run_eqBlock W l zeros hl zeros_length
  unfold ptr
  have c1 : (w.alloc (.cells (cellsOf l) 47)).cell? ⟨p, 1, none⟩ = some (.map (some bm)) := h1.cell 1
  by_cases hz : l = zeros
  · have hd : decide (l = zeros) = true := decide_eq_true hz
    rw [hd] at he
    have HZ := Lib.hid hz
    clear hz hd
    go_enter Try.func47, Try.ntmps47
    go_wp2_with (first | (refine wpList_load_row rfl 47 _ rfl w.heap.size rfl _ _ _ _ hA Try.underlying47 rfl hi ?_) | (at_delete; refine wpList_drop rfl _ _ rfl Try.underlying30 Try.underlying52 h1.map ha rfl rfl ?_; intro w2 hm2 hg2))
    go_end0
    exact ⟨rfl, by rw [HZ.out]; exact h1.setMap hm2 hg2 (upd_length h.okG zeros_length a), ht1.trans (Turn.of_grown hg2 h.inM)⟩
  · have hd : decide (l = zeros) = false := decide_eq_false hz
    rw [hd] at he
    have HZ := Lib.hid hz
    clear hz hd
    go_enter Try.func47, Try.ntmps47
    go_wp2_with (refine wpList_load_row rfl 47 _ rfl w.heap.size rfl _ _ _ _ hA Try.underlying47 rfl hi ?_)
    generalize w.heap.size = b1 at hA ⊢
    generalize w.alloc (.cells (cellsOf l) 47) = W0 at hA h1 ht1 c1 ⊢
    refine wp_region_still_tail 6 (by kernel_rfl) (by kernel_rfl) ?_
    simp only [List.take_succ_cons, List.take_zero, List.drop_succ_cons, List.drop_zero]
    still_step
    still_step
    still_step
    still_step
    still_step
    refine wpStill_step (fun K hK => ?_)
    rw [if_pos (by rfl)]
    refine still_load_row 47 _ rfl b1 rfl _ _ _ _ hA Try.underlying47 rfl hi ?_
    refine hK _ ?_
    clear hK K
    refine wpStill_nil ?_
    change wpList _ _ _ _ _ W0.drew
    have h2 := h1.drew
    have ht2 := ht1.drew
    generalize W0.drew = W at h2 ht2 ⊢
    refine wpList_put rfl _ _ _ rfl Try.underlying30 Try.underlying52 h2.map ha rfl rfl rfl ?_
    intro w2 hm2 hg2
    go_wp2
    go_end0
    exact ⟨rfl, h2.setMap hm2 hg2 (upd_length h.okG hl a), ht2.trans (Turn.of_grown hg2 h.inM)⟩

theorem infoPut : (Try.prog.info? 72).map (fun i => (i.zero, i.size, i.bytes)) = some (some (.agg (putCells (0, zeros)).toArray), 257, 260) := by kernel_rfl
theorem sizePut (x : Nat × List UInt8) (hx : x.2.length = 256) : (Try.prog.info? 72).map (·.size) = some (putCells x).length := by
  rw [putCells_length hx]
  have h := congrArg (Option.map fun y => y.2.1) infoPut
  simpa [Option.map_map, Function.comp_def] using h
theorem zeroPut (w : World) : (zeroValue 72).run Try.prog w = .ok (.agg (putCells (0, zeros)).toArray) w := by
  have h : (Try.prog.info? 72).map (fun i => (i.zero, i.size)) = some (some (.agg (putCells (0, zeros)).toArray), 257) := by
    have h := congrArg (Option.map fun y => (y.1, y.2.1)) infoPut
    simpa [Option.map_map, Function.comp_def] using h
  exact (zero_of_info h).1 w
theorem putCells_one (x : Nat × List UInt8) : ∀ v ∈ putCells x, v.oneCell' = true := by
  intro v hv
  simp only [putCells, List.mem_cons, cellsOf, List.mem_map] at hv
  rcases hv with rfl | ⟨u, _, rfl⟩ <;> rfl
theorem DevAt.rangePut {w : World} {p bm : Nat} {pv : Value} {B : List Nat} {s : DS} (h : DevAt w p bm pv B s) {gr cap : Nat} (hpv : pv = .slice (some ⟨gr, 0, none⟩) s.pend.length cap) (i : Nat) (hi : i < s.pend.length) :
    w.rangeAt gr (i * 257) (putCells s.pend[i]) := by
  intro j v hv
  obtain ⟨gr', cap', he, hc⟩ := h.pendAt i hi
  rw [hpv] at he
  obtain ⟨rfl, rfl⟩ : gr' = gr ∧ cap' = cap := by simp at he; exact ⟨he.1.symm, he.2.symm⟩
  have hj := (List.getElem?_eq_some_iff.1 hv).1
  rw [putCells_length (h.okP _ (List.getElem_mem hi))] at hj
  rw [hc j hj]
  exact hv
/-- a block that holds a write -/
theorem range_of_row {w : World} {b : Nat} {x : Nat × List UInt8} {t : TypeId} (h : w.heap[b]? = some (.cells (putCells x).toArray t (0, 0))) : w.cell? ⟨b, 0, none⟩ = some (.int .u32 (x.1 : Int)) ∧ w.rangeAt b 1 (cellsOf x.2).toList := by
  refine ⟨cell_of_row w b 0 _ _ _ h, fun j v hv => ?_⟩
  refine (cell_of_row w b (1 + j) _ _ _ h).trans ?_
  rw [Nat.add_comm]
  have e : (putCells x).toArray[j + 1]? = (cellsOf x.2).toList[j]? := by simp [putCells]
  rw [e]
  exact hv

/-- what is durable behind some writes -/
def applyP (g : Nat → List UInt8) (l : List (Nat × List UInt8)) : Nat → List UInt8 := l.foldl (fun g x => upd g x.1 x.2) g
theorem applyP_snoc (g : Nat → List UInt8) (l : List (Nat × List UInt8)) (k : Nat) (hk : k < l.length) : applyP g (l.take (k + 1)) = upd (applyP g (l.take k)) l[k].1 l[k].2 := by
  unfold applyP
  rw [List.take_add_one, List.getElem?_eq_getElem hk, List.foldl_append]
  rfl
/-- a load of cells that are an array's, out of the middle of a block -/
theorem wpList_load_sub {P : Program} {ops : Array Oper} {rest : List Oper} {op : Oper} {a : Act} {w : World} {Q : Exit → Act → World → Prop} (hgd : op.guard = none) (ty : TypeId) (x : Operand) (ho : op.op = .load ty x)
    (b o : Nat) (hx : a.eval x = .pointer (some ⟨b, o, none⟩)) (cs : Array Value) (d : TypeDesc) (hc : w.rangeAt b o cs.toList)
    (hu : P.underlying ty = some d) (hd : d.isRow = true) (hi : (P.info? ty).map (·.size) = some cs.size)
    (h : wpList P ops Q rest (a.put op.dst (.agg cs)) w) : wpList P ops Q (op :: rest) a w :=
  wpList_load_mid hgd ty x ho b o hx cs.toList d hc hu hd (by simpa using hi) (by simpa using h)
theorem sizePut' (x : Nat × List UInt8) (hx : x.2.length = 256) : (Try.prog.info? 72).map (·.size) = some (putCells x).toArray.size := sizePut x hx
theorem wpList_new_put {ops : Array Oper} {rest : List Oper} {o : Oper} {a : Act} {w : World} {Q : Exit → Act → World → Prop} (hgd : o.guard = none) (x y : Operand) (ho : o.op = .store 72 x y)
    (v : Nat × List UInt8) (hv : v.2.length = 256) (hx : a.eval x = .pointer (some ⟨w.heap.size, 0, none⟩)) (hy : a.eval y = .agg (putCells v).toArray)
    (h : wpList Try.prog ops Q rest (a.put o.dst undef) (w.alloc (.cells (putCells v).toArray 72))) : wpList Try.prog ops Q (o :: rest) a (w.alloc (.cells (putCells (0, zeros)).toArray 72)) :=
  wpList_store_new hgd 72 x y ho _ _ _ hx hy (sizePut' v hv) (by simp only [List.size_toArray]; rw [putCells_length hv, putCells_length zeros_length]) (all_oneCell_toArray (putCells_one v)) h

def flushed (s : DS) : DS := { s with g := applyP s.g s.pend, pend := [] }

set_option maxRecDepth 100000 in
set_option maxHeartbeats 1600000 in
theorem flush_any {w : World} {p : Nat} {B : List Nat} {s : DS} (hd : Dev w p B s) (hlen : s.pend.length < 4294967296) :
    Calls Try.prog 35 #[ptr p] w fun e w' => e = .returned (.bool true) ∧ Dev w' p B (flushed s) ∧ Turn B w w' := by
  obtain ⟨bm, pv, h⟩ := hd
  obtain ⟨ao, cap, hpv⟩ := h.pvIs
  have c2 : w.cell? ⟨p, 2, none⟩ = some pv := h.cell 2
  rw [hpv] at c2
  have hzp := zeroPut
  obtain ⟨n, hn⟩ : ∃ n, n = s.pend.length := ⟨_, rfl⟩
  rw [← hn] at c2 hlen hpv
  have HN := Lib.hid hn; clear hn
  have HPV := Lib.hid hpv; clear hpv
  go_enter Try.func35, Try.ntmps35
  unfold ptr
  go_wp2
  go_loopw [10] (fun i wr => ∃ k : Nat, k ≤ n ∧ i = .int .i64 k ∧ DevAt wr p bm pv B { s with g := applyP s.g (s.pend.take k) } ∧ Turn B w wr) (fun i _ => n - (intOf i).toNat)
  case atStart => exact ⟨0, Nat.zero_le _, rfl, h, Turn.refl _ _⟩
  case round =>
    obtain ⟨k, hk, rfl, hk2, htk⟩ := hrel
    clear h c2
    by_cases hkn : k < n
    · have hkl : k < s.pend.length := by have := HN.out; omega
      obtain ⟨gr, cap', he, _⟩ := hk2.pendAt k hkl
      obtain rfl : ao = some ⟨gr, 0, none⟩ := by have e := HPV.out; rw [he] at e; injection e with e; exact e.symm
      have hr := hk2.rangePut he k hkl
      have hxa := hk2.okA _ (List.getElem_mem hkl)
      have hxl := hk2.okP _ (List.getElem_mem hkl)
      have hstep := applyP_snoc s.g s.pend k hkl
      clear he
      simp only at hr hxa hxl
      generalize s.pend[k] = x at hr hxa hxl hstep
      obtain ⟨xa, xl⟩ := x
      simp only at hxa hxl hstep
      have h2 := hk2.alloc (.cells (putCells (xa, xl)).toArray 72)
      have ht2 := htk.alloc (.cells (putCells (xa, xl)).toArray 72)
      obtain ⟨ca, cr⟩ := range_of_row (x := (xa, xl)) (heap_alloc_new wr (.cells (putCells (xa, xl)).toArray 72))
      have hsp := sizePut (xa, xl) hxl
      have hsb := sizeBlock xl hxl
      have tok : True := trivial
      have HS := Lib.hid hstep
      clear hk2 htk hstep
      go_wp2_with (first | (refine wpList_load_mid rfl 72 _ rfl gr (k * 257) rfl (putCells (xa, xl)) _ hr Try.underlying72 rfl hsp ?_) | (have _t := tok; refine wpList_new_put rfl _ _ rfl (xa, xl) hxl rfl rfl ?_; generalize hbn : wr.heap.size = b1 at ca cr ⊢; generalize wr.alloc (.cells (putCells (xa, xl)).toArray 72) = W1 at ca cr h2 ht2 ⊢; clear hbn hr _t tok) | (refine wpList_load_sub rfl 47 _ rfl b1 1 rfl (cellsOf xl) _ cr Try.underlying47 rfl hsb ?_))
      refine (store_at h2 hxa hxl).mono ?_
      rintro e W2 ⟨rfl, h3, ht3⟩
      have hb3 : DevAt W2 p bm pv B { s with g := applyP s.g (s.pend.take (k + 1)) } := by rw [HS.out]; exact h3
      have htf := ht2.trans ht3
      clear h3 ht3 h2 ht2 ca cr
      go_wp2
      go_roundw
      case rel => exact ⟨k + 1, by omega, by go_num, hb3, htf⟩
      case measure => simp [intOf]; omega
    · have hkk : k = n := by omega
      subst hkk
      have f2 := hk2.frozen 2
      have c2 := hk2.cell 2
      have e1 : s.pend.take k = s.pend := by rw [HN.out]; exact List.take_length
      rw [e1] at hk2
      have hs := hk2.setField 2 (.slice none 0 0) (flushed s) (.slice none 0 0) rfl rfl rfl (.inr ⟨rfl, rfl⟩) hk2.okL
      have ht := htk.setCell ⟨p, 2, none⟩ (.slice none 0 0) (.inl hk2.inP)
      clear hk2 htk
      go_wp2
      go_ret
      exact ⟨rfl, ⟨bm, _, hs⟩, ht⟩

/-! The steps of a call -/
theorem runEnd_all {n : Nat} {bs : Nat → Bool} {es : Nat → Int} {m : Nat} {e : Int} (h : RunEnd n bs es m e) (hb : ∀ k, k < n → bs k = true) : m = n ∧ e = 0 := by
  rcases h with ⟨h1, h2, _⟩ | ⟨k, hk, _, _, h3, _⟩
  · exact ⟨h1, h2⟩
  · rw [hb k hk] at h3; cases h3
theorem runEnd_stop {n : Nat} {bs : Nat → Bool} {es : Nat → Int} {m : Nat} {e : Int} (h : RunEnd n bs es m e) (j : Nat) (hj : j < n) (hb : ∀ k, k < j → bs k = true) (hf : bs j = false) : m = j + 1 ∧ e = es j := by
  rcases h with ⟨_, _, h3⟩ | ⟨k, hk, h1, h2, h3, h4⟩
  · rw [h3 j hj] at hf; cases hf
  · have : k = j := by
      rcases Nat.lt_trichotomy k j with hlt | heq | hgt
      · rw [hb k hlt] at h3; cases h3
      · exact heq
      · rw [h4 j hgt] at hf; cases hf
    subst this
    exact ⟨h1, h2⟩

theorem step_same {w w' : World} {p : Nat} {B : List Nat} {s : DS} (h : Dev w p B s) (hb : Below w.heap.size w w') : ∃ C, Dev w' p C s ∧ Step B w w' C := ⟨B, h.below hb, Step.of_turn (Turn.of_below hb)⟩
theorem step_eq {w w' : World} {p : Nat} {B : List Nat} {s : DS} (h : Dev w p B s) (hb : w' = w) : ∃ C, Dev w' p C s ∧ Step B w w' C := by subst hb; exact ⟨B, h, Step.refl _ _⟩
theorem step_turn {w w' : World} {p : Nat} {B : List Nat} {s : DS} (h : Dev w' p B s) (hb : Turn B w w') : ∃ C, Dev w' p C s ∧ Step B w w' C := ⟨B, h, Step.of_turn hb⟩

theorem steps_any {w : World} {p sb n : Nat} (hn : n < 1000) (fs : Nat → FuncId) (caps : Nat → Array Value) (es : Nat → Int) (bs : Nat → Bool) (ss : Nat → DS) {B : List Nat}
    (hd : Dev w p B (ss 0)) (hsb : sb < w.heap.size) (hsn : sb ∉ B)
    (hrow : ∀ j, j < n → w.cell? ⟨sb, j * 2, none⟩ = some (.func (.func (fs j)) #[] (caps j)) ∧ w.cell? ⟨sb, j * 2 + 1, none⟩ = some (.int .i64 (es j)))
    (hen : ∀ k, k < n → ∀ (args : Array Value) (W : World), (callFunc (fs k) args).run Try.prog W = .ok (.enter (fs k) args) W)
    (hcall : ∀ k, k < n → (∀ j, j < k → bs j = true) → ∀ W C, Dev W p C (ss k) → Step B w W C → Calls Try.prog (fs k) (#[ptr p] ++ caps k) W fun e W' => e = .returned (.bool (bs k)) ∧ ∃ C', Dev W' p C' (ss (k + 1)) ∧ Step C W W' C') :
    Calls Try.prog 30 #[ptr p, .slice (some ⟨sb, 0, none⟩) n n] w fun e w' => ∃ m z, e = .returned (.int .i64 z) ∧ RunEnd n bs es m z ∧ ∃ C, Dev w' p C (ss m) ∧ Step B w w' C := by
  refine run_any (ptr p) sb n hn fs caps es bs (fun k W => ∃ C, Dev W p C (ss k) ∧ Step B w W C) w hen ?_ ?_ ⟨B, hd, Step.refl _ _⟩
  · rintro k W ⟨C, _, hs⟩ j hj
    obtain ⟨h1, h2⟩ := hrow j hj
    exact ⟨(hs.turn.cell (q := ⟨sb, j * 2, none⟩) hsb hsn).trans h1, (hs.turn.cell (q := ⟨sb, j * 2 + 1, none⟩) hsb hsn).trans h2⟩
  · rintro k hk hb0 W o ⟨C, hc, hs⟩
    have hb : Below W.heap.size W (W.alloc o) := (Below.refl _ _).alloc (Nat.le_refl _) o
    refine (hcall k hk hb0 (W.alloc o) C (hc.alloc o) ⟨hs.turn.alloc o, hs.sub⟩).mono ?_
    rintro e W' ⟨he, C', h1, h2⟩
    have hs1 : Step B w (W.alloc o) C := ⟨hs.turn.alloc o, hs.sub⟩
    refine ⟨he, ⟨C', h1, hs1.trans h2⟩, ?_⟩
    rw [h2.turn.block W.heap.size (by simp) (fun hm => by have := hc.ltB _ hm; omega)]
    exact heap_alloc_new W o

theorem enterExists : ∀ (args : Array Value) (W : World), (callFunc 27 args).run Try.prog W = .ok (.enter 27 args) W := fun _ _ => by simp [go_sem]
theorem enterIsUp : ∀ (args : Array Value) (W : World), (callFunc 33 args).run Try.prog W = .ok (.enter 33 args) W := fun _ _ => by simp [go_sem]
theorem enterSucceed : ∀ (args : Array Value) (W : World), (callFunc 34 args).run Try.prog W = .ok (.enter 34 args) W := fun _ _ => by simp [go_sem]
theorem enterFlush : ∀ (args : Array Value) (W : World), (callFunc 35 args).run Try.prog W = .ok (.enter 35 args) W := fun _ _ => by simp [go_sem]

/-- Flush's answer, and what is there then -/
def flushE (s : DS) : Int := if s.down = true ∨ s.left = 0 then 30 else 0
def flushS (s : DS) : DS := if s.down = true then s else if s.left = 0 then { s with down := true } else flushed (succS s)

set_option maxHeartbeats 800000 in
theorem Flush_any {w : World} {p : Nat} {B : List Nat} {s : DS} (hd : Dev w p B s) (hlen : s.pend.length < 4294967296) :
    Calls Try.prog 14 #[ptr p] w fun e w' => e = .returned (.int .i64 (flushE s)) ∧ ∃ C, Dev w' p C (flushS s) ∧ Step B w w' C := by
  have hzs := (zero_of_info infoStep).1
  go_enter Try.func14, Try.ntmps14
  go_wp2_with fail
  have hx := heap_alloc_new w (.cells #[.func (.func 27) #[] #[], .int .i64 1, .func (.func 33) #[] #[], .int .i64 30, .func (.func 34) #[] #[], .int .i64 30, .func (.func 35) #[] #[], .int .i64 0] 76)
  have hl : w.heap.size < (w.alloc (.cells #[.func (.func 27) #[] #[], .int .i64 1, .func (.func 33) #[] #[], .int .i64 30, .func (.func 34) #[] #[], .int .i64 30, .func (.func 35) #[] #[], .int .i64 0] 76)).heap.size := by simp
  have hs0 : Step B w (w.alloc (.cells #[.func (.func 27) #[] #[], .int .i64 1, .func (.func 33) #[] #[], .int .i64 30, .func (.func 34) #[] #[], .int .i64 30, .func (.func 35) #[] #[], .int .i64 0] 76)) B := Step.of_turn ((Turn.refl _ _).alloc _)
  have hn : w.heap.size ∉ B := fun hm => by have := hd.ltB _ hm; omega
  replace hd := hd.alloc (.cells #[.func (.func 27) #[] #[], .int .i64 1, .func (.func 33) #[] #[], .int .i64 30, .func (.func 34) #[] #[], .int .i64 30, .func (.func 35) #[] #[], .int .i64 0] 76)
  generalize w.alloc (.cells #[.func (.func 27) #[] #[], .int .i64 1, .func (.func 33) #[] #[], .int .i64 30, .func (.func 34) #[] #[], .int .i64 30, .func (.func 35) #[] #[], .int .i64 0] 76) = W1 at hd hx hs0 hl ⊢
  generalize w.heap.size = sb at hx hn hl ⊢
  have hpl : (succS s).pend = s.pend := by unfold succS; split <;> rfl
  refine (steps_any (by omega) (fun k => match k with | 0 => 27 | 1 => 33 | 2 => 34 | _ => 35) (fun _ => #[]) (fun k => match k with | 0 => 1 | 1 => 30 | 2 => 30 | _ => 0)
    (fun k => match k with | 0 => true | 1 => !s.down | 2 => succB s | _ => true) (fun k => match k with | 0 => s | 1 => s | 2 => s | 3 => succS s | _ => flushed (succS s)) hd hl hn
    (fun j hj => match j, hj with
      | 0, _ => ⟨cell_of_row W1 sb 0 _ _ _ hx, cell_of_row W1 sb 1 _ _ _ hx⟩
      | 1, _ => ⟨cell_of_row W1 sb 2 _ _ _ hx, cell_of_row W1 sb 3 _ _ _ hx⟩
      | 2, _ => ⟨cell_of_row W1 sb 4 _ _ _ hx, cell_of_row W1 sb 5 _ _ _ hx⟩
      | 3, _ => ⟨cell_of_row W1 sb 6 _ _ _ hx, cell_of_row W1 sb 7 _ _ _ hx⟩)
    (fun k hk => match k, hk with
      | 0, _ => enterExists
      | 1, _ => enterIsUp
      | 2, _ => enterSucceed
      | 3, _ => enterFlush)
    (fun k hk => match k, hk with
      | 0, _ => fun _ W C hC _ => (exists_yes hC).mono fun _ _ ⟨he, hw⟩ => ⟨he, step_eq hC hw⟩
      | 1, _ => fun _ W C hC _ => (isUp_any hC).mono fun _ _ ⟨he, hw⟩ => ⟨he, step_eq hC hw⟩
      | 2, _ => fun _ W C hC _ => (succeed_any hC).mono fun _ _ ⟨he, h1, h2⟩ => ⟨he, step_turn h1 h2⟩
      | 3, _ => fun _ W C hC _ => (flush_any (s := succS s) hC (by rw [hpl]; exact hlen)).mono fun _ _ ⟨he, h1, h2⟩ => ⟨he, step_turn h1 h2⟩)).mono ?_
  rintro e W2 ⟨m, z, rfl, hend, C, hC, hS⟩
  have key : z = flushE s ∧ Dev W2 p C (flushS s) := by
    by_cases h1 : s.down = true
    · obtain ⟨rfl, rfl⟩ := runEnd_stop hend 1 (by omega) (fun k hk => by obtain rfl : k = 0 := by omega
                                                                         rfl) (by simp [h1])
      exact ⟨by simp [flushE, h1], by rw [show flushS s = s from if_pos h1]; exact hC⟩
    · have h1' : s.down = false := by simpa using h1
      by_cases h2 : s.left = 0
      · obtain ⟨rfl, rfl⟩ := runEnd_stop hend 2 (by omega) (fun k hk => by
          have hk' : k = 0 ∨ k = 1 := by omega
          rcases hk' with rfl | rfl
          · rfl
          · simp [h1']) (by simp [succB, h2])
        exact ⟨by simp [flushE, h2], by rw [show flushS s = succS s from by rw [flushS, if_neg h1, if_pos h2, succS, if_pos h2]]; exact hC⟩
      · obtain ⟨rfl, rfl⟩ := runEnd_all hend (fun k hk => by
          have hk' : k = 0 ∨ k = 1 ∨ k = 2 ∨ k = 3 := by omega
          rcases hk' with rfl | rfl | rfl | rfl
          · rfl
          · simp [h1']
          · simp [succB, h2]
          · rfl)
        exact ⟨by simp [flushE, h1', h2], by rw [show flushS s = flushed (succS s) from by rw [flushS, if_neg h1, if_neg h2]]; exact hC⟩
  obtain ⟨rfl, hC2⟩ := key
  have hS2 := hs0.trans hS
  clear hend hC hd hs0 hS
  go_wp2
  go_ret
  exact ⟨rfl, C, hC2, hS2⟩

end Go.Proofs.Ytlgjgobelceheaa.Dev
