/-
  The walk of root.zeros.
-/
import Derived.Test.YtlojhdnahioicaaRotRun
import Derived.Test.YtlojhdnahioicaaCrc3
import Derived.Test.YtlojhdnahioicaaKit1
namespace Go.Proofs.Ytlojhdnahioicaa.Rot
open Go.RowKit RowLaw Crc
set_option maxRecDepth 100000
open Go.Proofs.Ytlojhdnahioicaa.Fld (blockO)
open Go.Proofs.Ytlojhdnahioicaa.Dev (Dev DS ptr putCells pendCells pendCells_append putCells_length putCells_one infoPut fill_one size_of_putCells run_buildPut below_own new_cells readB readR readE Read_any)

/-- a put at an address, of zeros -/
theorem built_put0 (a : Nat) : Try.prog.built 53 [(0, .int .u32 (a : Int))] = some (putCells (a, zeros)).toArray := by
  obtain ⟨it, hit, hz⟩ : ∃ it, Try.prog.info? 53 = some it ∧ it.zero = some (.agg (putCells (0, zeros)).toArray) := by
    have h := infoPut
    cases hq : Try.prog.info? 53 with
    | none => rw [hq] at h; cases h
    | some it =>
      rw [hq] at h
      simp only [Option.map_some, Option.some.injEq, Prod.mk.injEq] at h
      exact ⟨it, rfl, h.1⟩
  unfold Program.built
  rw [hit, Try.underlying53]
  simp only [hz]
  have hp : (List.mapM (fun f : Field => (Try.prog.info? f.type).map fun i => (f.offset, i.size)) [{ name := "At", type := 22, offset := 0, embedded := false, tag := "", pkgPath := "", byteOffset := 0 }, { name := "B", type := 49, offset := 1, embedded := false, tag := "", pkgPath := "", byteOffset := 4 }]) = some [(0, 1), (1, 256)] := by kernel_rfl
  rw [hp]
  have h0 := size_of_putCells (x := (0, zeros)) zeros_length
  show Instr.fill _ (putCells (0, zeros)).toArray _ = _
  rw [fill_one (off := 0) (size := 1) rfl rfl (by rw [h0]; omega)]
  rfl
theorem wpList_build_run {P : Program} {ops : Array Oper} {rest : List Oper} {o : Oper} {a : Act} {w W' : World} {Q : Exit → Act → World → Prop} (hgd : o.guard = none) (t : TypeId) (n : Nat) (xs : Array (Nat × Operand)) (ho : o.op = .buildSlice t n xs)
    (ps : Array (Nat × Value)) (hx : (xs.map fun x => (x.1, a.eval x.2)) = ps) (v : Value) (hr : (Instr.buildSlice t n ps).run P w = .ok v W') (h : wpList P ops Q rest (a.put o.dst v) W') : wpList P ops Q (o :: rest) a w :=
  wpList_plain hgd fun _ hK => wp_slice_row o t n xs ho ps hx v hr (hK _ _ h)
theorem run_buildP0 (W : World) (a : Nat) : (Instr.build 53 #[(0, .int .u32 (a : Int))]).run Try.prog W = .ok (.agg (putCells (a, zeros)).toArray) W := run_build W _ _ _ (built_put0 a)

theorem zeroCells_put : Try.zeroCells53 = (putCells (0, zeros)).toArray := by kernel_rfl
theorem zeroCells_at (a : Nat) : Try.zeroCells53.setIfInBounds 0 (.int .u32 (a : Int)) = (putCells (a, zeros)).toArray := by
  rw [zeroCells_put]
  simp [putCells]
theorem pend_one (x : Nat × List UInt8) : pendCells [x] = putCells x := by simp [pendCells]
/-- a row of puts, as rows -/
theorem puts_of_row {W : World} {base n : Nat} {v : Value} {l : List (Nat × List UInt8)} (hn : n = l.length) (h : W.ownsRow base 53 257 v n (pendCells l)) (hl : ∀ x ∈ l, x.1 < 4294967296 ∧ x.2.length = 256) :
    ∃ pa cap, v = .slice pa n cap ∧ Puts W pa l ∧ ∀ a, pa = some a → base ≤ a.block ∧ ∃ cur, W.heap[a.block]? = some (.cells cur 53 (0, 0)) := by
  subst hn
  rcases h.2 with ⟨rfl, h0⟩ | ⟨g, cap, cur, rfl, h3, h4, _⟩
  · refine ⟨none, 0, by rw [h0], ⟨hl, .inl (List.eq_nil_of_length_eq_zero h0)⟩, fun a ha => by cases ha⟩
  · refine ⟨_, cap, rfl, ⟨hl, .inr ⟨g, 0, rfl, (Array.getElem?_eq_some_iff.1 h4).1, fun i hi j u hu => ?_⟩⟩, fun a ha => by cases ha; exact ⟨h3, cur, h4⟩⟩
    have hj : j < 257 := by
      have := (List.getElem?_eq_some_iff.1 hu).1
      rw [putCells_length (hl _ (List.getElem_mem hi)).2] at this
      exact this
    rw [Nat.zero_add, h.cellAt (i * 257 + j) (by have : i * 257 + 257 ≤ l.length * 257 := by rw [← Nat.succ_mul]; exact Nat.mul_le_mul_right _ hi
                                                 omega), Dev.pendCells_get (fun x hx => (hl x hx).2) i hi j hj]
    exact hu
theorem own_below {W W' : World} {base : Nat} {e : TypeId} {size n : Nat} {v : Value} {xs : List Value} (h : W.ownsRow base e size v n xs) (hb : Below W.heap.size W W') : W'.ownsRow base e size v n xs := Dev.ownsRow_block h (fun k hk => hb.block k (h.lt k hk).2)
theorem Puts.below {W W' : World} {pa : Option Addr} {l : List (Nat × List UInt8)} (h : Puts W pa l) (hb : Below W.heap.size W W') : Puts W' pa l := by
  obtain ⟨h1, h2⟩ := h
  refine ⟨h1, ?_⟩
  rcases h2 with h2 | ⟨b, off, h3, h4, h5⟩
  · exact .inl h2
  · exact .inr ⟨b, off, h3, Nat.lt_of_lt_of_le h4 hb.size, fun i hi j v hv => by
      rw [World.cell?_of_block (w := W) (a := ⟨b, off + i * 257 + j, none⟩) (hb.block b h4)]
      exact h5 i hi j v hv⟩

set_option maxHeartbeats 3200000 in
theorem zeros_any {w : World} {p : Nat} {B : List Nat} {s : DS} (hd : Dev w p B s) (hlen : s.pend.length < 4294967296) {n : Nat} (hn : n ≤ s.n) :
    Calls Try.prog 29 #[ptr p, .int .u32 (n : Int)] w fun e w' => ∃ v, e = .returned v ∧ w'.ownsRow w.heap.size 53 257 v (toZero (readB s) n).length (pendCells (toZero (readB s) n)) ∧ Below w.heap.size w w' := by
  have hzb := (zero_of_info infoBlock).1
  obtain ⟨ik, hik0, hik1, hik2, hik3⟩ := info_parts infoPut
  have hsN : s.n < 4294967296 := by obtain ⟨_, _, h⟩ := hd; exact h.okN.2
  have hg := fun (W : World) (op : BinOp) (x y : Operand) (xs ys : Array Value) => run_eqGuard_agg (P := Try.prog) W op 49 x y xs ys noGuard
  have HRd : Hid (∀ (a : Nat), a < s.n → ∀ W, Below w.heap.size w W → Calls Try.prog 17 #[ptr p, .int .u32 (a : Int)] W fun e w' => e = .returned (.tuple #[.agg (cellsOf (readB s a)), .int .i64 0]) ∧ Below W.heap.size W w') := Lib.hid (fun a ha W hW => by
    have := Read_any (hd.below hW) (a := a) (by omega) hlen
    rw [readR, if_neg (by omega), readE, if_neg (by omega)] at this
    exact this)
  have HL := Lib.hid (fun a => hd.readLen a)
  clear hd hlen
  unfold ptr at HRd ⊢
  generalize readB s = rd at HRd HL ⊢
  go_enter Try.func29, Try.ntmps29
  go_wp2_with fail
  go_loopw [5, 10] (fun v i wr => ∃ k : Nat, k ≤ n ∧ i = .int .u32 k ∧ wr.ownsRow w.heap.size 53 257 v (toZero rd k).length (pendCells (toZero rd k)) ∧ Below w.heap.size w wr) (fun _ i _ => n - (intOf i).toNat)
  case atStart => exact ⟨0, Nat.zero_le _, rfl, World.ownsRow_nil _ _ _ _, Below.refl _ _⟩
  case round =>
    obtain ⟨k, hk, rfl, hown, hbel⟩ := hrel
    by_cases hlt : k < n
    · have i0 : (k : Int) < (n : Int) := by omega
      have hs := toZero_succ rd k
      have hll := toZero_length rd k
      have hrd := HRd.out k (by omega) wr hbel
      have hl := HL.out k
      generalize rd k = b at hs hrd hl
      generalize toZero rd k = l at hs hll hown
      have HS := Lib.hid hs
      clear hs
      go_wp2_with fail
      refine hrd.mono ?_
      rintro e W1 ⟨rfl, hx⟩
      have hown1 := World.ownsRow.alloc (own_below hown hx) (blockO b)
      have hK := ((Kept.start wr).below hx).alloc (blockO b)
      have hb1 : Below w.heap.size w (W1.alloc (blockO b)) := (hbel.trans (hx.mono hbel.size)).alloc (Nat.le_trans hbel.size hx.size) _
      clear hx hrd hown hbel
      have hi := sizeBlock b hl
      have hzz : (cellsOf zeros).size = (cellsOf b).size := by rw [cellsOf_size, cellsOf_size, hl, zeros_length]
      have he : ∀ W, (Op.equalIn 10000 49 (.agg (cellsOf b)) (.agg (cellsOf zeros))).run Try.prog W = .ok (decide (b = zeros)) W := fun W => run_eqBlock W b zeros hl zeros_length
      have tok : True := trivial
      by_cases hbz : b = zeros
      · have d0 : decide (b = zeros) = true := decide_eq_true hbz
        have HZ := Lib.hid hbz
        clear hbz
        go_wp2_with (first
          | (have _t := tok; refine wpList_store_new rfl 49 _ _ rfl (cellsOf b) _ _ rfl rfl hi hzz (cellsOf_one b) ?_; change wpList _ _ _ _ _ (W1.alloc (blockO b)); generalize W1.heap.size = q at hK ⊢; generalize W1.alloc (blockO b) = W2 at hK hown1 hb1 ⊢; have hgo : W2.heap[q]? = some (.cells (cellsOf b) 49 (0, 0)) := hK.at_ (q := q) (o := blockO b) (by simp); clear _t tok)
          | (refine wpList_load_row rfl 49 _ rfl q rfl _ _ _ _ hgo Try.underlying49 rfl hi ?_))
        go_roundw
        case rel => exact ⟨k + 1, by omega, by go_num, by rw [HS.out, if_pos HZ.out]; exact hown1, hb1⟩
        case measure => simp [intOf]; omega
      · have d0 : decide (b = zeros) = false := decide_eq_false hbz
        have HZ := Lib.hid hbz
        clear hbz
        have hbp := zeroCells_at k
        have hbs := fun W => run_buildPut W (k, zeros) zeros_length
        have hone := putCells_one (k, zeros)
        have hlc := putCells_length (x := (k, zeros)) zeros_length
        have hpe := pend_one (k, zeros)
        generalize putCells (k, zeros) = pc at hbp hbs hone hlc hpe
        have HPE := Lib.hid hpe
        have HBS := Lib.hid hbs
        clear hbs
        have HOC := Lib.hid hone
        have HLC := Lib.hid hlc
        clear hpe hone hlc
        go_upto_region 7 with (first
          | (have _t := tok; refine wpList_store_new rfl 49 _ _ rfl (cellsOf b) _ _ rfl rfl hi hzz (cellsOf_one b) ?_; change wpList _ _ _ _ _ (W1.alloc (blockO b)); generalize W1.heap.size = q at hK ⊢; generalize W1.alloc (blockO b) = W2 at hK hown1 hb1 ⊢; have hgo : W2.heap[q]? = some (.cells (cellsOf b) 49 (0, 0)) := hK.at_ (q := q) (o := blockO b) (by simp); clear _t tok)
          | (refine wpList_load_row rfl 49 _ rfl q rfl _ _ _ _ hgo Try.underlying49 rfl hi ?_))
        have hown2 := World.ownsRow.alloc hown1 (.cells pc.toArray 53)
        have hnew := new_cells W2 pc 53
        have HB2 := Lib.hid (hb1.alloc hb1.size (.cells pc.toArray 53))
        have HO2 := Lib.hid hown2
        have HN2 := Lib.hid hnew
        clear hown2 hnew hgo hb1 hown1 hK hi he hzz
        go_wp2_with (first | (refine wpList_build_run rfl 35 1 #[(0, .tmp 24)] rfl #[(0, .agg pc.toArray)] (by simp [Act.eval]) _ (HBS.out _) ?_) | (at_builtin; refine wpList_append_own _ rfl _ _ 35 rfl w.heap.size 53 ik (.agg (putCells (0, zeros)).toArray) 257 260 Try.underlying35 hik0 hik1 hik2 hik3 (size_of_putCells zeros_length) (by omega) _ l.length (pendCells l) rfl HO2.out ⟨W2.heap.size, 0, none⟩ 1 1 pc rfl HLC.out HN2.out HOC.out (by unfold maxLen; omega) (by omega) HB2.out.size ?_; intro v' w1 hown3 hgrow hnil))
        go_roundw
        case rel =>
          refine ⟨k + 1, by omega, by go_num, ?_, HB2.out.trans (below_own HO2.out hgrow HB2.out.size)⟩
          rw [HS.out, if_neg HZ.out, pendCells_append, HPE.out, List.length_append]
          exact hown3
        case measure => simp [intOf]; omega
    · obtain rfl : k = n := by omega
      go_wp2_with fail
      go_ret
      exact ⟨_, rfl, hown, hbel⟩

end Go.Proofs.Ytlojhdnahioicaa.Rot
