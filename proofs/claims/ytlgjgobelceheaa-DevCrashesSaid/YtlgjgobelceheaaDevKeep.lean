/-
  keep: the sectors of a write that a crash keeps.
-/
import Derived.Test.YtlgjgobelceheaaDevCopy
import Derived.Laws.CopyOwn
namespace Go.Proofs.Ytlgjgobelceheaa.Dev
open Go.RowKit RowLaw

/-- sector i of new, in old -/
def sect (old new : List UInt8) (i : Nat) : List UInt8 := old.take (i * 64) ++ ((new.drop (i * 64)).take 64 ++ old.drop (i * 64 + 64))
def keepTo (old new : List UInt8) (m : Nat) : Nat → List UInt8
  | 0 => old
  | k + 1 => if m.testBit k then sect (keepTo old new m k) new k else keepTo old new m k
def keepB (old new : List UInt8) (m : Nat) : List UInt8 := keepTo old new m 4
theorem sect_length {old new : List UInt8} (ho : old.length = 256) (hn : new.length = 256) {i : Nat} (hi : i < 4) : (sect old new i).length = 256 := by
  simp [sect, ho, hn]; omega
theorem sect_get {old new : List UInt8} (ho : old.length = 256) (hn : new.length = 256) {i : Nat} (hi : i < 4) (j : Nat) : (sect old new i)[j]? = if j / 64 = i then new[j]? else old[j]? := by
  unfold sect
  by_cases h1 : j < i * 64
  · rw [List.getElem?_append_left (by simp [ho]; omega), if_neg (by omega), List.getElem?_take_of_lt h1]
  · rw [List.getElem?_append_right (by simp [ho]; omega)]
    have e1 : (old.take (i * 64)).length = i * 64 := by simp [ho]; omega
    rw [e1]
    have e2 : ((new.drop (i * 64)).take 64).length = 64 := by simp [hn]; omega
    by_cases h2 : j < i * 64 + 64
    · rw [List.getElem?_append_left (by rw [e2]; omega), if_pos (by omega), List.getElem?_take_of_lt (by omega), List.getElem?_drop]
      congr 1; omega
    · rw [List.getElem?_append_right (by rw [e2]; omega), if_neg (by omega), e2, List.getElem?_drop]
      congr 1; omega
theorem keepTo_length {old new : List UInt8} (ho : old.length = 256) (hn : new.length = 256) (m : Nat) : ∀ k, k ≤ 4 → (keepTo old new m k).length = 256
  | 0, _ => ho
  | k + 1, hk => by
    have ih := keepTo_length ho hn m k (by omega)
    unfold keepTo
    split
    · exact sect_length ih hn (by omega)
    · exact ih
theorem keepTo_get {old new : List UInt8} (ho : old.length = 256) (hn : new.length = 256) (m : Nat) (j : Nat) (hj : j < 256) : ∀ k, k ≤ 4 → (keepTo old new m k)[j]? = if j / 64 < k ∧ m.testBit (j / 64) = true then new[j]? else old[j]?
  | 0, _ => by rw [if_neg (by omega)]; rfl
  | k + 1, hk => by
    have ih := keepTo_get ho hn m j hj k (by omega)
    have hl := keepTo_length ho hn m k (by omega)
    unfold keepTo
    by_cases hb : m.testBit k = true
    · rw [if_pos hb, sect_get hl hn (by omega) j, ih]
      by_cases hjk : j / 64 = k
      · rw [if_pos hjk, if_pos ⟨by omega, by rw [hjk]; exact hb⟩]
      · rw [if_neg hjk]
        by_cases h : j / 64 < k ∧ m.testBit (j / 64) = true
        · rw [if_pos h, if_pos ⟨by omega, h.2⟩]
        · rw [if_neg h, if_neg (fun h' => h ⟨by omega, h'.2⟩)]
    · rw [if_neg hb, ih]
      by_cases h : j / 64 < k ∧ m.testBit (j / 64) = true
      · rw [if_pos h, if_pos ⟨by omega, h.2⟩]
      · rw [if_neg h, if_neg (fun h' => h ⟨by
          have : j / 64 ≠ k := fun e => hb (e ▸ h'.2)
          omega, h'.2⟩)]
theorem keepB_length {old new : List UInt8} (ho : old.length = 256) (hn : new.length = 256) (m : Nat) : (keepB old new m).length = 256 := keepTo_length ho hn m 4 (Nat.le_refl _)
theorem keepB_get {old new : List UInt8} (ho : old.length = 256) (hn : new.length = 256) (m : Nat) (j : Nat) (hj : j < 256) : (keepB old new m)[j]? = if m.testBit (j / 64) = true then new[j]? else old[j]? := by
  unfold keepB
  rw [keepTo_get ho hn m j hj 4 (Nat.le_refl _)]
  by_cases h : m.testBit (j / 64) = true
  · rw [if_pos h, if_pos ⟨by omega, h⟩]
  · rw [if_neg h, if_neg (fun h' => h h'.2)]

theorem run_arrSlice (k : Nat) (hk : k < 4) (b o : Nat) (W : World) : (Instr.sliceAt 47 (.pointer (some ⟨b, o, none⟩)) (some (.int .i64 ((k : Int) * 64))) (some (.int .i64 (((k : Int) + 1) * 64))) none).run Try.prog W = .ok (.slice (some ⟨b, o + k * 64, none⟩) 64 (256 - k * 64)) W := by
  have z1 : 0 ≤ (k : Int) * 64 := by omega
  have z3 : ((k : Int) + 1) * 64 ≤ ((256 : Nat) : Int) := by omega
  have z4 : ((k : Int) * 64).toNat = k * 64 := by omega
  have z5 : (((k : Int) + 1) * 64).toNat = (k + 1) * 64 := by omega
  have z6 : ¬ 256 = k * 64 := by omega
  have z7 : (k + 1) * 64 - k * 64 = 64 := by omega
  have z8 : (0 : Int) ≤ ((k : Int) + 1) * 64 := by omega
  have z9 : (k : Int) * 64 ≤ ((((k : Int) + 1) * 64).toNat : Int) := by omega
  have hb : (Instr.sliceBounds false 256 256 (some (.int .i64 ((k : Int) * 64))) (some (.int .i64 (((k : Int) + 1) * 64))) none).run Try.prog W = .ok (k * 64, (k + 1) * 64, 256) W := by
    simp only [Instr.sliceBounds, Sem.run_bind, Sem.run_pure, Result.andThen_ok, Option.isSome_none, Bool.false_eq_true, if_false, run_sliceBound W .i64 _ 256 _ z8 z3]
    rw [run_sliceBound W .i64 _ _ _ z1 z9]
    simp only [Result.andThen_ok, z4, z5]
  obtain ⟨i, hi⟩ : ∃ i, Try.prog.info? 5 = some i := Option.isSome_iff_exists.1 (by kernel_rfl)
  have hi1 : i.size = 1 := by
    have h : (Try.prog.info? 5).map (·.size) = some 1 := by kernel_rfl
    rw [hi] at h
    simpa using h
  unfold Instr.sliceAt
  simp only [Sem.run_bind, run_underlying Try.underlying47, Instr.sureAddr, Sem.run_pure, Result.andThen_ok, hb, sizeOf, typeInfo]
  simp [hi, hi1, z6, z7]
  exact Addr.add_mid b o (k * 64)

theorem bit_at : ∀ m : Nat, m < 256 → ∀ k : Nat, k < 4 → (bits BinOp.and IntKind.u8 ((m : Int) / 2 ^ k) 1 == 1) = m.testBit k := by decide +kernel

theorem exec_look {o : Oper} {ac : Act} {w : World} {b a : Nat} {g : Nat → List UInt8} (d0 d1 : Tmp) (ho : o.op = .lookup 52 (.tmp d0) (.tmp d1) false) (h : MapIs w b g) (ha : a < 4294967296) (h0 : ac.eval (.tmp d0) = .map (some b)) (h1 : ac.eval (.tmp d1) = .int .u32 (a : Int)) :
    (execOp ac.eval o).run Try.prog w = .ok (.value (.agg (cellsOf (g a)))) w := by
  unfold execOp
  simp only [ho, h0, h1, Sem.run_bind, Sem.run_pure, h.look Try.underlying30 Try.underlying52 (zeroBlock w) ha, Result.andThen_ok]

/-- what keep's first region keeps -/
structure KBox (p bm : Nat) (pv : Value) (B : List Nat) (s : DS) (q0 a : Nat) (W : World) : Prop where
  dev : DevAt W p bm pv B s
  at_ : W.cell? ⟨q0, 0, none⟩ = some (.int .u32 (a : Int))

set_option linter.unusedSimpArgs false in
set_option maxRecDepth 100000 in
set_option maxHeartbeats 3200000 in
theorem keep_any {w : World} {p bm : Nat} {pv : Value} {B : List Nat} {s : DS} (h : DevAt w p bm pv B s) {a : Nat} (ha : a < 4294967296) {l : List UInt8} (hl : l.length = 256) {m : Nat} (hm : m < 256) :
    Calls Try.prog 46 #[ptr p, .agg (putCells (a, l)).toArray, .int .u8 (m : Int)] w fun e w' => e = .returned (.tuple #[]) ∧ DevAt w' p bm pv B { s with g := upd s.g a (keepB (s.g a) l m) } ∧ Turn B w w' := by
  have hzv := (zero_of_info infoBlock).1
  have hgl := h.okG a
  have hig := sizeBlock _ hgl
  have hP := heap_alloc_new w (.cells (putCells (a, l)).toArray 72)
  obtain ⟨ca, cr⟩ := range_of_row (x := (a, l)) hP
  have h1 : DevAt (w.alloc (.cells (putCells (a, l)).toArray 72)).drew p bm pv B s := (h.alloc _).drew
  have ht1 : Turn B w (w.alloc (.cells (putCells (a, l)).toArray 72)).drew := ((Turn.refl _ _).alloc _).drew
  have hS : KBox p bm pv B s w.heap.size a (w.alloc (.cells (putCells (a, l)).toArray 72)).drew := ⟨h1, ca⟩
  have hP1 : (w.alloc (.cells (putCells (a, l)).toArray 72)).drew.heap[w.heap.size]? = some (.cells (putCells (a, l)).toArray 72 (0, 0)) := hP
  have hq0 : w.heap.size < (w.alloc (.cells (putCells (a, l)).toArray 72)).drew.heap.size := by show w.heap.size < (w.alloc (.cells (putCells (a, l)).toArray 72)).heap.size; simp
  have hqB : w.heap.size ∉ B := fun hm => by have := h.ltB _ hm; omega
  clear hP ca cr
  go_enter Try.func46, Try.ntmps46
  unfold ptr
  go_wp2_with fail
  generalize w.heap.size = q0 at hP1 hS hq0 hqB ⊢
  refine wp_region_noPanic ?_
  refine wp_region_held_drew (S := KBox p bm pv B s q0 a) (by kernel_rfl) hS ?_
  intro hS
  generalize (w.alloc (.cells (putCells (a, l)).toArray 72)).drew = V at hS hP1 hq0 h1 ht1 ⊢
  refine wpAnyH_take (i := 0) (v := .pointer (some ⟨p, 0, none⟩)) rfl (by kernel_rfl) (by kernel_rfl) (by kernel_rfl) (fun _ _ _ h => (h : False).elim) (Or.inl ⟨by rfl, fun _ _ => by go_simp⟩) hS ?_
  change wpAnyH _ _ _ _ _ _ _ (Act.put _ (some 10) _) _
  simp only [Act.put, List.setIfInBounds_toArray, List.set_cons_succ, List.set_cons_zero]
  refine wpAnyH_take (i := 1) (v := .pointer (some ⟨p, 0, none⟩)) rfl (by kernel_rfl) (by kernel_rfl) (by kernel_rfl) (fun _ _ _ h => (h : False).elim) (Or.inl ⟨by rfl, fun _ _ => by go_simp⟩) hS ?_
  change wpAnyH _ _ _ _ _ _ _ (Act.put _ (some 11) _) _
  simp only [Act.put, List.setIfInBounds_toArray, List.set_cons_succ, List.set_cons_zero]
  refine wpAnyH_take (i := 2) (v := .pointer (some ⟨p, 1, none⟩)) rfl (by kernel_rfl) (by kernel_rfl) (by kernel_rfl) (fun _ _ _ h => (h : False).elim) (Or.inl ⟨by rfl, fun _ _ => by go_simp⟩) hS ?_
  change wpAnyH _ _ _ _ _ _ _ (Act.put _ (some 12) _) _
  simp only [Act.put, List.setIfInBounds_toArray, List.set_cons_succ, List.set_cons_zero]
  refine wpAnyH_take (i := 3) (v := .map (some bm)) rfl (by kernel_rfl) (by kernel_rfl) (by kernel_rfl) (fun _ _ _ h => (h : False).elim) (Or.inl ⟨by rfl, fun w hw => by have c3 : w.cell? ⟨p, 1, none⟩ = some (.map (some bm)) := hw.dev.cell 1; go_simp⟩) hS ?_
  change wpAnyH _ _ _ _ _ _ _ (Act.put _ (some 13) _) _
  simp only [Act.put, List.setIfInBounds_toArray, List.set_cons_succ, List.set_cons_zero]
  refine wpAnyH_take (i := 4) (v := .pointer (some ⟨q0, 0, none⟩)) rfl (by kernel_rfl) (by kernel_rfl) (by kernel_rfl) (fun _ _ _ h => (h : False).elim) (Or.inl ⟨by rfl, fun _ _ => by go_simp⟩) hS ?_
  change wpAnyH _ _ _ _ _ _ _ (Act.put _ (some 14) _) _
  simp only [Act.put, List.setIfInBounds_toArray, List.set_cons_succ, List.set_cons_zero]
  refine wpAnyH_take (i := 5) (v := .int .u32 (a : Int)) rfl (by kernel_rfl) (by kernel_rfl) (by kernel_rfl) (fun _ _ _ h => (h : False).elim) (Or.inl ⟨by rfl, fun w hw => by have c3 := hw.at_; go_simp⟩) hS ?_
  change wpAnyH _ _ _ _ _ _ _ (Act.put _ (some 15) _) _
  simp only [Act.put, List.setIfInBounds_toArray, List.set_cons_succ, List.set_cons_zero]
  refine wpAnyH_take (i := 6) (v := .agg (cellsOf (s.g a))) rfl (by kernel_rfl) (by kernel_rfl) (by kernel_rfl) (fun _ _ _ h => (h : False).elim) (Or.inl ⟨by rfl, fun w hw => exec_look 13 15 rfl hw.dev.map ha rfl rfl⟩) hS ?_
  change wpAnyH _ _ _ _ _ _ _ (Act.put _ (some 16) _) _
  simp only [Act.put, List.setIfInBounds_toArray, List.set_cons_succ, List.set_cons_zero]
  refine wpAnyH_ready (rs := [7]) (by kernel_rfl) (by simp) ?_
  refine AllReadyH.cons rfl (fun K hK => ?_) AllReadyH.nil
  rw [if_pos (by rfl)]
  go_simp
  have hS2 : KBox p bm pv B s q0 a (V.alloc (.cells (cellsOf zeros) 47)) := ⟨hS.dev.alloc _, (World.cell?_of_block (w := V) (a := ⟨q0, 0, none⟩) (Below.heap_alloc V _ q0 hq0)).trans hS.at_⟩
  have hq1 : (V.alloc (.cells (cellsOf zeros) 47)).heap[V.heap.size]? = some (.cells (cellsOf zeros) 47 (0, 0)) := heap_alloc_new V _
  have hP2 := (Below.heap_alloc V (.cells (cellsOf zeros) 47) q0 hq0).trans hP1
  have ht2 := ht1.alloc (.cells (cellsOf zeros) 47)
  have hwge : w.heap.size ≤ V.heap.size := ht1.size
  have hqB1 : V.heap.size ∉ B := fun hm => by have := h1.ltB _ hm; omega
  have hne : q0 ≠ V.heap.size := by omega
  refine hK.out _ _ hS2 (fun hS => ?_)
  clear hK K hS2 hq0 h1 hP1 ht1
  generalize V.heap.size = q1 at hq1 hqB1 hne hwge ⊢
  generalize V.alloc (.cells (cellsOf zeros) 47) = V1 at hS hq1 hP2 ht2 ⊢
  refine wpAnyH_ready (rs := [8]) (by kernel_rfl) (by simp) ?_
  refine AllReadyH.cons rfl (fun K hK => ?_) AllReadyH.nil
  rw [if_pos (by rfl)]
  refine wp_store_row 47 _ _ rfl q1 (cellsOf (s.g a)) rfl rfl _ _ hq1 hig (by rw [cellsOf_size, cellsOf_size, hgl, zeros_length]) (cellsOf_one _) ?_
  have ht3 : Turn [q1] V1 (V1.setRow q1 (cellsOf (s.g a))) := ⟨rfl, rfl, rfl, by simp, fun k _ hk => setRow_other V1 q1 k _ (by simpa using hk)⟩
  have hd3 := hS.dev.turn ht3 (fun k hk hm => hqB1 (by simp only [List.mem_singleton] at hm; exact hm ▸ hk))
  have hP3 : (V1.setRow q1 (cellsOf (s.g a))).heap[q0]? = some (.cells (putCells (a, l)).toArray 72 (0, 0)) := (setRow_other V1 q1 q0 _ hne).trans hP2
  have hQ3 : Holds (V1.setRow q1 (cellsOf (s.g a))) q1 (s.g a) := setRow_heap V1 _ _ _ _ _ hq1
  have htw : Turn B w (V1.setRow q1 (cellsOf (s.g a))) := ⟨ht2.os, ht2.tape, ht2.output, by have := ht2.size; simpa using this, fun k hk hn => (setRow_other V1 q1 k _ (by omega)).trans (ht2.block k hk hn)⟩
  refine hK.out _ _ ⟨hd3, (cell_of_row _ q0 0 _ _ _ hP3)⟩ (fun _ => ?_)
  clear hK K hS hq1 hP2 ht2 ht3
  generalize V1.setRow q1 (cellsOf (s.g a)) = V2 at hd3 hP3 hQ3 htw ⊢
  refine wpAnyH_done (by kernel_rfl) ?_ _
  refine NoPanic.normal ?_
  go_wp2_with fail
  clear hzv
  go_loopw [17] (fun i wr => ∃ k : Nat, k ≤ 4 ∧ i = .int .i64 k ∧ Holds wr q1 (keepTo (s.g a) l m k) ∧ DevAt wr p bm pv B s ∧ wr.heap[q0]? = some (.cells (putCells (a, l)).toArray 72 (0, 0)) ∧ Turn B w wr) (fun i _ => 4 - (intOf i).toNat)
  case atStart => exact ⟨0, by omega, rfl, hQ3, hd3, hP3, htw⟩
  case round =>
    obtain ⟨k, hk, rfl, hQ, hd, hP, ht⟩ := hrel
    clear hQ3 hd3 hP3 htw
    by_cases hlt : k < 4
    · have hkb := bit_at m hm k hlt
      have hkl := keepTo_length hgl hl m k hk
      obtain ⟨bv, hbv⟩ : ∃ bv, bv = m.testBit k := ⟨_, rfl⟩
      rw [← hbv] at hkb
      cases bv with
      | false =>
        have hQ2 : Holds wr q1 (keepTo (s.g a) l m (k + 1)) := by
          unfold keepTo
          rw [if_neg (by rw [← hbv]; simp)]
          exact hQ
        clear hbv hQ
        go_wp2_with fail
        go_roundw
        case rel => exact ⟨k + 1, by omega, by go_num, hQ2, hd, hP, ht⟩
        case measure => simp [intOf]; omega
      | true =>
        have htb : m.testBit k = true := hbv.symm
        have HB := Lib.hid htb
        clear hbv
        go_wp2_with fail
        refine wp_region_still_tail 7 (by kernel_rfl) (by kernel_rfl) ?_
        simp only [List.take_succ_cons, List.take_zero, List.drop_succ_cons, List.drop_zero]
        have hs1 := fun W => run_arrSlice k hlt q1 0 W
        have hs2 := fun W => run_arrSlice k hlt q0 1 W
        rw [Nat.zero_add] at hs1
        have HQ := Lib.hid hQ
        have HD := Lib.hid hd
        have HP := Lib.hid hP
        have HT := Lib.hid ht
        have HK := Lib.hid hkl
        have HL := Lib.hid hl
        have HGL := Lib.hid hgl
        clear hQ hd hP ht hkb htb hkl hgl hig hl h
        still_step
        still_step
        still_step
        still_step
        still_step
        still_step
        still_step
        refine wpStill_nil ?_
        change wpList _ _ _ _ _ wr.drew
        have hQ2 : Holds wr.drew q1 (keepTo (s.g a) l m k) := HQ.out
        obtain ⟨_, cr⟩ := range_of_row (x := (a, l)) HP.out
        have cr2 : wr.drew.rangeAt q0 1 (cellsOf l).toList := cr
        have ht2 : Turn B w wr.drew := HT.out.drew
        have hd2 : DevAt wr.drew p bm pv B s := HD.out.drew
        have hP2 : wr.drew.heap[q0]? = some (.cells (putCells (a, l)).toArray 72 (0, 0)) := HP.out
        clear hs1 hs2 cr
        generalize wr.drew = W at hQ2 cr2 ht2 hd2 hP2 ⊢
        have hn64 : (((cellsOf l).toList.drop (k * 64)).take 64).length = 64 := by
          have := HL.out
          simp [cellsOf_size, this]; omega
        have hK := HK.out
        refine wpList_copy_own rfl _ _ _ _ rfl 5 (by kernel_rfl) (by kernel_rfl) q1 (k * 64) 64 (256 - k * 64) ⟨q0, 1 + k * 64, none⟩ 64 (256 - k * 64) rfl rfl _ _ hQ2 (((cellsOf l).toList.drop (k * 64)).take 64) (by rw [hn64]; rfl) ?_ (by rw [hn64, cellsOf_size, hK]; omega) ?_ ?_
        · intro j v hj
          have hj2 : j < 64 := by have := (List.getElem?_eq_some_iff.1 hj).1; omega
          rw [Addr.add_mid, Nat.add_assoc]
          refine cr2 (k * 64 + j) v ?_
          rw [List.getElem?_take_of_lt hj2, List.getElem?_drop] at hj
          exact hj
        · intro v hv
          have hv2 := List.mem_of_mem_drop (List.mem_of_mem_take hv)
          have h1 := cellsOf_one l
          rw [Array.all_eq_true_iff_forall_mem] at h1
          exact h1 v (by simpa using hv2)
        have e1 : ((cellsOf (keepTo (s.g a) l m k)).toList.take (k * 64) ++ ((((cellsOf l).toList.drop (k * 64)).take 64) ++ (cellsOf (keepTo (s.g a) l m k)).toList.drop (k * 64 + (((cellsOf l).toList.drop (k * 64)).take 64).length))).toArray = cellsOf (keepTo (s.g a) l m (k + 1)) := by
          rw [hn64]
          have e2 : keepTo (s.g a) l m (k + 1) = sect (keepTo (s.g a) l m k) l k := by
            show (if m.testBit k then sect (keepTo (s.g a) l m k) l k else keepTo (s.g a) l m k) = _
            rw [if_pos HB.out]
          rw [e2]
          simp [sect, cellsOf, List.map_take, List.map_drop]
        have hQ3 : Holds (W.setRow q1 ((cellsOf (keepTo (s.g a) l m k)).toList.take (k * 64) ++ ((((cellsOf l).toList.drop (k * 64)).take 64) ++ (cellsOf (keepTo (s.g a) l m k)).toList.drop (k * 64 + (((cellsOf l).toList.drop (k * 64)).take 64).length))).toArray) q1 (keepTo (s.g a) l m (k + 1)) := by
          unfold Holds
          rw [← e1]
          exact setRow_heap W _ _ _ _ _ hQ2
        clear e1
        generalize ((cellsOf (keepTo (s.g a) l m k)).toList.take (k * 64) ++ ((((cellsOf l).toList.drop (k * 64)).take 64) ++ (cellsOf (keepTo (s.g a) l m k)).toList.drop (k * 64 + (((cellsOf l).toList.drop (k * 64)).take 64).length))).toArray = cs at hQ3 ⊢
        have ht5 : Turn [q1] W (W.setRow q1 cs) := ⟨rfl, rfl, rfl, by simp, fun k _ hk => setRow_other W q1 k _ (by simpa using hk)⟩
        have hd5 := hd2.turn ht5 (fun k hk hm => hqB1 (by simp only [List.mem_singleton] at hm; exact hm ▸ hk))
        have hP5 := (setRow_other W q1 q0 cs hne).trans hP2
        have ht6 : Turn B w (W.setRow q1 cs) := ⟨ht2.os, ht2.tape, ht2.output, by have := ht2.size; simpa using this, fun k hk hn => (setRow_other W q1 k _ (by omega)).trans (ht2.block k hk hn)⟩
        clear hQ2 cr2 ht2 hd2 hP2 ht5 hn64
        generalize W.setRow q1 cs = W9 at hQ3 hd5 hP5 ht6 ⊢
        go_wp2_with fail
        go_roundw
        case rel => exact ⟨k + 1, by omega, by go_num, hQ3, hd5, hP5, ht6⟩
        case measure => simp [intOf]; omega
    · obtain rfl : k = 4 := by omega
      obtain ⟨ca, cr⟩ := range_of_row (x := (a, l)) hP
      have hkl := keepB_length hgl hl m
      have hik := sizeBlock _ hkl
      replace hQ : Holds wr q1 (keepB (s.g a) l m) := hQ
      clear hP cr
      go_wp2_with (refine wpList_load_row rfl 47 _ rfl q1 rfl _ _ _ _ hQ Try.underlying47 rfl hik ?_)
      refine (store_at hd ha hkl).mono ?_
      rintro e W2 ⟨rfl, h3, ht3⟩
      have ht4 := ht.trans ht3
      clear hd ht ht3 ca hQ
      go_wp2
      go_end0
      exact ⟨rfl, h3, ht4⟩

end Go.Proofs.Ytlgjgobelceheaa.Dev
