/-
  The walks of tally.put, for counts and for words of bits.
-/
import Derived.Test.YtkkeemjgeeillaaTalObj
namespace Go.Proofs.Ytkkeemjgeeillaa.Tal
open Go.RowKit RowLaw Crc Fld
set_option maxRecDepth 100000

/-- what put has in memory: the page p, its kind b, the result r, the writer q -/
structure PutBox (K : IntKind) (t : TypeId) (cs : Array Value) (w : World) (p b r q idx : Nat) (ns : List Nat) (f : Option (List UInt8)) (W : World) : Prop where
  pg : IsPg K t W p idx ns
  knd : W.heap[b]? = some (.cells cs 58 (0, 0))
  res : Holds W r zeros
  wr : WIs W q f
  bel : Below w.heap.size w W
  ne : p < w.heap.size ∧ b < W.heap.size ∧ b ≠ q ∧ r ≠ q ∧ w.heap.size ≤ q ∧ w.heap.size ≤ b ∧ w.heap.size ≤ r
theorem PutBox.num {K : IntKind} {t : TypeId} {cs : Array Value} {w W : World} {p b r q idx : Nat} {ns : List Nat} {f f' : Option (List UInt8)} (h : PutBox K t cs w p b r q idx ns f W) (x : Nat) (width : Int) (hf : app f (numBytes x width) = f') :
    Calls Try.prog 30 #[.pointer (some ⟨q, 0, none⟩), .int .u64 (x : Int), .int .i64 width] W fun e W' => e = .returned (.tuple #[]) ∧ PutBox K t cs w p b r q idx ns f' W' := by
  subst hf
  have hn := h.ne
  exact (Num_any f q x width W h.wr).mono fun _ W' ⟨he, hw, ha⟩ => ⟨he, h.pg.apart ha (by omega), (ha.block b hn.2.1 hn.2.2.1).trans h.knd, holds_apart h.res ha hn.2.2.2.1, hw, h.bel.trans (ha.below hn.2.2.2.2.1 h.bel.size),
    hn.1, Nat.lt_of_lt_of_le hn.2.1 ha.size, hn.2.2⟩

set_option maxHeartbeats 1600000 in
theorem put_noT (p idx : Nat) (ho : ¬ idx < kT.lim) (w : World) :
    Calls Try.prog 19 #[.agg #[.int .u8 84, .int .u32 16384], .int .u32 (idx : Int), .slice (some ⟨p, 1, none⟩) 64 64] w fun e w' => e = .returned (.tuple #[.agg (cellsOf zeros), .int .i64 2]) ∧ Below w.heap.size w w' := by
  have hzv := (zero_of_info infoBlock).1
  have hi := sizeBlock zeros zeros_length
  have hK : ((w.alloc (.cells #[.int .u8 84, .int .u32 16384] 58)).alloc (.cells (cellsOf zeros) 32)).heap[w.heap.size]? = some (.cells #[.int .u8 84, .int .u32 16384] 58 (0, 0)) := (Below.heap_alloc _ _ _ (by simp)).trans (heap_alloc_new w _)
  have ck : ((w.alloc (.cells #[.int .u8 84, .int .u32 16384] 58)).alloc (.cells (cellsOf zeros) 32)).cell? ⟨w.heap.size, 1, none⟩ = some (.int .u32 16384) := (cell_of_row _ _ 1 _ _ _ hK).trans rfl
  have hR : Holds ((w.alloc (.cells #[.int .u8 84, .int .u32 16384] 58)).alloc (.cells (cellsOf zeros) 32)) (w.heap.size + 1) zeros := heap_alloc2_new w _ _
  have hb : Below w.heap.size w ((w.alloc (.cells #[.int .u8 84, .int .u32 16384] 58)).alloc (.cells (cellsOf zeros) 32)) := ((Below.refl _ _).alloc (Nat.le_refl _) _).alloc (by simp) _
  have d1 : (16384 : Int) ≤ (idx : Int) := by have : ¬ idx < 16384 := ho; omega
  clear hK ho
  go_enter Try.func19, Try.ntmps19
  go_wp2_with (refine wpList_store_row rfl 32 _ _ rfl _ _ rfl rfl _ _ hR hi rfl (cellsOf_one _) ?_)
  exact bodyPost_ret (results_row_tmp rfl _ _ _ _ _ _ _ rfl (setRow_heap _ _ _ _ _ _ hR) Try.underlying32 rfl hi) rfl ⟨rfl, below_row hb (by omega)⟩

set_option maxHeartbeats 1600000 in
theorem put_yesT (p idx : Nat) (ns : List Nat) (hn : ns.length = kT.n) (hs : ∀ j (hj : j < ns.length), ns[j] < 256 ^ kT.wd) (ho : idx < kT.lim) (w : World) (hw : IsPg .u16 26 w p idx ns) :
    Calls Try.prog 19 #[.agg #[.int .u8 84, .int .u32 16384], .int .u32 (idx : Int), .slice (some ⟨p, 1, none⟩) 64 64] w fun e w' => e = .returned (.tuple #[.agg (cellsOf (pgB kT idx ns)), .int .i64 0]) ∧ Below w.heap.size w w' := by
  have hzv := (zero_of_info infoBlock).1
  have hlen := pgB_length fT idx hn
  have hi := sizeBlock _ hlen
  have hzz : (cellsOf zeros).size = (cellsOf (pgB kT idx ns)).size := by rw [cellsOf_size, cellsOf_size, hlen, zeros_length]
  have hK : ((w.alloc (.cells #[.int .u8 84, .int .u32 16384] 58)).alloc (.cells (cellsOf zeros) 32)).heap[w.heap.size]? = some (.cells #[.int .u8 84, .int .u32 16384] 58 (0, 0)) := (Below.heap_alloc _ _ _ (by simp)).trans (heap_alloc_new w _)
  have ck : ((w.alloc (.cells #[.int .u8 84, .int .u32 16384] 58)).alloc (.cells (cellsOf zeros) 32)).cell? ⟨w.heap.size, 1, none⟩ = some (.int .u32 16384) := (cell_of_row _ _ 1 _ _ _ hK).trans rfl
  have hR : Holds ((w.alloc (.cells #[.int .u8 84, .int .u32 16384] 58)).alloc (.cells (cellsOf zeros) 32)) (w.heap.size + 1) zeros := heap_alloc2_new w _ _
  have hb : Below w.heap.size w ((w.alloc (.cells #[.int .u8 84, .int .u32 16384] 58)).alloc (.cells (cellsOf zeros) 32)) := ((Below.refl _ _).alloc (Nat.le_refl _) _).alloc (by simp) _
  have hN : IsPg .u16 26 ((w.alloc (.cells #[.int .u8 84, .int .u32 16384] 58)).alloc (.cells (cellsOf zeros) 32)) p idx ns := (hw.alloc _).alloc _
  have hpw := hw.lt
  have hlim : idx < 16384 := ho
  have d1 : ¬ (16384 : Int) ≤ (idx : Int) := by omega
  have hnext := fun j hj => app_next fT idx ns hn (numBytes2) j hj
  have HX := Lib.hid hnext; clear hnext
  have HS := Lib.hid hs; clear hs
  have HN := Lib.hid hn; clear hn hlen ho hw
  obtain ⟨B, hB⟩ : ∃ B, B = pgB kT idx ns := ⟨_, rfl⟩
  rw [← hB] at hi hzz ⊢
  have HB := Lib.hid hB; clear hB
  have z1 : IntKind.u64.wrap (idx : Int) = (idx : Int) := IntWalk.u64_in _ (by omega)
  go_enter Try.func19, Try.ntmps19
  go_wp2_with fail
  refine (New_any _).mono ?_
  rintro e W1 ⟨rfl, hw1, hb1⟩
  have hbox : PutBox .u16 26 #[.int .u8 84, .int .u32 16384] w p w.heap.size (w.heap.size + 1) (w.heap.size + 2) idx ns (some []) W1 :=
    ⟨hN.below hb1 hN.lt, (hb1.block _ (by simp; omega)).trans hK, hR.below hb1 hR.lt, by simpa using hw1, hb.trans (hb1.mono hb.size), hpw, by have := hb1.size; simp at this; omega, by omega⟩
  clear hN hR hb hw1 hb1 hK ck
  rw [show ((w.alloc (.cells #[.int .u8 84, .int .u32 16384] 58)).alloc (.cells (cellsOf zeros) 32)).heap.size = w.heap.size + 2 from by simp]
  go_wp2_with fail
  refine (hbox.num idx 4 (app_first kT idx ns)).mono ?_
  clear hbox
  rintro e W2 ⟨rfl, hbox⟩
  go_wp2_with fail
  go_loopw [23] (fun i wr => ∃ k : Nat, k ≤ 64 ∧ i = .int .i64 k ∧ PutBox .u16 26 #[.int .u8 84, .int .u32 16384] w p w.heap.size (w.heap.size + 1) (w.heap.size + 2) idx ns (some (pgTo kT idx ns k)) wr) (fun i _ => 64 - (intOf i).toNat)
  case atStart => exact ⟨0, by omega, rfl, hbox⟩
  case round =>
    obtain ⟨k, hk, rfl, hbk⟩ := hrel
    clear hbox
    by_cases hlt : k < 64
    · have hkl : k < ns.length := by have : ns.length = 64 := HN.out; omega
      have hc := hbk.pg.num k hkl
      have hnx := HX.out k hkl
      have hxl : ns[k] < 65536 := HS.out k hkl
      obtain ⟨x, hx⟩ : ∃ x, x = ns[k] := ⟨_, rfl⟩
      rw [← hx] at hc hnx hxl
      clear hx
      have HNX := Lib.hid hnx; clear hnx
      have z2 : IntKind.u64.wrap (x : Int) = (x : Int) := IntWalk.u64_in _ (by omega)
      go_wp2_with (go_at_call 31; (with_reducible refine (widthT _).mono ?_); rintro e W ⟨rfl, rfl⟩)
      refine (hbk.num x 2 HNX.out).mono ?_
      clear hbk hc
      rintro e W3 ⟨rfl, hbk⟩
      go_wp2_with fail
      go_roundw
      case rel => exact ⟨k + 1, by omega, by go_num, hbk⟩
      case measure => simp [intOf]; omega
    · obtain rfl : k = 64 := by omega
      have cm : wr.cell? ⟨w.heap.size, 0, none⟩ = some (.int .u8 84) := (cell_of_row wr w.heap.size 0 _ _ _ hbk.knd).trans rfl
      go_wp2_with fail
      refine (Done_some _ _ 84 _ hbk.wr).mono ?_
      rintro e W3 ⟨rfl, hb3⟩
      have hR := hbk.res.below hb3 hbk.res.lt
      have hb := hbk.bel.trans (hb3.mono hbk.bel.size)
      clear hbk hb3 cm
      rw [show fdone (pgTo kT idx ns 64) 84 = B from HB.out.symm]
      go_wp2_with (refine wpList_store_row rfl 32 _ _ rfl _ _ rfl rfl _ _ hR hi hzz (cellsOf_one _) ?_)
      exact bodyPost_ret (results_row_tmp rfl _ _ _ _ _ _ _ rfl (setRow_heap W3 _ _ _ _ _ hR) Try.underlying32 rfl hi) rfl ⟨rfl, below_row hb (by omega)⟩

theorem put_anyT (p idx : Nat) (ns : List Nat) (hn : ns.length = kT.n) (hs : ∀ j (hj : j < ns.length), ns[j] < 256 ^ kT.wd) (w : World) (hw : IsPg .u16 26 w p idx ns) :
    Calls Try.prog 19 #[.agg #[.int .u8 84, .int .u32 16384], .int .u32 (idx : Int), .slice (some ⟨p, 1, none⟩) 64 64] w fun e w' => e = .returned (.tuple #[.agg (cellsOf (putB kT idx ns)), .int .i64 (putE kT idx)]) ∧ Below w.heap.size w w' := by
  by_cases ho : idx < kT.lim
  · rw [putB_yes ns ho, putE_yes ho]; exact put_yesT p idx ns hn hs ho w hw
  · rw [show putB kT idx ns = zeros from if_neg ho, putE_no ho]; exact put_noT p idx ho w

set_option maxHeartbeats 1600000 in
theorem put_noP (p idx : Nat) (ho : ¬ idx < kP.lim) (w : World) :
    Calls Try.prog 22 #[.agg #[.int .u8 80, .int .u32 16], .int .u32 (idx : Int), .slice (some ⟨p, 1, none⟩) 16 16] w fun e w' => e = .returned (.tuple #[.agg (cellsOf zeros), .int .i64 2]) ∧ Below w.heap.size w w' := by
  have hzv := (zero_of_info infoBlock).1
  have hi := sizeBlock zeros zeros_length
  have hK : ((w.alloc (.cells #[.int .u8 80, .int .u32 16] 58)).alloc (.cells (cellsOf zeros) 32)).heap[w.heap.size]? = some (.cells #[.int .u8 80, .int .u32 16] 58 (0, 0)) := (Below.heap_alloc _ _ _ (by simp)).trans (heap_alloc_new w _)
  have ck : ((w.alloc (.cells #[.int .u8 80, .int .u32 16] 58)).alloc (.cells (cellsOf zeros) 32)).cell? ⟨w.heap.size, 1, none⟩ = some (.int .u32 16) := (cell_of_row _ _ 1 _ _ _ hK).trans rfl
  have hR : Holds ((w.alloc (.cells #[.int .u8 80, .int .u32 16] 58)).alloc (.cells (cellsOf zeros) 32)) (w.heap.size + 1) zeros := heap_alloc2_new w _ _
  have hb : Below w.heap.size w ((w.alloc (.cells #[.int .u8 80, .int .u32 16] 58)).alloc (.cells (cellsOf zeros) 32)) := ((Below.refl _ _).alloc (Nat.le_refl _) _).alloc (by simp) _
  have d1 : (16 : Int) ≤ (idx : Int) := by have : ¬ idx < 16 := ho; omega
  clear hK ho
  go_enter Try.func22, Try.ntmps22
  go_wp2_with (refine wpList_store_row rfl 32 _ _ rfl _ _ rfl rfl _ _ hR hi rfl (cellsOf_one _) ?_)
  exact bodyPost_ret (results_row_tmp rfl _ _ _ _ _ _ _ rfl (setRow_heap _ _ _ _ _ _ hR) Try.underlying32 rfl hi) rfl ⟨rfl, below_row hb (by omega)⟩

set_option maxHeartbeats 1600000 in
theorem put_yesP (p idx : Nat) (ns : List Nat) (hn : ns.length = kP.n) (hs : ∀ j (hj : j < ns.length), ns[j] < 256 ^ kP.wd) (ho : idx < kP.lim) (w : World) (hw : IsPg .u64 30 w p idx ns) :
    Calls Try.prog 22 #[.agg #[.int .u8 80, .int .u32 16], .int .u32 (idx : Int), .slice (some ⟨p, 1, none⟩) 16 16] w fun e w' => e = .returned (.tuple #[.agg (cellsOf (pgB kP idx ns)), .int .i64 0]) ∧ Below w.heap.size w w' := by
  have hzv := (zero_of_info infoBlock).1
  have hlen := pgB_length fP idx hn
  have hi := sizeBlock _ hlen
  have hzz : (cellsOf zeros).size = (cellsOf (pgB kP idx ns)).size := by rw [cellsOf_size, cellsOf_size, hlen, zeros_length]
  have hK : ((w.alloc (.cells #[.int .u8 80, .int .u32 16] 58)).alloc (.cells (cellsOf zeros) 32)).heap[w.heap.size]? = some (.cells #[.int .u8 80, .int .u32 16] 58 (0, 0)) := (Below.heap_alloc _ _ _ (by simp)).trans (heap_alloc_new w _)
  have ck : ((w.alloc (.cells #[.int .u8 80, .int .u32 16] 58)).alloc (.cells (cellsOf zeros) 32)).cell? ⟨w.heap.size, 1, none⟩ = some (.int .u32 16) := (cell_of_row _ _ 1 _ _ _ hK).trans rfl
  have hR : Holds ((w.alloc (.cells #[.int .u8 80, .int .u32 16] 58)).alloc (.cells (cellsOf zeros) 32)) (w.heap.size + 1) zeros := heap_alloc2_new w _ _
  have hb : Below w.heap.size w ((w.alloc (.cells #[.int .u8 80, .int .u32 16] 58)).alloc (.cells (cellsOf zeros) 32)) := ((Below.refl _ _).alloc (Nat.le_refl _) _).alloc (by simp) _
  have hN : IsPg .u64 30 ((w.alloc (.cells #[.int .u8 80, .int .u32 16] 58)).alloc (.cells (cellsOf zeros) 32)) p idx ns := (hw.alloc _).alloc _
  have hpw := hw.lt
  have hlim : idx < 16 := ho
  have d1 : ¬ (16 : Int) ≤ (idx : Int) := by omega
  have hnext := fun j hj => app_next fP idx ns hn (numBytes8) j hj
  have HX := Lib.hid hnext; clear hnext
  have HS := Lib.hid hs; clear hs
  have HN := Lib.hid hn; clear hn hlen ho hw
  obtain ⟨B, hB⟩ : ∃ B, B = pgB kP idx ns := ⟨_, rfl⟩
  rw [← hB] at hi hzz ⊢
  have HB := Lib.hid hB; clear hB
  have z1 : IntKind.u64.wrap (idx : Int) = (idx : Int) := IntWalk.u64_in _ (by omega)
  go_enter Try.func22, Try.ntmps22
  go_wp2_with fail
  refine (New_any _).mono ?_
  rintro e W1 ⟨rfl, hw1, hb1⟩
  have hbox : PutBox .u64 30 #[.int .u8 80, .int .u32 16] w p w.heap.size (w.heap.size + 1) (w.heap.size + 2) idx ns (some []) W1 :=
    ⟨hN.below hb1 hN.lt, (hb1.block _ (by simp; omega)).trans hK, hR.below hb1 hR.lt, by simpa using hw1, hb.trans (hb1.mono hb.size), hpw, by have := hb1.size; simp at this; omega, by omega⟩
  clear hN hR hb hw1 hb1 hK ck
  rw [show ((w.alloc (.cells #[.int .u8 80, .int .u32 16] 58)).alloc (.cells (cellsOf zeros) 32)).heap.size = w.heap.size + 2 from by simp]
  go_wp2_with fail
  refine (hbox.num idx 4 (app_first kP idx ns)).mono ?_
  clear hbox
  rintro e W2 ⟨rfl, hbox⟩
  go_wp2_with fail
  go_loopw [23] (fun i wr => ∃ k : Nat, k ≤ 16 ∧ i = .int .i64 k ∧ PutBox .u64 30 #[.int .u8 80, .int .u32 16] w p w.heap.size (w.heap.size + 1) (w.heap.size + 2) idx ns (some (pgTo kP idx ns k)) wr) (fun i _ => 16 - (intOf i).toNat)
  case atStart => exact ⟨0, by omega, rfl, hbox⟩
  case round =>
    obtain ⟨k, hk, rfl, hbk⟩ := hrel
    clear hbox
    by_cases hlt : k < 16
    · have hkl : k < ns.length := by have : ns.length = 16 := HN.out; omega
      have hc := hbk.pg.num k hkl
      have hnx := HX.out k hkl
      have hxl : ns[k] < 18446744073709551616 := HS.out k hkl
      obtain ⟨x, hx⟩ : ∃ x, x = ns[k] := ⟨_, rfl⟩
      rw [← hx] at hc hnx hxl
      clear hx
      have HNX := Lib.hid hnx; clear hnx
      have z2 : IntKind.u64.wrap (x : Int) = (x : Int) := IntWalk.u64_in _ (by omega)
      go_wp2_with (go_at_call 33; (with_reducible refine (widthP _).mono ?_); rintro e W ⟨rfl, rfl⟩)
      refine (hbk.num x 8 HNX.out).mono ?_
      clear hbk hc
      rintro e W3 ⟨rfl, hbk⟩
      go_wp2_with fail
      go_roundw
      case rel => exact ⟨k + 1, by omega, by go_num, hbk⟩
      case measure => simp [intOf]; omega
    · obtain rfl : k = 16 := by omega
      have cm : wr.cell? ⟨w.heap.size, 0, none⟩ = some (.int .u8 80) := (cell_of_row wr w.heap.size 0 _ _ _ hbk.knd).trans rfl
      go_wp2_with fail
      refine (Done_some _ _ 80 _ hbk.wr).mono ?_
      rintro e W3 ⟨rfl, hb3⟩
      have hR := hbk.res.below hb3 hbk.res.lt
      have hb := hbk.bel.trans (hb3.mono hbk.bel.size)
      clear hbk hb3 cm
      rw [show fdone (pgTo kP idx ns 16) 80 = B from HB.out.symm]
      go_wp2_with (refine wpList_store_row rfl 32 _ _ rfl _ _ rfl rfl _ _ hR hi hzz (cellsOf_one _) ?_)
      exact bodyPost_ret (results_row_tmp rfl _ _ _ _ _ _ _ rfl (setRow_heap W3 _ _ _ _ _ hR) Try.underlying32 rfl hi) rfl ⟨rfl, below_row hb (by omega)⟩

theorem put_anyP (p idx : Nat) (ns : List Nat) (hn : ns.length = kP.n) (hs : ∀ j (hj : j < ns.length), ns[j] < 256 ^ kP.wd) (w : World) (hw : IsPg .u64 30 w p idx ns) :
    Calls Try.prog 22 #[.agg #[.int .u8 80, .int .u32 16], .int .u32 (idx : Int), .slice (some ⟨p, 1, none⟩) 16 16] w fun e w' => e = .returned (.tuple #[.agg (cellsOf (putB kP idx ns)), .int .i64 (putE kP idx)]) ∧ Below w.heap.size w w' := by
  by_cases ho : idx < kP.lim
  · rw [putB_yes ns ho, putE_yes ho]; exact put_yesP p idx ns hn hs ho w hw
  · rw [show putB kP idx ns = zeros from if_neg ho, putE_no ho]; exact put_noP p idx ho w


end Go.Proofs.Ytkkeemjgeeillaa.Tal
