/-
  The walks of crc.Seal, Good and Zero, and of the reference's three, over blocks by value.
-/
import Derived.Test.YtmbmgncajfamiaaCrcRefSum
import Derived.Test.YtmbmgncajfamiaaCrcBurst
namespace Go.Proofs.Ytmbmgncajfamiaa.Crc
open Go.RowKit RowLaw

/-- a block's bytes as cells -/
def cellsOf (l : List UInt8) : Array Value := (l.map fun u => Value.int .u8 (u.toNat : Int)).toArray
theorem cellsOf_size (l : List UInt8) : (cellsOf l).size = l.length := by simp [cellsOf]
theorem cellsOf_get (l : List UInt8) (j : Nat) (h : j < l.length) : (cellsOf l)[j]? = some (.int .u8 (l[j].toNat : Int)) := by simp [cellsOf, h]
theorem cellsOf_one (l : List UInt8) : (cellsOf l).all (·.oneCell') = true := by
  rw [Array.all_eq_true_iff_forall_mem]
  intro v hv
  simp only [cellsOf, List.mem_toArray, List.mem_map] at hv
  obtain ⟨u, _, rfl⟩ := hv
  rfl
theorem cellsOf_set (l : List UInt8) (j : Nat) (u : UInt8) : (cellsOf l).setIfInBounds j (.int .u8 (u.toNat : Int)) = cellsOf (l.set j u) := by
  simp [cellsOf, List.map_set]
theorem cellsOf_inj {l m : List UInt8} (h : cellsOf l = cellsOf m) : l = m := by
  have h' : l.map (fun u => Value.int .u8 (u.toNat : Int)) = m.map (fun u => Value.int .u8 (u.toNat : Int)) := by simpa [cellsOf] using h
  exact List.map_inj_right (fun a b hab => by injection hab with _ hab; exact UInt8.toNat_inj.1 (by exact_mod_cast hab)) |>.1 h'

def zeros : List UInt8 := List.replicate 256 0
theorem zeros_length : zeros.length = 256 := List.length_replicate
theorem infoBlock : (Try.prog.info? 29).map (fun i => (i.zero, i.size)) = some (some (.agg (cellsOf zeros)), 256) := by kernel_rfl

/-- the seal's bytes, one behind the other -/
def sealTo (l : List UInt8) (k : Nat) : List UInt8 := l.take 252 ++ ((be4 (crc (l.take 252))).take k ++ l.drop (252 + k))
theorem sealTo_length {l : List UInt8} (h : l.length = 256) (k : Nat) (hk : k ≤ 4) : (sealTo l k).length = 256 := by
  simp [sealTo, be4, h]; omega
theorem sealTo_zero (l : List UInt8) : sealTo l 0 = l := by simp [sealTo]
theorem be4_length (v : BitVec 32) : (be4 v).length = 4 := rfl
theorem sealTo_four {l : List UInt8} (h : l.length = 256) : sealTo l 4 = sealB l := by
  unfold sealTo sealB
  rw [List.drop_of_length_le (by omega), List.append_nil]; rfl
theorem sealTo_set {l : List UInt8} (h : l.length = 256) (k : Nat) (hk : k < 4) :
    (sealTo l k).set (252 + k) (UInt8.ofNat ((crc (l.take 252)).toNat / 2 ^ (8 * (3 - k)))) = sealTo l (k + 1) := by
  obtain ⟨a, b, c, d, e⟩ := len4 (l := l.drop 252) (by simp [h])
  have ht : (l.take 252).length = 252 := by simp [h]
  have hd : ∀ j, l.drop (252 + j) = [a, b, c, d].drop j := by intro j; rw [← e, List.drop_drop]
  unfold sealTo
  rw [List.set_append_right _ _ (by omega), ht, hd, hd]
  generalize crc (l.take 252) = v
  congr 1
  rw [show 252 + k - 252 = k from by omega]
  have hk' : k = 0 ∨ k = 1 ∨ k = 2 ∨ k = 3 := by omega
  rcases hk' with rfl | rfl | rfl | rfl <;> simp [be4]

/-- block number b holds the bytes l -/
def Holds (w : World) (b : Nat) (l : List UInt8) : Prop := w.heap[b]? = some (.cells (cellsOf l) 29 (0, 0))
theorem Holds.lt {w : World} {b : Nat} {l : List UInt8} (h : Holds w b l) : b < w.heap.size := by
  rcases Nat.lt_or_ge b w.heap.size with hlt | hge
  · exact hlt
  · unfold Holds at h; rw [Array.getElem?_eq_none hge] at h; cases h
theorem Holds.below {w w' : World} {b B : Nat} {l : List UInt8} (h : Holds w b l) (hb : Below B w w') (hB : b < B) : Holds w' b l := (hb.block b hB).trans h
theorem Holds.cell {w : World} {b : Nat} {l : List UInt8} (h : Holds w b l) (j : Nat) (hj : j < l.length) : w.cell? ⟨b, j, none⟩ = some (.int .u8 (l[j].toNat : Int)) :=
  (cell_of_row w b j _ _ _ h).trans (cellsOf_get l j hj)
theorem Holds.frozen {w : World} {b : Nat} {l : List UInt8} (h : Holds w b l) (j : Nat) : w.frozen? ⟨b, j, none⟩ = false := frozen_of_row w b j _ _ h
theorem Holds.set_ {w : World} {b : Nat} {l : List UInt8} (h : Holds w b l) (j : Nat) (u : UInt8) : Holds (w.setCell ⟨b, j, none⟩ (.int .u8 (u.toNat : Int))) b (l.set j u) := by
  unfold Holds
  rw [← cellsOf_set]
  exact heap_setCell_same w b j _ _ _ h
theorem Holds.other {w : World} {b : Nat} {l : List UInt8} (h : Holds w b l) (a : Addr) (v : Value) (ha : b ≠ a.block) : Holds (w.setCell a v) b l :=
  (heap_setCell_other w a b v ha).trans h
theorem Holds.new (w : World) (l : List UInt8) : Holds (w.alloc (.cells (cellsOf l) 29)) w.heap.size l := heap_alloc_new w _
theorem Holds.alloc {w : World} {b : Nat} {l : List UInt8} (h : Holds w b l) (o : Obj) : Holds (w.alloc o) b l := (Below.heap_alloc w o b h.lt).trans h

theorem sumBlk_any (b : Nat) (l : List UInt8) (hl : l.length = 256) (w : World) (h : Holds w b l) :
    Calls Try.prog 65 #[.slice (some ⟨b, 0, none⟩) 252 256] w fun e w' => e = .returned (.int .u32 ((crc (l.take 252)).toNat : Int)) ∧ Below w.heap.size w w' := by
  have hlen : (l.take 252).length = 252 := by simp [hl]
  have := sumB_any b 0 256 (l.take 252) (by unfold maxLen; omega) (by omega) w h.lt (fun j hj => by
    rw [Nat.zero_add, h.cell j (by omega)]; simp)
  rw [hlen] at this
  exact this

theorem byte_of (n k : Nat) : (n : Int) / 2 ^ (8 * (3 - k)) % 256 = ((UInt8.ofNat (n / 2 ^ (8 * (3 - k)))).toNat : Int) := by
  rw [UInt8.toNat_ofNat']
  have h : ((n : Int) / 2 ^ (8 * (3 - k))) = ((n / 2 ^ (8 * (3 - k)) : Nat) : Int) := by rw [Int.natCast_ediv]; congr 1
  rw [h]; rfl

set_option maxHeartbeats 800000 in
theorem Seal_any (l : List UInt8) (hl : l.length = 256) (w : World) :
    Calls Try.prog 46 #[.agg (cellsOf l)] w fun e w' => e = .returned (.agg (cellsOf (sealB l))) ∧ Below w.heap.size w w' := by
  have hzv := (zero_of_info infoBlock).1
  go_enter Try.func46, Try.ntmps46
  go_wp2_with fail
  have hA : Holds ((w.alloc (.cells (cellsOf l) 29)).alloc (.cells (cellsOf zeros) 29)) w.heap.size l := (Holds.new w l).alloc _
  have hB : Holds ((w.alloc (.cells (cellsOf l) 29)).alloc (.cells (cellsOf zeros) 29)) (w.heap.size + 1) zeros := heap_alloc2_new w _ _
  have hbel : Below w.heap.size w ((w.alloc (.cells (cellsOf l) 29)).alloc (.cells (cellsOf zeros) 29)) := ((Below.refl _ _).alloc (Nat.le_refl _) _).alloc (by simp) _
  generalize (w.alloc (.cells (cellsOf l) 29)).alloc (.cells (cellsOf zeros) 29) = W at *
  refine (sumBlk_any w.heap.size l hl W hA).mono ?_
  rintro e W2 ⟨rfl, hb2⟩
  have hA2 := hA.below hb2 hA.lt
  have hB2 := hB.below hb2 hB.lt
  have hbel2 : Below w.heap.size w W2 := hbel.trans (hb2.mono hbel.size)
  clear hA hB hbel hb2
  have hx := (crc (l.take 252)).isLt
  go_wp2_with fail
  go_loopw [7] (fun i wr => ∃ k : Nat, k ≤ 4 ∧ i = .int .i64 k ∧ Holds wr w.heap.size (sealTo l k) ∧ Holds wr (w.heap.size + 1) zeros ∧ Below w.heap.size w wr) (fun i _ => 4 - (intOf i).toNat)
  case atStart => exact ⟨0, by omega, rfl, by rw [sealTo_zero]; exact hA2, hB2, hbel2⟩
  case round =>
    obtain ⟨k, hk, rfl, hA3, hB3, hbel3⟩ := hrel
    have hsl := sealTo_length hl k hk
    by_cases hlt : k < 4
    · have hc := hA3.cell (252 + k) (by omega)
      have hf := hA3.frozen (252 + k)
      go_wp2_with fail
      go_roundw
      case rel =>
        rw [byte_of]
        refine ⟨k + 1, by omega, by go_num, ?_, hB3.other _ _ (by simp), hbel3.setCell (Nat.le_refl _) _⟩
        rw [← sealTo_set hl k hlt]
        exact hA3.set_ _ _
      case measure => simp [intOf]; omega
    · obtain rfl : k = 4 := by omega
      rw [sealTo_four hl] at hA3
      have hsz := sealB_length hl
      have hi : (Try.prog.info? 29).map (·.size) = some (cellsOf (sealB l)).size := by rw [cellsOf_size, hsz]; exact (zero_of_info infoBlock).2
      have hzz : (cellsOf zeros).size = (cellsOf (sealB l)).size := by rw [cellsOf_size, cellsOf_size, hsz, zeros_length]
      clear hsl hsz hx
      go_wp2_with (first | (refine wpList_load_row rfl 29 _ rfl _ rfl _ _ _ _ hA3 Try.underlying29 rfl hi ?_) | (refine wpList_store_row rfl 29 _ _ rfl _ _ rfl rfl _ _ hB3 hi hzz (cellsOf_one _) ?_))
      refine bodyPost_ret (v := .agg (cellsOf (sealB l))) ?_ rfl ⟨rfl, ?_⟩
      · exact results_cell_row rfl _ _ _ _ _ _ _ rfl (setRow_heap wr _ _ _ _ _ hB3) Try.underlying29 rfl hi
      · exact Below.trans hbel3 ⟨rfl, rfl, rfl, by simp, fun k hk => setRow_other wr _ _ _ (by omega)⟩

theorem sealB_sets {l : List UInt8} (h : l.length = 256) : ((((l.set 252 (UInt8.ofNat ((crc (l.take 252)).toNat / 16777216))).set 253 (UInt8.ofNat ((crc (l.take 252)).toNat / 65536))).set 254 (UInt8.ofNat ((crc (l.take 252)).toNat / 256))).set 255 (UInt8.ofNat (crc (l.take 252)).toNat)) = sealB l := by
  have e0 := sealTo_set h 0 (by omega)
  have e1 := sealTo_set h 1 (by omega)
  have e2 := sealTo_set h 2 (by omega)
  have e3 := sealTo_set h 3 (by omega)
  rw [sealTo_zero] at e0
  rw [← sealTo_four h, ← e3, ← e2, ← e1, ← e0]
  generalize (crc (l.take 252)).toNat = n
  simp

theorem u8_div (n d : Nat) : (n : Int) / (d : Int) % 256 = ((UInt8.ofNat (n / d)).toNat : Int) := by
  rw [UInt8.toNat_ofNat', Int.natCast_emod, Int.natCast_ediv]; rfl
theorem u8_24 (n : Nat) : (n : Int) / 16777216 % 256 = ((UInt8.ofNat (n / 16777216)).toNat : Int) := u8_div n 16777216
theorem u8_16 (n : Nat) : (n : Int) / 65536 % 256 = ((UInt8.ofNat (n / 65536)).toNat : Int) := u8_div n 65536
theorem u8_8 (n : Nat) : (n : Int) / 256 % 256 = ((UInt8.ofNat (n / 256)).toNat : Int) := u8_div n 256
theorem u8_mod (n : Nat) : (n : Int) % 256 = ((UInt8.ofNat n).toNat : Int) := by
  rw [UInt8.toNat_ofNat', Int.natCast_emod]; rfl

set_option maxHeartbeats 800000 in
theorem refSeal_any (l : List UInt8) (hl : l.length = 256) (w : World) :
    Calls Try.prog 16 #[.agg (cellsOf l)] w fun e w' => e = .returned (.agg (cellsOf (sealB l))) ∧ Below w.heap.size w w' := by
  have hzv := (zero_of_info infoBlock).1
  have hA : Holds ((w.alloc (.cells (cellsOf l) 29)).alloc (.cells (cellsOf zeros) 29)) w.heap.size l := (Holds.new w l).alloc _
  have hB : Holds ((w.alloc (.cells (cellsOf l) 29)).alloc (.cells (cellsOf zeros) 29)) (w.heap.size + 1) zeros := heap_alloc2_new w _ _
  have hbel : Below w.heap.size w ((w.alloc (.cells (cellsOf l) 29)).alloc (.cells (cellsOf zeros) 29)) := ((Below.refl _ _).alloc (Nat.le_refl _) _).alloc (by simp) _
  have hlen : (l.take 252).length = 252 := by simp [hl]
  have hcv := run_convert_bytes_back (P := Try.prog) ((w.alloc (.cells (cellsOf l) 29)).alloc (.cells (cellsOf zeros) 29)) 50 9 5 ⟨w.heap.size, 0, none⟩ 256 (l.take 252) Try.underlying50 Try.underlying5 Try.underlying9
    (fun j hj => by rw [Addr.add_mid, Nat.zero_add, hA.cell j (by omega)]; simp)
  rw [hlen] at hcv
  have hx := (crc (l.take 252)).isLt
  have HL := Lib.hid hlen; clear hlen
  go_enter Try.func16, Try.ntmps16
  go_wp2_with fail
  refine (refSum_any _ (by have := HL.out; unfold maxLen ByteArray.size; simp; omega) _).mono ?_
  rintro e w' ⟨rfl, rfl⟩
  clear hcv
  generalize (w.alloc (.cells (cellsOf l) 29)).alloc (.cells (cellsOf zeros) 29) = W at *
  have c2 := hA.cell 252 (by omega)
  have c3 := hA.cell 253 (by omega)
  have c4 := hA.cell 254 (by omega)
  have c5 := hA.cell 255 (by omega)
  have f2 := hA.frozen 252
  have f3 := hA.frozen 253
  have f4 := hA.frozen 254
  have f5 := hA.frozen 255
  have hsz := sealB_length hl
  have hi : (Try.prog.info? 29).map (·.size) = some (cellsOf (sealB l)).size := by rw [cellsOf_size, hsz]; exact (zero_of_info infoBlock).2
  have hzz : (cellsOf zeros).size = (cellsOf (sealB l)).size := by rw [cellsOf_size, cellsOf_size, hsz, zeros_length]
  have HS := Lib.hid hsz; clear hsz
  generalize hcr : crc (List.take 252 l) = v at *
  have hF := (((hA.set_ 252 (UInt8.ofNat (v.toNat / 16777216))).set_ 253 (UInt8.ofNat (v.toNat / 65536))).set_ 254 (UInt8.ofNat (v.toNat / 256))).set_ 255 (UInt8.ofNat v.toNat)
  have hG := (((hB.other ⟨w.heap.size, 252, none⟩ (.int .u8 ((UInt8.ofNat (v.toNat / 16777216)).toNat : Int)) (by simp)).other ⟨w.heap.size, 253, none⟩ (.int .u8 ((UInt8.ofNat (v.toNat / 65536)).toNat : Int)) (by simp)).other ⟨w.heap.size, 254, none⟩ (.int .u8 ((UInt8.ofNat (v.toNat / 256)).toNat : Int)) (by simp)).other ⟨w.heap.size, 255, none⟩ (.int .u8 ((UInt8.ofNat v.toNat).toNat : Int)) (by simp)
  have hH := (((hbel.setCell (p := ⟨w.heap.size, 252, none⟩) (Nat.le_refl _) (.int .u8 ((UInt8.ofNat (v.toNat / 16777216)).toNat : Int))).setCell (p := ⟨w.heap.size, 253, none⟩) (Nat.le_refl _) (.int .u8 ((UInt8.ofNat (v.toNat / 65536)).toNat : Int))).setCell (p := ⟨w.heap.size, 254, none⟩) (Nat.le_refl _) (.int .u8 ((UInt8.ofNat (v.toNat / 256)).toNat : Int))).setCell (p := ⟨w.heap.size, 255, none⟩) (Nat.le_refl _) (.int .u8 ((UInt8.ofNat v.toNat).toNat : Int))
  have hse := sealB_sets hl
  rw [hcr] at hse
  rw [hse] at hF
  have e2 : ((UInt8.ofNat (v.toNat / 16777216)).toNat : Int) = (v.toNat : Int) / 16777216 := by rw [← u8_24]; omega
  rw [e2, ← u8_16, ← u8_8, ← u8_mod] at hF hG hH
  clear hse e2 hA hB hbel hcr
  have HH := Lib.hid hH; clear hH
  go_wp2_with (refine wpList_load_row rfl 29 _ rfl _ rfl 29 (cellsOf (sealB l)) (0, 0) _ ?_ Try.underlying29 rfl hi ?_; exact hF; generalize ((((W.setCell ⟨w.heap.size, 252, none⟩ (.int .u8 ((v.toNat : Int) / 16777216))).setCell ⟨w.heap.size, 253, none⟩ (.int .u8 ((v.toNat : Int) / 65536 % 256))).setCell ⟨w.heap.size, 254, none⟩ (.int .u8 ((v.toNat : Int) / 256 % 256))).setCell ⟨w.heap.size, 255, none⟩ (.int .u8 ((v.toNat : Int) % 256))) = W3 at hF hG HH ⊢; refine wpList_store_row rfl 29 _ _ rfl _ _ rfl rfl _ _ hG hi hzz (cellsOf_one _) ?_)
  refine bodyPost_ret (v := .agg (cellsOf (sealB l))) ?_ rfl ⟨rfl, ?_⟩
  · exact results_cell_row rfl _ _ _ _ _ _ _ rfl (setRow_heap _ _ _ _ _ _ hG) Try.underlying29 rfl hi
  · exact Below.trans HH.out ⟨rfl, rfl, rfl, by simp, fun k hk => setRow_other _ _ _ _ (by omega)⟩

end Go.Proofs.Ytmbmgncajfamiaa.Crc
