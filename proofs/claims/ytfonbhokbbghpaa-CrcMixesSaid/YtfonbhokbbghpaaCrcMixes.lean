/-
  The walk of the law CrcMixes: the checksum of an exclusive or of three texts.
-/
import Derived.Test.YtfonbhokbbghpaaCrcTells
import Derived.Deep.OwnRows
import Derived.Deep.Cut
namespace Go.Proofs.Ytfonbhokbbghpaa.Crc
open Go.RowKit RowLaw

/-- block number b is a row of the bytes l -/
def HoldsB (w : World) (b : Nat) (l : List UInt8) : Prop := w.heap[b]? = some (.cells (cellsOf l) 5 (0, 0))
theorem HoldsB.lt {w : World} {b : Nat} {l : List UInt8} (h : HoldsB w b l) : b < w.heap.size := by
  rcases Nat.lt_or_ge b w.heap.size with hlt | hge
  · exact hlt
  · unfold HoldsB at h; rw [Array.getElem?_eq_none hge] at h; cases h
theorem HoldsB.below {w w' : World} {b B : Nat} {l : List UInt8} (h : HoldsB w b l) (hb : Below B w w') (hB : b < B) : HoldsB w' b l := (hb.block b hB).trans h
theorem HoldsB.cell {w : World} {b : Nat} {l : List UInt8} (h : HoldsB w b l) (j : Nat) (hj : j < l.length) : w.cell? ⟨b, j, none⟩ = some (.int .u8 (l[j].toNat : Int)) :=
  (cell_of_row w b j _ _ _ h).trans (cellsOf_get l j hj)
theorem HoldsB.frozen {w : World} {b : Nat} {l : List UInt8} (h : HoldsB w b l) (j : Nat) : w.frozen? ⟨b, j, none⟩ = false := frozen_of_row w b j _ _ h
theorem HoldsB.set_ {w : World} {b : Nat} {l : List UInt8} (h : HoldsB w b l) (j : Nat) (u : UInt8) : HoldsB (w.setCell ⟨b, j, none⟩ (.int .u8 (u.toNat : Int))) b (l.set j u) := by
  unfold HoldsB
  rw [← cellsOf_set]
  exact heap_setCell_same w b j _ _ _ h

/-- a row of bytes of the call's own, and what was there before -/
def RowBox (w : World) (x : List UInt8) (w' : World) : Prop := HoldsB w' w.heap.size x ∧ Below w.heap.size w w'
theorem RowBox.below {w w' w'' : World} {x : List UInt8} (h : RowBox w x w') (hb : Below w'.heap.size w' w'') : RowBox w x w'' := ⟨h.1.below hb h.1.lt, h.2.trans (hb.mono h.2.size)⟩

theorem made_bytes (n : Nat) : madeCells #[Value.int .u8 0] n = cellsOf (List.replicate n 0) := by
  apply Array.ext_getElem?
  intro i
  by_cases h : i < n
  · simp [madeCells, cellsOf, h, Nat.mod_one]
  · rw [Array.getElem?_eq_none (by simp [madeCells]; omega), Array.getElem?_eq_none (by simp [cellsOf]; omega)]

/-- the exclusive or of the first k bytes, zeros behind -/
def mixTo (x y z : List UInt8) (n k : Nat) : List UInt8 := (List.range n).map fun j => if j < k then xor8 (xor8 (x.getD j 0) (y.getD j 0)) (z.getD j 0) else 0
theorem mixTo_length (x y z : List UInt8) (n k : Nat) : (mixTo x y z n k).length = n := by simp [mixTo]
theorem mixTo_zero (x y z : List UInt8) (n : Nat) : mixTo x y z n 0 = List.replicate n 0 := by
  apply List.ext_getElem?
  intro i
  by_cases h : i < n <;> simp [mixTo, h]
theorem mixTo_set (x y z : List UInt8) (n k : Nat) (h : k < n) : (mixTo x y z n k).set k (xor8 (xor8 (x.getD k 0) (y.getD k 0)) (z.getD k 0)) = mixTo x y z n (k + 1) := by
  apply List.ext_getElem?
  intro i
  rw [List.getElem?_set, mixTo_length]
  by_cases hi : k = i
  · subst hi; simp [mixTo, h]
  · rw [if_neg hi]
    by_cases hn : i < n
    · by_cases h1 : i < k
      · have h2 : i < k + 1 := by omega
        simp [mixTo, hn, h1, h2]
      · have h2 : ¬ i < k + 1 := by omega
        simp [mixTo, hn, h1, h2]
    · rw [List.getElem?_eq_none (by rw [mixTo_length]; omega), List.getElem?_eq_none (by rw [mixTo_length]; omega)]
theorem mixTo_all (x y z : List UInt8) (n : Nat) (hx : n ≤ x.length) (hy : n ≤ y.length) (hz : n ≤ z.length) : mixTo x y z n n = List.zipWith xor8 (List.zipWith xor8 (x.take n) (y.take n)) (z.take n) := by
  apply List.ext_getElem?
  intro i
  by_cases h : i < n
  · have h1 : i < x.length := by omega
    have h2 : i < y.length := by omega
    have h3 : i < z.length := by omega
    simp [mixTo, h, List.getElem?_zipWith, h1, h2, h3]
  · rw [List.getElem?_eq_none (by rw [mixTo_length]; omega), List.getElem?_eq_none (by simp; omega)]
theorem crc_mix (x y z : List UInt8) (n : Nat) (hx : n ≤ x.length) (hy : n ≤ y.length) (hz : n ≤ z.length) : crc (mixTo x y z n n) = crc (x.take n) ^^^ crc (y.take n) ^^^ crc (z.take n) := by
  rw [mixTo_all x y z n hx hy hz, crc_xor3 (by simp; omega) (by simp; omega)]
theorem xor8_w (u v : UInt8) : bits .xor .u8 (u.toNat : Int) (v.toNat : Int) = ((xor8 u v).toNat : Int) := by
  have hu := u.toNat_lt
  have hv := v.toNat_lt
  rw [u8_xor_nat _ _ hu hv]
  unfold xor8
  rw [UInt8.toNat_ofNat', Nat.mod_eq_of_lt (Nat.xor_lt_two_pow (n := 8) hu hv)]
theorem xor32_w (x y : BitVec 32) : bits .xor .u32 (x.toNat : Int) (y.toNat : Int) = ((x ^^^ y).toNat : Int) := by
  rw [u32_xor_nat _ _ x.isLt y.isLt, BitVec.toNat_xor]

set_option maxRecDepth 100000 in
set_option maxHeartbeats 1600000 in
theorem mixes_any (a b c : ByteArray) (ha : a.size ≤ maxLen) (_hb : b.size ≤ maxLen) (_hc : c.size ≤ maxLen) (w : World) :
    Calls Try.prog 6 #[.string a, .string b, .string c] w fun e w' => e = .returned (.bool true) ∧ Below w.heap.size w w' := by
  unfold maxLen at ha _hb _hc
  go_enter Try.func6, Try.ntmps6
  go_upto_region 1 with (fail)
  go_cut [7] from 10 (fun v w' => w' = w ∧ ∃ n : Nat, v = .int .i64 n ∧ n ≤ a.size ∧ n ≤ b.size ∧ n ≤ c.size)
  case first =>
    go_wp2_with fail
    all_goals go_meet
    all_goals refine ⟨rfl, _, rfl, ?_, ?_, ?_⟩
    all_goals (first | omega | (split at * <;> omega))
  case rest =>
    obtain ⟨rfl, n, rfl, h1, h2, h3⟩ := hcut
    by_cases hlong : 3000 < n
    · go_wp2_with (go_at_call 7; refine (head_any _).mono ?_; rintro e W1 ⟨rfl, hb⟩)
      go_ret
      exact ⟨rfl, hb⟩
    · have hmk := fun W : World => run_make_row' (P := Try.prog) 35 5 (.int .u8 0) 1 Try.underlying35 (by kernel_rfl) rfl .i64 .i64 n (by omega) (by omega) W
      go_wp2_with fail
      rw [made_bytes, ← mixTo_zero a.data.toList b.data.toList c.data.toList n]
      have hX : HoldsB (wc.alloc (.cells (cellsOf (mixTo a.data.toList b.data.toList c.data.toList n 0)) 5)) wc.heap.size (mixTo a.data.toList b.data.toList c.data.toList n 0) := heap_alloc_new _ _
      have hB : Below wc.heap.size wc (wc.alloc (.cells (cellsOf (mixTo a.data.toList b.data.toList c.data.toList n 0)) 5)) := (Below.refl _ _).alloc (Nat.le_refl _) _
      clear hmk
      generalize wc.alloc (.cells (cellsOf (mixTo a.data.toList b.data.toList c.data.toList n 0)) 5) = W at *
      go_loopw [9] (fun i wr => ∃ k : Nat, k ≤ n ∧ i = .int .i64 k ∧ HoldsB wr wc.heap.size (mixTo a.data.toList b.data.toList c.data.toList n k) ∧ Below wc.heap.size wc wr) (fun i _ => n - (intOf i).toNat)
      case atStart => exact ⟨0, by omega, rfl, hX, hB⟩
      case round =>
        obtain ⟨k, hk, rfl, qX, qB⟩ := hrel
        clear hX hB
        have hlen := mixTo_length a.data.toList b.data.toList c.data.toList n k
        by_cases hlt : k < n
        · have hd : decide ((k : Int) < (n : Int)) = true := by simp; omega
          have cc := qX.cell k (by omega)
          have cf := qX.frozen k
          have e1 := xor8_w a[k] b[k]
          have e2 := xor8_w (xor8 a[k] b[k]) c[k]
          have hset := mixTo_set a.data.toList b.data.toList c.data.toList n k hlt
          have ea : a.data.toList.getD k 0 = a[k] := by rw [List.getD_eq_getElem?_getD, List.getElem?_eq_getElem (by simpa using (show k < a.size by omega))]; rfl
          have eb : b.data.toList.getD k 0 = b[k] := by rw [List.getD_eq_getElem?_getD, List.getElem?_eq_getElem (by simpa using (show k < b.size by omega))]; rfl
          have ec : c.data.toList.getD k 0 = c[k] := by rw [List.getD_eq_getElem?_getD, List.getElem?_eq_getElem (by simpa using (show k < c.size by omega))]; rfl
          rw [ea, eb, ec] at hset
          clear ea eb ec
          generalize xor8 (xor8 a[k] b[k]) c[k] = v2 at hset e2
          generalize xor8 a[k] b[k] = v1 at e1 e2
          generalize (mixTo a.data.toList b.data.toList c.data.toList n k)[k] = v0 at cc
          have HS := Lib.hid hset; clear hset

          have ka : k < a.size := by omega
          have kb : k < b.size := by omega
          have kc : k < c.size := by omega
          go_wp2_with fail
          go_region
          go_wp2_with fail
          go_roundw
          case rel =>
            refine ⟨k + 1, by omega, by go_num, ?_, (qB.setCell (by simp) _).drew⟩
            rw [← HS.out]
            exact qX.set_ _ _
          case measure => simp [intOf]; omega
        · obtain rfl : k = n := by omega
          have hmix := crc_mix a.data.toList b.data.toList c.data.toList k (by simpa using h1) (by simpa using h2) (by simpa using h3)
          have cS : ∀ (W : World) (l : List UInt8) (s : ByteArray), s.data.toList = l → l.length ≤ k → Calls Try.prog 8 #[.string s] W fun e w' => e = .returned (.int .u32 ((crc l).toNat : Int)) ∧ Below W.heap.size W w' := fun W l s hs hl => by
            have hz : s.size ≤ maxLen := by
              have : s.size = l.length := by rw [← hs, Array.length_toList]; rfl
              unfold maxLen; omega
            rw [← hs]; exact Sum_any s hz W
          have cA := fun W => cS W (a.data.toList.take k) (a.extract 0 k) (by simp) (List.length_take_le _ _)
          have cB := fun W => cS W (b.data.toList.take k) (b.extract 0 k) (by simp) (List.length_take_le _ _)
          have cC := fun W => cS W (c.data.toList.take k) (c.extract 0 k) (by simp) (List.length_take_le _ _)
          have cX := fun W => cS W (mixTo a.data.toList b.data.toList c.data.toList k k) ⟨(mixTo a.data.toList b.data.toList c.data.toList k k).toArray⟩ rfl (by omega)
          rw [hmix] at cX
          have hcv : ∀ W : World, RowBox wc (mixTo a.data.toList b.data.toList c.data.toList k k) W → (convert 35 9 (.slice (some ⟨wc.heap.size, 0, none⟩) k k)).run Try.prog W = .ok (.string ⟨(mixTo a.data.toList b.data.toList c.data.toList k k).toArray⟩) W := fun W hW => by
            have := run_convert_bytes_back (P := Try.prog) W 35 9 5 ⟨wc.heap.size, 0, none⟩ k (mixTo a.data.toList b.data.toList c.data.toList k k) Try.underlying35 Try.underlying5 Try.underlying9
              (fun j hj => by rw [Addr.add_mid, Nat.zero_add, hW.1.cell j hj])
            rwa [hlen] at this
          clear cS hmix hlen
          have q5 : RowBox wc (mixTo a.data.toList b.data.toList c.data.toList k k) wr.drew := ⟨qX, qB.drew⟩
          generalize mixTo a.data.toList b.data.toList c.data.toList k k = x at *
          have x1 := xor32_w (crc (a.data.toList.take k)) (crc (b.data.toList.take k))
          have x2 := xor32_w (crc (a.data.toList.take k) ^^^ crc (b.data.toList.take k)) (crc (c.data.toList.take k))
          generalize crc (a.data.toList.take k) ^^^ crc (b.data.toList.take k) ^^^ crc (c.data.toList.take k) = v2 at *
          generalize crc (a.data.toList.take k) ^^^ crc (b.data.toList.take k) = v1 at *
          generalize crc (a.data.toList.take k) = va at *
          generalize crc (b.data.toList.take k) = vb at *
          generalize crc (c.data.toList.take k) = vc at *
          have CA := Lib.hid cA; clear cA
          have CB := Lib.hid cB; clear cB
          have CC := Lib.hid cC; clear cC
          have CX := Lib.hid cX; clear cX
          have HV := Lib.hid hcv; clear hcv
          go_wp2_with fail
          refine wp_region_class_lit (RowBox wc x) (by kernel_rfl) (by kernel_rfl) q5 ?_
          haveI : Nonempty {w' : World // RowBox wc x w'} := ⟨⟨_, q5⟩⟩
          clear qX qB q5
          repeat (first | go_big_quiet_skip | (go_big_quiet_want; first | (refine quiet_convert 35 9 _ rfl _ _ rfl HV.out ?_; go_big_quiet_on; simp only [Act.put, List.setIfInBounds_toArray, List.set_cons_zero, List.set_cons_succ]) | (go_big_quiet_op; first | go_big_quiet_on | go_big_quiet_call (first | (intro h1; (with_reducible refine (CX.out _).mono ?_); exact fun _ _ ⟨he, hb⟩ => ⟨he, h1.below hb⟩) | (intro h1; (with_reducible refine (CA.out _).mono ?_); exact fun _ _ ⟨he, hb⟩ => ⟨he, h1.below hb⟩) | (intro h1; (with_reducible refine (CB.out _).mono ?_); exact fun _ _ ⟨he, hb⟩ => ⟨he, h1.below hb⟩) | (intro h1; (with_reducible refine (CC.out _).mono ?_); exact fun _ _ ⟨he, hb⟩ => ⟨he, h1.below hb⟩) | (intro h1; (with_reducible refine (head_any _).mono ?_); exact fun _ _ ⟨he, hb⟩ => ⟨he, h1.below hb⟩) | (intro _; rfl)))))
          refine wpQuiet_nil ?_
          intro w2 hw2
          go_wp2_with fail
          go_ret
          exact ⟨rfl, hw2.2⟩

end Go.Proofs.Ytfonbhokbbghpaa.Crc
