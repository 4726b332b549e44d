/-
  Plain mathematics of sealed blocks: what sealing is, that it is a condition on the register behind the whole block, and that a burst of at most 32 inverted bits breaks it.
-/
import Derived.Test.YtmbmgncajfamiaaCrcMath
namespace Go.Proofs.Ytmbmgncajfamiaa.Crc

/-- the four bytes of a checksum, the most significant one first -/
def be4 (v : BitVec 32) : List UInt8 := [UInt8.ofNat (v.toNat / 16777216), UInt8.ofNat (v.toNat / 65536), UInt8.ofNat (v.toNat / 256), UInt8.ofNat v.toNat]
def sealB (l : List UInt8) : List UInt8 := l.take 252 ++ be4 (crc (l.take 252))

theorem sealB_length {l : List UInt8} (h : l.length = 256) : (sealB l).length = 256 := by simp [sealB, be4, h]
theorem sealB_take {l : List UInt8} (h : l.length = 256) : (sealB l).take 252 = l.take 252 := by
  unfold sealB; rw [List.take_append_of_le_length (by simp [h]), List.take_take]; rfl
theorem sealB_sealB {l : List UInt8} (h : l.length = 256) : sealB (sealB l) = sealB l := by
  show (sealB l).take 252 ++ be4 (crc ((sealB l).take 252)) = sealB l
  rw [sealB_take h]; rfl
theorem sealB_congr {l m : List UInt8} (h : l.take 252 = m.take 252) : sealB l = sealB m := by unfold sealB; rw [h]

/-! ### At most 32 bits are a word -/
def vec : List Bool → BitVec 32
  | [] => 0#32
  | b :: l => top b ^^^ (vec l >>> 1)

theorem top_bit (b : Bool) (i : Nat) : (top b).getLsbD i = (b && decide (i = 31)) := by
  cases b
  · simp [top]
  · have h : ∀ j : Fin 32, (0x80000000#32).getLsbD j.val = decide (j.val = 31) := by decide
    by_cases hi : i < 32
    · simpa [top] using h ⟨i, hi⟩
    · rw [BitVec.getLsbD_of_ge _ _ (by omega)]; simp; omega

theorem vec_bit : ∀ (l : List Bool) (i : Nat), i < 32 → (vec l).getLsbD i = l.getD (31 - i) false
  | [], i, _ => by simp [vec]
  | b :: l, i, hi => by
    rw [vec, BitVec.getLsbD_xor, top_bit, BitVec.getLsbD_ushiftRight]
    by_cases h : i = 31
    · subst h; simp
    · have e : 31 - i = (31 - (1 + i)) + 1 := by omega
      rw [vec_bit l (1 + i) (by omega), e, List.getD_cons_succ]
      simp [h]

theorem sh_shr (v : BitVec 32) (h : v.getLsbD 0 = false) : sh (v >>> 1) = v := by
  rw [sh_low _ (by rw [BitVec.msb_eq_getLsbD_last]; simp)]
  apply BitVec.eq_of_getLsbD_eq
  intro i hi
  rw [BitVec.getLsbD_shiftLeft, BitVec.getLsbD_ushiftRight]
  by_cases h0 : i = 0
  · subst h0; rw [h]; simp
  · have e : 1 + (i - 1) = i := by omega
    rw [e]; simp [hi, h0]

theorem reg_vec : ∀ (l : List Bool) (w : BitVec 32), l.length ≤ 32 → reg w l = reg (w ^^^ vec l) (List.replicate l.length false)
  | [], w, _ => by simp [vec, reg]
  | b :: l, w, h => by
    have hl : l.length ≤ 31 := by simpa using h
    have e1 : reg w (b :: l) = reg (stp w b) l := rfl
    have e2 : reg (w ^^^ vec (b :: l)) (List.replicate (b :: l).length false) = reg (stp (w ^^^ vec (b :: l)) false) (List.replicate l.length false) := rfl
    have h0 : (vec l).getLsbD 0 = false := by rw [vec_bit l 0 (by omega), List.getD_eq_getElem?_getD, List.getElem?_eq_none (by omega)]; rfl
    rw [e1, e2, reg_vec l _ (by omega), stp_sh, stp_sh]
    have ht : top false = 0#32 := rfl
    rw [ht, BitVec.xor_zero, vec, ← BitVec.xor_assoc, sh_xor (w ^^^ top b), sh_shr _ h0]

theorem vec_be4 (v : BitVec 32) : vec (bitsL (be4 v)) = v := by
  have t : ∀ (n k : Nat), k < 8 → (n % 256).testBit k = n.testBit k := by
    intro n k hk
    have := Nat.testBit_mod_two_pow n 8 k
    simpa [hk] using this
  have d : ∀ (j k : Nat), (v.toNat / 2 ^ j).testBit k = v.getLsbD (j + k) := by
    intro j k
    rw [Nat.testBit_div_two_pow, BitVec.testBit_toNat, Nat.add_comm]
  have d24 : ∀ k, (v.toNat / 16777216).testBit k = v.getLsbD (24 + k) := d 24
  have d16 : ∀ k, (v.toNat / 65536).testBit k = v.getLsbD (16 + k) := d 16
  have d8 : ∀ k, (v.toNat / 256).testBit k = v.getLsbD (8 + k) := d 8
  have d0 : ∀ k, (v.toNat).testBit k = v.getLsbD k := fun k => BitVec.testBit_toNat v
  apply BitVec.eq_of_getLsbD_eq
  intro i hi
  rw [vec_bit _ _ hi]
  have e : bitsL (be4 v) = [v.getLsbD 31, v.getLsbD 30, v.getLsbD 29, v.getLsbD 28, v.getLsbD 27, v.getLsbD 26, v.getLsbD 25, v.getLsbD 24,
      v.getLsbD 23, v.getLsbD 22, v.getLsbD 21, v.getLsbD 20, v.getLsbD 19, v.getLsbD 18, v.getLsbD 17, v.getLsbD 16,
      v.getLsbD 15, v.getLsbD 14, v.getLsbD 13, v.getLsbD 12, v.getLsbD 11, v.getLsbD 10, v.getLsbD 9, v.getLsbD 8,
      v.getLsbD 7, v.getLsbD 6, v.getLsbD 5, v.getLsbD 4, v.getLsbD 3, v.getLsbD 2, v.getLsbD 1, v.getLsbD 0] := by
    unfold bitsL be4 bitsU8
    simp only [List.flatMap_cons, List.flatMap_nil, List.append_nil, UInt8.toNat_ofNat']
    rw [t _ 7 (by omega), t _ 6 (by omega), t _ 5 (by omega), t _ 4 (by omega), t _ 3 (by omega), t _ 2 (by omega), t _ 1 (by omega), t _ 0 (by omega)]
    rw [t _ 7 (by omega), t _ 6 (by omega), t _ 5 (by omega), t _ 4 (by omega), t _ 3 (by omega), t _ 2 (by omega), t _ 1 (by omega), t _ 0 (by omega)]
    rw [t _ 7 (by omega), t _ 6 (by omega), t _ 5 (by omega), t _ 4 (by omega), t _ 3 (by omega), t _ 2 (by omega), t _ 1 (by omega), t _ 0 (by omega)]
    rw [t _ 7 (by omega), t _ 6 (by omega), t _ 5 (by omega), t _ 4 (by omega), t _ 3 (by omega), t _ 2 (by omega), t _ 1 (by omega), t _ 0 (by omega)]
    simp only [d24, d16, d8, d0]
    rfl
  rw [e]
  have hc : ∀ (f : Nat → Bool) (j : Nat), j < 32 → ([f 31, f 30, f 29, f 28, f 27, f 26, f 25, f 24, f 23, f 22, f 21, f 20, f 19, f 18, f 17, f 16, f 15, f 14, f 13, f 12, f 11, f 10, f 9, f 8, f 7, f 6, f 5, f 4, f 3, f 2, f 1, f 0] : List Bool).getD (31 - j) false = f j := by
    intro f j hj
    rcases j with _ | _ | _ | _ | _ | _ | _ | _ | _ | _ | _ | _ | _ | _ | _ | _ | _ | _ | _ | _ | _ | _ | _ | _ | _ | _ | _ | _ | _ | _ | _ | _ | j <;> first | rfl | omega
  exact hc (fun i => v.getLsbD i) i hi

/-- what is left in the register behind a sealed block -/
def rest : BitVec 32 := reg 0xffffffff#32 (List.replicate 32 false)

theorem bitsL_append (l m : List UInt8) : bitsL (l ++ m) = bitsL l ++ bitsL m := by simp [bitsL]
theorem bitsL_length : ∀ l : List UInt8, (bitsL l).length = 8 * l.length
  | [] => rfl
  | u :: l => by
    have := bitsL_length l
    show (bitsU8 u ++ bitsL l).length = _
    simp [bitsU8, this]; omega

/-- four bytes behind a register: the rest is the sealed block's only if they are its inverted bits -/
theorem reg_word (w v : BitVec 32) : reg w (bitsL (be4 v)) = reg (w ^^^ v) (List.replicate 32 false) := by
  rw [reg_vec _ _ (by rw [bitsL_length]; simp [be4]), vec_be4, bitsL_length]; rfl

theorem u8_ofNat_eq {u : UInt8} {n : Nat} (h : u.toNat = n % 256) : UInt8.ofNat n = u := by
  apply UInt8.toNat_inj.1; rw [UInt8.toNat_ofNat']; exact h.symm

theorem be4_of (a b c d : UInt8) : ∃ v : BitVec 32, be4 v = [a, b, c, d] := by
  have ha := a.toNat_lt; have hb := b.toNat_lt; have hc := c.toNat_lt; have hd := d.toNat_lt
  refine ⟨BitVec.ofNat 32 (a.toNat * 16777216 + b.toNat * 65536 + c.toNat * 256 + d.toNat), ?_⟩
  have e : (BitVec.ofNat 32 (a.toNat * 16777216 + b.toNat * 65536 + c.toNat * 256 + d.toNat)).toNat = a.toNat * 16777216 + b.toNat * 65536 + c.toNat * 256 + d.toNat := by
    rw [BitVec.toNat_ofNat]; apply Nat.mod_eq_of_lt; omega
  unfold be4
  rw [e]
  rw [u8_ofNat_eq (u := a) (by omega), u8_ofNat_eq (u := b) (by omega), u8_ofNat_eq (u := c) (by omega), u8_ofNat_eq (u := d) (by omega)]

theorem be4_inj {v w : BitVec 32} (h : be4 v = be4 w) : v = w := by rw [← vec_be4 v, ← vec_be4 w, h]

theorem len4 : ∀ {l : List UInt8}, l.length = 4 → ∃ a b c d, l = [a, b, c, d]
  | [a, b, c, d], _ => ⟨a, b, c, d, rfl⟩

theorem xor_ones (a : BitVec 32) : a ^^^ ~~~a = 0xffffffff#32 := by
  apply BitVec.eq_of_getLsbD_eq
  intro i hi
  have : ∀ j : Fin 32, (0xffffffff#32).getLsbD j.val = true := by decide
  rw [this ⟨i, hi⟩]
  simp [hi]

theorem good_iff {l : List UInt8} (h : l.length = 256) : sealB l = l ↔ crcReg l = rest := by
  obtain ⟨a, b, c, d, e⟩ := len4 (l := l.drop 252) (by simp [h])
  obtain ⟨v, hv⟩ := be4_of a b c d
  have hl : l = l.take 252 ++ be4 v := by rw [hv, ← e, List.take_append_drop]
  have hr : crcReg l = reg (crcReg (l.take 252) ^^^ v) (List.replicate 32 false) := by
    rw [crcReg_reg l]
    conv => lhs; rw [hl]
    rw [bitsL_append, reg_append, reg_word, ← crcReg_reg]
  rw [hr]
  constructor
  · intro hs
    have : be4 (crc (l.take 252)) = be4 v := by
      have hs' : l.take 252 ++ be4 (crc (l.take 252)) = l.take 252 ++ be4 v := by rw [← hl]; exact hs
      exact List.append_cancel_left hs'
    have hv' := be4_inj this
    rw [← hv', crc, xor_ones]; rfl
  · intro hs
    have h1 := reg_inj _ hs
    have h2 : v = crc (l.take 252) := by
      have : crcReg (l.take 252) ^^^ v = crcReg (l.take 252) ^^^ ~~~ crcReg (l.take 252) := by rw [xor_ones]; exact h1
      exact BitVec.xor_right_inj _ |>.1 this
    unfold sealB
    rw [← h2]
    exact hl.symm

end Go.Proofs.Ytmbmgncajfamiaa.Crc
