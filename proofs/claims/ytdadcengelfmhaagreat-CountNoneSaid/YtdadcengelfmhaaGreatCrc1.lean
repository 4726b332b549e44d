/-
  Crc1: CrcMath, CrcSeal, CrcBurst.
-/
/-
  Plain mathematics of the 32-bit checksum: a register of 32 bits, one bit at a time; four bits at a time by a table; linear; injective. Nothing of the program is imported here.
-/
namespace Go.Proofs.YtdadcengelfmhaaGreat.Crc

/-- one shift of the register without a bit of the message -/
def sh (w : BitVec 32) : BitVec 32 := if w.msb then (w <<< 1) ^^^ 0x04c11db7#32 else w <<< 1
/-- one bit of the message -/
def stp (w : BitVec 32) (b : Bool) : BitVec 32 := if w.msb != b then (w <<< 1) ^^^ 0x04c11db7#32 else w <<< 1
def reg (w : BitVec 32) (l : List Bool) : BitVec 32 := l.foldl stp w
def sh4 (w : BitVec 32) : BitVec 32 := sh (sh (sh (sh w)))
/-- the table of sixteen -/
def tab (i : Nat) : BitVec 32 := sh4 (BitVec.ofNat 32 i <<< 28)
/-- four bits by the table -/
def nib (w : BitVec 32) (n : Nat) : BitVec 32 := (w <<< 4) ^^^ tab ((w >>> 28).toNat ^^^ n)
def byteStep (w : BitVec 32) (u : UInt8) : BitVec 32 := nib (nib w (u.toNat / 16)) (u.toNat &&& 15)
def crcReg (l : List UInt8) : BitVec 32 := l.foldl byteStep 0xffffffff#32
def crc (l : List UInt8) : BitVec 32 := ~~~ crcReg l
def bitsU8 (u : UInt8) : List Bool := [u.toNat.testBit 7, u.toNat.testBit 6, u.toNat.testBit 5, u.toNat.testBit 4, u.toNat.testBit 3, u.toNat.testBit 2, u.toNat.testBit 1, u.toNat.testBit 0]
def bitsL (l : List UInt8) : List Bool := l.flatMap bitsU8
/-- a bit at the top -/
def top (b : Bool) : BitVec 32 := if b then 0x80000000#32 else 0#32

theorem msb_xor' (a b : BitVec 32) : (a ^^^ b).msb = (a.msb ^^ b.msb) := by simp
theorem shl_xor (a b : BitVec 32) (n : Nat) : (a ^^^ b) <<< n = (a <<< n) ^^^ (b <<< n) := by
  ext i hi; simp; cases decide (i < n) <;> simp
theorem xor_mid (a b c d : BitVec 32) : (a ^^^ b) ^^^ (c ^^^ d) = (a ^^^ c) ^^^ (b ^^^ d) := by
  rw [BitVec.xor_assoc, BitVec.xor_assoc, ← BitVec.xor_assoc b c d, BitVec.xor_comm b c, BitVec.xor_assoc c b d]

theorem sh_xor (a b : BitVec 32) : sh (a ^^^ b) = sh a ^^^ sh b := by
  unfold sh
  rw [msb_xor', shl_xor]
  cases a.msb <;> cases b.msb <;> simp
  · rw [BitVec.xor_assoc]
  · rw [BitVec.xor_assoc, BitVec.xor_assoc, BitVec.xor_comm (b <<< 1)]
  · rw [xor_mid]; simp

theorem sh_zero : sh 0#32 = 0#32 := by decide
theorem top_msb (b : Bool) : (top b).msb = b := by cases b <;> decide
theorem top_shl (b : Bool) : top b <<< 1 = 0#32 := by cases b <;> decide
theorem stp_sh (w : BitVec 32) (b : Bool) : stp w b = sh (w ^^^ top b) := by
  unfold stp sh
  rw [msb_xor', top_msb, shl_xor, top_shl, BitVec.xor_zero]

theorem stp_xor (a b : BitVec 32) (x y : Bool) : stp (a ^^^ b) (x ^^ y) = stp a x ^^^ stp b y := by
  rw [stp_sh, stp_sh, stp_sh, ← sh_xor]
  have : top (x ^^ y) = top x ^^^ top y := by cases x <;> cases y <;> decide
  rw [this, xor_mid]

theorem reg_xor : ∀ (l m : List Bool) (a b : BitVec 32), l.length = m.length → reg (a ^^^ b) (List.zipWith Bool.xor l m) = reg a l ^^^ reg b m
  | [], [], _, _, _ => rfl
  | [], _ :: _, _, _, h => by simp at h
  | _ :: _, [], _, _, h => by simp at h
  | x :: l, y :: m, a, b, h => by
    simp only [List.zipWith_cons_cons, reg, List.foldl_cons]
    rw [stp_xor]
    exact reg_xor l m (stp a x) (stp b y) (by simpa using h)

/-- the shift loses nothing: the polynomial's lowest bit is 1 -/
theorem sh_inj {a b : BitVec 32} (h : sh a = sh b) : a = b := by
  have h0 : sh (a ^^^ b) = 0#32 := by rw [sh_xor, h, BitVec.xor_self]
  have key : ∀ x : BitVec 32, sh x = 0#32 → x = 0#32 := by
    intro x hx
    unfold sh at hx
    by_cases hm : x.msb = true
    · rw [if_pos hm] at hx
      have := congrArg (fun v : BitVec 32 => v.getLsbD 0) hx
      simp at this
    · rw [if_neg hm] at hx
      apply BitVec.eq_of_getLsbD_eq
      intro i hi
      simp only [BitVec.getLsbD_zero]
      by_cases h31 : i = 31
      · subst h31
        rw [BitVec.msb_eq_getLsbD_last] at hm
        simpa using hm
      · have := congrArg (fun v : BitVec 32 => v.getLsbD (i + 1)) hx
        simp at this
        exact this (by omega)
  have := key _ h0
  exact BitVec.xor_eq_zero_iff.1 this

theorem stp_inj {a b : BitVec 32} {x : Bool} (h : stp a x = stp b x) : a = b := by
  rw [stp_sh, stp_sh] at h
  have := sh_inj h
  exact BitVec.xor_left_inj (top x) |>.1 this

theorem reg_inj : ∀ (l : List Bool) {a b : BitVec 32}, reg a l = reg b l → a = b
  | [], _, _, h => h
  | x :: l, a, b, h => stp_inj (reg_inj l (a := stp a x) (b := stp b x) h)

theorem reg_append (w : BitVec 32) (l m : List Bool) : reg w (l ++ m) = reg (reg w l) m := by simp [reg]


/-! ### Four bits by the table are four bits one by one -/
theorem sh4_xor (a b : BitVec 32) : sh4 (a ^^^ b) = sh4 a ^^^ sh4 b := by simp only [sh4, sh_xor]

theorem sh_low (w : BitVec 32) (h : w.msb = false) : sh w = w <<< 1 := by unfold sh; rw [h]; simp

theorem sh4_low (w : BitVec 32) (h : ∀ i, 28 ≤ i → w.getLsbD i = false) : sh4 w = w <<< 4 := by
  have m : ∀ k, k < 4 → (w <<< k).msb = false := by
    intro k hk
    rw [BitVec.msb_eq_getLsbD_last, BitVec.getLsbD_shiftLeft, h (32 - 1 - k) (by omega)]
    simp
  have e1 : sh w = w <<< 1 := sh_low w (by simpa using m 0 (by omega))
  have e2 : sh (w <<< 1) = w <<< 2 := by rw [sh_low _ (m 1 (by omega)), ← BitVec.shiftLeft_add]
  have e3 : sh (w <<< 2) = w <<< 3 := by rw [sh_low _ (m 2 (by omega)), ← BitVec.shiftLeft_add]
  have e4 : sh (w <<< 3) = w <<< 4 := by rw [sh_low _ (m 3 (by omega)), ← BitVec.shiftLeft_add]
  rw [sh4, e1, e2, e3, e4]

theorem split_top (w : BitVec 32) : w = (w &&& 0x0fffffff#32) ^^^ ((w >>> 28) <<< 28) := by
  apply BitVec.eq_of_getLsbD_eq
  intro i hi
  simp only [BitVec.getLsbD_xor, BitVec.getLsbD_and, BitVec.getLsbD_shiftLeft, BitVec.getLsbD_ushiftRight]
  by_cases h : i < 28
  · have : (0x0fffffff#32).getLsbD i = true := by
      have : ∀ i : Fin 28, (0x0fffffff#32).getLsbD i = true := by decide
      exact this ⟨i, h⟩
    simp [h, this]
  · have : (0x0fffffff#32).getLsbD i = false := by
      have : ∀ i : Fin 32, ¬ i.val < 28 → (0x0fffffff#32).getLsbD i = false := by decide
      exact this ⟨i, hi⟩ h
    have e : 28 + (i - 28) = i := by omega
    rw [this, e]
    simp [h, hi]

theorem ofNat_top (w : BitVec 32) (n : Nat) : BitVec.ofNat 32 ((w >>> 28).toNat ^^^ n) = (w >>> 28) ^^^ BitVec.ofNat 32 n := by
  rw [BitVec.ofNat_xor, BitVec.ofNat_toNat, BitVec.setWidth_eq]

theorem nib_eq (w : BitVec 32) (n : Nat) : nib w n = sh4 (w ^^^ (BitVec.ofNat 32 n <<< 28)) := by
  unfold nib tab
  rw [ofNat_top, shl_xor, sh4_xor, sh4_xor]
  have e : sh4 w = (w <<< 4) ^^^ sh4 ((w >>> 28) <<< 28) := by
    have := split_top w
    have hl : sh4 (w &&& 0x0fffffff#32) = w <<< 4 := by
      rw [sh4_low]
      · apply BitVec.eq_of_getLsbD_eq
        intro i hi
        simp only [BitVec.getLsbD_shiftLeft, BitVec.getLsbD_and]
        by_cases h : i < 4
        · simp [h]
        · have : (0x0fffffff#32).getLsbD (i - 4) = true := by
            have : ∀ i : Fin 28, (0x0fffffff#32).getLsbD i = true := by decide
            exact this ⟨i - 4, by omega⟩
          simp [this]
      · intro i hi
        rw [BitVec.getLsbD_and]
        by_cases h : i < 32
        · have : ∀ i : Fin 32, ¬ i.val < 28 → (0x0fffffff#32).getLsbD i = false := by decide
          rw [this ⟨i, h⟩ (by simpa using hi)]; simp
        · rw [BitVec.getLsbD_of_ge (0x0fffffff#32) i (by omega)]; simp
    calc sh4 w = sh4 ((w &&& 0x0fffffff#32) ^^^ ((w >>> 28) <<< 28)) := by rw [← this]
      _ = _ := by rw [sh4_xor, hl]
  rw [e, BitVec.xor_assoc]

/-- n bits from the front of a register of bits that has them at its top -/
def nibTop (b3 b2 b1 b0 : Bool) : BitVec 32 := top b3 ^^^ (top b2 >>> 1) ^^^ (top b1 >>> 2) ^^^ (top b0 >>> 3)
theorem reg_four (w : BitVec 32) (b3 b2 b1 b0 : Bool) : reg w [b3, b2, b1, b0] = sh4 (w ^^^ nibTop b3 b2 b1 b0) := by
  simp only [reg, List.foldl_cons, List.foldl_nil, stp_sh]
  unfold nibTop
  rw [← BitVec.xor_assoc, ← BitVec.xor_assoc, ← BitVec.xor_assoc]
  simp only [sh4, sh_xor]
  have e1 : ∀ b : Bool, sh (top b >>> 1) = top b := by intro b; cases b <;> decide
  have e2 : ∀ b : Bool, sh (sh (top b >>> 2)) = top b := by intro b; cases b <;> decide
  have e3 : ∀ b : Bool, sh (sh (sh (top b >>> 3))) = top b := by intro b; cases b <;> decide
  rw [e1, e2, e3]

theorem nibTop_eq : ∀ n : Fin 16, nibTop (n.val.testBit 3) (n.val.testBit 2) (n.val.testBit 1) (n.val.testBit 0) = BitVec.ofNat 32 n.val <<< 28 := by decide

theorem nib_reg (w : BitVec 32) (n : Nat) (h : n < 16) : nib w n = reg w [n.testBit 3, n.testBit 2, n.testBit 1, n.testBit 0] := by
  rw [reg_four, nib_eq, nibTop_eq ⟨n, h⟩]

theorem byteStep_reg (w : BitVec 32) (u : UInt8) : byteStep w u = reg w (bitsU8 u) := by
  have hu := u.toNat_lt
  have e1 : ∀ k, (u.toNat / 16).testBit k = u.toNat.testBit (k + 4) := by
    intro k
    have := Nat.testBit_div_two_pow (n := 4) u.toNat k
    simpa [Nat.add_comm] using this
  have e2 : ∀ k, k < 4 → (u.toNat &&& 15).testBit k = u.toNat.testBit k := by
    intro k hk
    have := Nat.testBit_mod_two_pow u.toNat 4 k
    rw [show (15 : Nat) = 2 ^ 4 - 1 from rfl, Nat.and_two_pow_sub_one_eq_mod, this]
    simp [hk]
  unfold byteStep
  rw [nib_reg w _ (by omega), nib_reg _ _ (by have := Nat.and_le_right (n := u.toNat) (m := 15); omega), ← reg_append]
  rw [e1, e1, e1, e1, e2 3 (by omega), e2 2 (by omega), e2 1 (by omega), e2 0 (by omega)]
  rfl

theorem fold_reg : ∀ (l : List UInt8) (w : BitVec 32), l.foldl byteStep w = reg w (bitsL l)
  | [], _ => rfl
  | u :: l, w => by
    show l.foldl byteStep (byteStep w u) = reg w (bitsU8 u ++ bitsL l)
    rw [fold_reg l, byteStep_reg, reg_append]
theorem crcReg_reg (l : List UInt8) : crcReg l = reg 0xffffffff#32 (bitsL l) := fold_reg l _

end Go.Proofs.YtdadcengelfmhaaGreat.Crc

/-
  Plain mathematics of sealed blocks: what sealing is, that it is a condition on the register behind the whole block, and that a burst of at most 32 inverted bits breaks it.
-/
namespace Go.Proofs.YtdadcengelfmhaaGreat.Crc

/-- the four bytes of a checksum, the most significant one first -/
def be4 (v : BitVec 32) : List UInt8 := [UInt8.ofNat (v.toNat / 16777216), UInt8.ofNat (v.toNat / 65536), UInt8.ofNat (v.toNat / 256), UInt8.ofNat v.toNat]
def sealB (l : List UInt8) : List UInt8 := l.take 252 ++ be4 (crc (l.take 252))

theorem sealB_length {l : List UInt8} (h : l.length = 256) : (sealB l).length = 256 := by simp [sealB, be4, h]
theorem sealB_take {l : List UInt8} (h : l.length = 256) : (sealB l).take 252 = l.take 252 := by
  unfold sealB; rw [List.take_append_of_le_length (by simp [h]), List.take_take]; rfl
theorem sealB_sealB {l : List UInt8} (h : l.length = 256) : sealB (sealB l) = sealB l := by
  show (sealB l).take 252 ++ be4 (crc ((sealB l).take 252)) = sealB l
  rw [sealB_take h]; rfl
theorem sealB_congr {l m : List UInt8} (h : l.take 252 = m.take 252) : sealB l = sealB m := by unfold sealB; rw [h]

/-! ### At most 32 bits are a word -/
def vec : List Bool → BitVec 32
  | [] => 0#32
  | b :: l => top b ^^^ (vec l >>> 1)

theorem top_bit (b : Bool) (i : Nat) : (top b).getLsbD i = (b && decide (i = 31)) := by
  cases b
  · simp [top]
  · have h : ∀ j : Fin 32, (0x80000000#32).getLsbD j.val = decide (j.val = 31) := by decide
    by_cases hi : i < 32
    · simpa [top] using h ⟨i, hi⟩
    · rw [BitVec.getLsbD_of_ge _ _ (by omega)]; simp; omega

theorem vec_bit : ∀ (l : List Bool) (i : Nat), i < 32 → (vec l).getLsbD i = l.getD (31 - i) false
  | [], i, _ => by simp [vec]
  | b :: l, i, hi => by
    rw [vec, BitVec.getLsbD_xor, top_bit, BitVec.getLsbD_ushiftRight]
    by_cases h : i = 31
    · subst h; simp
    · have e : 31 - i = (31 - (1 + i)) + 1 := by omega
      rw [vec_bit l (1 + i) (by omega), e, List.getD_cons_succ]
      simp [h]

theorem sh_shr (v : BitVec 32) (h : v.getLsbD 0 = false) : sh (v >>> 1) = v := by
  rw [sh_low _ (by rw [BitVec.msb_eq_getLsbD_last]; simp)]
  apply BitVec.eq_of_getLsbD_eq
  intro i hi
  rw [BitVec.getLsbD_shiftLeft, BitVec.getLsbD_ushiftRight]
  by_cases h0 : i = 0
  · subst h0; rw [h]; simp
  · have e : 1 + (i - 1) = i := by omega
    rw [e]; simp [hi, h0]

theorem reg_vec : ∀ (l : List Bool) (w : BitVec 32), l.length ≤ 32 → reg w l = reg (w ^^^ vec l) (List.replicate l.length false)
  | [], w, _ => by simp [vec, reg]
  | b :: l, w, h => by
    have hl : l.length ≤ 31 := by simpa using h
    have e1 : reg w (b :: l) = reg (stp w b) l := rfl
    have e2 : reg (w ^^^ vec (b :: l)) (List.replicate (b :: l).length false) = reg (stp (w ^^^ vec (b :: l)) false) (List.replicate l.length false) := rfl
    have h0 : (vec l).getLsbD 0 = false := by rw [vec_bit l 0 (by omega), List.getD_eq_getElem?_getD, List.getElem?_eq_none (by omega)]; rfl
    rw [e1, e2, reg_vec l _ (by omega), stp_sh, stp_sh]
    have ht : top false = 0#32 := rfl
    rw [ht, BitVec.xor_zero, vec, ← BitVec.xor_assoc, sh_xor (w ^^^ top b), sh_shr _ h0]

theorem vec_be4 (v : BitVec 32) : vec (bitsL (be4 v)) = v := by
  have t : ∀ (n k : Nat), k < 8 → (n % 256).testBit k = n.testBit k := by
    intro n k hk
    have := Nat.testBit_mod_two_pow n 8 k
    simpa [hk] using this
  have d : ∀ (j k : Nat), (v.toNat / 2 ^ j).testBit k = v.getLsbD (j + k) := by
    intro j k
    rw [Nat.testBit_div_two_pow, BitVec.testBit_toNat, Nat.add_comm]
  have d24 : ∀ k, (v.toNat / 16777216).testBit k = v.getLsbD (24 + k) := d 24
  have d16 : ∀ k, (v.toNat / 65536).testBit k = v.getLsbD (16 + k) := d 16
  have d8 : ∀ k, (v.toNat / 256).testBit k = v.getLsbD (8 + k) := d 8
  have d0 : ∀ k, (v.toNat).testBit k = v.getLsbD k := fun k => BitVec.testBit_toNat v
  apply BitVec.eq_of_getLsbD_eq
  intro i hi
  rw [vec_bit _ _ hi]
  have e : bitsL (be4 v) = [v.getLsbD 31, v.getLsbD 30, v.getLsbD 29, v.getLsbD 28, v.getLsbD 27, v.getLsbD 26, v.getLsbD 25, v.getLsbD 24,
      v.getLsbD 23, v.getLsbD 22, v.getLsbD 21, v.getLsbD 20, v.getLsbD 19, v.getLsbD 18, v.getLsbD 17, v.getLsbD 16,
      v.getLsbD 15, v.getLsbD 14, v.getLsbD 13, v.getLsbD 12, v.getLsbD 11, v.getLsbD 10, v.getLsbD 9, v.getLsbD 8,
      v.getLsbD 7, v.getLsbD 6, v.getLsbD 5, v.getLsbD 4, v.getLsbD 3, v.getLsbD 2, v.getLsbD 1, v.getLsbD 0] := by
    unfold bitsL be4 bitsU8
    simp only [List.flatMap_cons, List.flatMap_nil, List.append_nil, UInt8.toNat_ofNat']
    rw [t _ 7 (by omega), t _ 6 (by omega), t _ 5 (by omega), t _ 4 (by omega), t _ 3 (by omega), t _ 2 (by omega), t _ 1 (by omega), t _ 0 (by omega)]
    rw [t _ 7 (by omega), t _ 6 (by omega), t _ 5 (by omega), t _ 4 (by omega), t _ 3 (by omega), t _ 2 (by omega), t _ 1 (by omega), t _ 0 (by omega)]
    rw [t _ 7 (by omega), t _ 6 (by omega), t _ 5 (by omega), t _ 4 (by omega), t _ 3 (by omega), t _ 2 (by omega), t _ 1 (by omega), t _ 0 (by omega)]
    rw [t _ 7 (by omega), t _ 6 (by omega), t _ 5 (by omega), t _ 4 (by omega), t _ 3 (by omega), t _ 2 (by omega), t _ 1 (by omega), t _ 0 (by omega)]
    simp only [d24, d16, d8, d0]
    rfl
  rw [e]
  have hc : ∀ (f : Nat → Bool) (j : Nat), j < 32 → ([f 31, f 30, f 29, f 28, f 27, f 26, f 25, f 24, f 23, f 22, f 21, f 20, f 19, f 18, f 17, f 16, f 15, f 14, f 13, f 12, f 11, f 10, f 9, f 8, f 7, f 6, f 5, f 4, f 3, f 2, f 1, f 0] : List Bool).getD (31 - j) false = f j := by
    intro f j hj
    rcases j with _ | _ | _ | _ | _ | _ | _ | _ | _ | _ | _ | _ | _ | _ | _ | _ | _ | _ | _ | _ | _ | _ | _ | _ | _ | _ | _ | _ | _ | _ | _ | _ | j <;> first | rfl | omega
  exact hc (fun i => v.getLsbD i) i hi

/-- what is left in the register behind a sealed block -/
def rest : BitVec 32 := reg 0xffffffff#32 (List.replicate 32 false)

theorem bitsL_append (l m : List UInt8) : bitsL (l ++ m) = bitsL l ++ bitsL m := by simp [bitsL]
theorem bitsL_length : ∀ l : List UInt8, (bitsL l).length = 8 * l.length
  | [] => rfl
  | u :: l => by
    have := bitsL_length l
    show (bitsU8 u ++ bitsL l).length = _
    simp [bitsU8, this]; omega

/-- four bytes behind a register: the rest is the sealed block's only if they are its inverted bits -/
theorem reg_word (w v : BitVec 32) : reg w (bitsL (be4 v)) = reg (w ^^^ v) (List.replicate 32 false) := by
  rw [reg_vec _ _ (by rw [bitsL_length]; simp [be4]), vec_be4, bitsL_length]; rfl

theorem u8_ofNat_eq {u : UInt8} {n : Nat} (h : u.toNat = n % 256) : UInt8.ofNat n = u := by
  apply UInt8.toNat_inj.1; rw [UInt8.toNat_ofNat']; exact h.symm

theorem be4_of (a b c d : UInt8) : ∃ v : BitVec 32, be4 v = [a, b, c, d] := by
  have ha := a.toNat_lt; have hb := b.toNat_lt; have hc := c.toNat_lt; have hd := d.toNat_lt
  refine ⟨BitVec.ofNat 32 (a.toNat * 16777216 + b.toNat * 65536 + c.toNat * 256 + d.toNat), ?_⟩
  have e : (BitVec.ofNat 32 (a.toNat * 16777216 + b.toNat * 65536 + c.toNat * 256 + d.toNat)).toNat = a.toNat * 16777216 + b.toNat * 65536 + c.toNat * 256 + d.toNat := by
    rw [BitVec.toNat_ofNat]; apply Nat.mod_eq_of_lt; omega
  unfold be4
  rw [e]
  rw [u8_ofNat_eq (u := a) (by omega), u8_ofNat_eq (u := b) (by omega), u8_ofNat_eq (u := c) (by omega), u8_ofNat_eq (u := d) (by omega)]

theorem be4_inj {v w : BitVec 32} (h : be4 v = be4 w) : v = w := by rw [← vec_be4 v, ← vec_be4 w, h]

theorem len4 : ∀ {l : List UInt8}, l.length = 4 → ∃ a b c d, l = [a, b, c, d]
  | [a, b, c, d], _ => ⟨a, b, c, d, rfl⟩

theorem xor_ones (a : BitVec 32) : a ^^^ ~~~a = 0xffffffff#32 := by
  apply BitVec.eq_of_getLsbD_eq
  intro i hi
  have : ∀ j : Fin 32, (0xffffffff#32).getLsbD j.val = true := by decide
  rw [this ⟨i, hi⟩]
  simp [hi]

theorem good_iff {l : List UInt8} (h : l.length = 256) : sealB l = l ↔ crcReg l = rest := by
  obtain ⟨a, b, c, d, e⟩ := len4 (l := l.drop 252) (by simp [h])
  obtain ⟨v, hv⟩ := be4_of a b c d
  have hl : l = l.take 252 ++ be4 v := by rw [hv, ← e, List.take_append_drop]
  have hr : crcReg l = reg (crcReg (l.take 252) ^^^ v) (List.replicate 32 false) := by
    rw [crcReg_reg l]
    conv => lhs; rw [hl]
    rw [bitsL_append, reg_append, reg_word, ← crcReg_reg]
  rw [hr]
  constructor
  · intro hs
    have : be4 (crc (l.take 252)) = be4 v := by
      have hs' : l.take 252 ++ be4 (crc (l.take 252)) = l.take 252 ++ be4 v := by rw [← hl]; exact hs
      exact List.append_cancel_left hs'
    have hv' := be4_inj this
    rw [← hv', crc, xor_ones]; rfl
  · intro hs
    have h1 := reg_inj _ hs
    have h2 : v = crc (l.take 252) := by
      have : crcReg (l.take 252) ^^^ v = crcReg (l.take 252) ^^^ ~~~ crcReg (l.take 252) := by rw [xor_ones]; exact h1
      exact BitVec.xor_right_inj _ |>.1 this
    unfold sealB
    rw [← h2]
    exact hl.symm

end Go.Proofs.YtdadcengelfmhaaGreat.Crc

/-
  Plain mathematics: a burst of at most 32 inverted bits breaks a seal; the checksum of an exclusive or of three texts.
-/
namespace Go.Proofs.YtdadcengelfmhaaGreat.Crc

def flip (l : List UInt8) (p : Nat) : List UInt8 := l.modify (p / 8) (fun u => UInt8.ofNat (u.toNat ^^^ 128 / 2 ^ (p % 8)))
theorem flip_length (l : List UInt8) (p : Nat) : (flip l p).length = l.length := by simp [flip]

theorem bitsU8_get (u : UInt8) (r : Nat) (h : r < 8) : (bitsU8 u)[r]? = some (u.toNat.testBit (7 - r)) := by
  rcases r with _ | _ | _ | _ | _ | _ | _ | _ | r <;> first | rfl | omega

theorem bitsL_get : ∀ (l : List UInt8) (q : Nat), (bitsL l)[q]? = l[q / 8]?.map (fun u => u.toNat.testBit (7 - q % 8))
  | [], q => by simp [bitsL]
  | u :: l, q => by
    show (bitsU8 u ++ bitsL l)[q]? = _
    have h8 : (bitsU8 u).length = 8 := rfl
    by_cases h : q < 8
    · rw [List.getElem?_append_left (by omega), bitsU8_get u q h]
      have e1 : q / 8 = 0 := by omega
      have e2 : q % 8 = q := by omega
      rw [e1, e2]; rfl
    · rw [List.getElem?_append_right (by omega), h8, bitsL_get l (q - 8)]
      have e1 : q / 8 = (q - 8) / 8 + 1 := by omega
      have e2 : (q - 8) % 8 = q % 8 := by omega
      rw [e1, e2, List.getElem?_cons_succ]

theorem xor_bit (u : UInt8) (r s : Nat) (hr : r < 8) (hs : s < 8) : (UInt8.ofNat (u.toNat ^^^ 128 / 2 ^ r)).toNat.testBit (7 - s) = (u.toNat.testBit (7 - s) ^^ decide (r = s)) := by
  have hu := u.toNat_lt
  have t : ∀ n k : Nat, k < 8 → (n % 256).testBit k = n.testBit k := by
    intro n k hk
    have := Nat.testBit_mod_two_pow n 8 k
    simpa [hk] using this
  rw [UInt8.toNat_ofNat', t _ _ (by omega), Nat.testBit_xor]
  have h2 : ∀ r s : Fin 8, (128 / 2 ^ r.val).testBit (7 - s.val) = decide (r.val = s.val) := by decide
  rw [h2 ⟨r, hr⟩ ⟨s, hs⟩]

theorem flip_bits (l : List UInt8) (p q : Nat) : (bitsL (flip l p))[q]? = (bitsL l)[q]?.map (fun b => b ^^ decide (p = q)) := by
  rw [bitsL_get, bitsL_get]
  unfold flip
  rw [List.getElem?_modify]
  by_cases h : p / 8 = q / 8
  · cases l[q / 8]? with
    | none => rfl
    | some u =>
      show some ((if p / 8 = q / 8 then UInt8.ofNat (u.toNat ^^^ 128 / 2 ^ (p % 8)) else u).toNat.testBit (7 - q % 8)) = some (u.toNat.testBit (7 - q % 8) ^^ decide (p = q))
      rw [if_pos h, xor_bit u (p % 8) (q % 8) (by omega) (by omega)]
      congr 2
      have : (p % 8 = q % 8) ↔ (p = q) := by omega
      simp [this]
  · have : p ≠ q := by omega
    cases l[q / 8]? <;> simp [h, this]

def burst (l : List UInt8) (k n : Nat) : Nat → List UInt8
  | 0 => l
  | j + 1 => if n.testBit j then flip (burst l k n j) (k + j) else burst l k n j
theorem burst_length (l : List UInt8) (k n : Nat) : ∀ j, (burst l k n j).length = l.length
  | 0 => rfl
  | j + 1 => by
    unfold burst
    split
    · rw [flip_length, burst_length l k n j]
    · exact burst_length l k n j

theorem burst_bits (l : List UInt8) (k n : Nat) : ∀ j q, (bitsL (burst l k n j))[q]? = (bitsL l)[q]?.map (fun b => b ^^ (decide (k ≤ q ∧ q < k + j) && n.testBit (q - k)))
  | 0, q => by
    have : ¬ (k ≤ q ∧ q < k + 0) := by omega
    simp only [this, burst]
    cases (bitsL l)[q]? <;> simp
  | j + 1, q => by
    unfold burst
    by_cases hb : n.testBit j = true
    · rw [if_pos hb, flip_bits, burst_bits l k n j q, Option.map_map]
      congr 1
      funext b
      simp only [Function.comp]
      by_cases e : k + j = q
      · subst e
        have h1 : ¬ (k ≤ k + j ∧ k + j < k + j) := by omega
        have h2 : (k ≤ k + j ∧ k + j < k + (j + 1)) := by omega
        have h3 : k + j - k = j := by omega
        simp [h3, hb]
      · by_cases h1 : k ≤ q ∧ q < k + j
        · have h2 : (k ≤ q ∧ q < k + (j + 1)) := by omega
          simp [h1, h2, e]
        · have h2 : ¬ (k ≤ q ∧ q < k + (j + 1)) := by omega
          simp only [h1, h2, e]; simp
    · rw [if_neg hb, burst_bits l k n j q]
      congr 1
      funext b
      by_cases e : k + j = q
      · subst e
        have h3 : k + j - k = j := by omega
        simp [h3, hb]
      · by_cases h1 : k ≤ q ∧ q < k + j
        · have h2 : (k ≤ q ∧ q < k + (j + 1)) := by omega
          simp only [h1, h2]
        · have h2 : ¬ (k ≤ q ∧ q < k + (j + 1)) := by omega
          simp only [h1, h2]

/-- where the burst lies -/
def where_ (k n m : Nat) : List Bool := List.replicate k false ++ ((List.range 32).map n.testBit ++ List.replicate (m - 32 - k) false)

theorem where_length (k n m : Nat) (h : k + 32 ≤ m) : (where_ k n m).length = m := by simp [where_]; omega
theorem where_get (k n m q : Nat) (h : k + 32 ≤ m) (hq : q < m) : (where_ k n m)[q]? = some (decide (k ≤ q ∧ q < k + 32) && n.testBit (q - k)) := by
  unfold where_
  by_cases h1 : q < k
  · rw [List.getElem?_append_left (by simpa using h1), List.getElem?_replicate, if_pos h1]
    have : ¬ (k ≤ q ∧ q < k + 32) := by omega
    simp only [this]; simp
  · rw [List.getElem?_append_right (by simp; omega), List.length_replicate]
    by_cases h2 : q < k + 32
    · rw [List.getElem?_append_left (by simp; omega), List.getElem?_map, List.getElem?_range (by omega)]
      have : (k ≤ q ∧ q < k + 32) := by omega
      simp [this]
    · rw [List.getElem?_append_right (by simp; omega), List.getElem?_replicate, if_pos (by simp; omega)]
      have : ¬ (k ≤ q ∧ q < k + 32) := by omega
      simp only [this]; simp

theorem burst_zip (l : List UInt8) (k n : Nat) (hl : l.length = 256) (hk : k + 32 ≤ 2048) : bitsL (burst l k n 32) = List.zipWith Bool.xor (bitsL l) (where_ k n 2048) := by
  have hb : (bitsL l).length = 2048 := by rw [bitsL_length, hl]
  apply List.ext_getElem?
  intro q
  rw [burst_bits, List.getElem?_zipWith]
  by_cases hq : q < 2048
  · rw [where_get k n 2048 q hk hq, List.getElem?_eq_getElem (by omega)]
    rfl
  · rw [List.getElem?_eq_none (by omega)]; rfl

theorem reg_zeros : ∀ n, reg 0#32 (List.replicate n false) = 0#32
  | 0 => rfl
  | n + 1 => by
    show reg (stp 0#32 false) (List.replicate n false) = 0#32
    have : stp 0#32 false = 0#32 := by decide
    rw [this, reg_zeros n]

theorem reg_where (k n m : Nat) (hn : n < 4294967296) : reg 0#32 (where_ k n m) = 0#32 ↔ n = 0 := by
  unfold where_
  rw [reg_append, reg_append, reg_zeros]
  constructor
  · intro h
    have h1 : reg 0#32 ((List.range 32).map n.testBit) = 0#32 := reg_inj _ (h.trans (reg_zeros _).symm)
    rw [reg_vec _ _ (by simp), BitVec.zero_xor] at h1
    have h2 : vec ((List.range 32).map n.testBit) = 0#32 := reg_inj _ (h1.trans (reg_zeros _).symm)
    apply Nat.eq_of_testBit_eq
    intro i
    rw [Nat.zero_testBit]
    by_cases hi : i < 32
    · have := vec_bit ((List.range 32).map n.testBit) (31 - i) (by omega)
      rw [h2, BitVec.getLsbD_zero, List.getD_eq_getElem?_getD, List.getElem?_map, List.getElem?_range (by omega)] at this
      have e : 31 - (31 - i) = i := by omega
      rw [e] at this
      simpa using this.symm
    · exact Nat.testBit_lt_two_pow (Nat.lt_of_lt_of_le hn ((show (4294967296 : Nat) ≤ 2 ^ i from Nat.pow_le_pow_right (n := 2) (by omega) (show 32 ≤ i by omega))))
  · intro h
    subst h
    have : (List.range 32).map (Nat.testBit 0) = List.replicate 32 false := by decide
    rw [this, reg_zeros, reg_zeros]

/-- the law of bursts -/
theorem burst_good {l : List UInt8} {k n : Nat} (hl : l.length = 256) (hs : sealB l = l) (hk : k + 32 ≤ 2048) (hn : n < 4294967296) :
    sealB (burst l k n 32) = burst l k n 32 ↔ n = 0 := by
  rw [good_iff (by rw [burst_length, hl]), crcReg_reg, burst_zip l k n hl hk]
  have hx := reg_xor (bitsL l) (where_ k n 2048) 0xffffffff#32 0#32 (by rw [where_length k n 2048 hk, bitsL_length, hl])
  rw [BitVec.xor_zero] at hx
  rw [hx, ← crcReg_reg, (good_iff hl).1 hs]
  constructor
  · intro h
    have : rest ^^^ reg 0#32 (where_ k n 2048) = rest ^^^ 0#32 := by rw [h, BitVec.xor_zero]
    exact (reg_where k n 2048 hn).1 (BitVec.xor_right_inj _ |>.1 this)
  · intro h
    rw [(reg_where k n 2048 hn).2 h, BitVec.xor_zero]

/-! ### Exclusive or -/
def xor8 (u v : UInt8) : UInt8 := UInt8.ofNat (u.toNat ^^^ v.toNat)
theorem bitsU8_xor (u v : UInt8) : bitsU8 (xor8 u v) = List.zipWith Bool.xor (bitsU8 u) (bitsU8 v) := by
  have t : ∀ n k : Nat, k < 8 → (n % 256).testBit k = n.testBit k := by
    intro n k hk
    have := Nat.testBit_mod_two_pow n 8 k
    simpa [hk] using this
  unfold bitsU8 xor8
  simp only [UInt8.toNat_ofNat']
  rw [t _ 7 (by omega), t _ 6 (by omega), t _ 5 (by omega), t _ 4 (by omega), t _ 3 (by omega), t _ 2 (by omega), t _ 1 (by omega), t _ 0 (by omega)]
  simp only [Nat.testBit_xor]
  rfl
theorem bitsL_xor : ∀ (l m : List UInt8), bitsL (List.zipWith xor8 l m) = List.zipWith Bool.xor (bitsL l) (bitsL m)
  | [], m => by simp [bitsL]
  | u :: l, [] => by simp [bitsL]
  | u :: l, v :: m => by
    have := bitsL_xor l m
    show bitsU8 (xor8 u v) ++ bitsL (List.zipWith xor8 l m) = List.zipWith Bool.xor (bitsU8 u ++ bitsL l) (bitsU8 v ++ bitsL m)
    rw [this, bitsU8_xor, List.zipWith_append (by rfl)]

theorem crc_xor3 {a b c : List UInt8} (hb : b.length = a.length) (hc : c.length = a.length) :
    crc (List.zipWith xor8 (List.zipWith xor8 a b) c) = crc a ^^^ crc b ^^^ crc c := by
  unfold crc
  rw [crcReg_reg, crcReg_reg, crcReg_reg, crcReg_reg, bitsL_xor, bitsL_xor]
  have h1 := reg_xor (bitsL a) (bitsL b) 0xffffffff#32 0xffffffff#32 (by rw [bitsL_length, bitsL_length, hb])
  have h2 := reg_xor (List.zipWith Bool.xor (bitsL a) (bitsL b)) (bitsL c) (0xffffffff#32 ^^^ 0xffffffff#32) 0xffffffff#32 (by simp [bitsL_length, hb, hc])
  have e : (0xffffffff#32 : BitVec 32) ^^^ 0xffffffff#32 ^^^ 0xffffffff#32 = 0xffffffff#32 := by decide
  rw [e] at h2
  rw [h2, h1]
  generalize reg 0xffffffff#32 (bitsL a) = x
  generalize reg 0xffffffff#32 (bitsL b) = y
  generalize reg 0xffffffff#32 (bitsL c) = z
  apply BitVec.eq_of_getLsbD_eq
  intro i hi
  simp only [BitVec.getLsbD_not, BitVec.getLsbD_xor, hi, decide_true, Bool.true_and]
  cases x.getLsbD i <;> cases y.getLsbD i <;> cases z.getLsbD i <;> rfl

end Go.Proofs.YtdadcengelfmhaaGreat.Crc

