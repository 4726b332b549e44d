/-
  Plain mathematics: a burst of at most 32 inverted bits breaks a seal; the checksum of an exclusive or of three texts.
-/
import Derived.Test.YtmbmgncajfamiaaCrcSeal
namespace Go.Proofs.Ytmbmgncajfamiaa.Crc

def flip (l : List UInt8) (p : Nat) : List UInt8 := l.modify (p / 8) (fun u => UInt8.ofNat (u.toNat ^^^ 128 / 2 ^ (p % 8)))
theorem flip_length (l : List UInt8) (p : Nat) : (flip l p).length = l.length := by simp [flip]

theorem bitsU8_get (u : UInt8) (r : Nat) (h : r < 8) : (bitsU8 u)[r]? = some (u.toNat.testBit (7 - r)) := by
  rcases r with _ | _ | _ | _ | _ | _ | _ | _ | r <;> first | rfl | omega

theorem bitsL_get : ∀ (l : List UInt8) (q : Nat), (bitsL l)[q]? = l[q / 8]?.map (fun u => u.toNat.testBit (7 - q % 8))
  | [], q => by simp [bitsL]
  | u :: l, q => by
    show (bitsU8 u ++ bitsL l)[q]? = _
    have h8 : (bitsU8 u).length = 8 := rfl
    by_cases h : q < 8
    · rw [List.getElem?_append_left (by omega), bitsU8_get u q h]
      have e1 : q / 8 = 0 := by omega
      have e2 : q % 8 = q := by omega
      rw [e1, e2]; rfl
    · rw [List.getElem?_append_right (by omega), h8, bitsL_get l (q - 8)]
      have e1 : q / 8 = (q - 8) / 8 + 1 := by omega
      have e2 : (q - 8) % 8 = q % 8 := by omega
      rw [e1, e2, List.getElem?_cons_succ]

theorem xor_bit (u : UInt8) (r s : Nat) (hr : r < 8) (hs : s < 8) : (UInt8.ofNat (u.toNat ^^^ 128 / 2 ^ r)).toNat.testBit (7 - s) = (u.toNat.testBit (7 - s) ^^ decide (r = s)) := by
  have hu := u.toNat_lt
  have t : ∀ n k : Nat, k < 8 → (n % 256).testBit k = n.testBit k := by
    intro n k hk
    have := Nat.testBit_mod_two_pow n 8 k
    simpa [hk] using this
  rw [UInt8.toNat_ofNat', t _ _ (by omega), Nat.testBit_xor]
  have h2 : ∀ r s : Fin 8, (128 / 2 ^ r.val).testBit (7 - s.val) = decide (r.val = s.val) := by decide
  rw [h2 ⟨r, hr⟩ ⟨s, hs⟩]

theorem flip_bits (l : List UInt8) (p q : Nat) : (bitsL (flip l p))[q]? = (bitsL l)[q]?.map (fun b => b ^^ decide (p = q)) := by
  rw [bitsL_get, bitsL_get]
  unfold flip
  rw [List.getElem?_modify]
  by_cases h : p / 8 = q / 8
  · cases l[q / 8]? with
    | none => rfl
    | some u =>
      show some ((if p / 8 = q / 8 then UInt8.ofNat (u.toNat ^^^ 128 / 2 ^ (p % 8)) else u).toNat.testBit (7 - q % 8)) = some (u.toNat.testBit (7 - q % 8) ^^ decide (p = q))
      rw [if_pos h, xor_bit u (p % 8) (q % 8) (by omega) (by omega)]
      congr 2
      have : (p % 8 = q % 8) ↔ (p = q) := by omega
      simp [this]
  · have : p ≠ q := by omega
    cases l[q / 8]? <;> simp [h, this]

def burst (l : List UInt8) (k n : Nat) : Nat → List UInt8
  | 0 => l
  | j + 1 => if n.testBit j then flip (burst l k n j) (k + j) else burst l k n j
theorem burst_length (l : List UInt8) (k n : Nat) : ∀ j, (burst l k n j).length = l.length
  | 0 => rfl
  | j + 1 => by
    unfold burst
    split
    · rw [flip_length, burst_length l k n j]
    · exact burst_length l k n j

theorem burst_bits (l : List UInt8) (k n : Nat) : ∀ j q, (bitsL (burst l k n j))[q]? = (bitsL l)[q]?.map (fun b => b ^^ (decide (k ≤ q ∧ q < k + j) && n.testBit (q - k)))
  | 0, q => by
    have : ¬ (k ≤ q ∧ q < k + 0) := by omega
    simp only [this, burst]
    cases (bitsL l)[q]? <;> simp
  | j + 1, q => by
    unfold burst
    by_cases hb : n.testBit j = true
    · rw [if_pos hb, flip_bits, burst_bits l k n j q, Option.map_map]
      congr 1
      funext b
      simp only [Function.comp]
      by_cases e : k + j = q
      · subst e
        have h1 : ¬ (k ≤ k + j ∧ k + j < k + j) := by omega
        have h2 : (k ≤ k + j ∧ k + j < k + (j + 1)) := by omega
        have h3 : k + j - k = j := by omega
        simp [h3, hb]
      · by_cases h1 : k ≤ q ∧ q < k + j
        · have h2 : (k ≤ q ∧ q < k + (j + 1)) := by omega
          simp [h1, h2, e]
        · have h2 : ¬ (k ≤ q ∧ q < k + (j + 1)) := by omega
          simp only [h1, h2, e]; simp
    · rw [if_neg hb, burst_bits l k n j q]
      congr 1
      funext b
      by_cases e : k + j = q
      · subst e
        have h3 : k + j - k = j := by omega
        simp [h3, hb]
      · by_cases h1 : k ≤ q ∧ q < k + j
        · have h2 : (k ≤ q ∧ q < k + (j + 1)) := by omega
          simp only [h1, h2]
        · have h2 : ¬ (k ≤ q ∧ q < k + (j + 1)) := by omega
          simp only [h1, h2]

/-- where the burst lies -/
def where_ (k n m : Nat) : List Bool := List.replicate k false ++ ((List.range 32).map n.testBit ++ List.replicate (m - 32 - k) false)

theorem where_length (k n m : Nat) (h : k + 32 ≤ m) : (where_ k n m).length = m := by simp [where_]; omega
theorem where_get (k n m q : Nat) (h : k + 32 ≤ m) (hq : q < m) : (where_ k n m)[q]? = some (decide (k ≤ q ∧ q < k + 32) && n.testBit (q - k)) := by
  unfold where_
  by_cases h1 : q < k
  · rw [List.getElem?_append_left (by simpa using h1), List.getElem?_replicate, if_pos h1]
    have : ¬ (k ≤ q ∧ q < k + 32) := by omega
    simp only [this]; simp
  · rw [List.getElem?_append_right (by simp; omega), List.length_replicate]
    by_cases h2 : q < k + 32
    · rw [List.getElem?_append_left (by simp; omega), List.getElem?_map, List.getElem?_range (by omega)]
      have : (k ≤ q ∧ q < k + 32) := by omega
      simp [this]
    · rw [List.getElem?_append_right (by simp; omega), List.getElem?_replicate, if_pos (by simp; omega)]
      have : ¬ (k ≤ q ∧ q < k + 32) := by omega
      simp only [this]; simp

theorem burst_zip (l : List UInt8) (k n : Nat) (hl : l.length = 256) (hk : k + 32 ≤ 2048) : bitsL (burst l k n 32) = List.zipWith Bool.xor (bitsL l) (where_ k n 2048) := by
  have hb : (bitsL l).length = 2048 := by rw [bitsL_length, hl]
  apply List.ext_getElem?
  intro q
  rw [burst_bits, List.getElem?_zipWith]
  by_cases hq : q < 2048
  · rw [where_get k n 2048 q hk hq, List.getElem?_eq_getElem (by omega)]
    rfl
  · rw [List.getElem?_eq_none (by omega)]; rfl

theorem reg_zeros : ∀ n, reg 0#32 (List.replicate n false) = 0#32
  | 0 => rfl
  | n + 1 => by
    show reg (stp 0#32 false) (List.replicate n false) = 0#32
    have : stp 0#32 false = 0#32 := by decide
    rw [this, reg_zeros n]

theorem reg_where (k n m : Nat) (hn : n < 4294967296) : reg 0#32 (where_ k n m) = 0#32 ↔ n = 0 := by
  unfold where_
  rw [reg_append, reg_append, reg_zeros]
  constructor
  · intro h
    have h1 : reg 0#32 ((List.range 32).map n.testBit) = 0#32 := reg_inj _ (h.trans (reg_zeros _).symm)
    rw [reg_vec _ _ (by simp), BitVec.zero_xor] at h1
    have h2 : vec ((List.range 32).map n.testBit) = 0#32 := reg_inj _ (h1.trans (reg_zeros _).symm)
    apply Nat.eq_of_testBit_eq
    intro i
    rw [Nat.zero_testBit]
    by_cases hi : i < 32
    · have := vec_bit ((List.range 32).map n.testBit) (31 - i) (by omega)
      rw [h2, BitVec.getLsbD_zero, List.getD_eq_getElem?_getD, List.getElem?_map, List.getElem?_range (by omega)] at this
      have e : 31 - (31 - i) = i := by omega
      rw [e] at this
      simpa using this.symm
    · exact Nat.testBit_lt_two_pow (Nat.lt_of_lt_of_le hn ((show (4294967296 : Nat) ≤ 2 ^ i from Nat.pow_le_pow_right (n := 2) (by omega) (show 32 ≤ i by omega))))
  · intro h
    subst h
    have : (List.range 32).map (Nat.testBit 0) = List.replicate 32 false := by decide
    rw [this, reg_zeros, reg_zeros]

/-- the law of bursts -/
theorem burst_good {l : List UInt8} {k n : Nat} (hl : l.length = 256) (hs : sealB l = l) (hk : k + 32 ≤ 2048) (hn : n < 4294967296) :
    sealB (burst l k n 32) = burst l k n 32 ↔ n = 0 := by
  rw [good_iff (by rw [burst_length, hl]), crcReg_reg, burst_zip l k n hl hk]
  have hx := reg_xor (bitsL l) (where_ k n 2048) 0xffffffff#32 0#32 (by rw [where_length k n 2048 hk, bitsL_length, hl])
  rw [BitVec.xor_zero] at hx
  rw [hx, ← crcReg_reg, (good_iff hl).1 hs]
  constructor
  · intro h
    have : rest ^^^ reg 0#32 (where_ k n 2048) = rest ^^^ 0#32 := by rw [h, BitVec.xor_zero]
    exact (reg_where k n 2048 hn).1 (BitVec.xor_right_inj _ |>.1 this)
  · intro h
    rw [(reg_where k n 2048 hn).2 h, BitVec.xor_zero]

/-! ### Exclusive or -/
def xor8 (u v : UInt8) : UInt8 := UInt8.ofNat (u.toNat ^^^ v.toNat)
theorem bitsU8_xor (u v : UInt8) : bitsU8 (xor8 u v) = List.zipWith Bool.xor (bitsU8 u) (bitsU8 v) := by
  have t : ∀ n k : Nat, k < 8 → (n % 256).testBit k = n.testBit k := by
    intro n k hk
    have := Nat.testBit_mod_two_pow n 8 k
    simpa [hk] using this
  unfold bitsU8 xor8
  simp only [UInt8.toNat_ofNat']
  rw [t _ 7 (by omega), t _ 6 (by omega), t _ 5 (by omega), t _ 4 (by omega), t _ 3 (by omega), t _ 2 (by omega), t _ 1 (by omega), t _ 0 (by omega)]
  simp only [Nat.testBit_xor]
  rfl
theorem bitsL_xor : ∀ (l m : List UInt8), bitsL (List.zipWith xor8 l m) = List.zipWith Bool.xor (bitsL l) (bitsL m)
  | [], m => by simp [bitsL]
  | u :: l, [] => by simp [bitsL]
  | u :: l, v :: m => by
    have := bitsL_xor l m
    show bitsU8 (xor8 u v) ++ bitsL (List.zipWith xor8 l m) = List.zipWith Bool.xor (bitsU8 u ++ bitsL l) (bitsU8 v ++ bitsL m)
    rw [this, bitsU8_xor, List.zipWith_append (by rfl)]

theorem crc_xor3 {a b c : List UInt8} (hb : b.length = a.length) (hc : c.length = a.length) :
    crc (List.zipWith xor8 (List.zipWith xor8 a b) c) = crc a ^^^ crc b ^^^ crc c := by
  unfold crc
  rw [crcReg_reg, crcReg_reg, crcReg_reg, crcReg_reg, bitsL_xor, bitsL_xor]
  have h1 := reg_xor (bitsL a) (bitsL b) 0xffffffff#32 0xffffffff#32 (by rw [bitsL_length, bitsL_length, hb])
  have h2 := reg_xor (List.zipWith Bool.xor (bitsL a) (bitsL b)) (bitsL c) (0xffffffff#32 ^^^ 0xffffffff#32) 0xffffffff#32 (by simp [bitsL_length, hb, hc])
  have e : (0xffffffff#32 : BitVec 32) ^^^ 0xffffffff#32 ^^^ 0xffffffff#32 = 0xffffffff#32 := by decide
  rw [e] at h2
  rw [h2, h1]
  generalize reg 0xffffffff#32 (bitsL a) = x
  generalize reg 0xffffffff#32 (bitsL b) = y
  generalize reg 0xffffffff#32 (bitsL c) = z
  apply BitVec.eq_of_getLsbD_eq
  intro i hi
  simp only [BitVec.getLsbD_not, BitVec.getLsbD_xor, hi, decide_true, Bool.true_and]
  cases x.getLsbD i <;> cases y.getLsbD i <;> cases z.getLsbD i <;> rfl

end Go.Proofs.Ytmbmgncajfamiaa.Crc
