/-
  What was written is read: the plain mathematics; a bit that is turned.
-/
import Derived.Test.YtmbmgncajfamiaaFldDoneMath
import Derived.Test.YtmbmgncajfamiaaFldOpen
import Derived.Test.YtmbmgncajfamiaaCrcBursts
namespace Go.Proofs.Ytmbmgncajfamiaa.Fld
open Crc

theorem fdone_piece (f : List UInt8) (m : UInt8) (a b : Nat) (h : a + b ≤ f.length) (hf : f.length ≤ 251) : piece (fdone f m) (1 + a) b = (f.drop a).take b := by
  unfold piece
  have h1 := fdone_take f m (a + b) h (by omega)
  have h2 : ((fdone f m).drop (1 + a)).take b = ((fdone f m).take (1 + (a + b))).drop (1 + a) := by
    rw [List.drop_take, show 1 + (a + b) - (1 + a) = b from by omega]
  rw [h2, h1, Nat.add_comm 1 a, List.drop_succ_cons, List.drop_take, show a + b - a = b from by omega]
theorem piece_mid (A bs r : List UInt8) (m : UInt8) (hf : (A ++ bs ++ r).length ≤ 251) : piece (fdone (A ++ bs ++ r) m) (1 + A.length) bs.length = bs := by
  rw [fdone_piece _ m _ _ (by simp) hf, List.append_assoc, List.drop_left, List.take_left]

theorem leNat_leB : ∀ (w n : Nat), leNat (leB n w) = n % 256 ^ w
  | 0, n => by simp [leB, leNat, Nat.mod_one]
  | w + 1, n => by
    have e : n % 256 ^ (w + 1) = n % 256 + 256 * (n / 256 % 256 ^ w) := by rw [Nat.pow_succ, Nat.mul_comm (256 ^ w) 256, Nat.mod_mul]
    rw [leB_cons, leNat, leNat_leB w (n / 256), UInt8.toNat_ofNat', e]

theorem takeNum_back (A r : List UInt8) (m : UInt8) (n : Nat) (width : Int) (bs : List UInt8) (hb : numBytes n width = some bs) (hf : (A ++ bs ++ r).length ≤ 251) :
    takeNum (some (fdone (A ++ bs ++ r) m, 1 + A.length)) width = (n % 256 ^ numSz width, some (fdone (A ++ bs ++ r) m, 1 + (A ++ bs).length)) := by
  unfold numBytes at hb
  split at hb
  · rename_i hw
    cases hb
    have hsz := (widthB_iff width).1 hw
    have hl := leB_length n (numSz width)
    have hfit : fitB (1 + A.length) (numSz width) = true := decide_eq_true ⟨by omega, hsz, by rw [List.length_append, List.length_append, hl] at hf; omega⟩
    have hp := piece_mid A (leB n (numSz width)) r m hf
    rw [hl] at hp
    unfold takeNum
    simp only [hfit, if_true, hp, leNat_leB, List.length_append, hl, Nat.add_assoc]
  · cases hb

theorem takeText_back (A r : List UInt8) (m : UInt8) (s : ByteArray) (room : Int) (bs : List UInt8) (hb : textBytes s room = some bs) (hf : (A ++ bs ++ r).length ≤ 251) :
    takeText (some (fdone (A ++ bs ++ r) m, 1 + A.length)) room = (s.data.toList, some (fdone (A ++ bs ++ r) m, 1 + (A ++ bs).length)) := by
  unfold textBytes at hb
  split at hb
  · rename_i hok
    cases hb
    have ht : 0 ≤ room ∧ room ≤ 200 ∧ (s.size : Int) ≤ room := of_decide_eq_true hok
    have hl := textField_length s room hok
    have hsz : textSz room = 1 + room.toNat := if_neg (by omega)
    have hfl : (A ++ textField s room ++ r).length = A.length + (1 + room.toNat) + r.length := by rw [List.length_append, List.length_append, hl, hsz]
    have hfit : fitB (1 + A.length) (textSz room) = true := decide_eq_true ⟨by omega, by omega, by omega⟩
    have hp := piece_mid A (textField s room) r m hf
    rw [hl, hsz] at hp
    have hL : (fdone (A ++ textField s room ++ r) m).length = 256 := fdone_length _ m hf
    have hss : s.data.toList.length = s.size := by rw [Array.length_toList]; rfl
    have hu : (UInt8.ofNat s.size).toNat = s.size := by rw [UInt8.toNat_ofNat']; omega
    generalize fdone (A ++ textField s room ++ r) m = B at hp hL
    have hk : 1 + A.length < B.length := by omega
    have hcons : B.drop (1 + A.length) = B[1 + A.length] :: B.drop (1 + A.length + 1) := List.drop_eq_getElem_cons hk
    have hp2 : B[1 + A.length] :: piece B (1 + A.length + 1) room.toNat = textField s room := by
      rw [← hp]
      unfold piece
      rw [hcons, Nat.add_comm 1 room.toNat, List.take_succ_cons]
    unfold textField at hp2
    injection hp2 with hp3 hp4
    have hgd : B.getD (1 + A.length) 0 = UInt8.ofNat s.size := by rw [List.getD_eq_getElem?_getD, List.getElem?_eq_getElem hk, hp3]; rfl
    have hta : textAt B (1 + A.length) room.toNat = some s.data.toList := by
      unfold textAt
      rw [hgd, hu, hp4]
      rw [if_pos ⟨by omega, by rw [← hss, List.drop_left]; simp [blankB]⟩, ← hss, List.take_left]
    unfold takeText
    rw [hsz] at hfit
    simp only [hsz, hfit, if_true, hta, List.length_append]
    have e : (textField s room).length = 1 + room.toNat := by rw [hl, hsz]
    rw [e, Nat.add_assoc]
  · cases hb

theorem end_back (f : List UInt8) (m : UInt8) (hf : f.length ≤ 251) : endE (some (fdone f m, 1 + f.length)) = 0 := by
  have hb : blankB (piece (fdone f m) (1 + f.length) (252 - (1 + f.length))) = true := by
    unfold blankB
    rw [List.all_eq_true]
    intro u hu
    obtain ⟨j, hj, rfl⟩ := List.mem_iff_getElem.1 hu
    have hl := fdone_length f m hf
    have hjl := hj
    rw [piece_length _ _ _ (by omega)] at hjl
    have hz := fdone_zero f m (1 + f.length + j) (by omega) (by omega)
    rw [List.getElem?_eq_getElem (by omega)] at hz
    rw [piece_get _ _ _ _ (by omega) hj, Option.some.inj hz]
    rfl
  unfold endE endB
  simp only [hb, if_true]

theorem open_back (f : List UInt8) (m : UInt8) (hf : f.length ≤ 251) : openSt (fdone f m) m = some (fdone f m, 1) := if_pos ⟨fdone_first f m, fdone_good f m hf⟩
theorem open_next (f : List UInt8) (m m' : UInt8) (h : m ≠ m') : openSt (fdone f m) m' = none := if_neg (fun hh => h ((fdone_first f m).symm.trans hh.1))

/-- a single bit -/
theorem burst_single (l : List UInt8) (k j : Nat) : ∀ i, burst l k (2 ^ j) i = if j < i then flip l (k + j) else l
  | 0 => by simp [burst]
  | i + 1 => by
    have ih := burst_single l k j i
    by_cases h : i = j
    · subst h
      have hb : (2 ^ i).testBit i = true := Nat.testBit_two_pow_self
      rw [burst_yes l k _ i hb, ih, if_neg (by omega), if_pos (by omega)]
    · have hb : (2 ^ j).testBit i = false := by rw [Nat.testBit_two_pow]; simp; omega
      rw [burst_no l k _ i hb, ih]
      by_cases h2 : j < i
      · rw [if_pos h2, if_pos (by omega)]
      · rw [if_neg h2, if_neg (by omega)]
theorem flip_bad {l : List UInt8} (hl : l.length = 256) (hs : sealB l = l) (p : Nat) (hp : p < 2048) : sealB (flip l p) ≠ flip l p := by
  intro h
  by_cases h1 : p ≤ 2016
  · have e : flip l p = burst l p (2 ^ 0) 32 := by rw [burst_single, if_pos (by omega)]; rfl
    rw [e] at h
    exact absurd ((burst_good hl hs (by omega) (by decide)).1 h) (by decide)
  · have e : flip l p = burst l 2016 (2 ^ (p - 2016)) 32 := by rw [burst_single, if_pos (by omega), show 2016 + (p - 2016) = p from by omega]
    rw [e] at h
    have h2 : 2 ^ (p - 2016) < 4294967296 := Nat.lt_of_lt_of_le (Nat.pow_lt_pow_right (by omega) (show p - 2016 < 32 by omega)) (by decide)
    exact absurd ((burst_good hl hs (by omega) h2).1 h) (by have := Nat.two_pow_pos (p - 2016); omega)
/-- .. as a law turns it: the lowest bit first -/
theorem turn_bad {l : List UInt8} (hl : l.length = 256) (hs : sealB l = l) (k : Nat) (hk : k < 2048) : sealB (l.set (k / 8) (UInt8.ofNat (l[k / 8].toNat ^^^ 2 ^ (k % 8)))) ≠ l.set (k / 8) (UInt8.ofNat (l[k / 8].toNat ^^^ 2 ^ (k % 8))) := by
  have h := flip_bad hl hs (8 * (k / 8) + (7 - k % 8)) (by omega)
  have hd : (8 * (k / 8) + (7 - k % 8)) / 8 = k / 8 := by omega
  have hm : (8 * (k / 8) + (7 - k % 8)) % 8 = 7 - k % 8 := by omega
  have hpow : 128 / 2 ^ (7 - k % 8) = 2 ^ (k % 8) := by
    have h8 : k % 8 < 8 := Nat.mod_lt _ (by omega)
    generalize k % 8 = r at h8
    rcases r with _ | _ | _ | _ | _ | _ | _ | _ | r <;> first | rfl | omega
  rw [flip_set _ _ (by rw [hd]; omega)] at h
  simp only [hd, hm, hpow] at h
  exact h

end Go.Proofs.Ytmbmgncajfamiaa.Fld
