/-
  The walk of field.split (a goto loop that lays a number's bytes into a slice), and the bytes.
-/
import Derived.Test.YtmbmgncajfamiaaFldObj
namespace Go.Proofs.Ytmbmgncajfamiaa.Fld
open Go.RowKit RowLaw Crc
set_option maxRecDepth 100000

/-- a number's lower bytes, the lowest one first -/
def leB (n m : Nat) : List UInt8 := (List.range m).map fun j => UInt8.ofNat (n / 256 ^ j)
theorem leB_length (n m : Nat) : (leB n m).length = m := by simp [leB]
theorem leB_succ (n m : Nat) : leB n (m + 1) = leB n m ++ [UInt8.ofNat (n / 256 ^ m)] := by simp [leB, List.range_succ]
theorem leB_cons (n m : Nat) : leB n (m + 1) = UInt8.ofNat n :: leB (n / 256) m := by
  apply List.ext_getElem
  · simp [leB_length]
  · intro i h1 h2
    cases i with
    | zero => simp [leB]
    | succ i =>
      simp only [leB, List.getElem_map, List.getElem_range, List.getElem_cons_succ]
      rw [Nat.pow_succ, Nat.mul_comm, Nat.div_div_eq_div_mul]

/-- bytes laid into others from a place on -/
def lay (l : List UInt8) (off : Nat) (bs : List UInt8) : List UInt8 := l.take off ++ (bs ++ l.drop (off + bs.length))
theorem lay_nil (l : List UInt8) (off : Nat) : lay l off [] = l := by simp [lay]
theorem lay_length (l : List UInt8) (off : Nat) (bs : List UInt8) (h : off + bs.length ≤ l.length) : (lay l off bs).length = l.length := by
  simp [lay]; omega
theorem lay_snoc (l : List UInt8) (off : Nat) (bs : List UInt8) (u : UInt8) (h : off + bs.length < l.length) : (lay l off bs).set (off + bs.length) u = lay l off (bs ++ [u]) := by
  unfold lay
  have ht : (l.take off).length = off := by simp; omega
  rw [List.set_append_right _ _ (by omega), ht, show off + bs.length - off = bs.length from by omega, List.set_append_right _ _ (by omega), Nat.sub_self,
    List.drop_eq_getElem_cons h, List.set_cons_zero]
  simp [Nat.add_assoc]

theorem byte_at (n k : Nat) : (n : Int) / 2 ^ (8 * k) % 256 = ((UInt8.ofNat (n / 256 ^ k)).toNat : Int) := by
  rw [UInt8.toNat_ofNat', show (256 : Nat) ^ k = 2 ^ (8 * k) from by rw [Nat.pow_mul]]
  have h : ((n : Int) / 2 ^ (8 * k)) = ((n / 2 ^ (8 * k) : Nat) : Int) := by rw [Int.natCast_ediv]; congr 1
  rw [h]; rfl

set_option maxHeartbeats 800000 in
theorem split_any (T : TypeId) (p off m cap : Nat) (l : List UInt8) (k n : Nat) (hl : l.length = 256) (hm : m ≤ 8) (hoff : off + m ≤ 256) (w : World) (hw : IsObj T w p l k) :
    Calls Try.prog 45 #[.int .u64 (n : Int), .slice (some ⟨p, off, none⟩) m cap] w fun e w' => e = .returned (.tuple #[]) ∧ IsObj T w' p (lay l off (leB n m)) k ∧ Apart p w w' := by
  go_enter Try.func45, Try.ntmps45
  go_wp2
  refine wp_scope_jumps 0 (fun a' w' => ∃ (i : Nat) (u5 u6 u7 u8 u9 u10 u11 u12 u13 u14 u15 u16 u17 u18 : Value), i ≤ m ∧ a' = { tmps := #[.int .u64 (n : Int), .slice (some ⟨p, off, none⟩) m cap, undef, undef, .int .i64 (i : Int), u5, u6, u7, u8, u9, u10, u11, u12, u13, u14, u15, u16, u17, u18], defers := [] } ∧ IsObj T w' p (lay l off (leB n i)) k ∧ Apart p w w') (fun a' _ => m - (intOf (a'.tmps.getD 4 undef)).toNat) rfl ?_ ?_
  · go_wp2
    go_step3
    by_cases hlt : 0 < m
    · have hc := hw.byte off (by omega)
      have hf := hw.frozen off
      have ho := hw.setByte off (UInt8.ofNat (n / 256 ^ 0)) (by omega)
      rw [← byte_at n 0] at ho
      have hs := lay_snoc l off [] (UInt8.ofNat (n / 256 ^ 0)) (by simp; omega)
      rw [lay_nil, List.length_nil, Nat.add_zero] at hs
      rw [hs] at ho
      have hl1 := leB_succ n 0
      clear hs
      go_wp2
      go_step3
      refine ⟨rfl, 1, _, _, _, _, _, _, _, _, _, _, _, _, _, _, by omega, rfl, ?_, (Apart.refl _ _).set_ _ _⟩
      rw [hl1, show leB n 0 = [] from rfl]
      simpa using ho
    · obtain rfl : m = 0 := by omega
      go_wp2
      simp only [Exit.jump]
      go_end0
      exact ⟨rfl, by rw [show leB n 0 = [] from rfl, lay_nil]; exact hw, Apart.refl _ _⟩
  · rintro a' w1 ⟨i, u5, u6, u7, u8, u9, u10, u11, u12, u13, u14, u15, u16, u17, u18, hi, rfl, ho, ha⟩
    have hlen := lay_length l off (leB n i) (by rw [leB_length]; omega)
    by_cases hlt : i < m
    · have hc := ho.byte (off + i) (by omega)
      have hf := ho.frozen (off + i)
      have ho2 := ho.setByte (off + i) (UInt8.ofNat (n / 256 ^ i)) (by omega)
      have hs := lay_snoc l off (leB n i) (UInt8.ofNat (n / 256 ^ i)) (by rw [leB_length]; omega)
      rw [leB_length, ← leB_succ] at hs
      rw [hs, ← byte_at] at ho2
      clear hs
      go_wp2
      go_step3
      refine ⟨rfl, ⟨i + 1, _, _, _, _, _, _, _, _, _, _, _, _, _, _, by omega, rfl, ho2, ha.set_ _ _⟩, ?_⟩
      simp [intOf]
      omega
    · obtain rfl : i = m := by omega
      go_wp2
      simp only [Exit.jump]
      go_end0
      exact ⟨rfl, ho, ha⟩

end Go.Proofs.Ytmbmgncajfamiaa.Fld
