/-
  The walks of crc.sum over a string and over a slice of bytes.
-/
import Derived.Test.YtmbmgncajfamiaaCrcTable
import Derived.Test.YtmbmgncajfamiaaRowLaws
import Derived.Lib.Hide
namespace Go.Proofs.Ytmbmgncajfamiaa.Crc
open Go.RowKit RowLaw

theorem tcells_get (j : Nat) (h : j < 16) : (tcells 16)[j]? = some (.int .u32 ((tab j).toNat : Int)) := by
  simp [tcells, h]

theorem nib_w (x : BitVec 32) (n : Nat) (hn : n < 16) : ∃ i : Nat, i < 16 ∧ bits .xor .u32 ((x.toNat : Int) / 268435456) (n : Int) = (i : Int) ∧
    bits .xor .u32 ((x.toNat : Int) * 16 % 4294967296) ((tab i).toNat : Int) = ((nib x n).toNat : Int) := by
  have hx := x.isLt
  have e : (x >>> 28).toNat = x.toNat / 268435456 := by rw [BitVec.toNat_ushiftRight, Nat.shiftRight_eq_div_pow]
  have hi : (x >>> 28).toNat ^^^ n < 16 := Nat.xor_lt_two_pow (n := 4) (by rw [e]; omega) hn
  refine ⟨(x >>> 28).toNat ^^^ n, hi, ?_, ?_⟩
  · rw [e]
    have := u32_xor_nat (x.toNat / 268435456) n (by omega) (by omega)
    rw [← this]; rfl
  · have ht := (tab ((x >>> 28).toNat ^^^ n)).isLt
    unfold nib
    rw [BitVec.toNat_xor, BitVec.toNat_shiftLeft, Nat.shiftLeft_eq]
    have := u32_xor_nat (x.toNat * 2 ^ 4 % 2 ^ 32) (tab ((x >>> 28).toNat ^^^ n)).toNat (by omega) (by omega)
    rw [← this]; rfl

theorem and15 (u : UInt8) : bits .and .u8 (u.toNat : Int) 15 = ((u.toNat &&& 15 : Nat) : Int) := u8_and_nat u.toNat 15 u.toNat_lt (by omega)
/-- one byte, as the walk writes it -/
theorem byte_w (x : BitVec 32) (u : UInt8) : ∃ (i j m : Nat) (y : BitVec 32), i < 16 ∧ j < 16 ∧ m < 16 ∧
    bits .xor .u32 ((x.toNat : Int) / 268435456) ((u.toNat : Int) / 16) = (i : Int) ∧ bits .xor .u32 ((x.toNat : Int) * 16 % 4294967296) ((tab i).toNat : Int) = (y.toNat : Int) ∧
    bits .and .u8 (u.toNat : Int) 15 = (m : Int) ∧ bits .xor .u32 ((y.toNat : Int) / 268435456) (m : Int) = (j : Int) ∧
    bits .xor .u32 ((y.toNat : Int) * 16 % 4294967296) ((tab j).toNat : Int) = ((byteStep x u).toNat : Int) := by
  have hu := u.toNat_lt
  have hm : u.toNat &&& 15 < 16 := by have := Nat.and_le_right (n := u.toNat) (m := 15); omega
  obtain ⟨i, hi, e1, f1⟩ := nib_w x (u.toNat / 16) (by omega)
  obtain ⟨j, hj, e2, f2⟩ := nib_w (nib x (u.toNat / 16)) (u.toNat &&& 15) hm
  exact ⟨i, j, _, _, hi, hj, hm, by rw [← e1]; rfl, f1, and15 u, e2, f2⟩

/-- the register behind the first k bytes -/
def regTo (l : List UInt8) (k : Nat) : BitVec 32 := (l.take k).foldl byteStep 0xffffffff#32
theorem regTo_zero (l : List UInt8) : regTo l 0 = 0xffffffff#32 := by simp [regTo]
theorem regTo_succ (l : List UInt8) (k : Nat) (h : k < l.length) : regTo l (k + 1) = byteStep (regTo l k) l[k] := by
  unfold regTo
  rw [List.take_succ_eq_append_getElem h, List.foldl_append]; rfl
theorem regTo_all (l : List UInt8) (k : Nat) (h : l.length ≤ k) : regTo l k = crcReg l := by
  unfold regTo; rw [List.take_of_length_le h]; rfl

theorem not_w (x : BitVec 32) : bits .xor .u32 IntKind.u32.max (x.toNat : Int) = (((~~~ x).toNat : Nat) : Int) := by
  have hx := x.isLt
  have h := u32_xor_nat 4294967295 x.toNat (by omega) (by omega)
  have e : (4294967295 ^^^ x.toNat : Nat) = (~~~ x).toNat := by
    have : (0xffffffff#32 ^^^ x) = ~~~ x := by
      apply BitVec.eq_of_getLsbD_eq
      intro i hi
      have h1 : ∀ j : Fin 32, (0xffffffff#32).getLsbD j.val = true := by decide
      rw [BitVec.getLsbD_xor, h1 ⟨i, hi⟩]
      simp [hi]
    rw [← this, BitVec.toNat_xor]; rfl
  rw [← e, ← h]; rfl

set_option maxRecDepth 100000 in
set_option maxHeartbeats 800000 in
theorem sumB_any (b off cap : Nat) (l : List UInt8) (hs : l.length ≤ maxLen) (hcap : l.length ≤ cap) (w : World) (hbk : b < w.heap.size) (hc : ∀ j (h : j < l.length), w.cell? ⟨b, off + j, none⟩ = some (.int .u8 (l[j].toNat : Int))) :
    Calls Try.prog 65 #[.slice (some ⟨b, off, none⟩) l.length cap] w fun e w' => e = .returned (.int .u32 ((crc l).toNat : Int)) ∧ Below w.heap.size w w' := by
  unfold maxLen at hs
  have h1c : (tcells 16).all (·.oneCell') = true := by decide +kernel
  have hi : (Try.prog.info? 106).map (·.size) = some (tcells 16).size := by rw [tcells_size]; kernel_rfl
  have HC := Lib.hid hc; clear hc
  obtain ⟨n, hn⟩ : ∃ n, n = l.length := ⟨_, rfl⟩
  rw [← hn] at hs hcap ⊢
  have HN := Lib.hid hn; clear hn
  go_enter Try.func65, Try.ntmps65
  go_wp2_with (first | (go_at_call 69; refine (table_any _).mono ?_; rintro e w1 ⟨rfl, hb1⟩) | (refine wpList_store_new rfl 106 _ _ rfl _ _ _ rfl rfl hi ?_ h1c ?_; (rw [tcells_size]; rfl)))
  clear hi h1c
  have hz1 := hb1.size
  go_loop [4, 9] (fun x i => ∃ k : Nat, k ≤ n ∧ i = .int .i64 k ∧ x = .int .u32 ((regTo l k).toNat : Int)) (fun _ i => n - (intOf i).toNat)
  case atStart => exact ⟨0, by omega, rfl, by rw [regTo_zero]; rfl⟩
  case round =>
    obtain ⟨k, hk, rfl, rfl⟩ := hrel
    by_cases hlt : k < n
    · have hkl : k < l.length := by have := HN.out; omega
      obtain ⟨u, hul⟩ : ∃ u, u = l[k] := ⟨_, rfl⟩
      have hu : u.toNat < 256 := u.toNat_lt
      have hcu : (w1.alloc (.cells (tcells 16) 106)).cell? ⟨b, off + k, none⟩ = some (.int .u8 (u.toNat : Int)) := by
        rw [World.cell?_alloc_lt _ _ _ (show b < w1.heap.size by omega), hb1.cell (p := ⟨b, off + k, none⟩) hbk, HC.out k hkl, hul]
      have HU := Lib.hid hul; clear hul
      obtain ⟨i, j, m, y, hi, hj, hm, e1, f1, e2, f2, f3⟩ := byte_w (regTo l k) u
      have c1 := (cell_of_row (w1.alloc (.cells (tcells 16) 106)) w1.heap.size i _ _ _ (heap_alloc_new _ _)).trans (tcells_get i hi)
      have c2 := (cell_of_row (w1.alloc (.cells (tcells 16) 106)) w1.heap.size j _ _ _ (heap_alloc_new _ _)).trans (tcells_get j hj)
      have hr := regTo_succ l k hkl
      have HR := Lib.hid hr; clear hr
      go_wp2_with fail
      go_round
      case rel => exact ⟨k + 1, by omega, by go_num, by rw [HR.out, ← HU.out]⟩
      case measure => simp [intOf]; omega
    · obtain rfl : k = n := by omega
      rw [regTo_all _ _ (by have := HN.out; omega)]
      have hsg : IntKind.u32.signed = false := rfl
      go_wp2_with fail
      go_ret
      exact ⟨ret_u32 (not_w _), hb1.trans ((Below.refl _ _).alloc hb1.size _)⟩

end Go.Proofs.Ytmbmgncajfamiaa.Crc
