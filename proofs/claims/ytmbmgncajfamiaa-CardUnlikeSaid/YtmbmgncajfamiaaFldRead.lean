/-
  The walks of the reader's functions.
-/
import Derived.Test.YtmbmgncajfamiaaFldMethods
import Derived.BigQuiet
namespace Go.Proofs.Ytmbmgncajfamiaa.Fld
open Go.RowKit RowLaw Crc
set_option maxRecDepth 100000

/-! blank -/
def blankB (l : List UInt8) : Bool := l.all (· == 0)
theorem blankB_take (l : List UInt8) (k : Nat) (h : k < l.length) : blankB (l.take (k + 1)) = (blankB (l.take k) && (l[k] == 0)) := by
  unfold blankB
  rw [List.take_succ_eq_append_getElem h, List.all_append]
  simp
theorem blankB_false (l : List UInt8) (k : Nat) (h : k < l.length) (h0 : l[k] ≠ 0) : blankB l = false := by
  unfold blankB
  rw [List.all_eq_false]
  exact ⟨l[k], List.getElem_mem h, by simpa using h0⟩

set_option maxHeartbeats 800000 in
theorem blank_any (p off cap : Nat) (bs : List UInt8) (hm : bs.length ≤ 256) (w : World) (hc : ∀ j (h : j < bs.length), w.cell? ⟨p, off + j, none⟩ = some (.int .u8 (bs[j].toNat : Int))) :
    Calls Try.prog 59 #[.slice (some ⟨p, off, none⟩) bs.length cap] w fun e w' => e = .returned (.bool (blankB bs)) ∧ w' = w := by
  have HC := Lib.hid hc; clear hc
  obtain ⟨n, hn⟩ : ∃ n, n = bs.length := ⟨_, rfl⟩
  rw [← hn] at hm ⊢
  have HN := Lib.hid hn; clear hn
  go_enter Try.func59, Try.ntmps59
  go_wp2
  go_loop [7] (fun i => ∃ k : Nat, k ≤ n ∧ i = .int .i64 k ∧ Hid (blankB (bs.take k) = true)) (fun i => n - (intOf i).toNat)
  case atStart => exact ⟨0, by omega, rfl, rfl⟩
  case round =>
    obtain ⟨k, hk, rfl, hb⟩ := hrel
    by_cases hlt : k < n
    · have hkl : k < bs.length := by have := HN.out; omega
      have hcu := HC.out k hkl
      have hbt := blankB_take bs k hkl
      by_cases h0 : bs[k] = 0
      · have h0' : (((bs[k].toNat : Int)) != 0) = false := by rw [h0]; rfl
        have HB : Hid (blankB (bs.take (k + 1)) = true) := by
          show _ = _
          rw [hbt, hb.out, h0]; rfl
        have h0n : bs[k].toNat = 0 := by rw [h0]; rfl
        rw [h0n] at hcu
        clear h0' hbt h0 h0n
        go_wp2
        go_round
        case rel => exact ⟨k + 1, by omega, by go_num, HB⟩
        case measure => simp [intOf]; omega
      · have hne : bs[k].toNat ≠ 0 := fun e => h0 (UInt8.toNat_inj.1 e)
        have h0' : (((bs[k].toNat : Int)) != 0) = true := by simp; exact hne
        have hbf := blankB_false bs k hkl h0
        generalize bs[k].toNat = u at hcu h0' hne
        clear hbt h0
        go_wp2
        go_ret
        exact ⟨rfl, rfl⟩
    · obtain rfl : k = n := by omega
      go_wp2
      go_ret
      refine ⟨?_, rfl⟩
      have := hb.out
      rw [List.take_of_length_le (by have := HN.out; omega)] at this
      rw [this]; rfl

/-! number -/
def leNat : List UInt8 → Nat
  | [] => 0
  | u :: l => u.toNat + 256 * leNat l
theorem leNat_lt : ∀ l : List UInt8, leNat l < 256 ^ l.length
  | [] => by simp [leNat]
  | u :: l => by
    have := leNat_lt l
    have hu := u.toNat_lt
    rw [leNat, List.length_cons, Nat.pow_succ]
    omega
theorem leNat_drop (l : List UInt8) (i : Nat) (h : i < l.length) : leNat (l.drop i) = l[i].toNat + 256 * leNat (l.drop (i + 1)) := by
  rw [List.drop_eq_getElem_cons h, leNat]
theorem or_add (a b : Nat) (h : b < 256) : a * 256 ||| b = a * 256 + b := by
  have := Nat.shiftLeft_add_eq_or_of_lt (i := 8) (b := b) h a
  rw [Nat.shiftLeft_eq] at this
  rw [← this]

theorem or_w (x u : Nat) (hx : x < 72057594037927936) (hu : u < 256) : bits .or .u64 (IntKind.u64.wrap ((x : Int) * 256)) (u : Int) = ((u + 256 * x : Nat) : Int) := by
  rw [IntWalk.u64_in _ (by omega), show (x : Int) * 256 = ((x * 256 : Nat) : Int) from by omega, u64_or_nat _ _ (by omega) (by omega), or_add x u hu]
  omega
theorem leNat_lt56 (l : List UInt8) (h : l.length ≤ 7) : leNat l < 72057594037927936 :=
  Nat.lt_of_lt_of_le (leNat_lt l) (Nat.le_trans (Nat.pow_le_pow_right (by omega) h) (by decide))

set_option maxHeartbeats 800000 in
theorem number_any (p off cap : Nat) (bs : List UInt8) (hm : bs.length ≤ 8) (w : World) (hc : ∀ j (h : j < bs.length), w.cell? ⟨p, off + j, none⟩ = some (.int .u8 (bs[j].toNat : Int))) :
    Calls Try.prog 68 #[.slice (some ⟨p, off, none⟩) bs.length cap] w fun e w' => e = .returned (.tuple #[.int .u64 (leNat bs : Int), .bool true]) ∧ w' = w := by
  have HC := Lib.hid hc; clear hc
  obtain ⟨n, hn⟩ : ∃ n, n = bs.length := ⟨_, rfl⟩
  rw [← hn] at hm ⊢
  have HN := Lib.hid hn; clear hn
  go_enter Try.func68, Try.ntmps68
  go_wp2
  refine wp_scope_jumps 0 (fun a' w' => ∃ (i : Nat) (u5 u6 u7 u8 u9 u10 u11 u12 u13 u14 u15 u16 u17 u18 u19 : Value), i ≤ n ∧ a' = { tmps := #[.slice (some ⟨p, off, none⟩) n cap, undef, .int .u64 (leNat (bs.drop i) : Int), .bool false, .int .i64 (i : Int), u5, u6, u7, u8, u9, u10, u11, u12, u13, u14, u15, u16, u17, u18, u19], defers := [] } ∧ w' = w) (fun a' _ => (intOf (a'.tmps.getD 4 undef)).toNat) rfl ?_ ?_
  · go_wp2
    go_step3
    have hz : Value.int .u64 0 = Value.int .u64 (leNat (bs.drop n) : Int) := by rw [List.drop_of_length_le (by have := HN.out; omega)]; rfl
    rw [hz]
    clear hz
    by_cases h0 : n = 0
    · subst h0
      go_wp2
      simp only [Exit.jump]
      go_ret2
      exact ⟨rfl, rfl⟩
    · obtain ⟨j, hj⟩ : ∃ j, n = j + 1 := ⟨n - 1, by omega⟩
      have hjl : j < bs.length := by have := HN.out; omega
      have hcu := HC.out j hjl
      have hlt : bs[j].toNat < 256 := bs[j].toNat_lt
      have hor := or_w (leNat (bs.drop (j + 1))) bs[j].toNat (leNat_lt56 _ (by simp; have := HN.out; omega)) hlt
      rw [← leNat_drop bs j hjl] at hor
      have HO := Lib.hid hor; clear hor
      have HJ := Lib.hid hj
      subst hj
      go_wp2
      go_step3
      rw [HO.out]
      refine ⟨rfl, j, _, _, _, _, _, _, _, _, _, _, _, _, _, _, _, by omega, rfl, rfl⟩
  · rintro a' w1 ⟨i, u5, u6, u7, u8, u9, u10, u11, u12, u13, u14, u15, u16, u17, u18, u19, hi, rfl, rfl⟩
    by_cases h0 : i = 0
    · subst h0
      go_wp2
      simp only [Exit.jump]
      go_ret2
      exact ⟨rfl, rfl⟩
    · obtain ⟨j, rfl⟩ : ∃ j, i = j + 1 := ⟨i - 1, by omega⟩
      have hjl : j < bs.length := by have := HN.out; omega
      have hcu := HC.out j hjl
      have hlt : bs[j].toNat < 256 := bs[j].toNat_lt
      have hor := or_w (leNat (bs.drop (j + 1))) bs[j].toNat (leNat_lt56 _ (by simp; have := HN.out; omega)) hlt
      rw [← leNat_drop bs j hjl] at hor
      have HO := Lib.hid hor; clear hor
      go_wp2
      go_step3
      rw [HO.out]
      refine ⟨rfl, ⟨j, _, _, _, _, _, _, _, _, _, _, _, _, _, _, _, by omega, rfl, rfl⟩, ?_⟩
      simp [intOf]

/-! text -/
theorem blank_len (p off cap m : Nat) (bs : List UInt8) (hb : bs.length = m) (b : Bool) (hv : blankB bs = b) (hm : m ≤ 256) (w : World) (hc : ∀ j (h : j < bs.length), w.cell? ⟨p, off + j, none⟩ = some (.int .u8 (bs[j].toNat : Int))) :
    Calls Try.prog 59 #[.slice (some ⟨p, off, none⟩) m cap] w fun e w' => e = .returned (.bool b) ∧ w = w' := by
  subst hb hv
  exact (blank_any p off cap bs hm w hc).mono fun _ _ ⟨he, hw⟩ => ⟨he, hw.symm⟩

theorem below_drewN (w : World) (n : Nat) : Below w.heap.size w (w.drewN n) := ⟨rfl, rfl, rfl, Nat.le_refl _, fun _ _ => rfl⟩

set_option maxHeartbeats 800000 in
theorem text_long (p off c room : Nat) (u : UInt8) (hroom : room ≤ 200) (hc0 : room < c) (hlong : room < u.toNat) (w : World) (hu : w.cell? ⟨p, off, none⟩ = some (.int .u8 (u.toNat : Int))) :
    Calls Try.prog 56 #[.slice (some ⟨p, off, none⟩) (room + 1) (c + 1)] w fun e w' => e = .returned (.tuple #[.string ⟨#[]⟩, .bool false]) ∧ Below w.heap.size w w' := by
  have hlt : u.toNat < 256 := u.toNat_lt
  have c1 : ¬ c = 0 := by omega
  have c2 : (1 : Int) ≤ ((room + 1 : Nat) : Int) := by omega
  have c3 : 0 < room + 1 := by omega
  generalize u.toNat = n at *
  go_enter Try.func56, Try.ntmps56
  go_wp2
  go_quiet (fail)
  go_wp2
  go_ret2
  exact ⟨rfl, below_drewN w nq⟩

set_option maxHeartbeats 800000 in
theorem text_short (p off c room : Nat) (u : UInt8) (rest : List UInt8) (b : Bool) (hroom : room ≤ 200) (hc0 : room < c) (hshort : u.toNat ≤ room) (hlen : rest.length = room) (hb : blankB (rest.drop u.toNat) = b) (w : World) (hu : w.cell? ⟨p, off, none⟩ = some (.int .u8 (u.toNat : Int)))
    (hr : ∀ j (h : j < rest.length), w.cell? ⟨p, off + 1 + j, none⟩ = some (.int .u8 (rest[j].toNat : Int))) :
    Calls Try.prog 56 #[.slice (some ⟨p, off, none⟩) (room + 1) (c + 1)] w fun e w' => e = .returned (.tuple #[.string (if b = true then ⟨(rest.take u.toNat).toArray⟩ else ⟨#[]⟩), .bool b]) ∧ Below w.heap.size w w' := by
  have hlt : u.toNat < 256 := u.toNat_lt
  have c1 : ¬ c = 0 := by omega
  have c2 : (1 : Int) ≤ ((room + 1 : Nat) : Int) := by omega
  have c3 : 0 < room + 1 := by omega
  have c4 : ¬ c = u.toNat := by omega
  have c5 : ¬ room < u.toNat := by omega
  have hd : (rest.drop u.toNat).length = room - u.toNat := by rw [List.length_drop, hlen]
  have hcells : ∀ j (h : j < (rest.drop u.toNat).length), w.cell? ⟨p, off + 1 + u.toNat + j, none⟩ = some (.int .u8 ((rest.drop u.toNat)[j].toNat : Int)) := fun j h => by
    have := hr (u.toNat + j) (by rw [hlen]; omega)
    rw [Nat.add_assoc, this, List.getElem_drop]
  have HR := Lib.hid hr; clear hr
  have HC := Lib.hid hcells; clear hcells
  have HL := Lib.hid hlen; clear hlen
  have HB := Lib.hid hb; clear hb
  have HD := Lib.hid hd; clear hd
  have ht : (rest.take u.toNat).length = u.toNat := by rw [List.length_take, HL.out]; omega
  have hcv := fun w' : World => fun hw' : (∀ a, w'.cell? a = w.cell? a) => run_convert_bytes_back (P := Try.prog) w' 50 9 5 ⟨p, off + 1, none⟩ c (rest.take u.toNat) Try.underlying50 Try.underlying5 Try.underlying9
    (fun j hj => by rw [Addr.add_mid, hw', HR.out j (by rw [ht] at hj; rw [HL.out]; omega)]; simp)
  rw [ht] at hcv
  have HV := Lib.hid hcv; clear hcv
  clear ht
  generalize u.toNat = n at *
  go_enter Try.func56, Try.ntmps56
  go_wp2
  go_quiet (fail)
  have hv := HV.out (w.drewN nq) (fun _ => rfl)
  have hcc : ∀ j (h : j < (rest.drop n).length), (w.drewN nq).cell? ⟨p, off + 1 + n + j, none⟩ = some (.int .u8 ((rest.drop n)[j].toNat : Int)) := HC.out
  have HE := Lib.hid hcc; clear hcc
  have hz : Below w.heap.size w (w.drewN nq) := below_drewN w nq
  generalize w.drewN nq = W2 at hv HE hz ⊢
  cases b
  all_goals
    go_wp2_with (go_at_call 59; (with_reducible refine (blank_len p (off + 1 + n) (c - n) (room - n) (rest.drop n) HD.out _ HB.out (by omega) _ HE.out).mono ?_); rintro e W1 ⟨rfl, rfl⟩)
    go_ret2
    exact ⟨rfl, hz⟩

end Go.Proofs.Ytmbmgncajfamiaa.Fld
