/-
  The walks of the reference's bytes of fields.
-/
import Derived.Test.YtmbmgncajfamiaaFldWriter
import Derived.Deep.OwnRows
import Derived.RegionTactic
import Derived.IntWalk
import Derived.Deep.RegionWith
namespace Go.Proofs.Ytmbmgncajfamiaa.Fld
open Go.RowKit RowLaw Crc
set_option maxRecDepth 100000

theorem infoByte : (Try.prog.info? 5).map (fun i => (i.zero, i.size, i.bytes)) = some (some (.int .u8 0), 1, 1) := by kernel_rfl
def bcell (u : UInt8) : Obj := .cells #[.int .u8 (u.toNat : Int)] 5
def bmade (n : Nat) : Obj := .cells (madeCells #[.int .u8 0] n) 5

theorem conv_one (W : World) (b : Nat) (u : UInt8) (h : W.cell? ⟨b, 0, none⟩ = some (.int .u8 (u.toNat : Int))) : (convert 50 9 (.slice (some ⟨b, 0, none⟩) 1 1)).run Try.prog W = .ok (.string ⟨#[u]⟩) W :=
  run_convert_bytes_back (P := Try.prog) W 50 9 5 ⟨b, 0, none⟩ 1 [u] Try.underlying50 Try.underlying5 Try.underlying9 (fun j hj => by
    obtain rfl : j = 0 := by simpa using hj
    rw [Addr.add_mid]; exact h)

theorem conv_zeros (W : World) (b n : Nat) (h : W.heap[b]? = some (bmade n)) : (convert 50 9 (.slice (some ⟨b, 0, none⟩) n n)).run Try.prog W = .ok (.string ⟨(List.replicate n 0).toArray⟩) W := by
  have := run_convert_bytes_back (P := Try.prog) W 50 9 5 ⟨b, 0, none⟩ n (List.replicate n 0) Try.underlying50 Try.underlying5 Try.underlying9 (fun j hj => by
    have hj' : j < n := by simpa using hj
    rw [Addr.add_mid, Nat.zero_add, cell_of_row W b j _ _ _ h, List.getElem_replicate]
    simp [madeCells, hj', Nat.mod_one])
  rw [List.length_replicate] at this
  exact this

theorem ret_str2 {s t : ByteArray} {b : Bool} (h : s = t) : Ending.returned (.tuple #[.string s, .bool b]) = .returned (.tuple #[.string t, .bool b]) := by rw [h]
theorem ret_str {s t : ByteArray} (h : s = t) : Ending.returned (.string s) = .returned (.string t) := by rw [h]
theorem cat3 (u : UInt8) (s : ByteArray) (n : Nat) : ((⟨#[u]⟩ : ByteArray) ++ s ++ ⟨Array.replicate n 0⟩) = ⟨(u :: (s.data.toList ++ List.replicate n 0)).toArray⟩ := by
  apply ByteArray.ext
  simp

theorem cat2 (u : UInt8) (l : List UInt8) : ((⟨#[u]⟩ : ByteArray) ++ ⟨l.toArray⟩) = ⟨(u :: l).toArray⟩ := by
  apply ByteArray.ext
  simp

set_option maxHeartbeats 800000 in
theorem refText_yes (s : ByteArray) (room : Nat) (hr : room ≤ 200) (hs : s.size ≤ room) (w : World) :
    Calls Try.prog 25 #[.string s, .int .i64 (room : Int)] w fun e w' => e = .returned (.tuple #[.string ⟨(textField s (room : Int)).toArray⟩, .bool true]) ∧ Below w.heap.size w w' := by
  have hmk := run_make_row' (P := Try.prog) 50 5 (.int .u8 0) 1 Try.underlying50 infoByte rfl .i64 .i64 (room - s.size) (by omega) (by omega)
  have h1 : (room : Int) - (s.size : Int) = ((room - s.size : Nat) : Int) := by omega
  have hu : ((UInt8.ofNat s.size).toNat : Int) = (s.size : Int) := by rw [UInt8.toNat_ofNat']; omega
  have z1 : IntKind.u8.wrap (s.size : Int) = (s.size : Int) := IntWalk.u8_in _ (by omega)
  have e3 := textField_length s room
  obtain ⟨n, hn⟩ : ∃ n, n = room - s.size := ⟨_, rfl⟩
  rw [← hn] at hmk h1
  obtain ⟨u, hue⟩ : ∃ u, u = UInt8.ofNat s.size := ⟨_, rfl⟩
  rw [← hue] at hu
  have hA : ∀ W : World, (convert 50 9 (.slice (some ⟨W.heap.size, 0, none⟩) 1 1)).run Try.prog (W.alloc (bcell u)).drew = .ok (.string ⟨#[u]⟩) (W.alloc (bcell u)).drew := fun W => conv_one _ _ u (cell_of_row (W.alloc (bcell u)) W.heap.size 0 _ _ _ (heap_alloc_new _ _))
  have f2 : (convert 50 9 (.slice (some ⟨w.heap.size, 0, none⟩) 1 1)).run Try.prog ((w.alloc (bcell u)).alloc (bmade n)).drew = .ok (.string ⟨#[u]⟩) ((w.alloc (bcell u)).alloc (bmade n)).drew := conv_one _ _ u (cell_of_row ((w.alloc (bcell u)).alloc (bmade n)) w.heap.size 0 _ _ _ (heap_alloc2_old _ _ _))
  have f1 := hA w
  have f3 := hA (w.alloc (bmade n))
  have hB : ∀ W : World, (convert 50 9 (.slice (some ⟨W.heap.size, 0, none⟩) n n)).run Try.prog (W.alloc (bmade n)).drew = .ok (.string ⟨(List.replicate n 0).toArray⟩) (W.alloc (bmade n)).drew := fun W => conv_zeros _ _ n (heap_alloc_new _ _)
  have g1 := hB w
  have g3 := hB (w.alloc (bcell u))
  have g2 : (convert 50 9 (.slice (some ⟨w.heap.size, 0, none⟩) n n)).run Try.prog ((w.alloc (bmade n)).alloc (bcell u)).drew = .ok (.string ⟨(List.replicate n 0).toArray⟩) ((w.alloc (bmade n)).alloc (bcell u)).drew := conv_zeros _ _ n (heap_alloc2_old _ _ _)
  rw [show (w.alloc (bmade n)).heap.size = w.heap.size + 1 from by simp] at f3
  rw [show (w.alloc (bcell u)).heap.size = w.heap.size + 1 from by simp] at g3
  clear hA hB
  simp only [bcell, bmade] at f1 f2 f3 g1 g2 g3
  rw [hu] at f1 f2 f3 g2 g3
  have hres : (textField s (room : Int)) = u :: (s.data.toList ++ List.replicate n 0) := by unfold textField; rw [hue, hn, Int.toNat_natCast]
  have HR := Lib.hid hres; clear hres
  have HN := Lib.hid hn; clear hn
  have HU := Lib.hid hue; clear hue hu e3
  go_enter Try.func25, Try.ntmps25
  go_wp2
  go_region
  all_goals
    go_wp2
    go_ret2
    rw [HR.out]
    exact ⟨ret_str2 (cat3 u s n), (((Below.refl _ _).alloc (Nat.le_refl _) _).alloc (by simp) _).drew⟩

set_option maxHeartbeats 400000 in
theorem refText_no (s : ByteArray) (room : Int) (hno : textOk s room = false) (w : World) :
    Calls Try.prog 25 #[.string s, .int .i64 room] w fun e w' => e = .returned (.tuple #[.string ⟨#[]⟩, .bool false]) ∧ Below w.heap.size w w' := by
  have hn : ¬ (0 ≤ room ∧ room ≤ 200 ∧ (s.size : Int) ≤ room) := of_decide_eq_false hno
  clear hno
  by_cases h1 : room < 0
  · clear hn
    go_enter Try.func25, Try.ntmps25
    go_wp2
    go_ret2
    exact ⟨rfl, Below.refl _ _⟩
  · by_cases h2 : 200 < room
    · clear hn
      go_enter Try.func25, Try.ntmps25
      go_wp2
      go_ret2
      exact ⟨rfl, Below.refl _ _⟩
    · have h3 : room < (s.size : Int) := by omega
      clear hn
      go_enter Try.func25, Try.ntmps25
      go_wp2
      go_ret2
      exact ⟨rfl, Below.refl _ _⟩

theorem conv_new (W : World) (u : UInt8) : (convert 50 9 (.slice (some ⟨W.heap.size, 0, none⟩) 1 1)).run Try.prog (W.alloc (bcell u)) = .ok (.string ⟨#[u]⟩) (W.alloc (bcell u)) := conv_one _ _ u (cell_of_row (W.alloc (bcell u)) W.heap.size 0 _ _ _ (heap_alloc_new _ _))
theorem conv_old (w w1 : World) (u : UInt8) (hb : Below (w.alloc (bcell u)).drew.heap.size (w.alloc (bcell u)).drew w1) : (convert 50 9 (.slice (some ⟨w.heap.size, 0, none⟩) 1 1)).run Try.prog w1 = .ok (.string ⟨#[u]⟩) w1 :=
  conv_one _ _ u ((hb.cell (p := ⟨w.heap.size, 0, none⟩) (by simp)).trans (cell_of_row (w.alloc (bcell u)) w.heap.size 0 _ _ _ (heap_alloc_new _ _)))

set_option maxHeartbeats 800000 in
theorem refNum_any : ∀ (m n : Nat) (w : World), m ≤ 8 → n < 18446744073709551616 →
    Calls Try.prog 27 #[.int .u64 (n : Int), .int .i64 (m : Int)] w fun e w' => e = .returned (.string ⟨(leB n m).toArray⟩) ∧ Below w.heap.size w w'
  | 0, n, w, _, _ => by
    rw [show ((0 : Nat) : Int) = 0 from rfl]
    go_enter Try.func27, Try.ntmps27
    go_wp2
    go_ret
    exact ⟨rfl, Below.refl _ _⟩
  | m + 1, n, w, hm, hn => by
    obtain ⟨u, hue⟩ : ∃ u, u = UInt8.ofNat n := ⟨_, rfl⟩
    have hu : (n : Int) % 256 = (u.toNat : Int) := by rw [hue, UInt8.toNat_ofNat']; omega
    obtain ⟨d, hde⟩ : ∃ d, d = n / 256 := ⟨_, rfl⟩
    have hd : (n : Int) / 256 = (d : Int) := by omega
    have hdl : d < 18446744073709551616 := by omega
    obtain ⟨M, hM⟩ : ∃ M, M = m + 1 := ⟨_, rfl⟩
    have ih := fun w => refNum_any m d w (by omega) hdl
    have hul := u.toNat_lt
    have z2 : IntKind.u8.wrap (u.toNat : Int) = (u.toNat : Int) := IntWalk.u8_in _ (by omega)
    have z3 : (M : Int) - 1 = (m : Int) := by omega
    have z4 : IntKind.i64.wrap ((M : Int) - 1) = (m : Int) := by rw [IntWalk.i64_in _ (by omega)]; omega
    have z5 : ¬ (M : Int) ≤ 0 := by omega
    have z6 : (n : Int).tmod 256 = (u.toNat : Int) := by rw [Int.tmod_eq_emod_of_nonneg (by omega)]; exact hu
    have z7 : IntKind.u64.wrap (d : Int) = (d : Int) := IntWalk.u64_in _ (by omega)
    have z8 : IntKind.i64.wrap (m : Int) = (m : Int) := IntWalk.i64_in _ (by omega)
    have hres := leB_cons n m
    rw [← hue, ← hde] at hres
    rw [← hM]
    have hLl : (leB d m).length ≤ 8 := by rw [leB_length]; omega
    obtain ⟨L, hL⟩ : ∃ L, L = leB d m := ⟨_, rfl⟩
    rw [← hL] at hLl hres
    simp only [← hL] at ih
    have HL := Lib.hid hL; clear hL
    have HR := Lib.hid hres; clear hres
    have HI := Lib.hid ih; clear ih
    have f1 : (convert 50 9 (.slice (some ⟨w.heap.size, 0, none⟩) 1 1)).run Try.prog (w.alloc (bcell u)).drew = .ok (.string ⟨#[u]⟩) (w.alloc (bcell u)).drew := conv_one _ _ u (cell_of_row (w.alloc (bcell u)) w.heap.size 0 _ _ _ (heap_alloc_new _ _))
    simp only [bcell] at f1
    have HU := Lib.hid hue; clear hue
    have HD := Lib.hid hde; clear hde
    have HM := Lib.hid hM; clear hM
    clear hn hm
    go_enter Try.func27, Try.ntmps27
    go_wp2
    go_region_with (go_at_call 27; (with_reducible refine (HI.out _).mono ?_); rintro e w1 ⟨rfl, hb⟩; have k2 := conv_new w1 u; have k1 := conv_old w w1 u; simp only [bcell] at k2 k1; (try replace k1 := k1 hb))
    all_goals
      change Exit.then _ _ Exit.normal (Act.put _ (some 4) _) _
      simp only [Act.put]
      go_wp2
      go_ret
      have hm1 := HM.out
      subst hm1
      rw [HR.out]
      refine ⟨ret_str (cat2 u L), ?_⟩
      first
        | exact (((Below.refl _ _).alloc (Nat.le_refl _) _).drew).trans (hb.mono (by simp))
        | exact ((Below.refl _ _).drew.trans hb).alloc hb.size _

end Go.Proofs.Ytmbmgncajfamiaa.Fld
