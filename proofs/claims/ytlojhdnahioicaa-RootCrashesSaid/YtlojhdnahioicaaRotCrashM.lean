/-
  The law RootCrashes: what its calls answer, by value; its short ways.
-/
import Derived.Test.YtlojhdnahioicaaRotNew
import Derived.Test.YtlojhdnahioicaaRotCrash
import Derived.Test.YtlojhdnahioicaaSlt5
namespace Go.Proofs.Ytlojhdnahioicaa.Rot
open Go.RowKit RowLaw Crc
set_option maxRecDepth 100000
open Go.Proofs.Ytlojhdnahioicaa.Fld (blockO)
open Go.Proofs.Ytlojhdnahioicaa.Slt (Rt cells rootO rtB rtB_length infoR sizeR cells_one IsRt eqB eqB_iff run_eqRoot noGuardR mayB)
open Go.Proofs.Ytlojhdnahioicaa.Dev (Dev DS ptr Many Live newS putCells readB writeS flushS crashS applyP New_more Keeps Turn)

def xV (f : Nat) (pk : Option Addr) (m c : Nat) : Array Value := #[.int .u8 (f : Int), .slice pk m c]
def xO (f : Nat) (pk : Option Addr) (m c : Nat) : Obj := .cells (xV f pk m c) 38 (0, 0)
theorem Keeps.below {w W : World} {pk : Option Addr} {ks : List (Nat × Nat)} (h : Keeps w pk ks) (hb : Below w.heap.size w W) : Keeps W pk ks :=
  h.turn (B := []) (Turn.of_below hb) (fun _ _ _ hm => by cases hm)
theorem run_nilDev (p : Nat) (W : World) : (binOp .eql 39 (.pointer (some ⟨p, 0, none⟩)) (.pointer none)).run Try.prog W = .ok (.bool false) W := by kernel_rfl

section
variable {w : World} {r0 : Rt} {pa : Option Addr} {cap : Nat} {xs : List (Nat × List UInt8)} {f : Nat} {pk : Option Addr} {ck : Nat} {ks : List (Nat × Nat)}
set_option linter.unusedSimpArgs false in
set_option maxHeartbeats 6400000 in
theorem crashes_far (hfar : 60 < xs.length ∨ 100 < ks.length) (hxl : xs.length ≤ 9223372036854775807) (hkl : ks.length ≤ 9223372036854775807)
    (hH : ∀ W, Calls Try.prog 9 #[] W fun e w' => e = .returned (.bool true) ∧ Below W.heap.size W w') :
    Calls Try.prog 4 #[.agg (cells r0), .slice pa xs.length cap, .agg (xV f pk ks.length ck)] w fun e w' => e = .returned (.bool true) ∧ Below w.heap.size w w' := by
  have HH := Lib.hid hH
  clear hH
  generalize xs.length = n at hfar hxl ⊢
  generalize ks.length = m at hfar hkl ⊢
  have hK : Kept w [(w.heap.size + 1, xO f pk m ck), (w.heap.size, rootO r0)] ((w.alloc (rootO r0)).alloc (xO f pk m ck)) := by
    have h := ((Kept.start w).alloc (rootO r0)).alloc (xO f pk m ck)
    rw [show (w.alloc (rootO r0)).heap.size = w.heap.size + 1 from by simp] at h
    exact h
  go_enter Try.func4, Try.ntmps4
  go_upto_region 1 with fail
  change Code.wp _ _ _ _ ((w.alloc (rootO r0)).alloc (xO f pk m ck))
  generalize (w.alloc (rootO r0)).alloc (xO f pk m ck) = W0 at hK ⊢
  generalize w.heap.size + 1 = b5 at hK ⊢
  go_wp2_with fail
  refine (New_more W0 hK.bel (fun x hx => ⟨hK.at_ (q := x.1) (o := x.2) hx, hK.lt_ (q := x.1) (o := x.2) hx⟩) 64 (by omega) (by omega)).mono ?_
  rintro e W5 ⟨p, rfl, hlive⟩
  have hm := Many.of_live_more hlive
  have ck1 : W5.cell? ⟨b5, 1, none⟩ = some (.slice pk m ck) := (cell_of_row W5 b5 1 _ _ _ (hm.at_ (q := b5) (o := xO f pk m ck) (by simp))).trans rfl
  have hbel := hm.bel
  clear hlive hK hm
  unfold ptr
  by_cases h1 : 60 < n
  · have i1 : (60 : Int) < (n : Int) := by omega
    clear hfar h1
    go_wp2_with (with_reducible refine (HH.out _).mono ?_)
    rintro e W6 ⟨rfl, hx⟩
    go_wp2_with fail
    go_ret
    exact ⟨rfl, hbel.trans (hx.mono hbel.size)⟩
  · have i1 : ¬ (60 : Int) < (n : Int) := by omega
    have i2 : (100 : Int) < (m : Int) := by omega
    clear hfar h1
    go_wp2_with (with_reducible refine (HH.out _).mono ?_)
    rintro e W6 ⟨rfl, hx⟩
    go_wp2_with fail
    go_ret
    exact ⟨rfl, hbel.trans (hx.mono hbel.size)⟩

/-- the block that a loop over the rows from k on wants -/
def wantF (G : Nat → List UInt8) (xs : List (Nat × List UInt8)) (c k j : Nat) : List UInt8 := applyP G (xs.take (max j (k + 1))) c
theorem want_start {G : Nat → List UInt8} {xs : List (Nat × List UInt8)} {k : Nat} (hk : k < xs.length) : wantF G xs xs[k].1 k k = xs[k].2 := by
  unfold wantF
  rw [show max k (k + 1) = k + 1 by omega, applyP_take G xs k hk, if_pos rfl]
theorem want_same {G : Nat → List UInt8} {xs : List (Nat × List UInt8)} {c k j : Nat} (hkj : k ≤ j) (hj : j < xs.length) (h : xs[j].1 = c) : wantF G xs c k (j + 1) = xs[j].2 := by
  unfold wantF
  rw [show max (j + 1) (k + 1) = j + 1 by omega, applyP_take G xs j hj, if_pos h]
theorem want_other {G : Nat → List UInt8} {xs : List (Nat × List UInt8)} {k j : Nat} (hk : k < xs.length) (hkj : k ≤ j) (hj : j < xs.length) (h : ¬ xs[j].1 = xs[k].1) : wantF G xs xs[k].1 k (j + 1) = wantF G xs xs[k].1 k j := by
  have hne : ¬ j = k := fun e => by subst e; exact h rfl
  unfold wantF
  rw [show max (j + 1) (k + 1) = j + 1 by omega, show max j (k + 1) = j by omega, applyP_take G xs j hj, if_neg h]
theorem want_end {G : Nat → List UInt8} {xs : List (Nat × List UInt8)} {c k : Nat} (hk : k < xs.length) : wantF G xs c k xs.length = applyP G xs c := by
  unfold wantF
  rw [show max xs.length (k + 1) = xs.length by omega, List.take_length]
theorem want_len {G : Nat → List UInt8} {xs : List (Nat × List UInt8)} (hG : ∀ a, (G a).length = 256) (hx : ∀ x ∈ xs, x.2.length = 256) (c k j : Nat) : (wantF G xs c k j).length = 256 :=
  applyP_len _ _ hG (fun x h => hx x (List.mem_of_mem_take h)) c

/-- what the law's calls answer, once the commit may be -/
theorem crash_math {k : Nat} {r : Rt} {xs : List (Nat × List UInt8)} (hr : r.Fits) (hg : r.gen = 2) (hl : ∀ x ∈ xs, x.2.length = 256) (ok : commitOk 64 xs r = true) (z : Int) (hz : 0 ≤ z) (ks : List (Nat × Nat)) :
    ∃ s1 g s3 now, commitF { s64 k with left := z } xs r = (s1, g) ∧ mountS (crashS s1 ks) = some now ∧ (now = fresh 64 ∨ now = r) ∧ (g = 0 → now = r) ∧ commitF (crashS s1 ks) xs r = (s3, 0) ∧ mountS s3 = some r ∧ s3.pend = [] ∧ s3.n = 64 ∧ (crashS s1 ks).n = 64 ∧
      (∃ G, (∀ a, (G a).length = 256) ∧ ∀ c, 2 ≤ c → readB s3 c = applyP G xs c) := by
  obtain ⟨h1, h2, h3, h4, h5, _⟩ := crashes64 (k := k) hr hg hl ok z hz ks
  have hcr := commit_crash (s := { s64 k with left := z }) (l := xs) (r := r) rfl rfl (by show -1 ≤ z; omega) (calm64 k).len hl (by show 2 ≤ 64; omega) ok ks
  have hn := hcr.n
  have hcalm := hcr.calm
  have hn' : (crashS (commitF { s64 k with left := z } xs r).1 ks).n = 64 := hn
  have ok2 : commitOk (crashS (commitF { s64 k with left := z } xs r).1 ks).n xs r = true := by rw [hn']; exact ok
  obtain ⟨j, e⟩ := commit_calm hcalm ok2 (by rw [hn']; omega)
  have hread := fun c hc => read_commit hcalm ok2 (by rw [hn']; omega) c hc
  refine ⟨(commitF { s64 k with left := z } xs r).1, (commitF { s64 k with left := z } xs r).2, (commitF (crashS (commitF { s64 k with left := z } xs r).1 ks) xs r).1, ?_⟩
  have hsplit : ∀ (q : DS × Int), q.2 = 0 → q = (q.1, 0) := fun q h => by rw [← h]
  have hex : ∃ now, mountS (crashS (commitF { s64 k with left := z } xs r).1 ks) = some now ∧ (now = fresh 64 ∨ now = r) := by
    rcases h1 with h1 | h1
    · exact ⟨_, h1, .inl rfl⟩
    · exact ⟨_, h1, .inr rfl⟩
  obtain ⟨now, hm, hnow⟩ := hex
  refine ⟨now, rfl, hm, hnow, fun h0 => ?_, hsplit _ h3, h4, h5, ?_, hn', (crashS (commitF { s64 k with left := z } xs r).1 ks).g, hcalm.len, hread⟩
  · have := h2 h0
    rw [hm] at this
    exact Option.some.inj this
  · rw [e]; exact hn'
end

end Go.Proofs.Ytlojhdnahioicaa.Rot
