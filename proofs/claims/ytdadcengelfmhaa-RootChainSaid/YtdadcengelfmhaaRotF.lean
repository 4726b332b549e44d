/-
  RotF: RotCrash, RotCrashM, RotCrLoop.
-/
import Derived.Test.YtdadcengelfmhaaDevOpen
import Derived.Test.YtdadcengelfmhaaRotNew
import Derived.Test.YtdadcengelfmhaaSlt5
/-
  Arguments opened: a crash (a fuse, what is kept), by value.
-/
namespace Go.Proofs.Ytdadcengelfmhaa.Rot
open Go.RowKit Go.ChangeShapes Go.WideShapes Go.Deep
open Go.Proofs.Ytdadcengelfmhaa.Dev (Keeps)
set_option maxRecDepth 100000

theorem cellsCrashing : Try.prog.cellsOf 29 = 2 := by kernel_rfl
theorem cellsKeeps : Try.prog.cellsOf 27 = 1 := by kernel_rfl
theorem cellsU8 : Try.prog.cellsOf 5 = 1 := by kernel_rfl

section
variable {H : Type} {enc : TypeId × Value → H} {W : World} {base : Nat} {sp : Nat → Bool} {held : Bool}
/-- a crash, by value -/
theorem open_crashing {b0 : Nat} {v : Value} {d : DataW H} {ps : List MemPlace} (hval : Value.okWide Try.prog W .any b0 29 v) (h : DataW.Trod enc Try.prog W base sp held 29 v d ps) :
    ∃ (f : Nat) (pa : Option Addr) (cap : Nat) (xs : List (Nat × Nat)), v = .agg #[.int .u8 (f : Int), .slice pa xs.length cap] ∧ f < 256 ∧ xs.length ≤ maxLen ∧ Keeps W pa xs ∧ (xs ≠ [] → ∀ a, pa = some a → a.block < W.heap.size) := by
  simp only [Value.okWide, Try.underlying29] at hval
  obtain ⟨cs, rfl, hsz, _⟩ := hval
  obtain ⟨fuel, hf⟩ := h
  have hcl : cs.toList.length = 2 := by
    rw [Array.length_toList, hsz]; exact cellsCrashing
  have hcs : (Value.agg cs).cells.toList = cs.toList := rfl
  rw [hcs] at hf
  obtain ⟨ys, n', _, _, _, hylen, hfs⟩ := DataW.trod_struct Try.underlying29 hf
  obtain ⟨v0, v1, hcons⟩ : ∃ v0 v1, cs.toList = [v0, v1] := by
    match cs.toList, hcl with
    | [v0, v1], _ => exact ⟨v0, v1, rfl⟩
  rw [hcons] at hfs
  have hyl : ys.length = 2 := hylen
  have t0 : DataW.trod enc Try.prog W base sp held n' 5 (([v0, v1].drop 0).take (Try.prog.cellsOf 5)) = ys[0]? := hfs 0 _ rfl
  rw [cellsU8, List.getElem?_eq_getElem (by omega)] at t0
  replace t0 : DataW.trod enc Try.prog W base sp held n' 5 [v0] = some (ys[0]'(by omega)) := t0
  have t1 : DataW.trod enc Try.prog W base sp held n' 27 (([v0, v1].drop 1).take (Try.prog.cellsOf 27)) = ys[1]? := hfs 1 _ rfl
  rw [cellsKeeps, List.getElem?_eq_getElem (by omega)] at t1
  replace t1 : DataW.trod enc Try.prog W base sp held n' 27 [v1] = some (ys[1]'(by omega)) := t1
  obtain ⟨z0, e0, _, w0⟩ := DataW.trod_int Try.underlying5 t0
  obtain ⟨pa, cap, xs, e1, hlen, hk, hold⟩ := Dev.open_keeps t1
  obtain ⟨f, rfl, hf'⟩ := Dev.nat_u8 w0
  simp only [List.cons.injEq, and_true] at e0
  subst e0 e1
  refine ⟨f, pa, cap, xs, ?_, hf', hlen, hk, hold⟩
  congr 1
  rw [← Array.toList_inj, hcons]
end

end Go.Proofs.Ytdadcengelfmhaa.Rot

/-
  The law RootCrashes: what its calls answer, by value; its short ways.
-/
namespace Go.Proofs.Ytdadcengelfmhaa.Rot
open Go.RowKit RowLaw Crc
set_option maxRecDepth 100000
open Go.Proofs.Ytdadcengelfmhaa.Fld (blockO)
open Go.Proofs.Ytdadcengelfmhaa.Slt (Rt cells rootO rtB rtB_length infoR sizeR cells_one IsRt eqB eqB_iff run_eqRoot noGuardR mayB)
open Go.Proofs.Ytdadcengelfmhaa.Dev (Dev DS ptr Many Live newS putCells readB writeS flushS crashS applyP New_more Keeps Turn)

def xV (f : Nat) (pk : Option Addr) (m c : Nat) : Array Value := #[.int .u8 (f : Int), .slice pk m c]
def xO (f : Nat) (pk : Option Addr) (m c : Nat) : Obj := .cells (xV f pk m c) 29 (0, 0)
theorem Keeps.below {w W : World} {pk : Option Addr} {ks : List (Nat × Nat)} (h : Keeps w pk ks) (hb : Below w.heap.size w W) : Keeps W pk ks :=
  h.turn (B := []) (Turn.of_below hb) (fun _ _ _ hm => by cases hm)
theorem run_nilDev (p : Nat) (W : World) : (binOp .eql 30 (.pointer (some ⟨p, 0, none⟩)) (.pointer none)).run Try.prog W = .ok (.bool false) W := by kernel_rfl

section
variable {w : World} {r0 : Rt} {pa : Option Addr} {cap : Nat} {xs : List (Nat × List UInt8)} {f : Nat} {pk : Option Addr} {ck : Nat} {ks : List (Nat × Nat)}
/-- the block that a loop over the rows from k on wants -/
def wantF (G : Nat → List UInt8) (xs : List (Nat × List UInt8)) (c k j : Nat) : List UInt8 := applyP G (xs.take (max j (k + 1))) c
theorem want_start {G : Nat → List UInt8} {xs : List (Nat × List UInt8)} {k : Nat} (hk : k < xs.length) : wantF G xs xs[k].1 k k = xs[k].2 := by
  unfold wantF
  rw [show max k (k + 1) = k + 1 by omega, applyP_take G xs k hk, if_pos rfl]
theorem want_same {G : Nat → List UInt8} {xs : List (Nat × List UInt8)} {c k j : Nat} (hkj : k ≤ j) (hj : j < xs.length) (h : xs[j].1 = c) : wantF G xs c k (j + 1) = xs[j].2 := by
  unfold wantF
  rw [show max (j + 1) (k + 1) = j + 1 by omega, applyP_take G xs j hj, if_pos h]
theorem want_other {G : Nat → List UInt8} {xs : List (Nat × List UInt8)} {k j : Nat} (hk : k < xs.length) (hkj : k ≤ j) (hj : j < xs.length) (h : ¬ xs[j].1 = xs[k].1) : wantF G xs xs[k].1 k (j + 1) = wantF G xs xs[k].1 k j := by
  have hne : ¬ j = k := fun e => by subst e; exact h rfl
  unfold wantF
  rw [show max (j + 1) (k + 1) = j + 1 by omega, show max j (k + 1) = j by omega, applyP_take G xs j hj, if_neg h]
theorem want_end {G : Nat → List UInt8} {xs : List (Nat × List UInt8)} {c k : Nat} (hk : k < xs.length) : wantF G xs c k xs.length = applyP G xs c := by
  unfold wantF
  rw [show max xs.length (k + 1) = xs.length by omega, List.take_length]
theorem want_len {G : Nat → List UInt8} {xs : List (Nat × List UInt8)} (hG : ∀ a, (G a).length = 256) (hx : ∀ x ∈ xs, x.2.length = 256) (c k j : Nat) : (wantF G xs c k j).length = 256 :=
  applyP_len _ _ hG (fun x h => hx x (List.mem_of_mem_take h)) c

/-- what the law's calls answer, once the commit may be -/
theorem crash_math {k : Nat} {r : Rt} {xs : List (Nat × List UInt8)} (hr : r.Fits) (hg : r.gen = 2) (hl : ∀ x ∈ xs, x.2.length = 256) (ok : commitOk 64 xs r = true) (z : Int) (hz : 0 ≤ z) (ks : List (Nat × Nat)) :
    ∃ s1 g s3 now, commitF { s64 k with left := z } xs r = (s1, g) ∧ mountS (crashS s1 ks) = some now ∧ (now = fresh 64 ∨ now = r) ∧ (g = 0 → now = r) ∧ commitF (crashS s1 ks) xs r = (s3, 0) ∧ mountS s3 = some r ∧ s3.pend = [] ∧ s3.n = 64 ∧ (crashS s1 ks).n = 64 ∧
      (∃ G, (∀ a, (G a).length = 256) ∧ ∀ c, 2 ≤ c → readB s3 c = applyP G xs c) := by
  obtain ⟨h1, h2, h3, h4, h5, _⟩ := crashes64 (k := k) hr hg hl ok z hz ks
  have hcr := commit_crash (s := { s64 k with left := z }) (l := xs) (r := r) rfl rfl (by show -1 ≤ z; omega) (calm64 k).len hl (by show 2 ≤ 64; omega) ok ks
  have hn := hcr.n
  have hcalm := hcr.calm
  have hn' : (crashS (commitF { s64 k with left := z } xs r).1 ks).n = 64 := hn
  have ok2 : commitOk (crashS (commitF { s64 k with left := z } xs r).1 ks).n xs r = true := by rw [hn']; exact ok
  obtain ⟨j, e⟩ := commit_calm hcalm ok2 (by rw [hn']; omega)
  have hread := fun c hc => read_commit hcalm ok2 (by rw [hn']; omega) c hc
  refine ⟨(commitF { s64 k with left := z } xs r).1, (commitF { s64 k with left := z } xs r).2, (commitF (crashS (commitF { s64 k with left := z } xs r).1 ks) xs r).1, ?_⟩
  have hsplit : ∀ (q : DS × Int), q.2 = 0 → q = (q.1, 0) := fun q h => by rw [← h]
  have hex : ∃ now, mountS (crashS (commitF { s64 k with left := z } xs r).1 ks) = some now ∧ (now = fresh 64 ∨ now = r) := by
    rcases h1 with h1 | h1
    · exact ⟨_, h1, .inl rfl⟩
    · exact ⟨_, h1, .inr rfl⟩
  obtain ⟨now, hm, hnow⟩ := hex
  refine ⟨now, rfl, hm, hnow, fun h0 => ?_, hsplit _ h3, h4, h5, ?_, hn', (crashS (commitF { s64 k with left := z } xs r).1 ks).g, hcalm.len, hread⟩
  · have := h2 h0
    rw [hm] at this
    exact Option.some.inj this
  · rw [e]; exact hn'
end

end Go.Proofs.Ytdadcengelfmhaa.Rot

/-
  The loops of the law RootCrashes: the block that is wanted; what is read.
-/
namespace Go.Proofs.Ytdadcengelfmhaa.Rot
open Go.RowKit RowLaw Crc
set_option maxRecDepth 100000
open Go.Proofs.Ytdadcengelfmhaa.Fld (blockO)
open Go.Proofs.Ytdadcengelfmhaa.Slt (Rt cells rootO)
open Go.Proofs.Ytdadcengelfmhaa.Dev (Dev DS ptr Many putCells readB applyP)

def loopsOf : Code → List Code
  | .loop c => [c]
  | .seq a b => loopsOf a ++ loopsOf b
  | .block _ c => loopsOf c
  | .scope c => loopsOf c
  | .cond _ a b => loopsOf a ++ loopsOf b
  | _ => []
end Go.Proofs.Ytdadcengelfmhaa.Rot

