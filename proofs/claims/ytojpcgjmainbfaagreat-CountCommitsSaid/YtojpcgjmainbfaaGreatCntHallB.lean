/-
  Commits, copies and counts of devices among devices and tables that a law has made.
-/
import Derived.Test.YtojpcgjmainbfaaGreatCntF
namespace Go.Proofs.YtojpcgjmainbfaaGreat.Cnt
open Go.RowKit Go.Maps Go.MapKept RowLaw Crc
open Go.Proofs.YtojpcgjmainbfaaGreat.Dev (Dev DS ptr Turn Step readB)
open Go.Proofs.YtojpcgjmainbfaaGreat.Rot (planOk tlN pkN fsN formatF commitF Puts Apart Here)
open Go.Proofs.YtojpcgjmainbfaaGreat.Slt (Rt cells)
set_option maxRecDepth 100000
section
variable {w W W' : World} {l : List Thing} {K : List (Nat × Obj)} {i j p t : Nat} {s s' : DS} {T : TD}
theorem Hall.commit (h : Hall w l K W) (hi : l[i]? = some (.dev p s)) (hpl : planOk s.n = true) {pa : Option Addr} {n c : Nat} {xs : List (Nat × List UInt8)} {r : Rt} (hn : n = xs.length) (hpu : Puts W pa xs) (hh : Here w K pa xs) (hf : r.Fits) (hlen : s.pend.length + xs.length < 4294967290) {z : Int} (hc : commitF s xs r = (s', z)) :
    Calls Tryz.prog 17 #[ptr p, .slice pa n c, .agg (cells r)] W fun e W' => e = .returned (.int .i64 z) ∧ Hall w (l.set i (.dev p s')) K W' := by
  subst hn
  exact h.act hi fun C hd hK hw => by
    have hap : Apart pa xs C := fun hne a ha hm => by
      rcases hh hne a ha with h1 | ⟨o, h1⟩
      · have := hw _ hm; omega
      · exact hK _ h1 hm
    have := Rot.Commit_any (c := c) (show Dev W p C s from hd) hpl hpu hap hf hlen
    rw [hc] at this
    exact this
theorem Hall.copy (h : Hall w l K W) (hi : l[i]? = some (.dev p s)) (hlen : s.pend.length < 4294967296) :
    Calls Tryz.prog 16 #[ptr p] W fun e W' => ∃ q, e = .returned (ptr q) ∧ Hall w (l ++ [.dev q s]) K W' := by
  have h' := h
  obtain ⟨_, g, h2, _⟩ := h
  exact (Dev.Copy_any (show Dev W p (g i) s from (h2 i _ hi).1) hlen).mono fun e W' hh => by
    obtain ⟨q, C, he, hd, hC, hb⟩ := hh
    exact ⟨q, he, h'.push hb (show Thing.Lies W' C (.dev q s) from hd) hC⟩
/-- no page of the table's root is put: it reads as it did -/
theorem Reads.later {T : TD} (h : Reads s T) (hn : s'.n = s.n) (hp : s'.pend.length < 4294967296) (h1 : ∀ k, k < pkN T.n → readB s' (pkAt T k) = readB s (pkAt T k)) (h2 : ∀ q, q < tlN T.n → readB s' (tlAt T q) = readB s (tlAt T q)) : Reads s' T :=
  ⟨hn.trans h.n, hp, fun k hk => by rw [h1 k hk]; exact h.pick k hk, fun q hq => by rw [h2 q hq]; exact h.tally q hq⟩
end
end Go.Proofs.YtojpcgjmainbfaaGreat.Cnt
