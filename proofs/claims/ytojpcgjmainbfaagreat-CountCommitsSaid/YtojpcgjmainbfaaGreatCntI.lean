/-
  CntI: CntCmM, CntCm1, CntCm2, CntCm3.
-/
import Derived.Test.YtojpcgjmainbfaaGreatCntG
import Derived.Test.YtojpcgjmainbfaaGreatCntHallB
import Derived.Test.YtojpcgjmainbfaaGreatCntApart
import Derived.BigQuiet
import Derived.BigCall
import Derived.BigGuard
/-
  The mathematics of CountCommits: a commit of what was sealed, and the tables of the new root, of the old one, and of a copy.
-/
namespace Go.Proofs.YtojpcgjmainbfaaGreat.Cnt
open Go.RowKit Go.Maps Go.MapKept RowLaw Crc
open Go.Proofs.YtojpcgjmainbfaaGreat.Dev (Dev DS readB applyP)
open Go.Proofs.YtojpcgjmainbfaaGreat.Tal (kT kP fT fP getE getNs getI zs zs_length putB putB_length)
open Go.Proofs.YtojpcgjmainbfaaGreat.Rot (planOk tlN pkN fsN plan_facts commitF commitOk)
open Go.Proofs.YtojpcgjmainbfaaGreat.Slt (Rt rtB rtB_length)
set_option maxRecDepth 100000

/-- the roots of the law's commits -/
def rg (g n pk : Nat) : Rt := ⟨g, n, pk, 0, n - fsN n, 1, fsN n, 0⟩
theorem rg_good {g n pk : Nat} (hg : 1 ≤ g ∧ g ≤ 1000) (hpk : pk < 2) (h1 : 64 ≤ n) (h2 : n ≤ 5000) : Rot.Good (rg g n pk) n := by
  obtain ⟨_, f2, _⟩ := plan_facts h1 (show n ≤ 1048576 by omega)
  refine ⟨⟨by show g < _; omega, by show n < _; omega, by show pk < _; omega, by show (0 : Nat) < _; omega, by show n - fsN n < _; omega, by show (1 : Nat) < _; omega, by show fsN n < _; omega, by show (0 : Nat) < _; omega⟩, ?_⟩
  unfold Rot.mayR
  have hm : Slt.mayB (rg g n pk) = true := by
    rw [Slt.mayB_iff]
    unfold Slt.May rg
    simp only
    exact ⟨hg.1, h1, by omega, by omega, by omega, f2, by omega, Nat.le_refl _, by omega, by simp⟩
  rw [hm]
  have e1 : (rg g n pk).size = n := rfl
  have e2 : (rg g n pk).picks / 2 ^ pkN n = 0 := by
    show pk / 2 ^ pkN n = 0
    rw [(pkN_one h1 (by omega)).1]
    exact Nat.div_eq_of_lt (by omega)
  have e3 : fsN n ≤ (rg g n pk).hint := Nat.le_refl _
  have e4 : (rg g n pk).free ≤ n - fsN n := Nat.le_refl _
  rw [decide_eq_true e1, decide_eq_true e2, decide_eq_true e3, decide_eq_true e4]
  rfl
section
variable {s s' : DS} {ch : Nat} {T : TD} {ks : List Nat}
theorem seal_lens' {T : TD} (h : TOk T) (ks : List Nat) : ∀ x ∈ sealL T ks, x.2.length = 256 := fun x hx => by
  unfold sealL at hx
  rcases List.mem_append.1 hx with hx | hx
  · obtain ⟨p, _, rfl⟩ := List.mem_map.1 hx
    exact tlPut_len h p
  · split at hx
    · cases hx
    · rw [List.mem_singleton] at hx
      rw [hx]
      exact pkPut_len h _
/-- no page is put where a root stands, or behind the pages -/
theorem seal_rng (hok : TOk T) (h5k : T.n ≤ 5000) (hmem : ∀ a, a ∈ ks ↔ (T.C a).isSome = true) : ∀ x ∈ sealL T ks, 2 ≤ x.1 ∧ x.1 < fsN T.n := fun x hx => by
  obtain ⟨h1, h2⟩ := plan_of hok.plan
  have hpf := plan_facts h1 h2
  obtain ⟨hp1, ht1⟩ := pkN_one h1 (show T.n ≤ 65536 by omega)
  unfold sealL at hx
  rcases List.mem_append.1 hx with hx | hx
  · obtain ⟨p, hp, rfl⟩ := List.mem_map.1 hx
    obtain ⟨ns, hns⟩ := Option.isSome_iff_exists.1 ((hmem p).1 (List.mem_filter.1 hp).1)
    have hpl := hok.ck p ns hns
    have hb := bitAt_lt (T.PV 0) p
    have e : (tlPut T p).1 = 2 * (2 + p) + (1 - bitAt (T.PV 0) p) := by
      show other (tlAt T p) = _
      rw [tlAt_one hp1 (by omega), other_two _ _ hb]
    omega
  · split at hx
    · cases hx
    · rw [List.mem_singleton] at hx
      have e : x.1 = 2 * 1 + (1 - T.ch % 2) := by
        rw [hx]
        show other (pkAt T 0) = _
        rw [pkAt_one, other_two _ _ (Nat.mod_lt _ (by omega))]
      omega
theorem seal_ch (hch : T.ch < 2) : sealCh T ks < 2 := by
  unfold sealCh
  have := other_two 0 T.ch hch
  rw [show 2 * 0 + T.ch = T.ch by omega] at this
  split <;> omega
/-- a table on a device, opened and with counts set -/
structure Live (s : DS) (ch m p : Nat) (T : TD) : Prop where
  of_ : Of s ch T
  ok : TOk T
  reads : Reads s T
  n : T.n = m
  d : T.d = p
theorem Live.setS {n p : Nat} (h : Live s ch n p T) (a : Nat) {v : Nat} (hv : v < 65536) : Live s ch n p (Cnt.setS T a v) := by
  obtain ⟨h1, h2, _⟩ := setS_same T a v
  exact ⟨h.of_.setS a v, setS_ok h.ok hv, h.reads.setS a v, h1.trans h.n, h2.trans h.d⟩
theorem Live.open_ {n p : Nat} (h : Sound s ch) (hn : s.n = n) : Live s ch n p (tdOf p s ch) := ⟨⟨rfl, rfl, rfl, rfl⟩, tdOf_ok h.plan h.chl, h.reads p, hn, rfl⟩
theorem Live.keys {n p : Nat} (h : Live s ch n p T) (hn : n ≤ 5000) : ∀ ss : List Nat, ss.Nodup → (∀ a, a ∈ ss ↔ (T.C a).isSome = true) → ss.length ≤ 255 := fun ss h1 h2 =>
  Nat.le_trans (nodup_len (tlN T.n) ss h1 (fun x hx => by
    obtain ⟨ns, hns⟩ := Option.isSome_iff_exists.1 ((h2 x).1 hx)
    exact h.ok.ck x ns hns)) (by have := h.n; unfold tlN; omega)
/-- what the commit comes to -/
structure Nxt (s s' : DS) (ch ch' n : Nat) (T : TD) : Prop where
  calm : Rot.Calm s'
  size_ : s'.n = n
  snew : Sound s' ch'
  sold : Sound s' ch
  reads : Reads s' T
  new_ : ∀ p a, a < n → (tdOf p s' ch').oldC a = T.nowC a
  old : ∀ p q a, a < n → (tdOf p s' ch).oldC a = (tdOf q s ch).oldC a
theorem next_of {n p g : Nat} (hc : Rot.Calm s) (h64 : 64 ≤ n) (h5k : n ≤ 5000) (hS : Sound s ch) (hL : Live s ch n p T) (hsn : s.n = n) (hch : ch < 2) (hg : 1 ≤ g ∧ g ≤ 900) (hks : ks.Pairwise (· < ·)) (hmem : ∀ a, a ∈ ks ↔ (T.C a).isSome = true) :
    ∃ s', commitF s (sealL T ks) (rg (g + 1) n (sealCh T ks)) = (s', 0) ∧ sealCh T ks < 2 ∧ Nxt s s' ch (sealCh T ks) n T := by
  have hch2 : sealCh T ks < 2 := seal_ch (by rw [hL.of_.chE]; exact hch)
  have hgood := rg_good (g := g + 1) (n := n) (pk := sealCh T ks) (by omega) hch2 h64 h5k
  have hrng := seal_rng hL.ok (by rw [hL.n]; exact h5k) hmem
  have hpf := plan_facts h64 (show n ≤ 1048576 by omega)
  have hlen := seal_lens' hL.ok ks
  have ok : commitOk s.n (sealL T ks) (rg (g + 1) n (sealCh T ks)) = true := by
    unfold commitOk
    rw [hsn, hgood.may, Bool.true_and, List.all_eq_true]
    intro x hx
    have h1 := hrng x hx
    rw [hL.n] at h1
    rw [decide_eq_true h1.1, decide_eq_true (show x.1 < n by omega)]
    rfl
  obtain ⟨k, e⟩ := Rot.commit_calm hc ok (by omega)
  have hcalm := Rot.calm_upd hc hlen ((rg (g + 1) n (sealCh T ks)).gen % 2) (rtB (rg (g + 1) n (sealCh T ks))) (rtB_length _) k
  have hn' : ({ s with g := Dev.upd (applyP s.g (sealL T ks)) ((rg (g + 1) n (sealCh T ks)).gen % 2) (rtB (rg (g + 1) n (sealCh T ks))), writes := k } : DS).n = s.n := rfl
  have hga : ∀ a, 2 ≤ a → ({ s with g := Dev.upd (applyP s.g (sealL T ks)) ((rg (g + 1) n (sealCh T ks)).gen % 2) (rtB (rg (g + 1) n (sealCh T ks))), writes := k } : DS).g a = applyP s.g (sealL T ks) a := fun a ha => by
    show Dev.upd (applyP s.g (sealL T ks)) ((rg (g + 1) n (sealCh T ks)).gen % 2) (rtB (rg (g + 1) n (sealCh T ks))) a = _
    unfold Dev.upd
    rw [if_neg]
    have : (rg (g + 1) n (sealCh T ks)).gen % 2 < 2 := Nat.mod_lt _ (by omega)
    omega
  refine ⟨_, e, hch2, ?_⟩
  generalize ({ s with g := Dev.upd (applyP s.g (sealL T ks)) ((rg (g + 1) n (sealCh T ks)).gen % 2) (rtB (rg (g + 1) n (sealCh T ks))), writes := k } : DS) = s' at hcalm hn' hga
  obtain ⟨t1, t2, t3, t4⟩ := seal_commit hL.of_ hL.ok hS (by omega) hks hmem hn' hcalm.pend hc.pend hga
  have hp1 : pkN n = 1 := (pkN_one h64 (by omega)).1
  have hPVT : ∀ d, (tdOf d s ch).PV = T.PV := fun d => hL.of_.PV.symm
  have hpk : pkAt T 0 = pkAt (tdOf 0 s ch) 0 := by rw [pkAt_one, pkAt_one, hL.of_.chE]; rfl
  have hpk' : ∀ d, pkAt (tdOf d s' ch) 0 = pkAt (tdOf 0 s ch) 0 := fun d => by rw [pkAt_one, pkAt_one]; rfl
  have hPV0 : ∀ d, (tdOf d s' ch).PV 0 = T.PV 0 := fun d => by
    have h1 : (tdOf d s' ch).PV 0 = getNs kP (readB s' (pkAt (tdOf d s' ch) 0)) 0 := rfl
    have h2 : (tdOf T.d s ch).PV 0 = getNs kP (readB s (pkAt (tdOf T.d s ch) 0)) 0 := rfl
    have h3 : pkAt (tdOf T.d s ch) 0 = pkAt (tdOf 0 s ch) 0 := by rw [pkAt_one, pkAt_one]; rfl
    rw [h1, hpk', ← hpk, t2, hL.of_.PV, h2, h3, hpk]
  have hta : ∀ d q, q < tlN n → tlAt (tdOf d s' ch) q = tlAt T q := fun d q hq => by
    have hq' : q < 1024 := by unfold tlN at hq; omega
    rw [tlAt_one (T := tdOf d s' ch) (by show pkN s'.n = 1; rw [hn', hsn]; exact hp1) hq', tlAt_one (T := T) (by rw [hL.n]; exact hp1) hq', hPV0]
  have hta0 : ∀ d q, q < tlN n → tlAt (tdOf d s ch) q = tlAt T q := fun d q hq => by
    have hq' : q < 1024 := by unfold tlN at hq; omega
    rw [tlAt_one (T := tdOf d s ch) (by show pkN s.n = 1; rw [hsn]; exact hp1) hq', tlAt_one (T := T) (by rw [hL.n]; exact hp1) hq', hPVT]
  have hTV : ∀ d e q, q < tlN n → (tdOf d s' ch).TV q = (tdOf e s ch).TV q := fun d e q hq => by
    show getNs kT (readB s' (tlAt (tdOf d s' ch) q)) q = getNs kT (readB s (tlAt (tdOf e s ch) q)) q
    rw [hta d q hq, hta0 e q hq, t1 q (by rw [hsn]; exact hq)]
  have hall : ∀ (f h : Nat → List Nat) a, a < n → (∀ q, q < tlN n → f q = h q) → cntV f n a = cntV h n a := fun f h a ha he => by
    unfold cntV
    rw [he (a / 64) (by unfold tlN; omega)]
  refine ⟨hcalm, hn'.trans hsn, t3, ⟨?_, hS.chl, by rw [hcalm.pend]; decide, fun k hk => ?_, fun q hq => ?_⟩, hL.reads.later hn' (by rw [hcalm.pend]; decide) (fun k hk => ?_) (fun q hq => t1 q (by rw [hL.n] at hq; rw [hsn]; exact hq)), fun p a ha => ?_, fun p q a ha => ?_⟩
  · rw [hn']; exact hS.plan
  · rw [hn', hsn, hp1] at hk
    obtain rfl : k = 0 := by omega
    rw [hpk', ← hpk, t2, hpk]
    exact hS.pick 0 (by rw [hsn, hp1]; omega)
  · rw [hn', hsn] at hq
    rw [hta 0 q hq, t1 q (by rw [hsn]; exact hq), ← hta0 0 q hq]
    exact hS.tally q (by rw [hsn]; exact hq)
  · rw [hL.n, hp1] at hk
    obtain rfl : k = 0 := by omega
    exact t2
  · show cntV (tdOf p s' (sealCh T ks)).TV s'.n a = cntV T.now T.n a
    rw [hn', hsn, hL.n]
    exact hall _ _ a ha (fun q hq => t4 p q (by rw [hsn]; exact hq))
  · show cntV (tdOf p s' ch).TV s'.n a = cntV (tdOf q s ch).TV s.n a
    rw [hn', hsn]
    exact hall _ _ a ha (fun i hi => hTV p q i hi)
end
end Go.Proofs.YtojpcgjmainbfaaGreat.Cnt

/-
  CountCommits' loop of sets.
-/
namespace Go.Proofs.YtojpcgjmainbfaaGreat.Cnt
open Go.RowKit Go.Maps Go.MapKept RowLaw Crc
open Go.Proofs.YtojpcgjmainbfaaGreat.Dev (Dev DS ptr)
open Go.Proofs.YtojpcgjmainbfaaGreat.Rot (planOk tlN pkN fsN)
set_option maxRecDepth 100000
noncomputable def bodyC0 : Code := ((Tryz.f3.body.bind fun c => (loopsOf c)[0]?).getD .skip)
noncomputable def bodyC1 : Code := ((loopsOf bodyC0)[0]?).getD .skip
noncomputable def bodyC2 : Code := ((loopsOf bodyC0)[1]?).getD .skip
set_option linter.unusedVariables false in
set_option linter.unusedSimpArgs false in
set_option maxHeartbeats 12800000 in
theorem commits_sets {w : World} {p t n m cap i ch fs : Nat} {s : DS} {xs : List St} {pa : Option Addr} {KL : List (Nat × Obj)} (hm : m = xs.length) (hx : Sts w pa xs) (hn : 64 ≤ n ∧ n ≤ 5000) (hi : i < m ∧ i < 60) (hfs : fs = fsN n)
    {Q0 : Exit → Act → World → Prop} {c2 c3 c4 c5 c6 c7 c8 c11 c13 c14 c15 c16 c17 c18 c19 c20 c21 c22 c23 c24 c25 c26 c27 c28 c29 c30 c31 c32 c33 c34 c35 c36 c37 c38 c39 c40 c41 c42 c43 c44 c45 c46 c47 c48 c49 c50 c51 c52 c53 c54 c55 c56 c57 c58 c59 c60 c61 c62 c63 c64 c65 c66 c67 c68 c69 c70 c71 c72 c73 c74 c75 c76 c77 c78 c79 c80 c81 c82 c83 c84 c85 c86 c87 c88 c89 c90 c91 c92 c93 c94 c95 c96 c97 c98 c99 c100 c101 c102 c103 c104 c105 c106 c107 c108 c109 c110 c111 c112 c113 c114 c115 c116 c117 c118 c119 c120 c121 c122 c123 c124 c125 c126 c127 c128 c129 c130 c131 c132 c133 c134 c135 c136 c137 c138 c139 c140 c141 c142 c143 c144 c145 c146 c147 c148 c149 c150 c151 c152 c153 c154 c155 c156 c157 c158 c159 c160 c161 c162 c163 c164 c165 c166 c167 c168 c169 c170 c171 c172 c173 c174 c175 c176 c177 c178 c179 c180 c181 c182 c183 c184 c185 c186 c187 c188 c189 c190 c191 c192 c193 c194 c195 c196 c197 c198 c199 c200 c201 c202 c203 c204 c205 c206 c207 c208 c209 c210 c211 c212 c213 c214 c215 c216 c217 c218 c219 c220 c221 c222 c223 c224 c225 c226 c227 c228 c229 c230 c231 c232 c233 c234 c235 c236 c237 c238 c239 c240 c241 c242 c243 c244 c245 c246 c247 : Value} {W0 : World} {T0 : TD} (h0 : Hall w [.dev p s, .tab t T0] KL W0) (hL : Live s ch n p T0)
    (hexit : ∀ (u4 u13 u75 u76 u77 u78 u79 u80 u81 u82 u83 u84 u85 u86 u87 u88 u89 u90 u91 u92 u93 u94 u95 u96 u97 u98 u99 u100 u101 u102 u103 u104 u105 u106 u107 u108 u109 u110 u111 u112 u113 u114 u115 u116 u117 u118 u119 u120 u121 u122 u123 u124 u125 u126 u127 u128 u129 : Value) (W : World) (T : TD) (k1 : Nat), Hall w [.dev p s, .tab t T] KL W → Live s ch n p T → i < k1 → k1 ≤ m → k1 ≤ 60 → Q0 (.exit 2) ⟨List.toArray (.int .u32 (n : Int) :: .slice pa m cap :: c2 :: c3 :: u4 :: c5 :: c6 :: c7 :: c8 :: .int .i64 (i : Int) :: .pointer (some ⟨t, 0, none⟩) :: c11 :: .int .i64 (k1 : Int) :: u13 :: c14 :: c15 :: c16 :: c17 :: c18 :: c19 :: c20 :: c21 :: c22 :: c23 :: c24 :: c25 :: c26 :: c27 :: c28 :: c29 :: c30 :: c31 :: c32 :: c33 :: c34 :: c35 :: c36 :: c37 :: c38 :: c39 :: c40 :: c41 :: c42 :: c43 :: c44 :: c45 :: c46 :: c47 :: c48 :: c49 :: c50 :: c51 :: c52 :: c53 :: c54 :: c55 :: c56 :: c57 :: c58 :: c59 :: c60 :: c61 :: c62 :: c63 :: c64 :: c65 :: c66 :: c67 :: c68 :: c69 :: c70 :: c71 :: c72 :: c73 :: c74 :: u75 :: u76 :: u77 :: u78 :: u79 :: u80 :: u81 :: u82 :: u83 :: u84 :: u85 :: u86 :: u87 :: u88 :: u89 :: u90 :: u91 :: u92 :: u93 :: u94 :: u95 :: u96 :: u97 :: u98 :: u99 :: u100 :: u101 :: u102 :: u103 :: u104 :: u105 :: u106 :: u107 :: u108 :: u109 :: u110 :: u111 :: u112 :: u113 :: u114 :: u115 :: u116 :: u117 :: u118 :: u119 :: u120 :: u121 :: u122 :: u123 :: u124 :: u125 :: u126 :: u127 :: u128 :: u129 :: c130 :: c131 :: c132 :: c133 :: c134 :: c135 :: c136 :: c137 :: c138 :: c139 :: c140 :: c141 :: c142 :: c143 :: c144 :: c145 :: c146 :: c147 :: c148 :: c149 :: c150 :: c151 :: c152 :: c153 :: c154 :: c155 :: c156 :: c157 :: c158 :: c159 :: c160 :: c161 :: c162 :: c163 :: c164 :: c165 :: c166 :: c167 :: c168 :: c169 :: c170 :: c171 :: c172 :: c173 :: c174 :: c175 :: c176 :: c177 :: c178 :: c179 :: c180 :: c181 :: c182 :: c183 :: c184 :: c185 :: c186 :: c187 :: c188 :: c189 :: c190 :: c191 :: c192 :: c193 :: c194 :: c195 :: c196 :: c197 :: c198 :: c199 :: c200 :: c201 :: c202 :: c203 :: c204 :: c205 :: c206 :: c207 :: c208 :: c209 :: c210 :: c211 :: c212 :: c213 :: c214 :: c215 :: c216 :: c217 :: c218 :: c219 :: c220 :: c221 :: c222 :: c223 :: c224 :: c225 :: c226 :: c227 :: c228 :: c229 :: c230 :: c231 :: c232 :: c233 :: c234 :: c235 :: c236 :: c237 :: c238 :: c239 :: c240 :: c241 :: c242 :: c243 :: c244 :: c245 :: c246 :: c247 :: []), []⟩ W) :
    Code.wp Tryz.prog (.loop bodyC1) Q0 ⟨List.toArray (.int .u32 (n : Int) :: .slice pa m cap :: c2 :: c3 :: c4 :: c5 :: c6 :: c7 :: c8 :: .int .i64 (i : Int) :: .pointer (some ⟨t, 0, none⟩) :: c11 :: .int .i64 (i : Int) :: c13 :: c14 :: c15 :: c16 :: c17 :: c18 :: c19 :: c20 :: c21 :: c22 :: c23 :: c24 :: c25 :: c26 :: c27 :: c28 :: c29 :: c30 :: c31 :: c32 :: c33 :: c34 :: c35 :: c36 :: c37 :: c38 :: c39 :: c40 :: c41 :: c42 :: c43 :: c44 :: c45 :: c46 :: c47 :: c48 :: c49 :: c50 :: c51 :: c52 :: c53 :: c54 :: c55 :: c56 :: c57 :: c58 :: c59 :: c60 :: c61 :: c62 :: c63 :: c64 :: c65 :: c66 :: c67 :: c68 :: c69 :: c70 :: c71 :: c72 :: c73 :: c74 :: c75 :: c76 :: c77 :: c78 :: c79 :: c80 :: c81 :: c82 :: c83 :: c84 :: c85 :: c86 :: c87 :: c88 :: c89 :: c90 :: c91 :: c92 :: c93 :: c94 :: c95 :: c96 :: c97 :: c98 :: c99 :: c100 :: c101 :: c102 :: c103 :: c104 :: c105 :: c106 :: c107 :: c108 :: c109 :: c110 :: c111 :: c112 :: c113 :: c114 :: c115 :: c116 :: c117 :: c118 :: c119 :: c120 :: c121 :: c122 :: c123 :: c124 :: c125 :: c126 :: c127 :: c128 :: c129 :: c130 :: c131 :: c132 :: c133 :: c134 :: c135 :: c136 :: c137 :: c138 :: c139 :: c140 :: c141 :: c142 :: c143 :: c144 :: c145 :: c146 :: c147 :: c148 :: c149 :: c150 :: c151 :: c152 :: c153 :: c154 :: c155 :: c156 :: c157 :: c158 :: c159 :: c160 :: c161 :: c162 :: c163 :: c164 :: c165 :: c166 :: c167 :: c168 :: c169 :: c170 :: c171 :: c172 :: c173 :: c174 :: c175 :: c176 :: c177 :: c178 :: c179 :: c180 :: c181 :: c182 :: c183 :: c184 :: c185 :: c186 :: c187 :: c188 :: c189 :: c190 :: c191 :: c192 :: c193 :: c194 :: c195 :: c196 :: c197 :: c198 :: c199 :: c200 :: c201 :: c202 :: c203 :: c204 :: c205 :: c206 :: c207 :: c208 :: c209 :: c210 :: c211 :: c212 :: c213 :: c214 :: c215 :: c216 :: c217 :: c218 :: c219 :: c220 :: c221 :: c222 :: c223 :: c224 :: c225 :: c226 :: c227 :: c228 :: c229 :: c230 :: c231 :: c232 :: c233 :: c234 :: c235 :: c236 :: c237 :: c238 :: c239 :: c240 :: c241 :: c242 :: c243 :: c244 :: c245 :: c246 :: c247 :: []), []⟩ W0 := by
  have HEX := Lib.hid hexit; clear hexit
  have HX := Lib.hid hx; clear hx
  have HM0 := Lib.hid (And.intro h0 hL); clear h0 hL
  have HLEN := Lib.hid hm; clear hm
  have HFS := Lib.hid hfs; clear hfs
  obtain ⟨hi1, hi2⟩ := hi
  conv => arg 2; arg 1; whnf
  go_loopw [12] (fun v12 W => ∃ (k : Nat) (T : TD), v12 = .int .i64 (k : Int) ∧ (i ≤ k ∧ k ≤ m ∧ k ≤ 60) ∧ Hid (Hall w [.dev p s, .tab t T] KL W ∧ Live s ch n p T)) (fun v12 _ => 60 - (intOf v12).toNat)
  case atStart => exact ⟨i, T0, rfl, by omega, HM0⟩
  case round =>
    clear HM0
    obtain ⟨k, T, rfl, hk, hh⟩ := hrel
    obtain ⟨hk0, hk1, hk2⟩ := hk
    by_cases hkm : k < m
    · by_cases hk60 : k < 60
      · have hkl : k < xs.length := by have := HLEN.out; omega
        obtain ⟨b, off, rfl, hfit, hcs⟩ := HX.out.cells hkl
        obtain ⟨a, ha⟩ : ∃ a, a = xs[k].a := ⟨_, rfl⟩
        obtain ⟨v, hv⟩ : ∃ v, v = xs[k].n := ⟨_, rfl⟩
        obtain ⟨sl, hsl⟩ : ∃ v, v = xs[k].s := ⟨_, rfl⟩
        obtain ⟨hf1, hf2, _⟩ := hfit
        rw [← ha] at hf1
        rw [← hv] at hf2
        have HC : Hid (∀ W, Below w.heap.size w W → W.cell? ⟨b, off + k * 260, none⟩ = some (.int .u32 (a : Int)) ∧ W.cell? ⟨b, off + k * 260 + 1, none⟩ = some (.int .u16 (v : Int))) := Lib.hid (fun W hW => by rw [ha, hv]; exact ⟨(hcs W hW).1, (hcs W hW).2.1⟩)
        have cs : wr.cell? ⟨b, off + k * 260 + 2, none⟩ = some (.bool sl) := by rw [hsl]; exact (hcs wr hh.out.1.bel).2.2
        clear hcs ha hv hsl
        have i0 : (k : Int) < (m : Int) := by omega
        have i1 : (k : Int) < 60 := by omega
        have i2 : (0 : Int) ≤ (k : Int) := by omega
        have z2 : IntKind.i64.wrap ((k : Int) + 1) = (k : Int) + 1 := IntWalk.i64_in _ (by omega)
        obtain ⟨bb, hbb⟩ : ∃ bb : Bool, bb = (decide (k = i) || !sl) := ⟨_, rfl⟩
        have HBB := Lib.hid hbb
        clear hbb
        go_upto_region 13 with fail
        go_cut [95] from 75 to 95 (fun v95 wx => v95 = .bool bb ∧ wx = wr)
        case first =>
          clear HC
          by_cases hki : k = i
          · subst hki
            have hbe : bb = true := by rw [HBB.out]; simp
            subst hbe
            go_wp2_with fail
            go_meet
            exact ⟨rfl, rfl⟩
          · have hkz : ¬ (k : Int) = (i : Int) := by omega
            have hkb : ((k : Int) == (i : Int)) = false := by rw [beq_eq_false_iff_ne]; exact hkz
            have hbe : bb = !sl := by rw [HBB.out]; simp [hki]
            subst hbe
            go_wp2_with fail
            go_meet
            exact ⟨rfl, rfl⟩
        case rest =>
          obtain ⟨rfl, hW⟩ := hcut
          subst hW
          clear cs
          cases hb2 : bb
          · have hki : k ≠ i := fun e => by have := HBB.out; rw [hb2, e] at this; simp at this
            subst hb2
            go_wp2_with fail
            exact HEX.out _ _ _ _ _ _ _ _ _ _ _ _ _ _ _ _ _ _ _ _ _ _ _ _ _ _ _ _ _ _ _ _ _ _ _ _ _ _ _ _ _ _ _ _ _ _ _ _ _ _ _ _ _ _ _ _ _ _ T k hh.out.1 hh.out.2 (by omega) (by omega) (by omega)
          · subst hb2
            clear HBB
            by_cases hr : fs ≤ a ∧ a < n
            · have HSET : Hid (∀ W, Hall w [.dev p s, .tab t T] KL W → Calls Tryz.prog 13 #[.pointer (some ⟨t, 0, none⟩), .int .u32 (a : Int), .int .u16 (v : Int)] W fun e W' => e = .returned (.int .i64 0) ∧ Hall w [.dev p s, .tab t (setS T a v)] KL W') := Lib.hid (fun W hW => by
                have h := Hall.set_ hW (i := 1) (j := 0) (T := T) (s := s) rfl (by rw [hh.out.2.d]; rfl) (by decide) hh.out.2.reads hf1 hf2
                have e : setE T.n a = 0 := by unfold setE; rw [hh.out.2.n, ← HFS.out, if_pos hr]
                rw [e] at h
                exact h)
              have HN := Lib.hid (hh.out.2.setS a hf2)
              have HM := Lib.hid hh.out.1
              clear hh
              go_upto_region 14 with fail
              refine wp_region_noPanic ?_
              refine wp_region_held_drew (S := fun W => W.cell? ⟨b, off + k * 260, none⟩ = some (.int .u32 (a : Int)) ∧ W.cell? ⟨b, off + k * 260 + 1, none⟩ = some (.int .u16 (v : Int))) (by kernel_rfl) (HC.out _ (HM.out.drew.bel)) ?_
              intro hS
              have HS := Lib.hid (HSET.out _ HM.out.drew)
              clear HSET HM
              generalize wc.drew = W1 at hS HS ⊢
              refine wpAnyH_take (i := 0) (v := .pointer (some ⟨t, 0, none⟩)) rfl (by kernel_rfl) (by kernel_rfl) (by kernel_rfl) (fun _ _ _ h => (h : False).elim) (Or.inl ⟨by rfl, fun _ _ => by go_simp⟩) hS ?_
              change wpAnyH _ _ _ _ _ _ _ (Act.put _ (some 96) _) _
              simp only [Act.put, List.setIfInBounds_toArray, List.set_cons_succ, List.set_cons_zero]
              refine wpAnyH_take (i := 1) (v := .slice (some ⟨b, off, none⟩) m cap) rfl (by kernel_rfl) (by kernel_rfl) (by kernel_rfl) (fun _ _ _ h => (h : False).elim) (Or.inl ⟨by rfl, fun _ _ => by go_simp⟩) hS ?_
              change wpAnyH _ _ _ _ _ _ _ (Act.put _ (some 97) _) _
              simp only [Act.put, List.setIfInBounds_toArray, List.set_cons_succ, List.set_cons_zero]
              refine wpAnyH_take (i := 2) (v := .int .i64 (k : Int)) rfl (by kernel_rfl) (by kernel_rfl) (by kernel_rfl) (fun _ _ _ h => (h : False).elim) (Or.inl ⟨by rfl, fun _ _ => by go_simp⟩) hS ?_
              change wpAnyH _ _ _ _ _ _ _ (Act.put _ (some 98) _) _
              simp only [Act.put, List.setIfInBounds_toArray, List.set_cons_succ, List.set_cons_zero]
              refine wpAnyH_take (i := 3) (v := .pointer (some ⟨b, off + k * 260, none⟩)) rfl (by kernel_rfl) (by kernel_rfl) (by kernel_rfl) (fun _ _ _ h => (h : False).elim) (Or.inl ⟨by rfl, fun _ _ => by go_simp⟩) hS ?_
              change wpAnyH _ _ _ _ _ _ _ (Act.put _ (some 99) _) _
              simp only [Act.put, List.setIfInBounds_toArray, List.set_cons_succ, List.set_cons_zero]
              refine wpAnyH_take (i := 4) (v := .pointer (some ⟨b, off + k * 260, none⟩)) rfl (by kernel_rfl) (by kernel_rfl) (by kernel_rfl) (fun _ _ _ h => (h : False).elim) (Or.inl ⟨by rfl, fun _ _ => by go_simp⟩) hS ?_
              change wpAnyH _ _ _ _ _ _ _ (Act.put _ (some 100) _) _
              simp only [Act.put, List.setIfInBounds_toArray, List.set_cons_succ, List.set_cons_zero]
              refine wpAnyH_take (i := 5) (v := .int .u32 (a : Int)) rfl (by kernel_rfl) (by kernel_rfl) (by kernel_rfl) (fun _ _ _ h => (h : False).elim) (Or.inl ⟨by rfl, fun w hw => by have c := hw.1; go_simp⟩) hS ?_
              change wpAnyH _ _ _ _ _ _ _ (Act.put _ (some 101) _) _
              simp only [Act.put, List.setIfInBounds_toArray, List.set_cons_succ, List.set_cons_zero]
              refine wpAnyH_take (i := 6) (v := .slice (some ⟨b, off, none⟩) m cap) rfl (by kernel_rfl) (by kernel_rfl) (by kernel_rfl) (fun _ _ _ h => (h : False).elim) (Or.inl ⟨by rfl, fun _ _ => by go_simp⟩) hS ?_
              change wpAnyH _ _ _ _ _ _ _ (Act.put _ (some 102) _) _
              simp only [Act.put, List.setIfInBounds_toArray, List.set_cons_succ, List.set_cons_zero]
              refine wpAnyH_take (i := 7) (v := .int .i64 (k : Int)) rfl (by kernel_rfl) (by kernel_rfl) (by kernel_rfl) (fun _ _ _ h => (h : False).elim) (Or.inl ⟨by rfl, fun _ _ => by go_simp⟩) hS ?_
              change wpAnyH _ _ _ _ _ _ _ (Act.put _ (some 103) _) _
              simp only [Act.put, List.setIfInBounds_toArray, List.set_cons_succ, List.set_cons_zero]
              refine wpAnyH_take (i := 8) (v := .pointer (some ⟨b, off + k * 260, none⟩)) rfl (by kernel_rfl) (by kernel_rfl) (by kernel_rfl) (fun _ _ _ h => (h : False).elim) (Or.inl ⟨by rfl, fun _ _ => by go_simp⟩) hS ?_
              change wpAnyH _ _ _ _ _ _ _ (Act.put _ (some 104) _) _
              simp only [Act.put, List.setIfInBounds_toArray, List.set_cons_succ, List.set_cons_zero]
              refine wpAnyH_take (i := 9) (v := .pointer (some ⟨b, off + k * 260 + 1, none⟩)) rfl (by kernel_rfl) (by kernel_rfl) (by kernel_rfl) (fun _ _ _ h => (h : False).elim) (Or.inl ⟨by rfl, fun _ _ => by go_simp⟩) hS ?_
              change wpAnyH _ _ _ _ _ _ _ (Act.put _ (some 105) _) _
              simp only [Act.put, List.setIfInBounds_toArray, List.set_cons_succ, List.set_cons_zero]
              refine wpAnyH_take (i := 10) (v := .int .u16 (v : Int)) rfl (by kernel_rfl) (by kernel_rfl) (by kernel_rfl) (fun _ _ _ h => (h : False).elim) (Or.inl ⟨by rfl, fun w hw => by have c := hw.2; go_simp⟩) hS ?_
              change wpAnyH _ _ _ _ _ _ _ (Act.put _ (some 106) _) _
              simp only [Act.put, List.setIfInBounds_toArray, List.set_cons_succ, List.set_cons_zero]
              refine wpAnyH_ready (rs := [11]) (by kernel_rfl) (by simp) ?_
              refine AllReadyH.cons rfl (fun K hK => ?_) AllReadyH.nil
              rw [if_pos (by rfl)]
              go_simp
              refine HS.out.mono ?_
              clear HS
              rintro e W2 ⟨rfl, hh⟩
              dsimp only
              refine hK _ _ (HC.out _ hh.bel) (fun _ => ?_)
              clear hK K
              have HM := Lib.hid hh
              clear hh hS
              have hS := HC.out _ HM.out.bel
              try simp only [Act.put, List.setIfInBounds_toArray, List.set_cons_succ, List.set_cons_zero]
              refine wpAnyH_take (i := 12) (v := .int .i64 0) rfl (by kernel_rfl) (by kernel_rfl) (by kernel_rfl) (fun _ _ _ h => (h : False).elim) (Or.inl ⟨by rfl, fun _ _ => by go_simp⟩) hS ?_
              change wpAnyH _ _ _ _ _ _ _ (Act.put _ (some 13) _) _
              simp only [Act.put, List.setIfInBounds_toArray, List.set_cons_succ, List.set_cons_zero]
              refine wpAnyH_done (by kernel_rfl) ?_ _
              refine NoPanic.normal ?_
              have ca : W2.cell? ⟨b, off + k * 260, none⟩ = some (.int .u32 (a : Int)) := hS.1
              have HF : Hid (∀ j, Calls Tryz.prog 14 #[.pointer (some ⟨t, 0, none⟩)] (W2.drewN j) fun e w' => e = .returned (.int .u32 (fs : Int)) ∧ w' = W2.drewN j) := Lib.hid (fun j => by
                have h := Hall.first (HM.out.below (W' := W2.drewN j) ⟨rfl, rfl, rfl, Nat.le_refl _, fun _ _ => rfl⟩) (i := 1) rfl
                rw [HN.out.n, ← HFS.out] at h
                exact h)
              clear hS HC
              obtain ⟨W3, hW3⟩ : ∃ W3, W3 = W2 := ⟨_, rfl⟩
              rw [← hW3] at ca HF HM ⊢
              clear hW3
              have g1 : decide (fs ≤ a) = true := decide_eq_true hr.1
              have g2 : decide (a < n) = true := decide_eq_true hr.2
              have g1z : (fs : Int) ≤ (a : Int) := by omega
              have g2z : (a : Int) < (n : Int) := by omega
              go_upto_region 15 with fail
              go_big_quiet (first | (go_at_call 14; refine Calls.quiet_of_same (HF.out _)))
              clear HF
              go_wp2_with fail
              go_roundw
              case rel => exact ⟨k + 1, _, by go_num, by omega, Lib.hid ⟨HM.out.below ⟨rfl, rfl, rfl, Nat.le_refl _, fun _ _ => rfl⟩, HN.out⟩⟩
              case measure => simp [intOf]; omega
            · have HSET : Hid (∀ W, Hall w [.dev p s, .tab t T] KL W → Calls Tryz.prog 13 #[.pointer (some ⟨t, 0, none⟩), .int .u32 (a : Int), .int .u16 (v : Int)] W fun e W' => e = .returned (.int .i64 2) ∧ Hall w [.dev p s, .tab t T] KL W') := Lib.hid (fun W hW => by
                have h := Hall.set_ hW (i := 1) (j := 0) (T := T) (s := s) rfl (by rw [hh.out.2.d]; rfl) (by decide) hh.out.2.reads hf1 hf2
                have e : setE T.n a = 2 := by unfold setE; rw [hh.out.2.n, ← HFS.out, if_neg hr]
                rw [e, setS_out (by rw [hh.out.2.n, ← HFS.out]; exact hr)] at h
                exact h)
              have HN := Lib.hid hh.out.2
              have HM := Lib.hid hh.out.1
              clear hh
              go_upto_region 14 with fail
              refine wp_region_noPanic ?_
              refine wp_region_held_drew (S := fun W => W.cell? ⟨b, off + k * 260, none⟩ = some (.int .u32 (a : Int)) ∧ W.cell? ⟨b, off + k * 260 + 1, none⟩ = some (.int .u16 (v : Int))) (by kernel_rfl) (HC.out _ (HM.out.drew.bel)) ?_
              intro hS
              have HS := Lib.hid (HSET.out _ HM.out.drew)
              clear HSET HM
              generalize wc.drew = W1 at hS HS ⊢
              refine wpAnyH_take (i := 0) (v := .pointer (some ⟨t, 0, none⟩)) rfl (by kernel_rfl) (by kernel_rfl) (by kernel_rfl) (fun _ _ _ h => (h : False).elim) (Or.inl ⟨by rfl, fun _ _ => by go_simp⟩) hS ?_
              change wpAnyH _ _ _ _ _ _ _ (Act.put _ (some 96) _) _
              simp only [Act.put, List.setIfInBounds_toArray, List.set_cons_succ, List.set_cons_zero]
              refine wpAnyH_take (i := 1) (v := .slice (some ⟨b, off, none⟩) m cap) rfl (by kernel_rfl) (by kernel_rfl) (by kernel_rfl) (fun _ _ _ h => (h : False).elim) (Or.inl ⟨by rfl, fun _ _ => by go_simp⟩) hS ?_
              change wpAnyH _ _ _ _ _ _ _ (Act.put _ (some 97) _) _
              simp only [Act.put, List.setIfInBounds_toArray, List.set_cons_succ, List.set_cons_zero]
              refine wpAnyH_take (i := 2) (v := .int .i64 (k : Int)) rfl (by kernel_rfl) (by kernel_rfl) (by kernel_rfl) (fun _ _ _ h => (h : False).elim) (Or.inl ⟨by rfl, fun _ _ => by go_simp⟩) hS ?_
              change wpAnyH _ _ _ _ _ _ _ (Act.put _ (some 98) _) _
              simp only [Act.put, List.setIfInBounds_toArray, List.set_cons_succ, List.set_cons_zero]
              refine wpAnyH_take (i := 3) (v := .pointer (some ⟨b, off + k * 260, none⟩)) rfl (by kernel_rfl) (by kernel_rfl) (by kernel_rfl) (fun _ _ _ h => (h : False).elim) (Or.inl ⟨by rfl, fun _ _ => by go_simp⟩) hS ?_
              change wpAnyH _ _ _ _ _ _ _ (Act.put _ (some 99) _) _
              simp only [Act.put, List.setIfInBounds_toArray, List.set_cons_succ, List.set_cons_zero]
              refine wpAnyH_take (i := 4) (v := .pointer (some ⟨b, off + k * 260, none⟩)) rfl (by kernel_rfl) (by kernel_rfl) (by kernel_rfl) (fun _ _ _ h => (h : False).elim) (Or.inl ⟨by rfl, fun _ _ => by go_simp⟩) hS ?_
              change wpAnyH _ _ _ _ _ _ _ (Act.put _ (some 100) _) _
              simp only [Act.put, List.setIfInBounds_toArray, List.set_cons_succ, List.set_cons_zero]
              refine wpAnyH_take (i := 5) (v := .int .u32 (a : Int)) rfl (by kernel_rfl) (by kernel_rfl) (by kernel_rfl) (fun _ _ _ h => (h : False).elim) (Or.inl ⟨by rfl, fun w hw => by have c := hw.1; go_simp⟩) hS ?_
              change wpAnyH _ _ _ _ _ _ _ (Act.put _ (some 101) _) _
              simp only [Act.put, List.setIfInBounds_toArray, List.set_cons_succ, List.set_cons_zero]
              refine wpAnyH_take (i := 6) (v := .slice (some ⟨b, off, none⟩) m cap) rfl (by kernel_rfl) (by kernel_rfl) (by kernel_rfl) (fun _ _ _ h => (h : False).elim) (Or.inl ⟨by rfl, fun _ _ => by go_simp⟩) hS ?_
              change wpAnyH _ _ _ _ _ _ _ (Act.put _ (some 102) _) _
              simp only [Act.put, List.setIfInBounds_toArray, List.set_cons_succ, List.set_cons_zero]
              refine wpAnyH_take (i := 7) (v := .int .i64 (k : Int)) rfl (by kernel_rfl) (by kernel_rfl) (by kernel_rfl) (fun _ _ _ h => (h : False).elim) (Or.inl ⟨by rfl, fun _ _ => by go_simp⟩) hS ?_
              change wpAnyH _ _ _ _ _ _ _ (Act.put _ (some 103) _) _
              simp only [Act.put, List.setIfInBounds_toArray, List.set_cons_succ, List.set_cons_zero]
              refine wpAnyH_take (i := 8) (v := .pointer (some ⟨b, off + k * 260, none⟩)) rfl (by kernel_rfl) (by kernel_rfl) (by kernel_rfl) (fun _ _ _ h => (h : False).elim) (Or.inl ⟨by rfl, fun _ _ => by go_simp⟩) hS ?_
              change wpAnyH _ _ _ _ _ _ _ (Act.put _ (some 104) _) _
              simp only [Act.put, List.setIfInBounds_toArray, List.set_cons_succ, List.set_cons_zero]
              refine wpAnyH_take (i := 9) (v := .pointer (some ⟨b, off + k * 260 + 1, none⟩)) rfl (by kernel_rfl) (by kernel_rfl) (by kernel_rfl) (fun _ _ _ h => (h : False).elim) (Or.inl ⟨by rfl, fun _ _ => by go_simp⟩) hS ?_
              change wpAnyH _ _ _ _ _ _ _ (Act.put _ (some 105) _) _
              simp only [Act.put, List.setIfInBounds_toArray, List.set_cons_succ, List.set_cons_zero]
              refine wpAnyH_take (i := 10) (v := .int .u16 (v : Int)) rfl (by kernel_rfl) (by kernel_rfl) (by kernel_rfl) (fun _ _ _ h => (h : False).elim) (Or.inl ⟨by rfl, fun w hw => by have c := hw.2; go_simp⟩) hS ?_
              change wpAnyH _ _ _ _ _ _ _ (Act.put _ (some 106) _) _
              simp only [Act.put, List.setIfInBounds_toArray, List.set_cons_succ, List.set_cons_zero]
              refine wpAnyH_ready (rs := [11]) (by kernel_rfl) (by simp) ?_
              refine AllReadyH.cons rfl (fun K hK => ?_) AllReadyH.nil
              rw [if_pos (by rfl)]
              go_simp
              refine HS.out.mono ?_
              clear HS
              rintro e W2 ⟨rfl, hh⟩
              dsimp only
              refine hK _ _ (HC.out _ hh.bel) (fun _ => ?_)
              clear hK K
              have HM := Lib.hid hh
              clear hh hS
              have hS := HC.out _ HM.out.bel
              try simp only [Act.put, List.setIfInBounds_toArray, List.set_cons_succ, List.set_cons_zero]
              refine wpAnyH_take (i := 12) (v := .int .i64 2) rfl (by kernel_rfl) (by kernel_rfl) (by kernel_rfl) (fun _ _ _ h => (h : False).elim) (Or.inl ⟨by rfl, fun _ _ => by go_simp⟩) hS ?_
              change wpAnyH _ _ _ _ _ _ _ (Act.put _ (some 13) _) _
              simp only [Act.put, List.setIfInBounds_toArray, List.set_cons_succ, List.set_cons_zero]
              refine wpAnyH_done (by kernel_rfl) ?_ _
              refine NoPanic.normal ?_
              by_cases h1 : fs ≤ a
              · have ca : W2.cell? ⟨b, off + k * 260, none⟩ = some (.int .u32 (a : Int)) := hS.1
                have HF : Hid (∀ j, Calls Tryz.prog 14 #[.pointer (some ⟨t, 0, none⟩)] (W2.drewN j) fun e w' => e = .returned (.int .u32 (fs : Int)) ∧ w' = W2.drewN j) := Lib.hid (fun j => by
                  have h := Hall.first (HM.out.below (W' := W2.drewN j) ⟨rfl, rfl, rfl, Nat.le_refl _, fun _ _ => rfl⟩) (i := 1) rfl
                  rw [HN.out.n, ← HFS.out] at h
                  exact h)
                clear hS HC
                obtain ⟨W3, hW3⟩ : ∃ W3, W3 = W2 := ⟨_, rfl⟩
                rw [← hW3] at ca HF HM ⊢
                clear hW3
                have g1 : decide (fs ≤ a) = true := decide_eq_true h1
                have g1z : (fs : Int) ≤ (a : Int) := by omega
                have g2 : decide (a < n) = false := decide_eq_false (by omega)
                go_upto_region 15 with fail
                go_big_quiet (first | (go_at_call 14; refine Calls.quiet_of_same (HF.out _)))
                clear HF
                go_wp2_with fail
                go_roundw
                case rel => exact ⟨k + 1, _, by go_num, by omega, Lib.hid ⟨HM.out.below ⟨rfl, rfl, rfl, Nat.le_refl _, fun _ _ => rfl⟩, HN.out⟩⟩
                case measure => simp [intOf]; omega
              · have ca : W2.cell? ⟨b, off + k * 260, none⟩ = some (.int .u32 (a : Int)) := hS.1
                have HF : Hid (∀ j, Calls Tryz.prog 14 #[.pointer (some ⟨t, 0, none⟩)] (W2.drewN j) fun e w' => e = .returned (.int .u32 (fs : Int)) ∧ w' = W2.drewN j) := Lib.hid (fun j => by
                  have h := Hall.first (HM.out.below (W' := W2.drewN j) ⟨rfl, rfl, rfl, Nat.le_refl _, fun _ _ => rfl⟩) (i := 1) rfl
                  rw [HN.out.n, ← HFS.out] at h
                  exact h)
                clear hS HC
                obtain ⟨W3, hW3⟩ : ∃ W3, W3 = W2 := ⟨_, rfl⟩
                rw [← hW3] at ca HF HM ⊢
                clear hW3
                have g1 : decide (fs ≤ a) = false := decide_eq_false h1
                go_upto_region 15 with fail
                go_big_quiet (first | (go_at_call 14; refine Calls.quiet_of_same (HF.out _)))
                clear HF
                go_wp2_with fail
                go_roundw
                case rel => exact ⟨k + 1, _, by go_num, by omega, Lib.hid ⟨HM.out.below ⟨rfl, rfl, rfl, Nat.le_refl _, fun _ _ => rfl⟩, HN.out⟩⟩
                case measure => simp [intOf]; omega
      · have i0 : (k : Int) < (m : Int) := by omega
        have i1 : ¬ (k : Int) < 60 := by omega
        go_wp2_with fail
        exact HEX.out _ _ _ _ _ _ _ _ _ _ _ _ _ _ _ _ _ _ _ _ _ _ _ _ _ _ _ _ _ _ _ _ _ _ _ _ _ _ _ _ _ _ _ _ _ _ _ _ _ _ _ _ _ _ _ _ _ _ T k hh.out.1 hh.out.2 (by omega) (by omega) (by omega)
    · have i0 : ¬ (k : Int) < (m : Int) := by omega
      go_wp2_with fail
      exact HEX.out _ _ _ _ _ _ _ _ _ _ _ _ _ _ _ _ _ _ _ _ _ _ _ _ _ _ _ _ _ _ _ _ _ _ _ _ _ _ _ _ _ _ _ _ _ _ _ _ _ _ _ _ _ _ _ _ _ _ T k hh.out.1 hh.out.2 (by omega) (by omega) (by omega)
end Go.Proofs.YtojpcgjmainbfaaGreat.Cnt

/-
  CountCommits' loop of checks.
-/
namespace Go.Proofs.YtojpcgjmainbfaaGreat.Cnt
open Go.RowKit Go.Maps Go.MapKept RowLaw Crc
open Go.Proofs.YtojpcgjmainbfaaGreat.Dev (Dev DS ptr)
open Go.Proofs.YtojpcgjmainbfaaGreat.Rot (planOk tlN pkN fsN)
set_option maxRecDepth 100000
set_option linter.unusedVariables false in
set_option linter.unusedSimpArgs false in
set_option maxHeartbeats 12800000 in
theorem commits_checks {w : World} {p pc t u v x n m cap k : Nat} {s s' : DS} {T U V X : TD} {xs : List St} {pa : Option Addr} {KL : List (Nat × Obj)} (hm : m = xs.length) (hx : Sts w pa xs) (hn : 64 ≤ n ∧ n ≤ 5000) (hk : k ≤ m ∧ k ≤ 60) (hT : Reads s' T ∧ T.n = n ∧ T.d = p) (hU : Reads s' U ∧ U.n = n ∧ U.d = p) (hV : Reads s' V ∧ V.n = n ∧ V.d = p) (hX : Reads s X ∧ X.n = n ∧ X.d = pc) (h1 : ∀ a, a < n → U.oldC a = T.nowC a) (h2 : ∀ a, a < n → V.oldC a = X.oldC a)
    {Q0 : Exit → Act → World → Prop} {c2 c3 c4 c5 c6 c7 c8 c9 c11 c13 c14 c15 c16 c17 c18 c20 c22 c24 c26 c27 c28 c29 c30 c31 c32 c33 c34 c35 c36 c37 c38 c39 c40 c41 c42 c43 c44 c45 c46 c47 c48 c49 c50 c51 c52 c53 c54 c55 c56 c57 c58 c59 c60 c61 c62 c63 c64 c65 c66 c67 c68 c69 c70 c71 c72 c73 c74 c75 c76 c77 c78 c79 c80 c81 c82 c83 c84 c85 c86 c87 c88 c89 c90 c91 c92 c93 c94 c95 c96 c97 c98 c99 c100 c101 c102 c103 c104 c105 c106 c107 c108 c109 c110 c111 c112 c113 c114 c115 c116 c117 c118 c119 c120 c121 c122 c123 c124 c125 c126 c127 c128 c129 c130 c131 c132 c133 c134 c135 c136 c137 c138 c139 c140 c141 c142 c143 c144 c145 c146 c147 c148 c149 c150 c151 c152 c153 c154 c155 c156 c157 c158 c159 c160 c161 c162 c163 c164 c165 c166 c167 c168 c169 c170 c171 c172 c173 c174 c175 c176 c177 c178 c179 c180 c181 c182 c183 c184 c185 c186 c187 c188 c189 c190 c191 c192 c193 c194 c195 c196 c197 c198 c199 c200 c201 c202 c203 c204 c205 c206 c207 c208 c209 c210 c211 c212 c213 c214 c215 c216 c217 c218 c219 c220 c221 c222 c223 c224 c225 c226 c227 c228 c229 c230 c231 c232 c233 c234 c235 c236 c237 c238 c239 c240 c241 c242 c243 c244 c245 c246 c247 : Value} {W0 : World} (h0 : Hall w [.dev p s', .tab t T, .dev pc s, .tab u U, .tab v V, .tab x X] KL W0)
    (hexit : ∀ (u4 u25 u26 u27 u28 u29 u30 u31 u32 u33 u34 u194 u195 u196 u197 u198 u199 u200 u201 u202 u203 u204 u205 u206 u207 u208 u209 u210 u211 u212 u213 u214 u215 u216 u217 u218 u219 u220 u221 u222 u223 u224 u225 u226 u227 u228 u229 u230 u231 u232 u233 u234 u235 u236 u237 u238 u239 u240 u241 u242 u243 u244 u245 : Value) (W : World) , Hall w [.dev p s', .tab t T, .dev pc s, .tab u U, .tab v V, .tab x X] KL W → Q0 (.exit 4) ⟨List.toArray (.int .u32 (n : Int) :: .slice pa m cap :: c2 :: c3 :: u4 :: c5 :: c6 :: c7 :: c8 :: c9 :: .pointer (some ⟨t, 0, none⟩) :: c11 :: .int .i64 (k : Int) :: c13 :: c14 :: c15 :: c16 :: c17 :: c18 :: .pointer (some ⟨u, 0, none⟩) :: c20 :: .pointer (some ⟨v, 0, none⟩) :: c22 :: .pointer (some ⟨x, 0, none⟩) :: c24 :: u25 :: u26 :: u27 :: u28 :: u29 :: u30 :: u31 :: u32 :: u33 :: u34 :: c35 :: c36 :: c37 :: c38 :: c39 :: c40 :: c41 :: c42 :: c43 :: c44 :: c45 :: c46 :: c47 :: c48 :: c49 :: c50 :: c51 :: c52 :: c53 :: c54 :: c55 :: c56 :: c57 :: c58 :: c59 :: c60 :: c61 :: c62 :: c63 :: c64 :: c65 :: c66 :: c67 :: c68 :: c69 :: c70 :: c71 :: c72 :: c73 :: c74 :: c75 :: c76 :: c77 :: c78 :: c79 :: c80 :: c81 :: c82 :: c83 :: c84 :: c85 :: c86 :: c87 :: c88 :: c89 :: c90 :: c91 :: c92 :: c93 :: c94 :: c95 :: c96 :: c97 :: c98 :: c99 :: c100 :: c101 :: c102 :: c103 :: c104 :: c105 :: c106 :: c107 :: c108 :: c109 :: c110 :: c111 :: c112 :: c113 :: c114 :: c115 :: c116 :: c117 :: c118 :: c119 :: c120 :: c121 :: c122 :: c123 :: c124 :: c125 :: c126 :: c127 :: c128 :: c129 :: c130 :: c131 :: c132 :: c133 :: c134 :: c135 :: c136 :: c137 :: c138 :: c139 :: c140 :: c141 :: c142 :: c143 :: c144 :: c145 :: c146 :: c147 :: c148 :: c149 :: c150 :: c151 :: c152 :: c153 :: c154 :: c155 :: c156 :: c157 :: c158 :: c159 :: c160 :: c161 :: c162 :: c163 :: c164 :: c165 :: c166 :: c167 :: c168 :: c169 :: c170 :: c171 :: c172 :: c173 :: c174 :: c175 :: c176 :: c177 :: c178 :: c179 :: c180 :: c181 :: c182 :: c183 :: c184 :: c185 :: c186 :: c187 :: c188 :: c189 :: c190 :: c191 :: c192 :: c193 :: u194 :: u195 :: u196 :: u197 :: u198 :: u199 :: u200 :: u201 :: u202 :: u203 :: u204 :: u205 :: u206 :: u207 :: u208 :: u209 :: u210 :: u211 :: u212 :: u213 :: u214 :: u215 :: u216 :: u217 :: u218 :: u219 :: u220 :: u221 :: u222 :: u223 :: u224 :: u225 :: u226 :: u227 :: u228 :: u229 :: u230 :: u231 :: u232 :: u233 :: u234 :: u235 :: u236 :: u237 :: u238 :: u239 :: u240 :: u241 :: u242 :: u243 :: u244 :: u245 :: c246 :: c247 :: []), []⟩ W) :
    Code.wp Tryz.prog (.loop bodyC2) Q0 ⟨List.toArray (.int .u32 (n : Int) :: .slice pa m cap :: c2 :: c3 :: c4 :: c5 :: c6 :: c7 :: c8 :: c9 :: .pointer (some ⟨t, 0, none⟩) :: c11 :: .int .i64 (k : Int) :: c13 :: c14 :: c15 :: c16 :: c17 :: c18 :: .pointer (some ⟨u, 0, none⟩) :: c20 :: .pointer (some ⟨v, 0, none⟩) :: c22 :: .pointer (some ⟨x, 0, none⟩) :: c24 :: .int .i64 0 :: c26 :: c27 :: c28 :: c29 :: c30 :: c31 :: c32 :: c33 :: c34 :: c35 :: c36 :: c37 :: c38 :: c39 :: c40 :: c41 :: c42 :: c43 :: c44 :: c45 :: c46 :: c47 :: c48 :: c49 :: c50 :: c51 :: c52 :: c53 :: c54 :: c55 :: c56 :: c57 :: c58 :: c59 :: c60 :: c61 :: c62 :: c63 :: c64 :: c65 :: c66 :: c67 :: c68 :: c69 :: c70 :: c71 :: c72 :: c73 :: c74 :: c75 :: c76 :: c77 :: c78 :: c79 :: c80 :: c81 :: c82 :: c83 :: c84 :: c85 :: c86 :: c87 :: c88 :: c89 :: c90 :: c91 :: c92 :: c93 :: c94 :: c95 :: c96 :: c97 :: c98 :: c99 :: c100 :: c101 :: c102 :: c103 :: c104 :: c105 :: c106 :: c107 :: c108 :: c109 :: c110 :: c111 :: c112 :: c113 :: c114 :: c115 :: c116 :: c117 :: c118 :: c119 :: c120 :: c121 :: c122 :: c123 :: c124 :: c125 :: c126 :: c127 :: c128 :: c129 :: c130 :: c131 :: c132 :: c133 :: c134 :: c135 :: c136 :: c137 :: c138 :: c139 :: c140 :: c141 :: c142 :: c143 :: c144 :: c145 :: c146 :: c147 :: c148 :: c149 :: c150 :: c151 :: c152 :: c153 :: c154 :: c155 :: c156 :: c157 :: c158 :: c159 :: c160 :: c161 :: c162 :: c163 :: c164 :: c165 :: c166 :: c167 :: c168 :: c169 :: c170 :: c171 :: c172 :: c173 :: c174 :: c175 :: c176 :: c177 :: c178 :: c179 :: c180 :: c181 :: c182 :: c183 :: c184 :: c185 :: c186 :: c187 :: c188 :: c189 :: c190 :: c191 :: c192 :: c193 :: c194 :: c195 :: c196 :: c197 :: c198 :: c199 :: c200 :: c201 :: c202 :: c203 :: c204 :: c205 :: c206 :: c207 :: c208 :: c209 :: c210 :: c211 :: c212 :: c213 :: c214 :: c215 :: c216 :: c217 :: c218 :: c219 :: c220 :: c221 :: c222 :: c223 :: c224 :: c225 :: c226 :: c227 :: c228 :: c229 :: c230 :: c231 :: c232 :: c233 :: c234 :: c235 :: c236 :: c237 :: c238 :: c239 :: c240 :: c241 :: c242 :: c243 :: c244 :: c245 :: c246 :: c247 :: []), []⟩ W0 := by
  have HEX := Lib.hid hexit; clear hexit
  have HX := Lib.hid hx; clear hx
  have HM0 := Lib.hid h0; clear h0
  have HLEN := Lib.hid hm; clear hm
  have HT := Lib.hid hT; have HU := Lib.hid hU; have HV := Lib.hid hV; have HXX := Lib.hid hX
  have H1 := Lib.hid h1; have H2 := Lib.hid h2
  clear hT hU hV hX h1 h2
  obtain ⟨hk1, hk2⟩ := hk
  conv => arg 2; arg 1; whnf
  go_loopw [25] (fun v25 W => ∃ (j : Nat), v25 = .int .i64 (j : Int) ∧ j ≤ k ∧ Hid (Hall w [.dev p s', .tab t T, .dev pc s, .tab u U, .tab v V, .tab x X] KL W)) (fun v25 _ => k - (intOf v25).toNat)
  case atStart => exact ⟨0, rfl, by omega, HM0⟩
  case round =>
    clear HM0
    obtain ⟨j, rfl, hj, HM⟩ := hrel
    by_cases hjk : j < k
    · have hjl : j < xs.length := by have := HLEN.out; omega
      obtain ⟨b, off, rfl, hfit, hcs⟩ := HX.out.cells hjl
      have hf1 := hfit.1
      have ca := (hcs wr HM.out.bel).1
      generalize xs[j].a = a0 at hf1 ca
      clear hfit hcs
      obtain ⟨a, ha⟩ : ∃ a, a = a0 % n := ⟨_, rfl⟩
      have han : a < n := by rw [ha]; exact Nat.mod_lt _ (by omega)
      have i0 : (j : Int) < (k : Int) := by omega
      have i1 : (j : Int) < (m : Int) := by omega
      have i2 : (0 : Int) ≤ (j : Int) := by omega
      have z2 : IntKind.i64.wrap ((j : Int) + 1) = (j : Int) + 1 := IntWalk.i64_in _ (by omega)
      have hm2 : (a0 : Int) % (n : Int) = (a : Int) := by rw [ha]; exact (Int.natCast_emod a0 n).symm
      have hm1 : (a0 : Int).tmod (n : Int) = (a : Int) := by rw [Int.tmod_eq_emod_of_nonneg (by omega)]; exact hm2
      have hn0 : ¬ n = 0 := by omega
      have haw : IntKind.u32.wrap (a : Int) = (a : Int) := IntWalk.u32_in _ (by omega)
      obtain ⟨x0, hx0⟩ : ∃ x, x = T.nowC a := ⟨_, rfl⟩
      obtain ⟨z0, hz0⟩ : ∃ x, x = V.oldC a := ⟨_, rfl⟩
      have HUO : Hid (U.oldC a = x0) := Lib.hid ((H1.out a han).trans hx0.symm)
      have HXO : Hid (X.oldC a = z0) := Lib.hid ((H2.out a han).symm.trans hz0.symm)
      have HTO : Hid (T.nowC a = x0) := Lib.hid hx0.symm
      have HVO : Hid (V.oldC a = z0) := Lib.hid hz0.symm
      have han2 : (a : Int) < 4294967296 := by omega
      clear ha hx0 hz0
      obtain ⟨W1, hW1⟩ : ∃ W1, W1 = wr := ⟨_, rfl⟩
      rw [← hW1] at ca HM ⊢
      clear hW1
      have HC : Hid (Calls Tryz.prog 18 #[.pointer (some ⟨t, 0, none⟩), .int .u32 (a : Int)] W1 fun e W' => e = .returned (.tuple #[.int .u16 (x0 : Int), .int .i64 0]) ∧ Hall w [.dev p s', .tab t T, .dev pc s, .tab u U, .tab v V, .tab x X] KL W') := Lib.hid (by
        have h := Hall.get HM.out (i := 1) (j := 0) (T := T) (s := s') rfl (by rw [HT.out.2.2]; rfl) (by decide) HT.out.1 (a := a) (by omega)
        have e : cntE T.n a = 0 := by unfold cntE; rw [HT.out.2.1, if_neg (by omega)]
        rw [e, HTO.out] at h
        exact h)
      clear HM
      go_wp2_with fail
      clear hm1 hm2 hn0 haw ca
      refine HC.out.mono ?_
      clear HC
      rintro e W2 ⟨rfl, hh⟩
      have HM := Lib.hid hh
      clear hh
      have HC : Hid (Calls Tryz.prog 19 #[.pointer (some ⟨u, 0, none⟩), .int .u32 (a : Int)] W2 fun e W' => e = .returned (.tuple #[.int .u16 (x0 : Int), .int .i64 0]) ∧ Hall w [.dev p s', .tab t T, .dev pc s, .tab u U, .tab v V, .tab x X] KL W') := Lib.hid (by
        have h := Hall.old HM.out (i := 3) (j := 0) (T := U) (s := s') rfl (by rw [HU.out.2.2]; rfl) (by decide) HU.out.1 (a := a) (by omega)
        have e : cntE U.n a = 0 := by unfold cntE; rw [HU.out.2.1, if_neg (by omega)]
        rw [e, HUO.out] at h
        exact h)
      clear HM
      go_wp2_with fail
      refine HC.out.mono ?_
      clear HC
      rintro e W3 ⟨rfl, hh⟩
      have HM := Lib.hid hh
      clear hh
      have HC : Hid (Calls Tryz.prog 19 #[.pointer (some ⟨v, 0, none⟩), .int .u32 (a : Int)] W3 fun e W' => e = .returned (.tuple #[.int .u16 (z0 : Int), .int .i64 0]) ∧ Hall w [.dev p s', .tab t T, .dev pc s, .tab u U, .tab v V, .tab x X] KL W') := Lib.hid (by
        have h := Hall.old HM.out (i := 4) (j := 0) (T := V) (s := s') rfl (by rw [HV.out.2.2]; rfl) (by decide) HV.out.1 (a := a) (by omega)
        have e : cntE V.n a = 0 := by unfold cntE; rw [HV.out.2.1, if_neg (by omega)]
        rw [e, HVO.out] at h
        exact h)
      clear HM
      go_wp2_with fail
      refine HC.out.mono ?_
      clear HC
      rintro e W4 ⟨rfl, hh⟩
      have HM := Lib.hid hh
      clear hh
      have HC : Hid (Calls Tryz.prog 19 #[.pointer (some ⟨x, 0, none⟩), .int .u32 (a : Int)] W4 fun e W' => e = .returned (.tuple #[.int .u16 (z0 : Int), .int .i64 0]) ∧ Hall w [.dev p s', .tab t T, .dev pc s, .tab u U, .tab v V, .tab x X] KL W') := Lib.hid (by
        have h := Hall.old HM.out (i := 5) (j := 2) (T := X) (s := s) rfl (by rw [HXX.out.2.2]; rfl) (by decide) HXX.out.1 (a := a) (by omega)
        have e : cntE X.n a = 0 := by unfold cntE; rw [HXX.out.2.1, if_neg (by omega)]
        rw [e, HXO.out] at h
        exact h)
      clear HM
      go_wp2_with fail
      refine HC.out.mono ?_
      clear HC
      rintro e W5 ⟨rfl, hh⟩
      have HM := Lib.hid hh
      clear hh
      go_wp2_with fail
      go_roundw
      case rel => exact ⟨j + 1, by go_num, by omega, HM⟩
      case measure => simp [intOf]; omega
    · have i0 : ¬ (j : Int) < (k : Int) := by omega
      go_wp2_with fail
      exact HEX.out _ _ _ _ _ _ _ _ _ _ _ _ _ _ _ _ _ _ _ _ _ _ _ _ _ _ _ _ _ _ _ _ _ _ _ _ _ _ _ _ _ _ _ _ _ _ _ _ _ _ _ _ _ _ _ _ _ _ _ _ _ _ _ _ HM.out
end Go.Proofs.YtojpcgjmainbfaaGreat.Cnt

/-
  CountCommits' loop of commits.
-/
namespace Go.Proofs.YtojpcgjmainbfaaGreat.Cnt
open Go.RowKit Go.Maps Go.MapKept RowLaw Crc
open Go.Proofs.YtojpcgjmainbfaaGreat.Dev (Dev DS ptr pendCells)
open Go.Proofs.YtojpcgjmainbfaaGreat.Rot (planOk tlN pkN fsN plan_facts Puts Here commitF)
open Go.Proofs.YtojpcgjmainbfaaGreat.Slt (Rt cells rootO cells_one)
set_option maxRecDepth 100000
section
variable {w W : World} {l m : List Thing} {K : List (Nat × Obj)}
theorem Hall.front (h : Hall w (l ++ m) K W) : Hall w l K W := by
  obtain ⟨h1, f, h2, h3, h4⟩ := h
  refine ⟨h1, f, fun i x hi => h2 i x ?_, fun i j hi hj => h3 i j (by rw [List.length_append]; omega) (by rw [List.length_append]; omega), fun x hx => ⟨(h4 x hx).1, fun i hi => (h4 x hx).2 i (by rw [List.length_append]; omega)⟩⟩
  rw [List.getElem?_append_left (List.getElem?_eq_some_iff.1 hi).1]
  exact hi
/-- a row of puts is told of -/
theorem Hall.puts (h : Hall w l K W) {W' : World} (hb : Below W.heap.size W W') (h' : Hall w l K W') {v : Value} {len : Nat} {xs : List (Nat × List UInt8)} (hn : len = xs.length) (hr : W'.ownsRow W.heap.size 55 257 v len (pendCells xs)) (hl : ∀ x ∈ xs, x.1 < 4294967296 ∧ x.2.length = 256) :
    ∃ (pv : Option Addr) (cv : Nat) (KS : List (Nat × Obj)), v = .slice pv len cv ∧ Hall w l (KS ++ K) W' ∧ Hid (∀ V, (∀ x ∈ KS, V.heap[x.1]? = some x.2) → Puts V pv xs) ∧ Hid (∀ K', (∀ x ∈ KS, x ∈ K') → Here w K' pv xs) ∧ Hid (∀ x ∈ KS, W.heap.size ≤ x.1) := by
  obtain ⟨pv, cv, hv, hp, hat⟩ := Rot.puts_of_row hn hr hl
  by_cases h0 : len = 0
  · have hx : xs = [] := List.eq_nil_of_length_eq_zero (by omega)
    exact ⟨pv, cv, [], hv, h', Lib.hid (fun V _ => ⟨hl, .inl hx⟩), Lib.hid (fun K' _ hne => absurd hx hne), Lib.hid (fun x hx => by cases hx)⟩
  · obtain ⟨g, c, cur, hv2, ht, hm⟩ := h.row hb (Nat.le_refl _) hr (by omega)
    have he : pv = some ⟨g, 0, none⟩ ∧ cv = c := by rw [hv] at hv2; cases hv2; exact ⟨rfl, rfl⟩
    obtain ⟨rfl, rfl⟩ := he
    refine ⟨some ⟨g, 0, none⟩, cv, [(g, .cells cur 55 (0, 0))], hv, hm, Lib.hid (fun V hV => ?_), Lib.hid (fun K' hk _ a ha => ?_), Lib.hid (fun x hx => ?_)⟩
    · have hg := hV _ List.mem_cons_self
      have hr2 : V.ownsRow W.heap.size 55 257 v len (pendCells xs) := Dev.ownsRow_block hr (fun k hk => by
        rw [hv] at hk
        simp only [Value.ownBlock, Option.some.injEq] at hk
        subst hk
        exact hg.trans (hm.at_ List.mem_cons_self).symm)
      obtain ⟨pv', cv', hv', hp', _⟩ := Rot.puts_of_row hn hr2 hl
      rw [hv] at hv'
      cases hv'
      exact hp'
    · cases ha
      exact .inr ⟨_, hk _ List.mem_cons_self⟩
    · rw [List.mem_singleton] at hx
      subst hx
      exact (hat _ rfl).1
end
theorem rg_set0 (g n pk : Nat) : (cells (rg g n pk)).setIfInBounds 0 (.int .u64 ((g + 1 : Nat) : Int)) = cells (rg (g + 1) n pk) := rfl
theorem rg_set2 (g n pk pk' : Nat) : (cells (rg g n pk)).setIfInBounds 2 (.int .u32 (pk' : Int)) = cells (rg g n pk') := rfl
set_option linter.unusedVariables false in
set_option linter.unusedSimpArgs false in
set_option maxHeartbeats 25600000 in
theorem commits_loop {w : World} {p q7 n m cap : Nat} {s0 : DS} {xs : List St} {pa : Option Addr} (hm : m = xs.length) (hx : Sts w pa xs) (hn : 64 ≤ n ∧ n ≤ 5000) (hq7 : w.heap.size ≤ q7)
    {Q0 : Exit → Act → World → Prop} {c2 c3 c4 c6 c8 c10 c11 c12 c13 c14 c15 c16 c17 c18 c19 c20 c21 c22 c23 c24 c25 c26 c27 c28 c29 c30 c31 c32 c33 c34 c35 c36 c37 c38 c39 c40 c41 c42 c43 c44 c45 c46 c47 c48 c49 c50 c51 c52 c53 c54 c55 c56 c57 c58 c59 c60 c61 c62 c63 c64 c65 c66 c67 c68 c69 c70 c71 c72 c73 c74 c75 c76 c77 c78 c79 c80 c81 c82 c83 c84 c85 c86 c87 c88 c89 c90 c91 c92 c93 c94 c95 c96 c97 c98 c99 c100 c101 c102 c103 c104 c105 c106 c107 c108 c109 c110 c111 c112 c113 c114 c115 c116 c117 c118 c119 c120 c121 c122 c123 c124 c125 c126 c127 c128 c129 c130 c131 c132 c133 c134 c135 c136 c137 c138 c139 c140 c141 c142 c143 c144 c145 c146 c147 c148 c149 c150 c151 c152 c153 c154 c155 c156 c157 c158 c159 c160 c161 c162 c163 c164 c165 c166 c167 c168 c169 c170 c171 c172 c173 c174 c175 c176 c177 c178 c179 c180 c181 c182 c183 c184 c185 c186 c187 c188 c189 c190 c191 c192 c193 c194 c195 c196 c197 c198 c199 c200 c201 c202 c203 c204 c205 c206 c207 c208 c209 c210 c211 c212 c213 c214 c215 c216 c217 c218 c219 c220 c221 c222 c223 c224 c225 c226 c227 c228 c229 c230 c231 c232 c233 c234 c235 c236 c237 c238 c239 c240 c241 c242 c243 c244 c245 c246 c247 : Value} {W0 : World} (h0 : Hall w [.dev p s0] [(q7, rootO (rg 1 n 0))] W0) (hC : Rot.Calm s0) (hsn : s0.n = n) (hS : Sound s0 0)
    (hexit : ∀ (u4 u9 u10 u11 u12 u13 u14 u15 u16 u17 u18 u19 u20 u21 u22 u23 u24 u25 u26 u27 u28 u29 u30 u31 u32 u33 u34 u54 u55 u56 u57 u58 u59 u60 u61 u62 u63 u64 u65 u66 u67 u68 u69 u70 u71 u72 u73 u74 u75 u76 u77 u78 u79 u80 u81 u82 u83 u84 u85 u86 u87 u88 u89 u90 u91 u92 u93 u94 u95 u96 u97 u98 u99 u100 u101 u102 u103 u104 u105 u106 u107 u108 u109 u110 u111 u112 u113 u114 u115 u116 u117 u118 u119 u120 u121 u122 u123 u124 u125 u126 u127 u128 u129 u130 u131 u132 u133 u134 u135 u136 u137 u138 u139 u140 u141 u142 u143 u144 u145 u146 u147 u148 u149 u150 u151 u152 u153 u154 u155 u156 u157 u158 u159 u160 u161 u162 u163 u164 u165 u166 u167 u168 u169 u170 u171 u172 u173 u174 u175 u176 u177 u178 u179 u180 u181 u182 u183 u184 u185 u186 u187 u188 u189 u190 u191 u192 u193 u194 u195 u196 u197 u198 u199 u200 u201 u202 u203 u204 u205 u206 u207 u208 u209 u210 u211 u212 u213 u214 u215 u216 u217 u218 u219 u220 u221 u222 u223 u224 u225 u226 u227 u228 u229 u230 u231 u232 u233 u234 u235 u236 u237 u238 u239 u240 u241 u242 u243 u244 u245 u246 : Value) (W : World) , Below w.heap.size w W → Q0 (.exit 0) ⟨List.toArray (.int .u32 (n : Int) :: .slice pa m cap :: c2 :: c3 :: u4 :: .pointer (some ⟨p, 0, none⟩) :: c6 :: .pointer (some ⟨q7, 0, none⟩) :: c8 :: u9 :: u10 :: u11 :: u12 :: u13 :: u14 :: u15 :: u16 :: u17 :: u18 :: u19 :: u20 :: u21 :: u22 :: u23 :: u24 :: u25 :: u26 :: u27 :: u28 :: u29 :: u30 :: u31 :: u32 :: u33 :: u34 :: c35 :: c36 :: c37 :: c38 :: c39 :: c40 :: c41 :: c42 :: c43 :: c44 :: c45 :: c46 :: c47 :: c48 :: c49 :: c50 :: c51 :: c52 :: c53 :: u54 :: u55 :: u56 :: u57 :: u58 :: u59 :: u60 :: u61 :: u62 :: u63 :: u64 :: u65 :: u66 :: u67 :: u68 :: u69 :: u70 :: u71 :: u72 :: u73 :: u74 :: u75 :: u76 :: u77 :: u78 :: u79 :: u80 :: u81 :: u82 :: u83 :: u84 :: u85 :: u86 :: u87 :: u88 :: u89 :: u90 :: u91 :: u92 :: u93 :: u94 :: u95 :: u96 :: u97 :: u98 :: u99 :: u100 :: u101 :: u102 :: u103 :: u104 :: u105 :: u106 :: u107 :: u108 :: u109 :: u110 :: u111 :: u112 :: u113 :: u114 :: u115 :: u116 :: u117 :: u118 :: u119 :: u120 :: u121 :: u122 :: u123 :: u124 :: u125 :: u126 :: u127 :: u128 :: u129 :: u130 :: u131 :: u132 :: u133 :: u134 :: u135 :: u136 :: u137 :: u138 :: u139 :: u140 :: u141 :: u142 :: u143 :: u144 :: u145 :: u146 :: u147 :: u148 :: u149 :: u150 :: u151 :: u152 :: u153 :: u154 :: u155 :: u156 :: u157 :: u158 :: u159 :: u160 :: u161 :: u162 :: u163 :: u164 :: u165 :: u166 :: u167 :: u168 :: u169 :: u170 :: u171 :: u172 :: u173 :: u174 :: u175 :: u176 :: u177 :: u178 :: u179 :: u180 :: u181 :: u182 :: u183 :: u184 :: u185 :: u186 :: u187 :: u188 :: u189 :: u190 :: u191 :: u192 :: u193 :: u194 :: u195 :: u196 :: u197 :: u198 :: u199 :: u200 :: u201 :: u202 :: u203 :: u204 :: u205 :: u206 :: u207 :: u208 :: u209 :: u210 :: u211 :: u212 :: u213 :: u214 :: u215 :: u216 :: u217 :: u218 :: u219 :: u220 :: u221 :: u222 :: u223 :: u224 :: u225 :: u226 :: u227 :: u228 :: u229 :: u230 :: u231 :: u232 :: u233 :: u234 :: u235 :: u236 :: u237 :: u238 :: u239 :: u240 :: u241 :: u242 :: u243 :: u244 :: u245 :: u246 :: c247 :: []), []⟩ W) :
    Code.wp Tryz.prog (.loop bodyC0) Q0 ⟨List.toArray (.int .u32 (n : Int) :: .slice pa m cap :: c2 :: c3 :: c4 :: .pointer (some ⟨p, 0, none⟩) :: c6 :: .pointer (some ⟨q7, 0, none⟩) :: c8 :: .int .i64 0 :: c10 :: c11 :: c12 :: c13 :: c14 :: c15 :: c16 :: c17 :: c18 :: c19 :: c20 :: c21 :: c22 :: c23 :: c24 :: c25 :: c26 :: c27 :: c28 :: c29 :: c30 :: c31 :: c32 :: c33 :: c34 :: c35 :: c36 :: c37 :: c38 :: c39 :: c40 :: c41 :: c42 :: c43 :: c44 :: c45 :: c46 :: c47 :: c48 :: c49 :: c50 :: c51 :: c52 :: c53 :: c54 :: c55 :: c56 :: c57 :: c58 :: c59 :: c60 :: c61 :: c62 :: c63 :: c64 :: c65 :: c66 :: c67 :: c68 :: c69 :: c70 :: c71 :: c72 :: c73 :: c74 :: c75 :: c76 :: c77 :: c78 :: c79 :: c80 :: c81 :: c82 :: c83 :: c84 :: c85 :: c86 :: c87 :: c88 :: c89 :: c90 :: c91 :: c92 :: c93 :: c94 :: c95 :: c96 :: c97 :: c98 :: c99 :: c100 :: c101 :: c102 :: c103 :: c104 :: c105 :: c106 :: c107 :: c108 :: c109 :: c110 :: c111 :: c112 :: c113 :: c114 :: c115 :: c116 :: c117 :: c118 :: c119 :: c120 :: c121 :: c122 :: c123 :: c124 :: c125 :: c126 :: c127 :: c128 :: c129 :: c130 :: c131 :: c132 :: c133 :: c134 :: c135 :: c136 :: c137 :: c138 :: c139 :: c140 :: c141 :: c142 :: c143 :: c144 :: c145 :: c146 :: c147 :: c148 :: c149 :: c150 :: c151 :: c152 :: c153 :: c154 :: c155 :: c156 :: c157 :: c158 :: c159 :: c160 :: c161 :: c162 :: c163 :: c164 :: c165 :: c166 :: c167 :: c168 :: c169 :: c170 :: c171 :: c172 :: c173 :: c174 :: c175 :: c176 :: c177 :: c178 :: c179 :: c180 :: c181 :: c182 :: c183 :: c184 :: c185 :: c186 :: c187 :: c188 :: c189 :: c190 :: c191 :: c192 :: c193 :: c194 :: c195 :: c196 :: c197 :: c198 :: c199 :: c200 :: c201 :: c202 :: c203 :: c204 :: c205 :: c206 :: c207 :: c208 :: c209 :: c210 :: c211 :: c212 :: c213 :: c214 :: c215 :: c216 :: c217 :: c218 :: c219 :: c220 :: c221 :: c222 :: c223 :: c224 :: c225 :: c226 :: c227 :: c228 :: c229 :: c230 :: c231 :: c232 :: c233 :: c234 :: c235 :: c236 :: c237 :: c238 :: c239 :: c240 :: c241 :: c242 :: c243 :: c244 :: c245 :: c246 :: c247 :: []), []⟩ W0 := by
  have HEX := Lib.hid hexit; clear hexit
  have HX := Lib.hid hx; clear hx
  have HLEN := Lib.hid hm; clear hm
  have HI0 : Hid (Hall w [.dev p s0] [(q7, rootO (rg 1 n 0))] W0 ∧ Rot.Calm s0 ∧ s0.n = n ∧ Sound s0 0 ∧ (0 : Nat) < 2 ∧ 1 ≤ 1) := Lib.hid ⟨h0, hC, hsn, hS, by omega, by omega⟩
  clear h0 hC hsn hS
  obtain ⟨h64, h5k⟩ := hn
  have HQ7 := Lib.hid hq7; clear hq7
  conv => arg 2; arg 1; whnf
  go_loopw [9] (fun v9 W => ∃ (i g ch : Nat) (s : DS), v9 = .int .i64 (i : Int) ∧ (i ≤ m ∧ i ≤ 60 ∧ g ≤ 1 + i) ∧ Hid (Hall w [.dev p s] [(q7, rootO (rg g n ch))] W ∧ Rot.Calm s ∧ s.n = n ∧ Sound s ch ∧ ch < 2 ∧ 1 ≤ g)) (fun v9 _ => 60 - (intOf v9).toNat)
  case atStart => exact ⟨0, 1, 0, s0, rfl, by omega, HI0⟩
  case round =>
    clear HI0
    obtain ⟨i, g, ch, s, rfl, hi, HI⟩ := hrel
    obtain ⟨hi1, hi2, hi3⟩ := hi
    by_cases him : i < m
    · by_cases hi60 : i < 60
      · have i0 : (i : Int) < (m : Int) := by omega
        have i1 : (i : Int) < 60 := by omega
        have HSN := Lib.hid HI.out.2.2.1
        have hch := HI.out.2.2.2.2.1
        have hg1 := HI.out.2.2.2.2.2
        have hgood := rg_good (g := g) (n := n) (pk := ch) (by omega) hch h64 h5k
        have o7 : wr.heap[q7]? = some (.cells (cells (rg g n ch)) 31 (0, 0)) := HI.out.1.at_ (q := q7) (o := rootO (rg g n ch)) List.mem_cons_self
        have HC : Hid (Calls Tryz.prog 12 #[.pointer (some ⟨p, 0, none⟩), .agg (cells (rg g n ch))] wr fun e W' => ∃ t, e = .returned (.tuple #[.pointer (some ⟨t, 0, none⟩), .int .i64 0]) ∧ Hall w [.dev p s, .tab t (tdOf p s ch)] [(q7, rootO (rg g n ch))] W') :=
          Lib.hid (Hall.open_ HI.out.1 (i := 0) rfl HI.out.2.2.2.1.plan (r := rg g n ch) HSN.out.symm (by show ch < 4294967296; omega))
        have HCS := Lib.hid (And.intro HI.out.2.1 HI.out.2.2.2.1)
        clear HI hgood
        go_wp2_with (refine wpList_load_row rfl 31 _ rfl q7 rfl _ _ _ _ o7 Tryz.underlying31 rfl (Slt.sizeR _) ?_)
        refine HC.out.mono ?_
        clear HC o7
        rintro e W2 ⟨t, rfl, hh⟩
        have heq := eqTab t
        have HM := Lib.hid hh
        have HL := Lib.hid (Live.open_ (p := p) HCS.out.2 HSN.out)
        clear hh
        obtain ⟨W3, hW3⟩ : ∃ W3, W3 = W2 := ⟨_, rfl⟩
        rw [← hW3] at HM ⊢
        clear hW3
        go_wp2_with fail
        refine commits_sets HLEN.out HX.out ⟨h64, h5k⟩ ⟨him, hi60⟩ rfl HM.out HL.out ?_
        intro _ _ _ _ _ _ _ _ _ _ _ _ _ _ _ _ _ _ _ _ _ _ _ _ _ _ _ _ _ _ _ _ _ _ _ _ _ _ _ _ _ _ _ _ _ _ _ _ _ _ _ _ _ _ _ _ _ W4 T k hh hL hk1 hk2 hk3
        clear HM HL heq
        have HS : Hid (Calls Tryz.prog 15 #[.pointer (some ⟨t, 0, none⟩)] W4 fun e W' => ∃ (pv : Option Addr) (len cv sc : Nat) (KS : List (Nat × Obj)) (xs' : List (Nat × List UInt8)) (s' : DS), e = .returned (.tuple #[.slice pv len cv, .int .u32 (sc : Int), .int .i64 0]) ∧ Hall w [.dev p s, .tab t T] (KS ++ [(q7, rootO (rg g n ch))]) W' ∧
            Hid ((∀ V, (∀ x ∈ KS, V.heap[x.1]? = some x.2) → Puts V pv xs') ∧ (∀ K', (∀ x ∈ KS, x ∈ K') → Here w K' pv xs') ∧ (∀ x ∈ KS, W4.heap.size ≤ x.1) ∧ len = xs'.length ∧ len ≤ 1000) ∧ Hid (commitF s xs' (rg (g + 1) n sc) = (s', 0)) ∧ sc < 2 ∧ Hid (Nxt s s' ch sc n T)) := Lib.hid (by
          refine (Hall.sealed sortOk hh (i := 1) (j := 0) (T := T) (s := s) rfl (by rw [hL.d]; rfl) hL.reads (hL.keys h5k) (by rw [hL.n]; omega)).mono ?_
          rintro e W' ⟨⟨v, ks, rfl, hks, hmem, hr⟩, hh', hb⟩
          obtain ⟨s', hcm, hsc, hnx⟩ := next_of (g := g) HCS.out.1 h64 h5k HCS.out.2 hL HSN.out hch (by omega) hks hmem
          have hrng := seal_rng hL.ok (by rw [hL.n]; exact h5k) hmem
          have hpf := plan_facts h64 (show n ≤ 1048576 by omega)
          obtain ⟨pv, cv, KS, hv, hH, hP, hE, hB⟩ := hh.puts hb hh' rfl hr (fun x hx => ⟨by have := hrng x hx; rw [hL.n] at this; omega, seal_lens' hL.ok ks x hx⟩)
          have hcl : (chs T ks).length ≤ 255 := Nat.le_trans (List.length_filter_le _ _) (hL.keys h5k ks (hks.imp fun h => Nat.ne_of_lt h) hmem)
          have hsl := Good.seal_len (T := T) ks
          have hm1 : min (chs T ks).length 1 ≤ 1 := Nat.min_le_right _ _
          exact ⟨pv, _, cv, sealCh T ks, KS, sealL T ks, s', by rw [hv], hH, Lib.hid ⟨hP.out, hE.out, hB.out, rfl, by omega⟩, Lib.hid hcm, hsc, Lib.hid hnx⟩)
        have HL := Lib.hid hL
        have HQL : Hid (q7 < W4.heap.size) := Lib.hid (hh.lt_ (q := q7) (o := rootO (rg g n ch)) (by simp))
        clear hh hL
        go_wp2_with fail
        refine HS.out.mono ?_
        clear HS
        rintro e W5 ⟨pv, len, cv, sc, KS, xs', s', rfl, hh, HKS, HCM, hsc, HNX⟩
        have hm6 := hh.alloc (rootO (rg g n ch))
        have o7 : W5.heap[q7]? = some (.cells (cells (rg g n ch)) 31 (0, 0)) := hh.at_ (q := q7) (o := rootO (rg g n ch)) (by simp)
        have HQ17 : Hid (q7 < W5.heap.size ∧ (∀ x ∈ KS, x.1 < W5.heap.size) ∧ ∀ x ∈ KS, x.1 ≠ q7) := Lib.hid ⟨hh.lt_ (q := q7) (o := rootO (rg g n ch)) (by simp), fun x hx => hh.lt_ (q := x.1) (o := x.2) (by simp [hx]), fun x hx e => by have := HKS.out.2.2.1 x hx; have := HQL.out; omega⟩
        clear hh HQL
        have tok : True := trivial
        go_upto_region 20 with (first | (refine wpList_load_row rfl 31 (.tmp 7) rfl q7 rfl _ _ _ _ o7 Tryz.underlying31 rfl (Slt.sizeR _) ?_) | (have _t := tok; refine wpList_store_new rfl 31 _ _ rfl (cells (rg g n ch)) _ _ rfl rfl (Slt.sizeR _) rfl (cells_one _) ?_; change wpList _ _ _ _ _ (W5.alloc (rootO (rg g n ch))); clear _t tok))
        change Code.wp _ _ _ _ (W5.alloc (rootO (rg g n ch)))
        clear o7
        have HB6 := Lib.hid (show Below W5.heap.size W5 (W5.alloc (rootO (rg g n ch))) from (Below.refl _ _).alloc (Nat.le_refl _) _)
        obtain ⟨q17, hq17⟩ : ∃ q, q = W5.heap.size := ⟨_, rfl⟩
        rw [← hq17] at hm6 HQ17 ⊢
        generalize W5.alloc (rootO (rg g n ch)) = W6 at hm6 ⊢
        clear hq17 HB6
        have h6 : Hall w [.dev p s, .tab t T] ((q7, rootO (rg g n ch)) :: (q17, rootO (rg g n ch)) :: KS) W6 := hm6.less (fun x hx => by
          simp only [List.mem_cons, List.mem_append, List.not_mem_nil, or_false] at hx ⊢
          rcases hx with h | h | h
          · exact .inr (.inr h)
          · exact .inl h
          · exact .inr (.inl h))
        have c0 : W6.cell? ⟨q7, 0, none⟩ = some (.int .u64 (g : Int)) := (cell_of_row W6 q7 0 _ _ _ (h6.at_ (q := q7) (o := rootO (rg g n ch)) (by simp))).trans rfl
        have c2 : W6.cell? ⟨q7, 2, none⟩ = some (.int .u32 (ch : Int)) := (cell_of_row W6 q7 2 _ _ _ (h6.at_ (q := q7) (o := rootO (rg g n ch)) (by simp))).trans rfl
        have f7 : ∀ j, W6.frozen? ⟨q7, j, none⟩ = false := fun j => frozen_of_row W6 q7 j _ _ (h6.at_ (q := q7) (o := rootO (rg g n ch)) (by simp))
        have zg : IntKind.u64.wrap ((g : Int) + 1) = (g : Int) + 1 := IntWalk.u64_in _ (by omega)
        have hne7 : ∀ (o : Obj), ∀ x ∈ (q17, o) :: KS, x.1 ≠ q7 := fun o x hx => by
          rcases List.mem_cons.1 hx with rfl | hx
          · exact fun e => by have := HQ17.out.1; simp only at e; omega
          · exact HQ17.out.2.2 x hx
        have h7 : Hall w [.dev p s, .tab t T] ((q7, rootO (rg (g + 1) n sc)) :: (q17, rootO (rg g n ch)) :: KS) ((W6.setCell ⟨q7, 0, none⟩ (.int .u64 ((g + 1 : Nat) : Int))).setCell ⟨q7, 2, none⟩ (.int .u32 (sc : Int))) := by
          have h := (h6.setCell (j := 0) (v := .int .u64 ((g + 1 : Nat) : Int)) HQ7.out (hne7 _))
          rw [rg_set0] at h
          have h' := (h.setCell (j := 2) (v := .int .u32 (sc : Int)) HQ7.out (hne7 _))
          rw [rg_set2] at h'
          exact h'
        rw [show ((g + 1 : Nat) : Int) = (g : Int) + 1 by omega] at h7
        have HM := Lib.hid h7
        clear h6 h7 hm6 hne7
        go_upto_region 22 with fail
        generalize (W6.setCell ⟨q7, 0, none⟩ (.int .u64 ((g : Int) + 1))).setCell ⟨q7, 2, none⟩ (.int .u32 (sc : Int)) = W7 at HM ⊢
        clear c0 c2 f7 zg
        have HC : Hid (Calls Tryz.prog 16 #[.pointer (some ⟨p, 0, none⟩)] W7 fun e W' => ∃ pc, e = .returned (.pointer (some ⟨pc, 0, none⟩)) ∧ Hall w [.dev p s, .tab t T, .dev pc s] ((q7, rootO (rg (g + 1) n sc)) :: (q17, rootO (rg g n ch)) :: KS) W') :=
          Lib.hid (HM.out.copy (i := 0) rfl (by rw [HCS.out.1.pend]; decide))
        clear HM
        go_wp2_with fail
        refine HC.out.mono ?_
        clear HC
        rintro e W8 ⟨pc, rfl, hh⟩
        have hgood := rg_good (g := g + 1) (n := n) (pk := sc) (by omega) hsc h64 h5k
        have HC : Hid (Calls Tryz.prog 17 #[.pointer (some ⟨p, 0, none⟩), .slice pv len cv, .agg (cells (rg (g + 1) n sc))] W8 fun e W' => e = .returned (.int .i64 0) ∧ Hall w [.dev p s', .tab t T, .dev pc s] ((q7, rootO (rg (g + 1) n sc)) :: (q17, rootO (rg g n ch)) :: KS) W') :=
          Lib.hid (hh.commit (i := 0) rfl HCS.out.2.plan HKS.out.2.2.2.1 (HKS.out.1 W8 (fun x hx => hh.at_ (q := x.1) (o := x.2) (by simp [hx]))) (HKS.out.2.1 _ (fun x hx => by simp [hx])) hgood.fits (by have := HKS.out.2.2.2.1; have := HKS.out.2.2.2.2; rw [HCS.out.1.pend]; simp only [List.length_nil]; omega) HCM.out)
        have o7 : W8.heap[q7]? = some (.cells (cells (rg (g + 1) n sc)) 31 (0, 0)) := hh.at_ (q := q7) (o := rootO (rg (g + 1) n sc)) (by simp)
        clear hh
        go_wp2_with (refine wpList_load_want (by rfl) 31 _ rfl q7 rfl _ _ _ _ o7 Tryz.underlying31 rfl (Slt.sizeR _) ?_)
        refine HC.out.mono ?_
        clear HC o7
        rintro e W9 ⟨rfl, hh⟩
        have o7 : W9.heap[q7]? = some (.cells (cells (rg (g + 1) n sc)) 31 (0, 0)) := hh.at_ (q := q7) (o := rootO (rg (g + 1) n sc)) (by simp)
        have HC : Hid (Calls Tryz.prog 12 #[.pointer (some ⟨p, 0, none⟩), .agg (cells (rg (g + 1) n sc))] W9 fun e W' => ∃ u, e = .returned (.tuple #[.pointer (some ⟨u, 0, none⟩), .int .i64 0]) ∧ Hall w [.dev p s', .tab t T, .dev pc s, .tab u (tdOf p s' sc)] ((q7, rootO (rg (g + 1) n sc)) :: (q17, rootO (rg g n ch)) :: KS) W') :=
          Lib.hid (Hall.open_ hh (i := 0) rfl HNX.out.snew.plan (r := rg (g + 1) n sc) HNX.out.size_.symm (by show sc < 4294967296; omega))
        clear hh
        go_wp2_with (refine wpList_load_row rfl 31 _ rfl q7 rfl _ _ _ _ o7 Tryz.underlying31 rfl (Slt.sizeR _) ?_)
        refine HC.out.mono ?_
        clear HC o7
        rintro e W10 ⟨u, rfl, hh⟩
        have o17 : W10.heap[q17]? = some (.cells (cells (rg g n ch)) 31 (0, 0)) := hh.at_ (q := q17) (o := rootO (rg g n ch)) (by simp)
        have HC : Hid (Calls Tryz.prog 12 #[.pointer (some ⟨p, 0, none⟩), .agg (cells (rg g n ch))] W10 fun e W' => ∃ v, e = .returned (.tuple #[.pointer (some ⟨v, 0, none⟩), .int .i64 0]) ∧ Hall w [.dev p s', .tab t T, .dev pc s, .tab u (tdOf p s' sc), .tab v (tdOf p s' ch)] ((q7, rootO (rg (g + 1) n sc)) :: (q17, rootO (rg g n ch)) :: KS) W') :=
          Lib.hid (Hall.open_ hh (i := 0) rfl HNX.out.snew.plan (r := rg g n ch) HNX.out.size_.symm (by show ch < 4294967296; omega))
        clear hh
        go_wp2_with (refine wpList_load_row rfl 31 _ rfl q17 rfl _ _ _ _ o17 Tryz.underlying31 rfl (Slt.sizeR _) ?_)
        refine HC.out.mono ?_
        clear HC o17
        rintro e W11 ⟨v, rfl, hh⟩
        have o17 : W11.heap[q17]? = some (.cells (cells (rg g n ch)) 31 (0, 0)) := hh.at_ (q := q17) (o := rootO (rg g n ch)) (by simp)
        have HC : Hid (Calls Tryz.prog 12 #[.pointer (some ⟨pc, 0, none⟩), .agg (cells (rg g n ch))] W11 fun e W' => ∃ x, e = .returned (.tuple #[.pointer (some ⟨x, 0, none⟩), .int .i64 0]) ∧ Hall w [.dev p s', .tab t T, .dev pc s, .tab u (tdOf p s' sc), .tab v (tdOf p s' ch), .tab x (tdOf pc s ch)] ((q7, rootO (rg (g + 1) n sc)) :: (q17, rootO (rg g n ch)) :: KS) W') :=
          Lib.hid (Hall.open_ hh (i := 2) rfl HCS.out.2.plan (r := rg g n ch) HSN.out.symm (by show ch < 4294967296; omega))
        clear hh
        go_wp2_with (refine wpList_load_row rfl 31 _ rfl q17 rfl _ _ _ _ o17 Tryz.underlying31 rfl (Slt.sizeR _) ?_)
        refine HC.out.mono ?_
        clear HC o17
        rintro e W12 ⟨x, rfl, hh⟩
        have HM : Hid (Hall w [.dev p s', .tab t T, .dev pc s, .tab u (tdOf p s' sc), .tab v (tdOf p s' ch), .tab x (tdOf pc s ch)] [(q7, rootO (rg (g + 1) n sc))] W12) := Lib.hid (hh.less (fun x hx => by simp only [List.mem_singleton] at hx; subst hx; simp))
        have hequ := eqTab u
        have heqv := eqTab v
        have heqx := eqTab x
        clear hh HKS HCM HQ17
        obtain ⟨W13, hW13⟩ : ∃ W13, W13 = W12 := ⟨_, rfl⟩
        rw [← hW13] at HM ⊢
        clear hW13
        go_wp2_with fail
        clear hequ heqv heqx
        refine commits_checks HLEN.out HX.out ⟨h64, h5k⟩ ⟨hk2, hk3⟩ ⟨HNX.out.reads, HL.out.n, HL.out.d⟩ ⟨HNX.out.snew.reads p, HNX.out.size_, rfl⟩ ⟨HNX.out.sold.reads p, HNX.out.size_, rfl⟩ ⟨HCS.out.2.reads pc, HSN.out, rfl⟩ (fun a ha => HNX.out.new_ p a ha) (fun a ha => HNX.out.old p pc a ha) HM.out ?_
        intro _ _ _ _ _ _ _ _ _ _ _ _ _ _ _ _ _ _ _ _ _ _ _ _ _ _ _ _ _ _ _ _ _ _ _ _ _ _ _ _ _ _ _ _ _ _ _ _ _ _ _ _ _ _ _ _ _ _ _ _ _ _ _ W14 hh
        have HF : Hid (Hall w [.dev p s'] [(q7, rootO (rg (g + 1) n sc))] W14 ∧ Rot.Calm s' ∧ s'.n = n ∧ Sound s' sc ∧ sc < 2 ∧ 1 ≤ g + 1) := Lib.hid ⟨Hall.front (l := [.dev p s']) hh, HNX.out.calm, HNX.out.size_, HNX.out.snew, hsc, by omega⟩
        clear hh HM HNX HL HCS HSN
        go_wp2_with fail
        go_roundw
        case rel => exact ⟨k, g + 1, sc, s', rfl, by omega, HF⟩
        case measure => simp [intOf]; omega
      · have i0 : (i : Int) < (m : Int) := by omega
        have i1 : ¬ (i : Int) < 60 := by omega
        go_wp2_with fail
        exact HEX.out _ _ _ _ _ _ _ _ _ _ _ _ _ _ _ _ _ _ _ _ _ _ _ _ _ _ _ _ _ _ _ _ _ _ _ _ _ _ _ _ _ _ _ _ _ _ _ _ _ _ _ _ _ _ _ _ _ _ _ _ _ _ _ _ _ _ _ _ _ _ _ _ _ _ _ _ _ _ _ _ _ _ _ _ _ _ _ _ _ _ _ _ _ _ _ _ _ _ _ _ _ _ _ _ _ _ _ _ _ _ _ _ _ _ _ _ _ _ _ _ _ _ _ _ _ _ _ _ _ _ _ _ _ _ _ _ _ _ _ _ _ _ _ _ _ _ _ _ _ _ _ _ _ _ _ _ _ _ _ _ _ _ _ _ _ _ _ _ _ _ _ _ _ _ _ _ _ _ _ _ _ _ _ _ _ _ _ _ _ _ _ _ _ _ _ _ _ _ _ _ _ _ _ _ _ _ _ _ _ _ _ _ _ _ _ _ _ _ _ _ _ HI.out.1.bel
    · have i0 : ¬ (i : Int) < (m : Int) := by omega
      go_wp2_with fail
      exact HEX.out _ _ _ _ _ _ _ _ _ _ _ _ _ _ _ _ _ _ _ _ _ _ _ _ _ _ _ _ _ _ _ _ _ _ _ _ _ _ _ _ _ _ _ _ _ _ _ _ _ _ _ _ _ _ _ _ _ _ _ _ _ _ _ _ _ _ _ _ _ _ _ _ _ _ _ _ _ _ _ _ _ _ _ _ _ _ _ _ _ _ _ _ _ _ _ _ _ _ _ _ _ _ _ _ _ _ _ _ _ _ _ _ _ _ _ _ _ _ _ _ _ _ _ _ _ _ _ _ _ _ _ _ _ _ _ _ _ _ _ _ _ _ _ _ _ _ _ _ _ _ _ _ _ _ _ _ _ _ _ _ _ _ _ _ _ _ _ _ _ _ _ _ _ _ _ _ _ _ _ _ _ _ _ _ _ _ _ _ _ _ _ _ _ _ _ _ _ _ _ _ _ _ _ _ _ _ _ _ _ _ _ _ _ _ _ _ _ _ _ _ _ HI.out.1.bel
end Go.Proofs.YtojpcgjmainbfaaGreat.Cnt

