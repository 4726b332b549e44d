/-
  CntH: CntAp1, CntAp2, CntAp3.
-/
import Derived.Test.YtojpcgjmainbfaaGreatCntG
import Derived.BigRegion
import Derived.BigQuiet
/-
  CountApart's first loop: the counts are set, and kept in a row.
-/
namespace Go.Proofs.YtojpcgjmainbfaaGreat.Cnt
open Go.RowKit Go.Maps Go.MapKept RowLaw Crc
open Go.Proofs.YtojpcgjmainbfaaGreat.Dev (Dev DS ptr)
open Go.Proofs.YtojpcgjmainbfaaGreat.Rot (planOk tlN pkN fsN)
set_option maxRecDepth 100000
noncomputable def bodyA0 : Code := ((Tryz.f4.body.bind fun c => (loopsOf c)[0]?).getD .skip)
noncomputable def bodyA1 : Code := ((Tryz.f4.body.bind fun c => (loopsOf c)[1]?).getD .skip)
noncomputable def bodyA2 : Code := ((Tryz.f4.body.bind fun c => (loopsOf c)[2]?).getD .skip)
noncomputable def bodyA3 : Code := ((Tryz.f4.body.bind fun c => (loopsOf c)[3]?).getD .skip)
set_option linter.unusedVariables false in
set_option linter.unusedSimpArgs false in
set_option maxHeartbeats 12800000 in
theorem apart_sets {w : World} {p t gN n capN m cap : Nat} {s : DS} {xs : List St} {pa : Option Addr} {KL : List (Nat × Obj)} (hm : m = xs.length) (hx : Sts w pa xs) (hn : 64 ≤ n ∧ n ≤ 5000) (hgw : w.heap.size ≤ gN) (hK : ∀ x ∈ KL, x.1 ≠ gN)
    {Q0 : Exit → Act → World → Prop} {c2 c3 c4 c5 c6 c7 c8 c10 c13 c14 c15 c16 c17 c18 c19 c20 c21 c22 c23 c24 c25 c26 c27 c28 c29 c30 c31 c32 c33 c34 c35 c36 c37 c38 c39 c40 c41 c42 c43 c44 c45 c46 c47 c48 c49 c50 c51 c52 c53 c54 c55 c56 c57 c58 c59 c60 c61 c62 c63 c64 c65 c66 c67 c68 c69 c70 c71 c72 c73 c74 c75 c76 c77 c78 c79 c80 c81 c82 c83 c84 c85 c86 c87 c88 c89 c90 c91 c92 c93 c94 c95 c96 c97 c98 c99 c100 c101 c102 c103 c104 c105 c106 c107 c108 c109 c110 c111 c112 c113 c114 c115 c116 c117 c118 c119 c120 c121 c122 c123 c124 c125 c126 c127 c128 c129 c130 c131 c132 c133 c134 c135 c136 c137 c138 c139 c140 c141 c142 c143 c144 c145 c146 c147 c148 c149 c150 c151 c152 c153 c154 c155 c156 c157 c158 c159 c160 c161 c162 c163 c164 c165 c166 c167 c168 c169 c170 c171 c172 c173 c174 c175 c176 c177 c178 c179 c180 c181 c182 c183 c184 c185 c186 c187 c188 c189 c190 c191 c192 c193 c194 c195 c196 c197 c198 c199 c200 c201 c202 c203 c204 c205 c206 c207 c208 c209 c210 c211 c212 c213 c214 c215 c216 c217 c218 c219 c220 c221 c222 c223 c224 c225 c226 c227 c228 c229 c230 c231 c232 c233 c234 c235 c236 c237 c238 c239 c240 c241 c242 c243 c244 : Value} {W0 : World} {T0 : TD} {A0 : List Nat} (h0 : Hall w [.dev p s, .tab t T0] ((gN, nowO A0) :: KL) W0) (hG : Good s T0) (hA : NowIs T0 A0) (hTn : T0.n = n) (hTd : T0.d = p)
    (hexit : ∀ (u12 u59 u60 u61 u62 u63 u64 u65 u66 u67 u68 u69 u70 u71 u72 u73 u74 u75 u76 u77 u78 u79 u80 u81 u82 u83 u84 u85 u86 u87 u88 u89 u90 u91 u92 u93 u94 u95 : Value) (W : World) (T : TD) (A : List Nat), Hall w [.dev p s, .tab t T] ((gN, nowO A) :: KL) W → Good s T → NowIs T A → T.n = n → T.d = p → Q0 (.exit 0) ⟨List.toArray (.int .u32 (n : Int) :: .slice pa m cap :: c2 :: c3 :: c4 :: c5 :: c6 :: c7 :: c8 :: .pointer (some ⟨t, 0, none⟩) :: c10 :: .slice (some ⟨gN, 0, none⟩) n capN :: u12 :: c13 :: c14 :: c15 :: c16 :: c17 :: c18 :: c19 :: c20 :: c21 :: c22 :: c23 :: c24 :: c25 :: c26 :: c27 :: c28 :: c29 :: c30 :: c31 :: c32 :: c33 :: c34 :: c35 :: c36 :: c37 :: c38 :: c39 :: c40 :: c41 :: c42 :: c43 :: c44 :: c45 :: c46 :: c47 :: c48 :: c49 :: c50 :: c51 :: c52 :: c53 :: c54 :: c55 :: c56 :: c57 :: c58 :: u59 :: u60 :: u61 :: u62 :: u63 :: u64 :: u65 :: u66 :: u67 :: u68 :: u69 :: u70 :: u71 :: u72 :: u73 :: u74 :: u75 :: u76 :: u77 :: u78 :: u79 :: u80 :: u81 :: u82 :: u83 :: u84 :: u85 :: u86 :: u87 :: u88 :: u89 :: u90 :: u91 :: u92 :: u93 :: u94 :: u95 :: c96 :: c97 :: c98 :: c99 :: c100 :: c101 :: c102 :: c103 :: c104 :: c105 :: c106 :: c107 :: c108 :: c109 :: c110 :: c111 :: c112 :: c113 :: c114 :: c115 :: c116 :: c117 :: c118 :: c119 :: c120 :: c121 :: c122 :: c123 :: c124 :: c125 :: c126 :: c127 :: c128 :: c129 :: c130 :: c131 :: c132 :: c133 :: c134 :: c135 :: c136 :: c137 :: c138 :: c139 :: c140 :: c141 :: c142 :: c143 :: c144 :: c145 :: c146 :: c147 :: c148 :: c149 :: c150 :: c151 :: c152 :: c153 :: c154 :: c155 :: c156 :: c157 :: c158 :: c159 :: c160 :: c161 :: c162 :: c163 :: c164 :: c165 :: c166 :: c167 :: c168 :: c169 :: c170 :: c171 :: c172 :: c173 :: c174 :: c175 :: c176 :: c177 :: c178 :: c179 :: c180 :: c181 :: c182 :: c183 :: c184 :: c185 :: c186 :: c187 :: c188 :: c189 :: c190 :: c191 :: c192 :: c193 :: c194 :: c195 :: c196 :: c197 :: c198 :: c199 :: c200 :: c201 :: c202 :: c203 :: c204 :: c205 :: c206 :: c207 :: c208 :: c209 :: c210 :: c211 :: c212 :: c213 :: c214 :: c215 :: c216 :: c217 :: c218 :: c219 :: c220 :: c221 :: c222 :: c223 :: c224 :: c225 :: c226 :: c227 :: c228 :: c229 :: c230 :: c231 :: c232 :: c233 :: c234 :: c235 :: c236 :: c237 :: c238 :: c239 :: c240 :: c241 :: c242 :: c243 :: c244 :: []), []⟩ W) :
    Code.wp Tryz.prog (.loop bodyA0) Q0 ⟨List.toArray (.int .u32 (n : Int) :: .slice pa m cap :: c2 :: c3 :: c4 :: c5 :: c6 :: c7 :: c8 :: .pointer (some ⟨t, 0, none⟩) :: c10 :: .slice (some ⟨gN, 0, none⟩) n capN :: .int .i64 0 :: c13 :: c14 :: c15 :: c16 :: c17 :: c18 :: c19 :: c20 :: c21 :: c22 :: c23 :: c24 :: c25 :: c26 :: c27 :: c28 :: c29 :: c30 :: c31 :: c32 :: c33 :: c34 :: c35 :: c36 :: c37 :: c38 :: c39 :: c40 :: c41 :: c42 :: c43 :: c44 :: c45 :: c46 :: c47 :: c48 :: c49 :: c50 :: c51 :: c52 :: c53 :: c54 :: c55 :: c56 :: c57 :: c58 :: c59 :: c60 :: c61 :: c62 :: c63 :: c64 :: c65 :: c66 :: c67 :: c68 :: c69 :: c70 :: c71 :: c72 :: c73 :: c74 :: c75 :: c76 :: c77 :: c78 :: c79 :: c80 :: c81 :: c82 :: c83 :: c84 :: c85 :: c86 :: c87 :: c88 :: c89 :: c90 :: c91 :: c92 :: c93 :: c94 :: c95 :: c96 :: c97 :: c98 :: c99 :: c100 :: c101 :: c102 :: c103 :: c104 :: c105 :: c106 :: c107 :: c108 :: c109 :: c110 :: c111 :: c112 :: c113 :: c114 :: c115 :: c116 :: c117 :: c118 :: c119 :: c120 :: c121 :: c122 :: c123 :: c124 :: c125 :: c126 :: c127 :: c128 :: c129 :: c130 :: c131 :: c132 :: c133 :: c134 :: c135 :: c136 :: c137 :: c138 :: c139 :: c140 :: c141 :: c142 :: c143 :: c144 :: c145 :: c146 :: c147 :: c148 :: c149 :: c150 :: c151 :: c152 :: c153 :: c154 :: c155 :: c156 :: c157 :: c158 :: c159 :: c160 :: c161 :: c162 :: c163 :: c164 :: c165 :: c166 :: c167 :: c168 :: c169 :: c170 :: c171 :: c172 :: c173 :: c174 :: c175 :: c176 :: c177 :: c178 :: c179 :: c180 :: c181 :: c182 :: c183 :: c184 :: c185 :: c186 :: c187 :: c188 :: c189 :: c190 :: c191 :: c192 :: c193 :: c194 :: c195 :: c196 :: c197 :: c198 :: c199 :: c200 :: c201 :: c202 :: c203 :: c204 :: c205 :: c206 :: c207 :: c208 :: c209 :: c210 :: c211 :: c212 :: c213 :: c214 :: c215 :: c216 :: c217 :: c218 :: c219 :: c220 :: c221 :: c222 :: c223 :: c224 :: c225 :: c226 :: c227 :: c228 :: c229 :: c230 :: c231 :: c232 :: c233 :: c234 :: c235 :: c236 :: c237 :: c238 :: c239 :: c240 :: c241 :: c242 :: c243 :: c244 :: []), []⟩ W0 := by
  have HEX := Lib.hid hexit; clear hexit
  have HX := Lib.hid hx; clear hx
  have HKN := Lib.hid hK; clear hK
  have HM0 := Lib.hid (And.intro h0 (And.intro hG (And.intro hA (And.intro hTn hTd)))); clear h0 hG hA hTn hTd
  have HLEN := Lib.hid hm; clear hm
  have HGW := Lib.hid hgw; clear hgw
  conv => arg 2; arg 1; whnf
  go_loopw [12] (fun v12 W => ∃ (j : Nat) (T : TD) (A : List Nat), v12 = .int .i64 (j : Int) ∧ (j ≤ m ∧ j ≤ 60) ∧ Hid (Hall w [.dev p s, .tab t T] ((gN, nowO A) :: KL) W ∧ Good s T ∧ NowIs T A ∧ T.n = n ∧ T.d = p)) (fun v12 _ => 60 - (intOf v12).toNat)
  case atStart => exact ⟨0, T0, A0, rfl, by omega, HM0⟩
  case round =>
    clear HM0
    obtain ⟨j, T, A, rfl, hj, hh⟩ := hrel
    obtain ⟨hj1, hj2⟩ := hj
    by_cases hjm : j < m ∧ j < 60
    · obtain ⟨hjm1, hjm2⟩ := hjm
      have hjl : j < xs.length := by have := HLEN.out; omega
      obtain ⟨b, off, rfl, hfit, hcs⟩ := HX.out.cells hjl
      obtain ⟨a, ha⟩ : ∃ a, a = xs[j].a := ⟨_, rfl⟩
      obtain ⟨v, hv⟩ : ∃ v, v = xs[j].n := ⟨_, rfl⟩
      obtain ⟨hf1, hf2, _⟩ := hfit
      rw [← ha] at hf1
      rw [← hv] at hf2
      have HC : Hid (∀ W, Below w.heap.size w W → W.cell? ⟨b, off + j * 260, none⟩ = some (.int .u32 (a : Int)) ∧ W.cell? ⟨b, off + j * 260 + 1, none⟩ = some (.int .u16 (v : Int))) := Lib.hid (fun W hW => by rw [ha, hv]; exact ⟨(hcs W hW).1, (hcs W hW).2.1⟩)
      clear hcs ha hv
      obtain ⟨hH, hG, hA, hTn, hTd⟩ := hh.out
      have i0 : (j : Int) < (m : Int) := by omega
      have i1 : (j : Int) < 60 := by omega
      have i2 : (0 : Int) ≤ (j : Int) := by omega
      have z2 : IntKind.i64.wrap ((j : Int) + 1) = (j : Int) + 1 := IntWalk.i64_in _ (by omega)
      by_cases hr : fsN n ≤ a ∧ a < n
      · have HSET : Hid (∀ W, Hall w [.dev p s, .tab t T] ((gN, nowO A) :: KL) W → Calls Tryz.prog 13 #[.pointer (some ⟨t, 0, none⟩), .int .u32 (a : Int), .int .u16 (v : Int)] W fun e W' => e = .returned (.int .i64 0) ∧ Hall w [.dev p s, .tab t (setS T a v)] ((gN, nowO A) :: KL) W') := Lib.hid (fun W hW => by
          have h := Hall.set_ hW (i := 1) (j := 0) (T := T) (s := s) rfl (by rw [hTd]; rfl) (by decide) hG.reads hf1 hf2
          have e : setE T.n a = 0 := by unfold setE; rw [hTn, if_pos hr]
          rw [e] at h
          exact h)
        have hGN : Good s (setS T a v) := hG.setS a hf2
        have hAN : NowIs (setS T a v) (A.set a v) := hA.setS hG.ok (by rw [hTn]; exact hr)
        have HN := Lib.hid (And.intro hGN (And.intro hAN (And.intro ((setS_same T a v).1.trans hTn) ((setS_same T a v).2.1.trans hTd))))
        have hal : a < A.length := by rw [hA.len, hTn]; exact hr.2
        have HAL := Lib.hid hal
        have HM := Lib.hid hH
        clear hh hH hG hA hTn hTd hGN hAN hal
        go_upto_region 12 with fail
        refine wp_region_noPanic ?_
        refine wp_region_held_drew (S := fun W => W.cell? ⟨b, off + j * 260, none⟩ = some (.int .u32 (a : Int)) ∧ W.cell? ⟨b, off + j * 260 + 1, none⟩ = some (.int .u16 (v : Int))) (by kernel_rfl) (HC.out _ (HM.out.drew.bel)) ?_
        intro hS
        have HS := Lib.hid (HSET.out _ HM.out.drew)
        clear HSET HM
        generalize wr.drew = W1 at hS HS ⊢
        refine wpAnyH_take (i := 0) (v := .pointer (some ⟨t, 0, none⟩)) rfl (by kernel_rfl) (by kernel_rfl) (by kernel_rfl) (fun _ _ _ h => (h : False).elim) (Or.inl ⟨by rfl, fun _ _ => by go_simp⟩) hS ?_
        change wpAnyH _ _ _ _ _ _ _ (Act.put _ (some 69) _) _
        simp only [Act.put, List.setIfInBounds_toArray, List.set_cons_succ, List.set_cons_zero]
        refine wpAnyH_take (i := 1) (v := .slice (some ⟨b, off, none⟩) m cap) rfl (by kernel_rfl) (by kernel_rfl) (by kernel_rfl) (fun _ _ _ h => (h : False).elim) (Or.inl ⟨by rfl, fun _ _ => by go_simp⟩) hS ?_
        change wpAnyH _ _ _ _ _ _ _ (Act.put _ (some 70) _) _
        simp only [Act.put, List.setIfInBounds_toArray, List.set_cons_succ, List.set_cons_zero]
        refine wpAnyH_take (i := 2) (v := .int .i64 (j : Int)) rfl (by kernel_rfl) (by kernel_rfl) (by kernel_rfl) (fun _ _ _ h => (h : False).elim) (Or.inl ⟨by rfl, fun _ _ => by go_simp⟩) hS ?_
        change wpAnyH _ _ _ _ _ _ _ (Act.put _ (some 71) _) _
        simp only [Act.put, List.setIfInBounds_toArray, List.set_cons_succ, List.set_cons_zero]
        refine wpAnyH_take (i := 3) (v := .pointer (some ⟨b, off + j * 260, none⟩)) rfl (by kernel_rfl) (by kernel_rfl) (by kernel_rfl) (fun _ _ _ h => (h : False).elim) (Or.inl ⟨by rfl, fun _ _ => by go_simp⟩) hS ?_
        change wpAnyH _ _ _ _ _ _ _ (Act.put _ (some 72) _) _
        simp only [Act.put, List.setIfInBounds_toArray, List.set_cons_succ, List.set_cons_zero]
        refine wpAnyH_take (i := 4) (v := .pointer (some ⟨b, off + j * 260, none⟩)) rfl (by kernel_rfl) (by kernel_rfl) (by kernel_rfl) (fun _ _ _ h => (h : False).elim) (Or.inl ⟨by rfl, fun _ _ => by go_simp⟩) hS ?_
        change wpAnyH _ _ _ _ _ _ _ (Act.put _ (some 73) _) _
        simp only [Act.put, List.setIfInBounds_toArray, List.set_cons_succ, List.set_cons_zero]
        refine wpAnyH_take (i := 5) (v := .int .u32 (a : Int)) rfl (by kernel_rfl) (by kernel_rfl) (by kernel_rfl) (fun _ _ _ h => (h : False).elim) (Or.inl ⟨by rfl, fun w hw => by have c := hw.1; go_simp⟩) hS ?_
        change wpAnyH _ _ _ _ _ _ _ (Act.put _ (some 74) _) _
        simp only [Act.put, List.setIfInBounds_toArray, List.set_cons_succ, List.set_cons_zero]
        refine wpAnyH_take (i := 6) (v := .slice (some ⟨b, off, none⟩) m cap) rfl (by kernel_rfl) (by kernel_rfl) (by kernel_rfl) (fun _ _ _ h => (h : False).elim) (Or.inl ⟨by rfl, fun _ _ => by go_simp⟩) hS ?_
        change wpAnyH _ _ _ _ _ _ _ (Act.put _ (some 75) _) _
        simp only [Act.put, List.setIfInBounds_toArray, List.set_cons_succ, List.set_cons_zero]
        refine wpAnyH_take (i := 7) (v := .int .i64 (j : Int)) rfl (by kernel_rfl) (by kernel_rfl) (by kernel_rfl) (fun _ _ _ h => (h : False).elim) (Or.inl ⟨by rfl, fun _ _ => by go_simp⟩) hS ?_
        change wpAnyH _ _ _ _ _ _ _ (Act.put _ (some 76) _) _
        simp only [Act.put, List.setIfInBounds_toArray, List.set_cons_succ, List.set_cons_zero]
        refine wpAnyH_take (i := 8) (v := .pointer (some ⟨b, off + j * 260, none⟩)) rfl (by kernel_rfl) (by kernel_rfl) (by kernel_rfl) (fun _ _ _ h => (h : False).elim) (Or.inl ⟨by rfl, fun _ _ => by go_simp⟩) hS ?_
        change wpAnyH _ _ _ _ _ _ _ (Act.put _ (some 77) _) _
        simp only [Act.put, List.setIfInBounds_toArray, List.set_cons_succ, List.set_cons_zero]
        refine wpAnyH_take (i := 9) (v := .pointer (some ⟨b, off + j * 260 + 1, none⟩)) rfl (by kernel_rfl) (by kernel_rfl) (by kernel_rfl) (fun _ _ _ h => (h : False).elim) (Or.inl ⟨by rfl, fun _ _ => by go_simp⟩) hS ?_
        change wpAnyH _ _ _ _ _ _ _ (Act.put _ (some 78) _) _
        simp only [Act.put, List.setIfInBounds_toArray, List.set_cons_succ, List.set_cons_zero]
        refine wpAnyH_take (i := 10) (v := .int .u16 (v : Int)) rfl (by kernel_rfl) (by kernel_rfl) (by kernel_rfl) (fun _ _ _ h => (h : False).elim) (Or.inl ⟨by rfl, fun w hw => by have c := hw.2; go_simp⟩) hS ?_
        change wpAnyH _ _ _ _ _ _ _ (Act.put _ (some 79) _) _
        simp only [Act.put, List.setIfInBounds_toArray, List.set_cons_succ, List.set_cons_zero]
        refine wpAnyH_ready (rs := [11]) (by kernel_rfl) (by simp) ?_
        refine AllReadyH.cons rfl (fun K hK => ?_) AllReadyH.nil
        rw [if_pos (by rfl)]
        go_simp
        refine HS.out.mono ?_
        clear HS
        rintro e W2 ⟨rfl, hh⟩
        dsimp only
        refine hK _ _ (HC.out _ hh.bel) (fun _ => ?_)
        clear hK K
        have HM := Lib.hid hh
        clear hh hS
        have hS := HC.out _ HM.out.bel
        try simp only [Act.put, List.setIfInBounds_toArray, List.set_cons_succ, List.set_cons_zero]
        refine wpAnyH_take (i := 12) (v := .bool true) rfl (by kernel_rfl) (by kernel_rfl) (by kernel_rfl) (fun _ _ _ h => (h : False).elim) (Or.inl ⟨by rfl, fun _ _ => by go_simp⟩) hS ?_
        change wpAnyH _ _ _ _ _ _ _ (Act.put _ (some 81) _) _
        simp only [Act.put, List.setIfInBounds_toArray, List.set_cons_succ, List.set_cons_zero]
        refine wpAnyH_done (by kernel_rfl) ?_ _
        refine NoPanic.normal ?_
        have ca : W2.cell? ⟨b, off + j * 260, none⟩ = some (.int .u32 (a : Int)) := hS.1
        have cv : W2.cell? ⟨b, off + j * 260 + 1, none⟩ = some (.int .u16 (v : Int)) := hS.2
        have cn : W2.cell? ⟨gN, a, none⟩ = some (.int .u16 ((A.getD a 0 : Nat) : Int)) := (cell_of_row W2 gN a _ _ _ (HM.out.at_ (q := gN) (o := nowO A) (by simp))).trans (nowCs_get HAL.out)
        have fn : W2.frozen? ⟨gN, a, none⟩ = false := frozen_of_row W2 gN a _ _ (HM.out.at_ (q := gN) (o := nowO A) (by simp))
        have hn0 : ¬ n = 0 := by omega
        have hm1 : (a : Int).tmod (n : Int) = (a : Int) := by rw [Int.tmod_eq_emod_of_nonneg (by omega)]; exact Int.emod_eq_of_lt (by omega) (by omega)
        have hm2 : (a : Int) % (n : Int) = (a : Int) := Int.emod_eq_of_lt (by omega) (by omega)
        have han : (a : Int) < (n : Int) := by omega
        have haw : IntKind.u32.wrap (a : Int) = (a : Int) := IntWalk.u32_in _ (by omega)
        clear hS
        obtain ⟨W3, hW3⟩ : ∃ W3, W3 = W2 := ⟨_, rfl⟩
        rw [← hW3] at ca cv cn fn HM ⊢
        clear hW3
        generalize A.getD a 0 = an at cn
        go_upto_region 13 with fail
        refine wp_region_noPanic ?_
        refine wp_region_held_drew (S := fun W => W.cell? ⟨b, off + j * 260, none⟩ = some (.int .u32 (a : Int)) ∧ W.cell? ⟨b, off + j * 260 + 1, none⟩ = some (.int .u16 (v : Int))) (by kernel_rfl) ⟨ca, cv⟩ ?_
        intro hS
        clear ca cv
        replace HM := Lib.hid HM.out.drew
        replace cn : W3.drew.cell? ⟨gN, a, none⟩ = some (.int .u16 (an : Int)) := cn
        replace fn : W3.drew.frozen? ⟨gN, a, none⟩ = false := fn
        generalize W3.drew = W4 at hS HM cn fn ⊢
        refine wpAnyH_take (i := 0) (v := .slice (some ⟨gN, 0, none⟩) n capN) rfl (by kernel_rfl) (by kernel_rfl) (by kernel_rfl) (fun _ _ _ h => (h : False).elim) (Or.inl ⟨by rfl, fun _ _ => by go_simp⟩) hS ?_
        change wpAnyH _ _ _ _ _ _ _ (Act.put _ (some 82) _) _
        simp only [Act.put, List.setIfInBounds_toArray, List.set_cons_succ, List.set_cons_zero]
        refine wpAnyH_take (i := 1) (v := .slice (some ⟨b, off, none⟩) m cap) rfl (by kernel_rfl) (by kernel_rfl) (by kernel_rfl) (fun _ _ _ h => (h : False).elim) (Or.inl ⟨by rfl, fun _ _ => by go_simp⟩) hS ?_
        change wpAnyH _ _ _ _ _ _ _ (Act.put _ (some 83) _) _
        simp only [Act.put, List.setIfInBounds_toArray, List.set_cons_succ, List.set_cons_zero]
        refine wpAnyH_take (i := 2) (v := .int .i64 (j : Int)) rfl (by kernel_rfl) (by kernel_rfl) (by kernel_rfl) (fun _ _ _ h => (h : False).elim) (Or.inl ⟨by rfl, fun _ _ => by go_simp⟩) hS ?_
        change wpAnyH _ _ _ _ _ _ _ (Act.put _ (some 84) _) _
        simp only [Act.put, List.setIfInBounds_toArray, List.set_cons_succ, List.set_cons_zero]
        refine wpAnyH_take (i := 3) (v := .pointer (some ⟨b, off + j * 260, none⟩)) rfl (by kernel_rfl) (by kernel_rfl) (by kernel_rfl) (fun _ _ _ h => (h : False).elim) (Or.inl ⟨by rfl, fun _ _ => by go_simp⟩) hS ?_
        change wpAnyH _ _ _ _ _ _ _ (Act.put _ (some 85) _) _
        simp only [Act.put, List.setIfInBounds_toArray, List.set_cons_succ, List.set_cons_zero]
        refine wpAnyH_take (i := 4) (v := .pointer (some ⟨b, off + j * 260, none⟩)) rfl (by kernel_rfl) (by kernel_rfl) (by kernel_rfl) (fun _ _ _ h => (h : False).elim) (Or.inl ⟨by rfl, fun _ _ => by go_simp⟩) hS ?_
        change wpAnyH _ _ _ _ _ _ _ (Act.put _ (some 86) _) _
        simp only [Act.put, List.setIfInBounds_toArray, List.set_cons_succ, List.set_cons_zero]
        refine wpAnyH_take (i := 5) (v := .int .u32 (a : Int)) rfl (by kernel_rfl) (by kernel_rfl) (by kernel_rfl) (fun _ _ _ h => (h : False).elim) (Or.inl ⟨by rfl, fun w hw => by have c := hw.1; go_simp⟩) hS ?_
        change wpAnyH _ _ _ _ _ _ _ (Act.put _ (some 87) _) _
        simp only [Act.put, List.setIfInBounds_toArray, List.set_cons_succ, List.set_cons_zero]
        refine wpAnyH_take (i := 6) (v := .int .u32 (n : Int)) rfl (by kernel_rfl) (by kernel_rfl) (by kernel_rfl) (fun _ _ _ h => (h : False).elim) (Or.inl ⟨by rfl, fun _ _ => by go_simp⟩) hS ?_
        change wpAnyH _ _ _ _ _ _ _ (Act.put _ (some 88) _) _
        simp only [Act.put, List.setIfInBounds_toArray, List.set_cons_succ, List.set_cons_zero]
        refine wpAnyH_take (i := 7) (v := .int .u32 (a : Int)) rfl (by kernel_rfl) (by kernel_rfl) (by kernel_rfl) (fun _ _ _ h => (h : False).elim) (Or.inl ⟨by rfl, fun _ _ => by go_simp⟩) hS ?_
        change wpAnyH _ _ _ _ _ _ _ (Act.put _ (some 89) _) _
        simp only [Act.put, List.setIfInBounds_toArray, List.set_cons_succ, List.set_cons_zero]
        refine wpAnyH_take (i := 8) (v := .slice (some ⟨b, off, none⟩) m cap) rfl (by kernel_rfl) (by kernel_rfl) (by kernel_rfl) (fun _ _ _ h => (h : False).elim) (Or.inl ⟨by rfl, fun _ _ => by go_simp⟩) hS ?_
        change wpAnyH _ _ _ _ _ _ _ (Act.put _ (some 90) _) _
        simp only [Act.put, List.setIfInBounds_toArray, List.set_cons_succ, List.set_cons_zero]
        refine wpAnyH_take (i := 9) (v := .int .i64 (j : Int)) rfl (by kernel_rfl) (by kernel_rfl) (by kernel_rfl) (fun _ _ _ h => (h : False).elim) (Or.inl ⟨by rfl, fun _ _ => by go_simp⟩) hS ?_
        change wpAnyH _ _ _ _ _ _ _ (Act.put _ (some 91) _) _
        simp only [Act.put, List.setIfInBounds_toArray, List.set_cons_succ, List.set_cons_zero]
        refine wpAnyH_take (i := 10) (v := .pointer (some ⟨b, off + j * 260, none⟩)) rfl (by kernel_rfl) (by kernel_rfl) (by kernel_rfl) (fun _ _ _ h => (h : False).elim) (Or.inl ⟨by rfl, fun _ _ => by go_simp⟩) hS ?_
        change wpAnyH _ _ _ _ _ _ _ (Act.put _ (some 92) _) _
        simp only [Act.put, List.setIfInBounds_toArray, List.set_cons_succ, List.set_cons_zero]
        refine wpAnyH_take (i := 11) (v := .pointer (some ⟨b, off + j * 260 + 1, none⟩)) rfl (by kernel_rfl) (by kernel_rfl) (by kernel_rfl) (fun _ _ _ h => (h : False).elim) (Or.inl ⟨by rfl, fun _ _ => by go_simp⟩) hS ?_
        change wpAnyH _ _ _ _ _ _ _ (Act.put _ (some 93) _) _
        simp only [Act.put, List.setIfInBounds_toArray, List.set_cons_succ, List.set_cons_zero]
        refine wpAnyH_take (i := 12) (v := .int .u16 (v : Int)) rfl (by kernel_rfl) (by kernel_rfl) (by kernel_rfl) (fun _ _ _ h => (h : False).elim) (Or.inl ⟨by rfl, fun w hw => by have c := hw.2; go_simp⟩) hS ?_
        change wpAnyH _ _ _ _ _ _ _ (Act.put _ (some 94) _) _
        simp only [Act.put, List.setIfInBounds_toArray, List.set_cons_succ, List.set_cons_zero]
        refine wpAnyH_take (i := 13) (v := .pointer (some ⟨gN, a, none⟩)) rfl (by kernel_rfl) (by kernel_rfl) (by kernel_rfl) (fun _ _ _ h => (h : False).elim) (Or.inl ⟨by rfl, fun _ _ => by go_simp⟩) hS ?_
        change wpAnyH _ _ _ _ _ _ _ (Act.put _ (some 95) _) _
        simp only [Act.put, List.setIfInBounds_toArray, List.set_cons_succ, List.set_cons_zero]
        have hS2 : (W4.setCell ⟨gN, a, none⟩ (.int .u16 (v : Int))).cell? ⟨b, off + j * 260, none⟩ = some (.int .u32 (a : Int)) ∧ (W4.setCell ⟨gN, a, none⟩ (.int .u16 (v : Int))).cell? ⟨b, off + j * 260 + 1, none⟩ = some (.int .u16 (v : Int)) := HC.out _ ((HM.out.setCell (j := a) (v := .int .u16 (v : Int)) HGW.out HKN.out).bel)
        refine wpAnyH_ready (rs := [14]) (by kernel_rfl) (by simp) ?_
        refine AllReadyH.cons rfl (fun K hK => ?_) AllReadyH.nil
        rw [if_pos (by rfl)]
        go_simp
        refine hK _ _ hS2 (fun _ => ?_)
        clear hK K hS2
        try simp only [Act.put, List.setIfInBounds_toArray, List.set_cons_succ, List.set_cons_zero]
        refine wpAnyH_done (by kernel_rfl) ?_ _
        refine NoPanic.normal ?_
        have HM2 : Hid (Hall w [.dev p s, .tab t (setS T a v)] ((gN, nowO (A.set a v)) :: KL) (W4.setCell ⟨gN, a, none⟩ (.int .u16 (v : Int)))) := Lib.hid (by
          have h := HM.out.setCell (j := a) (v := .int .u16 (v : Int)) HGW.out HKN.out
          rw [nowCs_set] at h
          exact h)
        clear cn fn HM hS
        generalize W4.setCell ⟨gN, a, none⟩ (.int .u16 (v : Int)) = W5 at HM2 ⊢
        clear hn0 hm1 hm2 haw
        go_wp2_with fail
        go_roundw
        case rel => exact ⟨j + 1, _, _, by go_num, by omega, Lib.hid ⟨HM2.out, HN.out⟩⟩
        case measure => simp [intOf]; omega
      · have HSET : Hid (∀ W, Hall w [.dev p s, .tab t T] ((gN, nowO A) :: KL) W → Calls Tryz.prog 13 #[.pointer (some ⟨t, 0, none⟩), .int .u32 (a : Int), .int .u16 (v : Int)] W fun e W' => e = .returned (.int .i64 2) ∧ Hall w [.dev p s, .tab t T] ((gN, nowO A) :: KL) W') := Lib.hid (fun W hW => by
          have h := Hall.set_ hW (i := 1) (j := 0) (T := T) (s := s) rfl (by rw [hTd]; rfl) (by decide) hG.reads hf1 hf2
          have e : setE T.n a = 2 := by unfold setE; rw [hTn, if_neg hr]
          rw [e, setS_out (by rw [hTn]; exact hr)] at h
          exact h)
        have HN := Lib.hid (And.intro hG (And.intro hA (And.intro hTn hTd)))
        have HM := Lib.hid hH
        clear hh hH hG hA hTn hTd
        go_upto_region 12 with fail
        refine wp_region_noPanic ?_
        refine wp_region_held_drew (S := fun W => W.cell? ⟨b, off + j * 260, none⟩ = some (.int .u32 (a : Int)) ∧ W.cell? ⟨b, off + j * 260 + 1, none⟩ = some (.int .u16 (v : Int))) (by kernel_rfl) (HC.out _ (HM.out.drew.bel)) ?_
        intro hS
        have HS := Lib.hid (HSET.out _ HM.out.drew)
        clear HSET HM
        generalize wr.drew = W1 at hS HS ⊢
        refine wpAnyH_take (i := 0) (v := .pointer (some ⟨t, 0, none⟩)) rfl (by kernel_rfl) (by kernel_rfl) (by kernel_rfl) (fun _ _ _ h => (h : False).elim) (Or.inl ⟨by rfl, fun _ _ => by go_simp⟩) hS ?_
        change wpAnyH _ _ _ _ _ _ _ (Act.put _ (some 69) _) _
        simp only [Act.put, List.setIfInBounds_toArray, List.set_cons_succ, List.set_cons_zero]
        refine wpAnyH_take (i := 1) (v := .slice (some ⟨b, off, none⟩) m cap) rfl (by kernel_rfl) (by kernel_rfl) (by kernel_rfl) (fun _ _ _ h => (h : False).elim) (Or.inl ⟨by rfl, fun _ _ => by go_simp⟩) hS ?_
        change wpAnyH _ _ _ _ _ _ _ (Act.put _ (some 70) _) _
        simp only [Act.put, List.setIfInBounds_toArray, List.set_cons_succ, List.set_cons_zero]
        refine wpAnyH_take (i := 2) (v := .int .i64 (j : Int)) rfl (by kernel_rfl) (by kernel_rfl) (by kernel_rfl) (fun _ _ _ h => (h : False).elim) (Or.inl ⟨by rfl, fun _ _ => by go_simp⟩) hS ?_
        change wpAnyH _ _ _ _ _ _ _ (Act.put _ (some 71) _) _
        simp only [Act.put, List.setIfInBounds_toArray, List.set_cons_succ, List.set_cons_zero]
        refine wpAnyH_take (i := 3) (v := .pointer (some ⟨b, off + j * 260, none⟩)) rfl (by kernel_rfl) (by kernel_rfl) (by kernel_rfl) (fun _ _ _ h => (h : False).elim) (Or.inl ⟨by rfl, fun _ _ => by go_simp⟩) hS ?_
        change wpAnyH _ _ _ _ _ _ _ (Act.put _ (some 72) _) _
        simp only [Act.put, List.setIfInBounds_toArray, List.set_cons_succ, List.set_cons_zero]
        refine wpAnyH_take (i := 4) (v := .pointer (some ⟨b, off + j * 260, none⟩)) rfl (by kernel_rfl) (by kernel_rfl) (by kernel_rfl) (fun _ _ _ h => (h : False).elim) (Or.inl ⟨by rfl, fun _ _ => by go_simp⟩) hS ?_
        change wpAnyH _ _ _ _ _ _ _ (Act.put _ (some 73) _) _
        simp only [Act.put, List.setIfInBounds_toArray, List.set_cons_succ, List.set_cons_zero]
        refine wpAnyH_take (i := 5) (v := .int .u32 (a : Int)) rfl (by kernel_rfl) (by kernel_rfl) (by kernel_rfl) (fun _ _ _ h => (h : False).elim) (Or.inl ⟨by rfl, fun w hw => by have c := hw.1; go_simp⟩) hS ?_
        change wpAnyH _ _ _ _ _ _ _ (Act.put _ (some 74) _) _
        simp only [Act.put, List.setIfInBounds_toArray, List.set_cons_succ, List.set_cons_zero]
        refine wpAnyH_take (i := 6) (v := .slice (some ⟨b, off, none⟩) m cap) rfl (by kernel_rfl) (by kernel_rfl) (by kernel_rfl) (fun _ _ _ h => (h : False).elim) (Or.inl ⟨by rfl, fun _ _ => by go_simp⟩) hS ?_
        change wpAnyH _ _ _ _ _ _ _ (Act.put _ (some 75) _) _
        simp only [Act.put, List.setIfInBounds_toArray, List.set_cons_succ, List.set_cons_zero]
        refine wpAnyH_take (i := 7) (v := .int .i64 (j : Int)) rfl (by kernel_rfl) (by kernel_rfl) (by kernel_rfl) (fun _ _ _ h => (h : False).elim) (Or.inl ⟨by rfl, fun _ _ => by go_simp⟩) hS ?_
        change wpAnyH _ _ _ _ _ _ _ (Act.put _ (some 76) _) _
        simp only [Act.put, List.setIfInBounds_toArray, List.set_cons_succ, List.set_cons_zero]
        refine wpAnyH_take (i := 8) (v := .pointer (some ⟨b, off + j * 260, none⟩)) rfl (by kernel_rfl) (by kernel_rfl) (by kernel_rfl) (fun _ _ _ h => (h : False).elim) (Or.inl ⟨by rfl, fun _ _ => by go_simp⟩) hS ?_
        change wpAnyH _ _ _ _ _ _ _ (Act.put _ (some 77) _) _
        simp only [Act.put, List.setIfInBounds_toArray, List.set_cons_succ, List.set_cons_zero]
        refine wpAnyH_take (i := 9) (v := .pointer (some ⟨b, off + j * 260 + 1, none⟩)) rfl (by kernel_rfl) (by kernel_rfl) (by kernel_rfl) (fun _ _ _ h => (h : False).elim) (Or.inl ⟨by rfl, fun _ _ => by go_simp⟩) hS ?_
        change wpAnyH _ _ _ _ _ _ _ (Act.put _ (some 78) _) _
        simp only [Act.put, List.setIfInBounds_toArray, List.set_cons_succ, List.set_cons_zero]
        refine wpAnyH_take (i := 10) (v := .int .u16 (v : Int)) rfl (by kernel_rfl) (by kernel_rfl) (by kernel_rfl) (fun _ _ _ h => (h : False).elim) (Or.inl ⟨by rfl, fun w hw => by have c := hw.2; go_simp⟩) hS ?_
        change wpAnyH _ _ _ _ _ _ _ (Act.put _ (some 79) _) _
        simp only [Act.put, List.setIfInBounds_toArray, List.set_cons_succ, List.set_cons_zero]
        refine wpAnyH_ready (rs := [11]) (by kernel_rfl) (by simp) ?_
        refine AllReadyH.cons rfl (fun K hK => ?_) AllReadyH.nil
        rw [if_pos (by rfl)]
        go_simp
        refine HS.out.mono ?_
        clear HS
        rintro e W2 ⟨rfl, hh⟩
        dsimp only
        refine hK _ _ (HC.out _ hh.bel) (fun _ => ?_)
        clear hK K
        have HM := Lib.hid hh
        clear hh hS
        have hS := HC.out _ HM.out.bel
        try simp only [Act.put, List.setIfInBounds_toArray, List.set_cons_succ, List.set_cons_zero]
        refine wpAnyH_take (i := 12) (v := .bool false) rfl (by kernel_rfl) (by kernel_rfl) (by kernel_rfl) (fun _ _ _ h => (h : False).elim) (Or.inl ⟨by rfl, fun _ _ => by go_simp⟩) hS ?_
        change wpAnyH _ _ _ _ _ _ _ (Act.put _ (some 81) _) _
        simp only [Act.put, List.setIfInBounds_toArray, List.set_cons_succ, List.set_cons_zero]
        refine wpAnyH_done (by kernel_rfl) ?_ _
        refine NoPanic.normal ?_
        clear hS HC
        obtain ⟨W3, hW3⟩ : ∃ W3, W3 = W2 := ⟨_, rfl⟩
        rw [← hW3] at HM ⊢
        clear hW3
        go_wp2_with fail
        go_roundw
        case rel => exact ⟨j + 1, _, _, by go_num, by omega, Lib.hid ⟨HM.out, HN.out⟩⟩
        case measure => simp [intOf]; omega
    · have hl : ∃ W', W' = wr := ⟨_, rfl⟩
      by_cases hj3 : j < m
      · have i0 : (j : Int) < (m : Int) := by omega
        have i1 : ¬ (j : Int) < 60 := by omega
        go_wp2_with fail
        exact HEX.out _ _ _ _ _ _ _ _ _ _ _ _ _ _ _ _ _ _ _ _ _ _ _ _ _ _ _ _ _ _ _ _ _ _ _ _ _ _ _ T A hh.out.1 hh.out.2.1 hh.out.2.2.1 hh.out.2.2.2.1 hh.out.2.2.2.2
      · have i0 : ¬ (j : Int) < (m : Int) := by omega
        go_wp2_with fail
        exact HEX.out _ _ _ _ _ _ _ _ _ _ _ _ _ _ _ _ _ _ _ _ _ _ _ _ _ _ _ _ _ _ _ _ _ _ _ _ _ _ _ T A hh.out.1 hh.out.2.1 hh.out.2.2.1 hh.out.2.2.2.1 hh.out.2.2.2.2
end Go.Proofs.YtojpcgjmainbfaaGreat.Cnt

/-
  CountApart's second loop: the counts are read, the pages that are touched counted.
-/
namespace Go.Proofs.YtojpcgjmainbfaaGreat.Cnt
open Go.RowKit Go.Maps Go.MapKept RowLaw Crc
open Go.Proofs.YtojpcgjmainbfaaGreat.Dev (Dev DS ptr)
open Go.Proofs.YtojpcgjmainbfaaGreat.Rot (planOk tlN pkN fsN)
set_option maxRecDepth 100000
theorem tch_next (A : List Nat) (k : Nat) : (A.getD k 0 ≠ 0 ∧ tch A k (k / 64) = false → (fun p => tch A k p || decide (k / 64 = p)) = tch A (k + 1)) ∧ (¬ (A.getD k 0 ≠ 0 ∧ tch A k (k / 64) = false) → tch A k = tch A (k + 1)) := by
  refine ⟨fun h => funext fun p => ?_, fun h => funext fun p => ?_⟩
  · rw [tch_succ, Bool.decide_and, decide_eq_true h.1, Bool.and_true]
  · rw [tch_succ]
    by_cases h0 : A.getD k 0 ≠ 0
    · by_cases h2 : k / 64 = p
      · subst h2
        cases ht : tch A k (k / 64) with
        | true => rfl
        | false => exact absurd ⟨h0, ht⟩ h
      · rw [decide_eq_false (fun hh => h2 hh.1), Bool.or_false]
    · rw [decide_eq_false (fun hh => h0 hh.2), Bool.or_false]
set_option linter.unusedVariables false in
set_option linter.unusedSimpArgs false in
set_option maxHeartbeats 12800000 in
theorem apart_reads {w : World} {p t gN gT n capN capT mT : Nat} {s : DS} {T : TD} {A : List Nat} {KL : List (Nat × Obj)} (hn : 64 ≤ n ∧ n ≤ 5000) (hmT : mT = n / 64 + 1) (hgw : w.heap.size ≤ gT) (hgn : gN ≠ gT) (hK : ∀ x ∈ KL, x.1 ≠ gT) (hG : Good s T) (hA : NowIs T A) (hTn : T.n = n) (hTd : T.d = p)
    {Q0 : Exit → Act → World → Prop} {c1 c2 c3 c4 c5 c6 c7 c8 c10 c12 c15 c17 c18 c19 c20 c21 c22 c23 c24 c25 c26 c27 c28 c29 c30 c31 c32 c33 c34 c35 c36 c37 c38 c39 c40 c41 c42 c43 c44 c45 c46 c47 c48 c49 c50 c51 c52 c53 c54 c55 c56 c57 c58 c59 c60 c61 c62 c63 c64 c65 c66 c67 c68 c69 c70 c71 c72 c73 c74 c75 c76 c77 c78 c79 c80 c81 c82 c83 c84 c85 c86 c87 c88 c89 c90 c91 c92 c93 c94 c95 c96 c97 c98 c99 c100 c101 c102 c103 c104 c105 c106 c107 c108 c109 c110 c111 c112 c113 c114 c115 c116 c117 c118 c119 c120 c121 c122 c123 c124 c125 c126 c127 c128 c129 c130 c131 c132 c133 c134 c135 c136 c137 c138 c139 c140 c141 c142 c143 c144 c145 c146 c147 c148 c149 c150 c151 c152 c153 c154 c155 c156 c157 c158 c159 c160 c161 c162 c163 c164 c165 c166 c167 c168 c169 c170 c171 c172 c173 c174 c175 c176 c177 c178 c179 c180 c181 c182 c183 c184 c185 c186 c187 c188 c189 c190 c191 c192 c193 c194 c195 c196 c197 c198 c199 c200 c201 c202 c203 c204 c205 c206 c207 c208 c209 c210 c211 c212 c213 c214 c215 c216 c217 c218 c219 c220 c221 c222 c223 c224 c225 c226 c227 c228 c229 c230 c231 c232 c233 c234 c235 c236 c237 c238 c239 c240 c241 c242 c243 c244 : Value} {W0 : World} (h0 : Hall w [.dev p s, .tab t T] ((gT, tcO (fun _ => false) mT) :: (gN, nowO A) :: KL) W0)
    (hexit : ∀ (u4 u16 u17 u18 u102 u103 u104 u105 u106 u107 u108 u109 u110 u111 u112 u113 u114 u115 u116 u117 u118 u119 u120 u121 u122 u123 u124 u125 u126 u127 u128 u129 u130 u131 u132 u133 u134 u135 u136 u137 u138 u139 u140 u141 : Value) (W : World) , Hall w [.dev p s, .tab t T] ((gT, tcO (tch A n) mT) :: (gN, nowO A) :: KL) W → Q0 (.exit 2) ⟨List.toArray (.int .u32 (n : Int) :: c1 :: c2 :: c3 :: u4 :: c5 :: c6 :: c7 :: c8 :: .pointer (some ⟨t, 0, none⟩) :: c10 :: .slice (some ⟨gN, 0, none⟩) n capN :: c12 :: .slice (some ⟨gT, 0, none⟩) mT capT :: .int .i64 (cnt A n mT : Int) :: c15 :: u16 :: u17 :: u18 :: c19 :: c20 :: c21 :: c22 :: c23 :: c24 :: c25 :: c26 :: c27 :: c28 :: c29 :: c30 :: c31 :: c32 :: c33 :: c34 :: c35 :: c36 :: c37 :: c38 :: c39 :: c40 :: c41 :: c42 :: c43 :: c44 :: c45 :: c46 :: c47 :: c48 :: c49 :: c50 :: c51 :: c52 :: c53 :: c54 :: c55 :: c56 :: c57 :: c58 :: c59 :: c60 :: c61 :: c62 :: c63 :: c64 :: c65 :: c66 :: c67 :: c68 :: c69 :: c70 :: c71 :: c72 :: c73 :: c74 :: c75 :: c76 :: c77 :: c78 :: c79 :: c80 :: c81 :: c82 :: c83 :: c84 :: c85 :: c86 :: c87 :: c88 :: c89 :: c90 :: c91 :: c92 :: c93 :: c94 :: c95 :: c96 :: c97 :: c98 :: c99 :: c100 :: c101 :: u102 :: u103 :: u104 :: u105 :: u106 :: u107 :: u108 :: u109 :: u110 :: u111 :: u112 :: u113 :: u114 :: u115 :: u116 :: u117 :: u118 :: u119 :: u120 :: u121 :: u122 :: u123 :: u124 :: u125 :: u126 :: u127 :: u128 :: u129 :: u130 :: u131 :: u132 :: u133 :: u134 :: u135 :: u136 :: u137 :: u138 :: u139 :: u140 :: u141 :: c142 :: c143 :: c144 :: c145 :: c146 :: c147 :: c148 :: c149 :: c150 :: c151 :: c152 :: c153 :: c154 :: c155 :: c156 :: c157 :: c158 :: c159 :: c160 :: c161 :: c162 :: c163 :: c164 :: c165 :: c166 :: c167 :: c168 :: c169 :: c170 :: c171 :: c172 :: c173 :: c174 :: c175 :: c176 :: c177 :: c178 :: c179 :: c180 :: c181 :: c182 :: c183 :: c184 :: c185 :: c186 :: c187 :: c188 :: c189 :: c190 :: c191 :: c192 :: c193 :: c194 :: c195 :: c196 :: c197 :: c198 :: c199 :: c200 :: c201 :: c202 :: c203 :: c204 :: c205 :: c206 :: c207 :: c208 :: c209 :: c210 :: c211 :: c212 :: c213 :: c214 :: c215 :: c216 :: c217 :: c218 :: c219 :: c220 :: c221 :: c222 :: c223 :: c224 :: c225 :: c226 :: c227 :: c228 :: c229 :: c230 :: c231 :: c232 :: c233 :: c234 :: c235 :: c236 :: c237 :: c238 :: c239 :: c240 :: c241 :: c242 :: c243 :: c244 :: []), []⟩ W) :
    Code.wp Tryz.prog (.loop bodyA1) Q0 ⟨List.toArray (.int .u32 (n : Int) :: c1 :: c2 :: c3 :: c4 :: c5 :: c6 :: c7 :: c8 :: .pointer (some ⟨t, 0, none⟩) :: c10 :: .slice (some ⟨gN, 0, none⟩) n capN :: c12 :: .slice (some ⟨gT, 0, none⟩) mT capT :: .int .i64 0 :: c15 :: .int .u32 0 :: c17 :: c18 :: c19 :: c20 :: c21 :: c22 :: c23 :: c24 :: c25 :: c26 :: c27 :: c28 :: c29 :: c30 :: c31 :: c32 :: c33 :: c34 :: c35 :: c36 :: c37 :: c38 :: c39 :: c40 :: c41 :: c42 :: c43 :: c44 :: c45 :: c46 :: c47 :: c48 :: c49 :: c50 :: c51 :: c52 :: c53 :: c54 :: c55 :: c56 :: c57 :: c58 :: c59 :: c60 :: c61 :: c62 :: c63 :: c64 :: c65 :: c66 :: c67 :: c68 :: c69 :: c70 :: c71 :: c72 :: c73 :: c74 :: c75 :: c76 :: c77 :: c78 :: c79 :: c80 :: c81 :: c82 :: c83 :: c84 :: c85 :: c86 :: c87 :: c88 :: c89 :: c90 :: c91 :: c92 :: c93 :: c94 :: c95 :: c96 :: c97 :: c98 :: c99 :: c100 :: c101 :: c102 :: c103 :: c104 :: c105 :: c106 :: c107 :: c108 :: c109 :: c110 :: c111 :: c112 :: c113 :: c114 :: c115 :: c116 :: c117 :: c118 :: c119 :: c120 :: c121 :: c122 :: c123 :: c124 :: c125 :: c126 :: c127 :: c128 :: c129 :: c130 :: c131 :: c132 :: c133 :: c134 :: c135 :: c136 :: c137 :: c138 :: c139 :: c140 :: c141 :: c142 :: c143 :: c144 :: c145 :: c146 :: c147 :: c148 :: c149 :: c150 :: c151 :: c152 :: c153 :: c154 :: c155 :: c156 :: c157 :: c158 :: c159 :: c160 :: c161 :: c162 :: c163 :: c164 :: c165 :: c166 :: c167 :: c168 :: c169 :: c170 :: c171 :: c172 :: c173 :: c174 :: c175 :: c176 :: c177 :: c178 :: c179 :: c180 :: c181 :: c182 :: c183 :: c184 :: c185 :: c186 :: c187 :: c188 :: c189 :: c190 :: c191 :: c192 :: c193 :: c194 :: c195 :: c196 :: c197 :: c198 :: c199 :: c200 :: c201 :: c202 :: c203 :: c204 :: c205 :: c206 :: c207 :: c208 :: c209 :: c210 :: c211 :: c212 :: c213 :: c214 :: c215 :: c216 :: c217 :: c218 :: c219 :: c220 :: c221 :: c222 :: c223 :: c224 :: c225 :: c226 :: c227 :: c228 :: c229 :: c230 :: c231 :: c232 :: c233 :: c234 :: c235 :: c236 :: c237 :: c238 :: c239 :: c240 :: c241 :: c242 :: c243 :: c244 :: []), []⟩ W0 := by
  have HEX := Lib.hid hexit; clear hexit
  have HKN : Hid (∀ x ∈ (gN, nowO A) :: KL, x.1 ≠ gT) := Lib.hid (fun x hx => by
    rcases List.mem_cons.1 hx with rfl | hx
    · exact hgn
    · exact hK x hx)
  clear hK
  have HM0 : Hid (Hall w [.dev p s, .tab t T] ((gT, tcO (tch A 0) mT) :: (gN, nowO A) :: KL) W0) := Lib.hid h0; clear h0
  have HGW := Lib.hid hgw; clear hgw
  have HG := Lib.hid hG; have HA := Lib.hid hA; have HTD := Lib.hid hTd; have HTN := Lib.hid hTn; have HMT := Lib.hid hmT
  have hal : A.length = n := hA.len.trans hTn
  have HAL := Lib.hid hal
  clear hG hA hTn hTd hmT hal
  conv => arg 2; arg 1; whnf
  go_loopw [14, 16] (fun v14 v16 W => ∃ (k : Nat), v14 = .int .i64 (cnt A k mT : Int) ∧ v16 = .int .u32 (k : Int) ∧ k ≤ n ∧ Hid (Hall w [.dev p s, .tab t T] ((gT, tcO (tch A k) mT) :: (gN, nowO A) :: KL) W)) (fun _ v16 _ => n - (intOf v16).toNat)
  case atStart => exact ⟨0, by rw [cnt_zero]; rfl, rfl, by omega, HM0⟩
  case round =>
    clear HM0
    obtain ⟨k, rfl, rfl, hk, HM⟩ := hrel
    by_cases hkn : k < n
    · have i0 : (k : Int) < (n : Int) := by omega
      have z2 : IntKind.u32.wrap ((k : Int) + 1) = (k : Int) + 1 := IntWalk.u32_in _ (by omega)
      obtain ⟨q, hq⟩ : ∃ q, q = k / 64 := ⟨_, rfl⟩
      obtain ⟨x, hx⟩ : ∃ x, x = A.getD k 0 := ⟨_, rfl⟩
      obtain ⟨cp, hcp⟩ : ∃ c, c = cnt A k mT := ⟨_, rfl⟩
      have hqm : q < mT := by have := HMT.out; omega
      have HC : Hid (Calls Tryz.prog 18 #[.pointer (some ⟨t, 0, none⟩), .int .u32 (k : Int)] wr fun e W' => e = .returned (.tuple #[.int .u16 (x : Int), .int .i64 0]) ∧ Hall w [.dev p s, .tab t T] ((gT, tcO (tch A k) mT) :: (gN, nowO A) :: KL) W') := Lib.hid (by
        have h := Hall.get HM.out (i := 1) (j := 0) (T := T) (s := s) rfl (by rw [HTD.out]; rfl) (by decide) HG.out.reads (a := k) (by omega)
        have e : cntE T.n k = 0 := by unfold cntE; rw [HTN.out, if_neg (by omega)]
        rw [e, ← HA.out.at_ k (by rw [HTN.out]; exact hkn), ← hx] at h
        exact h)
      have HN1 : Hid (x ≠ 0 ∧ tch A k q = false → (fun p => tch A k p || decide (q = p)) = tch A (k + 1) ∧ cnt A (k + 1) mT = cp + 1) := Lib.hid (fun h => by
        rw [hx, hq] at h
        exact ⟨by rw [hq]; exact (tch_next A k).1 h, by rw [cnt_succ A k mT (by omega), if_pos h, hcp]⟩)
      have HN2 : Hid (¬ (x ≠ 0 ∧ tch A k q = false) → tch A k = tch A (k + 1) ∧ cnt A (k + 1) mT = cp) := Lib.hid (fun h => by
        rw [hx, hq] at h
        exact ⟨(tch_next A k).2 h, by rw [cnt_succ A k mT (by omega), if_neg h, hcp]⟩)
      have hcl : cp ≤ mT := by
        rw [hcp]
        unfold cnt
        exact Nat.le_trans (List.length_filter_le _ _) (by rw [List.length_range]; exact Nat.le_refl _)
      have hq1 : (k : Int) / 64 = (q : Int) := by omega
      have hq2 : (k : Int).tdiv 64 = (q : Int) := by rw [Int.tdiv_eq_ediv_of_nonneg (by omega)]; exact hq1
      have hqk : (q : Int) < (mT : Int) := by omega
      have hkn' : k < A.length := by rw [HAL.out]; exact hkn
      have HKA := Lib.hid hkn'
      have HX := Lib.hid hx
      have hmt9 : mT ≤ 100 := by have := HMT.out; omega
      have z3 : IntKind.i64.wrap ((cp : Int) + 1) = (cp : Int) + 1 := IntWalk.i64_in _ (by omega)
      rw [← hcp]
      clear HM hq hx hcp hkn'
      go_wp2_with fail
      refine HC.out.mono ?_
      clear HC
      rintro e W2 ⟨rfl, hh⟩
      have cn : W2.cell? ⟨gN, k, none⟩ = some (.int .u16 (x : Int)) := by
        have h := (cell_of_row W2 gN k _ _ _ (hh.at_ (q := gN) (o := nowO A) (by simp))).trans (nowCs_get HKA.out)
        rw [← HX.out] at h
        exact h
      have ct : W2.cell? ⟨gT, q, none⟩ = some (.bool (tch A k q)) := (cell_of_row W2 gT q _ _ _ (hh.at_ (q := gT) (o := tcO (tch A k) mT) (by simp))).trans (tcCs_get _ hqm)
      have ft : W2.frozen? ⟨gT, q, none⟩ = false := frozen_of_row W2 gT q _ _ (hh.at_ (q := gT) (o := tcO (tch A k) mT) (by simp))
      have HM := Lib.hid hh
      clear hh HX HKA
      obtain ⟨tb, htb⟩ : ∃ b, b = tch A k q := ⟨_, rfl⟩
      rw [← htb] at ct HN1 HN2
      have HTB := Lib.hid htb
      clear htb
      by_cases hx0 : x = 0
      · subst hx0
        have HF := Lib.hid (HN2.out (fun h => h.1 rfl))
        clear HN1 HN2 ct ft
        go_wp2_with fail
        go_roundw
        case rel => exact ⟨k + 1, by rw [HF.out.2], by go_num, by omega, Lib.hid (by rw [← HF.out.1]; exact HM.out)⟩
        case measure => simp [intOf]; omega
      · have hx0z : ¬ (x : Int) = 0 := by omega
        cases tb
        · have HF := Lib.hid (HN1.out ⟨hx0, rfl⟩)
          clear HN1 HN2
          have HM2 : Hid (Hall w [.dev p s, .tab t T] ((gT, tcO (tch A (k + 1)) mT) :: (gN, nowO A) :: KL) (W2.setCell ⟨gT, q, none⟩ (.bool true))) := Lib.hid (by
            have h := HM.out.setCell (j := q) (v := .bool true) HGW.out HKN.out
            rw [tcCs_set, HF.out.1] at h
            exact h)
          clear HM
          go_wp2_with fail
          go_roundw
          case rel => exact ⟨k + 1, by rw [HF.out.2]; go_num, by go_num, by omega, HM2⟩
          case measure => simp [intOf]; omega
        · have HF := Lib.hid (HN2.out (fun h => absurd h.2 (by simp)))
          clear HN1 HN2
          go_wp2_with fail
          go_roundw
          case rel => exact ⟨k + 1, by rw [HF.out.2], by go_num, by omega, Lib.hid (by rw [← HF.out.1]; exact HM.out)⟩
          case measure => simp [intOf]; omega
    · have hkn2 : k = n := by omega
      subst hkn2
      have i0 : ¬ (k : Int) < (k : Int) := by omega
      go_wp2_with fail
      exact HEX.out _ _ _ _ _ _ _ _ _ _ _ _ _ _ _ _ _ _ _ _ _ _ _ _ _ _ _ _ _ _ _ _ _ _ _ _ _ _ _ _ _ _ _ _ _ HM.out
end Go.Proofs.YtojpcgjmainbfaaGreat.Cnt

/-
  CountApart's third loop (where the pages are put) and its fourth (all counts are set back).
-/
namespace Go.Proofs.YtojpcgjmainbfaaGreat.Cnt
open Go.RowKit Go.Maps Go.MapKept RowLaw Crc
open Go.Proofs.YtojpcgjmainbfaaGreat.Dev (Dev DS ptr)
open Go.Proofs.YtojpcgjmainbfaaGreat.Rot (planOk tlN pkN fsN)
set_option maxRecDepth 100000
set_option pp.deepTerms true
set_option pp.maxSteps 1000000
set_option linter.unusedVariables false in
set_option linter.unusedSimpArgs false in
set_option maxHeartbeats 12800000 in
theorem apart_puts {w : World} {l : List Thing} {KL : List (Nat × Obj)} {len capP pg fs : Nat} {pp : Option Addr} {at_ : Nat → Nat} (hlen : len ≤ 1000) (h1 : ∀ j, j < len → 2 ≤ at_ j ∧ at_ j < fs) (h2 : ∀ j, j + 1 < len → j + 1 < pg → at_ j < at_ (j + 1))
    {Q0 : Exit → Act → World → Prop} {c0 c1 c2 c3 c4 c5 c6 c7 c8 c9 c10 c11 c12 c13 c16 c17 c18 c20 c21 c23 c24 c25 c26 c27 c28 c29 c30 c31 c32 c33 c34 c35 c36 c37 c38 c39 c40 c41 c42 c43 c44 c45 c46 c47 c48 c49 c50 c51 c52 c53 c54 c55 c56 c57 c58 c59 c60 c61 c62 c63 c64 c65 c66 c67 c68 c69 c70 c71 c72 c73 c74 c75 c76 c77 c78 c79 c80 c81 c82 c83 c84 c85 c86 c87 c88 c89 c90 c91 c92 c93 c94 c95 c96 c97 c98 c99 c100 c101 c102 c103 c104 c105 c106 c107 c108 c109 c110 c111 c112 c113 c114 c115 c116 c117 c118 c119 c120 c121 c122 c123 c124 c125 c126 c127 c128 c129 c130 c131 c132 c133 c134 c135 c136 c137 c138 c139 c140 c141 c142 c143 c144 c145 c146 c147 c148 c149 c150 c151 c152 c153 c154 c155 c156 c157 c158 c159 c160 c161 c162 c163 c164 c165 c166 c167 c168 c169 c170 c171 c172 c173 c174 c175 c176 c177 c178 c179 c180 c181 c182 c183 c184 c185 c186 c187 c188 c189 c190 c191 c192 c193 c194 c195 c196 c197 c198 c199 c200 c201 c202 c203 c204 c205 c206 c207 c208 c209 c210 c211 c212 c213 c214 c215 c216 c217 c218 c219 c220 c221 c222 c223 c224 c225 c226 c227 c228 c229 c230 c231 c232 c233 c234 c235 c236 c237 c238 c239 c240 c241 c242 c243 c244 : Value} {W0 : World} (h0 : Hall w l KL W0) (hc : ∀ W, Below W0.heap.size W0 W → ∀ j, j < len → ∃ g, pp = some ⟨g, 0, none⟩ ∧ W.cell? ⟨g, j * 257, none⟩ = some (.int .u32 (at_ j : Int)))
    (hexit : ∀ (u4 u22 u166 u167 u168 u169 u170 u171 u172 u173 u174 u175 u176 u177 u178 u179 u180 u181 u182 u183 u184 u185 u186 u187 u188 u189 u190 u191 u192 u193 u194 u195 u196 u197 u198 u199 u200 u201 u202 u203 u204 u205 u206 u207 u208 u209 : Value) (W : World) , Hall w l KL W → Q0 (.exit 4) ⟨List.toArray (c0 :: c1 :: c2 :: c3 :: u4 :: c5 :: c6 :: c7 :: c8 :: c9 :: c10 :: c11 :: c12 :: c13 :: .int .i64 (pg : Int) :: .int .u32 (fs : Int) :: c16 :: c17 :: c18 :: .slice pp len capP :: c20 :: c21 :: u22 :: c23 :: c24 :: c25 :: c26 :: c27 :: c28 :: c29 :: c30 :: c31 :: c32 :: c33 :: c34 :: c35 :: c36 :: c37 :: c38 :: c39 :: c40 :: c41 :: c42 :: c43 :: c44 :: c45 :: c46 :: c47 :: c48 :: c49 :: c50 :: c51 :: c52 :: c53 :: c54 :: c55 :: c56 :: c57 :: c58 :: c59 :: c60 :: c61 :: c62 :: c63 :: c64 :: c65 :: c66 :: c67 :: c68 :: c69 :: c70 :: c71 :: c72 :: c73 :: c74 :: c75 :: c76 :: c77 :: c78 :: c79 :: c80 :: c81 :: c82 :: c83 :: c84 :: c85 :: c86 :: c87 :: c88 :: c89 :: c90 :: c91 :: c92 :: c93 :: c94 :: c95 :: c96 :: c97 :: c98 :: c99 :: c100 :: c101 :: c102 :: c103 :: c104 :: c105 :: c106 :: c107 :: c108 :: c109 :: c110 :: c111 :: c112 :: c113 :: c114 :: c115 :: c116 :: c117 :: c118 :: c119 :: c120 :: c121 :: c122 :: c123 :: c124 :: c125 :: c126 :: c127 :: c128 :: c129 :: c130 :: c131 :: c132 :: c133 :: c134 :: c135 :: c136 :: c137 :: c138 :: c139 :: c140 :: c141 :: c142 :: c143 :: c144 :: c145 :: c146 :: c147 :: c148 :: c149 :: c150 :: c151 :: c152 :: c153 :: c154 :: c155 :: c156 :: c157 :: c158 :: c159 :: c160 :: c161 :: c162 :: c163 :: c164 :: c165 :: u166 :: u167 :: u168 :: u169 :: u170 :: u171 :: u172 :: u173 :: u174 :: u175 :: u176 :: u177 :: u178 :: u179 :: u180 :: u181 :: u182 :: u183 :: u184 :: u185 :: u186 :: u187 :: u188 :: u189 :: u190 :: u191 :: u192 :: u193 :: u194 :: u195 :: u196 :: u197 :: u198 :: u199 :: u200 :: u201 :: u202 :: u203 :: u204 :: u205 :: u206 :: u207 :: u208 :: u209 :: c210 :: c211 :: c212 :: c213 :: c214 :: c215 :: c216 :: c217 :: c218 :: c219 :: c220 :: c221 :: c222 :: c223 :: c224 :: c225 :: c226 :: c227 :: c228 :: c229 :: c230 :: c231 :: c232 :: c233 :: c234 :: c235 :: c236 :: c237 :: c238 :: c239 :: c240 :: c241 :: c242 :: c243 :: c244 :: []), []⟩ W) :
    Code.wp Tryz.prog (.loop bodyA2) Q0 ⟨List.toArray (c0 :: c1 :: c2 :: c3 :: c4 :: c5 :: c6 :: c7 :: c8 :: c9 :: c10 :: c11 :: c12 :: c13 :: .int .i64 (pg : Int) :: .int .u32 (fs : Int) :: c16 :: c17 :: c18 :: .slice pp len capP :: c20 :: c21 :: .int .i64 0 :: c23 :: c24 :: c25 :: c26 :: c27 :: c28 :: c29 :: c30 :: c31 :: c32 :: c33 :: c34 :: c35 :: c36 :: c37 :: c38 :: c39 :: c40 :: c41 :: c42 :: c43 :: c44 :: c45 :: c46 :: c47 :: c48 :: c49 :: c50 :: c51 :: c52 :: c53 :: c54 :: c55 :: c56 :: c57 :: c58 :: c59 :: c60 :: c61 :: c62 :: c63 :: c64 :: c65 :: c66 :: c67 :: c68 :: c69 :: c70 :: c71 :: c72 :: c73 :: c74 :: c75 :: c76 :: c77 :: c78 :: c79 :: c80 :: c81 :: c82 :: c83 :: c84 :: c85 :: c86 :: c87 :: c88 :: c89 :: c90 :: c91 :: c92 :: c93 :: c94 :: c95 :: c96 :: c97 :: c98 :: c99 :: c100 :: c101 :: c102 :: c103 :: c104 :: c105 :: c106 :: c107 :: c108 :: c109 :: c110 :: c111 :: c112 :: c113 :: c114 :: c115 :: c116 :: c117 :: c118 :: c119 :: c120 :: c121 :: c122 :: c123 :: c124 :: c125 :: c126 :: c127 :: c128 :: c129 :: c130 :: c131 :: c132 :: c133 :: c134 :: c135 :: c136 :: c137 :: c138 :: c139 :: c140 :: c141 :: c142 :: c143 :: c144 :: c145 :: c146 :: c147 :: c148 :: c149 :: c150 :: c151 :: c152 :: c153 :: c154 :: c155 :: c156 :: c157 :: c158 :: c159 :: c160 :: c161 :: c162 :: c163 :: c164 :: c165 :: c166 :: c167 :: c168 :: c169 :: c170 :: c171 :: c172 :: c173 :: c174 :: c175 :: c176 :: c177 :: c178 :: c179 :: c180 :: c181 :: c182 :: c183 :: c184 :: c185 :: c186 :: c187 :: c188 :: c189 :: c190 :: c191 :: c192 :: c193 :: c194 :: c195 :: c196 :: c197 :: c198 :: c199 :: c200 :: c201 :: c202 :: c203 :: c204 :: c205 :: c206 :: c207 :: c208 :: c209 :: c210 :: c211 :: c212 :: c213 :: c214 :: c215 :: c216 :: c217 :: c218 :: c219 :: c220 :: c221 :: c222 :: c223 :: c224 :: c225 :: c226 :: c227 :: c228 :: c229 :: c230 :: c231 :: c232 :: c233 :: c234 :: c235 :: c236 :: c237 :: c238 :: c239 :: c240 :: c241 :: c242 :: c243 :: c244 :: []), []⟩ W0 := by
  have HEX := Lib.hid hexit; clear hexit
  have HC := Lib.hid hc; clear hc
  have HM0 : Hid (Hall w l KL W0 ∧ Below W0.heap.size W0 W0) := Lib.hid ⟨h0, Below.refl _ _⟩; clear h0
  have H1 := Lib.hid h1; have H2 := Lib.hid h2
  clear h1 h2
  conv => arg 2; arg 1; whnf
  go_loopw [22] (fun v22 W => ∃ (j : Nat), v22 = .int .i64 (j : Int) ∧ j ≤ len ∧ Hid (Hall w l KL W ∧ Below W0.heap.size W0 W)) (fun v22 _ => len - (intOf v22).toNat)
  case atStart => exact ⟨0, rfl, by omega, HM0⟩
  case round =>
    clear HM0
    obtain ⟨j, rfl, hj, HM⟩ := hrel
    by_cases hjl : j < len
    · have i0 : (j : Int) < (len : Int) := by omega
      have i2 : (0 : Int) ≤ (j : Int) := by omega
      obtain ⟨g, rfl, cj⟩ := HC.out _ HM.out.2 j hjl
      obtain ⟨a1, a2⟩ := H1.out j hjl
      have b1 : decide (((at_ j : Nat) : Int) < 2) = false := decide_eq_false (by omega)
      have b2 : decide (fs ≤ at_ j) = false := decide_eq_false (by omega)
      by_cases h0 : j = 0
      · subst h0
        clear HC H1 H2
        generalize at_ 0 = x at cj b1 b2 a1 a2
        go_upto_region 31 with fail
        go_big_quiet (fail)
        go_wp2_with fail
        go_roundw
        case rel => exact ⟨0 + 1, by go_num, by omega, Lib.hid ⟨HM.out.1.below ⟨rfl, rfl, rfl, Nat.le_refl _, fun _ _ => rfl⟩, below_drewN' HM.out.2 nq⟩⟩
        case measure => simp [intOf]; omega
      · have hj0 : decide (0 < j) = true := decide_eq_true (by omega)
        have hj0' : (0 : Int) < (j : Int) := by omega
        by_cases hp : j < pg
        · have hpz : decide (j < pg) = true := decide_eq_true hp
          have hpz' : (j : Int) < (pg : Int) := by omega
          obtain ⟨g', hg', ck⟩ := HC.out _ HM.out.2 (j - 1) (by omega)
          cases hg'
          have h3 := H2.out (j - 1) (by omega) (by omega)
          rw [show j - 1 + 1 = j by omega] at h3
          have b3 : decide (at_ j ≤ at_ (j - 1)) = false := decide_eq_false (by omega)
          have hk : j - 1 < len := by omega
          clear HC H1 H2
          generalize at_ j = x at cj b1 b2 b3 a1 a2 h3
          generalize at_ (j - 1) = y at ck b3 h3
          go_upto_region 31 with fail
          go_big_quiet (fail)
          go_wp2_with fail
          go_roundw
          case rel => exact ⟨j + 1, by go_num, by omega, Lib.hid ⟨HM.out.1.below ⟨rfl, rfl, rfl, Nat.le_refl _, fun _ _ => rfl⟩, below_drewN' HM.out.2 nq⟩⟩
          case measure => simp [intOf]; omega
        · have hpz : decide (j < pg) = false := decide_eq_false (by omega)
          clear HC H1 H2
          generalize at_ j = x at cj b1 b2 a1 a2
          go_upto_region 31 with fail
          go_big_quiet (fail)
          go_wp2_with fail
          go_roundw
          case rel => exact ⟨j + 1, by go_num, by omega, Lib.hid ⟨HM.out.1.below ⟨rfl, rfl, rfl, Nat.le_refl _, fun _ _ => rfl⟩, below_drewN' HM.out.2 nq⟩⟩
          case measure => simp [intOf]; omega
    · have i0 : ¬ (j : Int) < (len : Int) := by omega
      go_wp2_with fail
      exact HEX.out _ _ _ _ _ _ _ _ _ _ _ _ _ _ _ _ _ _ _ _ _ _ _ _ _ _ _ _ _ _ _ _ _ _ _ _ _ _ _ _ _ _ _ _ _ _ _ HM.out.1
set_option linter.unusedVariables false in
set_option linter.unusedSimpArgs false in
set_option maxHeartbeats 12800000 in
theorem apart_back {w : World} {p t n fs : Nat} {s : DS} {KL : List (Nat × Obj)} (hn : 64 ≤ n ∧ n ≤ 5000) (hfs : fs = fsN n) (hfn : fs ≤ n)
    {Q0 : Exit → Act → World → Prop} {c1 c2 c3 c4 c5 c6 c7 c8 c10 c11 c12 c13 c14 c15 c16 c17 c18 c19 c20 c21 c22 c24 c25 c26 c27 c28 c29 c30 c31 c32 c33 c34 c35 c36 c37 c38 c39 c40 c41 c42 c43 c44 c45 c46 c47 c48 c49 c50 c51 c52 c53 c54 c55 c56 c57 c58 c59 c60 c61 c62 c63 c64 c65 c66 c67 c68 c69 c70 c71 c72 c73 c74 c75 c76 c77 c78 c79 c80 c81 c82 c83 c84 c85 c86 c87 c88 c89 c90 c91 c92 c93 c94 c95 c96 c97 c98 c99 c100 c101 c102 c103 c104 c105 c106 c107 c108 c109 c110 c111 c112 c113 c114 c115 c116 c117 c118 c119 c120 c121 c122 c123 c124 c125 c126 c127 c128 c129 c130 c131 c132 c133 c134 c135 c136 c137 c138 c139 c140 c141 c142 c143 c144 c145 c146 c147 c148 c149 c150 c151 c152 c153 c154 c155 c156 c157 c158 c159 c160 c161 c162 c163 c164 c165 c166 c167 c168 c169 c170 c171 c172 c173 c174 c175 c176 c177 c178 c179 c180 c181 c182 c183 c184 c185 c186 c187 c188 c189 c190 c191 c192 c193 c194 c195 c196 c197 c198 c199 c200 c201 c202 c203 c204 c205 c206 c207 c208 c209 c210 c211 c212 c213 c214 c215 c216 c217 c218 c219 c220 c221 c222 c223 c224 c225 c226 c227 c228 c229 c230 c231 c232 c233 c234 c235 c236 c237 c238 c239 c240 c241 c242 c243 c244 : Value} {W0 : World} {T0 : TD} (h0 : Hall w [.dev p s, .tab t T0] KL W0) (hG : Good s T0) (hTn : T0.n = n) (hTd : T0.d = p)
    (hexit : ∀ (u23 u211 u212 u213 u214 u215 u216 u217 u218 : Value) (W : World) (T : TD), Hall w [.dev p s, .tab t T] KL W → Good s T → T.n = n → T.d = p → (∀ b, b < n → T.nowC b = 0) → Q0 (.exit 6) ⟨List.toArray (.int .u32 (n : Int) :: c1 :: c2 :: c3 :: c4 :: c5 :: c6 :: c7 :: c8 :: .pointer (some ⟨t, 0, none⟩) :: c10 :: c11 :: c12 :: c13 :: c14 :: c15 :: c16 :: c17 :: c18 :: c19 :: c20 :: c21 :: c22 :: u23 :: c24 :: c25 :: c26 :: c27 :: c28 :: c29 :: c30 :: c31 :: c32 :: c33 :: c34 :: c35 :: c36 :: c37 :: c38 :: c39 :: c40 :: c41 :: c42 :: c43 :: c44 :: c45 :: c46 :: c47 :: c48 :: c49 :: c50 :: c51 :: c52 :: c53 :: c54 :: c55 :: c56 :: c57 :: c58 :: c59 :: c60 :: c61 :: c62 :: c63 :: c64 :: c65 :: c66 :: c67 :: c68 :: c69 :: c70 :: c71 :: c72 :: c73 :: c74 :: c75 :: c76 :: c77 :: c78 :: c79 :: c80 :: c81 :: c82 :: c83 :: c84 :: c85 :: c86 :: c87 :: c88 :: c89 :: c90 :: c91 :: c92 :: c93 :: c94 :: c95 :: c96 :: c97 :: c98 :: c99 :: c100 :: c101 :: c102 :: c103 :: c104 :: c105 :: c106 :: c107 :: c108 :: c109 :: c110 :: c111 :: c112 :: c113 :: c114 :: c115 :: c116 :: c117 :: c118 :: c119 :: c120 :: c121 :: c122 :: c123 :: c124 :: c125 :: c126 :: c127 :: c128 :: c129 :: c130 :: c131 :: c132 :: c133 :: c134 :: c135 :: c136 :: c137 :: c138 :: c139 :: c140 :: c141 :: c142 :: c143 :: c144 :: c145 :: c146 :: c147 :: c148 :: c149 :: c150 :: c151 :: c152 :: c153 :: c154 :: c155 :: c156 :: c157 :: c158 :: c159 :: c160 :: c161 :: c162 :: c163 :: c164 :: c165 :: c166 :: c167 :: c168 :: c169 :: c170 :: c171 :: c172 :: c173 :: c174 :: c175 :: c176 :: c177 :: c178 :: c179 :: c180 :: c181 :: c182 :: c183 :: c184 :: c185 :: c186 :: c187 :: c188 :: c189 :: c190 :: c191 :: c192 :: c193 :: c194 :: c195 :: c196 :: c197 :: c198 :: c199 :: c200 :: c201 :: c202 :: c203 :: c204 :: c205 :: c206 :: c207 :: c208 :: c209 :: c210 :: u211 :: u212 :: u213 :: u214 :: u215 :: u216 :: u217 :: u218 :: c219 :: c220 :: c221 :: c222 :: c223 :: c224 :: c225 :: c226 :: c227 :: c228 :: c229 :: c230 :: c231 :: c232 :: c233 :: c234 :: c235 :: c236 :: c237 :: c238 :: c239 :: c240 :: c241 :: c242 :: c243 :: c244 :: []), []⟩ W) :
    Code.wp Tryz.prog (.loop bodyA3) Q0 ⟨List.toArray (.int .u32 (n : Int) :: c1 :: c2 :: c3 :: c4 :: c5 :: c6 :: c7 :: c8 :: .pointer (some ⟨t, 0, none⟩) :: c10 :: c11 :: c12 :: c13 :: c14 :: c15 :: c16 :: c17 :: c18 :: c19 :: c20 :: c21 :: c22 :: .int .u32 (fs : Int) :: c24 :: c25 :: c26 :: c27 :: c28 :: c29 :: c30 :: c31 :: c32 :: c33 :: c34 :: c35 :: c36 :: c37 :: c38 :: c39 :: c40 :: c41 :: c42 :: c43 :: c44 :: c45 :: c46 :: c47 :: c48 :: c49 :: c50 :: c51 :: c52 :: c53 :: c54 :: c55 :: c56 :: c57 :: c58 :: c59 :: c60 :: c61 :: c62 :: c63 :: c64 :: c65 :: c66 :: c67 :: c68 :: c69 :: c70 :: c71 :: c72 :: c73 :: c74 :: c75 :: c76 :: c77 :: c78 :: c79 :: c80 :: c81 :: c82 :: c83 :: c84 :: c85 :: c86 :: c87 :: c88 :: c89 :: c90 :: c91 :: c92 :: c93 :: c94 :: c95 :: c96 :: c97 :: c98 :: c99 :: c100 :: c101 :: c102 :: c103 :: c104 :: c105 :: c106 :: c107 :: c108 :: c109 :: c110 :: c111 :: c112 :: c113 :: c114 :: c115 :: c116 :: c117 :: c118 :: c119 :: c120 :: c121 :: c122 :: c123 :: c124 :: c125 :: c126 :: c127 :: c128 :: c129 :: c130 :: c131 :: c132 :: c133 :: c134 :: c135 :: c136 :: c137 :: c138 :: c139 :: c140 :: c141 :: c142 :: c143 :: c144 :: c145 :: c146 :: c147 :: c148 :: c149 :: c150 :: c151 :: c152 :: c153 :: c154 :: c155 :: c156 :: c157 :: c158 :: c159 :: c160 :: c161 :: c162 :: c163 :: c164 :: c165 :: c166 :: c167 :: c168 :: c169 :: c170 :: c171 :: c172 :: c173 :: c174 :: c175 :: c176 :: c177 :: c178 :: c179 :: c180 :: c181 :: c182 :: c183 :: c184 :: c185 :: c186 :: c187 :: c188 :: c189 :: c190 :: c191 :: c192 :: c193 :: c194 :: c195 :: c196 :: c197 :: c198 :: c199 :: c200 :: c201 :: c202 :: c203 :: c204 :: c205 :: c206 :: c207 :: c208 :: c209 :: c210 :: c211 :: c212 :: c213 :: c214 :: c215 :: c216 :: c217 :: c218 :: c219 :: c220 :: c221 :: c222 :: c223 :: c224 :: c225 :: c226 :: c227 :: c228 :: c229 :: c230 :: c231 :: c232 :: c233 :: c234 :: c235 :: c236 :: c237 :: c238 :: c239 :: c240 :: c241 :: c242 :: c243 :: c244 :: []), []⟩ W0 := by
  have HEX := Lib.hid hexit; clear hexit
  have HM0 : Hid (Hall w [.dev p s, .tab t T0] KL W0 ∧ Good s T0 ∧ T0.n = n ∧ T0.d = p ∧ ∀ b, b < fs → T0.nowC b = 0) := Lib.hid ⟨h0, hG, hTn, hTd, fun b hb => by unfold TD.nowC cntV; rw [hTn, if_neg (fun hh => by omega)]⟩
  have HFS := Lib.hid hfs
  clear h0 hG hTn hTd hfs
  conv => arg 2; arg 1; whnf
  go_loopw [23] (fun v23 W => ∃ (k : Nat) (T : TD), v23 = .int .u32 (k : Int) ∧ (fs ≤ k ∧ k ≤ n) ∧ Hid (Hall w [.dev p s, .tab t T] KL W ∧ Good s T ∧ T.n = n ∧ T.d = p ∧ ∀ b, b < k → T.nowC b = 0)) (fun v23 _ => n - (intOf v23).toNat)
  case atStart => exact ⟨fs, T0, rfl, by omega, HM0⟩
  case round =>
    clear HM0
    obtain ⟨k, T, rfl, hk, HM⟩ := hrel
    obtain ⟨hk1, hk2⟩ := hk
    by_cases hkn : k < n
    · have i0 : (k : Int) < (n : Int) := by omega
      have z2 : IntKind.u32.wrap ((k : Int) + 1) = (k : Int) + 1 := IntWalk.u32_in _ (by omega)
      have HC : Hid (Calls Tryz.prog 13 #[.pointer (some ⟨t, 0, none⟩), .int .u32 (k : Int), .int .u16 0] wr fun e W' => e = .returned (.int .i64 0) ∧ Hid (Hall w [.dev p s, .tab t (setS T k 0)] KL W' ∧ Good s (setS T k 0) ∧ (setS T k 0).n = n ∧ (setS T k 0).d = p ∧ ∀ b, b < k + 1 → (setS T k 0).nowC b = 0)) := Lib.hid (by
        obtain ⟨hH, hG, hTn, hTd, hz⟩ := HM.out
        have h := Hall.set_ hH (i := 1) (j := 0) (T := T) (s := s) rfl (by rw [hTd]; rfl) (by decide) hG.reads (a := k) (v := 0) (by omega) (by omega)
        have e : setE T.n k = 0 := by unfold setE; rw [hTn, if_pos ⟨by have := HFS.out; omega, hkn⟩]
        rw [e] at h
        exact h.mono fun e w' ⟨h1, h2⟩ => ⟨h1, Lib.hid ⟨h2, hG.setS k (by omega), (setS_same T k 0).1.trans hTn, (setS_same T k 0).2.1.trans hTd, fun b hb => by
          rw [nowC_setS hG.ok]
          split
          · rfl
          · rename_i hne
            by_cases e : b = k
            · exact absurd ⟨by have := HFS.out; rw [hTn]; omega, by rw [hTn]; exact hkn, e.symm⟩ hne
            · exact hz b (by omega)⟩⟩)
      clear HM
      go_wp2_with fail
      refine HC.out.mono ?_
      clear HC
      rintro e W2 ⟨rfl, hh⟩
      go_wp2_with fail
      go_roundw
      case rel => exact ⟨k + 1, _, by go_num, by omega, hh⟩
      case measure => simp [intOf]; omega
    · have hkn2 : k = n := by omega
      subst hkn2
      have i0 : ¬ (k : Int) < (k : Int) := by omega
      go_wp2_with fail
      exact HEX.out _ _ _ _ _ _ _ _ _ _ T HM.out.1 HM.out.2.1 HM.out.2.2.1 HM.out.2.2.2.1 HM.out.2.2.2.2
end Go.Proofs.YtojpcgjmainbfaaGreat.Cnt

