/-
  The loop of the law DevCrashes over a block's sectors.
-/
import Derived.Test.YtlgjgobelceheaaDevCrashActs
namespace Go.Proofs.Ytlgjgobelceheaa.Dev
open Go.RowKit RowLaw

set_option linter.unusedVariables false in
set_option linter.unusedSimpArgs false in
set_option maxRecDepth 100000 in
set_option maxHeartbeats 12800000 in
theorem sectors_loop {w : World} {l : List (Nat × DS)} {K : List (Nat × Obj)} {b18 b22 : Nat} {xl zl : List UInt8} (hz : (b22, .cells (cellsOf zl) 47 (0, 0)) ∈ K) (hzl : zl.length = 256) (hxx : (b18, .cells (cellsOf xl) 47 (0, 0)) ∈ K) (hxl : xl.length = 256)
    {xs : List Ac} {pa : Option Addr} {n cap : Nat} (hn : n = xs.length) (hn60 : n ≤ 60) (hx : Acts w pa xs) {a : Nat}
    (hfr : ∀ j, j < 256 → zl[j]? = xl[j]? ∨ ∃ (i : Nat) (hi : i < xs.length), xs[i].a = a ∧ zl[j]? = (blockB xs[i].c)[j]?)
    {Q0 : Exit → Act → World → Prop} {c1 c2 c3 c4 c5 c6 c7 c8 c9 c10 c11 c12 c13 c14 c16 c17 c19 c20 c21 c23 c24 c25 c27 c28 c29 c30 c31 c32 c33 c34 c35 c36 c37 c38 c39 c40 c41 c42 c43 c44 c45 c46 c47 c48 c49 c50 c51 c52 c53 c54 c55 c56 c57 c58 c59 c60 c61 c62 c63 c64 c65 c66 c67 c68 c69 c70 c71 c72 c73 c74 c75 c76 c77 c78 c79 c80 c81 c82 c83 c84 c85 c86 c87 c88 c89 c90 c91 c92 c93 c94 c95 c96 c97 c98 c99 c100 c101 c102 c103 c104 c105 c106 c107 c108 c109 c110 c111 c112 c113 c114 c115 c116 c117 c118 c119 c120 c121 c122 c123 c124 c125 c126 c127 c128 c129 c130 c131 c132 c133 c134 c135 c136 c137 c138 c139 c140 c141 c142 c143 c144 c145 c146 c147 c148 c149 c150 c151 c152 c153 c154 c155 c156 c157 c158 c159 c160 c161 c162 c163 c164 c165 c166 c167 c168 c169 c170 c171 c172 c173 c174 c175 c176 c177 c178 c179 c180 c181 c182 c183 c184 c185 c186 c187 c188 c189 c190 c191 c192 c193 c194 c195 c196 c197 c198 c199 c200 c201 c202 c203 c204 c205 c206 c207 c208 c209 c210 c211 c212 c213 c214 c215 c216 : Value} {W0 : World} (hM : Many w l K W0)
    (hexit : ∀ (u4 u26 u27 u28 u170 u171 u172 u173 u174 u175 u176 u177 u178 u179 u180 u181 u182 u183 u184 u185 u186 u187 u188 u189 u190 u191 u192 u193 u194 u195 u196 u197 u198 u199 u200 u201 u202 u203 u204 u205 u206 u207 u208 u209 u210 u211 u212 u213 u214 u215 : Value) (W : World), Many w l K W → Q0 (.exit 6) ⟨List.toArray (.slice pa n cap :: c1 :: c2 :: c3 :: u4 :: c5 :: c6 :: c7 :: c8 :: c9 :: c10 :: c11 :: c12 :: c13 :: c14 :: .int .u32 (a : Int) :: c16 :: c17 :: .pointer (some ⟨b18, 0, none⟩) :: c19 :: c20 :: c21 :: .pointer (some ⟨b22, 0, none⟩) :: c23 :: c24 :: c25 :: u26 :: u27 :: u28 :: c29 :: c30 :: c31 :: c32 :: c33 :: c34 :: c35 :: c36 :: c37 :: c38 :: c39 :: c40 :: c41 :: c42 :: c43 :: c44 :: c45 :: c46 :: c47 :: c48 :: c49 :: c50 :: c51 :: c52 :: c53 :: c54 :: c55 :: c56 :: c57 :: c58 :: c59 :: c60 :: c61 :: c62 :: c63 :: c64 :: c65 :: c66 :: c67 :: c68 :: c69 :: c70 :: c71 :: c72 :: c73 :: c74 :: c75 :: c76 :: c77 :: c78 :: c79 :: c80 :: c81 :: c82 :: c83 :: c84 :: c85 :: c86 :: c87 :: c88 :: c89 :: c90 :: c91 :: c92 :: c93 :: c94 :: c95 :: c96 :: c97 :: c98 :: c99 :: c100 :: c101 :: c102 :: c103 :: c104 :: c105 :: c106 :: c107 :: c108 :: c109 :: c110 :: c111 :: c112 :: c113 :: c114 :: c115 :: c116 :: c117 :: c118 :: c119 :: c120 :: c121 :: c122 :: c123 :: c124 :: c125 :: c126 :: c127 :: c128 :: c129 :: c130 :: c131 :: c132 :: c133 :: c134 :: c135 :: c136 :: c137 :: c138 :: c139 :: c140 :: c141 :: c142 :: c143 :: c144 :: c145 :: c146 :: c147 :: c148 :: c149 :: c150 :: c151 :: c152 :: c153 :: c154 :: c155 :: c156 :: c157 :: c158 :: c159 :: c160 :: c161 :: c162 :: c163 :: c164 :: c165 :: c166 :: c167 :: c168 :: c169 :: u170 :: u171 :: u172 :: u173 :: u174 :: u175 :: u176 :: u177 :: u178 :: u179 :: u180 :: u181 :: u182 :: u183 :: u184 :: u185 :: u186 :: u187 :: u188 :: u189 :: u190 :: u191 :: u192 :: u193 :: u194 :: u195 :: u196 :: u197 :: u198 :: u199 :: u200 :: u201 :: u202 :: u203 :: u204 :: u205 :: u206 :: u207 :: u208 :: u209 :: u210 :: u211 :: u212 :: u213 :: u214 :: u215 :: c216 :: []), []⟩ W) :
    Code.wp Try.prog (.loop body4) Q0 ⟨List.toArray (.slice pa n cap :: c1 :: c2 :: c3 :: c4 :: c5 :: c6 :: c7 :: c8 :: c9 :: c10 :: c11 :: c12 :: c13 :: c14 :: .int .u32 (a : Int) :: c16 :: c17 :: .pointer (some ⟨b18, 0, none⟩) :: c19 :: c20 :: c21 :: .pointer (some ⟨b22, 0, none⟩) :: c23 :: c24 :: c25 :: .int .i64 0 :: c27 :: c28 :: c29 :: c30 :: c31 :: c32 :: c33 :: c34 :: c35 :: c36 :: c37 :: c38 :: c39 :: c40 :: c41 :: c42 :: c43 :: c44 :: c45 :: c46 :: c47 :: c48 :: c49 :: c50 :: c51 :: c52 :: c53 :: c54 :: c55 :: c56 :: c57 :: c58 :: c59 :: c60 :: c61 :: c62 :: c63 :: c64 :: c65 :: c66 :: c67 :: c68 :: c69 :: c70 :: c71 :: c72 :: c73 :: c74 :: c75 :: c76 :: c77 :: c78 :: c79 :: c80 :: c81 :: c82 :: c83 :: c84 :: c85 :: c86 :: c87 :: c88 :: c89 :: c90 :: c91 :: c92 :: c93 :: c94 :: c95 :: c96 :: c97 :: c98 :: c99 :: c100 :: c101 :: c102 :: c103 :: c104 :: c105 :: c106 :: c107 :: c108 :: c109 :: c110 :: c111 :: c112 :: c113 :: c114 :: c115 :: c116 :: c117 :: c118 :: c119 :: c120 :: c121 :: c122 :: c123 :: c124 :: c125 :: c126 :: c127 :: c128 :: c129 :: c130 :: c131 :: c132 :: c133 :: c134 :: c135 :: c136 :: c137 :: c138 :: c139 :: c140 :: c141 :: c142 :: c143 :: c144 :: c145 :: c146 :: c147 :: c148 :: c149 :: c150 :: c151 :: c152 :: c153 :: c154 :: c155 :: c156 :: c157 :: c158 :: c159 :: c160 :: c161 :: c162 :: c163 :: c164 :: c165 :: c166 :: c167 :: c168 :: c169 :: c170 :: c171 :: c172 :: c173 :: c174 :: c175 :: c176 :: c177 :: c178 :: c179 :: c180 :: c181 :: c182 :: c183 :: c184 :: c185 :: c186 :: c187 :: c188 :: c189 :: c190 :: c191 :: c192 :: c193 :: c194 :: c195 :: c196 :: c197 :: c198 :: c199 :: c200 :: c201 :: c202 :: c203 :: c204 :: c205 :: c206 :: c207 :: c208 :: c209 :: c210 :: c211 :: c212 :: c213 :: c214 :: c215 :: c216 :: []), []⟩ W0 := by
  have HEX := Lib.hid hexit; clear hexit
  have HX := Lib.hid hx; clear hx
  have HN := Lib.hid hn; clear hn
  have HZ := Lib.hid hz; clear hz
  have HZL := Lib.hid hzl; clear hzl
  have HXX := Lib.hid hxx; clear hxx
  have HXL := Lib.hid hxl; clear hxl
  have HFR := Lib.hid hfr; clear hfr
  conv => arg 2; arg 1; whnf
  go_loopw [26] (fun i wr => ∃ k : Nat, k ≤ 4 ∧ i = .int .i64 (k : Int) ∧ Many w l K wr) (fun i _ => 4 - (intOf i).toNat)
  case atStart => exact ⟨0, by omega, rfl, hM⟩
  case round =>
    obtain ⟨k, hk, rfl, hl⟩ := hrel
    clear hM
    by_cases hk4 : k < 4
    · obtain ⟨kk, hkk⟩ : ∃ kk, kk = 64 * k := ⟨_, rfl⟩
      have hkk256 : kk < 256 := by omega
      have m64 : (64 : Int) * (k : Int) = (kk : Int) := by omega
      have zkk : IntKind.i64.wrap (kk : Int) = (kk : Int) := IntWalk.i64_in _ (by omega)
      have ikk : (kk : Int) < 256 := by omega
      have ikk0 : (0 : Int) ≤ (kk : Int) := by omega
      have z5 : IntKind.i64.wrap ((k : Int) + 1) = (k : Int) + 1 := IntWalk.i64_in _ (by omega)
      have ik4 : (k : Int) < 4 := by omega
      have HKK := Lib.hid hkk; clear hkk
      have zc : (cellsOf zl)[kk]? = some (.int .u8 ((zl[kk]'(by have := HZL.out; omega)).toNat : Int)) := cellsOf_get zl kk (by have := HZL.out; omega)
      have xc : (cellsOf xl)[kk]? = some (.int .u8 ((xl[kk]'(by have := HXL.out; omega)).toNat : Int)) := cellsOf_get xl kk (by have := HXL.out; omega)
      have ez := List.getElem?_eq_getElem (show kk < zl.length by have := HZL.out; omega)
      have ex := List.getElem?_eq_getElem (show kk < xl.length by have := HXL.out; omega)
      generalize zl[kk]'(by have := HZL.out; omega) = zb at zc ez
      generalize xl[kk]'(by have := HXL.out; omega) = xb at xc ex
      obtain ⟨bz, d0⟩ : ∃ bz, decide (zb.toNat = xb.toNat) = bz := ⟨_, rfl⟩
      have hgood : bz = true ∨ ∃ (i : Nat) (hi : i < xs.length), xs[i].a = a ∧ zl[kk]? = (blockB xs[i].c)[kk]? := by
        rcases HFR.out kk hkk256 with h | h
        · rw [ez, ex] at h
          exact .inl (by rw [← d0, Option.some.inj h]; simp)
        · exact .inr h
      have HG := Lib.hid hgood; clear hgood ez ex
      have Hz : ∀ W : World, Many w l K W → W.cell? ⟨b22, kk, none⟩ = some (.int .u8 (zb.toNat : Int)) := fun W h => (cell_of_row W b22 kk _ _ _ (h.at_ HZ.out)).trans zc
      have Hx : ∀ W : World, Many w l K W → W.cell? ⟨b18, kk, none⟩ = some (.int .u8 (xb.toNat : Int)) := fun W h => (cell_of_row W b18 kk _ _ _ (h.at_ HXX.out)).trans xc
      clear zc xc
      have d1 : decide ((zb.toNat : Int) = (xb.toNat : Int)) = bz := by rw [← d0]; exact decide_eq_decide.2 (by omega)
      have d2 : ((zb.toNat : Int) == (xb.toNat : Int)) = bz := d1
      have d3 : (zb.toNat == xb.toNat) = bz := d0
      go_wp2_with fail
      have hS := hl.drew
      clear hl
      refine wp_region_class_lit (Many w l K) (by kernel_rfl) (by kernel_rfl) hS ?_
      haveI : Nonempty {w' : World // Many w l K w'} := ⟨⟨_, hS⟩⟩
      clear hS
      repeat (first | go_big_quiet_skip | (go_big_quiet_want; first | (refine quiet_load_u8 _ rfl ⟨b22, kk, none⟩ rfl _ Hz ?_; go_big_quiet_on; simp only [Act.put, List.setIfInBounds_toArray, List.set_cons_zero, List.set_cons_succ]) | (refine quiet_load_u8 _ rfl ⟨b18, kk, none⟩ rfl _ Hx ?_; go_big_quiet_on; simp only [Act.put, List.setIfInBounds_toArray, List.set_cons_zero, List.set_cons_succ]) | (go_big_quiet_op; first | go_big_quiet_on | go_big_quiet_call (first | (intro _; rfl)))))
      refine wpQuiet_nil ?_
      intro w2 hw2
      clear Hz Hx d0 d1 d2 d3
      have hl := hw2
      clear hw2
      go_wp2_with fail
      refine acts_loop HZ.out HZL.out HN.out hn60 HX.out HKK.out hk4 HG.out hl ?_
      clear hl
      intro _ _ _ _ _ _ _ _ _ _ _ _ _ _ _ _ _ _ _ _ _ _ _ _ _ _ _ _ _ _ _ _ WA hl
      go_wp2_with fail
      go_roundw
      case rel => exact ⟨k + 1, by omega, by go_num, hl⟩
      case measure => simp [intOf]; omega
    · have hk44 : k = 4 := by omega
      subst hk44
      go_wp2_with fail
      exact HEX.out _ _ _ _ _ _ _ _ _ _ _ _ _ _ _ _ _ _ _ _ _ _ _ _ _ _ _ _ _ _ _ _ _ _ _ _ _ _ _ _ _ _ _ _ _ _ _ _ _ _ _ hl

end Go.Proofs.Ytlgjgobelceheaa.Dev
