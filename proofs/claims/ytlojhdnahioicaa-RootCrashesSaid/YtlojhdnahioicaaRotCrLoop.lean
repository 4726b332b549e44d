/-
  The loops of the law RootCrashes: the block that is wanted; what is read.
-/
import Derived.Test.YtlojhdnahioicaaRotCrashM
namespace Go.Proofs.Ytlojhdnahioicaa.Rot
open Go.RowKit RowLaw Crc
set_option maxRecDepth 100000
open Go.Proofs.Ytlojhdnahioicaa.Fld (blockO)
open Go.Proofs.Ytlojhdnahioicaa.Slt (Rt cells rootO)
open Go.Proofs.Ytlojhdnahioicaa.Dev (Dev DS ptr Many putCells readB applyP)

def loopsOf : Code → List Code
  | .loop c => [c]
  | .seq a b => loopsOf a ++ loopsOf b
  | .block _ c => loopsOf c
  | .scope c => loopsOf c
  | .cond _ a b => loopsOf a ++ loopsOf b
  | _ => []
noncomputable def bodyO : Code := ((Try.f4.body.bind fun c => (loopsOf c)[0]?).getD .skip)
noncomputable def bodyI : Code := ((loopsOf bodyO)[0]?).getD .skip

set_option linter.unusedVariables false in
set_option linter.unusedSimpArgs false in
set_option maxHeartbeats 6400000 in
theorem inner_loop {w : World} {l : List (Nat × DS)} {K : List (Nat × Obj)} {b19 : Nat} {G : Nat → List UInt8} {xs : List (Nat × List UInt8)} {b off n cap k c : Nat} (hn : n = xs.length) (hn60 : n ≤ 60) (hk : k < n) (hc : ∀ h : k < xs.length, xs[k].1 = c)
    (hat : ∀ j (hj : j < xs.length), ∀ W, Below w.heap.size w W → W.rangeAt b (off + j * 257) (putCells xs[j])) (hxl : ∀ x ∈ xs, x.2.length = 256) (hG : ∀ a, (G a).length = 256) (hw : w.heap.size ≤ b19) (hne : ∀ x ∈ K, x.1 ≠ b19)
    {Q0 : Exit → Act → World → Prop} {c0 c2 c3 c4 c5 c6 c7 c8 c9 c10 c11 c12 c13 c14 c15 c17 c18 c21 c22 c23 c24 c25 c26 c27 c28 c29 c30 c31 c32 c33 c34 c35 c36 c37 c38 c39 c40 c41 c42 c43 c44 c45 c46 c47 c48 c49 c50 c51 c52 c53 c54 c55 c56 c57 c58 c59 c60 c61 c62 c63 c64 c65 c66 c67 c68 c69 c70 c71 c72 c73 c74 c75 c76 c77 c78 c79 c80 c81 c82 c83 c84 c85 c86 c87 c88 c89 c90 c91 c92 c93 c94 c95 c96 c97 c98 c99 c100 c101 c102 c103 c104 c105 c106 c107 c108 c109 c110 c111 c112 c113 c114 c115 c116 c117 c118 c119 c120 c121 c122 c123 c124 c125 c126 c127 c128 c129 c130 c131 c132 c133 c134 c135 c136 c137 c138 c139 c140 c141 c142 c143 c144 c145 c146 c147 c148 c149 c150 c151 c152 c153 c154 c155 c156 c157 c158 c159 c160 c161 c162 c163 c164 c165 c166 c167 c168 c169 c170 c171 c172 c173 c174 : Value} {W0 : World} (hM : Many w l ((b19, blockO (wantF G xs c k k)) :: K) W0)
    (hexit : ∀ (u135 u136 u137 u138 u139 u140 u141 u142 u143 u144 u145 u146 u147 u148 u149 u150 u151 u152 u153 u154 u155 u156 : Value) (W : World), Many w l ((b19, blockO (wantF G xs c k n)) :: K) W → Q0 (.exit 2) ⟨List.toArray (c0 :: .slice (some ⟨b, off, none⟩) n cap :: c2 :: c3 :: c4 :: c5 :: c6 :: c7 :: c8 :: c9 :: c10 :: c11 :: c12 :: c13 :: c14 :: c15 :: .int .i64 (k : Int) :: c17 :: c18 :: .pointer (some ⟨b19, 0, none⟩) :: .int .i64 (n : Int) :: c21 :: c22 :: c23 :: c24 :: c25 :: c26 :: c27 :: c28 :: c29 :: c30 :: c31 :: c32 :: c33 :: c34 :: c35 :: c36 :: c37 :: c38 :: c39 :: c40 :: c41 :: c42 :: c43 :: c44 :: c45 :: c46 :: c47 :: c48 :: c49 :: c50 :: c51 :: c52 :: c53 :: c54 :: c55 :: c56 :: c57 :: c58 :: c59 :: c60 :: c61 :: c62 :: c63 :: c64 :: c65 :: c66 :: c67 :: c68 :: c69 :: c70 :: c71 :: c72 :: c73 :: c74 :: c75 :: c76 :: c77 :: c78 :: c79 :: c80 :: c81 :: c82 :: c83 :: c84 :: c85 :: c86 :: c87 :: c88 :: c89 :: c90 :: c91 :: c92 :: c93 :: c94 :: c95 :: c96 :: c97 :: c98 :: c99 :: c100 :: c101 :: c102 :: c103 :: c104 :: c105 :: c106 :: c107 :: c108 :: c109 :: c110 :: c111 :: c112 :: c113 :: c114 :: c115 :: c116 :: c117 :: c118 :: c119 :: c120 :: c121 :: c122 :: c123 :: c124 :: c125 :: c126 :: c127 :: c128 :: c129 :: c130 :: c131 :: c132 :: c133 :: c134 :: u135 :: u136 :: u137 :: u138 :: u139 :: u140 :: u141 :: u142 :: u143 :: u144 :: u145 :: u146 :: u147 :: u148 :: u149 :: u150 :: u151 :: u152 :: u153 :: u154 :: u155 :: u156 :: c157 :: c158 :: c159 :: c160 :: c161 :: c162 :: c163 :: c164 :: c165 :: c166 :: c167 :: c168 :: c169 :: c170 :: c171 :: c172 :: c173 :: c174 :: []), []⟩ W) :
    Code.wp Try.prog (.loop bodyI) Q0 ⟨List.toArray (c0 :: .slice (some ⟨b, off, none⟩) n cap :: c2 :: c3 :: c4 :: c5 :: c6 :: c7 :: c8 :: c9 :: c10 :: c11 :: c12 :: c13 :: c14 :: c15 :: .int .i64 (k : Int) :: c17 :: c18 :: .pointer (some ⟨b19, 0, none⟩) :: .int .i64 (k : Int) :: c21 :: c22 :: c23 :: c24 :: c25 :: c26 :: c27 :: c28 :: c29 :: c30 :: c31 :: c32 :: c33 :: c34 :: c35 :: c36 :: c37 :: c38 :: c39 :: c40 :: c41 :: c42 :: c43 :: c44 :: c45 :: c46 :: c47 :: c48 :: c49 :: c50 :: c51 :: c52 :: c53 :: c54 :: c55 :: c56 :: c57 :: c58 :: c59 :: c60 :: c61 :: c62 :: c63 :: c64 :: c65 :: c66 :: c67 :: c68 :: c69 :: c70 :: c71 :: c72 :: c73 :: c74 :: c75 :: c76 :: c77 :: c78 :: c79 :: c80 :: c81 :: c82 :: c83 :: c84 :: c85 :: c86 :: c87 :: c88 :: c89 :: c90 :: c91 :: c92 :: c93 :: c94 :: c95 :: c96 :: c97 :: c98 :: c99 :: c100 :: c101 :: c102 :: c103 :: c104 :: c105 :: c106 :: c107 :: c108 :: c109 :: c110 :: c111 :: c112 :: c113 :: c114 :: c115 :: c116 :: c117 :: c118 :: c119 :: c120 :: c121 :: c122 :: c123 :: c124 :: c125 :: c126 :: c127 :: c128 :: c129 :: c130 :: c131 :: c132 :: c133 :: c134 :: c135 :: c136 :: c137 :: c138 :: c139 :: c140 :: c141 :: c142 :: c143 :: c144 :: c145 :: c146 :: c147 :: c148 :: c149 :: c150 :: c151 :: c152 :: c153 :: c154 :: c155 :: c156 :: c157 :: c158 :: c159 :: c160 :: c161 :: c162 :: c163 :: c164 :: c165 :: c166 :: c167 :: c168 :: c169 :: c170 :: c171 :: c172 :: c173 :: c174 :: []), []⟩ W0 := by
  have HEX := Lib.hid hexit; clear hexit
  have HAT := Lib.hid hat; clear hat
  have HXL := Lib.hid hxl; clear hxl
  have HGL := Lib.hid hG; clear hG
  have HNE := Lib.hid hne; clear hne
  have HN := Lib.hid hn; clear hn
  have HCK := Lib.hid (hc (by have := HN.out; omega)); clear hc
  conv => arg 2; arg 1; whnf
  go_loopw [20] (fun j wx => ∃ jj : Nat, k ≤ jj ∧ jj ≤ n ∧ j = .int .i64 jj ∧ Many w l ((b19, blockO (wantF G xs c k jj)) :: K) wx) (fun j _ => n - (intOf j).toNat)
  case atStart => exact ⟨k, Nat.le_refl _, by omega, rfl, hM⟩
  case round =>
    clear hM
    obtain ⟨jj, hkj, hjn, rfl, hm⟩ := hrel
    by_cases hlt : jj < n
    · have hjl : jj < xs.length := by have := HN.out; omega
      have hkl : k < xs.length := by have := HN.out; omega
      have r1 := HAT.out jj hjl wr hm.bel
      have r2 := HAT.out k hkl wr hm.bel
      have c1 : wr.cell? ⟨b, off + jj * 257, none⟩ = some (.int .u32 (xs[jj].1 : Int)) := by simpa [putCells] using r1 0 _ rfl
      have c2 : wr.cell? ⟨b, off + k * 257, none⟩ = some (.int .u32 (c : Int)) := by rw [← HCK.out]; simpa [putCells] using r2 0 _ rfl
      have j0 : (0 : Int) ≤ (jj : Int) := by omega
      have j1 : (jj : Int) < (n : Int) := by omega
      have k0 : (0 : Int) ≤ (k : Int) := by omega
      have k1 : (k : Int) < (n : Int) := by omega
      clear r1 r2
      by_cases he : xs[jj].1 = c
      · have hyl := HXL.out _ (List.getElem_mem hjl)
        have hws := want_same (G := G) (c := c) hkj hjl he
        have hcr : ∀ W, Below w.heap.size w W → W.rangeAt b (off + jj * 257 + 1) (cellsOf xs[jj].2).toList := fun W hW i v hv => by
          rw [Nat.add_assoc, Nat.add_comm 1 i]
          exact HAT.out jj hjl W hW (i + 1) v hv
        rw [he] at c1
        generalize xs[jj].2 = yl at hyl hws hcr
        have HWS := Lib.hid hws
        have HCR := Lib.hid hcr
        have hiY := sizeBlock yl hyl
        have hwlen := want_len (G := G) HGL.out HXL.out c k jj
        have hzY : (cellsOf (wantF G xs c k jj)).size = (cellsOf yl).size := by rw [cellsOf_size, cellsOf_size, hwlen, hyl]
        have hmd : ∀ a, Many w l ((b19, blockO (wantF G xs c k jj)) :: K) (wr.drewN a) := fun a => hm.below ⟨rfl, rfl, rfl, Nat.le_refl _, fun _ _ => rfl⟩
        have HMD := Lib.hid hmd
        clear hws hcr he hwlen hm hmd
        go_wp2_with fail
        go_quiet (fail)
        go_wp2_with (first
          | (refine Dev.wpList_load_sub rfl 49 _ rfl b (off + jj * 257 + 1) rfl (cellsOf yl) _ (HCR.out _ (HMD.out _).bel) Try.underlying49 rfl hiY ?_)
          | (refine wpList_store_row rfl 49 _ _ rfl b19 _ rfl rfl _ _ ((HMD.out _).at_ List.mem_cons_self) hiY hzY (cellsOf_one _) ?_))
        go_roundw
        case rel =>
          refine ⟨jj + 1, by omega, by omega, by go_num, ?_⟩
          rw [HWS.out]
          exact Many.setRow (HMD.out _) hw HNE.out
        case measure => simp [intOf]; omega
      · have hws := want_other (G := G) hkl hkj hjl (by rw [HCK.out]; exact he)
        rw [HCK.out] at hws
        have d0 : ((xs[jj].1 : Int) == (c : Int)) = false := by rw [beq_eq_false_iff_ne]; omega
        generalize xs[jj].1 = a at c1 d0
        have hmd : ∀ a, Many w l ((b19, blockO (wantF G xs c k jj)) :: K) (wr.drewN a) := fun a => hm.below ⟨rfl, rfl, rfl, Nat.le_refl _, fun _ _ => rfl⟩
        have HMD := Lib.hid hmd
        have HWS := Lib.hid hws
        clear he hm hmd hws
        go_wp2_with fail
        go_quiet (fail)
        go_wp2_with fail
        go_roundw
        case rel =>
          refine ⟨jj + 1, by omega, by omega, by go_num, ?_⟩
          rw [HWS.out]
          exact HMD.out _
        case measure => simp [intOf]; omega
    · obtain rfl : jj = n := by omega
      have j1 : ¬ (jj : Int) < (jj : Int) := by omega
      go_wp2_with fail
      exact HEX.out _ _ _ _ _ _ _ _ _ _ _ _ _ _ _ _ _ _ _ _ _ _ _ hm

set_option linter.unusedVariables false in
set_option linter.unusedSimpArgs false in
set_option maxHeartbeats 12800000 in
theorem outer_loop {w : World} {l : List (Nat × DS)} {K : List (Nat × Obj)} {p : Nat} {s3 : DS} {G : Nat → List UInt8} {xs : List (Nat × List UInt8)} {pa : Option Addr} {n cap : Nat} (hn : n = xs.length) (hn60 : n ≤ 60) (hpu : Puts w pa xs) (hi : l[0]? = some (p, s3)) (hs : s3.n = 64 ∧ s3.pend = [])
    (hok : ∀ j (hj : j < xs.length), 2 ≤ xs[j].1 ∧ xs[j].1 < 64) (hG : ∀ a, (G a).length = 256) (hGr : ∀ c, 2 ≤ c → readB s3 c = applyP G xs c)
    {Q0 : Exit → Act → World → Prop} {c0 c2 c3 c4 c5 c6 c8 c9 c10 c11 c12 c13 c14 c15 c17 c18 c19 c20 c21 c22 c23 c24 c25 c26 c27 c28 c29 c30 c31 c32 c33 c34 c35 c36 c37 c38 c39 c40 c41 c42 c43 c44 c45 c46 c47 c48 c49 c50 c51 c52 c53 c54 c55 c56 c57 c58 c59 c60 c61 c62 c63 c64 c65 c66 c67 c68 c69 c70 c71 c72 c73 c74 c75 c76 c77 c78 c79 c80 c81 c82 c83 c84 c85 c86 c87 c88 c89 c90 c91 c92 c93 c94 c95 c96 c97 c98 c99 c100 c101 c102 c103 c104 c105 c106 c107 c108 c109 c110 c111 c112 c113 c114 c115 c116 c117 c118 c119 c120 c121 c122 c123 c124 c125 c126 c127 c128 c129 c130 c131 c132 c133 c134 c135 c136 c137 c138 c139 c140 c141 c142 c143 c144 c145 c146 c147 c148 c149 c150 c151 c152 c153 c154 c155 c156 c157 c158 c159 c160 c161 c162 c163 c164 c165 c166 c167 c168 c169 c170 c171 c172 c173 c174 : Value} {W0 : World} (hM : Many w l K W0)
    (hexit : ∀ (u6 u17 u18 u19 u20 u113 u114 u115 u116 u117 u118 u119 u120 u121 u122 u123 u124 u125 u126 u127 u128 u129 u130 u131 u132 u133 u134 u135 u136 u137 u138 u139 u140 u141 u142 u143 u144 u145 u146 u147 u148 u149 u150 u151 u152 u153 u154 u155 u156 u157 u158 u159 : Value) (W : World), Many w l K W → Q0 (.exit 0) ⟨List.toArray (c0 :: .slice pa n cap :: c2 :: c3 :: c4 :: c5 :: u6 :: .pointer (some ⟨p, 0, none⟩) :: c8 :: c9 :: c10 :: c11 :: c12 :: c13 :: c14 :: c15 :: .int .i64 (n : Int) :: u17 :: u18 :: u19 :: u20 :: c21 :: c22 :: c23 :: c24 :: c25 :: c26 :: c27 :: c28 :: c29 :: c30 :: c31 :: c32 :: c33 :: c34 :: c35 :: c36 :: c37 :: c38 :: c39 :: c40 :: c41 :: c42 :: c43 :: c44 :: c45 :: c46 :: c47 :: c48 :: c49 :: c50 :: c51 :: c52 :: c53 :: c54 :: c55 :: c56 :: c57 :: c58 :: c59 :: c60 :: c61 :: c62 :: c63 :: c64 :: c65 :: c66 :: c67 :: c68 :: c69 :: c70 :: c71 :: c72 :: c73 :: c74 :: c75 :: c76 :: c77 :: c78 :: c79 :: c80 :: c81 :: c82 :: c83 :: c84 :: c85 :: c86 :: c87 :: c88 :: c89 :: c90 :: c91 :: c92 :: c93 :: c94 :: c95 :: c96 :: c97 :: c98 :: c99 :: c100 :: c101 :: c102 :: c103 :: c104 :: c105 :: c106 :: c107 :: c108 :: c109 :: c110 :: c111 :: c112 :: u113 :: u114 :: u115 :: u116 :: u117 :: u118 :: u119 :: u120 :: u121 :: u122 :: u123 :: u124 :: u125 :: u126 :: u127 :: u128 :: u129 :: u130 :: u131 :: u132 :: u133 :: u134 :: u135 :: u136 :: u137 :: u138 :: u139 :: u140 :: u141 :: u142 :: u143 :: u144 :: u145 :: u146 :: u147 :: u148 :: u149 :: u150 :: u151 :: u152 :: u153 :: u154 :: u155 :: u156 :: u157 :: u158 :: u159 :: c160 :: c161 :: c162 :: c163 :: c164 :: c165 :: c166 :: c167 :: c168 :: c169 :: c170 :: c171 :: c172 :: c173 :: c174 :: []), []⟩ W) :
    Code.wp Try.prog (.loop bodyO) Q0 ⟨List.toArray (c0 :: .slice pa n cap :: c2 :: c3 :: c4 :: c5 :: c6 :: .pointer (some ⟨p, 0, none⟩) :: c8 :: c9 :: c10 :: c11 :: c12 :: c13 :: c14 :: c15 :: .int .i64 0 :: c17 :: c18 :: c19 :: c20 :: c21 :: c22 :: c23 :: c24 :: c25 :: c26 :: c27 :: c28 :: c29 :: c30 :: c31 :: c32 :: c33 :: c34 :: c35 :: c36 :: c37 :: c38 :: c39 :: c40 :: c41 :: c42 :: c43 :: c44 :: c45 :: c46 :: c47 :: c48 :: c49 :: c50 :: c51 :: c52 :: c53 :: c54 :: c55 :: c56 :: c57 :: c58 :: c59 :: c60 :: c61 :: c62 :: c63 :: c64 :: c65 :: c66 :: c67 :: c68 :: c69 :: c70 :: c71 :: c72 :: c73 :: c74 :: c75 :: c76 :: c77 :: c78 :: c79 :: c80 :: c81 :: c82 :: c83 :: c84 :: c85 :: c86 :: c87 :: c88 :: c89 :: c90 :: c91 :: c92 :: c93 :: c94 :: c95 :: c96 :: c97 :: c98 :: c99 :: c100 :: c101 :: c102 :: c103 :: c104 :: c105 :: c106 :: c107 :: c108 :: c109 :: c110 :: c111 :: c112 :: c113 :: c114 :: c115 :: c116 :: c117 :: c118 :: c119 :: c120 :: c121 :: c122 :: c123 :: c124 :: c125 :: c126 :: c127 :: c128 :: c129 :: c130 :: c131 :: c132 :: c133 :: c134 :: c135 :: c136 :: c137 :: c138 :: c139 :: c140 :: c141 :: c142 :: c143 :: c144 :: c145 :: c146 :: c147 :: c148 :: c149 :: c150 :: c151 :: c152 :: c153 :: c154 :: c155 :: c156 :: c157 :: c158 :: c159 :: c160 :: c161 :: c162 :: c163 :: c164 :: c165 :: c166 :: c167 :: c168 :: c169 :: c170 :: c171 :: c172 :: c173 :: c174 :: []), []⟩ W0 := by
  have hzb := (zero_of_info infoBlock).1
  have HEX := Lib.hid hexit; clear hexit
  have hxl : ∀ x ∈ xs, x.2.length = 256 := fun x hx => (hpu.1 x hx).2
  have hat : ∀ j (hj : j < xs.length), ∃ b off, pa = some ⟨b, off, none⟩ ∧ ∀ j (hj : j < xs.length), ∀ W, Below w.heap.size w W → W.rangeAt b (off + j * 257) (putCells xs[j]) := fun j hj => by
    rcases hpu.2 with h0 | ⟨b, off, hp, hb, hat⟩
    · rw [h0] at hj; simp at hj
    · exact ⟨b, off, hp, fun j hj W hW i v hv => (hW.cell (p := ⟨b, off + j * 257 + i, none⟩) hb).trans (hat j hj i v hv)⟩
  have HAT := Lib.hid hat; clear hat hpu
  have HXL := Lib.hid hxl; clear hxl
  have HGL := Lib.hid hG; clear hG
  have HGR := Lib.hid hGr; clear hGr
  have HOK := Lib.hid hok; clear hok
  have HN := Lib.hid hn; clear hn
  have HS := Lib.hid hs; clear hs
  have HI := Lib.hid hi; clear hi
  conv => arg 2; arg 1; whnf
  go_loopw [16] (fun i wr => ∃ k : Nat, k ≤ n ∧ i = .int .i64 k ∧ Many w l K wr) (fun i _ => n - (intOf i).toNat)
  case atStart => exact ⟨0, Nat.zero_le _, rfl, hM⟩
  case round =>
    clear hM
    obtain ⟨k, hk, rfl, hm⟩ := hrel
    by_cases hkn : k < n
    · have hkl : k < xs.length := by have := HN.out; omega
      obtain ⟨b, off, rfl, hra⟩ := HAT.out k hkl
      obtain ⟨hc2, hc64⟩ := HOK.out k hkl
      have hcl := HXL.out _ (List.getElem_mem hkl)
      have hr := hra k hkl wr hm.bel
      have ca : wr.cell? ⟨b, off + k * 257, none⟩ = some (.int .u32 (xs[k].1 : Int)) := by simpa [putCells] using hr 0 _ rfl
      have i0 : (0 : Int) ≤ (k : Int) := by omega
      have i1 : (k : Int) < (n : Int) := by omega
      have hrd := Dev.Many.readB_ hm HI.out (a := xs[k].1) (by rw [HS.out.1]; exact hc64) (by rw [HS.out.2]; decide)
      rw [HGR.out _ hc2] at hrd
      have hBL : (applyP G xs xs[k].1).length = 256 := applyP_len _ _ HGL.out HXL.out _
      have hws := want_start (G := G) hkl
      have hwe := want_end (G := G) (c := xs[k].1) hkl
      rw [← HN.out] at hwe
      obtain ⟨c, hc⟩ : ∃ c, c = xs[k].1 := ⟨_, rfl⟩
      have hcc : ∀ h : k < xs.length, xs[k].1 = c := fun _ => hc.symm
      rw [← hc] at ca hrd hBL hws hwe
      generalize applyP G xs c = BL at hrd hBL hwe
      have HRA := Lib.hid hra
      have HWS := Lib.hid hws
      have HWE := Lib.hid hwe
      have HCC := Lib.hid hcc
      clear hra hws hwe hcc hc hc2 hc64 hr
      unfold ptr at hrd
      have hiB := sizeBlock BL hBL
      have hzB : (cellsOf zeros).size = (cellsOf BL).size := by rw [cellsOf_size, cellsOf_size, hBL, zeros_length]
      go_wp2_with fail
      refine hrd.mono ?_
      rintro e U1 ⟨rfl, hx⟩
      have hm2 := hx.alloc (blockO BL)
      clear hx hm hrd ca
      have tok : True := trivial
      go_upto_region 24 with (first | (have _t := tok; refine wpList_store_new rfl 49 _ _ rfl (cellsOf BL) _ _ rfl rfl hiB hzB (cellsOf_one _) ?_; change wpList _ _ _ _ _ (U1.alloc (blockO BL)); clear _t tok))
      change Code.wp _ _ _ _ (U1.alloc (blockO BL))
      generalize U1.heap.size = b17 at hm2 ⊢
      generalize U1.alloc (blockO BL) = U2 at hm2 ⊢
      obtain ⟨xl, hxl2⟩ : ∃ xl, xl = xs[k].2 := ⟨_, rfl⟩
      have cr : U2.rangeAt b (off + k * 257 + 1) (cellsOf xl).toList := fun i v hv => by
        rw [Nat.add_assoc, Nat.add_comm 1 i]
        exact HRA.out k hkl U2 hm2.bel (i + 1) v (by rw [hxl2] at hv; exact hv)
      rw [← hxl2] at hcl HWS
      clear hxl2
      have hiX := sizeBlock xl hcl
      have hzX : (cellsOf zeros).size = (cellsOf xl).size := by rw [cellsOf_size, cellsOf_size, hcl, zeros_length]
      have hm3 := hm2.alloc (blockO xl)
      have N19 := Lib.hid hm2.notin
      have w19 := hm2.bel.size
      clear hm2
      have tok : True := trivial
      go_upto_region 25 with (first
        | (refine Dev.wpList_load_sub rfl 49 _ rfl b (off + k * 257 + 1) rfl (cellsOf xl) _ cr Try.underlying49 rfl hiX ?_)
        | (have _t := tok; refine wpList_store_new rfl 49 _ _ rfl (cellsOf xl) _ _ rfl rfl hiX hzX (cellsOf_one _) ?_; change wpList _ _ _ _ _ (U2.alloc (blockO xl)); clear _t tok))
      change Code.wp _ _ _ _ (U2.alloc (blockO xl))
      generalize U2.heap.size = b19 at hm3 N19 w19 ⊢
      generalize U2.alloc (blockO xl) = U3 at hm3 ⊢
      clear cr
      rw [← HWS.out] at hm3
      go_wp2_with fail
      refine inner_loop (G := G) HN.out hn60 hkn HCC.out HRA.out HXL.out HGL.out w19 N19.out hm3 ?_
      clear hm3
      intro _ _ _ _ _ _ _ _ _ _ _ _ _ _ _ _ _ _ _ _ _ _ U4 hm
      have r17 : U4.heap[b17]? = some (.cells (cellsOf BL) 49 (0, 0)) := hm.at_ (q := b17) (o := blockO BL) (by simp)
      have r19 : U4.heap[b19]? = some (.cells (cellsOf (wantF G xs c k n)) 49 (0, 0)) := hm.at_ (q := b19) (o := blockO (wantF G xs c k n)) List.mem_cons_self
      rw [HWE.out] at r19
      have hfin := hm.less (K' := K) (fun x hx => List.mem_cons_of_mem _ (List.mem_cons_of_mem _ hx))
      have hg3 := fun (W : World) (op : BinOp) (x y : Operand) (xs ys : Array Value) => run_eqGuard_agg (P := Try.prog) W op 49 x y xs ys noGuard
      have he : ∀ W, (Op.equalIn 10000 49 (.agg (cellsOf BL)) (.agg (cellsOf BL))).run Try.prog W = .ok true W := fun W => by rw [run_eqBlock W _ _ hBL hBL, decide_eq_true rfl]
      clear hm
      go_wp2_with (first
        | (refine wpList_load_row rfl 49 (.tmp 17) rfl b17 rfl _ _ _ _ r17 Try.underlying49 rfl hiB ?_)
        | (refine wpList_load_row rfl 49 (.tmp 19) rfl b19 rfl _ _ _ _ r19 Try.underlying49 rfl hiB ?_))
      go_roundw
      case rel => exact ⟨k + 1, by omega, by go_num, hfin⟩
      case measure => simp [intOf]; omega
    · have hkk : k = n := by omega
      subst hkk
      have i1 : ¬ (k : Int) < (k : Int) := by omega
      go_wp2_with fail
      exact HEX.out _ _ _ _ _ _ _ _ _ _ _ _ _ _ _ _ _ _ _ _ _ _ _ _ _ _ _ _ _ _ _ _ _ _ _ _ _ _ _ _ _ _ _ _ _ _ _ _ _ _ _ _ _ hm

end Go.Proofs.Ytlojhdnahioicaa.Rot
