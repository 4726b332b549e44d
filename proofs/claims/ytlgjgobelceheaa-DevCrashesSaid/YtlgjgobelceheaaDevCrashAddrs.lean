/-
  The loop of the law DevCrashes over the addresses.
-/
import Derived.Test.YtlgjgobelceheaaDevCrashSectors
namespace Go.Proofs.Ytlgjgobelceheaa.Dev
open Go.RowKit RowLaw

/-- what the device q reads is r -/
def Reads (w : World) (l : List (Nat × DS)) (q : Nat) (r : Nat → List UInt8) : Prop := ∀ (W : World) (K : List (Nat × Obj)) (a : Nat), a < 64 → Many w l K W →
  Calls Try.prog 15 #[.pointer (some ⟨q, 0, none⟩), .int .u32 (a : Int)] W fun e W' => e = .returned (.tuple #[.agg (cellsOf (r a)), .int .i64 0]) ∧ Many w l K W'
theorem Reads.of {w : World} {l : List (Nat × DS)} {i p : Nat} {s : DS} (hi : l[i]? = some (p, s)) (hn : s.n = 64) (hlen : s.pend.length < 4294967296) {r : Nat → List UInt8} (hr : ∀ a, applyP s.g s.pend a = r a) : Reads w l p r :=
  fun _ _ a ha h => h.read hi ha hn hlen (hr a)

set_option linter.unusedVariables false in
set_option linter.unusedSimpArgs false in
set_option maxRecDepth 100000 in
set_option maxHeartbeats 12800000 in
theorem addrs_loop {w : World} {l : List (Nat × DS)} {p q1 q2 q3 q4 : Nat} {X Y Z : Nat → List UInt8}
    (h0 : Reads w l p Y) (h1 : Reads w l q1 X) (h2 : Reads w l q2 Y) (h3 : Reads w l q3 Z) (h4 : Reads w l q4 Y)
    (hX : ∀ a, (X a).length = 256) (hY : ∀ a, (Y a).length = 256) (hZ : ∀ a, (Z a).length = 256)
    {xs : List Ac} {pa : Option Addr} {n cap : Nat} (hn : n = xs.length) (hn60 : n ≤ 60) (hx : Acts w pa xs)
    (hfrom : ∀ a j, j < 256 → (Z a)[j]? = (X a)[j]? ∨ ∃ (i : Nat) (hi : i < xs.length), xs[i].a = a ∧ (Z a)[j]? = (blockB xs[i].c)[j]?)
    {Q0 : Exit → Act → World → Prop} {c1 c2 c3 c4 c6 c7 c8 c13 c14 c16 c17 c18 c19 c20 c21 c22 c23 c24 c25 c26 c27 c28 c29 c30 c31 c32 c33 c34 c35 c36 c37 c38 c39 c40 c41 c42 c43 c44 c45 c46 c47 c48 c49 c50 c51 c52 c53 c54 c55 c56 c57 c58 c59 c60 c61 c62 c63 c64 c65 c66 c67 c68 c69 c70 c71 c72 c73 c74 c75 c76 c77 c78 c79 c80 c81 c82 c83 c84 c85 c86 c87 c88 c89 c90 c91 c92 c93 c94 c95 c96 c97 c98 c99 c100 c101 c102 c103 c104 c105 c106 c107 c108 c109 c110 c111 c112 c113 c114 c115 c116 c117 c118 c119 c120 c121 c122 c123 c124 c125 c126 c127 c128 c129 c130 c131 c132 c133 c134 c135 c136 c137 c138 c139 c140 c141 c142 c143 c144 c145 c146 c147 c148 c149 c150 c151 c152 c153 c154 c155 c156 c157 c158 c159 c160 c161 c162 c163 c164 c165 c166 c167 c168 c169 c170 c171 c172 c173 c174 c175 c176 c177 c178 c179 c180 c181 c182 c183 c184 c185 c186 c187 c188 c189 c190 c191 c192 c193 c194 c195 c196 c197 c198 c199 c200 c201 c202 c203 c204 c205 c206 c207 c208 c209 c210 c211 c212 c213 c214 c215 c216 : Value} {W0 : World} (hM : Many w l [] W0)
    (hexit : ∀ (u4 u15 u16 u17 u18 u19 u20 u21 u22 u23 u24 u25 u26 u27 u28 u128 u129 u130 u131 u132 u133 u134 u135 u136 u137 u138 u139 u140 u141 u142 u143 u144 u145 u146 u147 u148 u149 u150 u151 u152 u153 u154 u155 u156 u157 u158 u159 u160 u161 u162 u163 u164 u165 u166 u167 u168 u169 u170 u171 u172 u173 u174 u175 u176 u177 u178 u179 u180 u181 u182 u183 u184 u185 u186 u187 u188 u189 u190 u191 u192 u193 u194 u195 u196 u197 u198 u199 u200 u201 u202 u203 u204 u205 u206 u207 u208 u209 u210 u211 u212 u213 u214 u215 : Value) (W : World), Many w l [] W → Q0 (.exit 4) ⟨List.toArray (.slice pa n cap :: c1 :: c2 :: c3 :: u4 :: .pointer (some ⟨p, 0, none⟩) :: c6 :: c7 :: c8 :: .pointer (some ⟨q1, 0, none⟩) :: .pointer (some ⟨q2, 0, none⟩) :: .pointer (some ⟨q3, 0, none⟩) :: .pointer (some ⟨q4, 0, none⟩) :: c13 :: c14 :: u15 :: u16 :: u17 :: u18 :: u19 :: u20 :: u21 :: u22 :: u23 :: u24 :: u25 :: u26 :: u27 :: u28 :: c29 :: c30 :: c31 :: c32 :: c33 :: c34 :: c35 :: c36 :: c37 :: c38 :: c39 :: c40 :: c41 :: c42 :: c43 :: c44 :: c45 :: c46 :: c47 :: c48 :: c49 :: c50 :: c51 :: c52 :: c53 :: c54 :: c55 :: c56 :: c57 :: c58 :: c59 :: c60 :: c61 :: c62 :: c63 :: c64 :: c65 :: c66 :: c67 :: c68 :: c69 :: c70 :: c71 :: c72 :: c73 :: c74 :: c75 :: c76 :: c77 :: c78 :: c79 :: c80 :: c81 :: c82 :: c83 :: c84 :: c85 :: c86 :: c87 :: c88 :: c89 :: c90 :: c91 :: c92 :: c93 :: c94 :: c95 :: c96 :: c97 :: c98 :: c99 :: c100 :: c101 :: c102 :: c103 :: c104 :: c105 :: c106 :: c107 :: c108 :: c109 :: c110 :: c111 :: c112 :: c113 :: c114 :: c115 :: c116 :: c117 :: c118 :: c119 :: c120 :: c121 :: c122 :: c123 :: c124 :: c125 :: c126 :: c127 :: u128 :: u129 :: u130 :: u131 :: u132 :: u133 :: u134 :: u135 :: u136 :: u137 :: u138 :: u139 :: u140 :: u141 :: u142 :: u143 :: u144 :: u145 :: u146 :: u147 :: u148 :: u149 :: u150 :: u151 :: u152 :: u153 :: u154 :: u155 :: u156 :: u157 :: u158 :: u159 :: u160 :: u161 :: u162 :: u163 :: u164 :: u165 :: u166 :: u167 :: u168 :: u169 :: u170 :: u171 :: u172 :: u173 :: u174 :: u175 :: u176 :: u177 :: u178 :: u179 :: u180 :: u181 :: u182 :: u183 :: u184 :: u185 :: u186 :: u187 :: u188 :: u189 :: u190 :: u191 :: u192 :: u193 :: u194 :: u195 :: u196 :: u197 :: u198 :: u199 :: u200 :: u201 :: u202 :: u203 :: u204 :: u205 :: u206 :: u207 :: u208 :: u209 :: u210 :: u211 :: u212 :: u213 :: u214 :: u215 :: c216 :: []), []⟩ W) :
    Code.wp Try.prog (.loop body3) Q0 ⟨List.toArray (.slice pa n cap :: c1 :: c2 :: c3 :: c4 :: .pointer (some ⟨p, 0, none⟩) :: c6 :: c7 :: c8 :: .pointer (some ⟨q1, 0, none⟩) :: .pointer (some ⟨q2, 0, none⟩) :: .pointer (some ⟨q3, 0, none⟩) :: .pointer (some ⟨q4, 0, none⟩) :: c13 :: c14 :: .int .u32 0 :: c16 :: c17 :: c18 :: c19 :: c20 :: c21 :: c22 :: c23 :: c24 :: c25 :: c26 :: c27 :: c28 :: c29 :: c30 :: c31 :: c32 :: c33 :: c34 :: c35 :: c36 :: c37 :: c38 :: c39 :: c40 :: c41 :: c42 :: c43 :: c44 :: c45 :: c46 :: c47 :: c48 :: c49 :: c50 :: c51 :: c52 :: c53 :: c54 :: c55 :: c56 :: c57 :: c58 :: c59 :: c60 :: c61 :: c62 :: c63 :: c64 :: c65 :: c66 :: c67 :: c68 :: c69 :: c70 :: c71 :: c72 :: c73 :: c74 :: c75 :: c76 :: c77 :: c78 :: c79 :: c80 :: c81 :: c82 :: c83 :: c84 :: c85 :: c86 :: c87 :: c88 :: c89 :: c90 :: c91 :: c92 :: c93 :: c94 :: c95 :: c96 :: c97 :: c98 :: c99 :: c100 :: c101 :: c102 :: c103 :: c104 :: c105 :: c106 :: c107 :: c108 :: c109 :: c110 :: c111 :: c112 :: c113 :: c114 :: c115 :: c116 :: c117 :: c118 :: c119 :: c120 :: c121 :: c122 :: c123 :: c124 :: c125 :: c126 :: c127 :: c128 :: c129 :: c130 :: c131 :: c132 :: c133 :: c134 :: c135 :: c136 :: c137 :: c138 :: c139 :: c140 :: c141 :: c142 :: c143 :: c144 :: c145 :: c146 :: c147 :: c148 :: c149 :: c150 :: c151 :: c152 :: c153 :: c154 :: c155 :: c156 :: c157 :: c158 :: c159 :: c160 :: c161 :: c162 :: c163 :: c164 :: c165 :: c166 :: c167 :: c168 :: c169 :: c170 :: c171 :: c172 :: c173 :: c174 :: c175 :: c176 :: c177 :: c178 :: c179 :: c180 :: c181 :: c182 :: c183 :: c184 :: c185 :: c186 :: c187 :: c188 :: c189 :: c190 :: c191 :: c192 :: c193 :: c194 :: c195 :: c196 :: c197 :: c198 :: c199 :: c200 :: c201 :: c202 :: c203 :: c204 :: c205 :: c206 :: c207 :: c208 :: c209 :: c210 :: c211 :: c212 :: c213 :: c214 :: c215 :: c216 :: []), []⟩ W0 := by
  have HEX := Lib.hid hexit; clear hexit
  have HR0 := Lib.hid h0; clear h0
  have HR1 := Lib.hid h1; clear h1
  have HR2 := Lib.hid h2; clear h2
  have HR3 := Lib.hid h3; clear h3
  have HR4 := Lib.hid h4; clear h4
  have HLX := Lib.hid hX; clear hX
  have HLY := Lib.hid hY; clear hY
  have HLZ := Lib.hid hZ; clear hZ
  have HX := Lib.hid hx; clear hx
  have HN := Lib.hid hn; clear hn
  have HF := Lib.hid hfrom; clear hfrom
  have hg := fun (W : World) (op : BinOp) (x y : Operand) (xs ys : Array Value) => run_eqGuard_agg (P := Try.prog) W op 47 x y xs ys noGuard
  have hzv := (zero_of_info infoBlock).1
  conv => arg 2; arg 1; whnf
  go_loopw [15] (fun i wr => ∃ a : Nat, a ≤ 64 ∧ i = .int .u32 (a : Int) ∧ Many w l [] wr) (fun i _ => 64 - (intOf i).toNat)
  case atStart => exact ⟨0, by omega, rfl, hM⟩
  case round =>
    obtain ⟨a, ha, rfl, hl⟩ := hrel
    clear hM
    by_cases ha64 : a < 64
    · have ia : (a : Int) < 64 := by omega
      obtain ⟨yl, hyd⟩ : ∃ yl, yl = Y a := ⟨_, rfl⟩
      obtain ⟨xl, hxd⟩ : ∃ xl, xl = X a := ⟨_, rfl⟩
      obtain ⟨zl, hzd⟩ : ∃ zl, zl = Z a := ⟨_, rfl⟩
      have hyl : yl.length = 256 := by rw [hyd]; exact HLY.out a
      have hxl : xl.length = 256 := by rw [hxd]; exact HLX.out a
      have hzl : zl.length = 256 := by rw [hzd]; exact HLZ.out a
      have k0 := fun W K => HR0.out W K a ha64
      have k1 := fun W K => HR1.out W K a ha64
      have k2 := fun W K => HR2.out W K a ha64
      have k3 := fun W K => HR3.out W K a ha64
      have k4 := fun W K => HR4.out W K a ha64
      have hfr := HF.out a
      rw [← hyd] at k0 k2 k4
      rw [← hxd] at k1 hfr
      rw [← hzd] at k3 hfr
      clear hyd hxd hzd
      have K0 := Lib.hid k0; clear k0
      have K1 := Lib.hid k1; clear k1
      have K2 := Lib.hid k2; clear k2
      have K3 := Lib.hid k3; clear k3
      have K4 := Lib.hid k4; clear k4
      have HFR := Lib.hid hfr; clear hfr
      have hiyl := sizeBlock yl hyl
      have hixl := sizeBlock xl hxl
      have hizl := sizeBlock zl hzl
      have z3 : IntKind.u32.wrap ((a : Int) + 1) = (a : Int) + 1 := IntWalk.u32_in _ (by omega)
      go_wp2_with fail
      refine (K0.out _ _ hl).mono ?_
      clear hl
      rintro e U0 ⟨rfl, hl2⟩
      have hl := hl2.alloc (.cells (cellsOf yl) 47)
      clear hl2
      have tok : True := trivial
      go_wp2_with (have _t := tok; refine wpList_store_new rfl 47 _ _ rfl (cellsOf yl) _ _ rfl rfl hiyl (by rw [cellsOf_size, cellsOf_size, hyl, zeros_length]) (cellsOf_one _) ?_; generalize U0.heap.size = b16 at hl ⊢; generalize U0.alloc (.cells (cellsOf yl) 47) = U0 at hl ⊢; clear _t tok)
      refine (K1.out _ _ hl).mono ?_
      clear hl
      rintro e U1 ⟨rfl, hl2⟩
      have hl := hl2.alloc (.cells (cellsOf xl) 47)
      clear hl2
      have tok : True := trivial
      go_wp2_with (have _t := tok; refine wpList_store_new rfl 47 _ _ rfl (cellsOf xl) _ _ rfl rfl hixl (by rw [cellsOf_size, cellsOf_size, hxl, zeros_length]) (cellsOf_one _) ?_; generalize U1.heap.size = b18 at hl ⊢; generalize U1.alloc (.cells (cellsOf xl) 47) = U1 at hl ⊢; clear _t tok)
      refine (K2.out _ _ hl).mono ?_
      clear hl
      rintro e U2 ⟨rfl, hl2⟩
      have hl := hl2.alloc (.cells (cellsOf yl) 47)
      clear hl2
      have tok : True := trivial
      go_wp2_with (have _t := tok; refine wpList_store_new rfl 47 _ _ rfl (cellsOf yl) _ _ rfl rfl hiyl (by rw [cellsOf_size, cellsOf_size, hyl, zeros_length]) (cellsOf_one _) ?_; generalize U2.heap.size = b20 at hl ⊢; generalize U2.alloc (.cells (cellsOf yl) 47) = U2 at hl ⊢; clear _t tok)
      refine (K3.out _ _ hl).mono ?_
      clear hl
      rintro e U3 ⟨rfl, hl2⟩
      have hl := hl2.alloc (.cells (cellsOf zl) 47)
      clear hl2
      have tok : True := trivial
      go_wp2_with (have _t := tok; refine wpList_store_new rfl 47 _ _ rfl (cellsOf zl) _ _ rfl rfl hizl (by rw [cellsOf_size, cellsOf_size, hzl, zeros_length]) (cellsOf_one _) ?_; generalize U3.heap.size = b22 at hl ⊢; generalize U3.alloc (.cells (cellsOf zl) 47) = U3 at hl ⊢; clear _t tok)
      refine (K4.out _ _ hl).mono ?_
      clear hl
      rintro e U4 ⟨rfl, hl2⟩
      have hl := hl2.alloc (.cells (cellsOf yl) 47)
      clear hl2
      have tok : True := trivial
      have heA : ∀ W : World, (Op.equalIn 10000 47 (.agg (cellsOf yl)) (.agg (cellsOf yl))).run Try.prog W = .ok true W := fun W => by rw [run_eqBlock W yl yl hyl hyl]; simp
      go_wp2_with (first | (have _t := tok; refine wpList_store_new rfl 47 _ _ rfl (cellsOf yl) _ _ rfl rfl hiyl (by rw [cellsOf_size, cellsOf_size, hyl, zeros_length]) (cellsOf_one _) ?_; generalize U4.heap.size = b24 at hl ⊢; generalize U4.alloc (.cells (cellsOf yl) 47) = U4 at hl ⊢; clear _t tok) | (refine wpList_load_want (by rfl) 47 _ rfl b20 rfl _ _ _ _ (hl.at_ (List.mem_cons_of_mem _ (List.mem_cons_of_mem _ List.mem_cons_self))) Try.underlying47 rfl hiyl ?_) | (refine wpList_load_want (by rfl) 47 _ rfl b16 rfl _ _ _ _ (hl.at_ (List.mem_cons_of_mem _ (List.mem_cons_of_mem _ (List.mem_cons_of_mem _ (List.mem_cons_of_mem _ List.mem_cons_self))))) Try.underlying47 rfl hiyl ?_) | (refine wpList_load_want (by rfl) 47 _ rfl b24 rfl _ _ _ _ (hl.at_ List.mem_cons_self) Try.underlying47 rfl hiyl ?_))
      clear heA
      refine sectors_loop (List.mem_cons_of_mem _ List.mem_cons_self) hzl (List.mem_cons_of_mem _ (List.mem_cons_of_mem _ (List.mem_cons_of_mem _ List.mem_cons_self))) hxl HN.out hn60 HX.out HFR.out hl ?_
      clear hl
      intro _ _ _ _ _ _ _ _ _ _ _ _ _ _ _ _ _ _ _ _ _ _ _ _ _ _ _ _ _ _ _ _ _ _ _ _ _ _ _ _ _ _ _ _ _ _ _ _ _ _ WA hl
      go_wp2_with fail
      go_roundw
      case rel => exact ⟨a + 1, by omega, by go_num, hl.less (fun x hx => by cases hx)⟩
      case measure => simp [intOf]; omega
    · have ha2 : a = 64 := by omega
      subst ha2
      go_wp2_with fail
      exact HEX.out _ _ _ _ _ _ _ _ _ _ _ _ _ _ _ _ _ _ _ _ _ _ _ _ _ _ _ _ _ _ _ _ _ _ _ _ _ _ _ _ _ _ _ _ _ _ _ _ _ _ _ _ _ _ _ _ _ _ _ _ _ _ _ _ _ _ _ _ _ _ _ _ _ _ _ _ _ _ _ _ _ _ _ _ _ _ _ _ _ _ _ _ _ _ _ _ _ _ _ _ _ _ _ _ hl

end Go.Proofs.Ytlgjgobelceheaa.Dev
