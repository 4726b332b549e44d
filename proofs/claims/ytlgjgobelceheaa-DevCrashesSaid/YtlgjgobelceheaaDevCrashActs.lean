/-
  The loops of the law DevCrashes, each a theorem of its own.
-/
import Derived.Test.YtlgjgobelceheaaDevMany
import Derived.Test.YtlgjgobelceheaaDevCrashesMath
namespace Go.Proofs.Ytlgjgobelceheaa.Dev
open Go.RowKit RowLaw

theorem Many.drew {w W : World} {l : List (Nat × DS)} {K : List (Nat × Obj)} (h : Many w l K W) : Many w l K W.drew := h.below ⟨rfl, rfl, rfl, Nat.le_refl _, fun _ _ => rfl⟩
theorem quiet_load_mid {P : Program} {I : World → Prop} {K : Act → Prop} {o : Oper} {a : Act} (ty : TypeId) (x : Operand) (ho : o.op = .load ty x) (b off : Nat) (hx : a.eval x = .pointer (some ⟨b, off, none⟩)) (cs : List Value) (d : TypeDesc) (hc : ∀ w : World, I w → w.rangeAt b off cs)
    (hu : P.underlying ty = some d) (hd : d.isRow = true) (hi : (P.info? ty).map (·.size) = some cs.length)
    (hk : K (a.put o.dst (.agg cs.toArray))) : o.quiet P a (fun w' => ∃ x : {w' : World // I w'}, w' = x.1) K :=
  ⟨.agg cs.toArray, fun w hw => by
    obtain ⟨y, rfl⟩ := hw
    unfold Oper.quietAt execOp
    simp only [ho, hx, Instr.loadAt, Instr.sureAddr, Sem.run_bind, Sem.run_pure, Result.andThen_ok, run_loadVar_mid y.1 b off ty cs d (hc y.1 y.2) hu hd hi]
    exact ⟨rfl, rfl⟩, hk⟩

theorem run_index8 (w : World) (l : List UInt8) (hl : l.length = 256) (i : Nat) (h : i < l.length) : (Instr.index 47 (.agg (cellsOf l)) (.int .i64 (i : Int))).run Try.prog w = .ok (.int .u8 (l[i].toNat : Int)) w := by
  have hg := cellsOf_get l i h
  have hs : (sizeOf 5).run Try.prog w = .ok 1 w := by
    have : (Try.prog.info? 5).map (·.size) = some 1 := by kernel_rfl
    cases hq : Try.prog.info? 5 with
    | none => rw [hq] at this; cases this
    | some q =>
      rw [hq] at this
      have h2 : q.size = 1 := by simpa using this
      simp [sizeOf, typeInfo, hq, h2]
  unfold Instr.index
  simp [asIntOf, run_underlying Try.underlying47, hs, part, isAgg, run_underlying Try.underlying5, hg]
  omega
theorem quiet_index8 {I : World → Prop} {K : Act → Prop} {o : Oper} {a : Act} (x i : Operand) (ho : o.op = .index 47 x i) (l : List UInt8) (hl : l.length = 256) (j : Nat) (hj : j < l.length) (hx : a.eval x = .agg (cellsOf l)) (hi : a.eval i = .int .i64 (j : Int)) (b : UInt8) (hb : l[j]? = some b)
    (hk : K (a.put o.dst (.int .u8 (b.toNat : Int)))) : o.quiet Try.prog a (fun w' => ∃ x : {w' : World // I w'}, w' = x.1) K :=
  ⟨.int .u8 (b.toNat : Int), fun w hw => by
    obtain ⟨y, rfl⟩ := hw
    have e : l[j] = b := by rw [List.getElem?_eq_getElem hj] at hb; exact Option.some.inj hb
    subst e
    unfold Oper.quietAt execOp
    simp only [ho, hx, hi, run_index8 y.1 l hl j hj, Sem.run_bind, Sem.run_pure, Result.andThen_ok]
    exact ⟨rfl, rfl⟩, hk⟩

/-- the outermost loops of a text, in their order -/
def loopsTop : Code → List Code
  | .loop c => [c]
  | .seq a b => loopsTop a ++ loopsTop b
  | .block _ c => loopsTop c
  | .scope c => loopsTop c
  | .cond _ a b => loopsTop a ++ loopsTop b
  | _ => []
noncomputable def body3 : Code := ((Try.f3.body.bind fun c => (loopsTop c)[2]?).getD .skip)
noncomputable def body4 : Code := ((loopsTop body3)[0]?).getD .skip
noncomputable def body5 : Code := ((loopsTop body4)[0]?).getD .skip

/-- what the loop over the acts has found behind j of them -/
def Got (xs : List Ac) (zl : List UInt8) (a kk : Nat) (bz : Bool) (j : Nat) (b : Bool) : Prop :=
  (bz = true → b = true) ∧ ∀ (i : Nat) (hi : i < xs.length), i < j → xs[i].a = a → zl[kk]? = (blockB xs[i].c)[kk]? → b = true
theorem Got.start (xs : List Ac) (zl : List UInt8) (a kk : Nat) (bz : Bool) : Got xs zl a kk bz 0 bz := ⟨fun h => h, fun _ _ h => by omega⟩
theorem Got.yes (xs : List Ac) (zl : List UInt8) (a kk : Nat) (bz : Bool) (j : Nat) : Got xs zl a kk bz j true := ⟨fun _ => rfl, fun _ _ _ _ _ => rfl⟩
theorem Got.other {xs : List Ac} {zl : List UInt8} {a kk : Nat} {bz : Bool} {j : Nat} {b : Bool} (h : Got xs zl a kk bz j b) (hj : j < xs.length) (ha : ¬ xs[j].a = a) : Got xs zl a kk bz (j + 1) b :=
  ⟨h.1, fun i hi hij e1 e2 => by
    by_cases e : i = j
    · subst e; exact absurd e1 ha
    · exact h.2 i hi (by omega) e1 e2⟩
theorem Got.this {xs : List Ac} {zl : List UInt8} {a kk : Nat} {bz : Bool} {j : Nat} {t : Bool} (h : Got xs zl a kk bz j false) (hj : j < xs.length) (ht : zl[kk]? = (blockB xs[j].c)[kk]? → t = true) : Got xs zl a kk bz (j + 1) t :=
  ⟨fun hb => absurd (h.1 hb) (by simp), fun i hi hij e1 e2 => by
    by_cases e : i = j
    · subst e; exact ht e2
    · exact absurd (h.2 i hi (by omega) e1 e2) (by simp)⟩
theorem Got.end_ {xs : List Ac} {zl : List UInt8} {a kk : Nat} {bz : Bool} {b : Bool} (h : Got xs zl a kk bz xs.length b) (hg : bz = true ∨ ∃ (i : Nat) (hi : i < xs.length), xs[i].a = a ∧ zl[kk]? = (blockB xs[i].c)[kk]?) : b = true := by
  rcases hg with hg | ⟨i, hi, e1, e2⟩
  · exact h.1 hg
  · exact h.2 i hi hi e1 e2

set_option linter.unusedVariables false in
set_option linter.unusedSimpArgs false in
set_option maxRecDepth 100000 in
set_option maxHeartbeats 12800000 in
theorem acts_loop {w : World} {l : List (Nat × DS)} {K : List (Nat × Obj)} {b22 : Nat} {zl : List UInt8} (hz : (b22, .cells (cellsOf zl) 47 (0, 0)) ∈ K) (hzl : zl.length = 256)
    {xs : List Ac} {pa : Option Addr} {n cap : Nat} (hn : n = xs.length) (hn60 : n ≤ 60) (hx : Acts w pa xs) {a k kk : Nat} (hkk : kk = 64 * k) (hk4 : k < 4)
    {bz : Bool} (hgood : bz = true ∨ ∃ (i : Nat) (hi : i < xs.length), xs[i].a = a ∧ zl[kk]? = (blockB xs[i].c)[kk]?)
    {Q0 : Exit → Act → World → Prop} {c1 c2 c3 c4 c5 c6 c7 c8 c9 c10 c11 c12 c13 c14 c16 c17 c18 c19 c20 c21 c23 c24 c25 c29 c30 c31 c32 c33 c34 c35 c36 c37 c38 c39 c40 c41 c42 c43 c44 c45 c46 c47 c48 c49 c50 c51 c52 c53 c54 c55 c56 c57 c58 c59 c60 c61 c62 c63 c64 c65 c66 c67 c68 c69 c70 c71 c72 c73 c74 c75 c76 c77 c78 c79 c80 c81 c82 c83 c84 c85 c86 c87 c88 c89 c90 c91 c92 c93 c94 c95 c96 c97 c98 c99 c100 c101 c102 c103 c104 c105 c106 c107 c108 c109 c110 c111 c112 c113 c114 c115 c116 c117 c118 c119 c120 c121 c122 c123 c124 c125 c126 c127 c128 c129 c130 c131 c132 c133 c134 c135 c136 c137 c138 c139 c140 c141 c142 c143 c144 c145 c146 c147 c148 c149 c150 c151 c152 c153 c154 c155 c156 c157 c158 c159 c160 c161 c162 c163 c164 c165 c166 c167 c168 c169 c170 c171 c172 c173 c174 c175 c176 c177 c178 c179 c180 c181 c182 c183 c184 c185 c186 c187 c188 c189 c190 c191 c192 c193 c194 c195 c196 c197 c198 c199 c200 c201 c202 c203 c204 c205 c206 c207 c208 c209 c210 c211 c212 c213 c214 c215 c216 : Value} {W0 : World} (hM : Many w l K W0)
    (hexit : ∀ (u28 u183 u184 u185 u186 u187 u188 u189 u190 u191 u192 u193 u194 u195 u196 u197 u198 u199 u200 u201 u202 u203 u204 u205 u206 u207 u208 u209 u210 u211 u212 u213 : Value) (W : World), Many w l K W → Q0 (.exit 8) ⟨List.toArray (.slice pa n cap :: c1 :: c2 :: c3 :: c4 :: c5 :: c6 :: c7 :: c8 :: c9 :: c10 :: c11 :: c12 :: c13 :: c14 :: .int .u32 (a : Int) :: c16 :: c17 :: c18 :: c19 :: c20 :: c21 :: .pointer (some ⟨b22, 0, none⟩) :: c23 :: c24 :: c25 :: .int .i64 (k : Int) :: .bool true :: u28 :: c29 :: c30 :: c31 :: c32 :: c33 :: c34 :: c35 :: c36 :: c37 :: c38 :: c39 :: c40 :: c41 :: c42 :: c43 :: c44 :: c45 :: c46 :: c47 :: c48 :: c49 :: c50 :: c51 :: c52 :: c53 :: c54 :: c55 :: c56 :: c57 :: c58 :: c59 :: c60 :: c61 :: c62 :: c63 :: c64 :: c65 :: c66 :: c67 :: c68 :: c69 :: c70 :: c71 :: c72 :: c73 :: c74 :: c75 :: c76 :: c77 :: c78 :: c79 :: c80 :: c81 :: c82 :: c83 :: c84 :: c85 :: c86 :: c87 :: c88 :: c89 :: c90 :: c91 :: c92 :: c93 :: c94 :: c95 :: c96 :: c97 :: c98 :: c99 :: c100 :: c101 :: c102 :: c103 :: c104 :: c105 :: c106 :: c107 :: c108 :: c109 :: c110 :: c111 :: c112 :: c113 :: c114 :: c115 :: c116 :: c117 :: c118 :: c119 :: c120 :: c121 :: c122 :: c123 :: c124 :: c125 :: c126 :: c127 :: c128 :: c129 :: c130 :: c131 :: c132 :: c133 :: c134 :: c135 :: c136 :: c137 :: c138 :: c139 :: c140 :: c141 :: c142 :: c143 :: c144 :: c145 :: c146 :: c147 :: c148 :: c149 :: c150 :: c151 :: c152 :: c153 :: c154 :: c155 :: c156 :: c157 :: c158 :: c159 :: c160 :: c161 :: c162 :: c163 :: c164 :: c165 :: c166 :: c167 :: c168 :: c169 :: c170 :: c171 :: c172 :: c173 :: c174 :: c175 :: c176 :: c177 :: c178 :: c179 :: c180 :: c181 :: c182 :: u183 :: u184 :: u185 :: u186 :: u187 :: u188 :: u189 :: u190 :: u191 :: u192 :: u193 :: u194 :: u195 :: u196 :: u197 :: u198 :: u199 :: u200 :: u201 :: u202 :: u203 :: u204 :: u205 :: u206 :: u207 :: u208 :: u209 :: u210 :: u211 :: u212 :: u213 :: c214 :: c215 :: c216 :: []), []⟩ W) :
    Code.wp Try.prog (.loop body5) Q0 ⟨List.toArray (.slice pa n cap :: c1 :: c2 :: c3 :: c4 :: c5 :: c6 :: c7 :: c8 :: c9 :: c10 :: c11 :: c12 :: c13 :: c14 :: .int .u32 (a : Int) :: c16 :: c17 :: c18 :: c19 :: c20 :: c21 :: .pointer (some ⟨b22, 0, none⟩) :: c23 :: c24 :: c25 :: .int .i64 (k : Int) :: .bool bz :: .int .i64 0 :: c29 :: c30 :: c31 :: c32 :: c33 :: c34 :: c35 :: c36 :: c37 :: c38 :: c39 :: c40 :: c41 :: c42 :: c43 :: c44 :: c45 :: c46 :: c47 :: c48 :: c49 :: c50 :: c51 :: c52 :: c53 :: c54 :: c55 :: c56 :: c57 :: c58 :: c59 :: c60 :: c61 :: c62 :: c63 :: c64 :: c65 :: c66 :: c67 :: c68 :: c69 :: c70 :: c71 :: c72 :: c73 :: c74 :: c75 :: c76 :: c77 :: c78 :: c79 :: c80 :: c81 :: c82 :: c83 :: c84 :: c85 :: c86 :: c87 :: c88 :: c89 :: c90 :: c91 :: c92 :: c93 :: c94 :: c95 :: c96 :: c97 :: c98 :: c99 :: c100 :: c101 :: c102 :: c103 :: c104 :: c105 :: c106 :: c107 :: c108 :: c109 :: c110 :: c111 :: c112 :: c113 :: c114 :: c115 :: c116 :: c117 :: c118 :: c119 :: c120 :: c121 :: c122 :: c123 :: c124 :: c125 :: c126 :: c127 :: c128 :: c129 :: c130 :: c131 :: c132 :: c133 :: c134 :: c135 :: c136 :: c137 :: c138 :: c139 :: c140 :: c141 :: c142 :: c143 :: c144 :: c145 :: c146 :: c147 :: c148 :: c149 :: c150 :: c151 :: c152 :: c153 :: c154 :: c155 :: c156 :: c157 :: c158 :: c159 :: c160 :: c161 :: c162 :: c163 :: c164 :: c165 :: c166 :: c167 :: c168 :: c169 :: c170 :: c171 :: c172 :: c173 :: c174 :: c175 :: c176 :: c177 :: c178 :: c179 :: c180 :: c181 :: c182 :: c183 :: c184 :: c185 :: c186 :: c187 :: c188 :: c189 :: c190 :: c191 :: c192 :: c193 :: c194 :: c195 :: c196 :: c197 :: c198 :: c199 :: c200 :: c201 :: c202 :: c203 :: c204 :: c205 :: c206 :: c207 :: c208 :: c209 :: c210 :: c211 :: c212 :: c213 :: c214 :: c215 :: c216 :: []), []⟩ W0 := by
  have HEX := Lib.hid hexit; clear hexit
  have HGOOD := Lib.hid hgood; clear hgood
  have HX := Lib.hid hx; clear hx
  have HN := Lib.hid hn; clear hn
  have HZ := Lib.hid hz; clear hz
  have HZL := Lib.hid hzl; clear hzl
  have m64 : (64 : Int) * (k : Int) = (kk : Int) := by omega
  have zkk : IntKind.i64.wrap (kk : Int) = (kk : Int) := IntWalk.i64_in _ (by omega)
  have hkk256 : kk < 256 := by omega
  have ikk : (kk : Int) < 256 := by omega
  have ikk0 : (0 : Int) ≤ (kk : Int) := by omega
  clear hkk
  conv => arg 2; arg 1; whnf
  go_loopw [27, 28] (fun is i wr => ∃ (j : Nat) (b' : Bool), j ≤ n ∧ is = .bool b' ∧ i = .int .i64 (j : Int) ∧ Got xs zl a kk bz j b' ∧ Many w l K wr) (fun _ i _ => n - (intOf i).toNat)
  case atStart => exact ⟨0, bz, by omega, rfl, rfl, Got.start .., hM⟩
  case round =>
    obtain ⟨j, b', hj, rfl, rfl, hgot, hl⟩ := hrel
    clear hM
    by_cases hjn : j < n
    · have hjl : j < xs.length := by have := HN.out; omega
      rcases HX.out.2 with h0 | ⟨b, off, rfl, hb, hat⟩
      · rw [h0] at hjl; exact absurd hjl (by simp)
      have hcs := fun W hW => acts_at (w := w) (W := W) hat hb hW hjl
      have hother := fun ha => hgot.other hjl ha
      have hthis := fun (e : b' = false) (t : Bool) (ht : zl[kk]? = (blockB xs[j].c)[kk]? → t = true) => (e ▸ hgot).this hjl ht
      clear hat hgot
      generalize xs[j] = x at hcs hother hthis
      have HO := Lib.hid hother; clear hother
      have HT := Lib.hid hthis; clear hthis
      have HC := Lib.hid hcs; clear hcs
      have i0 : (j : Int) < (n : Int) := by omega
      have z2 : IntKind.i64.wrap ((j : Int) + 1) = (j : Int) + 1 := IntWalk.i64_in _ (by omega)
      have zc : (cellsOf zl)[kk]? = some (.int .u8 ((zl[kk]'(by have := HZL.out; omega)).toNat : Int)) := cellsOf_get zl kk (by have := HZL.out; omega)
      have ez := List.getElem?_eq_getElem (show kk < zl.length by have := HZL.out; omega)
      generalize zl[kk]'(by have := HZL.out; omega) = zb at zc ez
      have bc : (cellsOf (blockB x.c))[kk]? = some (.int .u8 (((blockB x.c)[kk]'(by rw [blockB_length]; omega)).toNat : Int)) := cellsOf_get _ kk (by rw [blockB_length]; omega)
      have eb := List.getElem?_eq_getElem (show kk < (blockB x.c).length by rw [blockB_length]; omega)
      generalize (blockB x.c)[kk]'(by rw [blockB_length]; omega) = cb at bc eb
      have EZ := Lib.hid ez; clear ez
      have EB := Lib.hid eb; clear eb
      have Hz : ∀ W : World, Many w l K W → W.cell? ⟨b22, kk, none⟩ = some (.int .u8 (zb.toNat : Int)) := fun W h => (cell_of_row W b22 kk _ _ _ (h.at_ HZ.out)).trans zc
      have Ha : ∀ W : World, Many w l K W → W.cell? ⟨b, off + j * 5 + 1, none⟩ = some (.int .u32 (x.a : Int)) := fun W h => (HC.out W h.bel).2.1
      have Hm : ∀ W : World, Many w l K W → W.rangeAt b (off + j * 5) x.val := fun W h => (HC.out W h.bel).2.2.2
      clear zc
      cases b' with
      | true =>
        clear Ha Hm Hz
        go_wp2_with fail
        have hS := hl.drew
        clear hl
        refine wp_region_class_lit (Many w l K) (by kernel_rfl) (by kernel_rfl) hS ?_
        haveI : Nonempty {w' : World // Many w l K w'} := ⟨⟨_, hS⟩⟩
        clear hS
        repeat (first | go_big_quiet_skip | (go_big_quiet_want; first | (refine quiet_load_u8 _ rfl ⟨b22, kk, none⟩ rfl _ Hz ?_; go_big_quiet_on; simp only [Act.put, List.setIfInBounds_toArray, List.set_cons_zero, List.set_cons_succ]) | (refine quiet_load_u32 _ rfl ⟨b, off + j * 5 + 1, none⟩ rfl _ Ha ?_; go_big_quiet_on; simp only [Act.put, List.setIfInBounds_toArray, List.set_cons_zero, List.set_cons_succ]) | (refine quiet_load_mid 32 _ rfl b (off + j * 5) rfl x.val _ Hm Try.underlying32 rfl (sizeAct x) ?_; go_big_quiet_on; simp only [Act.put, List.setIfInBounds_toArray, List.set_cons_zero, List.set_cons_succ]) | (refine quiet_index8 _ _ rfl (blockB x.c) (blockB_length _) kk (by rw [blockB_length]; exact hkk256) rfl rfl cb EB.out ?_; go_big_quiet_on; simp only [Act.put, List.setIfInBounds_toArray, List.set_cons_zero, List.set_cons_succ]) | (go_big_quiet_op; first | go_big_quiet_on | go_big_quiet_call (first | (intro h1; exact (block_any x.what x.a x.c (.slice x.pa x.keep.length x.cap) x.z _).mono fun _ _ ⟨he, hb⟩ => ⟨he, h1.below hb⟩) | (intro _; rfl)))))
        refine wpQuiet_nil ?_
        intro w2 hw2
        have hl := hw2
        clear hw2
        go_wp2_with fail
        go_roundw
        case rel => exact ⟨j + 1, true, by omega, rfl, by go_num, Got.yes .., hl⟩
        case measure => simp [intOf]; omega
      | false =>
        obtain ⟨ba, d0⟩ : ∃ ba, decide (x.a = a) = ba := ⟨_, rfl⟩
        have d1 : decide ((x.a : Int) = (a : Int)) = ba := by rw [← d0]; exact decide_eq_decide.2 (by omega)
        have d2 : ((x.a : Int) == (a : Int)) = ba := d1
        have d3 : (x.a == a) = ba := d0
        cases ba with
        | false =>
          have hne : ¬ x.a = a := of_decide_eq_false d0
          clear Hz Hm
          go_wp2_with fail
          have hS := hl.drew
          clear hl
          refine wp_region_class_lit (Many w l K) (by kernel_rfl) (by kernel_rfl) hS ?_
          haveI : Nonempty {w' : World // Many w l K w'} := ⟨⟨_, hS⟩⟩
          clear hS
          repeat (first | go_big_quiet_skip | (go_big_quiet_want; first | (refine quiet_load_u8 _ rfl ⟨b22, kk, none⟩ rfl _ Hz ?_; go_big_quiet_on; simp only [Act.put, List.setIfInBounds_toArray, List.set_cons_zero, List.set_cons_succ]) | (refine quiet_load_u32 _ rfl ⟨b, off + j * 5 + 1, none⟩ rfl _ Ha ?_; go_big_quiet_on; simp only [Act.put, List.setIfInBounds_toArray, List.set_cons_zero, List.set_cons_succ]) | (refine quiet_load_mid 32 _ rfl b (off + j * 5) rfl x.val _ Hm Try.underlying32 rfl (sizeAct x) ?_; go_big_quiet_on; simp only [Act.put, List.setIfInBounds_toArray, List.set_cons_zero, List.set_cons_succ]) | (refine quiet_index8 _ _ rfl (blockB x.c) (blockB_length _) kk (by rw [blockB_length]; exact hkk256) rfl rfl cb EB.out ?_; go_big_quiet_on; simp only [Act.put, List.setIfInBounds_toArray, List.set_cons_zero, List.set_cons_succ]) | (go_big_quiet_op; first | go_big_quiet_on | go_big_quiet_call (first | (intro h1; exact (block_any x.what x.a x.c (.slice x.pa x.keep.length x.cap) x.z _).mono fun _ _ ⟨he, hb⟩ => ⟨he, h1.below hb⟩) | (intro _; rfl)))))
          refine wpQuiet_nil ?_
          intro w2 hw2
          have hl := hw2
          clear hw2 Ha
          go_wp2_with fail
          go_roundw
          case rel => exact ⟨j + 1, false, by omega, rfl, by go_num, HO.out hne, hl⟩
          case measure => simp [intOf]; omega
        | true =>
          obtain ⟨bt, f0⟩ : ∃ bt, decide (zb.toNat = cb.toNat) = bt := ⟨_, rfl⟩
          have ht : zl[kk]? = (blockB x.c)[kk]? → bt = true := fun e => by
            rw [EZ.out, EB.out] at e
            rw [← f0, Option.some.inj e]; simp
          have HTT := Lib.hid (HT.out rfl bt ht); clear ht
          have f1 : decide ((zb.toNat : Int) = (cb.toNat : Int)) = bt := by rw [← f0]; exact decide_eq_decide.2 (by omega)
          have f2 : ((zb.toNat : Int) == (cb.toNat : Int)) = bt := f1
          have f3 : (zb.toNat == cb.toNat) = bt := f0
          go_wp2_with fail
          have hS := hl.drew
          clear hl
          refine wp_region_class_lit (Many w l K) (by kernel_rfl) (by kernel_rfl) hS ?_
          haveI : Nonempty {w' : World // Many w l K w'} := ⟨⟨_, hS⟩⟩
          clear hS
          repeat (first | go_big_quiet_skip | (go_big_quiet_want; first | (refine quiet_load_u8 _ rfl ⟨b22, kk, none⟩ rfl _ Hz ?_; go_big_quiet_on; simp only [Act.put, List.setIfInBounds_toArray, List.set_cons_zero, List.set_cons_succ]) | (refine quiet_load_u32 _ rfl ⟨b, off + j * 5 + 1, none⟩ rfl _ Ha ?_; go_big_quiet_on; simp only [Act.put, List.setIfInBounds_toArray, List.set_cons_zero, List.set_cons_succ]) | (refine quiet_load_mid 32 _ rfl b (off + j * 5) rfl x.val _ Hm Try.underlying32 rfl (sizeAct x) ?_; go_big_quiet_on; simp only [Act.put, List.setIfInBounds_toArray, List.set_cons_zero, List.set_cons_succ]) | (refine quiet_index8 _ _ rfl (blockB x.c) (blockB_length _) kk (by rw [blockB_length]; exact hkk256) rfl rfl cb EB.out ?_; go_big_quiet_on; simp only [Act.put, List.setIfInBounds_toArray, List.set_cons_zero, List.set_cons_succ]) | (go_big_quiet_op; first | go_big_quiet_on | go_big_quiet_call (first | (intro h1; exact (block_any x.what x.a x.c (.slice x.pa x.keep.length x.cap) x.z _).mono fun _ _ ⟨he, hb⟩ => ⟨he, h1.below hb⟩) | (intro _; rfl)))))
          refine wpQuiet_nil ?_
          intro w2 hw2
          have hl := hw2
          clear hw2 Ha Hz Hm
          go_wp2_with fail
          go_roundw
          case rel => exact ⟨j + 1, bt, by omega, rfl, by go_num, HTT.out, hl⟩
          case measure => simp [intOf]; omega
    · have hjj : j = xs.length := by have := HN.out; omega
      have i0 : ¬ (j : Int) < (n : Int) := by omega
      have hb : b' = true := (hjj ▸ hgot).end_ HGOOD.out
      subst hb
      clear hgot
      go_wp2_with fail
      exact HEX.out _ _ _ _ _ _ _ _ _ _ _ _ _ _ _ _ _ _ _ _ _ _ _ _ _ _ _ _ _ _ _ _ _ hl

end Go.Proofs.Ytlgjgobelceheaa.Dev
