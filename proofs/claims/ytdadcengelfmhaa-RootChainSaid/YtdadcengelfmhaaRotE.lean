/-
  RotE: RotChRead, RotChLoop, RotChain.
-/
import Derived.Test.YtdadcengelfmhaaRotF
import Derived.Test.YtdadcengelfmhaaRotHead
/-
  A loop of the law RootChain: what is read behind the crash.
-/
namespace Go.Proofs.Ytdadcengelfmhaa.Rot
open Go.RowKit RowLaw Crc
set_option maxRecDepth 100000
open Go.Proofs.Ytdadcengelfmhaa.Fld (blockO)
open Go.Proofs.Ytdadcengelfmhaa.Slt (Rt cells rootO infoR sizeR eqB eqB_iff run_eqRoot noGuardR)
open Go.Proofs.Ytdadcengelfmhaa.Dev (Dev DS ptr Many putCells readB applyP)

/-- a proposition that nothing looks into -/
structure Veil (p : Prop) : Prop where
  out : p
section
variable {P : Program} {ops : Array Oper} {w : World} {Q : Act → Prop} {a : Act}
theorem veil_nil (h : Q a) : Veil (wpStill P ops w Q [] a) := ⟨h⟩
theorem veil_step {o : Oper} {rest : List Oper} (h : ∀ K : Act → Prop, (∀ a, Veil (wpStill P ops w Q rest a) → K a) → if Region.wanted o (yielded ops a.tmps) then o.still P a w K else K (a.put o.dst undef)) :
    Veil (wpStill P ops w Q (o :: rest) a) := ⟨h _ (fun _ h => h.out)⟩
theorem veil_region {id : Nat} {Q : Exit → Act → World → Prop} {a : Act} {w : World} {l : List Oper} (hm : P.follows .mixedOrders = true) (hB : Region.lexB .any l.toArray = true)
    (h : ∀ Q' : Act → Prop, (∀ a', Q .normal a' { w with drawn := w.drawn + 1 } → Q' a') → Veil (wpStill P l.toArray { w with drawn := w.drawn + 1 } Q' l a)) : (Code.region id l.toArray true).wp P Q a w :=
  wp_region_still_lit hm hB (h _ (fun _ h => h)).out
end

noncomputable def bodyH : Code := ((Try.f3.body.bind fun c => (loopsOf c)[0]?).getD .skip)
noncomputable def bodyR : Code := ((Try.f3.body.bind fun c => (loopsOf c)[1]?).getD .skip)

set_option linter.unusedVariables false in
set_option linter.unusedSimpArgs false in
set_option maxHeartbeats 12800000 in
theorem chain_reads {w : World} {l : List (Nat × DS)} {K : List (Nat × Obj)} {p b9 b15 : Nat} {s : DS} {mm last : Rt} {xs : List (Nat × List UInt8)} {pa : Option Addr} {n cap : Nat} (hn : n = xs.length) (hn8 : n ≤ 8) (hpu : Puts w pa xs) (hi : l[0]? = some (p, s)) (hs : s.n = 64 ∧ s.pend = [])
    (m9 : (b9, rootO last) ∈ K) (m15 : (b15, rootO mm) ∈ K) (hr : ∀ j (hj : j < xs.length), readB s (20 + j) ≠ xs[j].2 → j + 1 = n ∧ mm ≠ last)
    {Q0 : Exit → Act → World → Prop} {c0 c2 c3 c4 c5 c6 c8 c10 c11 c12 c13 c14 c16 c18 c19 c20 c21 c22 c23 c24 c25 c26 c27 c28 c29 c30 c31 c32 c33 c34 c35 c36 c37 c38 c39 c40 c41 c42 c43 c44 c45 c46 c47 c48 c49 c50 c51 c52 c53 c54 c55 c56 c57 c58 c59 c60 c61 c62 c63 c64 c65 c66 c67 c68 c69 c70 c71 c72 c73 c74 c75 c76 c77 c78 c79 c80 c81 c82 c83 c84 c85 c86 c87 c88 c89 c90 c91 c92 c93 c94 c95 c96 c97 c98 c99 c100 c101 c102 c103 c104 c105 c106 c107 c108 c109 c110 c111 c112 c113 c114 c115 c116 c117 c118 c119 c120 c121 c122 c123 c124 c125 c126 c127 c128 c129 c130 c131 c132 c133 c134 c135 c136 c137 c138 c139 c140 c141 c142 c143 c144 c145 c146 c147 c148 c149 c150 c151 c152 c153 c154 : Value} {W0 : World} (hM : Many w l K W0)
    (hexit : ∀ (u6 u18 u19 u121 u122 u123 u124 u125 u126 u127 u128 u129 u130 u131 u132 u133 u134 u135 u136 u137 u138 u139 u140 u141 u142 u143 u144 u145 u146 u147 u148 u149 u150 u151 u152 u153 : Value) (W : World), Many w l K W → Q0 (.exit 2) ⟨List.toArray (c0 :: .slice pa n cap :: c2 :: c3 :: c4 :: c5 :: u6 :: .pointer (some ⟨p, 0, none⟩) :: c8 :: .pointer (some ⟨b9, 0, none⟩) :: c10 :: c11 :: c12 :: c13 :: c14 :: .pointer (some ⟨b15, 0, none⟩) :: c16 :: .int .i64 (n : Int) :: u18 :: u19 :: c20 :: c21 :: c22 :: c23 :: c24 :: c25 :: c26 :: c27 :: c28 :: c29 :: c30 :: c31 :: c32 :: c33 :: c34 :: c35 :: c36 :: c37 :: c38 :: c39 :: c40 :: c41 :: c42 :: c43 :: c44 :: c45 :: c46 :: c47 :: c48 :: c49 :: c50 :: c51 :: c52 :: c53 :: c54 :: c55 :: c56 :: c57 :: c58 :: c59 :: c60 :: c61 :: c62 :: c63 :: c64 :: c65 :: c66 :: c67 :: c68 :: c69 :: c70 :: c71 :: c72 :: c73 :: c74 :: c75 :: c76 :: c77 :: c78 :: c79 :: c80 :: c81 :: c82 :: c83 :: c84 :: c85 :: c86 :: c87 :: c88 :: c89 :: c90 :: c91 :: c92 :: c93 :: c94 :: c95 :: c96 :: c97 :: c98 :: c99 :: c100 :: c101 :: c102 :: c103 :: c104 :: c105 :: c106 :: c107 :: c108 :: c109 :: c110 :: c111 :: c112 :: c113 :: c114 :: c115 :: c116 :: c117 :: c118 :: c119 :: c120 :: u121 :: u122 :: u123 :: u124 :: u125 :: u126 :: u127 :: u128 :: u129 :: u130 :: u131 :: u132 :: u133 :: u134 :: u135 :: u136 :: u137 :: u138 :: u139 :: u140 :: u141 :: u142 :: u143 :: u144 :: u145 :: u146 :: u147 :: u148 :: u149 :: u150 :: u151 :: u152 :: u153 :: c154 :: []), []⟩ W) :
    Code.wp Try.prog (.loop bodyR) Q0 ⟨List.toArray (c0 :: .slice pa n cap :: c2 :: c3 :: c4 :: c5 :: c6 :: .pointer (some ⟨p, 0, none⟩) :: c8 :: .pointer (some ⟨b9, 0, none⟩) :: c10 :: c11 :: c12 :: c13 :: c14 :: .pointer (some ⟨b15, 0, none⟩) :: c16 :: .int .i64 0 :: c18 :: c19 :: c20 :: c21 :: c22 :: c23 :: c24 :: c25 :: c26 :: c27 :: c28 :: c29 :: c30 :: c31 :: c32 :: c33 :: c34 :: c35 :: c36 :: c37 :: c38 :: c39 :: c40 :: c41 :: c42 :: c43 :: c44 :: c45 :: c46 :: c47 :: c48 :: c49 :: c50 :: c51 :: c52 :: c53 :: c54 :: c55 :: c56 :: c57 :: c58 :: c59 :: c60 :: c61 :: c62 :: c63 :: c64 :: c65 :: c66 :: c67 :: c68 :: c69 :: c70 :: c71 :: c72 :: c73 :: c74 :: c75 :: c76 :: c77 :: c78 :: c79 :: c80 :: c81 :: c82 :: c83 :: c84 :: c85 :: c86 :: c87 :: c88 :: c89 :: c90 :: c91 :: c92 :: c93 :: c94 :: c95 :: c96 :: c97 :: c98 :: c99 :: c100 :: c101 :: c102 :: c103 :: c104 :: c105 :: c106 :: c107 :: c108 :: c109 :: c110 :: c111 :: c112 :: c113 :: c114 :: c115 :: c116 :: c117 :: c118 :: c119 :: c120 :: c121 :: c122 :: c123 :: c124 :: c125 :: c126 :: c127 :: c128 :: c129 :: c130 :: c131 :: c132 :: c133 :: c134 :: c135 :: c136 :: c137 :: c138 :: c139 :: c140 :: c141 :: c142 :: c143 :: c144 :: c145 :: c146 :: c147 :: c148 :: c149 :: c150 :: c151 :: c152 :: c153 :: c154 :: []), []⟩ W0 := by
  have hzb := (zero_of_info infoBlock).1
  have HEX := Lib.hid hexit; clear hexit
  have hxl : ∀ x ∈ xs, x.2.length = 256 := fun x hx => (hpu.1 x hx).2
  have hat : ∀ j (hj : j < xs.length), ∃ b off, pa = some ⟨b, off, none⟩ ∧ ∀ W, Below w.heap.size w W → W.rangeAt b (off + j * 257) (putCells xs[j]) := fun j hj => by
    rcases hpu.2 with h0 | ⟨b, off, hp, hb, hat⟩
    · rw [h0] at hj; simp at hj
    · exact ⟨b, off, hp, fun W hW i v hv => (hW.cell (p := ⟨b, off + j * 257 + i, none⟩) hb).trans (hat j hj i v hv)⟩
  have HAT := Lib.hid hat; clear hat hpu
  have HXL := Lib.hid hxl; clear hxl
  have HR := Lib.hid hr; clear hr
  have HN := Lib.hid hn; clear hn
  have HS := Lib.hid hs; clear hs
  have HI := Lib.hid hi; clear hi
  conv => arg 2; arg 1; whnf
  go_loopw [17] (fun i wr => ∃ k : Nat, k ≤ n ∧ i = .int .i64 k ∧ Many w l K wr) (fun i _ => n - (intOf i).toNat)
  case atStart => exact ⟨0, Nat.zero_le _, rfl, hM⟩
  case round =>
    clear hM
    obtain ⟨k, hk, rfl, hm⟩ := hrel
    by_cases hkn : k < n
    · have hkl : k < xs.length := by have := HN.out; omega
      obtain ⟨b, off, rfl, hra⟩ := HAT.out k hkl
      have hyl := HXL.out _ (List.getElem_mem hkl)
      have hrk := HR.out k hkl
      have i0 : (0 : Int) ≤ (k : Int) := by omega
      have i1 : (k : Int) < (n : Int) := by omega
      have i8 : (k : Int) < 8 := by omega
      have hrd := Dev.Many.readB_ hm HI.out (a := 20 + k) (by rw [HS.out.1]; omega) (by rw [HS.out.2]; decide)
      have hXl : (readB s (20 + k)).length = 256 := by
        rw [readB_nil HS.out.2]; exact (hm.okG HI.out).1 _
      obtain ⟨yl, hy⟩ : ∃ yl, yl = xs[k].2 := ⟨_, rfl⟩
      have hcr : ∀ W, Below w.heap.size w W → W.rangeAt b (off + k * 257 + 1) (cellsOf yl).toList := fun W hW i v hv => by
        rw [Nat.add_assoc, Nat.add_comm 1 i]
        exact hra W hW (i + 1) v (by rw [hy] at hv; exact hv)
      rw [← hy] at hyl hrk
      clear hy hra
      generalize readB s (20 + k) = X at hrd hXl hrk
      have HRK := Lib.hid hrk
      have HCR := Lib.hid hcr
      clear hrk hcr
      unfold ptr at hrd
      have hiX := sizeBlock X hXl
      have hiY := sizeBlock yl hyl
      have hzX : (cellsOf zeros).size = (cellsOf X).size := by rw [cellsOf_size, cellsOf_size, hXl, zeros_length]
      have e20 : (((20 + k : Nat) : Nat) : Int) = 20 + (k : Int) := by omega
      rw [e20] at hrd
      have i5 : ((k : Int) % 4294967296) = k := by omega
      go_wp2_with fail
      refine hrd.mono ?_
      rintro e U1 ⟨rfl, hx⟩
      have hm2 := hx.alloc (blockO X)
      clear hx hm hrd e20
      have tok : True := trivial
      go_upto_region 29 with (first | (have _t := tok; refine wpList_store_new rfl 38 _ _ rfl (cellsOf X) _ _ rfl rfl hiX hzX (cellsOf_one _) ?_; change wpList _ _ _ _ _ (U1.alloc (blockO X)); clear _t tok))
      change Code.wp _ _ _ _ (U1.alloc (blockO X))
      generalize U1.heap.size = b18 at hm2 ⊢
      generalize U1.alloc (blockO X) = U2 at hm2 ⊢
      have hg3 := fun (W : World) (op : BinOp) (x y : Operand) (xs ys : Array Value) => run_eqGuard_agg (P := Try.prog) W op 38 x y xs ys noGuard
      have he : ∀ W, (Op.equalIn 10000 38 (.agg (cellsOf X)) (.agg (cellsOf yl))).run Try.prog W = .ok (decide (X = yl)) W := fun W => run_eqBlock W _ _ hXl hyl
      have hmd : Many w l ((b18, blockO X) :: K) U2.drew := hm2.drewM
      have r18 : U2.drew.heap[b18]? = some (.cells (cellsOf X) 38 (0, 0)) := hmd.at_ (q := b18) (o := blockO X) List.mem_cons_self
      have r15 : U2.drew.heap[b15]? = some (.cells (cells mm) 25 (0, 0)) := hmd.at_ (q := b15) (o := rootO mm) (List.mem_cons_of_mem _ m15)
      have r9 : U2.drew.heap[b9]? = some (.cells (cells last) 25 (0, 0)) := hmd.at_ (q := b9) (o := rootO last) (List.mem_cons_of_mem _ m9)
      have cr2 : U2.drew.rangeAt b (off + k * 257 + 1) (cellsOf yl).toList := HCR.out _ hmd.bel
      have hfin := hmd.less (K' := K) (fun x hx => List.mem_cons_of_mem _ hx)
      have HFIN := Lib.hid hfin
      clear hm2 hmd hfin
      by_cases hxy : X = yl
      · have d1 : decide (X = yl) = true := decide_eq_true hxy
        rw [d1] at he
        clear hxy d1
        refine veil_region (by kernel_rfl) (by kernel_rfl) (fun Q' hQ' => ?_)
        have HQ := Lib.hid hQ'; clear hQ'
        refine veil_step (fun K hK => ?_)
        rw [if_pos (by rfl)]
        refine Dev.still_load_row 38 (.tmp 18) rfl b18 rfl _ _ _ _ r18 Try.underlying38 rfl hiX ?_
        refine hK _ ?_
        clear hK K
        iterate 4 (refine veil_step (fun K hK => ?_); (have HK := Lib.hid hK); clear hK; go_simp; refine HK.out _ ?_; clear HK K)
        refine veil_step (fun K hK => ?_)
        rw [if_pos (by rfl)]
        refine still_load_mid 38 _ rfl b (off + k * 257 + 1) rfl (cellsOf yl) _ cr2 Try.underlying38 rfl hiY ?_
        refine hK _ ?_
        clear hK K
        refine veil_step (fun K hK => ?_)
        have HK := Lib.hid hK
        clear hK
        go_simp
        refine HK.out _ ?_
        clear HK K
        refine veil_step (fun K hK => ?_)
        have HK := Lib.hid hK
        clear hK
        go_simp
        refine HK.out _ ?_
        clear HK K
        refine veil_step (fun K hK => ?_)
        have HK := Lib.hid hK
        clear hK
        go_simp
        refine HK.out _ ?_
        clear HK K
        refine veil_step (fun K hK => ?_)
        have HK := Lib.hid hK
        clear hK
        go_simp
        refine HK.out _ ?_
        clear HK K
        refine veil_step (fun K hK => ?_)
        have HK := Lib.hid hK
        clear hK
        go_simp
        refine HK.out _ ?_
        clear HK K
        refine veil_step (fun K hK => ?_)
        have HK := Lib.hid hK
        clear hK
        go_simp
        refine HK.out _ ?_
        clear HK K
        refine veil_step (fun K hK => ?_)
        have HK := Lib.hid hK
        clear hK
        go_simp
        refine HK.out _ ?_
        clear HK K
        refine veil_step (fun K hK => ?_)
        have HK := Lib.hid hK
        clear hK
        go_simp
        refine HK.out _ ?_
        clear HK K
        refine veil_step (fun K hK => ?_)
        have HK := Lib.hid hK
        clear hK
        go_simp
        refine HK.out _ ?_
        clear HK K
        refine veil_step (fun K hK => ?_)
        have HK := Lib.hid hK
        clear hK
        go_simp
        refine HK.out _ ?_
        clear HK K
        refine veil_step (fun K hK => ?_)
        have HK := Lib.hid hK
        clear hK
        go_simp
        refine HK.out _ ?_
        clear HK K
        refine veil_step (fun K hK => ?_)
        have HK := Lib.hid hK
        clear hK
        go_simp
        refine HK.out _ ?_
        clear HK K
        refine veil_step (fun K hK => ?_)
        have HK := Lib.hid hK
        clear hK
        go_simp
        refine HK.out _ ?_
        clear HK K
        refine veil_nil (HQ.out _ ?_)
        clear HQ Q'
        change Exit.then _ _ Exit.normal _ U2.drew
        go_wp2_with fail
        go_roundw
        case rel => exact ⟨k + 1, by omega, by go_num, HFIN.out⟩
        case measure => simp [intOf]; omega
      · have d1 : decide (X = yl) = false := decide_eq_false hxy
        rw [d1] at he
        obtain ⟨hkn1, hml⟩ := HRK.out hxy
        clear hxy d1
        have i2 : ¬ (k : Int) < (n : Int) - 1 := by omega
        have z1 : IntKind.i64.wrap ((n : Int) - 1) = (n : Int) - 1 := IntWalk.i64_in _ (by omega)
        have i3 : (n : Int) - 1 ≤ (k : Int) := by omega
        have e5 : ∀ W, (Op.equalIn 10000 25 (.agg (cells mm)) (.agg (cells last))).run Try.prog W = .ok false W := fun W => by
          rw [run_eqRoot]
          rw [show eqB mm last = false by rw [Bool.eq_false_iff]; exact fun h => hml (eqB_iff.1 h)]
        have hg2 := fun (W : World) (op : BinOp) (x y : Operand) (xs ys : Array Value) => run_eqGuard_agg (P := Try.prog) W op 25 x y xs ys noGuardR
        refine veil_region (by kernel_rfl) (by kernel_rfl) (fun Q' hQ' => ?_)
        have HQ := Lib.hid hQ'; clear hQ'
        refine veil_step (fun K hK => ?_)
        rw [if_pos (by rfl)]
        refine Dev.still_load_row 38 (.tmp 18) rfl b18 rfl _ _ _ _ r18 Try.underlying38 rfl hiX ?_
        refine hK _ ?_
        clear hK K
        iterate 4 (refine veil_step (fun K hK => ?_); (have HK := Lib.hid hK); clear hK; go_simp; refine HK.out _ ?_; clear HK K)
        refine veil_step (fun K hK => ?_)
        rw [if_pos (by rfl)]
        refine still_load_mid 38 _ rfl b (off + k * 257 + 1) rfl (cellsOf yl) _ cr2 Try.underlying38 rfl hiY ?_
        refine hK _ ?_
        clear hK K
        refine veil_step (fun K hK => ?_)
        have HK := Lib.hid hK
        clear hK
        go_simp
        refine HK.out _ ?_
        clear HK K
        refine veil_step (fun K hK => ?_)
        have HK := Lib.hid hK
        clear hK
        go_simp
        refine HK.out _ ?_
        clear HK K
        refine veil_step (fun K hK => ?_)
        have HK := Lib.hid hK
        clear hK
        go_simp
        refine HK.out _ ?_
        clear HK K
        refine veil_step (fun K hK => ?_)
        have HK := Lib.hid hK
        clear hK
        go_simp
        refine HK.out _ ?_
        clear HK K
        refine veil_step (fun K hK => ?_)
        have HK := Lib.hid hK
        clear hK
        go_simp
        refine HK.out _ ?_
        clear HK K
        refine veil_step (fun K hK => ?_)
        have HK := Lib.hid hK
        clear hK
        go_simp
        refine HK.out _ ?_
        clear HK K
        refine veil_step (fun K hK => ?_)
        have HK := Lib.hid hK
        clear hK
        go_simp
        refine HK.out _ ?_
        clear HK K
        refine veil_step (fun K hK => ?_)
        have HK := Lib.hid hK
        clear hK
        go_simp
        refine HK.out _ ?_
        clear HK K
        refine veil_step (fun K hK => ?_)
        rw [if_pos (by rfl)]
        refine Dev.still_load_row 25 (.tmp 15) rfl b15 rfl _ _ _ _ r15 Try.underlying25 rfl (sizeR _) ?_
        refine hK _ ?_
        clear hK K
        refine veil_step (fun K hK => ?_)
        rw [if_pos (by rfl)]
        refine Dev.still_load_row 25 (.tmp 9) rfl b9 rfl _ _ _ _ r9 Try.underlying25 rfl (sizeR _) ?_
        refine hK _ ?_
        clear hK K
        refine veil_step (fun K hK => ?_)
        have HK := Lib.hid hK
        clear hK
        go_simp
        refine HK.out _ ?_
        clear HK K
        refine veil_step (fun K hK => ?_)
        have HK := Lib.hid hK
        clear hK
        go_simp
        refine HK.out _ ?_
        clear HK K
        refine veil_step (fun K hK => ?_)
        have HK := Lib.hid hK
        clear hK
        go_simp
        refine HK.out _ ?_
        clear HK K
        refine veil_nil (HQ.out _ ?_)
        clear HQ Q'
        change Exit.then _ _ Exit.normal _ U2.drew
        go_wp2_with fail
        go_roundw
        case rel => exact ⟨k + 1, by omega, by go_num, HFIN.out⟩
        case measure => simp [intOf]; omega
    · have hkk : k = n := by omega
      subst hkk
      have i1 : ¬ (k : Int) < (k : Int) := by omega
      go_wp2_with fail
      exact HEX.out _ _ _ _ _ _ _ _ _ _ _ _ _ _ _ _ _ _ _ _ _ _ _ _ _ _ _ _ _ _ _ _ _ _ _ _ _ hm

end Go.Proofs.Ytdadcengelfmhaa.Rot

/-
  A loop of the law RootChain: the commits, one behind the other.
-/
namespace Go.Proofs.Ytdadcengelfmhaa.Rot
open Go.RowKit RowLaw Crc
set_option maxRecDepth 100000
open Go.Proofs.Ytdadcengelfmhaa.Slt (Rt cells rootO infoR sizeR cells_one IsRt)
open Go.Proofs.Ytdadcengelfmhaa.Dev (Dev DS ptr Many putCells readB applyP crashS built_put run_buildPut sizePut putCells_one putCells_length size_of_putCells infoPut)

/-- what a crash leaves behind the last commit of a chain -/
def Ends (s : DS) (last ahead : Rt) (n : Nat) (bs : Nat → List UInt8) : Prop := ∀ ks : List (Nat × Nat),
  (mountS (crashS s ks) = some ahead ∨ mountS (crashS s ks) = some last) ∧ (crashS s ks).n = 64 ∧ (crashS s ks).pend = [] ∧ ahead ≠ last ∧ (∀ j, j + 1 < n → readB (crashS s ks) (20 + j) = bs j) ∧
  (mountS (crashS s ks) = some last → ∀ j, j + 1 = n → readB (crashS s ks) (20 + j) = bs j)
theorem chain_next {s s2 : DS} {last r : Rt} {k n : Nat} {bs : Nat → List UInt8} {z : Int} (h : Chain s last k bs) (hr : r.Fits) (hg : r.gen = last.gen + 1) (hb : (bs k).length = 256) {f : Int} (hf : 0 ≤ f)
    (hc : commitF (if k + 1 = n then { s with left := f } else s) [(20 + k, bs k)] r = (s2, z)) (hz : z ≠ 2) : (k + 1 ≠ n → Chain s2 r (k + 1) bs) ∧ (k + 1 = n → Ends s2 r last n bs) := by
  have hn : (if k + 1 = n then { s with left := f } else s).n = 64 := by split <;> exact h.n
  have ok : commitOk 64 [(20 + k, bs k)] r = true := by
    cases ho : commitOk 64 [(20 + k, bs k)] r with
    | true => rfl
    | false =>
      rw [commit_bad (by rw [hn]; exact ho)] at hc
      exact absurd (congrArg (·.2) hc).symm hz
  refine ⟨fun hk => ?_, fun hk ks => ?_⟩
  · rw [if_neg hk] at hc
    have := (h.step hr hg hb ok).1
    rw [hc] at this
    exact this
  · rw [if_pos hk] at hc
    have hl : ∀ x ∈ [(20 + k, bs k)], x.2.length = 256 := fun x hx => by
      simp only [List.mem_singleton] at hx
      subst hx
      exact hb
    have hcr := commit_crash (s := { s with left := f }) (l := [(20 + k, bs k)]) (r := r) h.calm.down h.calm.pend (by show -1 ≤ f; omega) h.calm.len hl (by show 2 ≤ s.n; rw [h.n]; omega) (by show commitOk s.n _ _ = true; rw [h.n]; exact ok) ks
    have hn2 := hcr.n.trans h.n
    obtain ⟨a1, a2, a3, a4⟩ := h.crash hr hg hb ok f hf ks
    rw [hc] at a1 a2 a3 a4 hn2
    refine ⟨a1, hn2, a2, fun e => ?_, fun j hj => a3 j (by omega), fun hm j hj => ?_⟩
    · rw [← e] at hg
      omega
    · have : j = k := by omega
      subst this
      exact a4 hm
theorem commit_pend {s : DS} {last : Rt} {k : Nat} {bs : Nat → List UInt8} (h : Chain s last k bs) : s.n = 64 ∧ s.pend = [] ∧ s.down = false := ⟨h.n, h.calm.pend, h.calm.down⟩

theorem wpList_build_put {ops : Array Oper} {rest : List Oper} {o : Oper} {ac : Act} {w : World} {Q : Exit → Act → World → Prop} (hgd : o.guard = none) (d0 d1 : Tmp) (ho : o.op = .build 40 #[(0, .tmp d0), (1, .tmp d1)]) (a : Nat) (l : List UInt8) (hl : l.length = 256)
    (h0 : ac.eval (.tmp d0) = .int .u32 (a : Int)) (h1 : ac.eval (.tmp d1) = .agg (cellsOf l)) (h : wpList Try.prog ops Q rest (ac.put o.dst (.agg (putCells (a, l)).toArray)) w) : wpList Try.prog ops Q (o :: rest) ac w := by
  refine wpList_plain hgd fun K hK => ?_
  unfold Oper.wp
  rw [Dev.exec_build d0 d1 ho a l hl h0 h1 w]
  exact hK _ _ h
theorem wpList_new_put {ops : Array Oper} {rest : List Oper} {o : Oper} {ac : Act} {w : World} {Q : Exit → Act → World → Prop} (hgd : o.guard = none) (d : Tmp) (ho : o.op = .buildSlice 26 1 #[(0, .tmp d)]) (x : Nat × List UInt8) (hx : x.2.length = 256) (hv : ac.eval (.tmp d) = .agg (putCells x).toArray)
    (h : wpList Try.prog ops Q rest (ac.put o.dst (.slice (some ⟨w.heap.size, 0, none⟩) 1 1)) (w.alloc (.cells (putCells x).toArray 40))) : wpList Try.prog ops Q (o :: rest) ac w :=
  wpList_plain hgd fun _ hK => Dev.wp_new_put d ho x hx hv (hK _ _ h)
theorem wpList_new_row {ops : Array Oper} {rest : List Oper} {o : Oper} {ac : Act} {w : World} {Q : Exit → Act → World → Prop} (hgd : o.guard = none) (d : Tmp) (ho : o.op = .buildSlice 26 1 #[(0, .tmp d)]) (pc : Array Value)
    (hrun : ∀ W : World, (Instr.buildSlice 26 1 #[(0, .agg pc)]).run Try.prog W = .ok (.slice (some ⟨W.heap.size, 0, none⟩) 1 1) (W.alloc (.cells pc 40))) (hv : ac.eval (.tmp d) = .agg pc)
    (h : wpList Try.prog ops Q rest (ac.put o.dst (.slice (some ⟨w.heap.size, 0, none⟩) 1 1)) (w.alloc (.cells pc 40))) : wpList Try.prog ops Q (o :: rest) ac w := by
  refine wpList_plain hgd fun K hK => ?_
  unfold Oper.wp execOp
  simp only [ho, List.map_toArray, List.map_cons, List.map_nil, hv, Sem.run_bind, hrun w, Result.andThen_ok]
  exact hK _ _ h
theorem Puts.one {W : World} {b : Nat} {x : Nat × List UInt8} (h : W.heap[b]? = some (.cells (putCells x).toArray 40 (0, 0))) (hx : x.1 < 4294967296 ∧ x.2.length = 256) : Puts W (some ⟨b, 0, none⟩) [x] := by
  refine ⟨fun y hy => ?_, .inr ⟨b, 0, rfl, (Array.getElem?_eq_some_iff.1 h).1, fun j hj i v hv => ?_⟩⟩
  · simp only [List.mem_singleton] at hy
    subst hy
    exact hx
  · simp only [List.length_singleton] at hj
    obtain rfl : j = 0 := by omega
    have e := cell_of_row W b i _ _ _ h
    simp only [Nat.zero_add, Nat.zero_mul]
    rw [e, List.getElem?_toArray]
    exact hv

set_option linter.unusedVariables false in
set_option linter.unusedSimpArgs false in
set_option maxHeartbeats 12800000 in
theorem chain_commits {w : World} {p b3 b5 b9 b11 : Nat} {s0 : DS} {r0 : Rt} {bs : Nat → List UInt8} {xs : List (Nat × List UInt8)} {pa : Option Addr} {n cap : Nat} {f : Nat} {pk : Option Addr} {m ck : Nat} (hn : n = xs.length) (hn0 : 0 < n) (hn8 : n ≤ 8) (hpu : Puts w pa xs) (hf : f < 256)
    (hbs : ∀ j (hj : j < xs.length), bs j = xs[j].2) (w3 : w.heap.size ≤ b3) (w9 : w.heap.size ≤ b9) (w11 : w.heap.size ≤ b11) (d3 : b3 ≠ b5 ∧ b3 ≠ b9 ∧ b3 ≠ b11) (d9 : b9 ≠ b5 ∧ b9 ≠ b11) (d11 : b11 ≠ b5) (hr0 : r0.Fits) (hC0 : Chain s0 (fresh 64) 0 bs)
    (hH : ∀ W, Calls Try.prog 5 #[] W fun e w' => e = .returned (.bool true) ∧ Below W.heap.size W w')
    {Q0 : Exit → Act → World → Prop} {c0 c2 c4 c6 c8 c10 c13 c14 c15 c16 c17 c18 c19 c20 c21 c22 c23 c24 c25 c26 c27 c28 c29 c30 c31 c32 c33 c34 c35 c36 c37 c38 c39 c40 c41 c42 c43 c44 c45 c46 c47 c48 c49 c50 c51 c52 c53 c54 c55 c56 c57 c58 c59 c60 c61 c62 c63 c64 c65 c66 c67 c68 c69 c70 c71 c72 c73 c74 c75 c76 c77 c78 c79 c80 c81 c82 c83 c84 c85 c86 c87 c88 c89 c90 c91 c92 c93 c94 c95 c96 c97 c98 c99 c100 c101 c102 c103 c104 c105 c106 c107 c108 c109 c110 c111 c112 c113 c114 c115 c116 c117 c118 c119 c120 c121 c122 c123 c124 c125 c126 c127 c128 c129 c130 c131 c132 c133 c134 c135 c136 c137 c138 c139 c140 c141 c142 c143 c144 c145 c146 c147 c148 c149 c150 c151 c152 c153 c154 : Value} {W0 : World} (hM : Many w [(p, s0)] [(b11, rootO (fresh 64)), (b9, rootO (fresh 64)), (b3, rootO r0), (b5, xO f pk m ck)] W0)
    (hexit : ∀ (u6 u13 u14 u59 u60 u61 u62 u63 u64 u65 u66 u67 u68 u69 u70 u71 u72 u73 u74 u75 u76 u77 u78 u79 u80 u81 u82 u83 u84 u85 u86 u87 u88 u89 u90 u91 u92 u93 u94 u95 u96 u97 u98 u99 : Value) (W : World) (s : DS) (r last ahead : Rt), Many w [(p, s)] [(b11, rootO ahead), (b9, rootO last), (b3, rootO r), (b5, xO f pk m ck)] W → Ends s last ahead n bs → Q0 (.exit 0) ⟨List.toArray (c0 :: .slice pa n cap :: c2 :: .pointer (some ⟨b3, 0, none⟩) :: c4 :: .pointer (some ⟨b5, 0, none⟩) :: u6 :: .pointer (some ⟨p, 0, none⟩) :: c8 :: .pointer (some ⟨b9, 0, none⟩) :: c10 :: .pointer (some ⟨b11, 0, none⟩) :: .int .i64 (n : Int) :: u13 :: u14 :: c15 :: c16 :: c17 :: c18 :: c19 :: c20 :: c21 :: c22 :: c23 :: c24 :: c25 :: c26 :: c27 :: c28 :: c29 :: c30 :: c31 :: c32 :: c33 :: c34 :: c35 :: c36 :: c37 :: c38 :: c39 :: c40 :: c41 :: c42 :: c43 :: c44 :: c45 :: c46 :: c47 :: c48 :: c49 :: c50 :: c51 :: c52 :: c53 :: c54 :: c55 :: c56 :: c57 :: c58 :: u59 :: u60 :: u61 :: u62 :: u63 :: u64 :: u65 :: u66 :: u67 :: u68 :: u69 :: u70 :: u71 :: u72 :: u73 :: u74 :: u75 :: u76 :: u77 :: u78 :: u79 :: u80 :: u81 :: u82 :: u83 :: u84 :: u85 :: u86 :: u87 :: u88 :: u89 :: u90 :: u91 :: u92 :: u93 :: u94 :: u95 :: u96 :: u97 :: u98 :: u99 :: c100 :: c101 :: c102 :: c103 :: c104 :: c105 :: c106 :: c107 :: c108 :: c109 :: c110 :: c111 :: c112 :: c113 :: c114 :: c115 :: c116 :: c117 :: c118 :: c119 :: c120 :: c121 :: c122 :: c123 :: c124 :: c125 :: c126 :: c127 :: c128 :: c129 :: c130 :: c131 :: c132 :: c133 :: c134 :: c135 :: c136 :: c137 :: c138 :: c139 :: c140 :: c141 :: c142 :: c143 :: c144 :: c145 :: c146 :: c147 :: c148 :: c149 :: c150 :: c151 :: c152 :: c153 :: c154 :: []), []⟩ W)
    (hret : ∀ (u12 u13 u14 u59 u60 u61 u62 u63 u64 u65 u66 u67 u68 u69 u70 u71 u72 u73 u74 u75 u76 u77 u78 u79 u80 u81 u82 u83 u84 u85 u86 u87 u88 u89 u90 u91 u92 u93 u94 u95 u96 u97 u98 u99 : Value) (W : World), Below w.heap.size w W → Q0 .ret ⟨List.toArray (c0 :: .slice pa n cap :: c2 :: .pointer (some ⟨b3, 0, none⟩) :: c4 :: .pointer (some ⟨b5, 0, none⟩) :: .bool true :: .pointer (some ⟨p, 0, none⟩) :: c8 :: .pointer (some ⟨b9, 0, none⟩) :: c10 :: .pointer (some ⟨b11, 0, none⟩) :: u12 :: u13 :: u14 :: c15 :: c16 :: c17 :: c18 :: c19 :: c20 :: c21 :: c22 :: c23 :: c24 :: c25 :: c26 :: c27 :: c28 :: c29 :: c30 :: c31 :: c32 :: c33 :: c34 :: c35 :: c36 :: c37 :: c38 :: c39 :: c40 :: c41 :: c42 :: c43 :: c44 :: c45 :: c46 :: c47 :: c48 :: c49 :: c50 :: c51 :: c52 :: c53 :: c54 :: c55 :: c56 :: c57 :: c58 :: u59 :: u60 :: u61 :: u62 :: u63 :: u64 :: u65 :: u66 :: u67 :: u68 :: u69 :: u70 :: u71 :: u72 :: u73 :: u74 :: u75 :: u76 :: u77 :: u78 :: u79 :: u80 :: u81 :: u82 :: u83 :: u84 :: u85 :: u86 :: u87 :: u88 :: u89 :: u90 :: u91 :: u92 :: u93 :: u94 :: u95 :: u96 :: u97 :: u98 :: u99 :: c100 :: c101 :: c102 :: c103 :: c104 :: c105 :: c106 :: c107 :: c108 :: c109 :: c110 :: c111 :: c112 :: c113 :: c114 :: c115 :: c116 :: c117 :: c118 :: c119 :: c120 :: c121 :: c122 :: c123 :: c124 :: c125 :: c126 :: c127 :: c128 :: c129 :: c130 :: c131 :: c132 :: c133 :: c134 :: c135 :: c136 :: c137 :: c138 :: c139 :: c140 :: c141 :: c142 :: c143 :: c144 :: c145 :: c146 :: c147 :: c148 :: c149 :: c150 :: c151 :: c152 :: c153 :: c154 :: []), []⟩ W) :
    Code.wp Try.prog (.loop bodyH) Q0 ⟨List.toArray (c0 :: .slice pa n cap :: c2 :: .pointer (some ⟨b3, 0, none⟩) :: c4 :: .pointer (some ⟨b5, 0, none⟩) :: c6 :: .pointer (some ⟨p, 0, none⟩) :: c8 :: .pointer (some ⟨b9, 0, none⟩) :: c10 :: .pointer (some ⟨b11, 0, none⟩) :: .int .i64 0 :: c13 :: c14 :: c15 :: c16 :: c17 :: c18 :: c19 :: c20 :: c21 :: c22 :: c23 :: c24 :: c25 :: c26 :: c27 :: c28 :: c29 :: c30 :: c31 :: c32 :: c33 :: c34 :: c35 :: c36 :: c37 :: c38 :: c39 :: c40 :: c41 :: c42 :: c43 :: c44 :: c45 :: c46 :: c47 :: c48 :: c49 :: c50 :: c51 :: c52 :: c53 :: c54 :: c55 :: c56 :: c57 :: c58 :: c59 :: c60 :: c61 :: c62 :: c63 :: c64 :: c65 :: c66 :: c67 :: c68 :: c69 :: c70 :: c71 :: c72 :: c73 :: c74 :: c75 :: c76 :: c77 :: c78 :: c79 :: c80 :: c81 :: c82 :: c83 :: c84 :: c85 :: c86 :: c87 :: c88 :: c89 :: c90 :: c91 :: c92 :: c93 :: c94 :: c95 :: c96 :: c97 :: c98 :: c99 :: c100 :: c101 :: c102 :: c103 :: c104 :: c105 :: c106 :: c107 :: c108 :: c109 :: c110 :: c111 :: c112 :: c113 :: c114 :: c115 :: c116 :: c117 :: c118 :: c119 :: c120 :: c121 :: c122 :: c123 :: c124 :: c125 :: c126 :: c127 :: c128 :: c129 :: c130 :: c131 :: c132 :: c133 :: c134 :: c135 :: c136 :: c137 :: c138 :: c139 :: c140 :: c141 :: c142 :: c143 :: c144 :: c145 :: c146 :: c147 :: c148 :: c149 :: c150 :: c151 :: c152 :: c153 :: c154 :: []), []⟩ W0 := by
  have hzp := (zero_of_info infoPut2).1
  have HEX := Lib.hid hexit; clear hexit
  have HRET := Lib.hid hret; clear hret
  have HH := Lib.hid hH; clear hH
  have hxl : ∀ x ∈ xs, x.2.length = 256 := fun x hx => (hpu.1 x hx).2
  have hat : ∀ j (hj : j < xs.length), ∃ b off, pa = some ⟨b, off, none⟩ ∧ ∀ W, Below w.heap.size w W → W.rangeAt b (off + j * 257) (putCells xs[j]) := fun j hj => by
    rcases hpu.2 with h0 | ⟨b, off, hp, hb, hat⟩
    · rw [h0] at hj; simp at hj
    · exact ⟨b, off, hp, fun W hW i v hv => (hW.cell (p := ⟨b, off + j * 257 + i, none⟩) hb).trans (hat j hj i v hv)⟩
  have HAT := Lib.hid hat; clear hat hpu
  have HXL := Lib.hid hxl; clear hxl
  have HBS := Lib.hid hbs; clear hbs
  have HN := Lib.hid hn; clear hn
  have N3 : ∀ (o o' o'' : Obj), ∀ x ∈ [(b11, o), (b9, o'), (b5, o'')], x.1 ≠ b3 := fun o o' o'' x hx => by
    simp only [List.mem_cons, List.not_mem_nil, or_false] at hx
    rcases hx with rfl | rfl | rfl
    · exact d3.2.2.symm
    · exact d3.2.1.symm
    · exact d3.1.symm
  have N9 : ∀ (o o' o'' : Obj), ∀ x ∈ [(b11, o), (b3, o'), (b5, o'')], x.1 ≠ b9 := fun o o' o'' x hx => by
    simp only [List.mem_cons, List.not_mem_nil, or_false] at hx
    rcases hx with rfl | rfl | rfl
    · exact d9.2.symm
    · exact d3.2.1
    · exact d9.1.symm
  have N11 : ∀ (o o' o'' : Obj), ∀ x ∈ [(b9, o), (b3, o'), (b5, o'')], x.1 ≠ b11 := fun o o' o'' x hx => by
    simp only [List.mem_cons, List.not_mem_nil, or_false] at hx
    rcases hx with rfl | rfl | rfl
    · exact d9.2
    · exact d3.2.2
    · exact d11.symm
  have HN3 := Lib.hid N3; have HN9 := Lib.hid N9; have HN11 := Lib.hid N11
  clear N3 N9 N11 d3 d9 d11
  conv => arg 2; arg 1; whnf
  go_loopw [12] (fun i wr => ∃ k : Nat, k ≤ n ∧ i = .int .i64 k ∧ ∃ (s : DS) (r last ahead : Rt), Many w [(p, s)] [(b11, rootO ahead), (b9, rootO last), (b3, rootO r), (b5, xO f pk m ck)] wr ∧ Hid (r.Fits ∧ (k ≠ n → Chain s last k bs) ∧ (k = n → Ends s last ahead n bs))) (fun i _ => n - (intOf i).toNat)
  case atStart => exact ⟨0, Nat.zero_le _, rfl, s0, r0, fresh 64, fresh 64, hM, Lib.hid ⟨hr0, fun _ => hC0, fun h => by omega⟩⟩
  case round =>
    clear hM hr0 hC0
    obtain ⟨k, hk, rfl, s, r, last, ahead, hm, HI⟩ := hrel
    by_cases hkn : k < n
    · have hC := HI.out.2.1 (by omega)
      have hkl : k < xs.length := by have := HN.out; omega
      obtain ⟨b, off, rfl, hra⟩ := HAT.out k hkl
      have hyl := HXL.out _ (List.getElem_mem hkl)
      have hby := HBS.out k hkl
      have hrf := HI.out.1
      have hgl : last.gen = k + 1 := hC.gen
      have i0 : (0 : Int) ≤ (k : Int) := by omega
      have i1 : (k : Int) < (n : Int) := by omega
      have i5 : ((k : Int) % 4294967296) = k := by omega
      have i6 : (20 + (k : Int)) % 4294967296 = 20 + k := by omega
      obtain ⟨r1, hr1⟩ : ∃ r1 : Rt, r1 = { r with gen := last.gen + 1, size := 64 } := ⟨_, rfl⟩
      have hr1f : r1.Fits := by
        rw [hr1]
        exact ⟨by show last.gen + 1 < _; omega, by show (64 : Nat) < _; omega, hrf.picks, hrf.names, hrf.free, hrf.next, hrf.hint, hrf.vols⟩
      have hr1g : r1.gen = last.gen + 1 := by rw [hr1]
      have hbl : (bs k).length = 256 := by rw [hby]; exact hyl
      obtain ⟨z, hz⟩ : ∃ z : Nat, z = f % 6 := ⟨_, rfl⟩
      have z1 : (f : Int) % 6 = (z : Int) := by omega
      have z2 : Int.tmod (f : Int) 6 = (z : Int) := by rw [Int.tmod_eq_emod_of_nonneg (by omega)]; exact z1
      have hz6 : z < 6 := by omega
      clear hz
      obtain ⟨s2, z9, hcm⟩ : ∃ s2 z9, commitF (if k + 1 = n then { s with left := (z : Int) } else s) [(20 + k, bs k)] r1 = (s2, z9) := ⟨_, _, rfl⟩
      have hnext := fun h2 => chain_next hC hr1f hr1g hbl (f := (z : Int)) (by omega) hcm h2
      obtain ⟨hs1, hs2, hs3⟩ := commit_pend hC
      obtain ⟨yl, hy⟩ : ∃ yl, yl = bs k := ⟨_, rfl⟩
      have hcr : ∀ W, Below w.heap.size w W → W.rangeAt b (off + k * 257 + 1) (cellsOf yl).toList := fun W hW i v hv => by
        rw [Nat.add_assoc, Nat.add_comm 1 i]
        exact hra W hW (i + 1) v (by rw [hy, hby] at hv; exact hv)
      rw [← hy] at hcm hbl
      obtain ⟨g, hg⟩ : ∃ g, g = last.gen := ⟨_, rfl⟩
      have hg9 : g ≤ 8 := by omega
      have z3 : IntKind.u64.wrap ((g : Int) + 1) = (g : Int) + 1 := IntWalk.u64_in _ (by omega)
      have c9 : wr.cell? ⟨b9, 0, none⟩ = some (.int .u64 (g : Int)) := by rw [hg]; exact IsRt.gen (r := last) (p := b9) (hm.at_ (q := b9) (o := rootO last) (by simp))
      have hm3 : Many w [(p, s)] [(b3, .cells (cells r) 25 (0, 0)), (b11, rootO ahead), (b9, rootO last), (b5, xO f pk m ck)] wr := hm.less (by simp [rootO])
      have c3 := IsRt.gen (r := r) (p := b3) (hm3.at_ List.mem_cons_self)
      have f3 := IsRt.frozen (r := r) (p := b3) (hm3.at_ List.mem_cons_self) 0
      have hm4 := Many.setCell (j := 0) (v := .int .u64 ((g + 1 : Nat) : Int)) hm3 w3 (HN3.out _ _ _)
      rw [show (cells r).setIfInBounds 0 (.int .u64 ((g + 1 : Nat) : Int)) = cells { r with gen := g + 1 } from rfl] at hm4
      have HCM := Lib.hid hcm
      have HNX := Lib.hid hnext
      have HCR := Lib.hid hcr
      have HR1F := Lib.hid hr1f
      have HR1 := Lib.hid hr1
      have HG := Lib.hid hg
      have HS1 := Lib.hid hs1; have HS2 := Lib.hid hs2; have HS3 := Lib.hid hs3
      clear hcm hnext hcr hr1f hr1 hr1g hg hs1 hs2 hs3 hC hra hy hby hgl hrf hm hm3 HI hyl
      rw [show ((g + 1 : Nat) : Int) = (g : Int) + 1 from by omega] at hm4
      go_upto_region 12 with fail
      generalize World.setCell _ ⟨b3, 0, none⟩ (.int .u64 ((g : Int) + 1)) = W8 at hm4 ⊢
      clear c3 f3 c9 z3
      have c3 := IsRt.size (r := { r with gen := g + 1 }) (p := b3) (hm4.at_ List.mem_cons_self)
      have f3 := IsRt.frozen (r := { r with gen := g + 1 }) (p := b3) (hm4.at_ List.mem_cons_self) 1
      have hm5 := Many.setCell (j := 1) (v := .int .u32 64) hm4 w3 (HN3.out _ _ _)
      rw [show (cells { r with gen := g + 1 }).setIfInBounds 1 (.int .u32 64) = cells r1 from by rw [HR1.out, ← HG.out]; rfl] at hm5
      go_upto_region 13 with fail
      generalize World.setCell _ ⟨b3, 1, none⟩ (.int .u32 64) = W9 at hm5 ⊢
      clear c3 f3 hm4
      have hcr9 := HCR.out W9 hm5.bel
      have hiY := sizeBlock yl hbl
      have hx1 := size_of_putCells (x := (20 + k, yl)) hbl
      have hx0 := size_of_putCells (x := (0, zeros)) zeros_length
      have hip : (Try.prog.info? 40).map (·.size) = some (putCells (20 + k, yl)).toArray.size := by rw [List.size_toArray]; exact sizePut _ hbl
      have hzp' : (putCells (0, zeros)).toArray.size = (putCells (20 + k, yl)).toArray.size := by rw [hx0, hx1]
      have hone : (putCells (20 + k, yl)).toArray.all (·.oneCell') = true := by rw [List.all_toArray]; exact List.all_eq_true.2 (putCells_one _)
      have hm6 := hm5.alloc (.cells (putCells (20 + k, yl)).toArray 40)
      have w13 := hm5.bel.size
      have n13 := hm5.notin
      clear hm5
      have tok : True := trivial
      go_upto_region 14 with (first
        | (refine Dev.wpList_load_sub rfl 38 _ rfl b (off + k * 257 + 1) rfl (cellsOf yl) _ hcr9 Try.underlying38 rfl hiY ?_)
        | (refine wpList_build_put rfl 72 77 rfl (20 + k) yl hbl rfl rfl ?_)
        | (have _t := tok; refine wpList_store_new rfl 40 _ _ rfl (putCells (20 + k, yl)).toArray _ _ rfl rfl hip hzp' hone ?_; change wpList _ _ _ _ _ (W9.alloc (.cells (putCells (20 + k, yl)).toArray 40)); clear _t tok))
      change Code.wp _ _ _ _ (W9.alloc (.cells (putCells (20 + k, yl)).toArray 40))
      generalize W9.heap.size = b13 at hm6 w13 n13 ⊢
      generalize W9.alloc (.cells (putCells (20 + k, yl)).toArray 40) = U1 at hm6 ⊢
      obtain ⟨pc, hpc⟩ : ∃ pc, pc = (putCells (20 + k, yl)).toArray := ⟨_, rfl⟩
      rw [← hpc] at hm6 hip hzp' hone hx1
      have hnp : ∀ W : World, (Instr.buildSlice 26 1 #[(0, .agg pc)]).run Try.prog W = .ok (.slice (some ⟨W.heap.size, 0, none⟩) 1 1) (W.alloc (.cells pc 40)) := fun W => by rw [hpc]; exact run_buildPut W _ hbl
      have HNP := Lib.hid hnp; clear hnp
      have HPC := Lib.hid hpc; clear hpc
      have HBL := Lib.hid hbl; clear hbl
      clear hcr9 hzp' hx0 hiY n13
      have z4 : IntKind.i64.wrap ((n : Int) - 1) = (n : Int) - 1 := IntWalk.i64_in _ (by omega)
      by_cases hlast : k + 1 = n
      · have hcm := HCM.out
        rw [if_pos hlast] at hcm
        have HCM2 := Lib.hid hcm; clear hcm
        have d14 : ((k : Int) == (n : Int) - 1) = true := by rw [beq_iff_eq]; omega
        have c5 : U1.cell? ⟨b5, 0, none⟩ = some (.int .u8 (f : Int)) := (cell_of_row U1 b5 0 _ _ _ (hm6.at_ (q := b5) (o := xO f pk m ck) (by simp))).trans rfl
        have hfu := Dev.Many.fuse hm6 (i := 0) rfl (z := (z : Int)) (by omega)
        have e1 : Dev.fuseS s (z : Int) = { s with left := (z : Int) } := by
          unfold Dev.fuseS
          rw [if_neg (by omega), if_neg (by rw [HS3.out]; simp)]
        rw [e1] at hfu
        unfold ptr at hfu
        obtain ⟨s1, hs1⟩ : ∃ s1 : DS, s1 = { s with left := (z : Int) } := ⟨_, rfl⟩
        have hsn : s1.n = 64 := by rw [hs1]; exact HS1.out
        have hsp : s1.pend = [] := by rw [hs1]; exact HS2.out
        rw [← hs1] at HCM2 hfu
        clear e1 hm6
        go_wp2_with fail
        refine hfu.mono ?_
        rintro e U2 ⟨rfl, hm7⟩
        clear hfu c5
        replace hm7 : Many w [(p, s1)] [(b13, .cells pc 40), (b3, .cells (cells r1) 25 (0, 0)), (b11, rootO ahead), (b9, rootO last), (b5, xO f pk m ck)] U2 := hm7
        clear hs1
        have r13 : U2.heap[b13]? = some (.cells pc 40 (0, 0)) := hm7.at_ (q := b13) List.mem_cons_self
        have HS1N := Lib.hid hsn; clear hsn
        have HS1P := Lib.hid hsp; clear hsp
        go_upto_region 16 with fail
        have hm8 := hm7.alloc (.cells pc 40)
        have r3 : (U2.alloc (.cells pc 40)).heap[b3]? = some (.cells (cells r1) 25 (0, 0)) := hm8.at_ (q := b3) (o := rootO r1) (by simp [rootO])
        have hpu : Puts (U2.alloc (.cells pc 40)) (some ⟨U2.heap.size, 0, none⟩) [(20 + k, yl)] := Puts.one (by rw [← HPC.out]; exact hm8.at_ (q := U2.heap.size) List.mem_cons_self) ⟨by show 20 + k < _; omega, HBL.out⟩
        have hco := Rot.Many.commit hm8 (i := 0) rfl (by rw [HS1N.out]; decide) (n := 1) (c := 1) (xs := [(20 + k, yl)]) rfl hpu (fun _ a ha => by cases ha; exact .inr ⟨_, List.mem_cons_self⟩) HR1F.out (by rw [HS1P.out]; show 0 + 1 < 4294967290; omega) HCM2.out
        unfold ptr at hco
        clear hpu hm7
        have tok : True := trivial
        go_wp2_with (first
          | (refine wpList_load_row rfl 40 (.tmp 13) rfl b13 rfl _ _ _ _ r13 Try.underlying40 rfl hip ?_)
          | (have _t := tok; refine wpList_new_row rfl 91 rfl pc HNP.out rfl ?_; clear _t tok)
          | (refine wpList_load_row rfl 25 (.tmp 3) rfl b3 rfl _ _ _ _ r3 Try.underlying25 rfl (sizeR _) ?_))
        refine hco.mono ?_
        rintro e U3 ⟨rfl, hm9⟩
        clear hco r13 r3 hm8
        replace hm9 : Many w [(p, s2)] [(b11, .cells (cells ahead) 25 (0, 0)), (b9, rootO last), (b3, rootO r1), (b5, xO f pk m ck)] U3 := Many.less hm9 (by simp [rootO])
        by_cases hz9 : z9 = 2
        · subst hz9
          have hbel := hm9.bel
          clear hm9
          go_wp2_with (with_reducible refine (HH.out _).mono ?_)
          rintro e U4 ⟨rfl, hx⟩
          go_wp2_with fail
          exact HRET.out _ _ _ _ _ _ _ _ _ _ _ _ _ _ _ _ _ _ _ _ _ _ _ _ _ _ _ _ _ _ _ _ _ _ _ _ _ _ _ _ _ _ _ _ _ (hbel.trans (hx.mono hbel.size))
        · have dz : (z9 == (2 : Int)) = false := by rw [beq_eq_false_iff_ne]; exact hz9
          have hnx := HNX.out hz9
          have HNX2 := Lib.hid hnx
          clear hnx hz9
          have o11 : U3.heap[b11]? = some (.cells (cells ahead) 25 (0, 0)) := hm9.at_ List.mem_cons_self
          have o9 : U3.heap[b9]? = some (.cells (cells last) 25 (0, 0)) := hm9.at_ (q := b9) (o := rootO last) (by simp [rootO])
          have hmA := Many.setRow (cs' := cells last) hm9 w11 (HN11.out _ _ _)
          go_upto_region 20 with (first
            | (refine wpList_load_row rfl 25 (.tmp 9) rfl b9 rfl _ _ _ _ o9 Try.underlying25 rfl (sizeR _) ?_)
            | (refine wpList_store_row rfl 25 _ _ rfl b11 _ rfl rfl _ _ o11 (sizeR _) rfl (cells_one _) ?_))
          generalize World.setRow _ b11 (cells last) = U4 at hmA ⊢
          clear o11 o9 hm9
          replace hmA : Many w [(p, s2)] [(b9, .cells (cells last) 25 (0, 0)), (b11, rootO last), (b3, rootO r1), (b5, xO f pk m ck)] U4 := hmA.swap
          have o9 : U4.heap[b9]? = some (.cells (cells last) 25 (0, 0)) := hmA.at_ List.mem_cons_self
          have o3 : U4.heap[b3]? = some (.cells (cells r1) 25 (0, 0)) := hmA.at_ (q := b3) (o := rootO r1) (by simp [rootO])
          have hmB := Many.setRow (cs' := cells r1) hmA w9 (HN9.out _ _ _)
          go_upto_region 10 with (first
            | (refine wpList_load_row rfl 25 (.tmp 3) rfl b3 rfl _ _ _ _ o3 Try.underlying25 rfl (sizeR _) ?_)
            | (refine wpList_store_row rfl 25 _ _ rfl b9 _ rfl rfl _ _ o9 (sizeR _) rfl (cells_one _) ?_))
          generalize World.setRow _ b9 (cells r1) = U5 at hmB ⊢
          clear o9 o3 hmA
          go_wp2_with fail
          go_roundw
          case rel => exact ⟨k + 1, by omega, by go_num, s2, r1, r1, last, hmB.swap, Lib.hid ⟨HR1F.out, HNX2.out.1, HNX2.out.2⟩⟩
          case measure => simp [intOf]; omega
      · have hcm := HCM.out
        rw [if_neg hlast] at hcm
        have HCM2 := Lib.hid hcm; clear hcm
        have d14 : ((k : Int) == (n : Int) - 1) = false := by rw [beq_eq_false_iff_ne]; omega
        obtain ⟨s1, hs1⟩ : ∃ s1, s1 = s := ⟨_, rfl⟩
        have hsn : s1.n = 64 := by rw [hs1]; exact HS1.out
        have hsp : s1.pend = [] := by rw [hs1]; exact HS2.out
        rw [← hs1] at HCM2
        obtain ⟨U2, hU2⟩ : ∃ U2, U2 = U1 := ⟨_, rfl⟩
        have hm7 : Many w [(p, s1)] [(b13, .cells pc 40), (b3, .cells (cells r1) 25 (0, 0)), (b11, rootO ahead), (b9, rootO last), (b5, xO f pk m ck)] U2 := by rw [hs1, hU2]; exact hm6
        rw [← hU2]
        clear hm6 hU2 hs1
        have r13 : U2.heap[b13]? = some (.cells pc 40 (0, 0)) := hm7.at_ (q := b13) List.mem_cons_self
        have HS1N := Lib.hid hsn; clear hsn
        have HS1P := Lib.hid hsp; clear hsp
        go_upto_region 16 with fail
        have hm8 := hm7.alloc (.cells pc 40)
        have r3 : (U2.alloc (.cells pc 40)).heap[b3]? = some (.cells (cells r1) 25 (0, 0)) := hm8.at_ (q := b3) (o := rootO r1) (by simp [rootO])
        have hpu : Puts (U2.alloc (.cells pc 40)) (some ⟨U2.heap.size, 0, none⟩) [(20 + k, yl)] := Puts.one (by rw [← HPC.out]; exact hm8.at_ (q := U2.heap.size) List.mem_cons_self) ⟨by show 20 + k < _; omega, HBL.out⟩
        have hco := Rot.Many.commit hm8 (i := 0) rfl (by rw [HS1N.out]; decide) (n := 1) (c := 1) (xs := [(20 + k, yl)]) rfl hpu (fun _ a ha => by cases ha; exact .inr ⟨_, List.mem_cons_self⟩) HR1F.out (by rw [HS1P.out]; show 0 + 1 < 4294967290; omega) HCM2.out
        unfold ptr at hco
        clear hpu hm7
        have tok : True := trivial
        go_wp2_with (first
          | (refine wpList_load_row rfl 40 (.tmp 13) rfl b13 rfl _ _ _ _ r13 Try.underlying40 rfl hip ?_)
          | (have _t := tok; refine wpList_new_row rfl 91 rfl pc HNP.out rfl ?_; clear _t tok)
          | (refine wpList_load_row rfl 25 (.tmp 3) rfl b3 rfl _ _ _ _ r3 Try.underlying25 rfl (sizeR _) ?_))
        refine hco.mono ?_
        rintro e U3 ⟨rfl, hm9⟩
        clear hco r13 r3 hm8
        replace hm9 : Many w [(p, s2)] [(b11, .cells (cells ahead) 25 (0, 0)), (b9, rootO last), (b3, rootO r1), (b5, xO f pk m ck)] U3 := Many.less hm9 (by simp [rootO])
        by_cases hz9 : z9 = 2
        · subst hz9
          have hbel := hm9.bel
          clear hm9
          go_wp2_with (with_reducible refine (HH.out _).mono ?_)
          rintro e U4 ⟨rfl, hx⟩
          go_wp2_with fail
          exact HRET.out _ _ _ _ _ _ _ _ _ _ _ _ _ _ _ _ _ _ _ _ _ _ _ _ _ _ _ _ _ _ _ _ _ _ _ _ _ _ _ _ _ _ _ _ _ (hbel.trans (hx.mono hbel.size))
        · have dz : (z9 == (2 : Int)) = false := by rw [beq_eq_false_iff_ne]; exact hz9
          have hnx := HNX.out hz9
          have HNX2 := Lib.hid hnx
          clear hnx hz9
          have o11 : U3.heap[b11]? = some (.cells (cells ahead) 25 (0, 0)) := hm9.at_ List.mem_cons_self
          have o9 : U3.heap[b9]? = some (.cells (cells last) 25 (0, 0)) := hm9.at_ (q := b9) (o := rootO last) (by simp [rootO])
          have hmA := Many.setRow (cs' := cells last) hm9 w11 (HN11.out _ _ _)
          go_upto_region 20 with (first
            | (refine wpList_load_row rfl 25 (.tmp 9) rfl b9 rfl _ _ _ _ o9 Try.underlying25 rfl (sizeR _) ?_)
            | (refine wpList_store_row rfl 25 _ _ rfl b11 _ rfl rfl _ _ o11 (sizeR _) rfl (cells_one _) ?_))
          generalize World.setRow _ b11 (cells last) = U4 at hmA ⊢
          clear o11 o9 hm9
          replace hmA : Many w [(p, s2)] [(b9, .cells (cells last) 25 (0, 0)), (b11, rootO last), (b3, rootO r1), (b5, xO f pk m ck)] U4 := hmA.swap
          have o9 : U4.heap[b9]? = some (.cells (cells last) 25 (0, 0)) := hmA.at_ List.mem_cons_self
          have o3 : U4.heap[b3]? = some (.cells (cells r1) 25 (0, 0)) := hmA.at_ (q := b3) (o := rootO r1) (by simp [rootO])
          have hmB := Many.setRow (cs' := cells r1) hmA w9 (HN9.out _ _ _)
          go_upto_region 10 with (first
            | (refine wpList_load_row rfl 25 (.tmp 3) rfl b3 rfl _ _ _ _ o3 Try.underlying25 rfl (sizeR _) ?_)
            | (refine wpList_store_row rfl 25 _ _ rfl b9 _ rfl rfl _ _ o9 (sizeR _) rfl (cells_one _) ?_))
          generalize World.setRow _ b9 (cells r1) = U5 at hmB ⊢
          clear o9 o3 hmA
          go_wp2_with fail
          go_roundw
          case rel => exact ⟨k + 1, by omega, by go_num, s2, r1, r1, last, hmB.swap, Lib.hid ⟨HR1F.out, HNX2.out.1, HNX2.out.2⟩⟩
          case measure => simp [intOf]; omega
    · have hkk : k = n := by omega
      subst hkk
      have i1 : ¬ (k : Int) < (k : Int) := by omega
      have he := HI.out.2.2 rfl
      have HE := Lib.hid he
      clear he HI
      go_wp2_with fail
      exact HEX.out _ _ _ _ _ _ _ _ _ _ _ _ _ _ _ _ _ _ _ _ _ _ _ _ _ _ _ _ _ _ _ _ _ _ _ _ _ _ _ _ _ _ _ _ _ _ _ _ _ hm HE.out

end Go.Proofs.Ytdadcengelfmhaa.Rot

/-
  The walk of the law RootChain, by the head's contract.
-/
namespace Go.Proofs.Ytdadcengelfmhaa.Rot
open Go.RowKit RowLaw Crc
set_option maxRecDepth 100000
open Go.Proofs.Ytdadcengelfmhaa.Slt (Rt cells rootO infoR sizeR cells_one IsRt eqB eqB_iff run_eqRoot noGuardR)
open Go.Proofs.Ytdadcengelfmhaa.Dev (Dev DS ptr Many Live newS putCells readB crashS New_more Keeps)

section
variable {w : World} {r0 : Rt} {pa : Option Addr} {cap : Nat} {xs : List (Nat × List UInt8)} {f : Nat} {pk : Option Addr} {ck : Nat} {ks : List (Nat × Nat)}
set_option linter.unusedSimpArgs false in
set_option maxHeartbeats 6400000 in
theorem chain_far (hfar : 8 < xs.length ∨ xs.length = 0 ∨ 100 < ks.length) (hxl : xs.length ≤ 9223372036854775807) (hkl : ks.length ≤ 9223372036854775807)
    (hH : ∀ W, Calls Try.prog 5 #[] W fun e w' => e = .returned (.bool true) ∧ Below W.heap.size W w') :
    Calls Try.prog 3 #[.agg (cells r0), .slice pa xs.length cap, .agg (xV f pk ks.length ck)] w fun e w' => e = .returned (.bool true) ∧ Below w.heap.size w w' := by
  have HH := Lib.hid hH
  clear hH
  generalize xs.length = n at hfar hxl ⊢
  generalize ks.length = m at hfar hkl ⊢
  have hK : Kept w [(w.heap.size + 1, xO f pk m ck), (w.heap.size, rootO r0)] ((w.alloc (rootO r0)).alloc (xO f pk m ck)) := by
    have h := ((Kept.start w).alloc (rootO r0)).alloc (xO f pk m ck)
    rw [show (w.alloc (rootO r0)).heap.size = w.heap.size + 1 from by simp] at h
    exact h
  go_enter Try.func3, Try.ntmps3
  go_upto_region 1 with fail
  change Code.wp _ _ _ _ ((w.alloc (rootO r0)).alloc (xO f pk m ck))
  generalize (w.alloc (rootO r0)).alloc (xO f pk m ck) = W0 at hK ⊢
  generalize w.heap.size + 1 = b5 at hK ⊢
  go_wp2_with fail
  refine (New_more W0 hK.bel (fun x hx => ⟨hK.at_ (q := x.1) (o := x.2) hx, hK.lt_ (q := x.1) (o := x.2) hx⟩) 64 (by omega) (by omega)).mono ?_
  rintro e W5 ⟨p, rfl, hlive⟩
  have hm := Many.of_live_more hlive
  have ck1 : W5.cell? ⟨b5, 1, none⟩ = some (.slice pk m ck) := (cell_of_row W5 b5 1 _ _ _ (hm.at_ (q := b5) (o := xO f pk m ck) (by simp))).trans rfl
  have hbel := hm.bel
  clear hlive hK hm
  unfold ptr
  by_cases h1 : 8 < n
  · have i1 : (8 : Int) < (n : Int) := by omega
    clear hfar h1
    go_wp2_with (with_reducible refine (HH.out _).mono ?_)
    rintro e W6 ⟨rfl, hx⟩
    go_wp2_with fail
    go_ret
    exact ⟨rfl, hbel.trans (hx.mono hbel.size)⟩
  · by_cases h2 : n = 0
    · subst h2
      clear hfar h1
      go_wp2_with (with_reducible refine (HH.out _).mono ?_)
      rintro e W6 ⟨rfl, hx⟩
      go_wp2_with fail
      go_ret
      exact ⟨rfl, hbel.trans (hx.mono hbel.size)⟩
    · have i1 : ¬ (8 : Int) < (n : Int) := by omega
      have i0 : ((n : Int) == 0) = false := by rw [beq_eq_false_iff_ne]; omega
      have i2 : (100 : Int) < (m : Int) := by omega
      clear hfar h1 h2
      go_wp2_with (with_reducible refine (HH.out _).mono ?_)
      rintro e W6 ⟨rfl, hx⟩
      go_wp2_with fail
      go_ret
      exact ⟨rfl, hbel.trans (hx.mono hbel.size)⟩

set_option linter.unusedSimpArgs false in
set_option maxHeartbeats 12800000 in
theorem chain_main (hr0 : r0.Fits) (hpu : Puts w pa xs) (hn0 : 0 < xs.length) (hn8 : xs.length ≤ 8) (hf : f < 256) (hkp : Keeps w pk ks) (hko : ks ≠ [] → ∀ a, pk = some a → a.block < w.heap.size) (hk100 : ks.length ≤ 100)
    (hH : ∀ W, Calls Try.prog 5 #[] W fun e w' => e = .returned (.bool true) ∧ Below W.heap.size W w') :
    Calls Try.prog 3 #[.agg (cells r0), .slice pa xs.length cap, .agg (xV f pk ks.length ck)] w fun e w' => e = .returned (.bool true) ∧ Below w.heap.size w w' := by
  obtain ⟨kk, hfmt⟩ := format64
  have hF : Rot.formatF (newS 64) = (s64 kk, (fresh 64, 0)) := hfmt
  have HF := Lib.hid hF
  clear hF hfmt
  obtain ⟨bs, hbs⟩ : ∃ bs : Nat → List UInt8, ∀ j (hj : j < xs.length), bs j = xs[j].2 := ⟨fun j => if h : j < xs.length then xs[j].2 else [], fun j hj => dif_pos hj⟩
  have hC0 := Chain.start kk bs
  have HBS := Lib.hid hbs; clear hbs
  have HC0 := Lib.hid hC0; clear hC0
  have HR0 := Lib.hid hr0; clear hr0
  have HPU := Lib.hid hpu; clear hpu
  have HKP := Lib.hid hkp; clear hkp
  have HKO := Lib.hid hko; clear hko
  obtain ⟨n, hn⟩ : ∃ n, n = xs.length := ⟨_, rfl⟩
  obtain ⟨m, hm0⟩ : ∃ m, m = ks.length := ⟨_, rfl⟩
  rw [← hn] at hn8 hn0 ⊢
  rw [← hm0] at hk100 ⊢
  have HN := Lib.hid hn; clear hn
  have HM := Lib.hid hm0; clear hm0
  have HH := Lib.hid hH
  clear hH
  have i8 : ¬ (8 : Int) < (n : Int) := by omega
  have i0 : ((n : Int) == 0) = false := by rw [beq_eq_false_iff_ne]; omega
  have i100 : ¬ (100 : Int) < (m : Int) := by omega
  have hK : Kept w [(w.heap.size + 1, xO f pk m ck), (w.heap.size, rootO r0)] ((w.alloc (rootO r0)).alloc (xO f pk m ck)) := by
    have h := ((Kept.start w).alloc (rootO r0)).alloc (xO f pk m ck)
    rw [show (w.alloc (rootO r0)).heap.size = w.heap.size + 1 from by simp] at h
    exact h
  go_enter Try.func3, Try.ntmps3
  go_upto_region 1 with fail
  change Code.wp _ _ _ _ ((w.alloc (rootO r0)).alloc (xO f pk m ck))
  generalize (w.alloc (rootO r0)).alloc (xO f pk m ck) = W0 at hK ⊢
  have n35 : w.heap.size + 1 ≠ w.heap.size := by omega
  have w3 : w.heap.size ≤ w.heap.size := Nat.le_refl _
  generalize w.heap.size + 1 = b5 at hK n35 ⊢
  obtain ⟨b3, hb3⟩ : ∃ b3, b3 = w.heap.size := ⟨_, rfl⟩
  have hK' : Kept w [(b5, xO f pk m ck), (b3, rootO r0)] W0 := by rw [hb3]; exact hK
  have n35' : b3 ≠ b5 := by rw [hb3]; exact n35.symm
  have w3' : w.heap.size ≤ b3 := by rw [hb3]; exact w3
  rw [← hb3]
  clear hb3 hK n35 w3
  go_wp2_with fail
  refine (New_more W0 hK'.bel (fun x hx => ⟨hK'.at_ (q := x.1) (o := x.2) hx, hK'.lt_ (q := x.1) (o := x.2) hx⟩) 64 (by omega) (by omega)).mono ?_
  rintro e W5 ⟨p, rfl, hlive⟩
  have hm := Many.of_live_more hlive
  have ck1 : W5.cell? ⟨b5, 1, none⟩ = some (.slice pk m ck) := (cell_of_row W5 b5 1 _ _ _ (hm.at_ (q := b5) (o := xO f pk m ck) (by simp))).trans rfl
  clear hlive hK'
  unfold ptr
  go_wp2_with fail
  refine (Rot.Many.format hm (i := 0) rfl (by decide) (by decide) HF.out).mono ?_
  rintro e W6 ⟨rfl, hx⟩
  have n9 : ∀ x ∈ [(b5, xO f pk m ck), (b3, rootO r0)], x.1 ≠ W6.heap.size := hx.notin
  have w9 := hx.bel.size
  replace hm := hx.alloc (rootO (fresh 64))
  clear hx ck1
  have tok : True := trivial
  go_upto_region 5 with (first | (have _t := tok; refine wpList_store_new rfl 25 _ _ rfl (cells (fresh 64)) _ _ rfl rfl (sizeR _) rfl (cells_one _) ?_; change wpList _ _ _ _ _ (W6.alloc (rootO (fresh 64))); clear _t tok))
  change Code.wp _ _ _ _ (W6.alloc (rootO (fresh 64)))
  generalize W6.heap.size = b9 at hm n9 w9 ⊢
  generalize W6.alloc (rootO (fresh 64)) = W7 at hm ⊢
  replace hm : Many w [(p, s64 kk)] [(b9, rootO (fresh 64)), (b5, xO f pk m ck), (b3, rootO r0)] W7 := hm
  have r9 : W7.heap[b9]? = some (.cells (cells (fresh 64)) 25 (0, 0)) := hm.at_ (q := b9) (o := rootO (fresh 64)) List.mem_cons_self
  have n11 : ∀ x ∈ [(b9, rootO (fresh 64)), (b5, xO f pk m ck), (b3, rootO r0)], x.1 ≠ W7.heap.size := hm.notin
  have w11 := hm.bel.size
  replace hm := hm.alloc (rootO (fresh 64))
  have tok : True := trivial
  go_upto_region 8 with (first
    | (refine wpList_load_row rfl 25 (.tmp 9) rfl b9 rfl _ _ _ _ r9 Try.underlying25 rfl (sizeR _) ?_)
    | (have _t := tok; refine wpList_store_new rfl 25 _ _ rfl (cells (fresh 64)) _ _ rfl rfl (sizeR _) rfl (cells_one _) ?_; change wpList _ _ _ _ _ (W7.alloc (rootO (fresh 64))); clear _t tok))
  change Code.wp _ _ _ _ (W7.alloc (rootO (fresh 64)))
  generalize W7.heap.size = b11 at hm n11 w11 ⊢
  generalize W7.alloc (rootO (fresh 64)) = W8 at hm ⊢
  have d9 : b9 ≠ b5 ∧ b9 ≠ b11 ∧ b9 ≠ b3 := ⟨fun e => n9 _ (List.mem_cons_self) e.symm, fun e => n11 _ (List.mem_cons_self) e, fun e => n9 (b3, rootO r0) (by simp) e.symm⟩
  have d11 : b11 ≠ b5 ∧ b11 ≠ b3 := ⟨fun e => n11 (b5, xO f pk m ck) (by simp) e.symm, fun e => n11 (b3, rootO r0) (by simp) e.symm⟩
  clear r9 n9 n11
  have hmS : Many w [(p, s64 kk)] [(b11, rootO (fresh 64)), (b9, rootO (fresh 64)), (b3, rootO r0), (b5, xO f pk m ck)] W8 := hm.less (by simp)
  clear hm i8 i0 i100
  go_wp2_with fail
  refine chain_commits (bs := bs) HN.out hn0 hn8 HPU.out hf HBS.out w3' w9 w11 ⟨n35', fun e => d9.2.2 e.symm, fun e => d11.2 e.symm⟩ ⟨d9.1, d9.2.1⟩ d11.1 HR0.out HC0.out HH.out hmS ?_ ?_
  · clear hmS HR0 HC0 d9 d11 n35' w3' w9 w11
    intro _ _ _ _ _ _ _ _ _ _ _ _ _ _ _ _ _ _ _ _ _ _ _ _ _ _ _ _ _ _ _ _ _ _ _ _ _ _ _ _ _ _ _ _ W s r last ahead hm hE
    obtain ⟨he1, he2, he3, he4, he5, he6⟩ := hE ks
    clear hE
    have ck1 : W.cell? ⟨b5, 1, none⟩ = some (.slice pk m ck) := (cell_of_row W b5 1 _ _ _ (hm.at_ (q := b5) (o := xO f pk m ck) (by simp))).trans rfl
    have HE1 := Lib.hid he1; have HE2 := Lib.hid he2; have HE3 := Lib.hid he3; have HE4 := Lib.hid he4; have HE5 := Lib.hid he5; have HE6 := Lib.hid he6
    clear he1 he2 he3 he4 he5 he6
    go_wp2_with fail
    refine (Dev.Many.crash hm (i := 0) rfl (n := m) (cap := ck) HM.out (by rw [← HM.out]; omega) (Keeps.below HKP.out hm.bel) (fun hne a ha => .inl (HKO.out hne a ha))).mono ?_
    rintro e V5 ⟨rfl, h6⟩
    clear ck1 hm
    replace h6 : Many w [(p, crashS s ks)] [(b11, rootO ahead), (b9, rootO last), (b3, rootO r), (b5, xO f pk m ck)] V5 := h6
    generalize crashS s ks = s2 at h6 HE1 HE2 HE3 HE5 HE6
    obtain ⟨mm, hmm, hor⟩ : ∃ mm, mountS s2 = some mm ∧ (mm = ahead ∨ mm = last) := by
      rcases HE1.out with h | h
      · exact ⟨_, h, .inl rfl⟩
      · exact ⟨_, h, .inr rfl⟩
    have HMM := Lib.hid hmm; clear hmm HE1
    go_wp2_with fail
    refine (Rot.Many.mount h6 (i := 0) rfl (by rw [HE2.out]; decide) (by rw [HE3.out]; decide) HMM.out).mono ?_
    rintro e V6 ⟨rfl, hx⟩
    have hm := hx.alloc (rootO mm)
    clear hx h6
    have tok : True := trivial
    go_upto_region 23 with (first | (have _t := tok; refine wpList_store_new rfl 25 _ _ rfl (cells mm) _ _ rfl rfl (sizeR _) rfl (cells_one _) ?_; change wpList _ _ _ _ _ (V6.alloc (rootO mm)); clear _t tok))
    change Code.wp _ _ _ _ (V6.alloc (rootO mm))
    generalize V6.heap.size = b15 at hm ⊢
    generalize V6.alloc (rootO mm) = V7 at hm ⊢
    replace hm : Many w [(p, s2)] [(b15, rootO mm), (b11, rootO ahead), (b9, rootO last), (b3, rootO r), (b5, xO f pk m ck)] V7 := hm
    have r15 : V7.heap[b15]? = some (.cells (cells mm) 25 (0, 0)) := hm.at_ (q := b15) (o := rootO mm) List.mem_cons_self
    have r9 : V7.heap[b9]? = some (.cells (cells last) 25 (0, 0)) := hm.at_ (q := b9) (o := rootO last) (by simp)
    have r11 : V7.heap[b11]? = some (.cells (cells ahead) 25 (0, 0)) := hm.at_ (q := b11) (o := rootO ahead) (by simp)
    have hg2 := fun (W : World) (op : BinOp) (x y : Operand) (xs ys : Array Value) => run_eqGuard_agg (P := Try.prog) W op 25 x y xs ys noGuardR
    have e1 : ∀ W (s t : Rt), (Op.equalIn 10000 25 (.agg (cells s)) (.agg (cells t))).run Try.prog W = .ok (eqB s t) W := fun W s t => run_eqRoot W s t
    go_cut [120] from 109 (fun b wx => b = .bool false ∧ Many w [(p, s2)] [(b15, rootO mm), (b11, rootO ahead), (b9, rootO last), (b3, rootO r), (b5, xO f pk m ck)] wx)
    case first =>
      by_cases hml : mm = last
      · have e2 : eqB mm last = true := eqB_iff.2 hml
        clear hml hor
        go_wp2_with (first
          |       (refine wpList_load_want (by rfl) 25 (.tmp 15) rfl b15 rfl _ _ _ _ r15 Try.underlying25 rfl (sizeR _) ?_)
          | (refine wpList_load_want (by rfl) 25 (.tmp 9) rfl b9 rfl _ _ _ _ r9 Try.underlying25 rfl (sizeR _) ?_)
          | (refine wpList_load_want (by rfl) 25 (.tmp 11) rfl b11 rfl _ _ _ _ r11 Try.underlying25 rfl (sizeR _) ?_))
        go_meet
        case rel => exact ⟨rfl, hm⟩
      · have e2 : eqB mm last = false := by rw [Bool.eq_false_iff]; exact fun h => hml (eqB_iff.1 h)
        have e3 : eqB mm ahead = true := eqB_iff.2 (hor.resolve_right hml)
        clear hml hor
        go_wp2_with (first
          |       (refine wpList_load_want (by rfl) 25 (.tmp 15) rfl b15 rfl _ _ _ _ r15 Try.underlying25 rfl (sizeR _) ?_)
          | (refine wpList_load_want (by rfl) 25 (.tmp 9) rfl b9 rfl _ _ _ _ r9 Try.underlying25 rfl (sizeR _) ?_)
          | (refine wpList_load_want (by rfl) 25 (.tmp 11) rfl b11 rfl _ _ _ _ r11 Try.underlying25 rfl (sizeR _) ?_))
        go_meet
        case rel => exact ⟨rfl, hm⟩
    case rest =>
      clear hm r15 r9 r11
      obtain ⟨rfl, hm⟩ := hcut
      have hr : ∀ j (hj : j < xs.length), readB s2 (20 + j) ≠ xs[j].2 → j + 1 = n ∧ mm ≠ last := fun j hj hne => by
        by_cases hjn : j + 1 < n
        · exact absurd ((HE5.out j hjn).trans (HBS.out j hj)) hne
        · have hj1 : j + 1 = n := by have := HN.out; omega
          refine ⟨hj1, fun e => hne ?_⟩
          exact (HE6.out (by rw [HMM.out, e]) j hj1).trans (HBS.out j hj)
      clear e1 hg2 hor
      have m15 : (b15, rootO mm) ∈ [(b15, rootO mm), (b11, rootO ahead), (b9, rootO last), (b3, rootO r), (b5, xO f pk m ck)] := by simp
      have m9 : (b9, rootO last) ∈ [(b15, rootO mm), (b11, rootO ahead), (b9, rootO last), (b3, rootO r), (b5, xO f pk m ck)] := by simp
      go_wp2_with fail
      refine chain_reads HN.out hn8 HPU.out (hi := rfl) ⟨HE2.out, HE3.out⟩ m9 m15 hr hm ?_
      clear hm hr m15 m9
      intro _ _ _ _ _ _ _ _ _ _ _ _ _ _ _ _ _ _ _ _ _ _ _ _ _ _ _ _ _ _ _ _ _ _ _ _ W hm
      have hbel := hm.bel
      clear hm
      go_wp2_with (with_reducible refine (HH.out _).mono ?_)
      rintro e V9 ⟨rfl, hx⟩
      go_wp2_with fail
      go_ret
      exact ⟨rfl, hbel.trans (hx.mono hbel.size)⟩
  · clear hmS HR0 HC0
    intro _ _ _ _ _ _ _ _ _ _ _ _ _ _ _ _ _ _ _ _ _ _ _ _ _ _ _ _ _ _ _ _ _ _ _ _ _ _ _ _ _ _ _ _ W hbel
    go_wp2_with fail
    go_ret
    exact ⟨rfl, hbel⟩

/-- the law, at any arguments -/
theorem chain_w (hr0 : r0.Fits) (hpu : Puts w pa xs) (hxl : xs.length ≤ 9223372036854775807) (hf : f < 256) (hkp : Keeps w pk ks) (hko : ks ≠ [] → ∀ a, pk = some a → a.block < w.heap.size) (hkl : ks.length ≤ 9223372036854775807) :
    Calls Try.prog 3 #[.agg (cells r0), .slice pa xs.length cap, .agg (xV f pk ks.length ck)] w fun e w' => e = .returned (.bool true) ∧ Below w.heap.size w w' := by
  by_cases h1 : xs.length ≤ 8
  · by_cases h3 : xs.length = 0
    · exact chain_far (.inr (.inl h3)) hxl hkl head_any
    · by_cases h2 : ks.length ≤ 100
      · exact chain_main hr0 hpu (by omega) h1 hf hkp hko h2 head_any
      · exact chain_far (.inr (.inr (by omega))) hxl hkl head_any
  · exact chain_far (.inl (by omega)) hxl hkl head_any
end

end Go.Proofs.Ytdadcengelfmhaa.Rot

