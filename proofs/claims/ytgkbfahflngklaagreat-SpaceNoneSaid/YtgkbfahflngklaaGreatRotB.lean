import Derived.Test.YtgkbfahflngklaaGreatPln
import Derived.Test.YtgkbfahflngklaaGreatDevGreat
import Derived.Test.YtgkbfahflngklaaGreatSlt1
import Derived.Test.YtgkbfahflngklaaGreatRotA
import Derived.Test.YtgkbfahflngklaaGreatBlk
namespace Go.Proofs.YtgkbfahflngklaaGreat.Rot
open Go.RowKit RowLaw
set_option maxRecDepth 100000
open Go.Proofs.YtgkbfahflngklaaGreat.Slt (Rt cells rootO infoR sizeR cells_one IsRt)
open Go.Proofs.YtgkbfahflngklaaGreat.Dev (Dev DS ptr)
theorem pages_any {n k:Nat} (h:n+k < 4294967296) (hk:0 < k) (w:World):Calls Tryz.prog 150 #[.int .u32 (n:Int),.int .u32 (k:Int)] w fun e w'=>e=.returned (.int .u32 (((n+k - 1) / k:Nat):Int))∧w'=w:=by
 have hk0:((k:Int) == 0)=false:=by simp; omega
 have he:((n:Int)+(k:Int) - 1) / (k:Int)=(((n+k - 1) / k:Nat):Int):=by
  have h2:((n:Int)+(k:Int) - 1)=((n+k - 1:Nat):Int):=by omega
  rw [h2,←Int.natCast_ediv]
 have HE:=Lib.hid he
 clear he
 go_enter Tryz.func150,Tryz.ntmps150
 go_wp2
 go_ret
 exact ⟨congrArg (fun z=>Ending.returned (Value.int .u32 z)) HE.out,rfl⟩
set_option maxHeartbeats 400000 in
theorem Layout_yes {n:Nat} (h:planOk n=true) (w:World):Calls Tryz.prog 71 #[.int .u32 (n:Int)] w fun e w'=>e=.returned (.tuple #[.agg (planCells (tlN n) (pkN n) (fsN n)),.int .i64 0])∧Below w.heap.size w w':=by
  have hzp:=(zero_of_info infoPlan).1
  obtain ⟨h64,hbig⟩:64≤n∧n≤1048576:=by simpa [planOk] using h
  obtain ⟨f1,f2,f3,f4,f5,f6,f7,f8,f9⟩:=plan_facts h64 hbig
  have hup1:∀ W,Calls Tryz.prog 150 #[.int .u32 (n:Int),.int .u32 64] W fun e w'=>e=.returned (.int .u32 (tlN n:Nat))∧w'=W:=fun W=>by
    have:=pages_any (n:=n) (k:=64) (by omega) (by omega) W
    exact this
  have hup2:∀ W,Calls Tryz.prog 150 #[.int .u32 (tlN n:Int),.int .u32 1024] W fun e w'=>e=.returned (.int .u32 (pkN n:Nat))∧w'=W:=fun W=>by
    have:=pages_any (n:=tlN n) (k:=1024) (by omega) (by omega) W
    exact this
  have hfs:(2:Int)+2 * (pkN n:Int)+2 * (tlN n:Int)=(fsN n:Nat):=by unfold fsN; omega
  have hR:∀ (cs:Array Value),(w.alloc (.cells cs 82)).heap[w.heap.size]? = some (.cells cs 82 (0,0)):=fun cs=>heap_alloc_new w _
  have hbel:∀ o:Obj,Below w.heap.size w (w.alloc o):=fun o=>Below.alloc (Below.refl _ _) (Nat.le_refl _) o
  go_enter Tryz.func71,Tryz.ntmps71
  go_wp2_with (first
    | (with_reducible refine (hup1 _).mono ?_; rintro e W1 ⟨rfl,rfl⟩)
    | (with_reducible refine (hup2 _).mono ?_; rintro e W1 ⟨rfl,rfl⟩)
    | (refine wpList_store_new rfl 82 (.tmp 2) (.tmp 25) rfl #[.int .u32 (tlN n:Int),.int .u32 (pkN n:Int),.int .u32 (2+2 * ((pkN n:Int)+(tlN n:Int)))] _ _ rfl rfl (sizePlan 0 0 0) rfl (by simp [Value.oneCell']) ?_))
  have hc:(#[.int .u32 (tlN n:Int),.int .u32 (pkN n:Int),.int .u32 (2+2 * ((pkN n:Int)+(tlN n:Int)))]:Array Value)=planCells (tlN n) (pkN n) (fsN n):=by
    unfold planCells
    rw [←hfs]
    congr 5
    omega
  rw [hc]
  exact bodyPost_ret (results_row_tmp rfl _ _ _ _ _ _ _ rfl (hR _) Tryz.underlying82 rfl (sizePlan _ _ _)) rfl ⟨rfl,hbel _⟩
section
variable {w:World} {p:Nat} {B:List Nat} {s:DS}
theorem Size_any (h:Dev w p B s):Calls Tryz.prog 67 #[ptr p] w fun e w'=>e=.returned (.int .u32 (s.n:Int))∧w'=w:=by
 obtain ⟨bm,pv,h⟩:=h
 have c0:w.cell? ⟨p,0,none⟩=some (.int .u32 (s.n:Int)):=h.cell 0
 clear h
 have hp:(binOp .eql 25 (.pointer (some ⟨p,0,none⟩)) (.pointer none)).run Tryz.prog w=.ok (.bool false) w:=by kernel_rfl
 unfold ptr
 go_enter Tryz.func67,Tryz.ntmps67
 go_wp2
 go_ret
 exact ⟨rfl,rfl⟩
theorem exists_any (h:Dev w p B s):Calls Tryz.prog 65 #[ptr p] w fun e w'=>e=.returned (.bool true)∧w'=w:=by
 have hn:((s.n:Int) != 0)=true:=by obtain ⟨_,_,h⟩:=h; have:=h.okN; simp; omega
 have hS:=Size_any h
 go_enter Tryz.func65,Tryz.ntmps65
 go_wp2_with (with_reducible refine hS.mono ?_; rintro e W1 ⟨rfl,rfl⟩)
 go_ret
 exact ⟨rfl,rfl⟩
end
theorem home_any (r:Rt) (w:World):Calls Tryz.prog 149 #[.agg (cells r)] w fun e w'=>e=.returned (.int .u32 ((r.gen % 2:Nat):Int))∧Below w.heap.size w w':=by
 have hb:Below w.heap.size w (w.alloc (.cells (cells r) 31)):=(Below.refl _ _).alloc (Nat.le_refl _) _
 have c0:=(IsRt.new w r).gen
 have hm:(r.gen:Int) % 2=((r.gen % 2:Nat):Int):=by omega
 have HM:=Lib.hid hm
 clear hm
 go_enter Tryz.func149,Tryz.ntmps149
 go_upto_region 1 with fail
 generalize w.alloc (Obj.cells (cells r) 31)=W at c0 hb ⊢
 go_wp2
 go_ret
 exact ⟨congrArg (fun z=>Ending.returned (Value.int .u32 z)) HM.out,hb⟩
end Go.Proofs.YtgkbfahflngklaaGreat.Rot
namespace Go.Proofs.YtgkbfahflngklaaGreat.Rot
open Go.RowKit RowLaw
set_option maxRecDepth 100000
open Go.Proofs.YtgkbfahflngklaaGreat.Slt (Rt cells rootO infoR sizeR cells_one IsRt mayB May_any)
open Go.Proofs.YtgkbfahflngklaaGreat.Dev (Dev DS ptr)
theorem run_buildRoot (W:World) (a b c d e:Int):(Instr.build 31 #[(0,.int .u64 a),(1,.int .u32 b),(4,.int .u32 c),(5,.int .u32 d),(6,.int .u32 e)]).run Tryz.prog W=.ok (.agg #[.int .u64 a,.int .u32 b,.int .u32 0,.int .u32 0,.int .u32 c,.int .u32 d,.int .u32 e,.int .u8 0]) W:=by
 go_simp
set_option maxHeartbeats 800000 in
theorem first_any {n:Nat} (h:planOk n=true) (w:World):Calls Tryz.prog 66 #[.int .u32 (n:Int)] w fun e w'=>e=.returned (.agg (cells (fresh n)))∧Below w.heap.size w w':=by
  have hzp:=(zero_of_info infoPlan).1
  have hzr:=(zero_of_info infoR).1
  obtain ⟨h64,hbig⟩:64≤n∧n≤1048576:=by simpa [planOk] using h
  obtain ⟨f1,f2,f3,f4,f5,f6,f7,f8,f9⟩:=plan_facts h64 hbig
  have hL:=Layout_yes h
  have hb:=fun W=>run_buildRoot W 1 n ((n:Int) - fsN n) 1 (fsN n)
  have hc:cells (fresh n)=#[.int .u64 1,.int .u32 (n:Int),.int .u32 0,.int .u32 0,.int .u32 ((n:Int) - (fsN n:Nat)),.int .u32 1,.int .u32 (fsN n:Nat),.int .u8 0]:=by
    unfold cells fresh
    rw [show ((n - fsN n:Nat):Int)=(n:Int) - (fsN n:Nat) from by omega]
    rfl
  rw [hc]
  clear f1 f3 f4 f5 f6 f7 f8 f9 hc
  generalize tlN n=t at *
  generalize pkN n=p at *
  generalize fsN n=f at *
  have hi:(Tryz.prog.info? 31).map (·.size)=some (#[.int .u64 1,.int .u32 (n:Int),.int .u32 0,.int .u32 0,.int .u32 ((n:Int) - (f:Int)),.int .u32 1,.int .u32 (f:Int),.int .u8 0]:Array Value).size:=sizeR Slt.nil
  have hK:=(Kept.start w).alloc (rootO Slt.nil)
  go_enter Tryz.func66,Tryz.ntmps66
  go_wp2_with fail
  change Calls _ _ _ (w.alloc (rootO Slt.nil)) _
  refine (hL _).mono ?_
  rintro e W1 ⟨rfl,hx⟩
  have hK1:=(hK.below hx).alloc (planO t p f)
  clear hx hK
  have tok:True:=trivial
  go_wp2_with (first
    | (have _t:=tok; refine wpList_store_new rfl 82 _ _ rfl (planCells t p f) _ _ rfl rfl (sizePlan t p f) rfl (planCells_one t p f) ?_; change wpList _ _ _ _ _ (W1.alloc (planO t p f)); generalize hW2:W1.alloc (planO t p f)=W2 at hK1 ⊢; clear hW2; have c2:W2.cell? ⟨W1.heap.size,2,none⟩=some (.int .u32 (f:Int)):=(cell_of_row W2 W1.heap.size 2 _ _ _ (hK1.at_ (q:=W1.heap.size) (o:=planO t p f) (by simp))).trans rfl; have hR:W2.heap[w.heap.size]? = some (.cells (cells Slt.nil) 31 (0,0)):=hK1.at_ (q:=w.heap.size) (o:=rootO Slt.nil) (by simp); clear _t tok)
    | (refine wpList_store_row rfl 31 _ _ rfl w.heap.size #[.int .u64 1,.int .u32 (n:Int),.int .u32 0,.int .u32 0,.int .u32 ((n:Int) - (f:Int)),.int .u32 1,.int .u32 (f:Int),.int .u8 0] rfl rfl _ _ hR hi rfl (by simp [Value.oneCell']) ?_))
  exact bodyPost_ret (results_cell_row rfl _ _ _ _ _ _ _ rfl (setRow_heap _ _ _ _ _ _ hR) Tryz.underlying31 rfl hi) rfl ⟨rfl,Dev.below_row hK1.bel (Nat.le_refl _)⟩
set_option maxHeartbeats 6400000 in
theorem mayBe_any {n:Nat} (h:planOk n=true) (r:Rt) (w:World):Calls Tryz.prog 86 #[.agg (cells r),.int .u32 (n:Int)] w fun e w'=>e=.returned (.bool (mayR r n))∧Below w.heap.size w w':=by
  have hzp:=(zero_of_info infoPlan).1
  obtain ⟨h64,hbig⟩:64≤n∧n≤1048576:=by simpa [planOk] using h
  obtain ⟨-,f2,-,-,-,f6,-,-,-⟩:=plan_facts h64 hbig
  have hL:=Layout_yes h
  have hM:=May_any r
  obtain ⟨ans,ha⟩:∃ ans,ans=mayR r n:=⟨_,rfl⟩
  rw [←ha]
  unfold mayR at ha
  generalize tlN n=t at *
  generalize pkN n=p at *
  generalize fsN n=f at *
  generalize mayB r=m at *
  have HA:=Lib.hid ha
  clear ha
  have hK:=(Kept.start w).alloc (rootO r)
  clear h
  go_enter Tryz.func86,Tryz.ntmps86
  go_wp2_with fail
  change Calls _ _ _ (w.alloc (rootO r)) _
  refine (hL _).mono ?_
  rintro e W1 ⟨rfl,hx⟩
  have hK1:=(hK.below hx).alloc (planO t p f)
  clear hx hK hL
  have tok:True:=trivial
  go_wp2_with (first
    | (have _t:=tok; refine wpList_store_new rfl 82 _ _ rfl (planCells t p f) _ _ rfl rfl (sizePlan t p f) rfl (planCells_one t p f) ?_; change wpList _ _ _ _ _ (W1.alloc (planO t p f)); generalize hW2:W1.alloc (planO t p f)=W2 at hK1 ⊢; clear hW2; have hR:W2.heap[w.heap.size]? = some (.cells (cells r) 31 (0,0)):=hK1.at_ (q:=w.heap.size) (o:=rootO r) (by simp); clear _t tok)
    | (refine wpList_load_row rfl 31 _ rfl w.heap.size rfl _ _ _ _ hR Tryz.underlying31 rfl (sizeR r) ?_)
    | (with_reducible refine (hM _).mono ?_))
  rintro e W3 ⟨rfl,hx⟩
  have hK3:=hK1.below hx
  clear hx hM hR hK1
  have hb:=hK3.bel
  have hC:IsRt W3 w.heap.size r:=hK3.at_ (q:=w.heap.size) (o:=rootO r) (by simp)
  have hP:W3.heap[W1.heap.size]? = some (.cells (planCells t p f) 82 (0,0)):=hK3.at_ (q:=W1.heap.size) (o:=planO t p f) (by simp)
  have e1:=hC.size
  have e2:=hC.picks
  have e4:=hC.free
  have e6:=hC.hint
  have p1:W3.cell? ⟨W1.heap.size,1,none⟩=some (.int .u32 (p:Int)):=(cell_of_row W3 W1.heap.size 1 _ _ _ hP).trans rfl
  have p2:W3.cell? ⟨W1.heap.size,2,none⟩=some (.int .u32 (f:Int)):=(cell_of_row W3 W1.heap.size 2 _ _ _ hP).trans rfl
  clear hP hC hK3
  have s0:(0:Int)≤(p:Int):=by omega
  have s1:(p:Int)≤32:=by omega
  cases m with
  | false=>
    go_wp2
    go_ret
    exact ⟨by rw [HA.out]; rfl,hb⟩
  | true=>
    by_cases hh:r.size=n
    case neg=>
      have d0:((((r.size:Int) == (n:Int)))=false):=by rw [beq_eq_false_iff_ne]; omega
      have H0:=Lib.hid hh
      clear hh
      go_wp2
      go_ret
      exact ⟨by rw [HA.out]; simp [H0.out] <;> omega,hb⟩
    case pos=>
      have d0:((((r.size:Int) == (n:Int)))=true):=by rw [beq_iff_eq]; omega
      have H0:=Lib.hid hh
      clear hh
      by_cases hh:r.picks / 2 ^ p=0
      case neg=>
        have d1:((((r.picks:Int) / 2 ^ p == 0))=false):=by
          rw [beq_eq_false_iff_ne]; intro h9; apply hh; exact_mod_cast h9
        have H1:=Lib.hid hh
        clear hh
        go_wp2
        go_ret
        exact ⟨by rw [HA.out]; simp [H0.out,H1.out] <;> omega,hb⟩
      case pos=>
        have d1:((((r.picks:Int) / 2 ^ p == 0))=true):=by
          rw [beq_iff_eq]; exact_mod_cast hh
        have H1:=Lib.hid hh
        clear hh
        by_cases hh:f≤r.hint
        case neg=>
          have d2:¬ (f:Int)≤(r.hint:Int):=by omega
          have H2:=Lib.hid hh
          clear hh
          go_wp2
          go_ret
          exact ⟨by rw [HA.out]; simp [H0.out,H1.out,H2.out] <;> omega,hb⟩
        case pos=>
          have d2:(f:Int)≤(r.hint:Int):=by omega
          have H2:=Lib.hid hh
          clear hh
          by_cases hh:r.free≤n - f
          case neg=>
            have d3:¬ (r.free:Int)≤(n:Int) - (f:Int):=by omega
            have H3:=Lib.hid hh
            clear hh
            go_wp2
            go_ret
            exact ⟨by rw [HA.out]; simp [H0.out,H1.out,H2.out,H3.out] <;> omega,hb⟩
          case pos=>
            have d3:(r.free:Int)≤(n:Int) - (f:Int):=by omega
            have H3:=Lib.hid hh
            clear hh
            go_wp2
            go_ret
            exact ⟨by rw [HA.out]; simp [H0.out,H1.out,H2.out,H3.out] <;> omega,hb⟩
end Go.Proofs.YtgkbfahflngklaaGreat.Rot
namespace Go.Proofs.YtgkbfahflngklaaGreat.RowLaw
open Go.RowKit
def spliceA (cs:Array Value) (o:Nat):List Value→Array Value
 | []=>cs
 | v :: vs=>spliceA (cs.setIfInBounds o v) (o+1) vs
theorem splice_size (vs:List Value):∀ (cs:Array Value) (o:Nat),(spliceA cs o vs).size=cs.size:=by
 induction vs with
 | nil=>intro cs o; rfl
 | cons v vs ih=>intro cs o; unfold spliceA; rw [ih]; simp
theorem splice_get (vs:List Value):∀ (cs:Array Value) (o i:Nat),o+vs.length≤cs.size→(spliceA cs o vs)[i]? = if o≤i∧i < o+vs.length then vs[i - o]? else cs[i]?:=by
 induction vs with
 | nil=>intro cs o i _; unfold spliceA; rw [if_neg (by simp)]
 | cons v vs ih=>
  intro cs o i h
  simp only [List.length_cons] at h
  unfold spliceA
  rw [ih _ _ _ (by simp; omega)]
  simp only [List.length_cons]
  by_cases h1:o+1≤i∧i < o+1+vs.length
  ·rw [if_pos h1,if_pos ⟨by omega,by omega⟩,show i - o=(i - (o+1))+1 from by omega,List.getElem?_cons_succ]
  ·rw [if_neg h1]
   by_cases h2:i=o
   ·subst h2
    rw [if_pos ⟨by omega,by omega⟩,Nat.sub_self,List.getElem?_cons_zero,Array.getElem?_setIfInBounds_self_of_lt (by omega)]
   ·rw [if_neg (fun h3=>h1 ⟨by omega,by omega⟩),Array.getElem?_setIfInBounds_ne (fun e=>h2 e.symm)]
theorem setCells_block (q:Nat) (T:TypeId) (vs:List Value):∀ (cs:Array Value) (o:Nat) (W:World),W.heap[q]? = some (.cells cs T (0,0))→
  (W.setCells q o vs).heap[q]? = some (.cells (spliceA cs o vs) T (0,0))∧(∀ k,k≠q→(W.setCells q o vs).heap[k]? = W.heap[k]?)∧(W.setCells q o vs).os=W.os∧(W.setCells q o vs).tape=W.tape∧(W.setCells q o vs).output=W.output∧(W.setCells q o vs).heap.size=W.heap.size:=by
 induction vs with
 | nil=>intro cs o W h; exact ⟨h,fun _ _=>rfl,rfl,rfl,rfl,rfl⟩
 | cons v vs ih=>
  intro cs o W h
  have h1:=heap_setCell_same W q o cs T v h
  obtain ⟨i1,i2,i3,i4,i5,i6⟩:=ih (cs.setIfInBounds o v) (o+1) (W.setCell ⟨q,o,none⟩ v) h1
  refine ⟨i1,fun k hk=>(i2 k hk).trans (heap_setCell_other W ⟨q,o,none⟩ k v hk),i3,i4,i5,i6.trans (by simp [World.setCell])⟩
end Go.Proofs.YtgkbfahflngklaaGreat.RowLaw
namespace Go.Proofs.YtgkbfahflngklaaGreat
open Go.RowKit RowLaw
theorem Kept.setCells {w W: World} {K: List (Nat×Obj)} {q o: Nat} {cs: Array Value} {T: TypeId} {vs: List Value} (h: Kept w ((q,.cells cs T (0,0)) :: K) W) (hne: ∀ x∈K,x.1≠q): Kept w ((q,.cells (spliceA cs o vs) T (0,0)) :: K) (W.setCells q o vs):=by
 obtain ⟨h1,h2,h3,h4,h5,h6⟩:=setCells_block q T vs cs o W (h.at_ List.mem_cons_self)
 exact h.put hne h1 h3 h4 h5 (by omega) h2
end Go.Proofs.YtgkbfahflngklaaGreat
namespace Go.Proofs.YtgkbfahflngklaaGreat.Rot
open Go.RowKit RowLaw Crc
set_option maxRecDepth 100000
open Go.Proofs.YtgkbfahflngklaaGreat.Slt (Rt cells rootO infoR sizeR cells_one IsRt getE)
open Go.Proofs.YtgkbfahflngklaaGreat.Dev (Dev DS ptr readB readR readE Read_any below_row)
end Go.Proofs.YtgkbfahflngklaaGreat.Rot
namespace Go.Proofs.YtgkbfahflngklaaGreat.Rot
open Go.RowKit RowLaw Crc
set_option maxRecDepth 100000
open Go.Proofs.YtgkbfahflngklaaGreat.Fld (blockO)
open Go.Proofs.YtgkbfahflngklaaGreat.Slt (Rt cells rootO infoR sizeR cells_one IsRt getE)
open Go.Proofs.YtgkbfahflngklaaGreat.Dev (Dev DS ptr readB readR readE Read_any below_row)
end Go.Proofs.YtgkbfahflngklaaGreat.Rot
namespace Go.Proofs.YtgkbfahflngklaaGreat.Rot
open Go.RowKit RowLaw Crc
set_option maxRecDepth 100000
open Go.Proofs.YtgkbfahflngklaaGreat.Slt (Rt cells rootO infoR sizeR cells_one IsRt getE)
open Go.Proofs.YtgkbfahflngklaaGreat.Dev (Dev DS ptr readB readR readE Read_any below_row)
end Go.Proofs.YtgkbfahflngklaaGreat.Rot
