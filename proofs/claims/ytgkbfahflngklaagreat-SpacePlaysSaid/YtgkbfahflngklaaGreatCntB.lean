import Derived.Test.YtgkbfahflngklaaGreatCntA
import Derived.Test.YtgkbfahflngklaaGreatTal2
import Derived.StillTailTactics
set_option maxRecDepth 100000
set_option maxHeartbeats 3200000
set_option linter.unusedSimpArgs false
namespace Go.Proofs.YtgkbfahflngklaaGreat
namespace Cnt
open Go.RowKit RowLaw Crc
open Dev (Dev DS ptr Turn Step readB readR readE Read_any)
open Rot (planOk tlN pkN fsN)
open Tal (pgCells pgCells_size pgCells_one IsPg kT kP fT fP getE getNs getI getNs_length sizeT sizeP infoT infoP zs zs_length Get_anyT Get_anyP)
open Fld (blockO)
theorem _root_.Go.Proofs.YtgkbfahflngklaaGreat.Dev.Step.push {B B1: List Nat} {w W: World} {q: Nat} (h: Step B w W B1) (hq: w.heap.size≤q): Step B w W (q::B1):=⟨h.turn,fun k hk=>by
 rcases List.mem_cons.1 hk with rfl | hk
 ·exact .inr hq
 ·exact h.sub k hk⟩
theorem _root_.Go.Proofs.YtgkbfahflngklaaGreat.Dev.Step.below' {B B1:List Nat} {w W W':World} (h:Step B w W B1) (hb:Below W.heap.size W W'):Step B w W' B1:=h.trans (Step.of_turn (Turn.of_below hb))
section
variable {w:World} {t bp bt bc:Nat} {fp ft fc:Nat→Option Nat} {B C:List Nat} {T:TD} {s:DS}
theorem neP (p:Nat) (W:World):(binOp .neq 256 (.pointer (some ⟨p,0,none⟩)) (.pointer none)).run Tryz.prog W=.ok (.bool true) W:=by kernel_rfl
theorem zeroP (W:World):(zeroValue 256).run Tryz.prog W=.ok (.pointer none) W:=by kernel_rfl
theorem pageP_any (hT:TabAt w t bp bt bc fp ft fc B T) (hd:Dev w T.d C s) (hr:Reads s T) {k:Nat} (hk:k < pkN T.n)
     :
    Calls Tryz.prog 210 #[ptr T.d,.map (some bp),.int .u32 (k:Int),.func (.func 80) #[ptr t] #[],.func (.func 211) #[] #[]] w fun e w'=>∃ q fp' B',e=.returned (.tuple #[ptr q,.int .i64 0])∧TabAt w' t bp bt bc fp' ft fc B' T∧Step B w w' B'∧fp' k=some q∧∀ x,fp k=some x→q=x∧Below w.heap.size w w':=by
  obtain ⟨n1,n2⟩:=plan_of hT.ok.plan
  have npl:=Rot.plan_facts n1 n2
  have hk32:k < 4294967296:=by omega
  have hat:pkAt T k < T.n:=pkAt_lt hT.ok hk
  clear npl
  cases hf:fp k with
  | some q=>
    have hne:=neP q w
    have hm:=hT.mp
    unfold ptr
    go_enter Tryz.func210,Tryz.ntmps210
    go_wp2_with (refine wpList_look_some rfl _ _ rfl Tryz.underlying22 Tryz.underlying156 (zeroP _) hm hk32 hf rfl rfl ?_)
    go_ret2
    exact ⟨q,fp,B,rfl,hT,Step.refl _ _,hf,fun x hx=>⟨Option.some.inj hx,Below.refl _ _⟩⟩
  | none=>
    have hm:=hT.mp
    have hzv:=(zero_of_info infoP).1
    have hzb:=(zero_of_info infoBlock).1
    have hfind:=pickAt_any hT hk
    have HFI:=Lib.hid hfind
    clear hfind
    obtain ⟨hg1,hg2⟩:=hr.pick k hk
    have hlen:s.pend.length < 4294967296:=hr.pend
    have hsn:pkAt T k < s.n:=by rw [hr.n]; exact hat
    have hrl:=hd.readLen (pkAt T k)
    have hrR:readR s (pkAt T k)=readB s (pkAt T k):=by rw [readR,if_neg (by omega)]
    have hrE:readE s (pkAt T k)=0:=by rw [readE,if_neg (by omega)]
    have ha32:pkAt T k < 4294967296:=by omega
    have hgi:getI kP (readB s (pkAt T k)) k=k:=by unfold getI; rw [if_pos hg1]
    have hns:(T.PV k).length=kP.n:=hT.ok.pl k
    have HR:Hid (∀ W,Dev W T.d C s→Calls Tryz.prog 112 #[ptr T.d,.int .u32 (pkAt T k:Int)] W fun e w'=>e=.returned (.tuple #[.agg (cellsOf (readB s (pkAt T k))),.int .i64 0])∧Below W.heap.size W w'):=Lib.hid (fun W hW=>by
      have:=Read_any hW ha32 hlen
      rw [hrR,hrE] at this
      exact this)
    have HG:Hid (∀ W,Calls Tryz.prog 211 #[.agg (cellsOf (readB s (pkAt T k))),.int .u32 (k:Int)] W fun e w'=>e=.returned (.tuple #[.agg (pgCells .u64 k (T.PV k)),.int .i64 0])∧Below W.heap.size W w'):=Lib.hid (fun W=>by
      have:=Get_anyP (readB s (pkAt T k)) hrl k W
      rw [hgi,hg1,hg2] at this
      exact this)
    clear hg1 hg2 hrR hrE hgi hat hsn hlen hr ha32 n1 n2
    generalize readB s (pkAt T k)=l at HR HG hrl
    have hil:=sizeBlock l hrl
    have hzl:(cellsOf zeros).size=(cellsOf l).size:=by rw [cellsOf_size,cellsOf_size,hrl,zeros_length]
    have hip:=sizeP k (T.PV k) hns
    have hzp:(pgCells .u64 0 (zs kP)).size=(pgCells .u64 k (T.PV k)).size:=by rw [pgCells_size,pgCells_size,hns,zs_length]
    unfold ptr at HFI HR ⊢
    go_enter Tryz.func210,Tryz.ntmps210
    go_wp2_with (refine wpList_look_none rfl _ _ rfl Tryz.underlying22 Tryz.underlying156 (zeroP _) hm hk32 hf rfl rfl ?_)
    refine HFI.out.mono ?_
    clear HFI hm
    rintro e W1 ⟨rfl,hW1⟩
    have h1:TabAt W1 t bp bt bc fp ft fc B T:=by rw [hW1]; exact hT
    have hd1:Dev W1 T.d C s:=by rw [hW1]; exact hd
    have hs1:Step B w W1 B:=by rw [hW1]; exact Step.refl _ _
    have hw1:w.heap.size≤W1.heap.size:=by rw [hW1]; exact Nat.le_refl _
    clear hW1
    obtain ⟨B1,hB1⟩:∃ B1,B1=B:=⟨_,rfl⟩
    have hs1:Step B w W1 B1:=by rw [hB1]; exact hs1
    have h1:TabAt W1 t bp bt bc fp ft fc B1 T:=by rw [hB1]; exact h1
    clear hB1
    clear hT hd
    have hrd:=HR.out W1 hd1
    clear HR hd1
    go_wp2_with fail
    refine hrd.mono ?_
    clear hrd
    rintro e W2 ⟨rfl,hx⟩
    have h2:=h1.below hx
    have hs2:=hs1.below' hx
    have hw2:=Nat.le_trans hw1 hx.size
    clear h1 hs1 hx hw1
    have h3:=h2.alloc (blockO l)
    have hs3:=hs2.below' ((Below.refl _ _).alloc (Nat.le_refl _) (blockO l))
    have hb3:(W2.alloc (blockO l)).heap[W2.heap.size]? = some (.cells (cellsOf l) 39 (0,0)):=heap_alloc_new _ _
    have hw3:w.heap.size≤(W2.alloc (blockO l)).heap.size:=by simp; omega
    clear h2 hs2
    have tok:True:=trivial
    go_upto_region 8 with (first | (have _t:=tok; refine wpList_store_new rfl 39 _ _ rfl (cellsOf l) _ _ rfl rfl hil hzl (cellsOf_one _) ?_; change wpList _ _ _ _ _ (W2.alloc (blockO l)); clear _t tok))
    change Code.wp _ _ _ _ (W2.alloc (blockO l))
    generalize W2.heap.size=b15 at hb3 ⊢
    generalize W2.alloc (blockO l)=W3 at h3 hs3 hb3 hw3 ⊢
    clear hzl hw2
    go_wp2_with (refine wpList_load_row rfl 39 _ rfl b15 rfl _ _ _ _ hb3 Tryz.underlying39 rfl hil ?_)
    refine (HG.out _).mono ?_
    clear HG hb3 hil
    rintro e W4 ⟨rfl,hx⟩
    have h4:=(h3.below hx).alloc (.cells (pgCells .u64 k (T.PV k)) 142)
    have hs4:=(hs3.below' hx).below' ((Below.refl _ _).alloc (Nat.le_refl _) (.cells (pgCells .u64 k (T.PV k)) 142))
    have hqB:W4.heap.size∉B1:=fun hm=>by have:=(h3.below hx).ltB _ hm; omega
    have hq:=IsPg.new .u64 142 W4 k (T.PV k)
    have hqw:w.heap.size≤W4.heap.size:=Nat.le_trans hw3 hx.size
    clear h3 hs3 hw3 hx
    have tok:True:=trivial
    go_upto_region 9 with (first | (have _t:=tok; refine wpList_store_new rfl 142 _ _ rfl (pgCells .u64 k (T.PV k)) _ _ rfl rfl hip hzp (pgCells_one _ _) ?_; change wpList _ _ _ _ _ (W4.alloc (.cells (pgCells .u64 k (T.PV k)) 142)); clear _t tok))
    change Code.wp _ _ _ _ (W4.alloc (.cells (pgCells .u64 k (T.PV k)) 142))
    generalize W4.heap.size=q at hqB hq hqw ⊢
    generalize W4.alloc (.cells (pgCells .u64 k (T.PV k)) 142)=W5 at h4 hs4 hq ⊢
    clear hip hzp hzv hzb
    have hm:=h4.mp
    have HS:=Lib.hid hs4; have HQ:=Lib.hid hqw
    clear hs4 hqw
    have h5:=h4
    clear h4
    go_wp2_with (refine wpList_putP rfl _ _ _ rfl Tryz.underlying22 Tryz.underlying156 hm hk32 rfl rfl rfl ?_; intro W6 hm6 hg6 _; have HM:=Lib.hid hm6; have HG:=Lib.hid hg6; clear hm6 hg6)
    go_ret2
    exact ⟨q,setP fp k q,q::B1,rfl,h5.addP hq hqB HM.out HG.out,(HS.out.trans (Step.of_turn (Turn.of_grown HG.out h5.inB.2.1))).push HQ.out,setP_self _ _ _,fun x hx=>by cases hx⟩
theorem pick_any (hT:TabAt w t bp bt bc fp ft fc B T) (hd:Dev w T.d C s) (hr:Reads s T) {k:Nat} (hk:k < pkN T.n) :
  Calls Tryz.prog 154 #[ptr t,.int .u32 (k:Int)] w fun e w'=>∃ q fp' B',e=.returned (.tuple #[ptr q,.int .i64 0])∧TabAt w' t bp bt bc fp' ft fc B' T∧Step B w w' B'∧fp' k=some q∧∀ x,fp k=some x→q=x∧Below w.heap.size w w':=by
 have h':=hT.drew
 have hd':Dev w.drew T.d C s:=hd.below ⟨rfl,rfl,rfl,Nat.le_refl _,fun _ _=>rfl⟩
 have hP:=pageP_any h' hd' hr hk
 have HP:=Lib.hid hP
 have hSt:Step B w w.drew B:=Step.of_turn ((Turn.refl _ _).drew)
 have HST:=Lib.hid hSt
 have hS:w.drew.cell? ⟨t,0,none⟩=some (ptr T.d)∧w.drew.cell? ⟨t,5,none⟩=some (.map (some bp)):=⟨(h'.cell 0).trans rfl,(h'.cell 5).trans rfl⟩
 have hmf:∀ (fn:Fn) (first cap:Array Value) (w:World),(Instr.makeFunc fn first cap).run Tryz.prog w=.ok (.func fn first cap) w:=fun _ _ _ _=>rfl
 clear hP h' hd' hr hd hT hSt
 unfold ptr at hS HP ⊢
 go_enter Tryz.func154,Tryz.ntmps154
 go_wp2_with fail
 refine wp_region_noPanic ?_
 refine wp_region_held_drew (S:=fun W=>W.cell? ⟨t,0,none⟩=some (.pointer (some ⟨T.d,0,none⟩))∧W.cell? ⟨t,5,none⟩=some (.map (some bp))) (by kernel_rfl) hS ?_
 intro hS
 refine RowLaw.tkV 0 6 (.pointer (some ⟨t,0,none⟩)) hS ?_
 simp only [RowLaw.lset]
 refine RowLaw.tkV 1 7 (.pointer (some ⟨t,0,none⟩)) hS ?_
 simp only [RowLaw.lset]
 refine RowLaw.tkV 2 8 (.pointer (some ⟨t,0,none⟩)) hS ?_
 simp only [RowLaw.lset]
 refine RowLaw.tkV 3 9 (.pointer (some ⟨T.d,0,none⟩)) hS ?_ (hy:=(Or.inl ⟨by rfl,fun w hw=>by have c:=hw.1; go_simp⟩))
 simp only [RowLaw.lset]
 refine RowLaw.tkV 4 10 (.pointer (some ⟨t,0,none⟩)) hS ?_
 simp only [RowLaw.lset]
 refine RowLaw.tkV 5 11 (.pointer (some ⟨t,0,none⟩)) hS ?_
 simp only [RowLaw.lset]
 refine RowLaw.tkV 6 12 (.pointer (some ⟨t,5,none⟩)) hS ?_
 simp only [RowLaw.lset]
 refine RowLaw.tkV 7 13 (.map (some bp)) hS ?_ (hy:=(Or.inl ⟨by rfl,fun w hw=>by have c:=hw.2; go_simp⟩))
 simp only [RowLaw.lset]
 refine RowLaw.tkV 8 14 (.int .u32 (k:Int)) hS ?_
 simp only [RowLaw.lset]
 refine RowLaw.tkV 9 15 (.pointer (some ⟨t,0,none⟩)) hS ?_
 simp only [RowLaw.lset]
 refine RowLaw.tkV 10 16 (.func (.func 80) #[.pointer (some ⟨t,0,none⟩)] #[]) hS ?_ (hy:=(Or.inl ⟨by rfl,fun w _=>by go_simp⟩))
 simp only [RowLaw.lset]
 refine wpAnyH_ready (rs:=[11]) (by kernel_rfl) (by simp) ?_
 refine AllReadyH.cons rfl (fun K hK=>?_) AllReadyH.nil
 go_simp
 refine HP.out.mono ?_
 clear HP hS
 rintro e W ⟨q,fp1,B1,rfl,h1,hs1,hq1,hbb⟩
 have HBB:=Lib.hid hbb; clear hbb
 dsimp only
 refine hK _ _ ⟨(h1.cell 0).trans rfl,(h1.cell 5).trans rfl⟩ (fun _=>?_)
 have hS:W.cell? ⟨t,0,none⟩=some (.pointer (some ⟨T.d,0,none⟩))∧W.cell? ⟨t,5,none⟩=some (.map (some bp)):=⟨(h1.cell 0).trans rfl,(h1.cell 5).trans rfl⟩
 clear hK K
 refine RowLaw.tkV 12 18 (.pointer (some ⟨q,0,none⟩)) hS ?_
 simp only [RowLaw.lset]
 refine RowLaw.tkV 13 19 (.int .i64 0) hS ?_
 simp only [RowLaw.lset]
 refine RowLaw.tkV 14 4 (.pointer (some ⟨q,0,none⟩)) hS ?_
 simp only [RowLaw.lset]
 refine RowLaw.tkV 15 5 (.int .i64 0) hS ?_
 simp only [RowLaw.lset]
 refine wpAnyH_done (by kernel_rfl) ?_ _
 refine NoPanic.normal ?_
 go_wp2_with fail
 go_ret2
 exact ⟨q,fp1,B1,rfl,h1,HST.out.trans hs1,hq1,fun x hx=>⟨(HBB.out x hx).1,(Below.refl _ w).drew.trans (HBB.out x hx).2⟩⟩
theorem tallyAt_any (hT:TabAt w t bp bt bc fp ft fc B T) (hd:Dev w T.d C s) (hr:Reads s T) {k:Nat} (hk:k < tlN T.n) :
  Calls Tryz.prog 76 #[ptr t,.int .u32 (k:Int)] w fun e w'=>e=.returned (.tuple #[.int .u32 (tlAt T k:Int),.int .i64 0])∧∃ fp' B',TabAt w' t bp bt bc fp' ft fc B' T∧Step B w w' B'∧(∃ x,fp' (k / 1024)=some x)∧∀ x,fp (k / 1024)=some x→Below w.heap.size w w':=by
 have hkp:=pick_of_tally hT.ok hk
 have hP:=pick_any hT hd hr hkp
 have hlt:=tlAt_lt hT.ok hk
 obtain ⟨h1,h2⟩:=plan_of hT.ok.plan
 have hpl:=Rot.plan_facts h1 h2
 have hlen:=hT.ok.pl (k / 1024)
 have hnn:=hT.ok.pn (k / 1024)
 have hip:=sizeP (k / 1024) (T.PV (k / 1024)) hlen
 have hkm:k % 1024 < 1024:=Nat.mod_lt _ (by omega)
 have HB:=Lib.hid (fun W=>Bit_any (k:=k / 1024) hlen hnn hkm W)
 have hat:tlAt T k=2+2 * (pkN T.n+k)+bitAt (T.PV (k / 1024)) (k % 1024):=rfl
 have hb2:=bitAt_lt (T.PV (k / 1024)) (k % 1024)
 obtain ⟨hk16,hp16⟩:k < 16384∧pkN T.n≤16:=by omega
 obtain ⟨m,hm⟩:∃ m,m=k / 1024:=⟨_,rfl⟩
 obtain ⟨j,hj⟩:∃ j,j=k % 1024:=⟨_,rfl⟩
 rw [←hm] at hP hip HB hat hb2 ⊢
 rw [←hj] at HB hat hb2 hkm
 have d1:(k:Int) / 1024=(m:Int):=by omega
 have d2:(k:Int) % 1024=(j:Int):=by omega
 generalize bitAt (T.PV m) j=b at HB hat hb2
 generalize tlAt T k=at' at hat hlt ⊢
 have HA:=Lib.hid hat
 have hpk:(pkN T.n:Int)≤16:=by omega
 have HP:=Lib.hid hP
 clear hP hT hd hr hat hlen hnn hpl h1 h2 hkp hm hj
 unfold ptr at HP ⊢
 go_enter Tryz.func76,Tryz.ntmps76
 go_wp2_with fail
 refine HP.out.mono ?_
 clear HP
 rintro e W1 ⟨q,fp1,B1,rfl,h1,hs1,hq1,hbb⟩
 have HBB:=Lib.hid hbb
 have HQ1:=Lib.hid hq1
 clear hbb
 have hpg:W1.heap[q]? = some (.cells (pgCells .u64 m (T.PV m)) 142 (0,0)):=(h1.pp m q hq1).1
 go_wp2_with (refine wpList_load_row rfl 142 _ rfl q rfl _ _ _ _ hpg Tryz.underlying142 rfl hip ?_)
 refine (HB.out _).mono ?_
 clear HB hpg hip
 rintro e W2 ⟨rfl,hx⟩
 have h2:=h1.below hx
 have hs2:=hs1.below' hx
 have HX:=Lib.hid hx
 clear h1 hs1 hx
 have c2:W2.cell? ⟨t,2,none⟩=some (.int .u32 (pkN T.n:Int)):=(h2.cell 2).trans rfl
 generalize pkN T.n=pn at c2 hpk hp16 HA
 have e1:(2+2 * ((pn:Int)+(k:Int))+(b:Int)) % 4294967296=2+2 * ((pn:Int)+(k:Int))+b:=by omega
 go_wp2_with fail
 go_ret2
 refine ⟨?_,fp1,B1,h2,hs2,⟨q,HQ1.out⟩,fun x hx=>(HBB.out x hx).2.trans (HX.out.mono (HBB.out x hx).2.size)⟩
 rw [HA.out]
 rfl
theorem neT (p:Nat) (W:World):(binOp .neq 160 (.pointer (some ⟨p,0,none⟩)) (.pointer none)).run Tryz.prog W=.ok (.bool true) W:=by kernel_rfl
theorem zeroT (W:World):(zeroValue 160).run Tryz.prog W=.ok (.pointer none) W:=by kernel_rfl
theorem pageT_any (hT:TabAt w t bp bt bc fp ft fc B T) (hd:Dev w T.d C s) (hr:Reads s T) (hdis:∀ k∈C,k∉B) {k:Nat} (hk:k < tlN T.n)
  (hfind:Calls Tryz.prog 76 #[ptr t,.int .u32 (k:Int)] w fun e w'=>e=.returned (.tuple #[.int .u32 (tlAt T k:Int),.int .i64 0])∧∃ fp' B',TabAt w' t bp bt bc fp' ft fc B' T∧Step B w w' B'∧(∃ x,fp' (k / 1024)=some x)∧∀ x,fp (k / 1024)=some x→Below w.heap.size w w') :
  Calls Tryz.prog 162 #[ptr T.d,.map (some bt),.int .u32 (k:Int),.func (.func 76) #[ptr t] #[],.func (.func 163) #[] #[]] w fun e w'=>∃ q fp' ft' B',e=.returned (.tuple #[ptr q,.int .i64 0])∧TabAt w' t bp bt bc fp' ft' fc B' T∧Step B w w' B'∧ft' k=some q:=by
 obtain ⟨n1,n2⟩:=plan_of hT.ok.plan
 have npl:=Rot.plan_facts n1 n2
 have hk32:k < 4294967296:=by omega
 have hat:tlAt T k < T.n:=tlAt_lt hT.ok hk
 clear npl
 cases hf:ft k with
 | some q=>
  have hne:=neT q w
  have hm:=hT.mt
  unfold ptr
  go_enter Tryz.func162,Tryz.ntmps162
  go_wp2_with (refine wpList_look_some rfl _ _ rfl Tryz.underlying22 Tryz.underlying157 (zeroT _) hm hk32 hf rfl rfl ?_)
  go_ret2
  exact ⟨q,fp,ft,B,rfl,hT,Step.refl _ _,hf⟩
 | none=>
  have hm:=hT.mt
  have hzv:=(zero_of_info infoT).1
  have hzb:=(zero_of_info infoBlock).1
  have HFI:=Lib.hid hfind
  clear hfind
  obtain ⟨hg1,hg2⟩:=hr.tally k hk
  have hlen:s.pend.length < 4294967296:=hr.pend
  have hsn:tlAt T k < s.n:=by rw [hr.n]; exact hat
  have hrl:=hd.readLen (tlAt T k)
  have hrR:readR s (tlAt T k)=readB s (tlAt T k):=by rw [readR,if_neg (by omega)]
  have hrE:readE s (tlAt T k)=0:=by rw [readE,if_neg (by omega)]
  have ha32:tlAt T k < 4294967296:=by omega
  have hgi:getI kT (readB s (tlAt T k)) k=k:=by unfold getI; rw [if_pos hg1]
  have hns:(T.TV k).length=kT.n:=hT.ok.tl k
  have HR:Hid (∀ W,Dev W T.d C s→Calls Tryz.prog 112 #[ptr T.d,.int .u32 (tlAt T k:Int)] W fun e w'=>e=.returned (.tuple #[.agg (cellsOf (readB s (tlAt T k))),.int .i64 0])∧Below W.heap.size W w'):=Lib.hid (fun W hW=>by
   have:=Read_any hW ha32 hlen
   rw [hrR,hrE] at this
   exact this)
  have HG:Hid (∀ W,Calls Tryz.prog 163 #[.agg (cellsOf (readB s (tlAt T k))),.int .u32 (k:Int)] W fun e w'=>e=.returned (.tuple #[.agg (pgCells .u16 k (T.TV k)),.int .i64 0])∧Below W.heap.size W w'):=Lib.hid (fun W=>by
   have:=Get_anyT (readB s (tlAt T k)) hrl k W
   rw [hgi,hg1,hg2] at this
   exact this)
  clear hg1 hg2 hrR hrE hgi hat hsn hlen hr ha32 n1 n2
  generalize readB s (tlAt T k)=l at HR HG hrl
  have hil:=sizeBlock l hrl
  have hzl:(cellsOf zeros).size=(cellsOf l).size:=by rw [cellsOf_size,cellsOf_size,hrl,zeros_length]
  have hip:=sizeT k (T.TV k) hns
  have hzp:(pgCells .u16 0 (zs kT)).size=(pgCells .u16 k (T.TV k)).size:=by rw [pgCells_size,pgCells_size,hns,zs_length]
  unfold ptr at HFI HR ⊢
  go_enter Tryz.func162,Tryz.ntmps162
  go_wp2_with (refine wpList_look_none rfl _ _ rfl Tryz.underlying22 Tryz.underlying157 (zeroT _) hm hk32 hf rfl rfl ?_)
  refine HFI.out.mono ?_
  clear HFI hm
  rintro e W1 ⟨rfl,fp1,B1,h1,hs1,hqp,-⟩
  have HQP:=Lib.hid hqp
  clear hqp
  have hd1:=hd.turn hs1.turn hdis
  have hw1:=hs1.turn.size
  clear hT hd hdis
  have hrd:=HR.out W1 hd1
  clear HR hd1
  go_wp2_with fail
  refine hrd.mono ?_
  clear hrd
  rintro e W2 ⟨rfl,hx⟩
  have h2:=h1.below hx
  have hs2:=hs1.below' hx
  have hw2:=Nat.le_trans hw1 hx.size
  clear h1 hs1 hx hw1
  have h3:=h2.alloc (blockO l)
  have hs3:=hs2.below' ((Below.refl _ _).alloc (Nat.le_refl _) (blockO l))
  have hb3:(W2.alloc (blockO l)).heap[W2.heap.size]? = some (.cells (cellsOf l) 39 (0,0)):=heap_alloc_new _ _
  have hw3:w.heap.size≤(W2.alloc (blockO l)).heap.size:=by simp; omega
  clear h2 hs2
  have tok:True:=trivial
  go_upto_region 8 with (first | (have _t:=tok; refine wpList_store_new rfl 39 _ _ rfl (cellsOf l) _ _ rfl rfl hil hzl (cellsOf_one _) ?_; change wpList _ _ _ _ _ (W2.alloc (blockO l)); clear _t tok))
  change Code.wp _ _ _ _ (W2.alloc (blockO l))
  generalize W2.heap.size=b15 at hb3 ⊢
  generalize W2.alloc (blockO l)=W3 at h3 hs3 hb3 hw3 ⊢
  clear hzl hw2
  go_wp2_with (refine wpList_load_row rfl 39 _ rfl b15 rfl _ _ _ _ hb3 Tryz.underlying39 rfl hil ?_)
  refine (HG.out _).mono ?_
  clear HG hb3 hil
  rintro e W4 ⟨rfl,hx⟩
  have h4:=(h3.below hx).alloc (.cells (pgCells .u16 k (T.TV k)) 137)
  have hs4:=(hs3.below' hx).below' ((Below.refl _ _).alloc (Nat.le_refl _) (.cells (pgCells .u16 k (T.TV k)) 137))
  have hqB:W4.heap.size∉B1:=fun hm=>by have:=(h3.below hx).ltB _ hm; omega
  have hq:=IsPg.new .u16 137 W4 k (T.TV k)
  have hqw:w.heap.size≤W4.heap.size:=Nat.le_trans hw3 hx.size
  clear h3 hs3 hw3 hx
  have tok:True:=trivial
  go_upto_region 9 with (first | (have _t:=tok; refine wpList_store_new rfl 137 _ _ rfl (pgCells .u16 k (T.TV k)) _ _ rfl rfl hip hzp (pgCells_one _ _) ?_; change wpList _ _ _ _ _ (W4.alloc (.cells (pgCells .u16 k (T.TV k)) 137)); clear _t tok))
  change Code.wp _ _ _ _ (W4.alloc (.cells (pgCells .u16 k (T.TV k)) 137))
  generalize W4.heap.size=q at hqB hq hqw ⊢
  generalize W4.alloc (.cells (pgCells .u16 k (T.TV k)) 137)=W5 at h4 hs4 hq ⊢
  clear hip hzp hzv hzb
  have hm:=h4.mt
  have HS:=Lib.hid hs4; have HQ:=Lib.hid hqw
  clear hs4 hqw
  have h5:=h4
  clear h4
  go_wp2_with (refine wpList_putP rfl _ _ _ rfl Tryz.underlying22 Tryz.underlying157 hm hk32 rfl rfl rfl ?_; intro W6 hm6 hg6 _; have HM:=Lib.hid hm6; have HG:=Lib.hid hg6; clear hm6 hg6)
  go_ret2
  exact ⟨q,fp1,setP ft k q,q::B1,rfl,h5.addT HQP.out hq hqB HM.out HG.out,(HS.out.trans (Step.of_turn (Turn.of_grown HG.out h5.inB.2.2.1))).push HQ.out,setP_self _ _ _⟩
theorem old_any (hT:TabAt w t bp bt bc fp ft fc B T) (hd:Dev w T.d C s) (hr:Reads s T) (hdis:∀ k∈C,k∉B) {k:Nat} (hk:k < tlN T.n) :
  Calls Tryz.prog 91 #[ptr t,.int .u32 (k:Int)] w fun e w'=>∃ q fp' ft' B',e=.returned (.tuple #[ptr q,.int .i64 0])∧TabAt w' t bp bt bc fp' ft' fc B' T∧Step B w w' B'∧ft' k=some q:=by
 have h':=hT.drew
 have hd':Dev w.drew T.d C s:=hd.below ⟨rfl,rfl,rfl,Nat.le_refl _,fun _ _=>rfl⟩
 have hP:=pageT_any h' hd' hr hdis hk (tallyAt_any h' hd' hr hk)
 have HP:=Lib.hid hP
 have hSt:Step B w w.drew B:=Step.of_turn ((Turn.refl _ _).drew)
 have HST:=Lib.hid hSt
 have hS:w.drew.cell? ⟨t,0,none⟩=some (ptr T.d)∧w.drew.cell? ⟨t,6,none⟩=some (.map (some bt)):=⟨(h'.cell 0).trans rfl,(h'.cell 6).trans rfl⟩
 have hmf:∀ (fn:Fn) (first cap:Array Value) (w:World),(Instr.makeFunc fn first cap).run Tryz.prog w=.ok (.func fn first cap) w:=fun _ _ _ _=>rfl
 clear hP h' hd' hr hdis hd hT hSt
 unfold ptr at hS HP ⊢
 go_enter Tryz.func91,Tryz.ntmps91
 go_wp2_with fail
 refine wp_region_noPanic ?_
 refine wp_region_held_drew (S:=fun W=>W.cell? ⟨t,0,none⟩=some (.pointer (some ⟨T.d,0,none⟩))∧W.cell? ⟨t,6,none⟩=some (.map (some bt))) (by kernel_rfl) hS ?_
 intro hS
 refine RowLaw.tkV 0 6 (.pointer (some ⟨t,0,none⟩)) hS ?_
 simp only [RowLaw.lset]
 refine RowLaw.tkV 1 7 (.pointer (some ⟨t,0,none⟩)) hS ?_
 simp only [RowLaw.lset]
 refine RowLaw.tkV 2 8 (.pointer (some ⟨t,0,none⟩)) hS ?_
 simp only [RowLaw.lset]
 refine RowLaw.tkV 3 9 (.pointer (some ⟨T.d,0,none⟩)) hS ?_ (hy:=(Or.inl ⟨by rfl,fun w hw=>by have c:=hw.1; go_simp⟩))
 simp only [RowLaw.lset]
 refine RowLaw.tkV 4 10 (.pointer (some ⟨t,0,none⟩)) hS ?_
 simp only [RowLaw.lset]
 refine RowLaw.tkV 5 11 (.pointer (some ⟨t,0,none⟩)) hS ?_
 simp only [RowLaw.lset]
 refine RowLaw.tkV 6 12 (.pointer (some ⟨t,6,none⟩)) hS ?_
 simp only [RowLaw.lset]
 refine RowLaw.tkV 7 13 (.map (some bt)) hS ?_ (hy:=(Or.inl ⟨by rfl,fun w hw=>by have c:=hw.2; go_simp⟩))
 simp only [RowLaw.lset]
 refine RowLaw.tkV 8 14 (.int .u32 (k:Int)) hS ?_
 simp only [RowLaw.lset]
 refine RowLaw.tkV 9 15 (.pointer (some ⟨t,0,none⟩)) hS ?_
 simp only [RowLaw.lset]
 refine RowLaw.tkV 10 16 (.func (.func 76) #[.pointer (some ⟨t,0,none⟩)] #[]) hS ?_ (hy:=(Or.inl ⟨by rfl,fun w _=>by go_simp⟩))
 simp only [RowLaw.lset]
 refine wpAnyH_ready (rs:=[11]) (by kernel_rfl) (by simp) ?_
 refine AllReadyH.cons rfl (fun K hK=>?_) AllReadyH.nil
 go_simp
 refine HP.out.mono ?_
 clear HP hS
 rintro e W ⟨q,fp1,ft1,B1,rfl,h1,hs1,hq1⟩
 skip
 dsimp only
 refine hK _ _ ⟨(h1.cell 0).trans rfl,(h1.cell 6).trans rfl⟩ (fun _=>?_)
 have hS:W.cell? ⟨t,0,none⟩=some (.pointer (some ⟨T.d,0,none⟩))∧W.cell? ⟨t,6,none⟩=some (.map (some bt)):=⟨(h1.cell 0).trans rfl,(h1.cell 6).trans rfl⟩
 clear hK K
 refine RowLaw.tkV 12 18 (.pointer (some ⟨q,0,none⟩)) hS ?_
 simp only [RowLaw.lset]
 refine RowLaw.tkV 13 19 (.int .i64 0) hS ?_
 simp only [RowLaw.lset]
 refine RowLaw.tkV 14 4 (.pointer (some ⟨q,0,none⟩)) hS ?_
 simp only [RowLaw.lset]
 refine RowLaw.tkV 15 5 (.int .i64 0) hS ?_
 simp only [RowLaw.lset]
 refine wpAnyH_done (by kernel_rfl) ?_ _
 refine NoPanic.normal ?_
 go_wp2_with fail
 go_ret2
 exact ⟨q,fp1,ft1,B1,rfl,h1,HST.out.trans hs1,hq1⟩
end
end Cnt
namespace Cnt
open Go.RowKit RowLaw Crc
open Dev (Dev DS ptr Turn Step readB)
open Rot (planOk tlN pkN fsN)
open Tal (pgCells pgCells_size pgCells_one IsPg kT kP sizeT infoT zs zs_length)
def cntV (f:Nat→List Nat) (n a:Nat):Nat:=if fsN n≤a∧a < n then (f (a / 64)).getD (a % 64) 0 else 0
def cntE (n a:Nat):Int:=if n≤a then 2 else 0
def TD.oldC (T:TD) (a:Nat):Nat:=cntV T.TV T.n a
def TD.nowC (T:TD) (a:Nat):Nat:=cntV T.now T.n a
theorem setC_self {T:TD} {p:Nat} {ns:List Nat} (h:T.C p=some ns):setC T p ns=T:=by
 cases T with
 | mk d n ch PV TV C=>
  unfold setC
  congr 1
  funext x
  split
  ·rename_i e; rw [e]; exact h.symm
  ·rfl
theorem now_some {T:TD} {p:Nat} {ns:List Nat} (h:T.C p=some ns):T.now p=ns:=by unfold TD.now; rw [h]; rfl
theorem now_none {T:TD} {p:Nat} (h:T.C p=none):T.now p=T.TV p:=by unfold TD.now; rw [h]; rfl
theorem TOk.now {T:TD} (h:TOk T) (p:Nat):(T.now p).length=64∧∀ x∈T.now p,x < 65536:=by
 cases hc:T.C p with
 | none=>rw [now_none hc]; exact ⟨h.tl p,h.tn p⟩
 | some ns=>rw [now_some hc]; exact h.cl p ns hc
section
variable {w:World} {t bp bt bc:Nat} {fp ft fc:Nat→Option Nat} {B C:List Nat} {T:TD} {s:DS}
theorem TabAt.fc_some (h:TabAt w t bp bt bc fp ft fc B T) {p:Nat} {ns:List Nat} (hc:T.C p=some ns):∃ q,fc p=some q∧IsPg .u16 137 w q p ns:=by
 cases hf:fc p with
 | none=>rw [h.nc p hf] at hc; cases hc
 | some q=>
  obtain ⟨⟨ns',h1,h2⟩,_⟩:=h.pc p q hf
  rw [hc] at h1
  cases h1
  exact ⟨q,rfl,h2⟩
theorem TabAt.fc_none (h:TabAt w t bp bt bc fp ft fc B T) {p:Nat} (hc:T.C p=none):fc p=none:=by
 cases hf:fc p with
 | none=>rfl
 | some q=>
  obtain ⟨⟨ns',h1,h2⟩,_⟩:=h.pc p q hf
  rw [hc] at h1
  cases h1
theorem current_any (hT:TabAt w t bp bt bc fp ft fc B T) (hd:Dev w T.d C s) (hr:Reads s T) (hdis:∀ k∈C,k∉B) {k:Nat} (hk:k < tlN T.n) :
  Calls Tryz.prog 90 #[ptr t,.int .u32 (k:Int)] w fun e w'=>∃ q fp' ft' B',e=.returned (.tuple #[ptr q,.int .i64 0])∧TabAt w' t bp bt bc fp' ft' fc B' T∧Step B w w' B'∧IsPg .u16 137 w' q k (T.now k):=by
 obtain ⟨n1,n2⟩:=plan_of hT.ok.plan
 have npl:=Rot.plan_facts n1 n2
 have hk32:k < 4294967296:=by omega
 have hm:=hT.mc
 have c7:w.cell? ⟨t,7,none⟩=some (.map (some bc)):=(hT.cell 7).trans rfl
 clear npl n1 n2
 cases hc:T.C k with
 | some ns=>
  obtain ⟨q,hf,hp⟩:=hT.fc_some hc
  have hne:=neT q w
  rw [now_some hc]
  clear hd hr hdis hk
  unfold ptr
  go_enter Tryz.func90,Tryz.ntmps90
  go_wp2_with (refine wpList_look_some rfl _ _ rfl Tryz.underlying22 Tryz.underlying157 (zeroT _) hm hk32 hf rfl rfl ?_)
  go_ret2
  exact ⟨q,fp,ft,B,rfl,hT,Step.refl _ _,hp⟩
 | none=>
  have hf:=hT.fc_none hc
  rw [now_none hc]
  have hO:=old_any hT hd hr hdis hk
  have HO:=Lib.hid hO
  clear hO hd hr hdis hk hT
  unfold ptr at HO ⊢
  go_enter Tryz.func90,Tryz.ntmps90
  go_wp2_with (refine wpList_look_none rfl _ _ rfl Tryz.underlying22 Tryz.underlying157 (zeroT _) hm hk32 hf rfl rfl ?_)
  refine HO.out.mono ?_
  clear HO hm c7
  rintro e W1 ⟨q,fp1,ft1,B1,rfl,h1,hs1,hq1⟩
  go_wp2_with fail
  go_ret2
  exact ⟨q,fp1,ft1,B1,rfl,h1,hs1,(h1.pt k q hq1).1⟩
theorem eqT (p:Nat) (W:World):(binOp .eql 160 (.pointer (some ⟨p,0,none⟩)) (.pointer none)).run Tryz.prog W=.ok (.bool false) W:=by kernel_rfl
theorem own_any (hT:TabAt w t bp bt bc fp ft fc B T) (hd:Dev w T.d C s) (hr:Reads s T) (hdis:∀ k∈C,k∉B) {k:Nat} (hk:k < tlN T.n) :
    Calls Tryz.prog 74 #[ptr t,.int .u32 (k:Int)] w fun e w'=>∃ q fp' ft' fc' B',e=.returned (.tuple #[ptr q,.int .i64 0])∧TabAt w' t bp bt bc fp' ft' fc' B' (setC T k (T.now k))∧Step B w w' B'∧fc' k=some q:=by
  obtain ⟨n1,n2⟩:=plan_of hT.ok.plan
  have npl:=Rot.plan_facts n1 n2
  have hk32:k < 4294967296:=by omega
  have hm:=hT.mc
  have c7:w.cell? ⟨t,7,none⟩=some (.map (some bc)):=(hT.cell 7).trans rfl
  clear npl n1 n2
  cases hc:T.C k with
  | some ns=>
    obtain ⟨q,hf,hp⟩:=hT.fc_some hc
    have hne:=eqT q w
    rw [now_some hc,setC_self hc]
    clear hd hr hdis hk hp
    unfold ptr
    go_enter Tryz.func74,Tryz.ntmps74
    go_wp2_with (refine wpList_look_some rfl _ _ rfl Tryz.underlying22 Tryz.underlying157 (zeroT _) hm hk32 hf rfl rfl ?_)
    go_ret2
    exact ⟨q,fp,ft,fc,B,rfl,hT,Step.refl _ _,hf⟩
  | none=>
    have hf:=hT.fc_none hc
    have hno:=hT.ok.now k
    rw [now_none hc] at hno ⊢
    have hO:=old_any hT hd hr hdis hk
    have HO:=Lib.hid hO
    have hzv:=(zero_of_info infoT).1
    have hip:=sizeT k (T.TV k) hno.1
    have hzp:(pgCells .u16 0 (zs kT)).size=(pgCells .u16 k (T.TV k)).size:=by rw [pgCells_size,pgCells_size,hno.1,zs_length]; rfl
    clear hO hd hr hdis hT
    unfold ptr at HO ⊢
    go_enter Tryz.func74,Tryz.ntmps74
    go_wp2_with (refine wpList_look_none rfl _ _ rfl Tryz.underlying22 Tryz.underlying157 (zeroT _) hm hk32 hf rfl rfl ?_)
    refine HO.out.mono ?_
    clear HO hm c7
    rintro e W1 ⟨q0,fp1,ft1,B1,rfl,h1,hs1,hq1⟩
    have hpg:W1.heap[q0]? = some (.cells (pgCells .u16 k (T.TV k)) 137 (0,0)):=(h1.pt k q0 hq1).1
    have h2:=h1.alloc (.cells (pgCells .u16 k (T.TV k)) 137)
    have hs2:=hs1.below' ((Below.refl _ _).alloc (Nat.le_refl _) (.cells (pgCells .u16 k (T.TV k)) 137))
    have hqB:W1.heap.size∉B1:=fun hm=>by have:=h1.ltB _ hm; omega
    have hq:=IsPg.new .u16 137 W1 k (T.TV k)
    have hqw:w.heap.size≤W1.heap.size:=hs1.turn.size
    clear h1 hs1
    have tok:True:=trivial
    go_upto_region 6 with (first
      | (refine wpList_load_row rfl 137 _ rfl q0 rfl _ _ _ _ hpg Tryz.underlying137 rfl hip ?_)
      | (have _t:=tok; refine wpList_store_new rfl 137 _ _ rfl (pgCells .u16 k (T.TV k)) _ _ rfl rfl hip hzp (pgCells_one _ _) ?_; change wpList _ _ _ _ _ (W1.alloc (.cells (pgCells .u16 k (T.TV k)) 137)); clear _t tok))
    change Code.wp _ _ _ _ (W1.alloc (.cells (pgCells .u16 k (T.TV k)) 137))
    clear hpg
    generalize W1.heap.size=q at hqB hq hqw ⊢
    generalize W1.alloc (.cells (pgCells .u16 k (T.TV k)) 137)=W2 at h2 hs2 hq ⊢
    clear hip hzp hzv
    have hm:=h2.mc
    have c7:W2.cell? ⟨t,7,none⟩=some (.map (some bc)):=(h2.cell 7).trans rfl
    have HS:=Lib.hid hs2; have HQ:=Lib.hid hqw
    clear hs2 hqw
    go_upto_region 7 with (refine wpList_putP rfl _ _ _ rfl Tryz.underlying22 Tryz.underlying157 hm hk32 rfl rfl rfl ?_; intro W3 hm3 hg3 _; have h3:=h2.addC hno.1 hno.2 hk hq hqB ⟨q0,hq1⟩ hm3 hg3; have hs3:=(HS.out.trans (Step.of_turn (Turn.of_grown hg3 h2.inB.2.2.2))).push HQ.out; clear hm3 hg3)
    clear hm c7 HS HQ hq hqB
    have hm:=h3.mc
    have c7:W3.cell? ⟨t,7,none⟩=some (.map (some bc)):=(h3.cell 7).trans rfl
    have hf3:setP fc k q k=some q:=setP_self _ _ _
    go_wp2_with (refine wpList_look_some rfl _ _ rfl Tryz.underlying22 Tryz.underlying157 (zeroT _) hm hk32 hf3 rfl rfl ?_)
    go_ret2
    exact ⟨q,fp1,ft1,setP fc k q,q::B1,rfl,h3,hs3,hf3⟩
theorem countOld_any (hT:TabAt w t bp bt bc fp ft fc B T) (hd:Dev w T.d C s) (hr:Reads s T) (hdis:∀ k∈C,k∉B) {a:Nat} (ha:a < 4294967296) :
    Calls Tryz.prog 89 #[ptr t,.int .u32 (a:Int),.func (.func 91) #[] #[]] w fun e w'=>e=.returned (.tuple #[.int .u16 (T.oldC a:Int),.int .i64 (cntE T.n a)])∧∃ fp' ft' B',TabAt w' t bp bt bc fp' ft' fc B' T∧Step B w w' B':=by
  have hE:=exists_yesT hT
  have hSz:=Size_anyT hT hd hr.n
  have c3:w.cell? ⟨t,3,none⟩=some (.int .u32 (fsN T.n:Int)):=(hT.cell 3).trans rfl
  obtain ⟨n1,n2⟩:=plan_of hT.ok.plan
  have npl:=Rot.plan_facts n1 n2
  have HV:=Lib.hid (show T.oldC a=if fsN T.n≤a∧a < T.n then (T.TV (a / 64)).getD (a % 64) 0 else 0 from rfl)
  have HE:=Lib.hid (show cntE T.n a=if T.n≤a then 2 else 0 from rfl)
  by_cases hn:T.n≤a
  · have i1:(T.n:Int)≤(a:Int):=by omega
    rw [HV.out,if_neg (by omega),HE.out,if_pos hn]
    clear HV HE hd hr hdis c3 npl n1 n2
    unfold ptr at hE hSz ⊢
    go_enter Tryz.func89,Tryz.ntmps89
    go_wp2_with (first
      | ((with_reducible refine hE.mono ?_); rintro e W1 ⟨rfl,rfl⟩)
      | ((with_reducible refine hSz.mono ?_); rintro e W1 ⟨rfl,rfl⟩))
    go_ret2
    exact ⟨rfl,fp,ft,B,hT,Step.refl _ _⟩
  · have i1:¬ (T.n:Int)≤(a:Int):=by omega
    by_cases hf:a < fsN T.n
    · have i2:(a:Int) < (fsN T.n:Int):=by omega
      rw [HV.out,if_neg (by omega),HE.out,if_neg hn]
      clear HV HE hd hr hdis npl n1 n2
      unfold ptr at hE hSz ⊢
      go_enter Tryz.func89,Tryz.ntmps89
      go_wp2_with (first
        | ((with_reducible refine hE.mono ?_); rintro e W1 ⟨rfl,rfl⟩)
        | ((with_reducible refine hSz.mono ?_); rintro e W1 ⟨rfl,rfl⟩))
      go_ret2
      exact ⟨rfl,fp,ft,B,hT,Step.refl _ _⟩
    · have i2:¬ (a:Int) < (fsN T.n:Int):=by omega
      have hk:a / 64 < tlN T.n:=by omega
      have hlen:(T.TV (a / 64)).length=64:=hT.ok.tl (a / 64)
      have hj:a % 64 < (T.TV (a / 64)).length:=by rw [hlen]; omega
      have hval:(T.TV (a / 64)).getD (a % 64) 0=(T.TV (a / 64))[a % 64]:=by rw [List.getD_eq_getElem?_getD,List.getElem?_eq_getElem hj]; rfl
      rw [HV.out,if_pos ⟨by omega,by omega⟩,HE.out,if_neg hn,hval]
      have hO:=old_any hT hd hr hdis hk
      have HO:=Lib.hid hO
      have hcell:∀ W q,IsPg .u16 137 W q (a / 64) (T.TV (a / 64))→W.cell? ⟨q,1+a % 64,none⟩=some (.int .u16 ((T.TV (a / 64))[a % 64]:Int)):=fun W q h=>h.num (a % 64) hj
      have HC:=Lib.hid hcell
      generalize (T.TV (a / 64))[a % 64]=v at HC ⊢
      obtain ⟨m,hm⟩:∃ m,m=a / 64:=⟨_,rfl⟩
      obtain ⟨j,hjj⟩:∃ j,j=a % 64:=⟨_,rfl⟩
      rw [←hm] at HO HC
      rw [←hjj] at HC
      have d1:(a:Int) / 64=(m:Int):=by omega
      have d2:(a:Int) % 64=(j:Int):=by omega
      have j0:(0:Int)≤(j:Int):=by omega
      have j1:(j:Int) < 64:=by omega
      have HT:=Lib.hid hT
      clear hO hcell HV HE hd hr hdis npl n1 n2 hlen hj hval hm hjj hk hT hn hf
      unfold ptr at hE hSz HO ⊢
      go_enter Tryz.func89,Tryz.ntmps89
      go_wp2_with (first
        | ((with_reducible refine hE.mono ?_); rintro e W1 ⟨rfl,rfl⟩)
        | ((with_reducible refine hSz.mono ?_); rintro e W1 ⟨rfl,rfl⟩))
      refine HO.out.mono ?_
      clear HO hE hSz c3 HT
      rintro e W1 ⟨q,fp1,ft1,B1,rfl,h1,hs1,hq1⟩
      have c:=HC.out W1 q (h1.pt _ q hq1).1
      clear HC
      go_wp2_with fail
      go_ret2
      exact ⟨rfl,fp1,ft1,B1,h1,hs1⟩
theorem Old_any (hT:TabAt w t bp bt bc fp ft fc B T) (hd:Dev w T.d C s) (hr:Reads s T) (hdis:∀ k∈C,k∉B) {a:Nat} (ha:a < 4294967296) :
  Calls Tryz.prog 23 #[ptr t,.int .u32 (a:Int)] w fun e w'=>e=.returned (.tuple #[.int .u16 (T.oldC a:Int),.int .i64 (cntE T.n a)])∧∃ fp' ft' B',TabAt w' t bp bt bc fp' ft' fc B' T∧Step B w w' B':=by
 have hO:=countOld_any hT hd hr hdis ha
 have HO:=Lib.hid hO
 clear hO hT hd hr hdis
 unfold ptr at HO ⊢
 go_enter Tryz.func23,Tryz.ntmps23
 go_wp2_with fail
 refine HO.out.mono ?_
 rintro e W1 ⟨rfl,h1⟩
 go_wp2_with fail
 go_ret2
 exact ⟨rfl,h1⟩
theorem countGet_any (hT:TabAt w t bp bt bc fp ft fc B T) (hd:Dev w T.d C s) (hr:Reads s T) (hdis:∀ k∈C,k∉B) {a:Nat} (ha:a < 4294967296) :
    Calls Tryz.prog 89 #[ptr t,.int .u32 (a:Int),.func (.func 90) #[] #[]] w fun e w'=>e=.returned (.tuple #[.int .u16 (T.nowC a:Int),.int .i64 (cntE T.n a)])∧∃ fp' ft' B',TabAt w' t bp bt bc fp' ft' fc B' T∧Step B w w' B':=by
  have hE:=exists_yesT hT
  have hSz:=Size_anyT hT hd hr.n
  have c3:w.cell? ⟨t,3,none⟩=some (.int .u32 (fsN T.n:Int)):=(hT.cell 3).trans rfl
  obtain ⟨n1,n2⟩:=plan_of hT.ok.plan
  have npl:=Rot.plan_facts n1 n2
  have HV:=Lib.hid (show T.nowC a=if fsN T.n≤a∧a < T.n then (T.now (a / 64)).getD (a % 64) 0 else 0 from rfl)
  have HE:=Lib.hid (show cntE T.n a=if T.n≤a then 2 else 0 from rfl)
  by_cases hn:T.n≤a
  · have i1:(T.n:Int)≤(a:Int):=by omega
    rw [HV.out,if_neg (by omega),HE.out,if_pos hn]
    clear HV HE hd hr hdis c3 npl n1 n2
    unfold ptr at hE hSz ⊢
    go_enter Tryz.func89,Tryz.ntmps89
    go_wp2_with (first
      | ((with_reducible refine hE.mono ?_); rintro e W1 ⟨rfl,rfl⟩)
      | ((with_reducible refine hSz.mono ?_); rintro e W1 ⟨rfl,rfl⟩))
    go_ret2
    exact ⟨rfl,fp,ft,B,hT,Step.refl _ _⟩
  · have i1:¬ (T.n:Int)≤(a:Int):=by omega
    by_cases hf:a < fsN T.n
    · have i2:(a:Int) < (fsN T.n:Int):=by omega
      rw [HV.out,if_neg (by omega),HE.out,if_neg hn]
      clear HV HE hd hr hdis npl n1 n2
      unfold ptr at hE hSz ⊢
      go_enter Tryz.func89,Tryz.ntmps89
      go_wp2_with (first
        | ((with_reducible refine hE.mono ?_); rintro e W1 ⟨rfl,rfl⟩)
        | ((with_reducible refine hSz.mono ?_); rintro e W1 ⟨rfl,rfl⟩))
      go_ret2
      exact ⟨rfl,fp,ft,B,hT,Step.refl _ _⟩
    · have i2:¬ (a:Int) < (fsN T.n:Int):=by omega
      have hk:a / 64 < tlN T.n:=by omega
      have hlen:(T.now (a / 64)).length=64:=(hT.ok.now (a / 64)).1
      have hj:a % 64 < (T.now (a / 64)).length:=by rw [hlen]; omega
      have hval:(T.now (a / 64)).getD (a % 64) 0=(T.now (a / 64))[a % 64]:=by rw [List.getD_eq_getElem?_getD,List.getElem?_eq_getElem hj]; rfl
      rw [HV.out,if_pos ⟨by omega,by omega⟩,HE.out,if_neg hn,hval]
      have hO:=current_any hT hd hr hdis hk
      have HO:=Lib.hid hO
      have hcell:∀ W q,IsPg .u16 137 W q (a / 64) (T.now (a / 64))→W.cell? ⟨q,1+a % 64,none⟩=some (.int .u16 ((T.now (a / 64))[a % 64]:Int)):=fun W q h=>h.num (a % 64) hj
      have HC:=Lib.hid hcell
      generalize (T.now (a / 64))[a % 64]=v at HC ⊢
      obtain ⟨m,hm⟩:∃ m,m=a / 64:=⟨_,rfl⟩
      obtain ⟨j,hjj⟩:∃ j,j=a % 64:=⟨_,rfl⟩
      rw [←hm] at HO HC
      rw [←hjj] at HC
      have d1:(a:Int) / 64=(m:Int):=by omega
      have d2:(a:Int) % 64=(j:Int):=by omega
      have j0:(0:Int)≤(j:Int):=by omega
      have j1:(j:Int) < 64:=by omega
      have HT:=Lib.hid hT
      clear hO hcell HV HE hd hr hdis npl n1 n2 hlen hj hval hm hjj hk hT hn hf
      unfold ptr at hE hSz HO ⊢
      go_enter Tryz.func89,Tryz.ntmps89
      go_wp2_with (first
        | ((with_reducible refine hE.mono ?_); rintro e W1 ⟨rfl,rfl⟩)
        | ((with_reducible refine hSz.mono ?_); rintro e W1 ⟨rfl,rfl⟩))
      refine HO.out.mono ?_
      clear HO hE hSz c3 HT
      rintro e W1 ⟨q,fp1,ft1,B1,rfl,h1,hs1,hq1⟩
      have c:=HC.out W1 q hq1
      clear HC
      go_wp2_with fail
      go_ret2
      exact ⟨rfl,fp1,ft1,B1,h1,hs1⟩
theorem Get_any (hT:TabAt w t bp bt bc fp ft fc B T) (hd:Dev w T.d C s) (hr:Reads s T) (hdis:∀ k∈C,k∉B) {a:Nat} (ha:a < 4294967296) :
  Calls Tryz.prog 22 #[ptr t,.int .u32 (a:Int)] w fun e w'=>e=.returned (.tuple #[.int .u16 (T.nowC a:Int),.int .i64 (cntE T.n a)])∧∃ fp' ft' B',TabAt w' t bp bt bc fp' ft' fc B' T∧Step B w w' B':=by
 have hO:=countGet_any hT hd hr hdis ha
 have HO:=Lib.hid hO
 clear hO hT hd hr hdis
 unfold ptr at HO ⊢
 go_enter Tryz.func22,Tryz.ntmps22
 go_wp2_with fail
 refine HO.out.mono ?_
 rintro e W1 ⟨rfl,h1⟩
 go_wp2_with fail
 go_ret2
 exact ⟨rfl,h1⟩
def setS (T:TD) (a v:Nat):TD:=if fsN T.n≤a∧a < T.n then setC T (a / 64) ((T.now (a / 64)).set (a % 64) v) else T
def setE (n a:Nat):Int:=if fsN n≤a∧a < n then 0 else 2
theorem setC_setC (T:TD) (p:Nat) (ns ns':List Nat):setC (setC T p ns) p ns'=setC T p ns':=by
 unfold setC
 congr 1
 funext x
 simp only
 split <;> rfl
theorem Set_any (hT:TabAt w t bp bt bc fp ft fc B T) (hd:Dev w T.d C s) (hr:Reads s T) (hdis:∀ k∈C,k∉B) {a v:Nat} (ha:a < 4294967296) (hv:v < 65536) :
    Calls Tryz.prog 17 #[ptr t,.int .u32 (a:Int),.int .u16 (v:Int)] w fun e w'=>e=.returned (.int .i64 (setE T.n a))∧∃ fp' ft' fc' B',TabAt w' t bp bt bc fp' ft' fc' B' (setS T a v)∧Step B w w' B':=by
  have hE:=exists_yesT hT
  have hSz:=Size_anyT hT hd hr.n
  have c3:w.cell? ⟨t,3,none⟩=some (.int .u32 (fsN T.n:Int)):=(hT.cell 3).trans rfl
  obtain ⟨n1,n2⟩:=plan_of hT.ok.plan
  have npl:=Rot.plan_facts n1 n2
  by_cases hin:fsN T.n≤a∧a < T.n
  · have hk:a / 64 < tlN T.n:=by omega
    rw [show setE T.n a=0 from if_pos hin,show setS T a v=setC T (a / 64) ((T.now (a / 64)).set (a % 64) v) from if_pos hin]
    have i1:¬ (T.n:Int)≤(a:Int):=by omega
    have i2:¬ (a:Int) < (fsN T.n:Int):=by omega
    have hlen:=(hT.ok.now (a / 64)).1
    have hO:=own_any hT hd hr hdis hk
    have HO:=Lib.hid hO
    obtain ⟨ns,hns⟩:∃ ns,ns=T.now (a / 64):=⟨_,rfl⟩
    rw [←hns] at HO hlen ⊢
    obtain ⟨m,hm⟩:∃ m,m=a / 64:=⟨_,rfl⟩
    obtain ⟨j,hjj⟩:∃ j,j=a % 64:=⟨_,rfl⟩
    rw [←hm] at HO ⊢
    rw [←hjj]
    have d1:(a:Int) / 64=(m:Int):=by omega
    have d2:(a:Int) % 64=(j:Int):=by omega
    have j0:(0:Int)≤(j:Int):=by omega
    have j1:(j:Int) < 64:=by omega
    have jl:j < ns.length:=by omega
    have HJL:=Lib.hid jl; have HLEN:=Lib.hid hlen
    clear hO hd hr hdis npl n1 n2 hm hjj hk hT hin hns hlen jl
    unfold ptr at hE hSz HO ⊢
    go_enter Tryz.func17,Tryz.ntmps17
    go_wp2_with (first
      | ((with_reducible refine hE.mono ?_); rintro e W1 ⟨rfl,rfl⟩)
      | ((with_reducible refine hSz.mono ?_); rintro e W1 ⟨rfl,rfl⟩))
    refine HO.out.mono ?_
    clear HO hE hSz c3
    rintro e W1 ⟨q,fp1,ft1,fc1,B1,rfl,h1,hs1,hq1⟩
    obtain ⟨⟨ns1,hn1,hpg⟩,_⟩:=h1.pc m q hq1
    obtain rfl:ns=ns1:=by
      have:(setC T m ns).C m=some ns:=if_pos rfl
      rw [this] at hn1
      exact Option.some.inj hn1
    have c:=hpg.num j HJL.out
    have f:=hpg.frozen (1+j)
    obtain ⟨h2,hs2⟩:=h1.setNum (j:=j) (n:=v) hq1 hn1 hv
    rw [setC_setC] at h2
    generalize ns[j]'HJL.out=v0 at c
    clear h1 hpg hn1
    go_wp2_with fail
    go_ret
    exact ⟨rfl,fp1,ft1,fc1,B1,h2,hs1.trans hs2⟩
  · rw [show setE T.n a=2 from if_neg hin,show setS T a v=T from if_neg hin]
    clear hd hr hdis npl n1 n2
    unfold ptr at hE hSz ⊢
    by_cases hf:a < fsN T.n
    · have i2:(a:Int) < (fsN T.n:Int):=by omega
      clear hin
      go_enter Tryz.func17,Tryz.ntmps17
      go_wp2_with (first
        | ((with_reducible refine hE.mono ?_); rintro e W1 ⟨rfl,rfl⟩)
        | ((with_reducible refine hSz.mono ?_); rintro e W1 ⟨rfl,rfl⟩))
      go_ret
      exact ⟨rfl,fp,ft,fc,B,hT,Step.refl _ _⟩
    · have i2:¬ (a:Int) < (fsN T.n:Int):=by omega
      have i1:(T.n:Int)≤(a:Int):=by omega
      clear hin hf
      go_enter Tryz.func17,Tryz.ntmps17
      go_wp2_with (first
        | ((with_reducible refine hE.mono ?_); rintro e W1 ⟨rfl,rfl⟩)
        | ((with_reducible refine hSz.mono ?_); rintro e W1 ⟨rfl,rfl⟩))
      go_ret
      exact ⟨rfl,fp,ft,fc,B,hT,Step.refl _ _⟩
end
end Cnt
namespace Cnt
open Go.RowKit RowLaw Crc
open Dev (Dev DS ptr Turn Step readB)
open Rot (planOk tlN pkN fsN planCells)
open Slt (Rt cells rootO IsRt)
open Tal (kT kP fT fP getNs getNs_length getE zs PK nsOf numAt)
def tdOf (d:Nat) (s:DS) (ch:Nat):TD:=
 let T0:TD:=⟨d,s.n,ch,fun _=>[],fun _=>[],fun _=>none⟩
 let T1:TD:={ T0 with PV:=fun k=>getNs kP (readB s (pkAt T0 k)) k }
 { T1 with TV:=fun p=>getNs kT (readB s (tlAt T1 p)) p }
theorem numAt_lt (k:PK) {l:List UInt8} (j:Nat):numAt k l j < 256 ^ k.wd:=by
 unfold numAt
 refine Nat.lt_of_lt_of_le (Fld.leNat_lt _) (Nat.pow_le_pow_right (by omega) ?_)
 unfold Fld.piece
 rw [List.length_take]
 exact Nat.min_le_left _ _
theorem getNs_mem (k:PK) {l:List UInt8} {idx x:Nat} (h:x∈getNs k l idx) (hp:0 < 256 ^ k.wd):x < 256 ^ k.wd:=by
 unfold getNs at h
 split at h
 ·unfold nsOf Tal.nsTo at h
  rw [List.mem_map] at h
  obtain ⟨j,_,rfl⟩:=h
  exact numAt_lt k j
 ·unfold zs at h
  rw [List.mem_replicate] at h
  rw [h.2]; exact hp
theorem tdOf_ok {d:Nat} {s:DS} {ch:Nat} (h:planOk s.n=true) (hc:ch < 4294967296):TOk (tdOf d s ch):=
 ⟨h,hc,fun _=>getNs_length _ _ _,fun _ _ hx=>getNs_mem kP hx (by decide),fun _=>getNs_length _ _ _,fun _ _ hx=>getNs_mem kT hx (by decide),fun _ _ h=>(by cases h),fun _ _ h=>(by cases h)⟩
structure Sound (s:DS) (ch:Nat):Prop where
 plan:planOk s.n=true
 chl:ch < 4294967296
 pend:s.pend.length < 4294967296
 pick:∀ k,k < pkN s.n→getE kP (readB s (pkAt (tdOf 0 s ch) k)) k=0
 tally:∀ p,p < tlN s.n→getE kT (readB s (tlAt (tdOf 0 s ch) p)) p=0
theorem Sound.reads {s:DS} {ch:Nat} (h:Sound s ch) (d:Nat):Reads s (tdOf d s ch):=⟨rfl,h.pend,fun k hk=>⟨h.pick k hk,rfl⟩,fun p hp=>⟨h.tally p hp,rfl⟩⟩
def tabV (d tl pk fs ch a b c:Nat):Array Value:=#[ptr d,.int .u32 (tl:Int),.int .u32 (pk:Int),.int .u32 (fs:Int),.int .u32 (ch:Int),.map (some a),.map (some b),.map (some c)]
theorem built_tab (d tl pk fs ch a b c:Nat):Tryz.prog.built 159 [(0,ptr d),(1,.agg (planCells tl pk fs)),(2,.int .u32 (ch:Int)),(3,.map (some a)),(4,.map (some b)),(5,.map (some c))]=some (tabV d tl pk fs ch a b c):=by kernel_rfl
theorem wpList_build_tab {ops:Array Oper} {rest:List Oper} {o:Oper} {ac:Act} {w:World} {Q:Exit→Act→World→Prop} (hgd:o.guard=none) (x0 x1 x2 x3 x4 x5:Operand) (ho:o.op=.build 159 #[(0,x0),(1,x1),(2,x2),(3,x3),(4,x4),(5,x5)]) (d tl pk fs ch a b c:Nat)
  (h0:ac.eval x0=ptr d) (h1:ac.eval x1=.agg (planCells tl pk fs)) (h2:ac.eval x2=.int .u32 (ch:Int)) (h3:ac.eval x3=.map (some a)) (h4:ac.eval x4=.map (some b)) (h5:ac.eval x5=.map (some c))
  (h: wpList Tryz.prog ops Q rest (ac.put o.dst (.agg (tabV d tl pk fs ch a b c))) w): wpList Tryz.prog ops Q (o::rest) ac w:=by
 refine wpList_plain hgd fun K hK=>?_
 unfold Oper.wp execOp
 simp only [ho,List.map_toArray,List.map_cons,List.map_nil,h0,h1,h2,h3,h4,h5,Sem.run_bind,Sem.run_pure,run_build w _ _ _ (built_tab d tl pk fs ch a b c),Result.andThen_ok]
 exact hK _ _ h
theorem three_maps (W:World):PMap (((W.alloc (.map #[] 0)).alloc (.map #[] 0)).alloc (.map #[] 0)) W.heap.size (fun _=>none)∧PMap (((W.alloc (.map #[] 0)).alloc (.map #[] 0)).alloc (.map #[] 0)) (W.heap.size+1) (fun _=>none)∧
  PMap (((W.alloc (.map #[] 0)).alloc (.map #[] 0)).alloc (.map #[] 0)) (W.heap.size+1+1) (fun _=>none)∧Below W.heap.size W (((W.alloc (.map #[] 0)).alloc (.map #[] 0)).alloc (.map #[] 0))∧(((W.alloc (.map #[] 0)).alloc (.map #[] 0)).alloc (.map #[] 0)).heap.size=W.heap.size+3:=by
 have h0:=PMap.made W
 have h1:=PMap.made (W.alloc (.map #[] 0))
 have h2:=PMap.made ((W.alloc (.map #[] 0)).alloc (.map #[] 0))
 simp only [World.size_alloc] at h1 h2
 refine ⟨(h0.kept (Below.heap_alloc _ _ _ (by simp only [World.size_alloc]; omega))).kept (Below.heap_alloc _ _ _ (by simp only [World.size_alloc]; omega)),h1.kept (Below.heap_alloc _ _ _ (by simp only [World.size_alloc]; omega)),h2,
  (((Below.refl _ _).alloc (Nat.le_refl _) _).alloc (by simp only [World.size_alloc]; omega) _).alloc (by simp only [World.size_alloc]; omega) _,by simp only [World.size_alloc]⟩
section
variable {w:World} {d:Nat} {C:List Nat} {s:DS}
theorem Open_any (hd:Dev w d C s) (hp:planOk s.n=true) {r:Rt} (hr:r.size=s.n) (hc:r.picks < 4294967296) :
    Calls Tryz.prog 16 #[ptr d,.agg (cells r)] w fun e w'=>∃ t B,e=.returned (.tuple #[ptr t,.int .i64 0])∧Tab w' t B (tdOf d s r.picks)∧Below w.heap.size w w'∧∀ k∈B,w.heap.size≤k:=by
  have hok:=tdOf_ok (d:=d) hp hc
  obtain ⟨h1,h2⟩:=plan_of hp
  have hb:Below w.heap.size w (w.alloc (rootO r)):=(Below.refl _ _).alloc (Nat.le_refl _) _
  have hz:((s.n:Int) == 0)=false:=by rw [beq_eq_false_iff_ne]; omega
  have hSz:Hid (∀ W,Below w.heap.size w W→Calls Tryz.prog 67 #[ptr d] W fun e w'=>e=.returned (.int .u32 (s.n:Int))∧w'=W):=Lib.hid (fun W hW=>Rot.Size_any (hd.below hW))
  have hR:IsRt (w.alloc (rootO r)) w.heap.size r:=heap_alloc_new w _
  have HLy:=Lib.hid (fun W=>Rot.Layout_yes hp W)
  rw [←hr] at hz hSz HLy
  have HR:=Lib.hid hr
  clear hd hp hr h1 h2
  unfold ptr at hSz ⊢
  go_enter Tryz.func16,Tryz.ntmps16
  go_upto_region 1 with fail
  change Code.wp _ _ _ _ (w.alloc (rootO r))
  generalize hq:w.heap.size=q at hR
  generalize w.alloc (rootO r)=W1 at hb hR ⊢
  have hS1:=hSz.out W1 hb
  have c1:=hR.size
  have c2:W1.cell? ⟨q,2,none⟩=some (.int .u32 (r.picks:Int)):=hR.picks
  go_wp2_with ((with_reducible refine hS1.mono ?_); rintro e W2 ⟨rfl,rfl⟩)
  refine (HLy.out _).mono ?_
  clear HLy c1 c2 hS1 hz
  rintro e W3 ⟨rfl,hx⟩
  have hb3:=hb.trans (hx.mono hb.size)
  have hR3:IsRt W3 q r:=(hx.block q (Array.getElem?_eq_some_iff.1 hR).1).trans hR
  clear hb hx hR
  have hzp:=(zero_of_info Rot.infoPlan).1
  obtain ⟨tl,htl⟩:∃ tl,tl=tlN r.size:=⟨_,rfl⟩
  obtain ⟨pk,hpk⟩:∃ pk,pk=pkN r.size:=⟨_,rfl⟩
  obtain ⟨fs,hfs⟩:∃ fs,fs=fsN r.size:=⟨_,rfl⟩
  rw [←htl,←hpk,←hfs]
  have HTL:=Lib.hid htl; have HPK:=Lib.hid hpk; have HFS:=Lib.hid hfs
  clear htl hpk hfs
  have tok:True:=trivial
  go_upto_region 4 with (have _t:=tok; refine wpList_store_new rfl 82 _ _ rfl (planCells tl pk fs) _ _ rfl rfl (Rot.sizePlan _ _ _) rfl (Rot.planCells_one _ _ _) ?_; change wpList _ _ _ _ _ (W3.alloc (Rot.planO tl pk fs)); clear _t tok)
  change Code.wp _ _ _ _ (W3.alloc (Rot.planO tl pk fs))
  have hb4:Below w.heap.size w (W3.alloc (Rot.planO tl pk fs)):=hb3.trans ((Below.refl _ _).alloc hb3.size _)
  have hR4:IsRt (W3.alloc (Rot.planO tl pk fs)) q r:=(Below.heap_alloc _ _ q (Array.getElem?_eq_some_iff.1 hR3).1).trans hR3
  have hP4:(W3.alloc (Rot.planO tl pk fs)).heap[W3.heap.size]? = some (.cells (planCells tl pk fs) 82 (0,0)):=heap_alloc_new W3 _
  generalize W3.heap.size=p6 at hP4 ⊢
  generalize W3.alloc (Rot.planO tl pk fs)=W4 at hb4 hR4 hP4 ⊢
  clear hb3 hR3 hzp
  have c1:=hR4.size
  have hbq:∀ n,Below w.heap.size w (W4.drewN n):=fun n=>⟨hb4.os,hb4.tape,hb4.output,hb4.size,hb4.block⟩
  have d0:((r.size:Int) != (r.size:Int))=false:=by simp
  go_wp2_with fail
  go_quiet ((go_at_call 67; exact Calls.quiet_of_same (hSz.out _ (hbq _))))
  have hb5:=hbq nq
  have hR5:IsRt (W4.drewN nq) q r:=hR4
  have hP5:(W4.drewN nq).heap[p6]? = some (.cells (planCells tl pk fs) 82 (0,0)):=hP4
  generalize W4.drewN nq=W5 at hb5 hR5 hP5 ⊢
  clear hbq hb4 hR4 hP4 c1 d0
  have c2:W5.cell? ⟨q,2,none⟩=some (.int .u32 (r.picks:Int)):=hR5.picks
  have hmm:=@run_makeMap Tryz.prog
  have tok:True:=trivial
  go_wp2_with (first
    | (have _t:=tok; refine wpList_load_row rfl 82 _ rfl p6 rfl _ _ _ _ hP5 Tryz.underlying82 rfl (Rot.sizePlan _ _ _) ?_; clear _t tok)
    | (refine wpList_build_tab rfl _ _ _ _ _ _ rfl d tl pk fs r.picks _ _ _ rfl rfl rfl rfl rfl rfl ?_; clear hmm
       obtain ⟨m0,m1,m2,mb,ms⟩:=three_maps W5
       simp only [World.size_alloc]
       have ha:=hb5.size
       replace mb:=hb5.trans (mb.mono hb5.size)
       clear hb5 c2
       generalize W5.heap.size=a0 at m0 m1 m2 ms ha ⊢
       generalize ((W5.alloc (.map #[] 0)).alloc (.map #[] 0)).alloc (.map #[] 0)=W6 at m0 m1 m2 mb ms ⊢))
  go_ret2
  have hT:TabAt (W6.alloc (.cells (tabV d tl pk fs r.picks a0 (a0+1) (a0+1+1)) 159)) (a0+3) a0 (a0+1) (a0+1+1) (fun _=>none) (fun _=>none) (fun _=>none) [a0+3,a0,a0+1,a0+1+1] (tdOf d s r.picks):=by
    refine ⟨hok,?_,m0.kept (Below.heap_alloc _ _ _ (by omega)),m1.kept (Below.heap_alloc _ _ _ (by omega)),m2.kept (Below.heap_alloc _ _ _ (by omega)),fun _ _ h=>(by cases h),fun _ _ h=>(by cases h),fun _ _ h=>(by cases h),fun _ _=>rfl,fun _ _ h=>(by cases h),fun _ _ h=>(by cases h),fun _ _ _ h=>(by cases h),by simp,by omega,fun k hk=>?_⟩
    · have:=heap_alloc_new W6 (.cells (tabV d tl pk fs r.picks a0 (a0+1) (a0+1+1)) 159)
      rw [ms] at this
      rw [this,HTL.out,HPK.out,HFS.out,HR.out]
      rfl
    · simp only [World.size_alloc,ms]
      simp only [List.mem_cons,List.not_mem_nil,or_false] at hk
      omega
  refine ⟨a0+3,_,rfl,⟨_,_,_,_,_,_,hT⟩,mb.trans ((Below.refl _ _).alloc mb.size _),fun k hk=>?_⟩
  simp only [List.mem_cons,List.not_mem_nil,or_false] at hk
  omega
end
end Cnt

end Go.Proofs.YtgkbfahflngklaaGreat
