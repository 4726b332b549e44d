import Derived.Test.YtgkbfahflngklaaGreatFld4
import Derived.Test.YtgkbfahflngklaaGreatFld2
import Derived.Test.YtgkbfahflngklaaGreatPln
set_option maxRecDepth 100000
set_option maxHeartbeats 1600000
namespace Go.Proofs.YtgkbfahflngklaaGreat
namespace Tal
open Go.RowKit RowLaw Crc Fld
open Go.Proofs.YtgkbfahflngklaaGreat.Node (piece_add leB_leNat blank_replicate fset openSt_cases)
structure PK where
 n:Nat
 wd:Nat
 lim:Nat
 m:UInt8
structure PK.Fine (k:PK):Prop where
 len:k.wd * k.n=128
 lim:k.lim≤16384
 pos:0 < k.n
def kT:PK:=⟨64,2,16384,84⟩
def kP:PK:=⟨16,8,16,80⟩
theorem fT:kT.Fine:=⟨by decide,by decide,by decide⟩
theorem fP:kP.Fine:=⟨by decide,by decide,by decide⟩
def pgCells (K: IntKind) (idx: Nat) (ns: List Nat): Array Value:=(Value.int .u32 (idx: Int)::ns.map fun n: Nat=>Value.int K (n: Int)).toArray
section
variable {K:IntKind}
theorem pgCells_size (idx:Nat) (ns:List Nat):(pgCells K idx ns).size=ns.length+1:=by simp [pgCells]
theorem pgCells_idx (idx:Nat) (ns:List Nat):(pgCells K idx ns)[0]? = some (.int .u32 (idx:Int)):=by simp [pgCells]
theorem pgCells_num (idx:Nat) (ns:List Nat) (j:Nat) (h:j < ns.length):(pgCells K idx ns)[1+j]? = some (.int K (ns[j]:Int)):=by
 unfold pgCells
 rw [List.getElem?_toArray,Nat.add_comm 1 j,List.getElem?_cons_succ,List.getElem?_map,List.getElem?_eq_getElem h]
 rfl
theorem pgCells_one (idx:Nat) (ns:List Nat):(pgCells K idx ns).all (·.oneCell')=true:=by
 unfold pgCells
 rw [List.all_toArray,List.all_cons,List.all_map]
 simp [Value.oneCell',Function.comp_def]
theorem pgCells_set (idx:Nat) (ns:List Nat) (j n:Nat):(pgCells K idx ns).setIfInBounds (1+j) (.int K (n:Int))=pgCells K idx (ns.set j n):=by
 unfold pgCells
 rw [List.setIfInBounds_toArray,Nat.add_comm 1 j,List.set_cons_succ,List.map_set]
theorem pgCells_setIdx (idx n:Nat) (ns:List Nat):(pgCells K idx ns).setIfInBounds 0 (.int .u32 (n:Int))=pgCells K n ns:=by
 unfold pgCells
 rw [List.setIfInBounds_toArray,List.set_cons_zero]
end
def pgTo (k:PK) (idx:Nat) (ns:List Nat) (j:Nat):List UInt8:=leB idx 4 ++ (ns.take j).flatMap fun n=>leB n k.wd
theorem flat_length (wd:Nat):∀ ns:List Nat,(ns.flatMap fun n=>leB n wd).length=wd * ns.length
 | []=>rfl
 | p::ps=>by rw [List.flatMap_cons,List.length_append,leB_length,flat_length wd ps,List.length_cons,Nat.mul_add,Nat.mul_one,Nat.add_comm]
theorem pgTo_length (k:PK) (idx:Nat) (ns:List Nat) (j:Nat) (h:j≤ns.length):(pgTo k idx ns j).length=4+k.wd * j:=by
 unfold pgTo
 rw [List.length_append,leB_length,flat_length,List.length_take,Nat.min_eq_left h]
theorem pgTo_zero (k:PK) (idx:Nat) (ns:List Nat):pgTo k idx ns 0=leB idx 4:=by simp [pgTo]
theorem pgTo_succ (k:PK) (idx:Nat) (ns:List Nat) (j:Nat) (h:j < ns.length):pgTo k idx ns (j+1)=pgTo k idx ns j ++ leB ns[j] k.wd:=by
 unfold pgTo
 rw [List.take_succ_eq_append_getElem h,List.flatMap_append,List.append_assoc]
 simp
def page (k:PK) (idx:Nat) (ns:List Nat):List UInt8:=pgTo k idx ns k.n
theorem page_length {k:PK} (hk:k.Fine) (idx:Nat) {ns:List Nat} (h:ns.length=k.n):(page k idx ns).length=132:=by
 unfold page
 rw [pgTo_length _ _ _ _ (by omega),hk.len]
def pgB (k:PK) (idx:Nat) (ns:List Nat):List UInt8:=fdone (page k idx ns) k.m
def putB (k:PK) (idx:Nat) (ns:List Nat):List UInt8:=if idx < k.lim then pgB k idx ns else zeros
def putE (k:PK) (idx:Nat):Int:=if idx < k.lim then 0 else 2
theorem pgB_length {k:PK} (hk:k.Fine) (idx:Nat) {ns:List Nat} (h:ns.length=k.n):(pgB k idx ns).length=256:=fdone_length _ _ (by rw [page_length hk idx h]; omega)
theorem putB_length {k:PK} (hk:k.Fine) (idx:Nat) {ns:List Nat} (h:ns.length=k.n):(putB k idx ns).length=256:=by
 unfold putB
 split
 ·exact pgB_length hk idx h
 ·exact zeros_length
theorem putB_yes {k:PK} {idx:Nat} (ns:List Nat) (h:idx < k.lim):putB k idx ns=pgB k idx ns:=if_pos h
theorem putE_yes {k:PK} {idx:Nat} (h:idx < k.lim):putE k idx=0:=if_pos h
theorem putE_no {k:PK} {idx:Nat} (h:¬ idx < k.lim):putE k idx=2:=if_neg h
def idxOf (l:List UInt8):Nat:=leNat (piece l 1 4)
def numAt (k:PK) (l:List UInt8) (j:Nat):Nat:=leNat (piece l (5+k.wd * j) k.wd)
def nsTo (k:PK) (l:List UInt8) (j:Nat):List Nat:=(List.range j).map (numAt k l)
def nsOf (k:PK) (l:List UInt8):List Nat:=nsTo k l k.n
theorem nsTo_length (k:PK) (l:List UInt8) (j:Nat):(nsTo k l j).length=j:=by simp [nsTo]
theorem nsOf_length (k:PK) (l:List UInt8):(nsOf k l).length=k.n:=nsTo_length k l _
theorem nsOf_get (k:PK) (l:List UInt8) (j:Nat) (h:j < (nsOf k l).length):(nsOf k l)[j]=numAt k l j:=by simp [nsOf,nsTo]
theorem wd_le {k:PK} (hk:k.Fine) {j:Nat} (h:j≤k.n):k.wd * j≤128:=by
 have:=Nat.mul_le_mul_left k.wd h
 rw [hk.len] at this; exact this
theorem wd_le1 {k:PK} (hk:k.Fine) {j:Nat} (h:j < k.n):k.wd * j+k.wd≤128:=by
 have:=wd_le hk (show j+1≤k.n by omega)
 rw [Nat.mul_add,Nat.mul_one] at this; exact this
theorem pgTo_of {k:PK} (hk:k.Fine) (l:List UInt8) (hl:l.length=256):∀ j,j≤k.n→pgTo k (idxOf l) (nsOf k l) j=piece l 1 (4+k.wd * j)
 | 0,_=>by
  rw [pgTo_zero]
  have h:=leB_leNat (piece l 1 4)
  rw [piece_length l 1 4 (by omega)] at h
  rw [Nat.mul_zero]
  exact h
 | j+1,hj=>by
  have hw:=wd_le1 hk hj
  have h:=leB_leNat (piece l (5+k.wd * j) k.wd)
  rw [piece_length l _ k.wd (by omega)] at h
  rw [pgTo_succ _ _ _ _ (by rw [nsOf_length]; omega),pgTo_of hk l hl j (by omega),nsOf_get,numAt,h,Nat.mul_add,Nat.mul_one,←Nat.add_assoc,piece_add l 1 (4+k.wd * j) k.wd,show 1+(4+k.wd * j)=5+k.wd * j from by omega]
theorem page_of {k:PK} (hk:k.Fine) (l:List UInt8) (hl:l.length=256):page k (idxOf l) (nsOf k l)=piece l 1 132:=by
 unfold page
 rw [pgTo_of hk l hl k.n (by omega),hk.len]
theorem take_pieces (l: List UInt8) (hl: l.length=256): l.take 252=l.getD 0 0::(piece l 1 132 ++ piece l 133 119):=by
 have h:piece l 0 (1+(132+119))=l.take 252:=by simp [piece]
 rw [←h,piece_add,piece_add]
 have h0:piece l 0 1=[l.getD 0 0]:=by
  unfold piece
  rw [List.drop_zero,show (1:Nat)=0+1 from rfl,List.take_succ_eq_append_getElem (by omega),List.getD_eq_getElem?_getD,List.getElem?_eq_getElem (by omega)]
  rfl
 rw [h0]; rfl
theorem page_iff (l:List UInt8) (hl:l.length=256) (m:UInt8):fdone (piece l 1 132) m=l↔openSt l m=some (l,1)∧blankB (piece l 133 119)=true:=by
 have hp:=piece_length l 1 132 (by omega)
 constructor
 ·intro h
  have a1:l.getD 0 0=m:=by rw [←h]; exact fdone_first _ _
  have a2:sealB l=l:=by
   have:=fdone_good (piece l 1 132) m (by omega)
   rw [h] at this; exact this
  refine ⟨if_pos ⟨a1,a2⟩,?_⟩
  ·refine blankB_piece_true l 133 119 (by omega) (fun j hj h1 h2=>?_)
   have:=fdone_zero (piece l 1 132) m j (by omega) (by omega)
   rw [h,List.getElem?_eq_getElem hj] at this
   exact Option.some.inj this
 ·rintro ⟨ho,hb⟩
  unfold openSt at ho
  split at ho
  ·rename_i hc
   have hq:=blank_replicate hb
   rw [piece_length l 133 119 (by omega)] at hq
   unfold fdone
   refine Eq.trans (sealB_congr ?_) hc.2
   rw [take_pieces l hl,hq,hc.1,fset,hp,List.take_succ_cons,List.take_append,hp,List.take_of_length_le (by omega),List.take_replicate]
   rfl
  ·cases ho
theorem pgTo_drop (k:PK) (idx:Nat) (ns:List Nat) (n:Nat) (h:ns.length=n) (j:Nat) (hj:j < ns.length):((pgTo k idx ns n).drop (4+k.wd * j)).take k.wd=leB ns[j] k.wd:=by
 have e:pgTo k idx ns n=pgTo k idx ns j ++ (leB ns[j] k.wd ++ (ns.drop (j+1)).flatMap fun n=>leB n k.wd):=by
  unfold pgTo
  rw [List.take_of_length_le (by omega),List.append_assoc]
  congr 1
  have h2: ns=ns.take j ++ (ns[j]::ns.drop (j+1)):=by rw [←List.drop_eq_getElem_cons hj,List.take_append_drop]
  conv=>lhs; rw [h2]
  rw [List.flatMap_append,List.flatMap_cons]
 rw [e,List.drop_append,pgTo_length k idx ns j (by omega),Nat.sub_self,List.drop_of_length_le (by rw [pgTo_length k idx ns j (by omega)]; omega),List.nil_append,List.drop_zero,List.take_append,leB_length,Nat.sub_self,List.take_zero,List.append_nil,
  List.take_of_length_le (by rw [leB_length]; omega)]
theorem pg_ns {k:PK} (hk:k.Fine) (idx:Nat) {ns:List Nat} (h:ns.length=k.n) (hs:∀ j (hj:j < ns.length),ns[j] < 256 ^ k.wd):nsOf k (pgB k idx ns)=ns:=by
 have hn:=page_length hk idx h
 apply List.ext_getElem
 ·rw [nsOf_length,h]
 ·intro j h1 h2
  have hw:=wd_le1 hk (show j < k.n by omega)
  rw [nsOf_get,numAt,show 5+k.wd * j=1+(4+k.wd * j) from by omega,pgB,fdone_piece _ _ _ _ (by omega) (by omega),page,pgTo_drop k idx ns k.n h j h2,leNat_leB,Nat.mod_eq_of_lt (hs j h2)]
theorem pg_idx {k:PK} (hk:k.Fine) {idx:Nat} {ns:List Nat} (h:ns.length=k.n) (hi:idx < 4294967296):idxOf (pgB k idx ns)=idx:=by
 have hn:=page_length hk idx h
 unfold idxOf pgB
 have e:=fdone_piece (page k idx ns) k.m 0 4 (by omega) (by omega)
 rw [Nat.add_zero,List.drop_zero] at e
 rw [e]
 have e2:(page k idx ns).take 4=leB idx 4:=by
  unfold page pgTo
  rw [List.take_append,leB_length,Nat.sub_self,List.take_zero,List.append_nil,List.take_of_length_le (by rw [leB_length]; omega)]
 rw [e2,leNat_leB]
 omega
def isG (k:PK) (l:List UInt8) (idx:Nat):Bool:=decide (l=zeros)||decide (pgB k idx (nsOf k l)=l)
def getE (k:PK) (l:List UInt8) (idx:Nat):Int:=if idx < k.lim then (if isG k l idx=true then 0 else 250) else 2
def zs (k:PK):List Nat:=List.replicate k.n 0
def getI (k:PK) (l:List UInt8) (idx:Nat):Nat:=if getE k l idx=0 then idx else 0
def getNs (k:PK) (l:List UInt8) (idx:Nat):List Nat:=if getE k l idx=0 then nsOf k l else zs k
theorem zs_length (k:PK):(zs k).length=k.n:=by simp [zs]
theorem getNs_length (k:PK) (l:List UInt8) (idx:Nat):(getNs k l idx).length=k.n:=by
 unfold getNs
 split
 ·exact nsOf_length k l
 ·exact zs_length k
theorem nsOf_zerosT:nsOf kT zeros=zs kT:=by decide +kernel
theorem nsOf_zerosP:nsOf kP zeros=zs kP:=by decide +kernel
theorem pgB_iff {k:PK} (hk:k.Fine) {l:List UInt8} (hl:l.length=256) {idx:Nat} (hi:idx < 4294967296):pgB k idx (nsOf k l)=l↔(openSt l k.m=some (l,1)∧blankB (piece l 133 119)=true)∧idxOf l=idx:=by
 constructor
 ·intro h
  have e:idxOf l=idx:=by
   have:=pg_idx hk (nsOf_length k l) hi
   rw [h] at this; exact this
  refine ⟨?_,e⟩
  rw [←page_iff l hl,←page_of hk l hl,e]
  exact h
 ·rintro ⟨h,rfl⟩
  unfold pgB
  rw [page_of hk l hl]
  exact (page_iff l hl _).2 h
theorem getE_cases (k:PK) (l:List UInt8) (idx:Nat):getE k l idx=0∨getE k l idx=250∨getE k l idx=2:=by
 unfold getE
 split
 ·split <;> simp
 ·simp
theorem getE_zero {k:PK} {l:List UInt8} {idx:Nat}:getE k l idx=0↔idx < k.lim∧(l=zeros∨pgB k idx (nsOf k l)=l):=by
 unfold getE isG
 split
 ·rename_i h
  rw [←Bool.decide_or]
  split
  ·rename_i h2
   have:=of_decide_eq_true h2
   simp [h,this]
  ·rename_i h2
   have h3:¬ (l=zeros∨pgB k idx (nsOf k l)=l):=fun h=>h2 (decide_eq_true h)
   constructor
   ·intro h4; cases h4
   ·rintro ⟨_,h4⟩; exact absurd h4 h3
 ·rename_i h
  constructor
  ·intro h4; cases h4
  ·rintro ⟨h4,_⟩; exact absurd h4 h
theorem back {k:PK} (hk:k.Fine) {idx:Nat} {ns:List Nat} (h:ns.length=k.n) (hs:∀ j (hj:j < ns.length),ns[j] < 256 ^ k.wd) (hi:idx < k.lim) :
  getI k (pgB k idx ns) idx=idx∧getNs k (pgB k idx ns) idx=ns∧getE k (pgB k idx ns) idx=0:=by
 have e:=pg_ns hk idx h hs
 have hz:getE k (pgB k idx ns) idx=0:=getE_zero.2 ⟨hi,.inr (by rw [e])⟩
 unfold getI getNs
 rw [if_pos hz,if_pos hz]
 exact ⟨rfl,e,hz⟩
end Tal
namespace Tal
open Go.RowKit RowLaw Crc Fld
theorem infoT:(Tryz.prog.info? 137).map (fun i=>(i.zero,i.size))=some (some (.agg (pgCells .u16 0 (zs kT))),65):=by kernel_rfl
theorem infoP:(Tryz.prog.info? 142).map (fun i=>(i.zero,i.size))=some (some (.agg (pgCells .u64 0 (zs kP))),17):=by kernel_rfl
theorem sizeT (idx:Nat) (ns:List Nat) (h:ns.length=kT.n):(Tryz.prog.info? 137).map (·.size)=some (pgCells .u16 idx ns).size:=by rw [pgCells_size,h]; exact (zero_of_info infoT).2
theorem sizeP (idx:Nat) (ns:List Nat) (h:ns.length=kP.n):(Tryz.prog.info? 142).map (·.size)=some (pgCells .u64 idx ns).size:=by rw [pgCells_size,h]; exact (zero_of_info infoP).2
def IsPg (K:IntKind) (t:TypeId) (w:World) (p idx:Nat) (ns:List Nat):Prop:=w.heap[p]? = some (.cells (pgCells K idx ns) t (0,0))
section
variable {K:IntKind} {t:TypeId} {w:World} {p idx:Nat} {ns:List Nat}
theorem IsPg.lt (h:IsPg K t w p idx ns):p < w.heap.size:=by
 rcases Nat.lt_or_ge p w.heap.size with hlt | hge
 ·exact hlt
 ·unfold IsPg at h; rw [Array.getElem?_eq_none hge] at h; cases h
theorem IsPg.index (h:IsPg K t w p idx ns):w.cell? ⟨p,0,none⟩=some (.int .u32 (idx:Int)):=(cell_of_row w p 0 _ _ _ h).trans (pgCells_idx idx ns)
theorem IsPg.num (h:IsPg K t w p idx ns) (j:Nat) (hj:j < ns.length):w.cell? ⟨p,1+j,none⟩=some (.int K (ns[j]:Int)):=(cell_of_row w p (1+j) _ _ _ h).trans (pgCells_num idx ns j hj)
theorem IsPg.frozen (h:IsPg K t w p idx ns) (j:Nat):w.frozen? ⟨p,j,none⟩=false:=frozen_of_row w p j _ _ h
theorem IsPg.setNum (h:IsPg K t w p idx ns) (j n:Nat):IsPg K t (w.setCell ⟨p,1+j,none⟩ (.int K (n:Int))) p idx (ns.set j n):=by
 unfold IsPg
 rw [←pgCells_set idx ns j n]
 exact heap_setCell_same w p (1+j) _ _ _ h
theorem IsPg.other (h:IsPg K t w p idx ns) (a:Addr) (v:Value) (ha:p≠a.block):IsPg K t (w.setCell a v) p idx ns:=(heap_setCell_other w a p v ha).trans h
theorem IsPg.alloc (h:IsPg K t w p idx ns) (o:Obj):IsPg K t (w.alloc o) p idx ns:=(Below.heap_alloc w o p h.lt).trans h
theorem IsPg.below {B:Nat} {w':World} (h:IsPg K t w p idx ns) (hb:Below B w w') (hB:p < B):IsPg K t w' p idx ns:=(hb.block p hB).trans h
theorem IsPg.apart {w':World} {q:Nat} (h:IsPg K t w p idx ns) (ha:Apart q w w') (hq:p≠q):IsPg K t w' p idx ns:=(ha.block p h.lt hq).trans h
theorem IsPg.new (K:IntKind) (t:TypeId) (w:World) (idx:Nat) (ns:List Nat):IsPg K t (w.alloc (.cells (pgCells K idx ns) t)) w.heap.size idx ns:=heap_alloc_new w _
end
theorem len16 (w:World):Calls Tryz.prog 247 #[.int .u64 65535] w fun e w'=>e=.returned (.int .i64 16)∧w'=w:=by
 go_enter Tryz.func247,Tryz.ntmps247
 go_wp2
 go_ret
 exact ⟨congrArg (fun z=>Ending.returned (.int .i64 z)) (by decide +kernel),rfl⟩
theorem len64 (w:World):Calls Tryz.prog 247 #[.int .u64 18446744073709551615] w fun e w'=>e=.returned (.int .i64 64)∧w'=w:=by
 go_enter Tryz.func247,Tryz.ntmps247
 go_wp2
 go_ret
 exact ⟨congrArg (fun z=>Ending.returned (.int .i64 z)) (by decide +kernel),rfl⟩
theorem widthT (w:World):Calls Tryz.prog 213 #[] w fun e w'=>e=.returned (.int .i64 2)∧w'=w:=by
 go_enter Tryz.func213,Tryz.ntmps213
 go_wp2_with fail
 refine (len16 _).mono ?_
 rintro e W ⟨rfl,rfl⟩
 go_wp2
 go_ret
 exact ⟨rfl,rfl⟩
theorem widthP (w:World):Calls Tryz.prog 214 #[] w fun e w'=>e=.returned (.int .i64 8)∧w'=w:=by
 go_enter Tryz.func214,Tryz.ntmps214
 go_wp2_with fail
 refine (len64 _).mono ?_
 rintro e W ⟨rfl,rfl⟩
 go_wp2
 go_ret
 exact ⟨rfl,rfl⟩
theorem numBytes2 (n:Nat):numBytes n 2=some (leB n 2):=by unfold numBytes; rw [if_pos (by decide)]; rfl
theorem numBytes4 (n:Nat):numBytes n 4=some (leB n 4):=by unfold numBytes; rw [if_pos (by decide)]; rfl
theorem numBytes8 (n:Nat):numBytes n 8=some (leB n 8):=by unfold numBytes; rw [if_pos (by decide)]; rfl
theorem app_at (f bs:List UInt8) (h:f.length+bs.length≤251):app (some f) (some bs)=some (f ++ bs):=if_pos h
theorem app_first (k:PK) (idx:Nat) (ns:List Nat):app (some []) (numBytes idx 4)=some (pgTo k idx ns 0):=by
 rw [numBytes4,app_at _ _ (by rw [leB_length]; simp),List.nil_append,pgTo_zero]
theorem app_next {k:PK} (hk:k.Fine) (idx:Nat) (ns:List Nat) (hn:ns.length=k.n) {z:Int} (hz:∀ n,numBytes n z=some (leB n k.wd)) (j:Nat) (hj:j < ns.length):app (some (pgTo k idx ns j)) (numBytes ns[j] z)=some (pgTo k idx ns (j+1)):=by
 have hw:=wd_le1 hk (show j < k.n by omega)
 rw [hz,app_at _ _ (by rw [leB_length,pgTo_length _ _ _ _ (by omega)]; omega),pgTo_succ k idx ns j hj]
theorem below_row {w W:World} {B q:Nat} {cs:Array Value} (h:Below B w W) (hq:B≤q):Below B w (W.setRow q cs):=
 h.trans ⟨rfl,rfl,rfl,by simp,fun k hk=>setRow_other W _ _ _ (by omega)⟩
end Tal
namespace Tal
open Go.RowKit RowLaw Crc Fld
structure PutBox (K:IntKind) (t:TypeId) (cs:Array Value) (w:World) (p b r q idx:Nat) (ns:List Nat) (f:Option (List UInt8)) (W:World):Prop where
 pg:IsPg K t W p idx ns
 knd:W.heap[b]? = some (.cells cs 263 (0,0))
 res:Holds W r zeros
 wr:WIs W q f
 bel:Below w.heap.size w W
 ne:p < w.heap.size∧b < W.heap.size∧b≠q∧r≠q∧w.heap.size≤q∧w.heap.size≤b∧w.heap.size≤r
theorem PutBox.num {K:IntKind} {t:TypeId} {cs:Array Value} {w W:World} {p b r q idx:Nat} {ns:List Nat} {f f':Option (List UInt8)} (h:PutBox K t cs w p b r q idx ns f W) (x:Nat) (width:Int) (hf:app f (numBytes x width)=f') :
  Calls Tryz.prog 205 #[.pointer (some ⟨q,0,none⟩),.int .u64 (x:Int),.int .i64 width] W fun e W'=>e=.returned (.tuple #[])∧PutBox K t cs w p b r q idx ns f' W':=by
 subst hf
 have hn:=h.ne
 exact (Num_any f q x width W h.wr).mono fun _ W' ⟨he,hw,ha⟩=>⟨he,h.pg.apart ha (by omega),(ha.block b hn.2.1 hn.2.2.1).trans h.knd,holds_apart h.res ha hn.2.2.2.1,hw,h.bel.trans (ha.below hn.2.2.2.2.1 h.bel.size),
  hn.1,Nat.lt_of_lt_of_le hn.2.1 ha.size,hn.2.2⟩
theorem put_noT (p idx:Nat) (ho:¬ idx < kT.lim) (w:World) :
  Calls Tryz.prog 156 #[.agg #[.int .u8 84,.int .u32 16384],.int .u32 (idx:Int),.slice (some ⟨p,1,none⟩) 64 64] w fun e w'=>e=.returned (.tuple #[.agg (cellsOf zeros),.int .i64 2])∧Below w.heap.size w w':=by
 have hzv:=(zero_of_info infoBlock).1
 have hi:=sizeBlock zeros zeros_length
 have hK:((w.alloc (.cells #[.int .u8 84,.int .u32 16384] 263)).alloc (.cells (cellsOf zeros) 39)).heap[w.heap.size]? = some (.cells #[.int .u8 84,.int .u32 16384] 263 (0,0)):=(Below.heap_alloc _ _ _ (by simp)).trans (heap_alloc_new w _)
 have ck:((w.alloc (.cells #[.int .u8 84,.int .u32 16384] 263)).alloc (.cells (cellsOf zeros) 39)).cell? ⟨w.heap.size,1,none⟩=some (.int .u32 16384):=(cell_of_row _ _ 1 _ _ _ hK).trans rfl
 have hR:Holds ((w.alloc (.cells #[.int .u8 84,.int .u32 16384] 263)).alloc (.cells (cellsOf zeros) 39)) (w.heap.size+1) zeros:=heap_alloc2_new w _ _
 have hb:Below w.heap.size w ((w.alloc (.cells #[.int .u8 84,.int .u32 16384] 263)).alloc (.cells (cellsOf zeros) 39)):=((Below.refl _ _).alloc (Nat.le_refl _) _).alloc (by simp) _
 have d1:(16384:Int)≤(idx:Int):=by have:¬ idx < 16384:=ho; omega
 clear hK ho
 go_enter Tryz.func156,Tryz.ntmps156
 go_wp2_with (refine wpList_store_row rfl 39 _ _ rfl _ _ rfl rfl _ _ hR hi rfl (cellsOf_one _) ?_)
 exact bodyPost_ret (results_row_tmp rfl _ _ _ _ _ _ _ rfl (setRow_heap _ _ _ _ _ _ hR) Tryz.underlying39 rfl hi) rfl ⟨rfl,below_row hb (by omega)⟩
theorem put_yesT (p idx:Nat) (ns:List Nat) (hn:ns.length=kT.n) (hs:∀ j (hj:j < ns.length),ns[j] < 256 ^ kT.wd) (ho:idx < kT.lim) (w:World) (hw:IsPg .u16 137 w p idx ns) :
  Calls Tryz.prog 156 #[.agg #[.int .u8 84,.int .u32 16384],.int .u32 (idx:Int),.slice (some ⟨p,1,none⟩) 64 64] w fun e w'=>e=.returned (.tuple #[.agg (cellsOf (pgB kT idx ns)),.int .i64 0])∧Below w.heap.size w w':=by
 have hzv:=(zero_of_info infoBlock).1
 have hlen:=pgB_length fT idx hn
 have hi:=sizeBlock _ hlen
 have hzz:(cellsOf zeros).size=(cellsOf (pgB kT idx ns)).size:=by rw [cellsOf_size,cellsOf_size,hlen,zeros_length]
 have hK:((w.alloc (.cells #[.int .u8 84,.int .u32 16384] 263)).alloc (.cells (cellsOf zeros) 39)).heap[w.heap.size]? = some (.cells #[.int .u8 84,.int .u32 16384] 263 (0,0)):=(Below.heap_alloc _ _ _ (by simp)).trans (heap_alloc_new w _)
 have ck:((w.alloc (.cells #[.int .u8 84,.int .u32 16384] 263)).alloc (.cells (cellsOf zeros) 39)).cell? ⟨w.heap.size,1,none⟩=some (.int .u32 16384):=(cell_of_row _ _ 1 _ _ _ hK).trans rfl
 have hR:Holds ((w.alloc (.cells #[.int .u8 84,.int .u32 16384] 263)).alloc (.cells (cellsOf zeros) 39)) (w.heap.size+1) zeros:=heap_alloc2_new w _ _
 have hb:Below w.heap.size w ((w.alloc (.cells #[.int .u8 84,.int .u32 16384] 263)).alloc (.cells (cellsOf zeros) 39)):=((Below.refl _ _).alloc (Nat.le_refl _) _).alloc (by simp) _
 have hN:IsPg .u16 137 ((w.alloc (.cells #[.int .u8 84,.int .u32 16384] 263)).alloc (.cells (cellsOf zeros) 39)) p idx ns:=(hw.alloc _).alloc _
 have hpw:=hw.lt
 have hlim:idx < 16384:=ho
 have d1:¬ (16384:Int)≤(idx:Int):=by omega
 have hnext:=fun j hj=>app_next fT idx ns hn (numBytes2) j hj
 have HX:=Lib.hid hnext; clear hnext
 have HS:=Lib.hid hs; clear hs
 have HN:=Lib.hid hn; clear hn hlen ho hw
 obtain ⟨B,hB⟩:∃ B,B=pgB kT idx ns:=⟨_,rfl⟩
 rw [←hB] at hi hzz ⊢
 have HB:=Lib.hid hB; clear hB
 have z1:IntKind.u64.wrap (idx:Int)=(idx:Int):=IntWalk.u64_in _ (by omega)
 go_enter Tryz.func156,Tryz.ntmps156
 go_wp2_with fail
 refine (New_any _).mono ?_
 rintro e W1 ⟨rfl,hw1,hb1⟩
 have hbox:PutBox .u16 137 #[.int .u8 84,.int .u32 16384] w p w.heap.size (w.heap.size+1) (w.heap.size+2) idx ns (some []) W1:=
  ⟨hN.below hb1 hN.lt,(hb1.block _ (by simp; omega)).trans hK,hR.below hb1 hR.lt,by simpa using hw1,hb.trans (hb1.mono hb.size),hpw,by have:=hb1.size; simp at this; omega,by omega⟩
 clear hN hR hb hw1 hb1 hK ck
 rw [show ((w.alloc (.cells #[.int .u8 84,.int .u32 16384] 263)).alloc (.cells (cellsOf zeros) 39)).heap.size=w.heap.size+2 from by simp]
 go_wp2_with fail
 refine (hbox.num idx 4 (app_first kT idx ns)).mono ?_
 clear hbox
 rintro e W2 ⟨rfl,hbox⟩
 go_wp2_with fail
 go_loopw [23] (fun i wr=>∃ k:Nat,k≤64∧i=.int .i64 k∧PutBox .u16 137 #[.int .u8 84,.int .u32 16384] w p w.heap.size (w.heap.size+1) (w.heap.size+2) idx ns (some (pgTo kT idx ns k)) wr) (fun i _=>64 - (intOf i).toNat)
 case atStart=>exact ⟨0,by omega,rfl,hbox⟩
 case round=>
  obtain ⟨k,hk,rfl,hbk⟩:=hrel
  clear hbox
  by_cases hlt:k < 64
  ·have hkl:k < ns.length:=by have:ns.length=64:=HN.out; omega
   have hc:=hbk.pg.num k hkl
   have hnx:=HX.out k hkl
   have hxl:ns[k] < 65536:=HS.out k hkl
   obtain ⟨x,hx⟩:∃ x,x=ns[k]:=⟨_,rfl⟩
   rw [←hx] at hc hnx hxl
   clear hx
   have HNX:=Lib.hid hnx; clear hnx
   have z2:IntKind.u64.wrap (x:Int)=(x:Int):=IntWalk.u64_in _ (by omega)
   go_wp2_with (go_at_call 213; (with_reducible refine (widthT _).mono ?_); rintro e W ⟨rfl,rfl⟩)
   refine (hbk.num x 2 HNX.out).mono ?_
   clear hbk hc
   rintro e W3 ⟨rfl,hbk⟩
   go_wp2_with fail
   go_roundw
   case rel=>exact ⟨k+1,by omega,by go_num,hbk⟩
   case measure=>simp [intOf]; omega
  ·obtain rfl:k=64:=by omega
   have cm:wr.cell? ⟨w.heap.size,0,none⟩=some (.int .u8 84):=(cell_of_row wr w.heap.size 0 _ _ _ hbk.knd).trans rfl
   go_wp2_with fail
   refine (Done_some _ _ 84 _ hbk.wr).mono ?_
   rintro e W3 ⟨rfl,hb3⟩
   have hR:=hbk.res.below hb3 hbk.res.lt
   have hb:=hbk.bel.trans (hb3.mono hbk.bel.size)
   clear hbk hb3 cm
   rw [show fdone (pgTo kT idx ns 64) 84=B from HB.out.symm]
   go_wp2_with (refine wpList_store_row rfl 39 _ _ rfl _ _ rfl rfl _ _ hR hi hzz (cellsOf_one _) ?_)
   exact bodyPost_ret (results_row_tmp rfl _ _ _ _ _ _ _ rfl (setRow_heap W3 _ _ _ _ _ hR) Tryz.underlying39 rfl hi) rfl ⟨rfl,below_row hb (by omega)⟩
theorem put_anyT (p idx:Nat) (ns:List Nat) (hn:ns.length=kT.n) (hs:∀ j (hj:j < ns.length),ns[j] < 256 ^ kT.wd) (w:World) (hw:IsPg .u16 137 w p idx ns) :
  Calls Tryz.prog 156 #[.agg #[.int .u8 84,.int .u32 16384],.int .u32 (idx:Int),.slice (some ⟨p,1,none⟩) 64 64] w fun e w'=>e=.returned (.tuple #[.agg (cellsOf (putB kT idx ns)),.int .i64 (putE kT idx)])∧Below w.heap.size w w':=by
 by_cases ho:idx < kT.lim
 ·rw [putB_yes ns ho,putE_yes ho]; exact put_yesT p idx ns hn hs ho w hw
 ·rw [show putB kT idx ns=zeros from if_neg ho,putE_no ho]; exact put_noT p idx ho w
theorem put_noP (p idx:Nat) (ho:¬ idx < kP.lim) (w:World) :
  Calls Tryz.prog 158 #[.agg #[.int .u8 80,.int .u32 16],.int .u32 (idx:Int),.slice (some ⟨p,1,none⟩) 16 16] w fun e w'=>e=.returned (.tuple #[.agg (cellsOf zeros),.int .i64 2])∧Below w.heap.size w w':=by
 have hzv:=(zero_of_info infoBlock).1
 have hi:=sizeBlock zeros zeros_length
 have hK:((w.alloc (.cells #[.int .u8 80,.int .u32 16] 263)).alloc (.cells (cellsOf zeros) 39)).heap[w.heap.size]? = some (.cells #[.int .u8 80,.int .u32 16] 263 (0,0)):=(Below.heap_alloc _ _ _ (by simp)).trans (heap_alloc_new w _)
 have ck:((w.alloc (.cells #[.int .u8 80,.int .u32 16] 263)).alloc (.cells (cellsOf zeros) 39)).cell? ⟨w.heap.size,1,none⟩=some (.int .u32 16):=(cell_of_row _ _ 1 _ _ _ hK).trans rfl
 have hR:Holds ((w.alloc (.cells #[.int .u8 80,.int .u32 16] 263)).alloc (.cells (cellsOf zeros) 39)) (w.heap.size+1) zeros:=heap_alloc2_new w _ _
 have hb:Below w.heap.size w ((w.alloc (.cells #[.int .u8 80,.int .u32 16] 263)).alloc (.cells (cellsOf zeros) 39)):=((Below.refl _ _).alloc (Nat.le_refl _) _).alloc (by simp) _
 have d1:(16:Int)≤(idx:Int):=by have:¬ idx < 16:=ho; omega
 clear hK ho
 go_enter Tryz.func158,Tryz.ntmps158
 go_wp2_with (refine wpList_store_row rfl 39 _ _ rfl _ _ rfl rfl _ _ hR hi rfl (cellsOf_one _) ?_)
 exact bodyPost_ret (results_row_tmp rfl _ _ _ _ _ _ _ rfl (setRow_heap _ _ _ _ _ _ hR) Tryz.underlying39 rfl hi) rfl ⟨rfl,below_row hb (by omega)⟩
theorem put_yesP (p idx:Nat) (ns:List Nat) (hn:ns.length=kP.n) (hs:∀ j (hj:j < ns.length),ns[j] < 256 ^ kP.wd) (ho:idx < kP.lim) (w:World) (hw:IsPg .u64 142 w p idx ns) :
  Calls Tryz.prog 158 #[.agg #[.int .u8 80,.int .u32 16],.int .u32 (idx:Int),.slice (some ⟨p,1,none⟩) 16 16] w fun e w'=>e=.returned (.tuple #[.agg (cellsOf (pgB kP idx ns)),.int .i64 0])∧Below w.heap.size w w':=by
 have hzv:=(zero_of_info infoBlock).1
 have hlen:=pgB_length fP idx hn
 have hi:=sizeBlock _ hlen
 have hzz:(cellsOf zeros).size=(cellsOf (pgB kP idx ns)).size:=by rw [cellsOf_size,cellsOf_size,hlen,zeros_length]
 have hK:((w.alloc (.cells #[.int .u8 80,.int .u32 16] 263)).alloc (.cells (cellsOf zeros) 39)).heap[w.heap.size]? = some (.cells #[.int .u8 80,.int .u32 16] 263 (0,0)):=(Below.heap_alloc _ _ _ (by simp)).trans (heap_alloc_new w _)
 have ck:((w.alloc (.cells #[.int .u8 80,.int .u32 16] 263)).alloc (.cells (cellsOf zeros) 39)).cell? ⟨w.heap.size,1,none⟩=some (.int .u32 16):=(cell_of_row _ _ 1 _ _ _ hK).trans rfl
 have hR:Holds ((w.alloc (.cells #[.int .u8 80,.int .u32 16] 263)).alloc (.cells (cellsOf zeros) 39)) (w.heap.size+1) zeros:=heap_alloc2_new w _ _
 have hb:Below w.heap.size w ((w.alloc (.cells #[.int .u8 80,.int .u32 16] 263)).alloc (.cells (cellsOf zeros) 39)):=((Below.refl _ _).alloc (Nat.le_refl _) _).alloc (by simp) _
 have hN:IsPg .u64 142 ((w.alloc (.cells #[.int .u8 80,.int .u32 16] 263)).alloc (.cells (cellsOf zeros) 39)) p idx ns:=(hw.alloc _).alloc _
 have hpw:=hw.lt
 have hlim:idx < 16:=ho
 have d1:¬ (16:Int)≤(idx:Int):=by omega
 have hnext:=fun j hj=>app_next fP idx ns hn (numBytes8) j hj
 have HX:=Lib.hid hnext; clear hnext
 have HS:=Lib.hid hs; clear hs
 have HN:=Lib.hid hn; clear hn hlen ho hw
 obtain ⟨B,hB⟩:∃ B,B=pgB kP idx ns:=⟨_,rfl⟩
 rw [←hB] at hi hzz ⊢
 have HB:=Lib.hid hB; clear hB
 have z1:IntKind.u64.wrap (idx:Int)=(idx:Int):=IntWalk.u64_in _ (by omega)
 go_enter Tryz.func158,Tryz.ntmps158
 go_wp2_with fail
 refine (New_any _).mono ?_
 rintro e W1 ⟨rfl,hw1,hb1⟩
 have hbox:PutBox .u64 142 #[.int .u8 80,.int .u32 16] w p w.heap.size (w.heap.size+1) (w.heap.size+2) idx ns (some []) W1:=
  ⟨hN.below hb1 hN.lt,(hb1.block _ (by simp; omega)).trans hK,hR.below hb1 hR.lt,by simpa using hw1,hb.trans (hb1.mono hb.size),hpw,by have:=hb1.size; simp at this; omega,by omega⟩
 clear hN hR hb hw1 hb1 hK ck
 rw [show ((w.alloc (.cells #[.int .u8 80,.int .u32 16] 263)).alloc (.cells (cellsOf zeros) 39)).heap.size=w.heap.size+2 from by simp]
 go_wp2_with fail
 refine (hbox.num idx 4 (app_first kP idx ns)).mono ?_
 clear hbox
 rintro e W2 ⟨rfl,hbox⟩
 go_wp2_with fail
 go_loopw [23] (fun i wr=>∃ k:Nat,k≤16∧i=.int .i64 k∧PutBox .u64 142 #[.int .u8 80,.int .u32 16] w p w.heap.size (w.heap.size+1) (w.heap.size+2) idx ns (some (pgTo kP idx ns k)) wr) (fun i _=>16 - (intOf i).toNat)
 case atStart=>exact ⟨0,by omega,rfl,hbox⟩
 case round=>
  obtain ⟨k,hk,rfl,hbk⟩:=hrel
  clear hbox
  by_cases hlt:k < 16
  ·have hkl:k < ns.length:=by have:ns.length=16:=HN.out; omega
   have hc:=hbk.pg.num k hkl
   have hnx:=HX.out k hkl
   have hxl:ns[k] < 18446744073709551616:=HS.out k hkl
   obtain ⟨x,hx⟩:∃ x,x=ns[k]:=⟨_,rfl⟩
   rw [←hx] at hc hnx hxl
   clear hx
   have HNX:=Lib.hid hnx; clear hnx
   have z2:IntKind.u64.wrap (x:Int)=(x:Int):=IntWalk.u64_in _ (by omega)
   go_wp2_with (go_at_call 214; (with_reducible refine (widthP _).mono ?_); rintro e W ⟨rfl,rfl⟩)
   refine (hbk.num x 8 HNX.out).mono ?_
   clear hbk hc
   rintro e W3 ⟨rfl,hbk⟩
   go_wp2_with fail
   go_roundw
   case rel=>exact ⟨k+1,by omega,by go_num,hbk⟩
   case measure=>simp [intOf]; omega
  ·obtain rfl:k=16:=by omega
   have cm:wr.cell? ⟨w.heap.size,0,none⟩=some (.int .u8 80):=(cell_of_row wr w.heap.size 0 _ _ _ hbk.knd).trans rfl
   go_wp2_with fail
   refine (Done_some _ _ 80 _ hbk.wr).mono ?_
   rintro e W3 ⟨rfl,hb3⟩
   have hR:=hbk.res.below hb3 hbk.res.lt
   have hb:=hbk.bel.trans (hb3.mono hbk.bel.size)
   clear hbk hb3 cm
   rw [show fdone (pgTo kP idx ns 16) 80=B from HB.out.symm]
   go_wp2_with (refine wpList_store_row rfl 39 _ _ rfl _ _ rfl rfl _ _ hR hi hzz (cellsOf_one _) ?_)
   exact bodyPost_ret (results_row_tmp rfl _ _ _ _ _ _ _ rfl (setRow_heap W3 _ _ _ _ _ hR) Tryz.underlying39 rfl hi) rfl ⟨rfl,below_row hb (by omega)⟩
theorem put_anyP (p idx:Nat) (ns:List Nat) (hn:ns.length=kP.n) (hs:∀ j (hj:j < ns.length),ns[j] < 256 ^ kP.wd) (w:World) (hw:IsPg .u64 142 w p idx ns) :
  Calls Tryz.prog 158 #[.agg #[.int .u8 80,.int .u32 16],.int .u32 (idx:Int),.slice (some ⟨p,1,none⟩) 16 16] w fun e w'=>e=.returned (.tuple #[.agg (cellsOf (putB kP idx ns)),.int .i64 (putE kP idx)])∧Below w.heap.size w w':=by
 by_cases ho:idx < kP.lim
 ·rw [putB_yes ns ho,putE_yes ho]; exact put_yesP p idx ns hn hs ho w hw
 ·rw [show putB kP idx ns=zeros from if_neg ho,putE_no ho]; exact put_noP p idx ho w
end Tal
namespace Tal
open Go.RowKit RowLaw Crc Fld
theorem Put_anyT (idx:Nat) (ns:List Nat) (hn:ns.length=kT.n) (hs:∀ j (hj:j < ns.length),ns[j] < 256 ^ kT.wd) (w:World) :
  Calls Tryz.prog 78 #[.agg (pgCells .u16 idx ns)] w fun e w'=>e=.returned (.tuple #[.agg (cellsOf (putB kT idx ns)),.int .i64 (putE kT idx)])∧Below w.heap.size w w':=by
 have hzv:=(zero_of_info infoBlock).1
 have hlen:=putB_length fT idx hn
 have hi:=sizeBlock _ hlen
 have hzz:(cellsOf zeros).size=(cellsOf (putB kT idx ns)).size:=by rw [cellsOf_size,cellsOf_size,hlen,zeros_length]
 have hk:Kept w [(w.heap.size+1,.cells (cellsOf zeros) 39),(w.heap.size,.cells (pgCells .u16 idx ns) 137)] ((w.alloc (.cells (pgCells .u16 idx ns) 137)).alloc (.cells (cellsOf zeros) 39)):=by
  have h:=((Kept.start w).alloc (.cells (pgCells .u16 idx ns) 137)).alloc (.cells (cellsOf zeros) 39)
  rwa [show (w.alloc (.cells (pgCells .u16 idx ns) 137)).heap.size=w.heap.size+1 from by simp] at h
 have hput:=fun W (hW:IsPg .u16 137 W w.heap.size idx ns)=>put_anyT w.heap.size idx ns hn hs W hW
 generalize putB kT idx ns=B at hi hzz hput ⊢
 generalize putE kT idx=E at hput ⊢
 have HPT:=Lib.hid hput
 clear hput hlen hn hs
 go_enter Tryz.func78,Tryz.ntmps78
 go_wp2_with fail
 refine wp_region_noPanic ?_
 refine wp_region_held_drew (S:=fun W=>Kept w [(w.heap.size,.cells (pgCells .u16 idx ns) 137)] W) (by kernel_rfl) (hk.less (fun x hx=>List.mem_cons_of_mem _ hx)).drew ?_
 intro hS
 replace hk:=hk.drew
 generalize ((w.alloc (.cells (pgCells .u16 idx ns) 137)).alloc (.cells (cellsOf zeros) 39)).drew=W0 at hk hS ⊢
 refine RowLaw.tkV 0 4 (.agg #[.int .u8 84,.int .u32 16384]) hS ?_
 simp only [RowLaw.lset]
 refine RowLaw.tkV 1 5 (.pointer (some ⟨w.heap.size,0,none⟩)) hS ?_
 simp only [RowLaw.lset]
 refine RowLaw.tkV 2 6 (.int .u32 (idx:Int)) hS ?_ (hy:=(Or.inl ⟨by rfl,fun W hW=>by have c:=IsPg.index (hW.at_ List.mem_cons_self); go_simp⟩))
 simp only [RowLaw.lset]
 refine RowLaw.tkV 3 7 (.pointer (some ⟨w.heap.size,1,none⟩)) hS ?_
 simp only [RowLaw.lset]
 refine RowLaw.tkV 4 8 (.slice (some ⟨w.heap.size,1,none⟩) 64 64) hS ?_
 simp only [RowLaw.lset]
 refine wpAnyH_ready (rs:=[5]) (by kernel_rfl) (by simp) ?_
 refine AllReadyH.cons rfl (fun K hK=>?_) AllReadyH.nil
 rw [if_pos (by rfl)]
 go_simp
 refine (HPT.out _ (hk.at_ (List.mem_cons_of_mem _ List.mem_cons_self))).mono ?_
 rintro e W1 ⟨rfl,hx⟩
 replace hS:=hS.below hx
 replace hk:=hk.below hx
 clear hx
 dsimp only
 refine hK.out _ _ hS (fun hS=>?_)
 clear hK K
 refine RowLaw.tkV 6 10 (.agg (cellsOf B)) hS ?_
 simp only [RowLaw.lset]
 refine RowLaw.tkV 7 11 (.int .i64 E) hS ?_
 simp only [RowLaw.lset]
 refine wpAnyH_ready (rs:=[8]) (by kernel_rfl) (by simp) ?_
 refine AllReadyH.cons rfl (fun K hK=>?_) AllReadyH.nil
 rw [if_pos (by rfl)]
 refine wp_store_row 39 _ _ rfl (w.heap.size+1) (cellsOf B) rfl rfl _ _ (hk.at_ List.mem_cons_self) hi hzz (cellsOf_one _) ?_
 replace hk:=hk.setRow (cs':=cellsOf B) (by simp)
 replace hS:=hk.less (K':=[(w.heap.size,.cells (pgCells .u16 idx ns) 137)]) (fun x hx=>List.mem_cons_of_mem _ hx)
 generalize W1.setRow (w.heap.size+1) (cellsOf B)=W2 at hk hS ⊢
 refine hK.out _ _ hS (fun hS=>?_)
 clear hK K
 change wpAnyH _ _ _ _ _ _ _ (Act.put _ none _) _
 simp only [Act.put]
 refine RowLaw.tkV 9 3 (.int .i64 E) hS ?_
 simp only [RowLaw.lset]
 refine wpAnyH_done (by kernel_rfl) ?_ _
 refine NoPanic.normal ?_
 go_wp2_with fail
 exact bodyPost_ret (results_row_tmp rfl _ _ _ _ _ _ _ rfl (hk.at_ List.mem_cons_self) Tryz.underlying39 rfl hi) rfl ⟨rfl,hk.bel⟩
theorem Put_anyP (idx:Nat) (ns:List Nat) (hn:ns.length=kP.n) (hs:∀ j (hj:j < ns.length),ns[j] < 256 ^ kP.wd) (w:World) :
  Calls Tryz.prog 82 #[.agg (pgCells .u64 idx ns)] w fun e w'=>e=.returned (.tuple #[.agg (cellsOf (putB kP idx ns)),.int .i64 (putE kP idx)])∧Below w.heap.size w w':=by
 have hzv:=(zero_of_info infoBlock).1
 have hlen:=putB_length fP idx hn
 have hi:=sizeBlock _ hlen
 have hzz:(cellsOf zeros).size=(cellsOf (putB kP idx ns)).size:=by rw [cellsOf_size,cellsOf_size,hlen,zeros_length]
 have hk:Kept w [(w.heap.size+1,.cells (cellsOf zeros) 39),(w.heap.size,.cells (pgCells .u64 idx ns) 142)] ((w.alloc (.cells (pgCells .u64 idx ns) 142)).alloc (.cells (cellsOf zeros) 39)):=by
  have h:=((Kept.start w).alloc (.cells (pgCells .u64 idx ns) 142)).alloc (.cells (cellsOf zeros) 39)
  rwa [show (w.alloc (.cells (pgCells .u64 idx ns) 142)).heap.size=w.heap.size+1 from by simp] at h
 have hput:=fun W (hW:IsPg .u64 142 W w.heap.size idx ns)=>put_anyP w.heap.size idx ns hn hs W hW
 generalize putB kP idx ns=B at hi hzz hput ⊢
 generalize putE kP idx=E at hput ⊢
 have HPT:=Lib.hid hput
 clear hput hlen hn hs
 go_enter Tryz.func82,Tryz.ntmps82
 go_wp2_with fail
 refine wp_region_noPanic ?_
 refine wp_region_held_drew (S:=fun W=>Kept w [(w.heap.size,.cells (pgCells .u64 idx ns) 142)] W) (by kernel_rfl) (hk.less (fun x hx=>List.mem_cons_of_mem _ hx)).drew ?_
 intro hS
 replace hk:=hk.drew
 generalize ((w.alloc (.cells (pgCells .u64 idx ns) 142)).alloc (.cells (cellsOf zeros) 39)).drew=W0 at hk hS ⊢
 refine RowLaw.tkV 0 4 (.agg #[.int .u8 80,.int .u32 16]) hS ?_
 simp only [RowLaw.lset]
 refine RowLaw.tkV 1 5 (.pointer (some ⟨w.heap.size,0,none⟩)) hS ?_
 simp only [RowLaw.lset]
 refine RowLaw.tkV 2 6 (.int .u32 (idx:Int)) hS ?_ (hy:=(Or.inl ⟨by rfl,fun W hW=>by have c:=IsPg.index (hW.at_ List.mem_cons_self); go_simp⟩))
 simp only [RowLaw.lset]
 refine RowLaw.tkV 3 7 (.pointer (some ⟨w.heap.size,1,none⟩)) hS ?_
 simp only [RowLaw.lset]
 refine RowLaw.tkV 4 8 (.slice (some ⟨w.heap.size,1,none⟩) 16 16) hS ?_
 simp only [RowLaw.lset]
 refine wpAnyH_ready (rs:=[5]) (by kernel_rfl) (by simp) ?_
 refine AllReadyH.cons rfl (fun K hK=>?_) AllReadyH.nil
 rw [if_pos (by rfl)]
 go_simp
 refine (HPT.out _ (hk.at_ (List.mem_cons_of_mem _ List.mem_cons_self))).mono ?_
 rintro e W1 ⟨rfl,hx⟩
 replace hS:=hS.below hx
 replace hk:=hk.below hx
 clear hx
 dsimp only
 refine hK.out _ _ hS (fun hS=>?_)
 clear hK K
 refine RowLaw.tkV 6 10 (.agg (cellsOf B)) hS ?_
 simp only [RowLaw.lset]
 refine RowLaw.tkV 7 11 (.int .i64 E) hS ?_
 simp only [RowLaw.lset]
 refine wpAnyH_ready (rs:=[8]) (by kernel_rfl) (by simp) ?_
 refine AllReadyH.cons rfl (fun K hK=>?_) AllReadyH.nil
 rw [if_pos (by rfl)]
 refine wp_store_row 39 _ _ rfl (w.heap.size+1) (cellsOf B) rfl rfl _ _ (hk.at_ List.mem_cons_self) hi hzz (cellsOf_one _) ?_
 replace hk:=hk.setRow (cs':=cellsOf B) (by simp)
 replace hS:=hk.less (K':=[(w.heap.size,.cells (pgCells .u64 idx ns) 142)]) (fun x hx=>List.mem_cons_of_mem _ hx)
 generalize W1.setRow (w.heap.size+1) (cellsOf B)=W2 at hk hS ⊢
 refine hK.out _ _ hS (fun hS=>?_)
 clear hK K
 change wpAnyH _ _ _ _ _ _ _ (Act.put _ none _) _
 simp only [Act.put]
 refine RowLaw.tkV 9 3 (.int .i64 E) hS ?_
 simp only [RowLaw.lset]
 refine wpAnyH_done (by kernel_rfl) ?_ _
 refine NoPanic.normal ?_
 go_wp2_with fail
 exact bodyPost_ret (results_row_tmp rfl _ _ _ _ _ _ _ rfl (hk.at_ List.mem_cons_self) Tryz.underlying39 rfl hi) rfl ⟨rfl,hk.bel⟩
end Tal

end Go.Proofs.YtgkbfahflngklaaGreat
