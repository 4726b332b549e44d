import Derived.Test.YtgkbfahflngklaaGreatSpcK
namespace Go.Proofs.YtgkbfahflngklaaGreat.Spc
open Go.RowKit RowLaw
open Go.Proofs.YtgkbfahflngklaaGreat.Dev (Dev DS ptr Turn)
open Go.Proofs.YtgkbfahflngklaaGreat.Rot (fsN planOk plan_facts)
open Go.Proofs.YtgkbfahflngklaaGreat.Cnt
set_option maxRecDepth 100000
def Sg (w:World) (l:List Thing) (K:List (Nat×Obj)) (i j q t bx:Nat) (s:DS) (g:Nat→Nat) (k h:Nat) (W:World):Prop:=∃ S,Rs w l K i j q t bx s S W∧Flat S g k h
section
variable {w W W':World} {l:List Thing} {K:List (Nat×Obj)} {i j q t bx:Nat} {s:DS} {g:Nat→Nat} {k h:Nat}
theorem Sg.bel (x:Sg w l K i j q t bx s g k h W):Below w.heap.size w W:=by
 obtain ⟨S,x,_⟩:=x
 exact Cnt.Hall.bel x.hall
theorem Sg.below (x:Sg w l K i j q t bx s g k h W) (hb:Below W.heap.size W W'):Sg w l K i j q t bx s g k h W':=by
 obtain ⟨S,x,f⟩:=x
 exact ⟨S,Rm.below x hb,f⟩
theorem Sg.take (x:Sg w l K i j q t bx s g (k+1) h W) (hk:k < 1000) (h1:6≤h) (h2:h+1 < 64) (hg:g h=0) {sp:Bool} (hr:roomV ((k+1:Nat):Int) sp≠0) :
  Calls Tryz.prog 36 #[.pointer (some ⟨q,0,none⟩),.bool sp] W fun e W'=>e=.returned (.tuple #[.int .u32 (h:Int),.int .i64 0])∧Sg w l K i j q t bx s (updN g h 1) k (h+1) W':=by
 obtain ⟨S,x,f⟩:=x
 obtain ⟨f1,f2⟩:=f.take h1 h2 hg hr
 have h3:fsN S.T.n≤S.h:=by rw [f.n,fs64,f.h]; exact h1
 have h4:S.h < S.T.n:=by rw [f.n,f.h]; omega
 have hc:=Take_any x h3 h4 (by rw [f.f]; unfold inI; omega) (by rw [f.r]; unfold inI; omega) sp
 rw [f1] at hc
 exact hc.mono fun e W' ⟨he,hx⟩=>⟨he,_,hx,f2⟩
theorem Sg.full (x:Sg w l K i j q t bx s g k h W) (hk:k < 1000) (h1:6≤h) (h2:h < 64) {sp:Bool} (hr:roomV (k:Int) sp=0) :
  Calls Tryz.prog 36 #[.pointer (some ⟨q,0,none⟩),.bool sp] W fun e W'=>e=.returned (.tuple #[.int .u32 0,.int .i64 100])∧Sg w l K i j q t bx s g k h W':=by
 obtain ⟨S,x,f⟩:=x
 have f1:=f.full hr
 have h3:fsN S.T.n≤S.h:=by rw [f.n,fs64,f.h]; exact h1
 have h4:S.h < S.T.n:=by rw [f.n,f.h]; omega
 have hc:=Take_any x h3 h4 (by rw [f.f]; unfold inI; omega) (by rw [f.r]; unfold inI; omega) sp
 rw [f1] at hc
 exact hc.mono fun e W' ⟨he,hx⟩=>⟨he,_,hx,f⟩
theorem Sg.more (x:Sg w l K i j q t bx s g k h W) (hk:k < 1000) {a m:Nat} (h1:6≤a) (h2:a < 64) (hg:g a=m+1) (hm:m < 60000) :
  Calls Tryz.prog 37 #[.pointer (some ⟨q,0,none⟩),.int .u32 (a:Int)] W fun e W'=>e=.returned (.int .i64 0)∧Sg w l K i j q t bx s (updN g a (m+2)) k h W':=by
 obtain ⟨S,x,f⟩:=x
 have hc:=More_any x (a:=a) (by omega) (by rw [f.f]; unfold inI; omega) (by rw [f.r]; unfold inI; omega)
 have ha:askV S.T a 2=0:=by
  rw [f.ask h1 h2,hg,if_neg (by omega),if_neg (by omega)]
 rw [ha,if_pos rfl,f.now a h1 h2,hg] at hc
 exact hc.mono fun e W' ⟨he,hx⟩=>⟨he,_,hx,f.put h1 h2 (by omega) (by
  rw [hg]
  unfold zr
  simp)⟩
theorem Sg.less (x:Sg w l K i j q t bx s g k h W) (hk:k < 1000) {a m:Nat} (h1:6≤a) (h2:a < 64) (hg:g a=m+1) (hm:m < 60000) :
  Calls Tryz.prog 38 #[.pointer (some ⟨q,0,none⟩),.int .u32 (a:Int)] W fun e W'=>e=.returned (.tuple #[.int .u16 (m:Int),.int .i64 0])∧Sg w l K i j q t bx s (updN g a m) (if m=0 then k+1 else k) h W':=by
 obtain ⟨S,x,f⟩:=x
 have hc:=Less_any x (a:=a) (by omega) (by rw [f.f]; unfold inI; omega) (by rw [f.r]; unfold inI; omega)
 have ha:askV S.T a 1=0:=by
  rw [f.ask h1 h2,hg,if_neg (by omega),if_neg (by omega)]
 rw [ha,if_pos rfl,if_pos rfl,f.now a h1 h2,hg,Nat.add_sub_cancel] at hc
 exact hc.mono fun e W' ⟨he,hx⟩=>⟨he,_,hx,f.put h1 h2 (by omega) (by
  rw [hg]
  unfold zr
  by_cases e:m=0
  ·simp [e]
  ·simp [e])⟩
theorem Sg.less0 (x:Sg w l K i j q t bx s g k h W) (hk:k < 1000) {a:Nat} (h1:6≤a) (h2:a < 64) (hg:g a=0) :
  Calls Tryz.prog 38 #[.pointer (some ⟨q,0,none⟩),.int .u32 (a:Int)] W fun e W'=>e=.returned (.tuple #[.int .u16 0,.int .i64 9])∧Sg w l K i j q t bx s g k h W':=by
 obtain ⟨S,x,f⟩:=x
 have hc:=Less_any x (a:=a) (by omega) (by rw [f.f]; unfold inI; omega) (by rw [f.r]; unfold inI; omega)
 have ha:askV S.T a 1=9:=by
  rw [f.ask h1 h2,hg,if_pos ⟨by omega,rfl⟩]
 rw [ha,if_neg (by omega),if_neg (by omega)] at hc
 exact hc.mono fun e W' ⟨he,hx⟩=>⟨he,_,hx,f⟩
theorem Sg.free (x:Sg w l K i j q t bx s g k h W) (hk:k < 1000):Calls Tryz.prog 30 #[.pointer (some ⟨q,0,none⟩)] W fun e W'=>e=.returned (.int .u32 (k:Int))∧W'=W:=by
 obtain ⟨S,x,f⟩:=x
 have hc:=Free_any x.sp (by rw [f.f]; omega) (by rw [f.f]; omega)
 rw [f.f,show pos (k:Int)=k from by unfold pos; omega] at hc
 exact hc
theorem Sg.room (x:Sg w l K i j q t bx s g k h W) (hk:k < 1000) (sp:Bool):Calls Tryz.prog 32 #[.pointer (some ⟨q,0,none⟩),.bool sp] W fun e W'=>e=.returned (.int .u32 (roomV (k:Int) sp:Int))∧W'=W:=by
 obtain ⟨S,x,f⟩:=x
 have hc:=Room_any x.sp (by rw [f.r]; omega) (by rw [f.r]; omega) sp
 rw [f.r] at hc
 exact hc
theorem Sg.hint (x:Sg w l K i j q t bx s g k h W):Calls Tryz.prog 34 #[.pointer (some ⟨q,0,none⟩)] W fun e W'=>e=.returned (.int .u32 (h:Int))∧W'=W:=by
 obtain ⟨S,x,f⟩:=x
 have hc:=Hint_any x.sp
 rw [f.h] at hc
 exact hc
end
end Go.Proofs.YtgkbfahflngklaaGreat.Spc
