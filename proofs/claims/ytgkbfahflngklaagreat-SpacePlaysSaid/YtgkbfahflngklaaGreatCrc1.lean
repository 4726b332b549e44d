namespace Go.Proofs.YtgkbfahflngklaaGreat
namespace Crc
def sh (w:BitVec 32):BitVec 32:=if w.msb then (w <<< 1) ^^^ 0x04c11db7#32 else w <<< 1
def stp (w:BitVec 32) (b:Bool):BitVec 32:=if w.msb != b then (w <<< 1) ^^^ 0x04c11db7#32 else w <<< 1
def reg (w:BitVec 32) (l:List Bool):BitVec 32:=l.foldl stp w
def sh4 (w:BitVec 32):BitVec 32:=sh (sh (sh (sh w)))
def tab (i:Nat):BitVec 32:=sh4 (BitVec.ofNat 32 i <<< 28)
def nib (w:BitVec 32) (n:Nat):BitVec 32:=(w <<< 4) ^^^ tab ((w >>> 28).toNat ^^^ n)
def byteStep (w:BitVec 32) (u:UInt8):BitVec 32:=nib (nib w (u.toNat / 16)) (u.toNat &&& 15)
def crcReg (l:List UInt8):BitVec 32:=l.foldl byteStep 0xffffffff#32
def crc (l:List UInt8):BitVec 32 := ~~~ crcReg l
def bitsU8 (u:UInt8):List Bool:=[u.toNat.testBit 7,u.toNat.testBit 6,u.toNat.testBit 5,u.toNat.testBit 4,u.toNat.testBit 3,u.toNat.testBit 2,u.toNat.testBit 1,u.toNat.testBit 0]
def top (b:Bool):BitVec 32:=if b then 0x80000000#32 else 0#32
theorem msb_xor' (a b:BitVec 32):(a ^^^ b).msb=(a.msb ^^ b.msb):=by simp
theorem shl_xor (a b:BitVec 32) (n:Nat):(a ^^^ b) <<< n=(a <<< n) ^^^ (b <<< n):=by
 ext i hi; simp; cases decide (i < n) <;> simp
theorem xor_mid (a b c d:BitVec 32):(a ^^^ b) ^^^ (c ^^^ d)=(a ^^^ c) ^^^ (b ^^^ d):=by
 rw [BitVec.xor_assoc,BitVec.xor_assoc,←BitVec.xor_assoc b c d,BitVec.xor_comm b c,BitVec.xor_assoc c b d]
theorem sh_xor (a b:BitVec 32):sh (a ^^^ b)=sh a ^^^ sh b:=by
 unfold sh
 rw [msb_xor',shl_xor]
 cases a.msb <;> cases b.msb <;> simp
 ·rw [BitVec.xor_assoc]
 ·rw [BitVec.xor_assoc,BitVec.xor_assoc,BitVec.xor_comm (b <<< 1)]
 ·rw [xor_mid]; simp
theorem top_msb (b:Bool):(top b).msb=b:=by cases b <;> decide
theorem top_shl (b:Bool):top b <<< 1=0#32:=by cases b <;> decide
theorem stp_sh (w:BitVec 32) (b:Bool):stp w b=sh (w ^^^ top b):=by
 unfold stp sh
 rw [msb_xor',top_msb,shl_xor,top_shl,BitVec.xor_zero]
theorem reg_append (w:BitVec 32) (l m:List Bool):reg w (l ++ m)=reg (reg w l) m:=by simp [reg]
theorem sh4_xor (a b:BitVec 32):sh4 (a ^^^ b)=sh4 a ^^^ sh4 b:=by simp only [sh4,sh_xor]
theorem sh_low (w:BitVec 32) (h:w.msb=false):sh w=w <<< 1:=by unfold sh; rw [h]; simp
theorem sh4_low (w:BitVec 32) (h:∀ i,28≤i→w.getLsbD i=false):sh4 w=w <<< 4:=by
 have m:∀ k,k < 4→(w <<< k).msb=false:=by
  intro k hk
  rw [BitVec.msb_eq_getLsbD_last,BitVec.getLsbD_shiftLeft,h (32 - 1 - k) (by omega)]
  simp
 have e1:sh w=w <<< 1:=sh_low w (by simpa using m 0 (by omega))
 have e2:sh (w <<< 1)=w <<< 2:=by rw [sh_low _ (m 1 (by omega)),←BitVec.shiftLeft_add]
 have e3:sh (w <<< 2)=w <<< 3:=by rw [sh_low _ (m 2 (by omega)),←BitVec.shiftLeft_add]
 have e4:sh (w <<< 3)=w <<< 4:=by rw [sh_low _ (m 3 (by omega)),←BitVec.shiftLeft_add]
 rw [sh4,e1,e2,e3,e4]
theorem split_top (w:BitVec 32):w=(w &&& 0x0fffffff#32) ^^^ ((w >>> 28) <<< 28):=by
 apply BitVec.eq_of_getLsbD_eq
 intro i hi
 simp only [BitVec.getLsbD_xor,BitVec.getLsbD_and,BitVec.getLsbD_shiftLeft,BitVec.getLsbD_ushiftRight]
 by_cases h:i < 28
 ·have:(0x0fffffff#32).getLsbD i=true:=by
   have:∀ i:Fin 28,(0x0fffffff#32).getLsbD i=true:=by decide
   exact this ⟨i,h⟩
  simp [h,this]
 ·have:(0x0fffffff#32).getLsbD i=false:=by
   have:∀ i:Fin 32,¬ i.val < 28→(0x0fffffff#32).getLsbD i=false:=by decide
   exact this ⟨i,hi⟩ h
  have e:28+(i - 28)=i:=by omega
  rw [this,e]
  simp [h,hi]
theorem ofNat_top (w:BitVec 32) (n:Nat):BitVec.ofNat 32 ((w >>> 28).toNat ^^^ n)=(w >>> 28) ^^^ BitVec.ofNat 32 n:=by
 rw [BitVec.ofNat_xor,BitVec.ofNat_toNat,BitVec.setWidth_eq]
theorem nib_eq (w:BitVec 32) (n:Nat):nib w n=sh4 (w ^^^ (BitVec.ofNat 32 n <<< 28)):=by
 unfold nib tab
 rw [ofNat_top,shl_xor,sh4_xor,sh4_xor]
 have e:sh4 w=(w <<< 4) ^^^ sh4 ((w >>> 28) <<< 28):=by
  have:=split_top w
  have hl:sh4 (w &&& 0x0fffffff#32)=w <<< 4:=by
   rw [sh4_low]
   ·apply BitVec.eq_of_getLsbD_eq
    intro i hi
    simp only [BitVec.getLsbD_shiftLeft,BitVec.getLsbD_and]
    by_cases h:i < 4
    ·simp [h]
    ·have:(0x0fffffff#32).getLsbD (i - 4)=true:=by
      have:∀ i:Fin 28,(0x0fffffff#32).getLsbD i=true:=by decide
      exact this ⟨i - 4,by omega⟩
     simp [this]
   ·intro i hi
    rw [BitVec.getLsbD_and]
    by_cases h:i < 32
    ·have:∀ i:Fin 32,¬ i.val < 28→(0x0fffffff#32).getLsbD i=false:=by decide
     rw [this ⟨i,h⟩ (by simpa using hi)]; simp
    ·rw [BitVec.getLsbD_of_ge (0x0fffffff#32) i (by omega)]; simp
  calc sh4 w=sh4 ((w &&& 0x0fffffff#32) ^^^ ((w >>> 28) <<< 28)):=by rw [←this]
   _=_:=by rw [sh4_xor,hl]
 rw [e,BitVec.xor_assoc]
def nibTop (b3 b2 b1 b0:Bool):BitVec 32:=top b3 ^^^ (top b2 >>> 1) ^^^ (top b1 >>> 2) ^^^ (top b0 >>> 3)
theorem reg_four (w:BitVec 32) (b3 b2 b1 b0:Bool):reg w [b3,b2,b1,b0]=sh4 (w ^^^ nibTop b3 b2 b1 b0):=by
 simp only [reg,List.foldl_cons,List.foldl_nil,stp_sh]
 unfold nibTop
 rw [←BitVec.xor_assoc,←BitVec.xor_assoc,←BitVec.xor_assoc]
 simp only [sh4,sh_xor]
 have e1:∀ b:Bool,sh (top b >>> 1)=top b:=by intro b; cases b <;> decide
 have e2:∀ b:Bool,sh (sh (top b >>> 2))=top b:=by intro b; cases b <;> decide
 have e3:∀ b:Bool,sh (sh (sh (top b >>> 3)))=top b:=by intro b; cases b <;> decide
 rw [e1,e2,e3]
theorem nibTop_eq:∀ n:Fin 16,nibTop (n.val.testBit 3) (n.val.testBit 2) (n.val.testBit 1) (n.val.testBit 0)=BitVec.ofNat 32 n.val <<< 28:=by decide
theorem nib_reg (w:BitVec 32) (n:Nat) (h:n < 16):nib w n=reg w [n.testBit 3,n.testBit 2,n.testBit 1,n.testBit 0]:=by
 rw [reg_four,nib_eq,nibTop_eq ⟨n,h⟩]
theorem byteStep_reg (w:BitVec 32) (u:UInt8):byteStep w u=reg w (bitsU8 u):=by
 have hu:=u.toNat_lt
 have e1:∀ k,(u.toNat / 16).testBit k=u.toNat.testBit (k+4):=by
  intro k
  have:=Nat.testBit_div_two_pow (n:=4) u.toNat k
  simpa [Nat.add_comm] using this
 have e2:∀ k,k < 4→(u.toNat &&& 15).testBit k=u.toNat.testBit k:=by
  intro k hk
  have:=Nat.testBit_mod_two_pow u.toNat 4 k
  rw [show (15:Nat)=2 ^ 4 - 1 from rfl,Nat.and_two_pow_sub_one_eq_mod,this]
  simp [hk]
 unfold byteStep
 rw [nib_reg w _ (by omega),nib_reg _ _ (by have:=Nat.and_le_right (n:=u.toNat) (m:=15); omega),←reg_append]
 rw [e1,e1,e1,e1,e2 3 (by omega),e2 2 (by omega),e2 1 (by omega),e2 0 (by omega)]
 rfl
end Crc
namespace Crc
def be4 (v:BitVec 32):List UInt8:=[UInt8.ofNat (v.toNat / 16777216),UInt8.ofNat (v.toNat / 65536),UInt8.ofNat (v.toNat / 256),UInt8.ofNat v.toNat]
def sealB (l:List UInt8):List UInt8:=l.take 252 ++ be4 (crc (l.take 252))
theorem sealB_length {l:List UInt8} (h:l.length=256):(sealB l).length=256:=by simp [sealB,be4,h]
theorem sealB_take {l:List UInt8} (h:l.length=256):(sealB l).take 252=l.take 252:=by
 unfold sealB; rw [List.take_append_of_le_length (by simp [h]),List.take_take]; rfl
theorem sealB_sealB {l:List UInt8} (h:l.length=256):sealB (sealB l)=sealB l:=by
 show (sealB l).take 252 ++ be4 (crc ((sealB l).take 252))=sealB l
 rw [sealB_take h]; rfl
theorem sealB_congr {l m:List UInt8} (h:l.take 252=m.take 252):sealB l=sealB m:=by unfold sealB; rw [h]
def rest:BitVec 32:=reg 0xffffffff#32 (List.replicate 32 false)
theorem len4:∀ {l:List UInt8},l.length=4→∃ a b c d,l=[a,b,c,d]
 | [a,b,c,d],_=>⟨a,b,c,d,rfl⟩
end Crc
namespace Crc
end Crc

end Go.Proofs.YtgkbfahflngklaaGreat
