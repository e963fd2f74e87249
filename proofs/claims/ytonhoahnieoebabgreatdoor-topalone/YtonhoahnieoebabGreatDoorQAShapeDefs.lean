/- The calls of package sum, over the translation: what each gives, and what it leaves of the world. -/
import Derived.Test.YtonhoahnieoebabGreatDoorQAMath
import Derived.Laws.BitsAllLaws
set_option maxHeartbeats 400000
set_option maxRecDepth 100000
namespace Go.Proofs.YtonhoahnieoebabGreatDoor
open Go.RowKit
theorem xG{a b:Int}(h:a=b):Ending.returned (.int .u32 a)=.returned (.int .u32 b):=by rw[h]
theorem RV(m:Nat)(h:m<4294967296)(e:((m:Int) % 2==1)=true):bits .xor .u32 ((m:Int) / 2) 3988292384=(Crc.stp m:Int):=by
 have e1:m % 2=1:=by have:=beq_iff_eq.1 e;omega
 rw[u32_xor _ _ (by omega) (by omega) (by omega) (by omega)]
 unfold Crc.stp Crc.poly;rw[if_pos e1]
 congr 2
theorem RU(m:Nat)(e:((m:Int) % 2==1)=false):((m:Int) / 2)=(Crc.stp m:Int):=by
 have e1:¬m % 2=1:=by have:=beq_eq_false_iff_ne.1 e;omega
 unfold Crc.stp;rw[if_neg e1];omega
theorem rH{a b:Int}(h:a=b):Value.int .u32 a=Value.int .u32 b:=by rw[h]
theorem RN(s:Nat)(b:UInt8)(w:World)(hs:s<4294967296) :
  Calls Tryz.prog 289 #[.int .u32 s,.int .u8 b.toNat] w fun e w'=>e=.returned (.int .u32 (Crc.byt s b))∧w'=w:=by
 have hb:=b.toNat_lt;have hx:bits .xor .u32 (s:Int) (b.toNat:Int)=((s ^^^ b.toNat:Nat):Int):=u32_xor_nat s b.toNat hs (by omega)
 have hlt0:s ^^^ b.toNat<4294967296:=Nat.xor_lt_two_pow (n:=32) hs (by omega)
 go_enter Tryz.func289,Tryz.ntmps289
 go_wp2
 go_loop [0,9] (fun t i=>∃ k:Nat,k≤8∧i=.int .i64 k∧t=.int .u32 (Crc.many k (s ^^^ b.toNat))) (fun _ i=>8-(intOf i).toNat)
 case atStart=>exact⟨0,by omega,rfl,rfl⟩
 case round =>
  obtain⟨k,hk,rfl,rfl⟩:=hrel;have hm:=Crc.D7 k _ hlt0
  have HK:Hid (¬k<8→Crc.many k (s ^^^ b.toNat)=Crc.byt s b):=by
   intro h;have h8:k=8:=by omega
   rw[h8];rfl
  have hs1:=Crc.D9 k (s ^^^ b.toNat);have HS:Hid (Crc.many (k+1) (s ^^^ b.toNat)=Crc.stp (Crc.many k (s ^^^ b.toNat))):=hs1;clear hs1;generalize Crc.many k (s ^^^ b.toNat)=m at HS HK hm ⊢;by_cases hlt:k<8
  ·go_wp2
   ·go_round
    case rel=>exact⟨k+1,by omega,by go_num,rH (by rw[HS.out];exact RV m hm (by assumption))⟩
    case measure=>simp[intOf];omega
   ·go_round
    case rel=>exact⟨k+1,by omega,by go_num,rH (by rw[HS.out];exact RU m (by assumption))⟩
    case measure=>simp[intOf];omega
  ·go_wp2
   go_ret
   exact⟨xG (by rw[HK.out hlt]),rfl⟩
theorem Oh(s:Nat)(t:ByteArray)(w:World)(hs:s<4294967296)(ht:t.size≤maxLen) :
  Calls Tryz.prog 280 #[.int .u32 s,.string t] w fun e w'=>e=.returned (.int .u32 (Crc.more s t.data.toList))∧w'=w:=by
 unfold maxLen at ht;have hx:bits .xor .u32 (s:Int) 4294967295=((s ^^^ Crc.ones:Nat):Int):=u32_xor_nat s 4294967295 hs (by omega)
 have hlt0:s ^^^ Crc.ones<4294967296:=Nat.xor_lt_two_pow (n:=32) hs (by unfold Crc.ones;omega)
 go_enter Tryz.func280,Tryz.ntmps280
 go_wp2
 go_loop [0,5,10] (fun x _ i=>∃ k:Nat,k≤t.size∧i=.int .i64 k∧x=.int .u32 (Crc.crc (s ^^^ Crc.ones) (t.data.toList.take k))) (fun _ _ i=>t.size-(intOf i).toNat)
 case atStart=>exact⟨0,Nat.zero_le _,rfl,rfl⟩
 case round =>
  obtain⟨k,hk,rfl,rfl⟩:=hrel;have hm:=Crc.BZ (s ^^^ Crc.ones) (t.data.toList.take k) hlt0
  have HK:Hid (¬k<t.size→Crc.crc (s ^^^ Crc.ones) (t.data.toList.take k) ^^^ Crc.ones=Crc.more s t.data.toList):=by
   intro h;rw[List.take_of_length_le (by simp;omega)];rfl
  by_cases hlt:k<t.size
  ·have HS:Hid (Crc.crc (s ^^^ Crc.ones) (t.data.toList.take (k+1))=Crc.byt (Crc.crc (s ^^^ Crc.ones) (t.data.toList.take k)) t[k]):=by
    have e:t.data.toList.take (k+1)=t.data.toList.take k++[t[k]]:=by
     rw[List.take_succ_eq_append_getElem (by simpa using hlt)];rfl
    rw[e,Crc.BX];rfl
   generalize Crc.crc (s ^^^ Crc.ones) (t.data.toList.take k)=m at HS HK hm ⊢;go_wp2_with (go_at_call 289;refine(RN _ _ _ hm).mono ?_;rintro e w' ⟨rfl,rfl⟩)
   go_round
   case rel=>exact⟨k+1,by omega,by go_num,rH (by rw[HS.out])⟩
   case measure=>simp[intOf];omega
  ·generalize Crc.crc (s ^^^ Crc.ones) (t.data.toList.take k)=m at HK hm ⊢
   go_wp2
   go_ret
   exact⟨xG (by rw[← HK.out hlt];exact u32_xor_nat m 4294967295 hm (by omega)),rfl⟩
def flat(ls:List ByteArray):List UInt8:=(ls.map fun s=>s.data.toList).flatten
theorem Le(ls:List ByteArray)(s:ByteArray):flat (ls++[s])=flat ls++s.data.toList:=by
 simp[flat]
theorem SK(ls:List ByteArray)(k:Nat)(h:k<ls.length):ls.take (k+1)=ls.take k++[ls.getD k ByteArray.empty]:=by
 rw[List.take_succ_eq_append_getElem h];simp[List.getD,List.getElem?_eq_getElem h]
theorem OU(ls:List ByteArray)(b off cap:Nat)(w:World)(hn:ls.length≤9223372036854775806)(hl:∀ k,k<ls.length→(ls.getD k ByteArray.empty).size≤maxLen)
  (hc:∀ k,k<ls.length→w.cell? ⟨b,off+k,none⟩=some (.string (ls.getD k ByteArray.empty))) :
  Calls Tryz.prog 264 #[.slice (some ⟨b,off,none⟩) ls.length cap] w fun e w'=>e=.returned (.int .u32 (Crc.total (flat ls)))∧w'=w:=by
 go_enter Tryz.func264,Tryz.ntmps264
 go_wp2
 go_loop [3,5,8] (fun x _ i=>∃ k:Nat,k≤ls.length∧i=.int .i64 k∧x=.int .u32 (Crc.total (flat (ls.take k)))) (fun _ _ i=>ls.length-(intOf i).toNat)
 case atStart=>exact⟨0,Nat.zero_le _,rfl,by simp[flat,Crc.Tj]⟩
 case round =>
  obtain⟨k,hk,rfl,rfl⟩:=hrel;have hm:=Crc.AL (flat (ls.take k))
  have HK:Hid (¬k<ls.length→Crc.total (flat (ls.take k))=Crc.total (flat ls)):=by
   intro h;rw[List.take_of_length_le (by omega)]
  by_cases hlt:k<ls.length
  ·have HS:Hid (Crc.total (flat (ls.take (k+1)))=Crc.more (Crc.total (flat (ls.take k))) (ls.getD k ByteArray.empty).data.toList):=by
    unfold Hid;rw[SK ls k hlt,Le,Crc.Oi]
   have hcell:=hc k hlt;have hsz:=hl k hlt;generalize Crc.total (flat (ls.take k))=m at HS HK hm ⊢;generalize ls.getD k ByteArray.empty=s at HS hcell hsz;clear hc hl;go_wp2_with (go_at_call 280;refine(Oh _ _ _ hm hsz).mono ?_;rintro e w' ⟨rfl,rfl⟩)
   go_round
   case rel=>exact⟨k+1,by omega,by go_num,rH (by rw[HS.out])⟩
   case measure=>simp[intOf];omega
  ·generalize Crc.total (flat (ls.take k))=m at HK hm ⊢
   clear hc hl;go_wp2
   go_ret
   exact⟨xG (by rw[← HK.out hlt]),rfl⟩
theorem Ey(s:ByteArray)(b cap:Nat)(w:World)(hs:s.size≤maxLen)(hc:w.cell? ⟨b,0,none⟩=some (.string s)) :
  Calls Tryz.prog 264 #[.slice (some ⟨b,0,none⟩) 1 cap] w fun e w'=>e=.returned (.int .u32 (Crc.total s.data.toList))∧w'=w:=by
 have:=OU [s] b 0 cap w (by simp) (fun k hk=>by
  have:k=0:=by simpa using hk
  subst this;exact hs) (fun k hk=>by
  have:k=0:=by simpa using hk
  subst this;exact hc)
 have e:flat [s]=s.data.toList:=by simp[flat]
 rw[e] at this;exact this
theorem EM(m c j:Nat)(hm:m<4294967296)(hc:c<256):bits .xor .u32 (bits .and .u32 (m:Int) 1) (bits .and .u32 ((c:Int) / 2 ^ j % 4294967296) 1)=(((m % 2) ^^^ (c / 2 ^ j % 2):Nat):Int):=by
 have h1:bits .and .u32 (m:Int) 1=((m % 2:Nat):Int):=by
  have:=u32_and_nat m 1 hm (by omega)
  rw[nat_mask1] at this;exact this
 have hcj:c / 2 ^ j≤c:=Nat.div_le_self _ _
 have e:((c:Int) / 2 ^ j % 4294967296)=((c / 2 ^ j:Nat):Int):=by
  have:(c:Int) / 2 ^ j=((c / 2 ^ j:Nat):Int):=by simp
  rw[this];generalize c / 2 ^ j=q at hcj;omega
 have h2:bits .and .u32 ((c:Int) / 2 ^ j % 4294967296) 1=((c / 2 ^ j % 2:Nat):Int):=by
  rw[e];have:=u32_and_nat (c / 2 ^ j) 1 (by omega) (by omega)
  rw[nat_mask1] at this;exact this
 rw[h1,h2];exact u32_xor_nat _ _ (by omega) (by omega)
theorem Qu(m c j:Nat)(hm:m<4294967296)(hc:c<256)
  (e:(bits .xor .u32 (bits .and .u32 (m:Int) 1) (bits .and .u32 ((c:Int) / 2 ^ j % 4294967296) 1)==1)=true) :
  bits .xor .u32 ((m:Int) / 2) 3988292384=(Crc.stp (m ^^^ (c / 2 ^ j % 2)):Int):=by
 rw[EM m c j hm hc] at e;have e1:(m % 2) ^^^ (c / 2 ^ j % 2)=1:=by have:=beq_iff_eq.1 e;omega
 rw[Crc.FZ _ _ (by omega),if_pos e1,u32_xor _ _ (by omega) (by omega) (by omega) (by omega)]
 congr 2
theorem Qs(m c j:Nat)(hm:m<4294967296)(hc:c<256)
  (e:(bits .xor .u32 (bits .and .u32 (m:Int) 1) (bits .and .u32 ((c:Int) / 2 ^ j % 4294967296) 1)==1)=false) :
  (m:Int) / 2=(Crc.stp (m ^^^ (c / 2 ^ j % 2)):Int):=by
 rw[EM m c j hm hc] at e;have e1:¬(m % 2) ^^^ (c / 2 ^ j % 2)=1:=by have:=beq_eq_false_iff_ne.1 e;omega
 rw[Crc.FZ _ _ (by omega),if_neg e1]
 omega
theorem Qr(t:ByteArray)(w:World)(ht:t.size≤1000000) :
  Calls Tryz.prog 266 #[.string t] w fun e w'=>e=.returned (.int .u32 (Crc.total t.data.toList))∧w'=w:=by
 go_enter Tryz.func266,Tryz.ntmps266
 go_wp2
 go_loop [3,4] (fun x i=>∃ k:Nat,k≤8*t.size∧i=.int .i64 k∧x=.int .u32 (Crc.bitwise (Crc.num t.data.toList) k)) (fun _ i=>8*t.size-(intOf i).toNat)
 case atStart=>exact⟨0,Nat.zero_le _,rfl,by rw[Crc.Bd];rfl⟩
 case round =>
  obtain⟨k,hk,rfl,rfl⟩:=hrel;have hm:=Crc.Iu (Crc.num t.data.toList) k;by_cases hlt:k<8*t.size
  ·have HS:Hid (Crc.bitwise (Crc.num t.data.toList) (k+1)=Crc.stp (Crc.bitwise (Crc.num t.data.toList) k ^^^ ((t[k / 8]'(by omega)).toNat / 2 ^ (k % 8) % 2))):=by
    unfold Hid;rw[Crc.Bc,Crc.OL _ k (by simpa using hlt)];rfl
   generalize Crc.bitwise (Crc.num t.data.toList) k=m at HS hm ⊢;have hcb:=(t[k / 8]'(by omega)).toNat_lt
   go_wp2
   ·go_round
    case rel=>exact⟨k+1,by omega,by go_num,rH (by rw[HS.out];exact Qu m _ _ hm hcb (by assumption))⟩
    case measure=>simp[intOf];omega
   ·go_round
    case rel=>exact⟨k+1,by omega,by go_num,rH (by rw[HS.out];exact Qs m _ _ hm hcb (by assumption))⟩
    case measure=>simp[intOf];omega
  ·have HK:Hid (Crc.bitwise (Crc.num t.data.toList) k ^^^ Crc.ones=Crc.total t.data.toList):=by
    have h8:k=8*t.data.toList.length:=by simp;omega
    unfold Hid;rw[h8,Crc.Ir];rfl
   generalize Crc.bitwise (Crc.num t.data.toList) k=m at HK hm ⊢;go_wp2
   go_ret
   exact⟨xG (by rw[← HK.out];exact u32_xor_nat m 4294967295 hm (by omega)),rfl⟩
def zh(s:Nat):List Int:=[(s:Int) % 256,(s:Int) / 256 % 256,(s:Int) / 65536 % 256,(s:Int) / 16777216]
def four(s:Nat):ByteArray:=strOfNums (zh s)
theorem cells4(w:World)(x0 x1 x2 x3:Int)(i:Nat)(h:i<4) :
  (w.alloc (.cells #[.int .u8 x0,.int .u8 x1,.int .u8 x2,.int .u8 x3] 5)).cell? ⟨w.heap.size,0+i,none⟩=some (.int .u8 ([x0,x1,x2,x3].getD i 0)):=by
 match i,h with
 | 0,_=>simp[go_sem]
 | 1,_=>simp[go_sem]
 | 2,_=>simp[go_sem]
 | 3,_=>simp[go_sem]
theorem Bj(s:Nat)(w:World)(hs:s<4294967296) :
  Calls Tryz.prog 263 #[.int .u32 s] w fun e w'=>e=.returned (.string (four s))∧Below w.heap.size w w':=by
 have hcv:=run_convert_bytes_arg (P:=Tryz.prog) (w.alloc (.cells #[.int .u8 ((s:Int) % 256),.int .u8 ((s:Int) / 256 % 256),.int .u8 ((s:Int) / 65536 % 256),.int .u8 ((s:Int) / 16777216)] 5)) 206 5 Tryz.underlying206 Tryz.underlying5 w.heap.size 0 4 4 (zh s) rfl (cells4 w _ _ _ _) 9 Tryz.underlying9;go_enter Tryz.func263,Tryz.ntmps263
 go_wp2
 go_ret
 exact⟨rfl,(Below.refl _ _).alloc (Nat.le_refl _) _⟩
def Texts(w:World)(la:Option Addr)(len:Nat)(ls:List ByteArray):Prop :=
 ls.length=len∧∀ k,k<len→∃ b off,la=some ⟨b,off,none⟩∧w.cell? ⟨b,off+k,none⟩=some (.string (ls.getD k ByteArray.empty))∧(ls.getD k ByteArray.empty).size≤maxLen
theorem rX{a b:Bool}(h:a=b):Ending.returned (.bool a)=.returned (.bool b):=by rw[h]
def erV(f:Int):Value:=if f=0 then .nilIface else .iface 127 (.int .i64 f)
def kD(l:List Int):List Int:=l++List.replicate (12-l.length) 0
def s12(l:List Int):ByteArray:=strOfNums (kD l)
def aU(l:List Int):ByteArray:=s12 l++four (Crc.total (s12 l).data.toList)
theorem zT(l:List Int)(h:l.length≤12):(kD l).length=12:=by
 unfold kD;rw[List.length_append,List.length_replicate];omega
theorem strOfNums_size(l:List Int):(strOfNums l).size=l.length:=by simp[strOfNums,ByteArray.size]
theorem xJ(l:List Int)(h:l.length≤12):(s12 l).size=12:=by
 unfold s12;rw[strOfNums_size,zT l h]
theorem Di(s:Nat):(four s).size=4:=rfl
theorem xK(l:List Int)(h:l.length≤12):(aU l).size=16:=by
 unfold aU;rw[ByteArray.size_append,xJ l h,Di]
def uP(s:ByteArray):Bool:=(four (Crc.total (s.extract 0 12).data.toList)).toList==(s.extract 12 s.size).toList
def dX(s:ByteArray):Int:=if s.size=16 then (if uP s=true then 0 else 3) else 1
def bAt(s:ByteArray)(i:Nat):Int:=((s.data.toList.getD i 0).toNat:Int)
theorem fK(s:ByteArray)(i:Nat):0≤bAt s i∧bAt s i<256:=by
 unfold bAt;have:=(s.data.toList.getD i 0).toNat_lt;omega
theorem oz(s:ByteArray)(i:Nat)(h:i<s.size):((s[i]'h).toNat:Int)=bAt s i:=by
 have hl:i<s.data.toList.length:=by simpa using h
 unfold bAt;rw[List.getD_eq_getElem?_getD,List.getElem?_eq_getElem hl];rfl
structure HV where
 c:Int
 p:Int
 b:Int
def HV.ok(h:HV):Bool:=decide (1≤h.c∧h.c≤32∧0≤h.p∧h.p≤40 ∧ -1≤h.b∧h.b≤4)
def HV.cells(h:HV):Array Value := #[.int .i64 h.c,.int .i64 h.p,.int .i64 h.b]
def HV.zero:HV:=⟨0,0,0⟩
def HV.bytes(h:HV):List Int:=[83,89,h.c,h.p,h.b+1]
def HV.fault(h:HV):Int:=if h.ok=true then 0 else 1
def HV.text(h:HV):ByteArray:=if h.ok=true then aU h.bytes else ⟨#[]⟩
def lF(s:ByteArray):HV:=⟨bAt s 2,bAt s 3,bAt s 4-1⟩
def ng(s:ByteArray):Bool:=(lF s).ok&&((aU (lF s).bytes).toList==s.toList)
def ji(s:ByteArray):HV:=if dX s=0∧ng s=true then lF s else HV.zero
def gZ(s:ByteArray):Int:=if dX s=0 then (if ng s=true then 0 else 2) else dX s
structure KV where
 r:Int
 k:Int
 f:Int
 a:Int
 u:Int
def KV.bound(d:KV):Bool:=decide (0≤d.r∧d.r≤4∧0≤d.k∧d.k≤3 ∧ -1≤d.f∧d.f≤4∧0≤d.a∧d.a≤1000∧0≤d.u∧d.u≤1000)
def KV.may(d:KV):Bool:=decide ((d.k=0∧d.f = -1∧d.a=0∧d.u=0)∨(d.k≠0∧d.f≠d.r∧(d.f ≠ -1∨d.k=2)))
def KV.fault(d:KV):Int:=if d.bound=true then (if d.may=true then 0 else 2) else 1
def KV.cells(d:KV):Array Value := #[.int .i64 d.r,.int .i64 d.k,.int .i64 d.f,.int .i64 d.a,.int .i64 d.u]
def KV.zero:KV:=⟨0,0,0,0,0⟩
def KV.bytes(d:KV):List Int:=[68,75,d.r,d.k,d.f+1,d.a % 256,d.a / 256,d.u % 256,d.u / 256]
def KV.text(d:KV):ByteArray:=if d.fault=0 then aU d.bytes else ⟨#[]⟩
def lg(s:ByteArray):KV:=⟨bAt s 2,bAt s 3,bAt s 4-1,bAt s 5+bAt s 6*256,bAt s 7+bAt s 8*256⟩
def mY(s:ByteArray):Bool:=decide ((lg s).fault=0)&&((aU (lg s).bytes).toList==s.toList)
def jI(s:ByteArray):KV:=if dX s=0∧mY s=true then lg s else KV.zero
def bJ(s:ByteArray):Int:=if dX s=0 then (if mY s=true then 0 else 2) else dX s
theorem nX(l:List Int)(i:Nat)(hi:i<l.length)(h12:l.length≤12)(h0:0≤l.getD i 0)(h1:l.getD i 0<256):bAt (aU l) i=l.getD i 0:=by
 have e:(aU l).data.toList=(s12 l).data.toList++(four (Crc.total (s12 l).data.toList)).data.toList:=by unfold aU;simp
 have e2:(s12 l).data.toList=(kD l).map fun n=>UInt8.ofNat n.toNat:=by unfold s12 strOfNums;simp
 have hp:i<(kD l).length:=by rw[zT l h12];omega
 unfold bAt;rw[e,e2,List.getD_eq_getElem?_getD,List.getElem?_append_left (by simpa using hp),List.getElem?_map,List.getElem?_eq_getElem hp]
 have e3:(kD l)[i]=l.getD i 0:=by
  have e4:(kD l)[i]?=l[i]?:=by unfold kD;rw[List.getElem?_append_left hi]
  rw[List.getElem?_eq_getElem hp] at e4;rw[List.getD_eq_getElem?_getD,← e4];rfl
 rw[e3];simp only[Option.map_some,Option.getD_some,UInt8.toNat_ofNat'];omega
theorem KF(a b:ByteArray)(n:Nat)(h:a.size=n):(a++b).extract 0 n=a:=by
 apply ByteArray.ext
 have hl:n=a.data.size:=h.symm;rw[ByteArray.data_extract,ByteArray.data_append,hl,Array.extract_append_left,Array.extract_size]
theorem KG(a b:ByteArray)(n:Nat)(h:a.size=n):(a++b).extract n (a++b).size=b:=by
 apply ByteArray.ext
 have hl:n=a.data.size:=h.symm;have hs:(a++b).size=a.data.size+b.data.size:=by rw[ByteArray.size_append];rfl
 rw[hs,ByteArray.data_extract,ByteArray.data_append,hl,Array.extract_append_right,Array.extract_size]
theorem QU(l:List Int)(h:l.length≤12):uP (aU l)=true:=by
 unfold uP aU;rw[KF _ _ 12 (xJ l h),KG _ _ 12 (xJ l h)];exact beq_self_eq_true _
theorem E5(l:List Int)(h:l.length≤12):dX (aU l)=0:=by
 unfold dX;rw[if_pos (xK l h),if_pos (QU l h)]
theorem MF(h:HV)(hk:h.ok=true):lF (aU h.bytes)=h:=by
 have hb:=of_decide_eq_true hk;obtain⟨c,p,b⟩:=h;simp only at hb;have e2:bAt (aU (HV.bytes ⟨c,p,b⟩)) 2=c:=nX (HV.bytes ⟨c,p,b⟩) 2 (by simp[HV.bytes]) (by simp[HV.bytes]) (by show 0≤c;omega) (by show c<256;omega)
 have e3:bAt (aU (HV.bytes ⟨c,p,b⟩)) 3=p:=nX (HV.bytes ⟨c,p,b⟩) 3 (by simp[HV.bytes]) (by simp[HV.bytes]) (by show 0≤p;omega) (by show p<256;omega)
 have e4:bAt (aU (HV.bytes ⟨c,p,b⟩)) 4=b+1:=nX (HV.bytes ⟨c,p,b⟩) 4 (by simp[HV.bytes]) (by simp[HV.bytes]) (by show 0≤b+1;omega) (by show b+1<256;omega)
 unfold lF;rw[e2,e3,e4]
 congr 1;omega
theorem MH(h:HV)(hk:h.ok=true):ji (aU h.bytes)=h∧gZ (aU h.bytes)=0:=by
 have e:=MF h hk;have hs:dX (aU h.bytes)=0:=E5 _ (by simp[HV.bytes])
 have hg:ng (aU h.bytes)=true:=by unfold ng;rw[e,hk];simp
 unfold ji gZ;rw[if_pos ⟨hs,hg⟩,if_pos hs,if_pos hg];exact⟨e,rfl⟩
theorem KV.uz{d : KV}(h : d.fault = 0) : d.bound = true ∧ d.may = true := by
  unfold KV.fault at h;split at h
  · next hb => split at h
               · next hm => exact ⟨hb, hm⟩
               · omega
  · omega
theorem Jq(d:KV)(hk:d.fault=0):lg (aU d.bytes)=d:=by
 have hb:=of_decide_eq_true (KV.uz hk).1;obtain⟨r,k,f,a,u⟩:=d;simp only at hb;have l9:(KV.bytes ⟨r,k,f,a,u⟩).length=9:=rfl;have e2:bAt (aU (KV.bytes ⟨r,k,f,a,u⟩)) 2=r:=nX (KV.bytes ⟨r,k,f,a,u⟩) 2 (by omega) (by omega) (by show 0≤r;omega) (by show r<256;omega)
 have e3:bAt (aU (KV.bytes ⟨r,k,f,a,u⟩)) 3=k:=nX (KV.bytes ⟨r,k,f,a,u⟩) 3 (by omega) (by omega) (by show 0≤k;omega) (by show k<256;omega)
 have e4:bAt (aU (KV.bytes ⟨r,k,f,a,u⟩)) 4=f+1:=nX (KV.bytes ⟨r,k,f,a,u⟩) 4 (by omega) (by omega) (by show 0≤f+1;omega) (by show f+1<256;omega)
 have e5:bAt (aU (KV.bytes ⟨r,k,f,a,u⟩)) 5=a % 256:=nX (KV.bytes ⟨r,k,f,a,u⟩) 5 (by omega) (by omega) (by show 0≤a % 256;omega) (by show a % 256<256;omega)
 have e6:bAt (aU (KV.bytes ⟨r,k,f,a,u⟩)) 6=a / 256:=nX (KV.bytes ⟨r,k,f,a,u⟩) 6 (by omega) (by omega) (by show 0≤a / 256;omega) (by show a / 256<256;omega)
 have e7:bAt (aU (KV.bytes ⟨r,k,f,a,u⟩)) 7=u % 256:=nX (KV.bytes ⟨r,k,f,a,u⟩) 7 (by omega) (by omega) (by show 0≤u % 256;omega) (by show u % 256<256;omega)
 have e8:bAt (aU (KV.bytes ⟨r,k,f,a,u⟩)) 8=u / 256:=nX (KV.bytes ⟨r,k,f,a,u⟩) 8 (by omega) (by omega) (by show 0≤u / 256;omega) (by show u / 256<256;omega)
 unfold lg;rw[e2,e3,e4,e5,e6,e7,e8]
 congr 1<;>omega
theorem Jr(d:KV)(hk:d.fault=0):jI (aU d.bytes)=d∧bJ (aU d.bytes)=0:=by
 have e:=Jq d hk;have hs:dX (aU d.bytes)=0:=E5 _ (by simp[KV.bytes])
 have hg:mY (aU d.bytes)=true:=by unfold mY;rw[e,decide_eq_true hk];simp
 unfold jI bJ;rw[if_pos ⟨hs,hg⟩,if_pos hs,if_pos hg];exact⟨e,rfl⟩
end Go.Proofs.YtonhoahnieoebabGreatDoor
