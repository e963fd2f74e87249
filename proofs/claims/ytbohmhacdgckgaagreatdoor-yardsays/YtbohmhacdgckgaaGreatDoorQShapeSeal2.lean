/- A device with a lower base; what is seen is what was flushed, and the pending writes over it. -/
import Derived.Test.YtbohmhacdgckgaaGreatDoorQRefNew
import Derived.Laws.BitsAllLaws
import Derived.Lib.ConvBytes
set_option linter.all false
set_option maxHeartbeats 400000
set_option maxRecDepth 100000
namespace Go.Proofs.YtbohmhacdgckgaaGreatDoor
open Go.RowKit renaming Below->β
open Go renaming World->ω, Calls->κ
open Option renaming none->O, some->S
open Go.Proofs.Tryz Go.RowKit
attribute [local go_sem ↓] Go.wp_at_zero Go.wp_at_succ
def Fg(l:List (List UInt8))(wr:Nat):(DV.made l wr).sn:=rfl
def zX{d:DV}(h:d.sn)(n:Int):(d.failing n).sn:=h
def U4{d:DV}(h:d.sn):d.iJ.sn:=by
 unfold DV.iJ;split
 .exact h
 .exact zX h _
def Nh(d:DV):d.flushed.sn:=rfl
def TS(p r:List (Nat × List UInt8))(l:List (List UInt8))(k:Nat)(b:k<=p.length):kT (p++r) l k=kT p l k:=by
 induction k with
 | zero=>rfl
 | succ k a =>
  show(kT _ l k).set _ _=(kT p l k).set _ _
  rw[a (by omega)]
  have e:(p++r).getD k (0,[])=p.getD k (0,[]):=by
   rw[ja5,ja5,List.getElem?_append_left (by omega)]
  rw[e]
def VD{d:DV}(h:d.sn)(i:Nat)(s:List UInt8):(d.wrote i s).sn:=by
 unfold DV.sn DV.wrote;rw[jak];show _=(kT _ _ _).set _ _
 rw[TS _ _ _ _ (ja1 _),<- h]
 simp_all
namespace Crc
def poly:Nat:=3988292384
def stp(s:Nat):Nat:=if s % 2=1 then (s / 2) ^^^ poly else s / 2
def many:Nat->Nat->Nat
 | 0,s=>s
 | n+1,s=>many n (stp s)
def Fh(a b s:Nat):many (a+b) s=many b (many a s):=by
 induction a generalizing s with
 | zero=>simp[many]
 | succ a c=>rw[Nat.succ_add];exact c _
def Fq(n s:Nat):many (n+1) s=stp (many n s):=by
 rw[Fh n 1 s];rfl
def Jd(x y:Nat):(x ^^^ y) % 2=(x % 2+y % 2) % 2:=by
 have h:=jbp x y 0;have a:(x ^^^ y) % 2=0\/(x ^^^ y) % 2=1:=by omega
 have c:x % 2=0\/x % 2=1:=by omega
 have b:y % 2=0\/y % 2=1:=by omega
 rcases a with a|a<;>rcases c with c|c<;>rcases b with b|b<;>simp[a,c,b] at h |-
def Jc(x y:Nat):(x ^^^ y) / 2=(x / 2) ^^^ (y / 2):=Nat.xor_div_two
def Ut(x y:Nat):stp (x ^^^ y)=stp x ^^^ stp y:=by
 unfold stp;rw[Jd,Jc];have b:x % 2=0\/x % 2=1:=by omega
 have a:y % 2=0\/y % 2=1:=by omega
 rcases b with b|b<;>rcases a with a|a<;>simp[b,a]
 .rw[jaH]
 .rw[jaH,jaH,Nat.xor_comm _ poly]
 .rw[jaH,<- jaH poly,Nat.xor_comm poly _,jaH,Nat.xor_self,Nat.xor_zero]
def Fv(n x y:Nat):many n (x ^^^ y)=many n x ^^^ many n y:=by
 induction n generalizing x y with
 | zero=>rfl
 | succ n a=>simp only[many];rw[Ut,a]
def Uo(x:Nat):stp (2*x)=x:=by
 unfold stp
 simp_all
def Fp(n x:Nat):many n (2 ^ n*x)=x:=by
 induction n generalizing x with
 | zero=>simp[many]
 | succ n a =>
  simp only[many];rw[Nat.pow_succ,jb4,Nat.mul_left_comm,Uo,a]
def Iw(x:Nat)(h:x<4294967296):stp x<4294967296:=by
 unfold stp;split
 .exact jaJ (n:=32) (by omega) (by unfold poly;omega)
 .omega
def Fj(n x:Nat)(h:x<4294967296):many n x<4294967296:=by
 induction n generalizing x with
 | zero=>exact h
 | succ n a=>exact a _ (Iw x h)
def num:List UInt8->Nat
 | []=>0
 | b::l=>b.toNat+256*num l
def PD(l:List UInt8):num l<2 ^ (8*l.length):=by
 induction l with
 | nil=>simp[num]
 | cons b l c =>
  have a:=b.toNat_lt;simp only[num,jax];rw[show 8*(l.length+1)=8+8*l.length by omega,Nat.pow_add]
  omega
def add_eq_xor(i x y:Nat)(h:x<2 ^ i):x+2 ^ i*y=x ^^^ (2 ^ i*y):=by
 apply jbq
 intro j;rw[jbp,Nat.add_comm,jaE y h,Nat.testBit_two_pow_mul];by_cases a:j<i
 .have:¬j>=i:=by omega
  simp[a,this]
 .have:j>=i:=by omega
  simp[a,this,(Nat.testBit_lt_two_pow (ja9 h (Nat.pow_le_pow_right (by omega) (by omega))))]
def byt(s:Nat)(b:UInt8):Nat:=many 8 (s ^^^ b.toNat)
def crc(s:Nat)(l:List UInt8):Nat:=l.foldl byt s
def DU(s:Nat)(l m:List UInt8):crc s (l++m)=crc (crc s l) m:=by
 simp[crc]
def KX(s:Nat)(l:List UInt8):crc s l=many (8*l.length) (s ^^^ num l):=by
 induction l generalizing s with
 | nil=>simp[crc,num,many]
 | cons b l a =>
  have e:crc s (b::l)=crc _ l:=rfl;have d:=b.toNat_lt
  have c:num (b::l)=b.toNat ^^^ (2 ^ 8*num l):=by
   rw[<- add_eq_xor 8 _ _ (by omega)];rfl
  rw[e,a,c,jax,show 8*(l.length+1)=8+8*l.length by omega,Fh,<- jaH,Fv 8,Fp];rfl
def Kr(s:Nat)(b:UInt8)(h:s<4294967296):byt s b<4294967296:=by
 have a:=b.toNat_lt;exact Fj _ _ (jaJ (n:=32) (by omega) (by omega))
def EU(s:Nat)(l:List UInt8)(h:s<4294967296):crc s l<4294967296:=by
 induction l generalizing s with
 | nil=>exact h
 | cons b l a=>exact a _ (Kr s b h)
def ones:Nat:=4294967295
def more(s:Nat)(l:List UInt8):Nat:=crc (s ^^^ ones) l ^^^ ones
def total(l:List UInt8):Nat:=crc ones l ^^^ ones
def yX(l:List UInt8):total l<4294967296 :=
 jaJ (n:=32) (EU _ _ (by unfold ones;omega)) (by unfold ones;omega)
def O5(l m:List UInt8):more (total l) m=total (l++m):=by
 unfold more total;rw[jaH,Nat.xor_self,Nat.xor_zero,DU]
def U7:total []=0:=by simp[total,crc]
def bitwise(n i:Nat):Nat:=many i (ones ^^^ (n % 2 ^ i))
def Di(n:Nat):bitwise n 0=ones:=by simp[bitwise,many,Nat.mod_one]
def Dh(n i:Nat):bitwise n (i+1)=stp (bitwise n i ^^^ (n / 2 ^ i % 2)):=by
 have h:n % 2 ^ (i+1)=(n % 2 ^ i) ^^^ (2 ^ i*(n / 2 ^ i % 2)):=by
  rw[<- add_eq_xor i _ _ (Nat.mod_lt _ (Nat.two_pow_pos i)),Nat.pow_succ,Nat.mod_mul]
 unfold bitwise;rw[h,<- jaH,Fq,Fv,Fp]
def J9(n i:Nat):bitwise n i<4294967296:=by
 induction i with
 | zero=>rw[Di];unfold ones;omega
 | succ i a =>
  rw[Dh];exact Iw _ (jaJ (n:=32) a (by omega))
def J8(l:List UInt8):bitwise (num l) (8*l.length)=crc ones l:=by
 rw[KX];unfold bitwise;rw[Nat.mod_eq_of_lt (PD l)]
def Pz(l:List UInt8)(i:Nat)(h:i<8*l.length):num l / 2 ^ i % 2=(l[i / 8]'(by omega)).toNat / 2 ^ (i % 8) % 2:=by
 induction l generalizing i with
 | nil=>simp at h
 | cons b l f =>
  have g:=b.toNat_lt;by_cases k:i<8
  .have a:i / 8=0:=by omega
   have c:i % 8=i:=by omega
   simp only[a,c,jam,num]
   have d:(256:Nat)=2 ^ i*(2*2 ^ (7-i)):=by
    rw[<- jb4,Nat.mul_comm (2 ^ i) 2,jb4,<- Nat.pow_add,show i+(7-i)=7 by omega]
   rw[d,jb4,Nat.add_mul_div_left _ _ (Nat.two_pow_pos i),jb4,Nat.add_mul_mod_self_left]
  .obtain⟨j,rfl⟩:∃ j,i=j+8:=⟨i-8,by omega⟩
   have a:(j+8) / 8=j / 8+1:=by omega
   have c:(j+8) % 8=j % 8:=by omega
   simp only[a,c,jao,num];rw[<- f j (by simp only[jax] at h;omega),Nat.pow_add,Nat.mul_comm (2 ^ j),<- Nat.div_div_eq_div_mul]
   congr 2
   have:(2:Nat) ^ 8=256:=rfl
   rw[this];omega
def Iu(s b:Nat)(d:b<2):stp (s ^^^ b)=if (s % 2) ^^^ b=1 then (s / 2) ^^^ poly else s / 2:=by
 unfold stp;rw[Jd,Jc];have a:s % 2=0\/s % 2=1:=by omega
 have c:b=0\/b=1:=by omega
 rcases a with a|a<;>rcases c with rfl|rfl<;>simp[a]
end Crc
def yB{a b:Int}(h:a=b):Ending.returned (.int .u32 a)=.returned (.int .u32 b):=by rw[h]
def Us(m:Nat)(h:m<4294967296)(e:((m:Int) % 2==1)=true):bits .xor .u32 ((m:Int) / 2) 3988292384=(Crc.stp m:Int):=by
 have a:m % 2=1:=by have:=beq_iff_eq.1 e;omega
 rw[u32_xor _ _ (by omega) (by omega) (by omega) (by omega)]
 unfold Crc.stp Crc.poly;rw[if_pos a]
 congr 2
def Ur(m:Nat)(e:((m:Int) % 2==1)=false):((m:Int) / 2)=(Crc.stp m:Int):=by
 have a:¬m % 2=1:=by have:=beq_eq_false_iff_ne.1 e;omega
 unfold Crc.stp
 simp_all
def tV{a b:Int}(h:a=b):Value.int .u32 a=Value.int .u32 b:=by rw[h]
def Um(s:Nat)(b:UInt8)(w:ω)(c:s<4294967296) :
  κ prog 271 #[.int .u32 s,.int .u8 b.toNat] w λe l=>e=.returned (.int .u32 (Crc.byt s b))/\l=w:=by
 have q:=b.toNat_lt;have r  := u32_xor_nat s b.toNat c (by omega)
 have o:s ^^^ b.toNat<4294967296:=jaJ (n:=32) c (by omega)
 go_enter func271,ntmps271
 go_wp2
 go_loop [0,9] (λt i=>∃ k:Nat,k<=8/\i=.int .i64 k/\t=.int .u32 (Crc.many k _)) (λ_ i=>8-(intOf i).toNat)
 case atStart=>exact⟨0,by omega,rfl,rfl⟩
 case round =>
  obtain⟨k,u,rfl,rfl⟩:=hrel;have f:=Crc.Fj k _ o
  have d:Hid (¬k<8->Crc.many k (s ^^^ b.toNat)=Crc.byt s b):=by
   intro h;have j:k=8:=by omega
   rw[j];rfl
  have a:Hid (Crc.many (k+1) (s ^^^ b.toNat)=Crc.stp _):=(Crc.Fq k _);generalize Crc.many k _=m at a d f |-;by_cases g:k<8
  .go_wp2
   .go_round
    case rel=>exact⟨k+1,by omega,by go_num,tV (by rw[a.out];exact Us m f (by assumption))⟩
    case measure=>simp[intOf];omega
   .go_round
    case rel=>exact⟨k+1,by omega,by go_num,tV (by rw[a.out];exact Ur m (by assumption))⟩
    case measure=>simp[intOf];omega
  .go_wp2
   go_ret
   exact⟨yB (by rw[d.out g]),rfl⟩
def O4(s:Nat)(t:ByteArray)(w:ω)(g:s<4294967296)(j:t.size<=maxLen) :
  κ prog 248 #[.int .u32 s,t] w λe d=>e=.returned (.int .u32 (Crc.more s t.data.toList))/\d=w:=by
 unfold maxLen at j;have o:bits .xor .u32 (s:Int) 4294967295=((s ^^^ Crc.ones:Nat):Int):=u32_xor_nat s 4294967295 g (by omega)
 go_enter func248,ntmps248
 go_wp2
 go_loop [0,5,10] (λx _ i=>∃ k:Nat,k<=t.size/\i=.int .i64 k/\x=.int .u32 (Crc.crc _ (t.data.toList.take k))) (λ_ _ i=>t.size-(intOf i).toNat)
 case atStart=>exact⟨0,ja6 _,rfl,rfl⟩
 case round =>
  obtain⟨k,l,rfl,rfl⟩:=hrel;have a:=Crc.EU (s ^^^ Crc.ones) (t.data.toList.take k) (jaJ (n:=32) g (by unfold Crc.ones;omega))
  have b:Hid (¬k<t.size->Crc.crc (s ^^^ Crc.ones) (t.data.toList.take k) ^^^ Crc.ones=Crc.more s t.data.toList):=by
   intro h;rw[jar (by simp;omega)];rfl
  by_cases c:k<t.size
  .have f:Hid (Crc.crc (s ^^^ Crc.ones) (t.data.toList.take (k+1))=Crc.byt (Crc.crc (s ^^^ Crc.ones) (t.data.toList.take k)) t[k]):=by
    have e:t.data.toList.take (k+1)=t.data.toList.take k++[t[k]]:=by
     rw[jay (by simpa using c)];rfl
    rw[e,Crc.DU];rfl
   generalize Crc.crc _ (t.data.toList.take k)=m at f b a |-;go_wp2_with (go_at_call 271;refine cEq (Um _ _ _ a) λd rfl=>?_)
   go_round
   case rel=>exact⟨k+1,by omega,by go_num,tV (by rw[f.out])⟩
   case measure=>simp[intOf];omega
  .generalize Crc.crc _ _=m at b a |-
   go_wp2
   go_ret
   exact⟨yB (by rw[<- b.out c];exact u32_xor_nat m 4294967295 a (by omega)),rfl⟩
def flat(a:List ByteArray):List UInt8:=(a.map λs=>s.data.toList).flatten
def Nb(a:List ByteArray)(s:ByteArray):flat (a++[s])=flat a++s.data.toList:=by
 simp[flat]
def UQ(a:List ByteArray)(k:Nat)(h:k<a.length):a.take (k+1)=a.take k++[a.getD k ByteArray.empty]:=by
 simp_all
def PK(a:List ByteArray)(b l cap:Nat)(w:ω)(t:a.length<=9223372036854775806)(n:∀ k,k<a.length->(a.getD k ByteArray.empty).size<=maxLen)
  (o:∀ k,k<a.length->w.cell? ⟨b,l+k,O⟩=S (.string (a.getD k ByteArray.empty))) :
  κ prog 211 #[.slice (S ⟨b,l,O⟩) a.length cap] w λe j=>e=.returned (.int .u32 (Crc.total (flat a)))/\j=w:=by
 go_enter func211,ntmps211
 go_wp2
 go_loop [3,5,8] (λx _ i=>∃ k:Nat,k<=a.length/\i=.int .i64 k/\x=.int .u32 (Crc.total (flat (a.take k)))) (λ_ _ i=>a.length-(intOf i).toNat)
 case atStart=>exact⟨0,ja6 _,rfl,by simp[flat,Crc.U7]⟩
 case round =>
  obtain⟨k,u,rfl,rfl⟩:=hrel;have g:=Crc.yX (flat (a.take k))
  have f:Hid (¬k<a.length->Crc.total (flat (a.take k))=Crc.total (flat a)):=by
   intro h;rw[jar (by omega)]
  by_cases c:k<a.length
  .have d:Hid (Crc.total (flat (a.take (k+1)))=Crc.more (Crc.total (flat (a.take k))) (a.getD k ByteArray.empty).data.toList):=by
    unfold Hid;rw[UQ a k c,Nb,Crc.O5]
   have r:=o k c;have q:=n k c;generalize Crc.total (flat (a.take k))=m at d f g |-;generalize a.getD k _=s at d r q;clear o n;go_wp2_with (go_at_call 248;refine cEq (O4 _ _ _ g q) λj rfl=>?_)
   go_round
   case rel=>exact⟨k+1,by omega,by go_num,tV (by rw[d.out])⟩
   case measure=>simp[intOf];omega
  .generalize Crc.total _=m at f g |-
   go_wp2
   go_ret
   exact⟨yB (by rw[<- f.out c]),rfl⟩
def FX(s:ByteArray)(b cap:Nat)(w:ω)(d:s.size<=maxLen)(f:w.cell? ⟨b,0,O⟩=S (s:Value)) :
  κ prog 211 #[.slice (S ⟨b,0,O⟩) 1 cap] w λe c=>e=.returned (.int .u32 (Crc.total s.data.toList))/\c=w:=by
 have:=PK [s] b 0 cap w (by simp) (λk a=>by
  simp_all) (λk a=>by
  simp_all)
 have e:flat [s]=s.data.toList:=by simp[flat]
 simp_all
def Gy(m c j:Nat)(a:m<4294967296)(g:c<256):bits .xor .u32 (bits .and .u32 (m:Int) 1) (bits .and .u32 ((c:Int) / 2 ^ j % 4294967296) 1)=(((m % 2) ^^^ (c / 2 ^ j % 2):Nat):Int):=by
 have f:bits .and .u32 (m:Int) 1=((m % 2:Nat):Int):=by
  have:=u32_and_nat m 1 a (by omega)
  simp_all
 have b:c / 2 ^ j<=c:=Nat.div_le_self _ _
 have e:((c:Int) / 2 ^ j % 4294967296)=((c / 2 ^ j:Nat):Int):=by
  have:(c:Int) / 2 ^ j=((c / 2 ^ j:Nat):Int):=by simp
  rw[this];generalize c / 2 ^ j=q at b;omega
 have d:bits .and .u32 ((c:Int) / 2 ^ j % 4294967296) 1=((c / 2 ^ j % 2:Nat):Int):=by
  have:=u32_and_nat (c / 2 ^ j) 1 (by omega) (by omega)
  simp_all
 rw[f,d];exact u32_xor_nat _ _ (by omega) (by omega)
def RG(m c j:Nat)(a:m<4294967296)(d:c<256)
  (e:(bits .xor .u32 (bits .and .u32 (m:Int) 1) (bits .and .u32 ((c:Int) / 2 ^ j % 4294967296) 1)==1)=true) :
  bits .xor .u32 ((m:Int) / 2) 3988292384=(Crc.stp (m ^^^ (c / 2 ^ j % 2)):Int):=by
 rw[Gy m c j a d] at e;have b:(m % 2) ^^^ (c / 2 ^ j % 2)=1:=by have:=beq_iff_eq.1 e;omega
 rw[Crc.Iu _ _ (by omega),if_pos b,u32_xor _ _ (by omega) (by omega) (by omega) (by omega)]
 congr 2
def RF(m c j:Nat)(a:m<4294967296)(d:c<256)
  (e:(bits .xor .u32 (bits .and .u32 (m:Int) 1) (bits .and .u32 ((c:Int) / 2 ^ j % 4294967296) 1)==1)=false) :
  (m:Int) / 2=(Crc.stp (m ^^^ (c / 2 ^ j % 2)):Int):=by
 rw[Gy m c j a d] at e;have b:¬(m % 2) ^^^ (c / 2 ^ j % 2)=1:=by have:=beq_eq_false_iff_ne.1 e;omega
 rw[Crc.Iu _ _ (by omega),if_neg b]
 omega
def Gx(t:ByteArray)(w:ω)(l:t.size<=1000000) :
  κ prog 213 #[t] w λe h=>e=.returned (.int .u32 (Crc.total t.data.toList))/\h=w:=by
 go_enter func213,ntmps213
 go_wp2
 go_loop [3,4] (λx i=>∃ k:Nat,k<=8*t.size/\i=.int .i64 k/\x=.int .u32 (Crc.bitwise (Crc.num t.data.toList) k)) (λ_ i=>8*t.size-(intOf i).toNat)
 case atStart=>exact⟨0,ja6 _,rfl,by rw[Crc.Di];rfl⟩
 case round =>
  obtain⟨k,j,rfl,rfl⟩:=hrel;have a:=Crc.J9 (Crc.num t.data.toList) k;by_cases f:k<8*t.size
  .have b:Hid (Crc.bitwise (Crc.num t.data.toList) (k+1)=Crc.stp (Crc.bitwise (Crc.num t.data.toList) k ^^^ ((t[k / 8]'(by omega)).toNat / 2 ^ (k % 8) % 2))):=by
    unfold Hid;rw[Crc.Dh,Crc.Pz _ k (by simpa using f)];rfl
   generalize Crc.bitwise _ k=m at b a |-;have c:=(t[k / 8]'(by omega)).toNat_lt
   go_wp2
   .go_round
    case rel=>exact⟨k+1,by omega,by go_num,tV (by rw[b.out];exact RG m _ _ a c (by assumption))⟩
    case measure=>simp[intOf];omega
   .go_round
    case rel=>exact⟨k+1,by omega,by go_num,tV (by rw[b.out];exact RF m _ _ a c (by assumption))⟩
    case measure=>simp[intOf];omega
  .have d:Hid (Crc.bitwise (Crc.num t.data.toList) k ^^^ Crc.ones=Crc.total t.data.toList):=by
    have g:k=8*t.data.toList.length:=by simp;omega
    unfold Hid;rw[g,Crc.J8];rfl
   generalize Crc.bitwise _ k=m at d a |-;go_wp2
   go_ret
   exact⟨yB (by rw[<- d.out];exact u32_xor_nat m 4294967295 a (by omega)),rfl⟩
def Ag(s:Nat):List Int:=[(s:Int) % 256,(s:Int) / 256 % 256,(s:Int) / 65536 % 256,(s:Int) / 16777216]
def four(s:Nat):ByteArray:=strOfNums (Ag s)
def cells4(w:ω)(a b d c:Int)(i:Nat)(h:i<4) :
  (w.alloc (.cells #[.int .u8 a,.int .u8 b,.int .u8 d,.int .u8 c] 5)).cell? ⟨w,0+i,O⟩=S (.int .u8 ([a,b,d,c].getD i 0)):=by
 match i,h with
 | 0,_=>simp[go_sem]
 | 1,_=>simp[go_sem]
 | 2,_=>simp[go_sem]
 | 3,_=>simp[go_sem]
def Dp(s:Nat)(w:ω)(b:s<4294967296) :
  κ prog 210 #[.int .u32 s] w λe a=>e=.returned (.string (four s))/\β w w a:=by
 have c:=run_convert_bytes_arg  _ 185 5 underlying185 underlying5 w.heap.size 0 4 4 (Ag s) rfl (cells4 w _ _ _ _) 9 underlying9;go_enter func210,ntmps210
 go_wp2
 go_ret
 exact⟨rfl,(ja0 _ _).alloc (ja1 _) _⟩
def Texts(w:ω)(d:Option Addr)(len:Nat)(a:List ByteArray):Prop :=
 a.length=len/\∀ k,k<len->∃ b c,d=S ⟨b,c,O⟩/\w.cell? ⟨b,c+k,O⟩=S (.string (a.getD k ByteArray.empty))/\(a.getD k ByteArray.empty).size<=maxLen
def Texts.below{w c:ω}{d:Option Addr}{len:Nat}{a:List ByteArray}(h:Texts w d len a)(j:β w w c):Texts c d len a:=by
 refine⟨h.1,λk g=>?_⟩
 obtain⟨b,i,e,f,l⟩:=h.2 k g;exact⟨b,i,e,by rw[j.cell (ja2 w _ f)];exact f,l⟩
def nZ{a b:Bool}(h:a=b):Ending.returned a=.returned b:=by rw[h]
def erV(f:Int):Value:=if f=0 then .nilIface else .iface 96 (.int .i64 f)
def nK(l:List Int):List Int:=l++List.replicate (12-l.length) 0
def s12(l:List Int):ByteArray:=strOfNums (nK l)
def fO(l:List Int):ByteArray:=s12 l++four (Crc.total (s12 l).data.toList)
def xX(l:List Int)(h:l.length<=12):(nK l).length=12:=by
 unfold nK;simp_all
def strOfNums_size(l:List Int):(strOfNums l).size=l.length:=by simp[strOfNums,ByteArray.size]
def BN(l:List Int)(h:l.length<=12):(s12 l).size=12:=by
 unfold s12;rw[strOfNums_size,xX l h]
def Ah(s:Nat):(four s).size=4:=rfl
def yF(l:List Int)(h:l.length<=12):(fO l).size=16:=by
 unfold fO;rw[jaM,BN l h,Ah]
def yG(s:ByteArray):Bool:=(four (Crc.total (s.extract 0 12).data.toList)).toList==(s.extract 12 s.size).toList
def bV(s:ByteArray):Int:=if s.size=16 then (if yG s=true then 0 else 3) else 1
def bAt(s:ByteArray)(i:Nat):Int:=((s.data.toList.getD i 0).toNat:Int)
def iP(s:ByteArray)(i:Nat):0<=bAt s i/\bAt s i<256:=by
 unfold bAt;have:=(s.data.toList.getD i 0).toNat_lt;omega
def nT(s:ByteArray)(i:Nat)(h:i<s.size):((s[i]'h).toNat:Int)=bAt s i:=by
 have a:i<s.data.toList.length:=by simpa using h
 unfold bAt;rw[ja5,ja7 a];rfl
structure HV where
 c:Int
 p:Int
 b:Int
def HV.ok(h:HV):Bool:=decide (1<=h.c/\h.c<=32/\0<=h.p/\h.p<=40 /\ -1<=h.b/\h.b<=4)
def HV.cells(h:HV):Array Value := #[h.c,h.p,h.b]
def HV.zero:HV:=⟨0,0,0⟩
def HV.bytes(h:HV):List Int:=[83,89,h.c,h.p,h.b+1]
def HV.fault(h:HV):Int:=if h.ok=true then 0 else 1
def HV.text(h:HV):ByteArray:=if h.ok=true then fO h.bytes else ⟨#[]⟩
def ql(s:ByteArray):HV:=⟨bAt s 2,bAt s 3,bAt s 4-1⟩
def mV(s:ByteArray):Bool:=(ql s).ok&&((fO (ql s).bytes).toList==s.toList)
def fV(s:ByteArray):HV:=if bV s=0/\mV s=true then ql s else HV.zero
def dN(s:ByteArray):Int:=if bV s=0 then (if mV s=true then 0 else 2) else bV s
structure KV where
 r:Int
 k:Int
 f:Int
 a:Int
 u:Int
def KV.bound(d:KV):Bool:=decide (0<=d.r/\d.r<=4/\0<=d.k/\d.k<=3 /\ -1<=d.f/\d.f<=4/\0<=d.a/\d.a<=1000/\0<=d.u/\d.u<=1000)
def KV.may(d:KV):Bool:=decide ((d.k=0/\d.f = -1/\d.a=0/\d.u=0)\/(d.k≠0/\d.f≠d.r/\(d.f ≠ -1\/d.k=2)))
def KV.fault(d:KV):Int:=if d.bound=true then (if d.may=true then 0 else 2) else 1
def KV.cells(d:KV):Array Value := #[d.r,d.k,d.f,d.a,d.u]
def KV.zero:KV:=⟨0,0,0,0,0⟩
def KV.bytes(d:KV):List Int:=[68,75,d.r,d.k,d.f+1,d.a % 256,d.a / 256,d.u % 256,d.u / 256]
def KV.text(d:KV):ByteArray:=if d.fault=0 then fO d.bytes else ⟨#[]⟩
def pW(s:ByteArray):KV:=⟨bAt s 2,bAt s 3,bAt s 4-1,bAt s 5+bAt s 6*256,bAt s 7+bAt s 8*256⟩
def mP(s:ByteArray):Bool:=decide ((pW s).fault=0)&&((fO (pW s).bytes).toList==s.toList)
def iy(s:ByteArray):KV:=if bV s=0/\mP s=true then pW s else KV.zero
def aJ(s:ByteArray):Int:=if bV s=0 then (if mP s=true then 0 else 2) else bV s
def KV.qC{d:KV}(h:d.fault=0):d.bound=true/\d.may=true:=by
 unfold KV.fault at h;split at h
 .simp_all
 .omega
def byV(l:List Int):List Value:=l.map (Value.int .u8)
def Kq(l:List Int):∀ u∈byV l,u.oneCell'=true:=by
 intro u a;obtain⟨n,_,rfl⟩:=List.mem_map.1 a;rfl
def sU(l:List Int)(j:Nat)(a:j<l.length):(byV l)[j]?=S (.int .u8 (l.getD j 0)):=by
 simp[byV,ja7 a,List.getD]
def EN:(prog.info? 5).map (λi=>(i.zero,i.size,i.bytes))=S (S (.int .u8 0),1,1):=by kernel_rfl
def Ub:(prog.info? 5).map (·.size)=S 1:=by kernel_rfl
def inB(n a b:Int):Bool:=decide (a<=n/\n<=b)
def Gz{a b:ByteArray}(h:a=b):Ending.returned a=.returned b:=by rw[h]
def lI(n a b:Int)(w:ω) :
  κ prog 96 #[n,a,b] w λe f=>e=.returned (.bool (inB n a b))/\f=w:=by
 by_cases d:a<=n
 .have c:Hid (inB n a b=decide (n<=b)):=by unfold Hid inB;simp[d]
  go_enter func96,ntmps96
  go_wp2
  go_ret
  exact⟨nZ c.out.symm,rfl⟩
 .have c:Hid (inB n a b=false):=by unfold Hid inB;simp[d]
  go_enter func96,ntmps96
  go_wp2
  go_ret
  exact⟨nZ c.out.symm,rfl⟩
def Tt(w:ω)(l:List Int)(b cap:Nat)(i:l.length<=12)(m:b<w.heap.size)(n:∀ j,j<l.length->w.cell? ⟨b,j,O⟩=S (.int .u8 (l.getD j 0))) :
    (Builtin.copy_ #[185,185] 3 #[.slice (S ⟨w,0,O⟩) 12 12,.slice (S ⟨b,0,O⟩) l.length cap]).run prog (w.alloc (.cells #[.int .u8 0,.int .u8 0,.int .u8 0,.int .u8 0,.int .u8 0,.int .u8 0,.int .u8 0,.int .u8 0,.int .u8 0,.int .u8 0,.int .u8 0,.int .u8 0] 274)) =
      .ok (.int .i64 (l.length:Int)) (w.alloc (.cells (byV (nK l)).toArray 274)):=by
  have f:(byV l).length=Nat.min l.length 12:=by
    rw[show Nat.min _ 12=l.length from Nat.min_eq_left i];simp[byV]
  have h:=run_copy_row (P:=prog) (w.alloc (.cells #[.int .u8 0,.int .u8 0,.int .u8 0,.int .u8 0,.int .u8 0,.int .u8 0,.int .u8 0,.int .u8 0,.int .u8 0,.int .u8 0,.int .u8 0,.int .u8 0] 274)) _ 185 3 5 _ 0 12 12 _ _ cap _ _ _ underlying185 Ub (heap_alloc_new w _) f
    (λj v d=>by
      have c:j<l.length:=by
        rcases jaq j _ with h|h
        . exact h
        . simp_all
      rw[sU l j c] at d
      rw[Go.WideShapes.add_plain,jan,jas _ _ _ m,n j c];exact d)
    (by simp_all) (Kq l)
  have a:(byV l).length=l.length:=by simp[byV]
  have o:goInt (byV l).length=Value.int .i64 (l.length:Int):=by rw[a];rfl
  have g:(#[.int .u8 0,.int _ 0,.int _ 0,.int _ 0,.int _ 0,.int _ 0,.int _ 0,.int _ 0,.int _ 0,.int _ 0,.int _ 0,.int _ 0]:Array Value).toList=List.replicate 12 _:=rfl;have k:byV (nK l)=byV l++List.replicate (12-l.length) (Value.int .u8 0):=by simp[byV,nK]
  rw[h,jaX,o,g,a,List.take_zero,jaL,jan,List.drop_replicate,<- k]
def Tq(w:ω)(l:List Int)(b:l.length<=12) :
  (convert 185 9 (.slice (S ⟨w,0,O⟩) 12 12)).run prog (w.alloc (.cells (byV (nK l)).toArray 274))=.ok (.string (s12 l)) (w.alloc (.cells (byV (nK l)).toArray 274)):=by
 have a:=xX l b
 exact run_convert_bytes_arg  _ _ 5 underlying185 underlying5 _ 0 12 12 _ a (λi c=>by
  rw[jan,cell_of_row _ _ _ _ _ _ (heap_alloc_new w _)];rw[jaN]
  exact sU _ i (by omega)) 9 underlying9
def Hl(l:List Int)(b cap:Nat)(w:ω)(c:l.length<=12)(k:b<w.heap.size)(n:∀ j,j<l.length->w.cell? ⟨b,j,O⟩=some (.int .u8 (l.getD j 0))) :
  κ prog 176 #[.slice (some ⟨b,0,O⟩) l.length cap] w λe a=>e=.returned (.string (fO l))/\β w w a:=by
 have h:=Tt w l b cap c k n;have g:=Tq w l c;have o:=BN l c;have d:Hid (s12 l++four _=fO l):=rfl;have i:=Ah (Crc.total (s12 l).data.toList);have f:=Crc.yX (s12 l).data.toList;generalize byV (nK l)=P at h g;generalize s12 l=S at g o d i f;go_enter func176,ntmps176
 go_wp2_with fail
 refine(FX S _ 1 _ (by unfold maxLen;omega) ?_).mono ?_
 .simp[go_sem]
 rintro e a ⟨rfl,rfl⟩;go_wp2_with fail
 refine cEq (Dp _ _ f) λa m=>?_
 go_wp2
 go_ret
 exact⟨Gz d.out,(((ja0 _ _).alloc (ja1 _) _).alloc (by simp) _).trans (m.mono (by simp;omega))⟩
def Gt(s:Nat)(w:ω)(b:s<4294967296) :
  κ prog 212 #[.int .u32 s] w λe a=>e=.returned (.string (four s))/\β w w a:=by
 have c:=run_convert_bytes_arg  _ 185 5 underlying185 underlying5 _ 0 4 4 (Ag s) rfl (cells4 w _ _ _ _) 9 underlying9;go_enter func212,ntmps212
 go_wp2
 go_ret
 exact⟨rfl,(ja0 _ _).alloc (ja1 _) _⟩
def oK(l:List Int)(k:Nat):List Int:=l++List.replicate (k-l.length) 0
def Qr(l:List Int):oK l l.length=l:=by unfold oK;simp
def Qs(l:List Int)(k:Nat)(h:l.length<=k):byV (oK l (k+1))=byV (oK l k)++[.int .u8 0]:=by
 unfold oK byV;rw[show k+1-l.length=(k-l.length)+1 by omega,jbo]
 simp
def Gv(l:List Int)(B b cap:Nat)(w:ω)(a:l.length<=12)(hB:B<=w.heap.size)(R:w.ownsRow B 5 1 (.slice (some ⟨b,0,none⟩) l.length cap) l.length (byV l)) :
    κ prog 179 #[.slice (some ⟨b,0,none⟩) l.length cap] w λe o=>e=.returned (.string (fO l))/\β B w o:=by
  obtain⟨M,d,G,I,N⟩:=info_parts EN;have Q:Hid (w.ownsRow B 5 1 (.slice (some ⟨b,0,none⟩) l.length cap) l.length (byV l)):=R;go_enter func179,ntmps179
  go_wp2
  go_loopw [0] (λv wr=>∃(k g c:Nat),l.length<=k/\k<=12/\v=.slice (some ⟨g,0,none⟩) k c/\wr.ownsRow B 5 1 (.slice (some ⟨g,0,none⟩) k c) k (byV (oK l k))/\β B w wr) (λv _=>match v with | .slice _ n _=>12-n|_=>0)
  case atStart=>exact⟨l.length,b,cap,ja1 _,a,rfl,by rw[Qr];exact Q.out,ja0 _ _⟩
  case round =>
    obtain⟨k,g,c,F,Y,rfl,V,z⟩:=hrel;have t:Hid (β B w wr):=z;have m:Hid (wr.ownsRow B 5 1 (.slice (some ⟨g,0,none⟩) k c) k (byV (oK l k))):=V;have f:Hid (B<=wr.heap.size):=by unfold Hid;have:=z.size;omega
    by_cases X:k<12
    . have T:Hid ((wr.alloc (.cells #[.int .u8 0] 5)).ownsRow B 5 1 (.slice (some ⟨g,0,none⟩) k c) k (byV (oK l k))):=m.out.alloc _
      have C:Hid (B<=(wr.alloc (.cells #[.int .u8 0] 5)).heap.size):=by unfold Hid;have:=f.out;simp;omega
      go_wp2_with (at_builtin;go_loud (refine wpList_append_lies _ (by rfl) _ _ 185 (by rfl) B 5 M (.int .u8 0) 1 1 underlying185 d G I N rfl (by decide) (.slice (some ⟨g,0,none⟩) k c) k (byV (oK l k)) (by rfl) T.out ⟨wr,0,none⟩ 1 1 [.int .u8 0] (by rfl) (by rfl) (cell_one_new _ _ _) (λu y=>by simp at y;subst y;rfl) (by decide) (by unfold maxLen;omega) (by omega) C.out (wr.heap.size+1) (by simp) ?_;intro g2 K w2 E U Z a1))
      go_roundw
      case rel =>
        exact⟨k+1,g2,K,by omega,by omega,rfl,by rw[Qs l k F];exact E,(t.out.alloc f.out _).grown U C.out (λr e=>(m.out.lt r e).1)⟩
      case measure=>simp;omega
    . have D:k=12:=by omega
      subst D
      have A:=λW (H:β wr wr W)=>run_convert_bytes_arg (P:=prog) W 185 5 underlying185 underlying5 g 0 12 c (nK l) (xX l a) (λi d=>by
          rw[jan];have h:=m.out.cellAt i d;have e:oK l 12=nK l:=rfl;rw[e,sU (nK l) i (by rw[xX l a];exact d)] at h
          rw[H.cell (ja2 wr _ h)];exact h) 9 underlying9
      have j:Hid (∀ W:ω,β wr wr W->(convert 185 9 (.slice (some ⟨g,0,none⟩) 12 c)).run prog W=.ok (.string (s12 l)) W):=A;have L:=BN l a;have s:Hid (s12 l++four (Crc.total (s12 l).data.toList)=fO l):=rfl;have O:=Ah (Crc.total (s12 l).data.toList);have q:=Crc.yX (s12 l).data.toList;clear A;generalize s12 l=S at j L s O q;have x:β wr wr wr.drew:=(ja0 _ _).drew;go_wp2
      go_region_held3 (λW=>β wr wr W/\(convert 185 9 (.slice (some ⟨g,0,none⟩) 12 c)).run prog W=.ok (.string S) W)
        (first|(exact⟨x,j.out _ x⟩)|assumption|(exact⟨by assumption,j.out _ (by assumption)⟩))
        (first
          | (go_at_call 213;refine cEq (Gx _ _ (by omega)) λo rfl=>?_)
          | (go_at_call 212;refine cEq (Gt _ _ q) λw5 J=>?_;have a0:=jaA (by assumption:β _ wr _/\_).1 (J.mono (by assumption:β _ wr _/\_).1.size)))
      all_goals
        go_wp2
        go_ret
        exact⟨Gz s.out,t.out.trans (Below.mono (by assumption) f.out)⟩
