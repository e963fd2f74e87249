/- NewDev and Crash of the document's own device. -/
import Derived.Test.YtbohmhacdgckgaaGreatDoorQORefFlush
import Derived.Laws.BitsAllLaws
import Derived.Lib.ConvBytes
set_option linter.all false
set_option maxHeartbeats 2000000
set_option maxRecDepth 100000
namespace Go.Proofs.YtbohmhacdgckgaaGreatDoor
open Go.RowKit renaming Below->β
open Go renaming World->ω, Value->υ, Calls->κ
open Option renaming none->O, some->S
open Go.Proofs.Tryz Go.RowKit
attribute [local go_sem ↓] Go.wp_at_zero Go.wp_at_succ
def MZ(k:Nat):flS (List.replicate (k+1) noughts)=flS (List.replicate k noughts)++[.string (bytesOf noughts)]:=by
 simp[flS,jbn]
structure sK(B:Nat)(w:ω)(N:Nat)(v:υ)(k:Nat)(wr:Int):Prop where
 blk:w.heap[N]?=S (.cells #[v,.slice O 0 0,.slice O 0 0,(-1:Int),.int .i64 wr] 127 (0,0))
 own:w.ownsRow B 9 1 v k (flS (List.replicate k noughts))
def sK.step{B N k:Nat}{w i a:ω}{v:υ}{wr:Int}(h:sK B w N v k wr)(c:β w w i)(C:Obj)(g cap:Nat)
  (f:a.ownsRow B 9 1 (.slice (S ⟨g,0,O⟩) (k+1) cap) (k+1) (flS (List.replicate k noughts)++[.string (bytesOf noughts)])) (n:(i.alloc C).grownBy a v.ownBlock) :
  sK B (a.setCell ⟨N,0,O⟩ (.slice (S ⟨g,0,O⟩) (k+1) cap)) N (.slice (S ⟨g,0,O⟩) (k+1) cap) (k+1) wr/\a.cell? ⟨N,0,O⟩=S v/\a.frozen? ⟨N,0,O⟩=false:=by
 have l:=lt_of_some h.blk
 have m:v.ownBlock≠S N:=λe=>by
  obtain⟨j,b⟩:=ownsRow_kind h.own _ e;rw[h.blk] at b;cases b
 have d:a.heap[N]?=S (.cells #[v,.slice O 0 0,.slice O 0 0,(-1:Int),.int .i64 wr] 127 (0,0)):=by
  rw[n.block N (by have:=c.size;simp;omega) (jaF m),jam _ _ _ (by have:=c.size;omega),c.block N l];exact h.blk
 have o:g≠N:=λe=>by
  obtain⟨_,j,b,_⟩:=dQ f
  simp_all
 refine⟨⟨?_,?_⟩,?_,frozen_of_row _ _ _ _ _ d⟩
 .rw[heap_setCell_same a N 0 _ _ _ d];rfl
 .rw[MZ]
  exact aZ f (λr e=>by
   have:g=r:=by simpa [Value.ownBlock] using e
   subst this
   exact heap_setCell_other _ _ _ _ o)
 .rw[cell_of_row a N _ _ _ _ d];rfl
def FI(n:Nat)(w:ω)(J:1<=n)(R:n<=200) :
    κ prog 36 #[(n:Int)] w λe m =>
      ∃ q:Rh,e=.returned q.p/\dA w.heap.size m q (DV.made (List.replicate n noughts) 0)/\β w w m:=by
  obtain⟨C,H,P,E,F⟩:=info_parts uS;go_enter func36,ntmps36
  go_wp2
  go_loopw [4] (λi wr=>∃(k:Nat) (v:υ),k<=n/\i=.int .i64 k/\sK w.heap.size wr w.heap.size v k 0/\β w w wr) (λi _=>n-(intOf i).toNat)
  case atStart=>exact⟨0,.slice none 0 0,ja5 _,rfl,⟨heap_alloc_new w _,jae _ _ _ _⟩,(ja0 _ _).alloc (ja1 _) _⟩
  case round =>
    obtain⟨k,v,S,rfl,f,x⟩:=hrel;have K:wr.cell? ⟨w,0,none⟩=some v:=by rw[cell_of_row _ _ _ _ _ _ f.blk];rfl
    have s:=lt_of_some f.blk;have b:Hid (sK w.heap.size wr w.heap.size v k 0):=f;have o:Hid (β w w wr):=x;have D:Hid (k+1<=maxLen):=by unfold Hid maxLen;omega
    by_cases Q:k<n
    . go_wp2
      go_region_law (first
        | (refine step_append_lies _ (by rfl) _ _ 44 (by rfl) w.heap.size 9 C (.string ⟨#[]⟩) 1 16 underlying44 H P E F rfl (by decide) v k (flS (List.replicate k noughts)) (by rfl) O.out ⟨c,0,none⟩ 1 1 [.string (bytesOf noughts)] (by rfl) (by rfl) (cell_one_new _ _ _) (λu t=>by simp at t;subst t;rfl) (by decide) D.out (by omega) y.out (c.heap.size+1) (by simp) ?_;intro g cap z l j G N
           have d:=b.out.step h.out _ g cap l j;have T:=d.2.1;have V:=d.2.2;have I:Hid (sK w.heap.size (z.setCell ⟨w,0,none⟩ (.slice (some ⟨g,0,none⟩) (k+1) cap)) w.heap.size (.slice (some ⟨g,0,none⟩) (k+1) cap) (k+1) 0):=d.1;have M:Hid (β w w (z.setCell ⟨w,0,none⟩ (.slice (some ⟨g,0,none⟩) (k+1) cap))):=(((o.out.trans (h.out.mono x.size)).alloc (by omega) _).grown j y.out (λr e=>(b.out.own.lt r e).1)).setCell (ja1 _) _
           clear d l j G N)
        | (go_simp;go_at_call 43;refine cEq (Py _) λc a=>?_
           have L:c.cell? ⟨w,0,none⟩=some v:=by rw[a.cell s];exact K
           have B  := ja9 s a.size;have U:(c.alloc (.cells #[.string (bytesOf noughts)] 9)).cell? ⟨w,0,none⟩=some v:=by rw[jar _ _ _ B];exact L
           have h:Hid (β wr wr c):=⟨a.os,a.tape,a.output,a.size,a.block⟩;have O:Hid ((c.alloc (.cells #[.string (bytesOf noughts)] 9)).ownsRow w.heap.size 9 1 v k (flS (List.replicate k noughts))):=(aZ b.out.own (λr e=>h.out.block r (b.out.own.lt r e).2)).alloc _
           have y:Hid (w.heap.size<=(c.alloc (.cells #[.string (bytesOf noughts)] 9)).heap.size):=by unfold Hid;simp;omega
           clear a))
      all_goals go_wp2
      all_goals exact⟨⟨k+1,_,by omega,by go_num,I.out,M.out⟩,by simp[intOf];omega⟩
    . have A:k=n:=by omega
      subst A;go_wp2
      go_ret
      obtain⟨g,cap,rfl,_,_⟩:=b.out.own.form J;refine⟨⟨w.heap.size,g,cap,.slice none 0 0,.slice none 0 0⟩,rfl,⟨ja1 _,?_,?_,jae _ _ _ _,jae _ _ _ _,λe=>by cases e⟩,o.out⟩
      . show wr.heap[w.heap.size]?=some (.cells #[.slice (some ⟨g,0,none⟩) (List.replicate k noughts).length cap,.slice none 0 0,.slice none 0 0,(-1:Int),((0:Nat):Int)] 127 (0,0))
        rw[jaw];exact b.out.blk
      . show wr.ownsRow w.heap.size 9 1 (.slice (some ⟨g,0,none⟩) (List.replicate k noughts).length cap) (List.replicate k noughts).length (flS (List.replicate k noughts))
        rw[jaw];exact b.out.own
def dA.base{B b:Nat}{w:ω}{q:Rh}{d:DV}(hd:dA b w q d)(a:B<=b):dA B w q d :=
 ⟨ja4 a hd.pB,hd.blk,ownsRow_base hd.of a,ownsRow_base hd.o1 a,ownsRow_base hd.o2 a,hd.ne⟩
def Fg(l:List (List UInt8))(wr:Nat):(DV.made l wr).sn:=rfl
def zX{d:DV}(h:d.sn)(n:Int):(d.failing n).sn:=h
def U4{d:DV}(h:d.sn):d.iJ.sn:=by
 unfold DV.iJ;split
 .exact h
 .exact zX h _
def Nh(d:DV):d.flushed.sn:=rfl
def TS(p r:List (Nat × List UInt8))(l:List (List UInt8))(k:Nat)(b:k<=p.length):kT (p++r) l k=kT p l k:=by
 induction k with
 | zero=>rfl
 | succ k a =>
  show(kT _ l k).set _ _=(kT p l k).set _ _
  rw[a (by omega)]
  have e:(p++r).getD k (0,[])=p.getD k (0,[]):=by
   rw[ja6,ja6,List.getElem?_append_left (by omega)]
  rw[e]
def VD{d:DV}(h:d.sn)(i:Nat)(s:List UInt8):(d.wrote i s).sn:=by
 unfold DV.sn DV.wrote;rw[jak];show _=(kT _ _ _).set _ _
 rw[TS _ _ _ _ (ja1 _),<- h]
 simp_all
namespace Crc
def poly:Nat:=3988292384
def stp(s:Nat):Nat:=if s % 2=1 then (s / 2) ^^^ poly else s / 2
def many:Nat->Nat->Nat
 | 0,s=>s
 | n+1,s=>many n (stp s)
def Fh(a b s:Nat):many (a+b) s=many b (many a s):=by
 induction a generalizing s with
 | zero=>simp[many]
 | succ a c=>rw[Nat.succ_add];exact c _
def Fq(n s:Nat):many (n+1) s=stp (many n s):=by
 rw[Fh n 1 s];rfl
def Jd(x y:Nat):(x ^^^ y) % 2=(x % 2+y % 2) % 2:=by
 have h:=jbo x y 0;have a:(x ^^^ y) % 2=0\/(x ^^^ y) % 2=1:=by omega
 have c:x % 2=0\/x % 2=1:=by omega
 have b:y % 2=0\/y % 2=1:=by omega
 rcases a with a|a<;>rcases c with c|c<;>rcases b with b|b<;>simp[a,c,b] at h |-
def Jc(x y:Nat):(x ^^^ y) / 2=(x / 2) ^^^ (y / 2):=Nat.xor_div_two
def Ut(x y:Nat):stp (x ^^^ y)=stp x ^^^ stp y:=by
 unfold stp;rw[Jd,Jc];have b:x % 2=0\/x % 2=1:=by omega
 have a:y % 2=0\/y % 2=1:=by omega
 rcases b with b|b<;>rcases a with a|a<;>simp[b,a]
 .rw[jaG]
 .rw[jaG,jaG,Nat.xor_comm _ poly]
 .rw[jaG,<- jaG poly,Nat.xor_comm poly _,jaG,Nat.xor_self,Nat.xor_zero]
def Fv(n x y:Nat):many n (x ^^^ y)=many n x ^^^ many n y:=by
 induction n generalizing x y with
 | zero=>rfl
 | succ n a=>simp only[many];rw[Ut,a]
def Uo(x:Nat):stp (2*x)=x:=by
 unfold stp
 simp_all
def Fp(n x:Nat):many n (2 ^ n*x)=x:=by
 induction n generalizing x with
 | zero=>simp[many]
 | succ n a =>
  simp only[many];rw[Nat.pow_succ,jaZ,Nat.mul_left_comm,Uo,a]
def Iw(x:Nat)(h:x<4294967296):stp x<4294967296:=by
 unfold stp;split
 .exact jaJ (n:=32) (by omega) (by unfold poly;omega)
 .omega
def Fj(n x:Nat)(h:x<4294967296):many n x<4294967296:=by
 induction n generalizing x with
 | zero=>exact h
 | succ n a=>exact a _ (Iw x h)
def num:List UInt8->Nat
 | []=>0
 | b::l=>b.toNat+256*num l
def PD(l:List UInt8):num l<2 ^ (8*l.length):=by
 induction l with
 | nil=>simp[num]
 | cons b l c =>
  have a:=b.toNat_lt;simp only[num,jax];rw[show 8*(l.length+1)=8+8*l.length by omega,Nat.pow_add]
  omega
def add_eq_xor(i x y:Nat)(h:x<2 ^ i):x+2 ^ i*y=x ^^^ (2 ^ i*y):=by
 apply jbp
 intro j;rw[jbo,Nat.add_comm,jaD y h,Nat.testBit_two_pow_mul];by_cases a:j<i
 .have:¬j>=i:=by omega
  simp[a,this]
 .have:j>=i:=by omega
  simp[a,this,(Nat.testBit_lt_two_pow (ja9 h (Nat.pow_le_pow_right (by omega) (by omega))))]
def byt(s:Nat)(b:UInt8):Nat:=many 8 (s ^^^ b.toNat)
def crc(s:Nat)(l:List UInt8):Nat:=l.foldl byt s
def DU(s:Nat)(l m:List UInt8):crc s (l++m)=crc (crc s l) m:=by
 simp[crc]
def KX(s:Nat)(l:List UInt8):crc s l=many (8*l.length) (s ^^^ num l):=by
 induction l generalizing s with
 | nil=>simp[crc,num,many]
 | cons b l a =>
  have e:crc s (b::l)=crc _ l:=rfl;have d:=b.toNat_lt
  have c:num (b::l)=b.toNat ^^^ (2 ^ 8*num l):=by
   rw[<- add_eq_xor 8 _ _ (by omega)];rfl
  rw[e,a,c,jax,show 8*(l.length+1)=8+8*l.length by omega,Fh,<- jaG,Fv 8,Fp];rfl
def Kr(s:Nat)(b:UInt8)(h:s<4294967296):byt s b<4294967296:=by
 have a:=b.toNat_lt;exact Fj _ _ (jaJ (n:=32) (by omega) (by omega))
def EU(s:Nat)(l:List UInt8)(h:s<4294967296):crc s l<4294967296:=by
 induction l generalizing s with
 | nil=>exact h
 | cons b l a=>exact a _ (Kr s b h)
def ones:Nat:=4294967295
def more(s:Nat)(l:List UInt8):Nat:=crc (s ^^^ ones) l ^^^ ones
def total(l:List UInt8):Nat:=crc ones l ^^^ ones
def yX(l:List UInt8):total l<4294967296 :=
 jaJ (n:=32) (EU _ _ (by unfold ones;omega)) (by unfold ones;omega)
def O5(l m:List UInt8):more (total l) m=total (l++m):=by
 unfold more total;rw[jaG,Nat.xor_self,Nat.xor_zero,DU]
def U7:total []=0:=by simp[total,crc]
def bitwise(n i:Nat):Nat:=many i (ones ^^^ (n % 2 ^ i))
def Di(n:Nat):bitwise n 0=ones:=by simp[bitwise,many,Nat.mod_one]
def Dh(n i:Nat):bitwise n (i+1)=stp (bitwise n i ^^^ (n / 2 ^ i % 2)):=by
 have h:n % 2 ^ (i+1)=(n % 2 ^ i) ^^^ (2 ^ i*(n / 2 ^ i % 2)):=by
  rw[<- add_eq_xor i _ _ (Nat.mod_lt _ (Nat.two_pow_pos i)),Nat.pow_succ,Nat.mod_mul]
 unfold bitwise;rw[h,<- jaG,Fq,Fv,Fp]
def J9(n i:Nat):bitwise n i<4294967296:=by
 induction i with
 | zero=>rw[Di];unfold ones;omega
 | succ i a =>
  rw[Dh];exact Iw _ (jaJ (n:=32) a (by omega))
def J8(l:List UInt8):bitwise (num l) (8*l.length)=crc ones l:=by
 rw[KX];unfold bitwise;rw[Nat.mod_eq_of_lt (PD l)]
def Pz(l:List UInt8)(i:Nat)(h:i<8*l.length):num l / 2 ^ i % 2=(l[i / 8]'(by omega)).toNat / 2 ^ (i % 8) % 2:=by
 induction l generalizing i with
 | nil=>simp at h
 | cons b l f =>
  have g:=b.toNat_lt;by_cases k:i<8
  .have a:i / 8=0:=by omega
   have c:i % 8=i:=by omega
   simp only[a,c,jal,num]
   have d:(256:Nat)=2 ^ i*(2*2 ^ (7-i)):=by
    rw[<- jaZ,Nat.mul_comm (2 ^ i) 2,jaZ,<- Nat.pow_add,show i+(7-i)=7 by omega]
   rw[d,jaZ,Nat.add_mul_div_left _ _ (Nat.two_pow_pos i),jaZ,Nat.add_mul_mod_self_left]
  .obtain⟨j,rfl⟩:∃ j,i=j+8:=⟨i-8,by omega⟩
   have a:(j+8) / 8=j / 8+1:=by omega
   have c:(j+8) % 8=j % 8:=by omega
   simp only[a,c,jao,num];rw[<- f j (by simp only[jax] at h;omega),Nat.pow_add,Nat.mul_comm (2 ^ j),<- Nat.div_div_eq_div_mul]
   congr 2
   have:(2:Nat) ^ 8=256:=rfl
   rw[this];omega
def Iu(s b:Nat)(d:b<2):stp (s ^^^ b)=if (s % 2) ^^^ b=1 then (s / 2) ^^^ poly else s / 2:=by
 unfold stp;rw[Jd,Jc];have a:s % 2=0\/s % 2=1:=by omega
 have c:b=0\/b=1:=by omega
 rcases a with a|a<;>rcases c with rfl|rfl<;>simp[a]
end Crc
def yB{a b:Int}(h:a=b):Ending.returned (.int .u32 a)=.returned (.int .u32 b):=by rw[h]
def Us(m:Nat)(h:m<4294967296)(e:((m:Int) % 2==1)=true):bits .xor .u32 ((m:Int) / 2) 3988292384=(Crc.stp m:Int):=by
 have a:m % 2=1:=by have:=beq_iff_eq.1 e;omega
 rw[u32_xor _ _ (by omega) (by omega) (by omega) (by omega)]
 unfold Crc.stp Crc.poly;rw[if_pos a]
 congr 2
def Ur(m:Nat)(e:((m:Int) % 2==1)=false):((m:Int) / 2)=(Crc.stp m:Int):=by
 have a:¬m % 2=1:=by have:=beq_eq_false_iff_ne.1 e;omega
 unfold Crc.stp
 simp_all
def tV{a b:Int}(h:a=b):Value.int .u32 a=Value.int .u32 b:=by rw[h]
def Um(s:Nat)(b:UInt8)(w:ω)(c:s<4294967296) :
  κ prog 271 #[.int .u32 s,.int .u8 b.toNat] w λe l=>e=.returned (.int .u32 (Crc.byt s b))/\l=w:=by
 have q:=b.toNat_lt;have r  := u32_xor_nat s b.toNat c (by omega)
 have o:s ^^^ b.toNat<4294967296:=jaJ (n:=32) c (by omega)
 go_enter func271,ntmps271
 go_wp2
 go_loop [0,9] (λt i=>∃ k:Nat,k<=8/\i=.int .i64 k/\t=.int .u32 (Crc.many k _)) (λ_ i=>8-(intOf i).toNat)
 case atStart=>exact⟨0,by omega,rfl,rfl⟩
 case round =>
  obtain⟨k,u,rfl,rfl⟩:=hrel;have f:=Crc.Fj k _ o
  have d:Hid (¬k<8->Crc.many k (s ^^^ b.toNat)=Crc.byt s b):=by
   intro h;have j:k=8:=by omega
   rw[j];rfl
  have a:Hid (Crc.many (k+1) (s ^^^ b.toNat)=Crc.stp _):=(Crc.Fq k _);generalize Crc.many k _=m at a d f |-;by_cases g:k<8
  .go_wp2
   .go_round
    case rel=>exact⟨k+1,by omega,by go_num,tV (by rw[a.out];exact Us m f (by assumption))⟩
    case measure=>simp[intOf];omega
   .go_round
    case rel=>exact⟨k+1,by omega,by go_num,tV (by rw[a.out];exact Ur m (by assumption))⟩
    case measure=>simp[intOf];omega
  .go_wp2
   go_ret
   exact⟨yB (by rw[d.out g]),rfl⟩
def O4(s:Nat)(t:ByteArray)(w:ω)(g:s<4294967296)(j:t.size<=maxLen) :
  κ prog 248 #[.int .u32 s,t] w λe d=>e=.returned (.int .u32 (Crc.more s t.data.toList))/\d=w:=by
 unfold maxLen at j;have o:bits .xor .u32 (s:Int) 4294967295=((s ^^^ Crc.ones:Nat):Int):=u32_xor_nat s 4294967295 g (by omega)
 go_enter func248,ntmps248
 go_wp2
 go_loop [0,5,10] (λx _ i=>∃ k:Nat,k<=t.size/\i=.int .i64 k/\x=.int .u32 (Crc.crc _ (t.data.toList.take k))) (λ_ _ i=>t.size-(intOf i).toNat)
 case atStart=>exact⟨0,ja5 _,rfl,rfl⟩
 case round =>
  obtain⟨k,l,rfl,rfl⟩:=hrel;have a:=Crc.EU (s ^^^ Crc.ones) (t.data.toList.take k) (jaJ (n:=32) g (by unfold Crc.ones;omega))
  have b:Hid (¬k<t.size->Crc.crc (s ^^^ Crc.ones) (t.data.toList.take k) ^^^ Crc.ones=Crc.more s t.data.toList):=by
   intro h;rw[jan (by simp;omega)];rfl
  by_cases c:k<t.size
  .have f:Hid (Crc.crc (s ^^^ Crc.ones) (t.data.toList.take (k+1))=Crc.byt (Crc.crc (s ^^^ Crc.ones) (t.data.toList.take k)) t[k]):=by
    have e:t.data.toList.take (k+1)=t.data.toList.take k++[t[k]]:=by
     rw[jay (by simpa using c)];rfl
    rw[e,Crc.DU];rfl
   generalize Crc.crc _ (t.data.toList.take k)=m at f b a |-;go_wp2_with (go_at_call 271;refine cEq (Um _ _ _ a) λd rfl=>?_)
   go_round
   case rel=>exact⟨k+1,by omega,by go_num,tV (by rw[f.out])⟩
   case measure=>simp[intOf];omega
  .generalize Crc.crc _ _=m at b a |-
   go_wp2
   go_ret
   exact⟨yB (by rw[<- b.out c];exact u32_xor_nat m 4294967295 a (by omega)),rfl⟩
def flat(a:List ByteArray):List UInt8:=(a.map λs=>s.data.toList).flatten
def Nb(a:List ByteArray)(s:ByteArray):flat (a++[s])=flat a++s.data.toList:=by
 simp[flat]
def UQ(a:List ByteArray)(k:Nat)(h:k<a.length):a.take (k+1)=a.take k++[a.getD k ByteArray.empty]:=by
 simp_all
def PK(a:List ByteArray)(b l cap:Nat)(w:ω)(t:a.length<=9223372036854775806)(n:∀ k,k<a.length->(a.getD k ByteArray.empty).size<=maxLen)
  (o:∀ k,k<a.length->w.cell? ⟨b,l+k,O⟩=S (.string (a.getD k ByteArray.empty))) :
  κ prog 211 #[.slice (S ⟨b,l,O⟩) a.length cap] w λe j=>e=.returned (.int .u32 (Crc.total (flat a)))/\j=w:=by
 go_enter func211,ntmps211
 go_wp2
 go_loop [3,5,8] (λx _ i=>∃ k:Nat,k<=a.length/\i=.int .i64 k/\x=.int .u32 (Crc.total (flat (a.take k)))) (λ_ _ i=>a.length-(intOf i).toNat)
 case atStart=>exact⟨0,ja5 _,rfl,by simp[flat,Crc.U7]⟩
 case round =>
  obtain⟨k,u,rfl,rfl⟩:=hrel;have g:=Crc.yX (flat (a.take k))
  have f:Hid (¬k<a.length->Crc.total (flat (a.take k))=Crc.total (flat a)):=by
   intro h;rw[jan (by omega)]
  by_cases c:k<a.length
  .have d:Hid (Crc.total (flat (a.take (k+1)))=Crc.more (Crc.total (flat (a.take k))) (a.getD k ByteArray.empty).data.toList):=by
    unfold Hid;rw[UQ a k c,Nb,Crc.O5]
   have r:=o k c;have q:=n k c;generalize Crc.total (flat (a.take k))=m at d f g |-;generalize a.getD k _=s at d r q;clear o n;go_wp2_with (go_at_call 248;refine cEq (O4 _ _ _ g q) λj rfl=>?_)
   go_round
   case rel=>exact⟨k+1,by omega,by go_num,tV (by rw[d.out])⟩
   case measure=>simp[intOf];omega
  .generalize Crc.total _=m at f g |-
   go_wp2
   go_ret
   exact⟨yB (by rw[<- f.out c]),rfl⟩
def FX(s:ByteArray)(b cap:Nat)(w:ω)(d:s.size<=maxLen)(f:w.cell? ⟨b,0,O⟩=S (s:υ)) :
  κ prog 211 #[.slice (S ⟨b,0,O⟩) 1 cap] w λe c=>e=.returned (.int .u32 (Crc.total s.data.toList))/\c=w:=by
 have:=PK [s] b 0 cap w (by simp) (λk a=>by
  simp_all) (λk a=>by
  simp_all)
 have e:flat [s]=s.data.toList:=by simp[flat]
 simp_all
def Gy(m c j:Nat)(a:m<4294967296)(g:c<256):bits .xor .u32 (bits .and .u32 (m:Int) 1) (bits .and .u32 ((c:Int) / 2 ^ j % 4294967296) 1)=(((m % 2) ^^^ (c / 2 ^ j % 2):Nat):Int):=by
 have f:bits .and .u32 (m:Int) 1=((m % 2:Nat):Int):=by
  have:=u32_and_nat m 1 a (by omega)
  simp_all
 have b:c / 2 ^ j<=c:=Nat.div_le_self _ _
 have e:((c:Int) / 2 ^ j % 4294967296)=((c / 2 ^ j:Nat):Int):=by
  have:(c:Int) / 2 ^ j=((c / 2 ^ j:Nat):Int):=by simp
  rw[this];generalize c / 2 ^ j=q at b;omega
 have d:bits .and .u32 ((c:Int) / 2 ^ j % 4294967296) 1=((c / 2 ^ j % 2:Nat):Int):=by
  have:=u32_and_nat (c / 2 ^ j) 1 (by omega) (by omega)
  simp_all
 rw[f,d];exact u32_xor_nat _ _ (by omega) (by omega)
def RG(m c j:Nat)(a:m<4294967296)(d:c<256)
  (e:(bits .xor .u32 (bits .and .u32 (m:Int) 1) (bits .and .u32 ((c:Int) / 2 ^ j % 4294967296) 1)==1)=true) :
  bits .xor .u32 ((m:Int) / 2) 3988292384=(Crc.stp (m ^^^ (c / 2 ^ j % 2)):Int):=by
 rw[Gy m c j a d] at e;have b:(m % 2) ^^^ (c / 2 ^ j % 2)=1:=by have:=beq_iff_eq.1 e;omega
 rw[Crc.Iu _ _ (by omega),if_pos b,u32_xor _ _ (by omega) (by omega) (by omega) (by omega)]
 congr 2
def RF(m c j:Nat)(a:m<4294967296)(d:c<256)
  (e:(bits .xor .u32 (bits .and .u32 (m:Int) 1) (bits .and .u32 ((c:Int) / 2 ^ j % 4294967296) 1)==1)=false) :
  (m:Int) / 2=(Crc.stp (m ^^^ (c / 2 ^ j % 2)):Int):=by
 rw[Gy m c j a d] at e;have b:¬(m % 2) ^^^ (c / 2 ^ j % 2)=1:=by have:=beq_eq_false_iff_ne.1 e;omega
 rw[Crc.Iu _ _ (by omega),if_neg b]
 omega
def Gx(t:ByteArray)(w:ω)(l:t.size<=1000000) :
  κ prog 213 #[t] w λe h=>e=.returned (.int .u32 (Crc.total t.data.toList))/\h=w:=by
 go_enter func213,ntmps213
 go_wp2
 go_loop [3,4] (λx i=>∃ k:Nat,k<=8*t.size/\i=.int .i64 k/\x=.int .u32 (Crc.bitwise (Crc.num t.data.toList) k)) (λ_ i=>8*t.size-(intOf i).toNat)
 case atStart=>exact⟨0,ja5 _,rfl,by rw[Crc.Di];rfl⟩
 case round =>
  obtain⟨k,j,rfl,rfl⟩:=hrel;have a:=Crc.J9 (Crc.num t.data.toList) k;by_cases f:k<8*t.size
  .have b:Hid (Crc.bitwise (Crc.num t.data.toList) (k+1)=Crc.stp (Crc.bitwise (Crc.num t.data.toList) k ^^^ ((t[k / 8]'(by omega)).toNat / 2 ^ (k % 8) % 2))):=by
    unfold Hid;rw[Crc.Dh,Crc.Pz _ k (by simpa using f)];rfl
   generalize Crc.bitwise _ k=m at b a |-;have c:=(t[k / 8]'(by omega)).toNat_lt
   go_wp2
   .go_round
    case rel=>exact⟨k+1,by omega,by go_num,tV (by rw[b.out];exact RG m _ _ a c (by assumption))⟩
    case measure=>simp[intOf];omega
   .go_round
    case rel=>exact⟨k+1,by omega,by go_num,tV (by rw[b.out];exact RF m _ _ a c (by assumption))⟩
    case measure=>simp[intOf];omega
  .have d:Hid (Crc.bitwise (Crc.num t.data.toList) k ^^^ Crc.ones=Crc.total t.data.toList):=by
    have g:k=8*t.data.toList.length:=by simp;omega
    unfold Hid;rw[g,Crc.J8];rfl
   generalize Crc.bitwise _ k=m at d a |-;go_wp2
   go_ret
   exact⟨yB (by rw[<- d.out];exact u32_xor_nat m 4294967295 a (by omega)),rfl⟩
def Ag(s:Nat):List Int:=[(s:Int) % 256,(s:Int) / 256 % 256,(s:Int) / 65536 % 256,(s:Int) / 16777216]
def four(s:Nat):ByteArray:=strOfNums (Ag s)
def cells4(w:ω)(a b d c:Int)(i:Nat)(h:i<4) :
  (w.alloc (.cells #[.int .u8 a,.int .u8 b,.int .u8 d,.int .u8 c] 5)).cell? ⟨w,0+i,O⟩=S (.int .u8 ([a,b,d,c].getD i 0)):=by
 match i,h with
 | 0,_=>simp[go_sem]
 | 1,_=>simp[go_sem]
 | 2,_=>simp[go_sem]
 | 3,_=>simp[go_sem]
def Dp(s:Nat)(w:ω)(b:s<4294967296) :
  κ prog 210 #[.int .u32 s] w λe a=>e=.returned (.string (four s))/\β w w a:=by
 have c:=run_convert_bytes_arg  _ 185 5 underlying185 underlying5 w.heap.size 0 4 4 (Ag s) rfl (cells4 w _ _ _ _) 9 underlying9;go_enter func210,ntmps210
 go_wp2
 go_ret
 exact⟨rfl,(ja0 _ _).alloc (ja1 _) _⟩
def Texts(w:ω)(d:Option Addr)(len:Nat)(a:List ByteArray):Prop :=
 a.length=len/\∀ k,k<len->∃ b c,d=S ⟨b,c,O⟩/\w.cell? ⟨b,c+k,O⟩=S (.string (a.getD k ByteArray.empty))/\(a.getD k ByteArray.empty).size<=maxLen
def Texts.below{w c:ω}{d:Option Addr}{len:Nat}{a:List ByteArray}(h:Texts w d len a)(j:β w w c):Texts c d len a:=by
 refine⟨h.1,λk g=>?_⟩
 obtain⟨b,i,e,f,l⟩:=h.2 k g;exact⟨b,i,e,by rw[j.cell (ja2 w _ f)];exact f,l⟩
def nZ{a b:Bool}(h:a=b):Ending.returned a=.returned b:=by rw[h]
def erV(f:Int):Value:=if f=0 then .nilIface else .iface 96 (.int .i64 f)
def nK(l:List Int):List Int:=l++List.replicate (12-l.length) 0
def s12(l:List Int):ByteArray:=strOfNums (nK l)
def fO(l:List Int):ByteArray:=s12 l++four (Crc.total (s12 l).data.toList)
def xX(l:List Int)(h:l.length<=12):(nK l).length=12:=by
 unfold nK;simp_all
def strOfNums_size(l:List Int):(strOfNums l).size=l.length:=by simp[strOfNums,ByteArray.size]
def BN(l:List Int)(h:l.length<=12):(s12 l).size=12:=by
 unfold s12;rw[strOfNums_size,xX l h]
def Ah(s:Nat):(four s).size=4:=rfl
def yF(l:List Int)(h:l.length<=12):(fO l).size=16:=by
 unfold fO;rw[jaL,BN l h,Ah]
def yG(s:ByteArray):Bool:=(four (Crc.total (s.extract 0 12).data.toList)).toList==(s.extract 12 s.size).toList
def bV(s:ByteArray):Int:=if s.size=16 then (if yG s=true then 0 else 3) else 1
def bAt(s:ByteArray)(i:Nat):Int:=((s.data.toList.getD i 0).toNat:Int)
def iP(s:ByteArray)(i:Nat):0<=bAt s i/\bAt s i<256:=by
 unfold bAt;have:=(s.data.toList.getD i 0).toNat_lt;omega
def nT(s:ByteArray)(i:Nat)(h:i<s.size):((s[i]'h).toNat:Int)=bAt s i:=by
 have a:i<s.data.toList.length:=by simpa using h
 unfold bAt;rw[ja6,ja8 a];rfl
structure HV where
 c:Int
 p:Int
 b:Int
def HV.ok(h:HV):Bool:=decide (1<=h.c/\h.c<=32/\0<=h.p/\h.p<=40 /\ -1<=h.b/\h.b<=4)
def HV.cells(h:HV):Array Value := #[h.c,h.p,h.b]
def HV.zero:HV:=⟨0,0,0⟩
def HV.bytes(h:HV):List Int:=[83,89,h.c,h.p,h.b+1]
def HV.fault(h:HV):Int:=if h.ok=true then 0 else 1
def HV.text(h:HV):ByteArray:=if h.ok=true then fO h.bytes else ⟨#[]⟩
def ql(s:ByteArray):HV:=⟨bAt s 2,bAt s 3,bAt s 4-1⟩
def mV(s:ByteArray):Bool:=(ql s).ok&&((fO (ql s).bytes).toList==s.toList)
def fV(s:ByteArray):HV:=if bV s=0/\mV s=true then ql s else HV.zero
def dN(s:ByteArray):Int:=if bV s=0 then (if mV s=true then 0 else 2) else bV s
structure KV where
 r:Int
 k:Int
 f:Int
 a:Int
 u:Int
def KV.bound(d:KV):Bool:=decide (0<=d.r/\d.r<=4/\0<=d.k/\d.k<=3 /\ -1<=d.f/\d.f<=4/\0<=d.a/\d.a<=1000/\0<=d.u/\d.u<=1000)
def KV.may(d:KV):Bool:=decide ((d.k=0/\d.f = -1/\d.a=0/\d.u=0)\/(d.k≠0/\d.f≠d.r/\(d.f ≠ -1\/d.k=2)))
def KV.fault(d:KV):Int:=if d.bound=true then (if d.may=true then 0 else 2) else 1
def KV.cells(d:KV):Array Value := #[d.r,d.k,d.f,d.a,d.u]
def KV.zero:KV:=⟨0,0,0,0,0⟩
def KV.bytes(d:KV):List Int:=[68,75,d.r,d.k,d.f+1,d.a % 256,d.a / 256,d.u % 256,d.u / 256]
def KV.text(d:KV):ByteArray:=if d.fault=0 then fO d.bytes else ⟨#[]⟩
def pW(s:ByteArray):KV:=⟨bAt s 2,bAt s 3,bAt s 4-1,bAt s 5+bAt s 6*256,bAt s 7+bAt s 8*256⟩
def mP(s:ByteArray):Bool:=decide ((pW s).fault=0)&&((fO (pW s).bytes).toList==s.toList)
def iy(s:ByteArray):KV:=if bV s=0/\mP s=true then pW s else KV.zero
def aJ(s:ByteArray):Int:=if bV s=0 then (if mP s=true then 0 else 2) else bV s
def KV.qC{d:KV}(h:d.fault=0):d.bound=true/\d.may=true:=by
 unfold KV.fault at h;split at h
 .simp_all
 .omega
def byV(l:List Int):List Value:=l.map (Value.int .u8)
def Kq(l:List Int):∀ u∈byV l,u.oneCell'=true:=by
 intro u a;obtain⟨n,_,rfl⟩:=List.mem_map.1 a;rfl
def sU(l:List Int)(j:Nat)(a:j<l.length):(byV l)[j]?=S (.int .u8 (l.getD j 0)):=by
 simp[byV,ja8 a,List.getD]
def EN:(prog.info? 5).map (λi=>(i.zero,i.size,i.bytes))=S (S (.int .u8 0),1,1):=by kernel_rfl
def Ub:(prog.info? 5).map (·.size)=S 1:=by kernel_rfl
def inB(n a b:Int):Bool:=decide (a<=n/\n<=b)
def Gz{a b:ByteArray}(h:a=b):Ending.returned a=.returned b:=by rw[h]
def lI(n a b:Int)(w:ω) :
  κ prog 96 #[n,a,b] w λe f=>e=.returned (.bool (inB n a b))/\f=w:=by
 by_cases d:a<=n
 .have c:Hid (inB n a b=decide (n<=b)):=by unfold Hid inB;simp[d]
  go_enter func96,ntmps96
  go_wp2
  go_ret
  exact⟨nZ c.out.symm,rfl⟩
 .have c:Hid (inB n a b=false):=by unfold Hid inB;simp[d]
  go_enter func96,ntmps96
  go_wp2
  go_ret
  exact⟨nZ c.out.symm,rfl⟩
def Tt(w:ω)(l:List Int)(b cap:Nat)(i:l.length<=12)(m:b<w.heap.size)(n:∀ j,j<l.length->w.cell? ⟨b,j,O⟩=S (.int .u8 (l.getD j 0))) :
    (Builtin.copy_ #[185,185] 3 #[.slice (S ⟨w,0,O⟩) 12 12,.slice (S ⟨b,0,O⟩) l.length cap]).run prog (w.alloc (.cells #[.int .u8 0,.int .u8 0,.int .u8 0,.int .u8 0,.int .u8 0,.int .u8 0,.int .u8 0,.int .u8 0,.int .u8 0,.int .u8 0,.int .u8 0,.int .u8 0] 274)) =
      .ok (.int .i64 (l.length:Int)) (w.alloc (.cells (byV (nK l)).toArray 274)):=by
  have f:(byV l).length=Nat.min l.length 12:=by
    rw[show Nat.min _ 12=l.length from Nat.min_eq_left i];simp[byV]
  have h:=run_copy_row (P:=prog) (w.alloc (.cells #[.int .u8 0,.int .u8 0,.int .u8 0,.int .u8 0,.int .u8 0,.int .u8 0,.int .u8 0,.int .u8 0,.int .u8 0,.int .u8 0,.int .u8 0,.int .u8 0] 274)) _ 185 3 5 _ 0 12 12 _ _ cap _ _ _ underlying185 Ub (heap_alloc_new w _) f
    (λj v d=>by
      have c:j<l.length:=by
        rcases jat j _ with h|h
        . exact h
        . simp_all
      rw[sU l j c] at d
      rw[Go.WideShapes.add_plain,jaq,jar _ _ _ m,n j c];exact d)
    (by simp_all) (Kq l)
  have a:(byV l).length=l.length:=by simp[byV]
  have o:goInt (byV l).length=Value.int .i64 (l.length:Int):=by rw[a];rfl
  have g:(#[.int .u8 0,.int _ 0,.int _ 0,.int _ 0,.int _ 0,.int _ 0,.int _ 0,.int _ 0,.int _ 0,.int _ 0,.int _ 0,.int _ 0]:Array υ).toList=List.replicate 12 _:=rfl;have k:byV (nK l)=byV l++List.replicate (12-l.length) (Value.int .u8 0):=by simp[byV,nK]
  rw[h,jaU,o,g,a,List.take_zero,jb7,jaq,List.drop_replicate,<- k]
def Tq(w:ω)(l:List Int)(b:l.length<=12) :
  (convert 185 9 (.slice (S ⟨w,0,O⟩) 12 12)).run prog (w.alloc (.cells (byV (nK l)).toArray 274))=.ok (.string (s12 l)) (w.alloc (.cells (byV (nK l)).toArray 274)):=by
 have a:=xX l b
 exact run_convert_bytes_arg  _ _ 5 underlying185 underlying5 _ 0 12 12 _ a (λi c=>by
  rw[jaq,cell_of_row _ _ _ _ _ _ (heap_alloc_new w _)];rw[jaM]
  exact sU _ i (by omega)) 9 underlying9
def Hl(l:List Int)(b cap:Nat)(w:ω)(c:l.length<=12)(k:b<w.heap.size)(n:∀ j,j<l.length->w.cell? ⟨b,j,O⟩=some (.int .u8 (l.getD j 0))) :
  κ prog 176 #[.slice (some ⟨b,0,O⟩) l.length cap] w λe a=>e=.returned (.string (fO l))/\β w w a:=by
 have h:=Tt w l b cap c k n;have g:=Tq w l c;have o:=BN l c;have d:Hid (s12 l++four _=fO l):=rfl;have i:=Ah (Crc.total (s12 l).data.toList);have f:=Crc.yX (s12 l).data.toList;generalize byV (nK l)=P at h g;generalize s12 l=S at g o d i f;go_enter func176,ntmps176
 go_wp2_with fail
 refine(FX S _ 1 _ (by unfold maxLen;omega) ?_).mono ?_
 .simp[go_sem]
 rintro e a ⟨rfl,rfl⟩;go_wp2_with fail
 refine cEq (Dp _ _ f) λa m=>?_
 go_wp2
 go_ret
 exact⟨Gz d.out,(((ja0 _ _).alloc (ja1 _) _).alloc (by simp) _).trans (m.mono (by simp;omega))⟩
def Gt(s:Nat)(w:ω)(b:s<4294967296) :
  κ prog 212 #[.int .u32 s] w λe a=>e=.returned (.string (four s))/\β w w a:=by
 have c:=run_convert_bytes_arg  _ 185 5 underlying185 underlying5 _ 0 4 4 (Ag s) rfl (cells4 w _ _ _ _) 9 underlying9;go_enter func212,ntmps212
 go_wp2
 go_ret
 exact⟨rfl,(ja0 _ _).alloc (ja1 _) _⟩
def oK(l:List Int)(k:Nat):List Int:=l++List.replicate (k-l.length) 0
def Qr(l:List Int):oK l l.length=l:=by unfold oK;simp
def Qs(l:List Int)(k:Nat)(h:l.length<=k):byV (oK l (k+1))=byV (oK l k)++[.int .u8 0]:=by
 unfold oK byV;rw[show k+1-l.length=(k-l.length)+1 by omega,jbn]
 simp
def Gv(l:List Int)(B b cap:Nat)(w:ω)(a:l.length<=12)(hB:B<=w.heap.size)(R:w.ownsRow B 5 1 (.slice (some ⟨b,0,none⟩) l.length cap) l.length (byV l)) :
    κ prog 179 #[.slice (some ⟨b,0,none⟩) l.length cap] w λe o=>e=.returned (.string (fO l))/\β B w o:=by
  obtain⟨M,d,G,I,N⟩:=info_parts EN;have Q:Hid (w.ownsRow B 5 1 (.slice (some ⟨b,0,none⟩) l.length cap) l.length (byV l)):=R;go_enter func179,ntmps179
  go_wp2
  go_loopw [0] (λv wr=>∃(k g c:Nat),l.length<=k/\k<=12/\v=.slice (some ⟨g,0,none⟩) k c/\wr.ownsRow B 5 1 (.slice (some ⟨g,0,none⟩) k c) k (byV (oK l k))/\β B w wr) (λv _=>match v with | .slice _ n _=>12-n|_=>0)
  case atStart=>exact⟨l.length,b,cap,ja1 _,a,rfl,by rw[Qr];exact Q.out,ja0 _ _⟩
  case round =>
    obtain⟨k,g,c,F,Y,rfl,V,z⟩:=hrel;have t:Hid (β B w wr):=z;have m:Hid (wr.ownsRow B 5 1 (.slice (some ⟨g,0,none⟩) k c) k (byV (oK l k))):=V;have f:Hid (B<=wr.heap.size):=by unfold Hid;have:=z.size;omega
    by_cases X:k<12
    . have T:Hid ((wr.alloc (.cells #[.int .u8 0] 5)).ownsRow B 5 1 (.slice (some ⟨g,0,none⟩) k c) k (byV (oK l k))):=m.out.alloc _
      have C:Hid (B<=(wr.alloc (.cells #[.int .u8 0] 5)).heap.size):=by unfold Hid;have:=f.out;simp;omega
      go_wp2_with (at_builtin;go_loud (refine wpList_append_lies _ (by rfl) _ _ 185 (by rfl) B 5 M (.int .u8 0) 1 1 underlying185 d G I N rfl (by decide) (.slice (some ⟨g,0,none⟩) k c) k (byV (oK l k)) (by rfl) T.out ⟨wr,0,none⟩ 1 1 [.int .u8 0] (by rfl) (by rfl) (cell_one_new _ _ _) (λu y=>by simp at y;subst y;rfl) (by decide) (by unfold maxLen;omega) (by omega) C.out (wr.heap.size+1) (by simp) ?_;intro g2 K w2 E U Z a1))
      go_roundw
      case rel =>
        exact⟨k+1,g2,K,by omega,by omega,rfl,by rw[Qs l k F];exact E,(t.out.alloc f.out _).grown U C.out (λr e=>(m.out.lt r e).1)⟩
      case measure=>simp;omega
    . have D:k=12:=by omega
      subst D
      have A:=λW (H:β wr wr W)=>run_convert_bytes_arg (P:=prog) W 185 5 underlying185 underlying5 g 0 12 c (nK l) (xX l a) (λi d=>by
          rw[jaq];have h:=m.out.cellAt i d;have e:oK l 12=nK l:=rfl;rw[e,sU (nK l) i (by rw[xX l a];exact d)] at h
          rw[H.cell (ja2 wr _ h)];exact h) 9 underlying9
      have j:Hid (∀ W:ω,β wr wr W->(convert 185 9 (.slice (some ⟨g,0,none⟩) 12 c)).run prog W=.ok (.string (s12 l)) W):=A;have L:=BN l a;have s:Hid (s12 l++four (Crc.total (s12 l).data.toList)=fO l):=rfl;have O:=Ah (Crc.total (s12 l).data.toList);have q:=Crc.yX (s12 l).data.toList;clear A;generalize s12 l=S at j L s O q;have x:β wr wr wr.drew:=(ja0 _ _).drew;go_wp2
      go_region_held3 (λW=>β wr wr W/\(convert 185 9 (.slice (some ⟨g,0,none⟩) 12 c)).run prog W=.ok (.string S) W)
        (first|(exact⟨x,j.out _ x⟩)|assumption|(exact⟨by assumption,j.out _ (by assumption)⟩))
        (first
          | (go_at_call 213;refine cEq (Gx _ _ (by omega)) λo rfl=>?_)
          | (go_at_call 212;refine cEq (Gt _ _ q) λw5 J=>?_;have a0:=jaB (by assumption:β _ wr _/\_).1 (J.mono (by assumption:β _ wr _/\_).1.size)))
      all_goals
        go_wp2
        go_ret
        exact⟨Gz s.out,t.out.trans (Below.mono (by assumption) f.out)⟩
def aN:erV 0=.nilIface:=by simp[erV]
def eu:erV 1=.iface 96 (.int .i64 1):=by simp[erV]
def xg:erV 2=.iface 96 (.int .i64 2):=by simp[erV]
def Md:erV 3=.iface 96 (.int .i64 3):=by simp[erV]
def lu{a b:υ}(h:a=b):Ending.returned a=.returned b:=by rw[h]
def qH{a b:Int}(h:a=b):Ending.returned a=.returned b:=by rw[h]
def Hg(s:ByteArray)(f:s.size=16):∃(T:Nat) (F:ByteArray),T<4294967296/\(yG s=(F.toList==(s.extract 12 s.size).toList)) /\
  (∀(b:Nat) (W:ω),W.cell? ⟨b,0,O⟩=S (.string (s.extract 0 12))->κ prog 211 #[.slice (S ⟨b,0,O⟩) 1 1] W λe a=>e=.returned (.int .u32 T)/\a=W) /\
  (∀ W:ω,κ prog 210 #[.int .u32 T] W λe a=>e=.returned F/\β W W a) /\
  (∀ W:ω,κ prog 213 #[.string (s.extract 0 12)] W λe a=>e=.returned (.int .u32 T)/\a=W) /\
  (∀ W:ω,κ prog 212 #[.int .u32 T] W λe a=>e=.returned F/\β W W a):=by
 have d:(s.extract 0 12).size<=12:=by simp_all
 have c:=Crc.yX (s.extract 0 12).data.toList;exact⟨Crc.total _,four _,c,rfl,λb W h=>FX _ b 1 W (by unfold maxLen;omega) h,λW=>Dp _ W c,λW=>Gx _ W (by omega),λW=>Gt _ W c⟩
def wK(s:ByteArray)(w:ω) :
    κ prog 151 #[s] w λe f=>e=.returned (erV (bV s))/\β w w f:=by
  by_cases a:s.size=16
  . have g1:((s.size:Int) != 16)=false:=by simp;omega
    have g2:(12:Int)<=(s.size:Int):=by omega
    have h:β w w w.drew:=(ja0 _ _).drew;obtain⟨T,F,q,d,l,k,o,r⟩:=Hg s a;have j:=ah l;have i:=ah k
    cases c:yG s with
    | true =>
      have b:Hid (erV (bV s)=.nilIface):=by unfold Hid bV;rw[if_pos a,if_pos c];exact aN
      rw[d] at c;clear a d;go_enter func151,ntmps151
      go_wp2
      go_region_held3 (λW=>β w w W) (first|(exact h)|assumption|(exact Below.alloc (by assumption) (jbq (by assumption)) _))
        (first
          | (go_at_call 211;refine cEq (j.out _ _ (cell_of_row _ _ _ _ _ _ (heap_alloc_new _ _))) λf rfl=>?_)
          | (go_at_call 210;refine cEq (i.out _) λn g=>?_;have m:=jaB (by assumption:β w w _) (g.mono (jbq (by assumption)))))
      all_goals
        go_wp2
        go_ret
        exact⟨lu b.out.symm,by assumption⟩
    | false =>
      have b:Hid (erV (bV s)=.iface 96 (.int .i64 3)):=by unfold Hid bV;rw[if_pos a,if_neg (by rw[c];decide)];exact Md
      rw[d] at c;clear a d;go_enter func151,ntmps151
      go_wp2
      go_region_held3 (λW=>β w w W) (first|(exact h)|assumption|(exact Below.alloc (by assumption) (jbq (by assumption)) _))
        (first
          | (go_at_call 211;refine cEq (j.out _ _ (cell_of_row _ _ _ _ _ _ (heap_alloc_new _ _))) λf rfl=>?_)
          | (go_at_call 210;refine cEq (i.out _) λn g=>?_;have m:=jaB (by assumption:β w w _) (g.mono (jbq (by assumption)))))
      all_goals
        go_wp2
        go_ret
        exact⟨lu b.out.symm,by assumption⟩
  . have g1:((s.size:Int) != 16)=true:=by simp;omega
    have b:Hid (erV (bV s)=.iface 96 (.int .i64 1)):=by unfold Hid bV;rw[if_neg a];exact eu
    go_enter func151,ntmps151
    go_wp2
    go_ret
    exact⟨lu b.out.symm,ja0 _ _⟩
def xW(s:ByteArray)(w:ω) :
    κ prog 156 #[s] w λe f=>e=.returned (bV s)/\β w w f:=by
  by_cases a:s.size=16
  . have g1:((s.size:Int) != 16)=false:=by simp;omega
    have g2:(12:Int)<=(s.size:Int):=by omega
    have h:β w w w.drew:=(ja0 _ _).drew;obtain⟨T,F,r,d,q,o,k,l⟩:=Hg s a;have i:=ah k;have j:=ah l
    cases c:yG s with
    | true =>
      have b:Hid (bV s=0):=by unfold Hid bV;rw[if_pos a,if_pos c]
      rw[d] at c;clear a d;go_enter func156,ntmps156
      go_wp2
      go_region_held3 (λW=>β w w W) (first|(exact h)|assumption)
        (first
          | (go_at_call 213;refine cEq (i.out _) λf rfl=>?_)
          | (go_at_call 212;refine cEq (j.out _) λn g=>?_;have m:=jaB (by assumption:β w w _) (g.mono (jbq (by assumption)))))
      all_goals
        go_wp2
        go_ret
        exact⟨qH b.out.symm,by assumption⟩
    | false =>
      have b:Hid (bV s=3):=by unfold Hid bV;rw[if_pos a,if_neg (by rw[c];decide)]
      rw[d] at c;clear a d;go_enter func156,ntmps156
      go_wp2
      go_region_held3 (λW=>β w w W) (first|(exact h)|assumption)
        (first
          | (go_at_call 213;refine cEq (i.out _) λf rfl=>?_)
          | (go_at_call 212;refine cEq (j.out _) λn g=>?_;have m:=jaB (by assumption:β w w _) (g.mono (jbq (by assumption)))))
      all_goals
        go_wp2
        go_ret
        exact⟨qH b.out.symm,by assumption⟩
  . have g1:((s.size:Int) != 16)=true:=by simp;omega
    have b:Hid (bV s=1):=by unfold Hid bV;rw[if_neg a]
    go_enter func156,ntmps156
    go_wp2
    go_ret
    exact⟨qH b.out.symm,ja0 _ _⟩
def qp{n a b:Int}(h:a<=n/\n<=b):inB n a b=true:=decide_eq_true h
def xC{n a b:Int}(h:¬(a<=n/\n<=b)):inB n a b=false:=decide_eq_false h
def oW(c p b:Int)(w:ω) :
  κ prog 27 #[.agg #[c,p,b]] w λe g=>e=.returned (erV (HV.fault ⟨c,p,b⟩))/\β w w g:=by
 have i:β w w (w.alloc (.cells #[c,p,b] 67)):=(ja0 _ _).alloc (ja1 _) _
 have j:(∃ H:Hid (erV (HV.fault ⟨c,p,b⟩)=.nilIface),inB c 1 32=true/\inB p 0 40=true/\inB b (-1) 4=true)\/∃ H:Hid (erV (HV.fault ⟨c,p,b⟩)=.iface 96 (.int .i64 1)),(inB c 1 32=false)\/(inB c 1 32=true/\inB p 0 40=false)\/(inB c 1 32=true/\inB p 0 40=true/\inB b (-1) 4=false):=by
  unfold Hid HV.fault HV.ok;simp only[decide_eq_true_eq];by_cases a:1<=c/\c<=32
  .by_cases d:0<=p/\p<=40
   .by_cases f : -1<=b/\b<=4
    .exact .inl ⟨by rw[if_pos ⟨a.1,a.2,d.1,d.2,f.1,f.2⟩];exact aN,qp a,qp d,qp f⟩
    .exact .inr ⟨by rw[if_neg (by omega)];exact eu,.inr (.inr ⟨qp a,qp d,xC f⟩)⟩
   .exact .inr ⟨by rw[if_neg (by omega)];exact eu,.inr (.inl ⟨qp a,xC d⟩)⟩
  .exact .inr ⟨by rw[if_neg (by omega)];exact eu,.inl (xC a)⟩
 rcases j with⟨h,g1,g2,g3⟩|⟨h,g1|⟨g1,g2⟩|⟨g1,g2,g3⟩⟩
 .go_enter func27,ntmps27
  go_wp2_with (go_at_call 96;refine cEq (lI _ _ _ _) λg rfl=>?_)
  go_ret
  exact⟨lu h.out.symm,i⟩
 all_goals
  go_enter func27,ntmps27
  go_wp2_with (go_at_call 96;refine cEq (lI _ _ _ _) λg rfl=>?_)
  go_ret
  exact⟨lu h.out.symm,i⟩
def o8(c p b:Int)(w:ω) :
  κ prog 33 #[.agg #[c,p,b]] w λe l=>e=.returned (HV.fault ⟨c,p,b⟩)/\β w w l:=by
 have g:β w w (w.alloc (.cells #[c,p,b] 67)):=(ja0 _ _).alloc (ja1 _) _;by_cases i:1<=c/\c<=32/\0<=p/\p<=40 /\ -1<=b/\b<=4
 .have d:Hid (HV.fault ⟨c,p,b⟩=0):=if_pos (decide_eq_true i)
  have g1:decide (c<1)=false:=by simp;omega
  have g2:decide (32<c)=false:=by simp;omega
  have g3:decide (p<0)=false:=by simp;omega
  have a:decide (40<p)=false:=by simp;omega
  have f:decide (b < -1)=false:=by simp;omega
  have k:decide (4<b)=false:=by simp;omega
  go_enter func33,ntmps33
  go_wp2
  go_ret
  exact⟨qH d.out.symm,g⟩
 .have d:Hid (HV.fault ⟨c,p,b⟩=1):=if_neg (λh=>i (of_decide_eq_true h))
  have j:decide (c<1)=true\/(decide (c<1)=false/\decide (32<c)=true)\/(decide (c<1)=false/\decide (32<c)=false/\decide (p<0)=true)\/(decide (c<1)=false/\decide (32<c)=false/\decide (p<0)=false/\decide (40<p)=true) \/
    (decide (c<1)=false/\decide (32<c)=false/\decide (p<0)=false/\decide (40<p)=false/\decide (b < -1)=true)\/(decide (c<1)=false/\decide (32<c)=false/\decide (p<0)=false/\decide (40<p)=false/\decide (b < -1)=false/\decide (4<b)=true):=by
   simp only[decide_eq_true_eq,decide_eq_false_iff_not];omega
  rcases j with g1|⟨g1,g2⟩|⟨g1,g2,g3⟩|⟨g1,g2,g3,a⟩|⟨g1,g2,g3,a,f⟩|⟨g1,g2,g3,a,f,k⟩
  all_goals
   go_enter func33,ntmps33
   go_wp2
   go_ret
   exact⟨qH d.out.symm,g⟩
def nU{W a:ω}(c:β W W a):(∀ b o,b<W.heap.size->a.cell? ⟨b,o,O⟩=W.cell? ⟨b,o,O⟩)/\(∀ b o,b<W.heap.size->a.frozen? ⟨b,o,O⟩=W.frozen? ⟨b,o,O⟩) :=
 ⟨λb o h=>c.cell  h,λb o h=>c.frozen  h⟩
def HV.dK{h:HV}(a:h.ok=true):1<=h.c/\h.c<=32/\0<=h.p/\h.p<=40 /\ -1<=h.b/\h.b<=4:=of_decide_eq_true a
def Dv(w:ω)(l:List Int)(t:TypeId)(j:Nat)(a:j<l.length):(w.alloc (.cells (byV l).toArray t)).cell? ⟨w.heap.size,j,O⟩=S (.int .u8 (l.getD j 0)):=by
 rw[cell_of_row _ _ _ _ _ _ (heap_alloc_new w _),jaM];exact sU l j a
def Gg(w:ω)(l:List Int)(N:Nat)(a:w.heap.size=N)(b:l.length<=12):(w.alloc (.cells (byV l).toArray 5)).ownsRow N 5 1 (.slice (S ⟨N,0,O⟩) l.length l.length) l.length (byV l):=by
 subst a;refine⟨by simp[byV],.inr ⟨w.heap.size,l.length,(byV l).toArray,rfl,ja1 _,heap_alloc_new w _,ja1 _,by unfold maxLen;omega,by simp[byV],?_⟩⟩
 rw[jan (by simp[byV])]
def EJ(c p b:Int)(w:ω)(f:HV.ok ⟨c,p,b⟩=true) :
  κ prog 175 #[.agg #[c,p,b]] w λe k=>e=.returned (.tuple #[.string (fO [83,89,c,p,b+1]),.nilIface])/\β w w k:=by
 have g:=oW c p b (w.alloc (.cells #[c,p,b] 67));have i:erV (HV.fault ⟨c,p,b⟩)=.nilIface:=by unfold HV.fault;rw[if_pos f];exact aN
 rw[i] at g;obtain⟨g1,g2,g3,h,m,j⟩:=HV.dK f;simp only at g1 g2 g3 h m j;go_enter func175,ntmps175
 go_wp2_with fail
 refine cEq g λd a=>?_
 obtain⟨q,n⟩:=nU a;have r:w.heap.size<d.heap.size:=by have:=a.size;simp at this;omega
 go_wp2_with fail
 refine(Hl [83,89,c,p,b+1] _ 5 _ (by simp) ?_ (Dv d _ 5)).mono ?_
 .simp
 rintro e o ⟨rfl,l⟩;go_wp2
 go_ret2
 exact⟨rfl,((((ja0 _ _).alloc (ja1 _) _).trans (a.mono (by simp))).alloc (by omega) _).trans (l.mono (by simp;omega))⟩
def EI(c p b:Int)(w:ω)(f:HV.ok ⟨c,p,b⟩=false) :
  κ prog 175 #[.agg #[c,p,b]] w λe g=>e=.returned (.tuple #[.string ⟨#[]⟩,.iface 96 (.int .i64 1)])/\β w w g:=by
 have a:=oW c p b (w.alloc (.cells #[c,p,b] 67));have d:erV (HV.fault ⟨c,p,b⟩)=.iface 96 (.int .i64 1):=by unfold HV.fault;rw[if_neg (by rw[f];decide)];exact eu
 rw[d] at a;go_enter func175,ntmps175
 go_wp2_with fail
 refine cEq a λi h=>?_
 go_wp2
 go_ret2
 exact⟨rfl,((ja0 _ _).alloc (ja1 _) _).trans (h.mono (by simp))⟩
def Ar(c p b:Int)(w:ω)(h:HV.ok ⟨c,p,b⟩=true) :
  κ prog 111 #[.agg #[c,p,b]] w λe i=>e=.returned (.string (fO [83,89,c,p,b+1]))/\β w w i:=by
 obtain⟨g1,g2,g3,a,f,d⟩:=HV.dK h;simp only at g1 g2 g3 a f d;go_enter func111,ntmps111
 go_wp2_with fail
 refine(Gv [83,89,c,p,b+1] _ _ 5 _ (by simp) ?_ (Gg _ _ _ (by simp) (by simp))).mono ?_
 .simp
 rintro e j ⟨rfl,g⟩;go_wp2
 go_ret
 exact⟨rfl,(((ja0 _ _).alloc (ja1 _) _).alloc (by simp) _).trans (g.mono (by omega))⟩
def kQ{w a c:ω}{C:Array υ}{t:TypeId}{o:Obj}(b:β (w.alloc (.cells C t)).heap.size (w.alloc (.cells C t)) a)(f:β (a.alloc o).drew.heap.size (a.alloc o).drew c)(i:Nat)(v:υ)(d:C[i]?=S v) :
  c.cell? ⟨w.heap.size,i,O⟩=S v:=by
 have g:=b.size;simp at g
 rw[f.cell (by simp;omega)]
 show(a.alloc o).cell? _=_
 rw[jar _ _ _ (by omega),b.cell (by simp),cell_of_row _ _ _ _ _ _ (heap_alloc_new w _)]
 exact d
def below3{w a g:ω}{o b:Obj}(d:β (w.alloc o).heap.size (w.alloc o) a)(h:β (a.alloc b).drew.heap.size (a.alloc b).drew g):β w w g:=by
 have i:=d.size;have f  := ((ja0 _ _).alloc (ja1 _) _).trans (d.mono (by simp))
 have c:β _ w (a.alloc b).drew:=(f.alloc f.size _).drew;exact c.trans (h.mono c.size)
def yN{s:ByteArray}(a:bV s=0):s.size=16:=by
 unfold bV at a;omega
def yu(s:ByteArray)(h:s.size=16):∃(b:2<s.size) (a:3<s.size) (c:4<s.size),((s[2]'b).toNat:Int)=bAt s 2/\((s[3]'a).toNat:Int)=bAt s 3/\((s[4]'c).toNat:Int)=bAt s 4 :=
 ⟨by omega,by omega,by omega,nT s 2 _,nT s 3 _,nT s 4 _⟩
def QS(s:ByteArray)(w:ω)(a:bV s≠0) :
  κ prog 148 #[s] w λe i=>e=.returned (.tuple #[.agg (fV s).cells,erV (dN s)])/\β w w i:=by
 have b:=wK s (w.alloc (.cells #[(0:Int),(0:Int),(0:Int)] 67));have g:dN s=bV s:=by unfold dN;rw[if_neg a]
 have k:fV s=HV.zero:=by unfold fV;rw[if_neg (λh=>a h.1)]
 have c:erV (bV s)=.iface 96 (.int .i64 (bV s)):=by unfold erV;rw[if_neg a]
 rw[g,k,c];rw[c] at b;generalize bV s=f at b;go_enter func148,ntmps148
 go_wp2_with fail
 refine cEq b λm d=>?_
 obtain⟨j,l⟩:=nU d;go_wp2
 exact bodyPost_ret (v:=.tuple #[.agg #[(0:Int),(0:Int),(0:Int)],.iface 96 _]) (by simp[results,results148,go_sem,j]) rfl ⟨rfl,((((((ja0 _ _).alloc (ja1 _) _).trans (d.mono (by simp))).setCell (by simp) _).setCell (by simp) _).setCell (by simp) _)⟩
def NJ(s:ByteArray)(d:bV s=0):∃ X E,(∀ W:ω,κ prog 175 #[.agg #[bAt s 2,bAt s 3,(bAt s 4-1:Int)]] W λe g=>e=.returned (.tuple #[.string X,E])/\β W W g) /\
  (((∃ fl,E=.iface 96 (.int .i64 fl))\/E=.nilIface/\(X.toList==s.toList)=false)/\(fV s).cells = #[.int .i64 0,.int .i64 0,.int .i64 0]/\erV (dN s)=.iface 96 (.int .i64 2)\/E=.nilIface/\(X.toList==s.toList)=true/\(fV s).cells = #[.int .i64 (bAt s 2),.int .i64 (bAt s 3),.int .i64 (bAt s 4-1)]/\erV (dN s)=.nilIface):=by
 have f:mV s=false->(fV s).cells = #[.int .i64 0,.int .i64 0,.int .i64 0]/\erV (dN s)=.iface 96 (.int .i64 2):=λc=>by
  unfold dN fV;rw[c,if_neg (λh=>by cases h.2),if_pos d,if_neg (by decide)];exact⟨rfl,xg⟩
 cases a:(ql s).ok with
 | true =>
  refine⟨_,_,λW=>EJ _ _ _ W a,?_⟩
  cases b:((fO (ql s).bytes).toList==s.toList) with
  | false=>exact .inl ⟨.inr ⟨rfl,b⟩,f (by unfold mV;rw[b,jbc])⟩
  | true =>
   have c:mV s=true:=by unfold mV;rw[b,a];rfl
   refine .inr ⟨rfl,b,?_⟩;unfold dN fV;rw[if_pos d,if_pos c,if_pos ⟨d,c⟩];exact⟨rfl,aN⟩
 | false=>exact⟨_,_,λW=>EI _ _ _ W a,.inl ⟨.inl ⟨_,rfl⟩,f (by unfold mV;rw[a];rfl)⟩⟩
def QO(s:ByteArray)(w:ω)(f:bV s=0) :
  κ prog 148 #[s] w λe m=>e=.returned (.tuple #[.agg (fV s).cells,erV (dN s)])/\β w w m:=by
 have g:=wK s (w.alloc (.cells #[(0:Int),(0:Int),(0:Int)] 67));obtain⟨X,E,k,j⟩:=NJ s f;have i:s.size=16:=yN f;obtain⟨C,M,H,y,o,z⟩:=yu s i;obtain⟨A,u2⟩:=iP s 2;obtain⟨u,u3⟩:=iP s 3;obtain⟨x,u4⟩:=iP s 4;have d:=ah k;have a:=ah j;rw[f,aN] at g;have t:=ah g;generalize (fV s).cells=D at a |-;generalize erV (dN s)=V at a |-;clear g f k j i;generalize bAt s 2=N at y A u2 d a;generalize bAt s 3=G at o u u3 d a;generalize bAt s 4=F at z x u4 d a;go_enter func148,ntmps148
 go_wp2_with fail
 refine t.out.mono ?_;rintro e h ⟨rfl,c⟩;obtain⟨P,K⟩:=nU c;have J:w.heap.size<h.heap.size:=by have:=c.size;simp at this;omega
 go_wp2
 go_region
 go_wp2_with fail
 refine(d.out _).mono ?_;rintro e B ⟨rfl,b⟩;obtain⟨L,O⟩:=nU b;have I:h.heap.size<B.heap.size:=by have:=b.size;simp at this;omega
 have q:Hid (β w w _):=below3 c b;have l:=kQ c b 0 _ rfl;have r:=kQ c b 1 _ rfl;have q2:=kQ c b 2 _ rfl;rcases a.out with⟨⟨fl,rfl⟩|⟨rfl,n⟩,rfl,rfl⟩|⟨rfl,n,rfl,rfl⟩
 all_goals
  go_wp2
  exact bodyPost_ret (v:=.tuple #[.agg _,_]) (by simp[results,results148,go_sem,l,r,q2]) rfl ⟨rfl,((q.out.setCell (ja1 _) _).setCell (ja1 _) _).setCell (ja1 _) _⟩
def Gp(s:ByteArray)(w:ω) :
  κ prog 148 #[s] w λe b=>e=.returned (.tuple #[.agg (fV s).cells,erV (dN s)])/\β w w b:=by
 by_cases a:bV s=0
 .exact QO s w a
 .exact QS s w a
