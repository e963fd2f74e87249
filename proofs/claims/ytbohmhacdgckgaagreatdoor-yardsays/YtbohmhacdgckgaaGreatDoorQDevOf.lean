/- Crash and Copy of a device: another device, as power that fails leaves it; the same one, apart. -/
import Derived.Test.YtbohmhacdgckgaaGreatDoorQDevFlush
import Derived.Deep.RegionLaw
set_option linter.all false
set_option maxHeartbeats 1000000
set_option maxRecDepth 100000
namespace Go.Proofs.YtbohmhacdgckgaaGreatDoor
open Go.RowKit renaming Below->β
open Go renaming World->ω, Value->υ, Calls->κ
open Option renaming none->O, some->S
open Go.Proofs.Tryz Go.RowKit
attribute [local go_sem ↓] Go.wp_at_zero Go.wp_at_succ
def Hu(w:ω)(g o:Nat)(a:List υ)(c:Array υ)(t:TypeId)(d:w.heap[g]?=S (.cells c t (0,0)))(h:o+a.length<=c.size)(f:∀ v∈a,v.oneCell'=true) :
  w.setCells g o a=w.setRow g (c.toList.take o++a++c.toList.drop (o+a.length)).toArray:=by
 have b:=run_storeCells_cells (P:=prog) g o a 0 w (λj i=>by rw[jaR,cell_of_row _ _ _ _ _ _ d];simp;omega) (λj _=>frozen_of_row _ _ _ _ _ d) f
 rw[(run_storeCells_at (P:=prog) g o t a 0 c w d (by omega) f)] at b
 simp_all
def TJ(l:List (List UInt8))(i:Nat)(s:List UInt8)(a:∀ x∈l,x.length=16)(b:i<l.length) :
  bM (l.set i s)=(bM l).take (i*16)++aY s++(bM l).drop (i*16+16):=by
 induction l generalizing i with
 | nil=>simp at b
 | cons x l c =>
  have f:(aY x).length=16:=by rw[ni,(a x (by simp))]
  have e:∀ y:List UInt8,∀ r,bM (y::r)=aY y++bM r:=λy r=>by simp[bM]
  cases i with
  | zero =>
   rw[jau,e,e];simp only[Nat.zero_mul,jan,List.take_zero,jaL];rw[show(16:Nat)=(aY x).length by omega,List.drop_left]
  | succ i =>
   rw[jap,e,e,(c i (λy d=>a y (by simp[d])) (by simpa using b))]
   rw[show(i+1)*16=(aY x).length+i*16 by omega,show(aY x).length+i*16+16=(aY x).length+(i*16+16) by omega]
   rw[jbI,jbH];rw[jar (show(aY x).length<=(aY x).length+i*16 by omega),jbi (show(aY x).length<=(aY x).length+(i*16+16) by omega)]
   simp[jbC]
def F9{w:ω}{B g n cap:Nat}{l:List (List UInt8)}(j:w.ownsRow B 175 16 (.slice (S ⟨g,0,O⟩) n cap) n (bM l))(t:l.length=n)(c:∀ x∈l,x.length=16)(i:Nat)(s:List UInt8)(f:s.length=16)(q:i<n) :
  (w.setCells g (i*16) (aY s)).ownsRow B 175 16 (.slice (S ⟨g,0,O⟩) n cap) n (bM (l.set i s)):=by
 subst t;obtain⟨y,a,d,v,k,m,u⟩:=dQ j;have b:(aY s).length=16:=by rw[ni,f]
 have z:a.toList.length=cap*16:=by simpa using m
 rw[Hu w g (i*16) (aY s) a _ d (by omega) (rY _)]
 have o:∀ x∈l.set i s,x.length=16:=λx r=>by
  rcases jaP r with h|h
  .exact c x h
  .rw[h];exact f
 refine⟨by rw[rZ _ o,jah],.inr ⟨g,cap,_,rfl,y,setRow_heap w g a _ _ _ d,v,k,?_,?_⟩⟩
 .simp[b];omega
 .rw[TJ l i s c q,b,<- u]
  show(a.toList.take (i*16)++aY s++a.toList.drop _).take _=_
  rw[jbI,jbI,List.take_take,List.take_take,List.drop_take];simp only[jak,jaI,b,z];rw[show min (i*16) (cap*16)=i*16 by omega,show min _ (i*16)=i*16 by omega,jar (show(aY s).length<=l.length*16-i*16 by omega),show l.length*16-(i*16+16)=l.length*16-(i*16+16) from rfl]
  rw[show min (i*16) _=i*16 by omega]
def UN(l:List (Nat × List UInt8))(i:Nat)(h:∀ x∈l,x.2.length=16)(a:i<l.length):((iM l).drop (i*17)).take 17=wrV (l.getD i (0,[])):=by
 induction l generalizing i with
 | nil=>simp at a
 | cons s l c =>
  have b:(wrV s).length=17:=by rw[zi,(h s (by simp))]
  have e:iM (s::l)=wrV s++iM l:=by simp[iM]
  rw[e]
  cases i with
  | zero=>simp_all
  | succ i =>
   rw[show(i+1)*17=(wrV s).length+i*17 by omega,jbH]
   rw[jbi (by omega),jaL]
   simp_all
def Vu{w:ω}{B g cap:Nat}{l:List (Nat × List UInt8)}(b:w.ownsRow B 180 17 (.slice (S ⟨g,0,O⟩) l.length cap) l.length (iM l))(c:∀ x∈l,x.2.length=16)(i:Nat)(d:i<l.length) :
  w.rangeAt g (i*17) (wrV (l.getD i (0,[]))):=by
 intro j v a;rw[<- UN l i c d] at a;rcases jaq j 17 with h|h
 .rw[b.cellAt _ (by omega)]
  simp_all
 .rw[jaf (by simp;omega)] at a;cases a
def dV(a:List (Nat × List UInt8))(b:List Bool)(l:List (List UInt8)):Nat->List (List UInt8)
 | 0=>l
 | k+1=>if b.getD k false then (dV a b l k).set (a.getD k (0,[])).1 (a.getD k (0,[])).2 else dV a b l k
def Az{b:List (Nat × List UInt8)}{a:List Bool}{l:List (List UInt8)}{k:Nat}(e:a.getD k false=false):dV b a l (k+1)=dV b a l k:=by
 show(if a.getD k _ then _ else _)=_
 rw[e];rfl
def DW{b:List (Nat × List UInt8)}{a:List Bool}{l:List (List UInt8)}{k:Nat}(e:a.getD k false=true):dV b a l (k+1)=(dV b a l k).set (b.getD k (0,[])).1 (b.getD k (0,[])).2:=by
 show(if a.getD k _ then _ else _)=_
 rw[e];rfl
def rJ(c:List (Nat × List UInt8))(a:List Bool)(l:List (List UInt8))(k:Nat):(dV c a l k).length=l.length:=by
 induction k with
 | zero=>rfl
 | succ k b=>unfold dV;split<;>simp[b]
def Aw(a:List (Nat × List UInt8))(g:List Bool)(l:List (List UInt8))(k:Nat)(j:k<=a.length)(f:∀ s∈l,s.length=16)(c:∀ x∈a,x.2.length=16):∀ s∈dV a g l k,s.length=16:=by
 induction k with
 | zero=>exact f
 | succ k d =>
  have b:=d (by omega)
  unfold dV;split
  .intro s i
   rcases jaP i with h|h
   .exact b s h
   .rw[h,ja5,ja7 (show k<a.length by omega)]
    exact c _ (jab _)
  .exact b
def Bools(w:ω)(f:Option Addr)(a:Nat)(c:List Bool):Prop :=
 c.length=a/\∀ j,j<a->∃ b d,f=S ⟨b,d,O⟩/\w.cell? ⟨b,d+j,O⟩=S (.bool (c.getD j false))
def Bools.below{w a:ω}{c:Option Addr}{len:Nat}{f:List Bool}(h:Bools w c len f)(j:β w w a):Bools a c len f:=by
 refine⟨h.1,λk g=>?_⟩
 obtain⟨b,i,e,d⟩:=h.2 k g;exact⟨b,i,e,by rw[j.cell (ja2 w _ d)];exact d⟩
def Ik:(prog.info? 180).map (·.size)=S 17:=by kernel_rfl
def I5{w:ω}{b:Nat}{x:Nat × List UInt8}(h:w.rangeAt b 0 (wrV x)):w.cell? ⟨b,0,O⟩=S (.int .i64 (x.1:Int))/\w.rangeAt b 1 (aY x.2):=by
 refine⟨by simpa using h 0 _ rfl,λj v a=>?_⟩
 have:=h (j+1) v (by simpa [wrV] using a)
 rw[show 1+j=0+(j+1) by omega];exact this
def DT{B:Nat}{h:Hd}{d:DV}(D:Option Addr)(n kc:Nat)(a:List Bool)(w:ω)(hd:aO B w h d)(hK:Bools w D n a)(aD:n<=maxLen) :
  κ prog 39 #[h.p,.slice D n kc] w λe t =>
   ∃ r:Hd,e=.returned r.p/\aO w.heap.size t r (DV.made (dV d.pend a d.fl d.pend.length) d.wr)/\β w w t:=by
 obtain⟨c0,c1,c2,c3,c4,fz⟩:=hd.cells;unfold maxLen at aD;have U:h.p<w.heap.size:=(hd.lt _ (.inl rfl)).2;have c:Hid (aO B w h d):=hd;have HK:Hid (Bools w D n a):=hK;have az:=hd.ok.n2;have h1:=hd.ok.n1;have b3:=hd.ok.few;have af:=hd.ok.few2;obtain⟨Y,vc,V⟩:=hd.v2;rw[V] at c2;have HV:Hid (h.v2=.slice Y d.pend.length vc):=V;go_enter func39,ntmps39
 go_wp2_with fail
 refine(wP d.fl w h1 az c.out.ok.l1 c.out.of).mono ?_;rintro e O ⟨b,l,rfl,ai,a8⟩;have b9:O.cell? ⟨h.p,2,none⟩=some (.slice Y d.pend.length vc):=by rw[a8.cell U];exact c2
 have ap:Hid (O.ownsRow w.heap.size 175 16 (.slice (some ⟨b,0,none⟩) d.fl.length l) d.fl.length (bM d.fl)):=ai;have ao:Hid (β w w O):=a8;go_wp2
 go_loopw [18] (λi wr=>∃ k:Nat,k<=d.pend.length/\i=.int .i64 k/\wr.ownsRow w.heap.size 175 16 (.slice (some ⟨b,0,none⟩) d.fl.length l) d.fl.length (bM (dV d.pend a d.fl k))/\β w w wr) (λi _=>d.pend.length-(intOf i).toNat)
 case atStart=>exact⟨0,ja6 _,rfl,ap.out,ao.out⟩
 case round =>
  obtain⟨k,hk,rfl,R,m⟩:=hrel;by_cases a3:k<d.pend.length
  .obtain⟨z,cp,a9,_,al⟩:=c.out.op.form (by omega)
   rw[HV.out] at a9;cases a9
   have a1:=c.out.op;rw[HV.out] at a1;have A:∀ x∈d.pend,x.2.length=16:=λx N=>(c.out.ok.l3 x N).2
   have ag:=Vu a1 A k a3
   have a7:d.pend.getD k (0,[])∈d.pend:=by
    rw[ja5,ja7 a3];exact jab _
   have a5:=(c.out.ok.l3 _ a7).1;have E:=(c.out.ok.l3 _ a7).2
   have I:Hid (wr.rangeAt z (k*17) (wrV (d.pend.getD k (0,[])))):=λj v hv=>by
    rw[m.cell (p:=⟨z,k*17+j,none⟩) al];exact ag j v hv
   have G:=Aw d.pend a d.fl k hk c.out.ok.l1 A;have y:=rJ d.pend a d.fl k;have S:Hid (a.getD k false=true->dV d.pend a d.fl (k+1)=(dV d.pend a d.fl k).set (d.pend.getD k (0,[])).1 (d.pend.getD k (0,[])).2):=λe=>DW e
   have L:Hid (a.getD k false=false->dV d.pend a d.fl (k+1)=dV d.pend a d.fl k):=λe=>Az e
   generalize d.pend.getD k (0,[])=x at I a5 E S;generalize dV d.pend a d.fl k=f at R G y S L;have b0:Hid (∀ s∈f,s.length=16):=G;have Z:Hid (wr.ownsRow w.heap.size 175 16 (.slice (some ⟨b,0,none⟩) d.fl.length l) d.fl.length (bM f)):=R;have P:(wrV x).length=17:=by rw[zi,E]
   have am:∀ u∈wrV x,u.oneCell'=true:=λu hu=>CS [x] u (by simpa [iM] using hu)
   have aE:=rY x.2;have a4:(aY x.2).length=16:=by rw[ni,E]
   have J:Hid ((prog.info? 180).map (·.size)=some (wrV x).length):=by unfold Hid;rw[P];exact Ik
   have K:Hid ((prog.info? 180).map (·.size)=some (wrV x).toArray.size):=by unfold Hid;rw[jaC];exact J.out
   have M:Hid ((wrV x).toArray.all (·.oneCell')=true):=all_oneCell_toArray am
   have Q:Hid ((wr.alloc (.cells #[(0:Int),.int .u8 0,.int .u8 0,.int .u8 0,.int .u8 0,.int .u8 0,.int .u8 0,.int .u8 0,.int .u8 0,.int .u8 0,.int .u8 0,.int .u8 0,.int .u8 0,.int .u8 0,.int .u8 0,.int .u8 0,.int .u8 0] 180)).there wr.heap.size 0 (wrV x).toArray.size):=vS wr _ _ _ (by simp[P])
   have ad:((wr.alloc (.cells #[(0:Int),.int .u8 0,.int .u8 0,.int .u8 0,.int .u8 0,.int .u8 0,.int .u8 0,.int .u8 0,.int .u8 0,.int .u8 0,.int .u8 0,.int .u8 0,.int .u8 0,.int .u8 0,.int .u8 0,.int .u8 0,.int .u8 0] 180)).setCells wr.heap.size 0 (wrV x)).rangeAt wr.heap.size 0 (wrV x):=World.rangeAt_setCells_same _ _ _ _ (vS wr _ _ _ (by simp[P]))
   obtain⟨b5,b1⟩:=I5 ad;have aR:Hid (((wr.alloc (.cells #[(0:Int),.int .u8 0,.int .u8 0,.int .u8 0,.int .u8 0,.int .u8 0,.int .u8 0,.int .u8 0,.int .u8 0,.int .u8 0,.int .u8 0,.int .u8 0,.int .u8 0,.int .u8 0,.int .u8 0,.int .u8 0,.int .u8 0] 180)).setCells wr.heap.size 0 (wrV x)).rangeAt wr.heap.size 1 (aY x.2)):=b1;have HJ:Hid ((prog.info? 175).map (·.size)=some (aY x.2).length):=by unfold Hid;rw[a4];exact Cb
   have aL:Hid ((prog.info? 175).map (·.size)=some (aY x.2).toArray.size):=by unfold Hid;rw[jaC];exact HJ.out
   have b2:Hid ((aY x.2).toArray.all (·.oneCell')=true):=all_oneCell_toArray aE
   obtain⟨ax,b4,ab,b7,_,A,_⟩:=dQ Z.out;have aw:b<wr.heap.size:=lt_of_some ab;have T:=m.size
   have H:Hid (((wr.alloc (.cells #[(0:Int),.int .u8 0,.int .u8 0,.int .u8 0,.int .u8 0,.int .u8 0,.int .u8 0,.int .u8 0,.int .u8 0,.int .u8 0,.int .u8 0,.int .u8 0,.int .u8 0,.int .u8 0,.int .u8 0,.int .u8 0,.int .u8 0] 180)).setCells wr.heap.size 0 (wrV x)).ownsRow w.heap.size 175 16 (.slice (some ⟨b,0,none⟩) d.fl.length l) d.fl.length (bM f)):=aZ Z.out (λq e=>by
    have:b=q:=by simpa [Value.ownBlock] using e
    subst this
    rw[heap_setCells_other _ _ (by omega),jal _ _ _ aw])
   have aq:Hid (((wr.alloc (.cells #[(0:Int),.int .u8 0,.int .u8 0,.int .u8 0,.int .u8 0,.int .u8 0,.int .u8 0,.int .u8 0,.int .u8 0,.int .u8 0,.int .u8 0,.int .u8 0,.int .u8 0,.int .u8 0,.int .u8 0,.int .u8 0,.int .u8 0] 180)).setCells wr.heap.size 0 (wrV x)).there b (x.1*16) (aY x.2).toArray.size):=by
    intro j hj;obtain⟨_,b8,X,bb,_,b6,_⟩:=dQ H.out;have ba:j<16:=by simpa [a4] using hj
    rw[cell_of_row _ _ _ _ _ _ X,frozen_of_row _ _ _ _ _ X];exact⟨by simp;omega,rfl⟩
   have F:Hid (β w w ((wr.alloc (.cells #[(0:Int),.int .u8 0,.int .u8 0,.int .u8 0,.int .u8 0,.int .u8 0,.int .u8 0,.int .u8 0,.int .u8 0,.int .u8 0,.int .u8 0,.int .u8 0,.int .u8 0,.int .u8 0,.int .u8 0,.int .u8 0,.int .u8 0] 180)).setCells wr.heap.size 0 (wrV x))):=Below.setCells (m.alloc T _) T 0 _;have ar:Hid (β w w (((wr.alloc (.cells #[(0:Int),.int .u8 0,.int .u8 0,.int .u8 0,.int .u8 0,.int .u8 0,.int .u8 0,.int .u8 0,.int .u8 0,.int .u8 0,.int .u8 0,.int .u8 0,.int .u8 0,.int .u8 0,.int .u8 0,.int .u8 0,.int .u8 0] 180)).setCells wr.heap.size 0 (wrV x)).setCells b (x.1*16) (aY x.2))):=Below.setCells F.out ax _ _
   have an:Hid ((((wr.alloc (.cells #[(0:Int),.int .u8 0,.int .u8 0,.int .u8 0,.int .u8 0,.int .u8 0,.int .u8 0,.int .u8 0,.int .u8 0,.int .u8 0,.int .u8 0,.int .u8 0,.int .u8 0,.int .u8 0,.int .u8 0,.int .u8 0,.int .u8 0] 180)).setCells wr.heap.size 0 (wrV x)).setCells b (x.1*16) (aY x.2)).ownsRow w.heap.size 175 16 (.slice (some ⟨b,0,none⟩) d.fl.length l) d.fl.length (bM (f.set x.1 x.2))):=F9 H.out y b0.out x.1 x.2 E a5;have W:Hid (Bools ((wr.alloc (.cells #[(0:Int),.int .u8 0,.int .u8 0,.int .u8 0,.int .u8 0,.int .u8 0,.int .u8 0,.int .u8 0,.int .u8 0,.int .u8 0,.int .u8 0,.int .u8 0,.int .u8 0,.int .u8 0,.int .u8 0,.int .u8 0,.int .u8 0] 180)).setCells wr.heap.size 0 (wrV x)) D n a):=HK.out.below F.out
   by_cases ac:k<n
   .obtain⟨kb,ko,rfl,a2⟩:=W.out.2 k ac
    cases o:a.getD k false with
    | true =>
     rw[o] at a2;have C:Hid (dV d.pend a d.fl (k+1)=f.set x.1 x.2):=S.out o
     go_wp2_with (first
      | (refine wpList_load_mid (by rfl) 180 (.tmp 21) (by rfl) z (k*17) (by rfl) (wrV x) _ I.out underlying180 rfl J.out ?_)
      | (refine wpList_store_mid (by rfl) 180 (.tmp 7) (.tmp 22) (by rfl) wr.heap.size 0 (wrV x).toArray (by rfl) (by rfl) Q.out K.out M.out ?_)
      | (refine wpList_load_mid (by rfl) 175 (.tmp 36) (by rfl) wr.heap.size 1 (by rfl) (aY x.2) _ aR.out underlying175 rfl HJ.out ?_)
      | (refine wpList_store_mid (by rfl) 175 (.tmp 38) (.tmp 37) (by rfl) b (x.1*16) (aY x.2).toArray (by rfl) (by rfl) aq.out aL.out b2.out ?_))
     refine⟨⟨k+1,by omega,by go_num,?_,ar.out⟩,by simp[intOf];omega⟩
     rw[C.out];exact an.out
    | false =>
     rw[o] at a2;have C:Hid (dV d.pend a d.fl (k+1)=f):=L.out o
     go_wp2_with (first
      | (refine wpList_load_mid (by rfl) 180 (.tmp 21) (by rfl) z (k*17) (by rfl) (wrV x) _ I.out underlying180 rfl J.out ?_)
      | (refine wpList_store_mid (by rfl) 180 (.tmp 7) (.tmp 22) (by rfl) wr.heap.size 0 (wrV x).toArray (by rfl) (by rfl) Q.out K.out M.out ?_))
     refine⟨⟨k+1,by omega,by go_num,?_,F.out⟩,by simp[intOf];omega⟩
     rw[C.out];exact H.out
   .have o:a.getD k false=false:=by
     rw[ja5,jaf (by rw[W.out.1];omega)];rfl
    have C:Hid (dV d.pend a d.fl (k+1)=f):=L.out o
    go_wp2_with (first
      | (refine wpList_load_mid (by rfl) 180 (.tmp 21) (by rfl) z (k*17) (by rfl) (wrV x) _ I.out underlying180 rfl J.out ?_)
      | (refine wpList_store_mid (by rfl) 180 (.tmp 7) (.tmp 22) (by rfl) wr.heap.size 0 (wrV x).toArray (by rfl) (by rfl) Q.out K.out M.out ?_))
    refine⟨⟨k+1,by omega,by go_num,?_,F.out⟩,by simp[intOf];omega⟩
    rw[C.out];exact H.out
  .have aa:k=d.pend.length:=by omega
   subst aa;have bc:wr.cell? ⟨h.p,3,none⟩=some (.int .i64 (d.wr:Int)):=by rw[m.cell U];exact c3
   have A  := λx N=>(c.out.ok.l3 x N).2
   have G:=Aw d.pend a d.fl d.pend.length (ja1 _) c.out.ok.l1 A;have y:=rJ d.pend a d.fl d.pend.length;have a0:=Fb (g:=b) (cap:=l) (dV d.pend a d.fl d.pend.length) d.wr wr (by omega) (by omega) G af (by rw[y];exact R) m.size
   rw[y] at a0
   have HM:Hid (κ prog 97 #[.slice (some ⟨b,0,none⟩) d.fl.length l,(d.wr:Int)] wr λe t =>
    ∃ h:Hd,e=.returned h.p/\aO w.heap.size t h (DV.made (dV d.pend a d.fl d.pend.length) d.wr)/\β wr wr t/\h.bf=b/\wr.heap.size<=h.p/\wr.heap.size<=h.bs/\h.v2=.slice none 0 0):=a0
   have a6:Hid (β w w wr):=m;go_wp2_with fail
   refine HM.out.mono ?_;rintro e w5 ⟨r,rfl,av,aM,_⟩;have ae:Hid (aO w.heap.size w5 r (DV.made (dV d.pend a d.fl d.pend.length) d.wr)):=av;go_wp2
   go_ret
   exact⟨r,rfl,ae.out,a6.out.trans (aM.mono a6.out.size)⟩
def Kt(s:ByteArray):byteCells s=aY s.data.toList:=rfl
def Tz(w:ω)(g a:Nat)(s:ByteArray)(n cap:Nat)(b:List υ)(t:TypeId)(f:s.size=n)(d:w.heap[g]?=S (.cells b.toArray t (0,0)))(i:a+n<=b.length) :
  (Builtin.copy_ #[185,9] 3 #[.slice (S ⟨g,a,O⟩) n cap,s]).run prog w=.ok (.int .i64 (n:Int)) (w.setRow g (splice b a (aY s.data.toList)).toArray):=by
 subst f;have j:(aY s.data.toList).length=s.size:=by rw[ni];simp
 have h:∀ w:ω,(sizeOf 5).run prog w=.ok 1 w:=λ_=>by kernel_rfl
 have c:=firstCells_string (P:=prog) s w;rw[Kt] at c;simp[Builtin.copy_,run_underlying _,Builtin.lenOf,h,c,(run_storeCells_at (P:=prog) g a t (aY s.data.toList) 0 _ w d (by simp_all) (rY _)),goInt,splice]
def Vy{B:Nat}{h:Hd}{d:DV}(b:Int)(s:ByteArray)(w:ω)(hd:aO B w h d)(q:s.size=16)(k:d.has b=true)(i:d.fail=0) :
  κ prog 105 #[h.p,b,s] w λe a=>e=.returned (.iface 96 (.int .i64 7))/\aO B a h (d.failing (-1))/\Kept h.fp w a:=by
 have f:=Aq b w hd;rw[k] at f;have c:=MF w hd (by omega)
 rw[i] at c;have n:Hid _:=f;have l:Hid (κ prog 177 _ w λe a=>e=.returned _/\aO B a h _/\Kept h.fp w a):=c
 go_enter func105,ntmps105
 go_wp2_with fail
 refine cSt n.out ?_;go_wp2_with fail
 refine l.out.mono ?_;rintro e o ⟨rfl,g,j⟩;have m:Hid _:=g;go_wp2
 go_ret
 exact⟨rfl,m.out,j⟩
def KO(a:ω)(i:Nat)(s:ByteArray)(b:s.size=16) :
    (Builtin.copy_ #[185,9] 3 #[.slice (S ⟨a,1,O⟩) 16 16,s]).run prog (a.alloc (.cells #[(i:Int),.int .u8 0,.int .u8 0,.int .u8 0,.int .u8 0,.int .u8 0,.int .u8 0,.int .u8 0,.int .u8 0,.int .u8 0,.int .u8 0,.int .u8 0,.int .u8 0,.int .u8 0,.int .u8 0,.int .u8 0,.int .u8 0] 180)) =
      .ok (.int .i64 16) (a.alloc (.cells (wrV (i,s.data.toList)).toArray 180)):=by
  have:=Tz (a.alloc (.cells #[(i:Int),.int .u8 0,.int .u8 0,.int .u8 0,.int .u8 0,.int .u8 0,.int .u8 0,.int .u8 0,.int .u8 0,.int .u8 0,.int .u8 0,.int .u8 0,.int .u8 0,.int .u8 0,.int .u8 0,.int .u8 0,.int .u8 0] 180)) _ 1 s 16 16 _ 180 b (heap_alloc_new a _) (by simp)
  rw[this,jaX];have c:(aY s.data.toList).length=16:=by rw[ni];simpa using b
  congr 4
  simp[splice,wrV,c]
def TL(w:ω)(c:Array υ)(t:TypeId)(a:List υ)(h:c.size=a.length)(b:∀ v∈a,v.oneCell'=true):(w.alloc (.cells c t)).setCells w.heap.size 0 a=w.alloc (.cells a.toArray t):=by
 rw[Hu _ _ _ _ c t (heap_alloc_new w _) (by omega) b,jaX]
 congr 3
 simp[<- h]
def DV.wrote(d:DV)(i:Nat)(s:List UInt8):DV:={d with seen:=d.seen.set i s,pend:=d.pend++[(i,s)],wr:=d.wr+1}
theorem DV.ok.wrote{d:DV}(h:d.ok){i:Nat}{s:List UInt8}(c:i<d.fl.length)(b:s.length=16)(f:d.wr<1000000000):(d.wrote i s).ok:=by
 refine⟨h.n1,h.n2,?_,h.l1,λx a=>?_,λx a=>?_,?_,?_,h.f1,h.f2⟩
 .show(d.seen.set i s).length=_;rw[jah];exact h.same
 .rcases jaP a with q|q
  .exact h.l2 x q
  .simp_all
 .rcases List.mem_append.1 a with q|q
  .exact h.l3 x q
  .have:x=(i,s):=by simpa using q
   subst this;exact⟨c,b⟩
 .show(d.pend++[(i,s)]).length<=d.wr+1;have:=h.few;simp;omega
 .show d.wr+1<=_;omega
structure Mid(B:Nat)(w1 w3:ω)(h:Hd)(d:DV)(i:Nat)(s:List UInt8)(v:υ):Prop where
 bp:w3.heap[h.p]?=S (.cells #[.slice (S ⟨h.bf,0,O⟩) d.fl.length h.cf,.slice (S ⟨h.bs,0,O⟩) d.fl.length h.cs,v,(d.wr:Int),d.fail] 178 (0,0))
 bf:w3.heap[h.bf]?=w1.heap[h.bf]?
 bs:w3.heap[h.bs]?=w1.heap[h.bs]?
 bn:w3.heap[w1.heap.size]?=S (.cells (wrV (i,s)).toArray 180 (0,0))
 ow:w3.ownsRow B 180 17 v (d.pend.length+1) (iM (d.pend++[(i,s)]))
 at_:v.ownBlock=h.v2.ownBlock\/v.ownBlock=S (w1.heap.size+2)
 kept:Kept h.fp w1 w3
def O3{B:Nat}{a f:ω}{h:Hd}{d:DV}(hd:aO B a h d)(i:Nat)(s:List UInt8)(g cap:Nat)
  (m:f.ownsRow B 180 17 (.slice (S ⟨g,0,O⟩) (d.pend.length+1) cap) (d.pend.length+1) (iM d.pend++wrV (i,s)))
  (b:(((a.alloc (.cells (wrV (i,s)).toArray 180)).alloc (.cells (wrV (i,s)).toArray 180)).drew).grownBy f h.v2.ownBlock)
  (u:h.v2.ownBlock=S g\/g=a.heap.size+2):Mid B a (f.setCell ⟨h.p,2,O⟩ (.slice (S ⟨g,0,O⟩) (d.pend.length+1) cap)) h d i s (.slice (S ⟨g,0,O⟩) (d.pend.length+1) cap):=by
 obtain⟨x,y,z,o,A⟩:=hd.apart;have j:=hd.lt;have t:=(j h.p (.inl rfl)).2
 have w:∀ k,k<a.heap.size->(((a.alloc (.cells (wrV (i,s)).toArray 180)).alloc (.cells (wrV (i,s)).toArray 180)).drew).heap[k]?=a.heap[k]?:=λk c=>by
  show((a.alloc _).alloc _).heap[k]?=_
  rw[jal _ _ _ (by simp;omega),jal _ _ _ c]
 have G:(((a.alloc (.cells (wrV (i,s)).toArray 180)).alloc (.cells (wrV (i,s)).toArray 180)).drew).heap.size=a.heap.size+2:=by
  simp
 have l:∀ k,k<a.heap.size->h.v2.ownBlock≠S k->f.heap[k]?=a.heap[k]?:=λk c r=>by
  rw[b.block k (by omega) (jaG r),w k c]
 have C  := (l h.p t z).trans hd.blk;obtain⟨E,F,D,_⟩:=dQ m;have v:iM (d.pend++[(i,s)])=iM d.pend++wrV (i,s):=by simp[iM]
 refine⟨?_,?_,?_,?_,?_,?_,?_⟩
 .rw[heap_setCell_same f h.p 2 _ _ _ C];rfl
 .rw[heap_setCell_other _ _ _ _ x];exact l _ (j h.bf (.inr (.inl rfl))).2 o
 .rw[heap_setCell_other _ _ _ _ y];exact l _ (j h.bs (.inr (.inr (.inl rfl)))).2 A
 .rw[heap_setCell_other _ _ _ _ (show a.heap.size≠h.p by omega),b.block _ (by omega) (λe=>by
   have:=(j _ (.inr (.inr (.inr e.symm)))).2
   omega)]
  exact(heap_alloc2_old a _ _)
 .rw[v]
  exact aZ m (λk e=>by
   have:g=k:=by simpa [Value.ownBlock] using e
   subst this
   exact heap_setCell_other _ _ _ _ (λe=>by simp_all))
 .rcases u with q|q
  .left;rw[q];rfl
  .right;rw[q];rfl
 .refine⟨b.os,b.tape,b.output,?_,λk c n=>?_⟩
  .have:=b.size
   simp[World.setCell];omega
  .rw[heap_setCell_other _ _ _ _ (λe=>n (.inl e)),l k c (λe=>n (.inr (.inr (.inr e))))]
def Mid.reads{B:Nat}{b a:ω}{h:Hd}{d:DV}{i:Nat}{s:List UInt8}{v:υ}(m:Mid B b a h d i s v)(hd:aO B b h d)(o:i<d.fl.length) :
  a.cell? ⟨h.p,1,O⟩=S (.slice (S ⟨h.bs,0,O⟩) d.fl.length h.cs)/\a.rangeAt b.heap.size 1 (aY s)/\a.there h.bs (i*16) 16:=by
 refine⟨by rw[cell_of_row _ _ _ _ _ _ m.bp];rfl,(I5 (x:=(i,s)) (λj v f=>?_)).2,λj k=>?_⟩
 .rw[jan,cell_of_row _ _ _ _ _ _ m.bn];simpa using f
 .obtain⟨_,g,c,l,_,n,_⟩:=dQ hd.os
  rw[<- m.bs] at c;rw[cell_of_row _ _ _ _ _ _ c,frozen_of_row _ _ _ _ _ c];exact⟨by simp;omega,rfl⟩
def Mid.fin{B:Nat}{f a w4:ω}{h:Hd}{d:DV}{i:Nat}{s:List UInt8}{v:υ}(m:Mid B f a h d i s v)(hd:aO B f h d)(r:i<d.fl.length)(o:s.length=16)(y:d.wr<1000000000)
  (b:w4.heap=a.heap) (n:w4.os=a.os/\w4.tape=a.tape/\w4.output=a.output) :
  aO B ((w4.setCells h.bs (i*16) (aY s)).setCell ⟨h.p,3,O⟩ ((d.wr:Int)+1:Int)) {h with v2:=v} (d.wrote i s)/\Kept h.fp f ((w4.setCells h.bs (i*16) (aY s)).setCell ⟨h.p,3,O⟩ ((d.wr:Int)+1:Int)) /\
   (w4.setCells h.bs (i*16) (aY s)).cell? ⟨h.p,3,O⟩=S (.int .i64 (d.wr:Int))/\(w4.setCells h.bs (i*16) (aY s)).frozen? ⟨h.p,3,O⟩=false:=by
 obtain⟨C,t,F,I,H⟩:=hd.apart
 have l:(w4.setCells h.bs (i*16) (aY s)).heap[h.p]?=S (.cells #[.slice (S ⟨h.bf,0,O⟩) d.fl.length h.cf,.slice (S ⟨h.bs,0,O⟩) d.fl.length h.cs,v,(d.wr:Int),d.fail] 178 (0,0)):=by
  rw[heap_setCells_other _ _ (jaG t),b];exact m.bp
 have u:∀ k,v.ownBlock=S k->∃ j,a.heap[k]?=S _:=λk e=>by
  rcases m.ow.2 with⟨q,_⟩|⟨g,cap,j,q,_,w,_⟩
  .omega
  .rw[q] at e
   have:g=k:=by simpa [Value.ownBlock] using e
   subst this;exact⟨j,w⟩
 obtain⟨_,G,D,_⟩:=dQ hd.os
 have A:∀ k,v.ownBlock=S k->k≠h.bs:=λk e q=>by
  obtain⟨j,c⟩:=u k e;rw[q,m.bs,D] at c;cases c
 have vp:∀ k,v.ownBlock=S k->k≠h.p:=λk e q=>by
  obtain⟨j,c⟩:=u k e;rw[q,m.bp] at c;cases c
 have z  := aZ hd.os (λk e=>by
  have:h.bs=k:=by simpa [Value.ownBlock] using e
  subst this
  rw[b];exact m.bs)
 refine⟨⟨hd.ok.wrote r o y,hd.pB,?_,?_,?_,?_,hd.ne,λe=>by simp[DV.wrote] at e⟩,?_,by rw[cell_of_row _ _ _ _ _ _ l];rfl,frozen_of_row _ _ _ _ _ l⟩
 .rw[heap_setCell_same _ h.p 3 _ _ _ l];rfl
 .exact aZ hd.of (λk e=>by
   have:h.bf=k:=by simpa [Value.ownBlock] using e
   subst this
   rw[heap_setCell_other _ _ _ _ C,heap_setCells_other _ _ hd.ne,b];exact m.bf)
 .exact aZ (F9 z hd.ok.same hd.ok.l2 i s o r) (λk e=>by
   have:h.bs=k:=by simpa [Value.ownBlock] using e
   subst this
   exact heap_setCell_other _ _ _ _ t)
 .show World.ownsRow _ B 180 17 v (d.pend++[(i,s)]).length _
  rw[jak];exact aZ (aZ m.ow (λk _=>by rw[b])) (λk e=>by rw[heap_setCell_other _ _ _ _ (vp k e),heap_setCells_other _ _ (A k e)])
 .have E:Kept h.fp f w4:=⟨n.1.trans m.kept.os,n.2.1.trans m.kept.tape,n.2.2.trans m.kept.output,by rw[b];exact m.kept.size,λk x q=>by rw[b];exact m.kept.block k x q⟩
  exact(E.setCells (.inl (.inr (.inr (.inl rfl)))) _ _).setCell (.inl (.inl rfl)) _
def OM(a:List υ)(h:a.length=17):∃ b u m j g n t l s k o d c i r f q,a=[b,u,m,j,g,n,t,l,s,k,o,d,c,i,r,f,q]:=by
 match a,h with
 | [b,u,m,j,g,n,t,l,s,k,o,d,c,i,r,f,q],_=>exact⟨_,_,_,_,_,_,_,_,_,_,_,_,_,_,_,_,_,rfl⟩
def Vt{P:Program}{f:Array Oper}{g:List Oper}{b:Oper}{a:Act}{w:ω}{Q:Exit->Act->ω->Prop}(j:b.guard=O)(d t:TypeId)(x y:Operand)(k:b.op=.store d x y)
  (c cells:Array υ) (n:a.eval x=.pointer (S ⟨w,0,O⟩)) (l:a.eval y=.agg cells)
  (i:c.size=cells.size) (m:(P.info? d).map (·.size)=S cells.size) (o:∀ v∈cells.toList,v.oneCell'=true)
  (h:wpList P f Q g (a.put b.dst undef) (w.alloc (.cells cells t))):wpList P f Q (b::g) a (w.alloc (.cells c t)):=by
 refine wpList_store_mid j d x y k _ 0 _ n l (vS w c t _ i) m (by simp_all) ?_
 rw[TL w c t _ (by simpa using i) o]
 simpa using h
def Ja{B:Nat}{h:Hd}{b:DV}(i:Nat)(s:ByteArray)(w a:ω)(E:aO B a h b)(hB:B<=a.heap.size)(Q:s.size=16)(hi:i<b.fl.length)(hw:b.wr<1000000000)
  (HH:Hid (κ prog 150 #[h.p,(i:Int)] w λe w'=>e=.returned true/\w'=w))
  (HF:Hid (κ prog 177 #[h.p] w λe w'=>e=.returned false/\w'=a)) :
  κ prog 105 #[h.p,(i:Int),s] w λe w' =>
   ∃ v:υ,e=.returned .nilIface/\aO B w' {h with v2:=v} (b.wrote i s.data.toList)/\Kept h.fp a w'/\(v.ownBlock=h.v2.ownBlock\/v.ownBlock=some (a.heap.size+2)):=by
 have ai:((s.size:Int) != 16)=false:=by simp;omega
 have aa:s.data.toList.length=16:=by simpa using Q
 obtain⟨c0,c1,c2,c3,c4,fz⟩:=E.cells;obtain⟨i0,a3,a5,ab,Y⟩:=info_parts EO;have X:(wrV (i,s.data.toList)).length=17:=by rw[zi];simpa using Q
 have O:∀ u∈wrV (i,s.data.toList),u.oneCell'=true:=λu hu=>CS [(i,s.data.toList)] u (by simpa [iM] using hu)
 have V:h.p<a.heap.size:=(E.lt _ (.inl rfl)).2;have aD:=E.ok.few;have ag:=fz 2;have G:Hid (aO B a h b):=E
 have a9:∀ v∈([.int .i64 (i:Int),.int .u8 0,.int .u8 0,.int .u8 0,.int .u8 0,.int .u8 0,.int .u8 0,.int .u8 0,.int .u8 0,.int .u8 0,.int .u8 0,.int .u8 0,.int .u8 0,.int .u8 0,.int .u8 0,.int .u8 0,.int .u8 0]:List υ),v.oneCell'=true:=λv hv=>by
  simp only[List.mem_cons,List.not_mem_nil,or_false] at hv;rcases hv with rfl|rfl|rfl|rfl|rfl|rfl|rfl|rfl|rfl|rfl|rfl|rfl|rfl|rfl|rfl|rfl|rfl<;>rfl
 have T:=KO a i s Q;have HZ:Hid (∀ v∈(#[(i:Int),.int .u8 0,.int .u8 0,.int .u8 0,.int .u8 0,.int .u8 0,.int .u8 0,.int .u8 0,.int .u8 0,.int .u8 0,.int .u8 0,.int .u8 0,.int .u8 0,.int .u8 0,.int .u8 0,.int .u8 0,.int .u8 0]:Array υ).toList,v.oneCell'=true):=a9;have U:Hid ((prog.info? 180).map (·.size)=some (#[(i:Int),.int .u8 0,.int .u8 0,.int .u8 0,.int .u8 0,.int .u8 0,.int .u8 0,.int .u8 0,.int .u8 0,.int .u8 0,.int .u8 0,.int .u8 0,.int .u8 0,.int .u8 0,.int .u8 0,.int .u8 0,.int .u8 0]:Array υ).size):=Ik
 obtain⟨o,n,k,d,r,y,D,t,l,j,z,q,x,f,C,c,A,P⟩:=OM _ X;have N:Hid (wrV (i,s.data.toList)=[o,n,k,d,r,y,D,t,l,j,z,q,x,f,C,c,A]):=P;rw[P] at T O;have Z:Hid (∀ u∈[o,n,k,d,r,y,D,t,l,j,z,q,x,f,C,c,A],u.oneCell'=true):=O;have a6:Hid (b.pend.length+1<=maxLen):=by unfold Hid maxLen;omega
 have a1:Hid ((((a.alloc (.cells #[o,n,k,d,r,y,D,t,l,j,z,q,x,f,C,c,A] 180)).alloc (.cells #[o,n,k,d,r,y,D,t,l,j,z,q,x,f,C,c,A] 180)).drew).heap[a.heap.size+1]?=some (.cells #[o,n,k,d,r,y,D,t,l,j,z,q,x,f,C,c,A] 180 (0,0))):=heap_alloc2_new a _ _;have a2:Hid ((((a.alloc (.cells #[o,n,k,d,r,y,D,t,l,j,z,q,x,f,C,c,A] 180)).alloc (.cells #[o,n,k,d,r,y,D,t,l,j,z,q,x,f,C,c,A] 180)).drew).ownsRow B 180 17 h.v2 b.pend.length (iM b.pend)):=(E.op.alloc _).alloc _;have H:Hid ((((a.alloc (.cells #[o,n,k,d,r,y,D,t,l,j,z,q,x,f,C,c,A] 180)).alloc (.cells #[o,n,k,d,r,y,D,t,l,j,z,q,x,f,C,c,A] 180)).drew).heap.size=a.heap.size+2):=by unfold Hid;simp
 have ae:Hid (B<=(((a.alloc (.cells #[o,n,k,d,r,y,D,t,l,j,z,q,x,f,C,c,A] 180)).alloc (.cells #[o,n,k,d,r,y,D,t,l,j,z,q,x,f,C,c,A] 180)).drew).heap.size):=by unfold Hid;rw[H.out];omega
 have S:Hid (h.p<(((a.alloc (.cells #[o,n,k,d,r,y,D,t,l,j,z,q,x,f,C,c,A] 180)).alloc (.cells #[o,n,k,d,r,y,D,t,l,j,z,q,x,f,C,c,A] 180)).drew).heap.size):=by unfold Hid;rw[H.out];omega
 have L:Hid (some h.p≠h.v2.ownBlock):=jaG E.apart.2.2.1
 have ad:Hid ((((a.alloc (.cells #[o,n,k,d,r,y,D,t,l,j,z,q,x,f,C,c,A] 180)).alloc (.cells #[o,n,k,d,r,y,D,t,l,j,z,q,x,f,C,c,A] 180)).drew).cell? ⟨h.p,2,none⟩=some h.v2):=by
  unfold Hid;show((a.alloc (.cells #[o,n,k,d,r,y,D,t,l,j,z,q,x,f,C,c,A] 180)).alloc (.cells #[o,n,k,d,r,y,D,t,l,j,z,q,x,f,C,c,A] 180)).cell? ⟨h.p,2,none⟩=some h.v2
  rw[jas _ _ _ (by simp;omega),jas _ _ _ V];exact c2
 have ac:Hid ((((a.alloc (.cells #[o,n,k,d,r,y,D,t,l,j,z,q,x,f,C,c,A] 180)).alloc (.cells #[o,n,k,d,r,y,D,t,l,j,z,q,x,f,C,c,A] 180)).drew).frozen? ⟨h.p,2,none⟩=false):=by
  unfold Hid;show((a.alloc (.cells #[o,n,k,d,r,y,D,t,l,j,z,q,x,f,C,c,A] 180)).alloc (.cells #[o,n,k,d,r,y,D,t,l,j,z,q,x,f,C,c,A] 180)).frozen? ⟨h.p,2,none⟩=false
  rw[jaS _ _ _ (by simp;omega),jaS _ _ _ V];exact ag
 clear E fz P X O a9 c0 c1 c3 c4;go_enter func105,ntmps105
 go_wp2_with fail
 refine cEq HH.out λw' a8=>?_
 have an:=a8.symm;subst an;clear a8;go_wp2_with fail
 refine cSt HF.out ?_;clear HH HF ai;go_wp2_with (refine Vt (by rfl) 180 180 (.tmp 7) (.tmp 22) (by rfl) _ #[(i:Int),.int .u8 0,.int .u8 0,.int .u8 0,.int .u8 0,.int .u8 0,.int .u8 0,.int .u8 0,.int .u8 0,.int .u8 0,.int .u8 0,.int .u8 0,.int .u8 0,.int .u8 0,.int .u8 0,.int .u8 0,.int .u8 0] (by rfl) (by rfl) rfl U.out HZ.out ?_)
 clear T HZ U;go_region_law (refine step_append_lies _ (by rfl) _ _ 176 (by rfl) B 180 i0 CX 17 24 underlying176 a3 a5 ab Y rfl (by decide) h.v2 b.pend.length (iM b.pend) (by rfl) a2.out ⟨a.heap.size+1,0,none⟩ 1 1 [o,n,k,d,r,y,D,t,l,j,z,q,x,f,C,c,A] (by rfl) (by rfl) (jbu a1.out) Z.out (by decide) a6.out (by omega) ae.out (a.heap.size+2) H.out ?_;intro g cap R a4 J a7 ao;have q2:=(J.cell_far ⟨h.p,2,none⟩ S.out L.out).trans ad.out;have q3:=(J.frozen_far ⟨h.p,2,none⟩ S.out L.out).trans ac.out)
 all_goals
  clear q2 q3;go_wp2_with fail
  have m:Mid B a (R.setCell ⟨h.p,2,none⟩ (.slice (some ⟨g,0,none⟩) (b.pend.length+1) cap)) h b i s.data.toList (.slice (some ⟨g,0,none⟩) (b.pend.length+1) cap) :=
   O3 G.out i s.data.toList g cap (by rw[N.out];exact a4) (by rw[N.out];exact J) a7
  have M:Hid (Mid B a (R.setCell ⟨h.p,2,none⟩ (.slice (some ⟨g,0,none⟩) (b.pend.length+1) cap)) h b i s.data.toList (.slice (some ⟨g,0,none⟩) (b.pend.length+1) cap)):=m;clear m a4 J a7 ao a6 a1 a2 H ae S L ad ac Z N c2 ag a3 a5 ab Y;generalize R.setCell ⟨h.p,2,none⟩ (.slice (some ⟨g,0,none⟩) (b.pend.length+1) cap)=I at M |-;obtain⟨s1,s2,s3⟩:=M.out.reads G.out hi;have af:(aY s.data.toList).length=16:=by rw[ni];exact aa
  have ar:=rY s.data.toList;have az:=underlying175;have aq:(prog.info? 175).map (·.size)=some (aY s.data.toList).length:=by rw[af];exact Cb
  have av:(0:Int)<=(i:Int):=by omega
  have ax:(i:Int)<(b.fl.length:Int):=by omega
  have am:h.p≠h.bs:=jaG G.out.apart.2.1;have aw:a.heap.size≠h.bs:=by have:=(G.out.lt h.bs (.inr (.inr (.inl rfl)))).2;omega
  obtain⟨F,K⟩:∃ F,F=aY s.data.toList:=⟨_,rfl⟩;have al:Hid (F=aY s.data.toList):=K;rw[<- K] at s2 af ar aq;clear K
  go_region_held3 (λw'=>w'.cell? ⟨h.p,1,none⟩=some (.slice (some ⟨h.bs,0,none⟩) b.fl.length h.cs)/\w'.rangeAt a.heap.size 1 F/\w'.there h.bs (i*16) 16)
   ((go_split_ands;(try simp only[World.rangeAt_drew,World.there_drew] at *);refine⟨?_,?_,?_⟩<;>first|assumption|(apply World.there_setCells;assumption)|(refine World.rangeAt_setCells_apart (by assumption) _ _ _ (by omega))|(rw[World.cell?_setCells_out _ _ _ _ _ (λe=>absurd e am)];assumption)))
   (fail)
  have a0:=M.out.fin (w4:=I.drew) G.out hi aa hw rfl ⟨rfl,rfl,rfl⟩;rw[<- al.out] at a0;obtain⟨f1,f2,f3,f4⟩:=a0;have ap:Hid ((Value.slice (some ⟨g,0,none⟩) (b.pend.length+1) cap).ownBlock=h.v2.ownBlock\/(Value.slice (some ⟨g,0,none⟩) (b.pend.length+1) cap).ownBlock=some (a.heap.size+2)):=M.out.at_;have F1:Hid (aO B ((I.drew.setCells h.bs (i*16) F).setCell ⟨h.p,3,none⟩ ((b.wr:Int)+1:Int)) {h with v2:=.slice (some ⟨g,0,none⟩) (b.pend.length+1) cap} (b.wrote i s.data.toList)):=f1
  have W:Hid (Kept h.fp a ((I.drew.setCells h.bs (i*16) F).setCell ⟨h.p,3,none⟩ ((b.wr:Int)+1:Int))):=f2;generalize I.drew.setCells h.bs (i*16) F=w5 at F1 W f3 f4 |-;go_wp2
  go_ret
  exact⟨_,rfl,F1.out,W.out,ap.out⟩
def DV.iJ(d:DV):DV:=if d.fail = -1 then d else d.failing (d.fail-1)
def DV.IC(d:DV):d.iJ.fl=d.fl:=by unfold DV.iJ;split<;>rfl
def DV.IE(d:DV):d.iJ.wr=d.wr:=by unfold DV.iJ;split<;>rfl
def MG{B:Nat}{h:Hd}{d:DV}(w:ω)(hd:aO B w h d)(g:0<d.fail) :
  κ prog 177 #[h.p] w λe a=>e=.returned false/\a=w.setCell ⟨h.p,4,O⟩ (d.fail-1:Int):=by
 obtain⟨i,c1,c2,c3,c4,c⟩:=hd.cells;have f:=hd.ok.f2;have b:Hid ((d.fail-1 == -1)=false):=beq_eq_false_iff_ne.2 (by omega)
 go_enter func177,ntmps177
 go_wp2
 go_ret
 exact⟨pG b.out,rfl⟩
def Vz{B:Nat}{h:Hd}{d:DV}(i:Nat)(s:ByteArray)(w:ω)(hd:aO B w h d)(q:B<=w.heap.size)(m:s.size=16)(n:i<d.fl.length)(l:d.wr<1000000000)(r:d.fail≠0) :
  κ prog 105 #[h.p,(i:Int),s] w λe g =>
   ∃ v:υ,e=.returned .nilIface/\aO B g {h with v2:=v} (d.iJ.wrote i s.data.toList)/\Kept h.fp w g/\∀ k,v.ownBlock=S k->h.v2.ownBlock=S k\/w.heap.size<=k:=by
 have o:Hid (κ prog 150 #[h.p,(i:Int)] w λe g=>e=.returned true/\g=w):=by
  have:=Aq (i:Int) w hd
  rw[show d.has (i:Int)=true by unfold DV.has;simp;omega] at this
  exact this
 by_cases j:d.fail = -1
 .have e:d.iJ=d:=by unfold DV.iJ;rw[if_pos j]
  rw[e];refine(Ja i s w w hd q m n l o (MC w hd j)).mono ?_;rintro e g ⟨v,rfl,a,b,c⟩;exact⟨v,rfl,a,b,λk f=>by rcases c with c|c<;>rw[c] at f;exact .inl f;right;simp at f;omega⟩
 .have t:=hd.ok.f1
  have u:=hd.ok.f2;have e:d.iJ=d.failing (d.fail-1):=by unfold DV.iJ;rw[if_neg j]
  rw[e];have x:(w.setCell ⟨h.p,4,O⟩ (d.fail-1:Int)).heap.size=w.heap.size:=by simp_all
  refine(Ja i s w (w.setCell _ (.int _ (d.fail-1))) (hd.failing (by omega) (by omega)) (by omega) m n l o (MG w hd (by omega))).mono ?_
  rintro e g ⟨v,rfl,a,b,c⟩;refine⟨v,rfl,a,((Kept.refl _ w).setCell (.inl (.inl rfl)) _).trans b,λk f=>?_⟩
  rcases c with c|c<;>rw[c] at f
  .exact .inl f
  .right;simp at f;omega
def chunk(s:ByteArray)(i:Nat):List UInt8:=(s.data.toList.drop (i*16)).take 16
def KC(s:ByteArray)(n i:Nat)(a:s.size=n*16)(b:i<n):(chunk s i).length=16:=by
 have:s.data.toList.length=n*16:=by simpa using a
 simp only[chunk,jaI,List.length_drop];omega
