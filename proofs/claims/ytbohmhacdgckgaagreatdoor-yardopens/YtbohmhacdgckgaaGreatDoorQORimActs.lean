/- The document's set and bucket where they lie within a job: the same calls, at their places in the job's block. -/
import Derived.Test.YtbohmhacdgckgaaGreatDoorQOJobDefs
set_option linter.all false
set_option maxHeartbeats 1000000
set_option maxRecDepth 100000
namespace Go.Proofs.YtbohmhacdgckgaaGreatDoor
open Go.RowKit renaming Below->β
open Go renaming World->ω, Value->υ, Calls->κ
open Option renaming none->O, some->S
open Go.Proofs.Tryz Go.RowKit Go.Maps
attribute [local go_sem ↓] Go.wp_at_zero Go.wp_at_succ
namespace S4
structure uJ(w:ω)(q n x:Nat):Prop where
 n8:w.cell? ⟨q,8,O⟩=S (.int .i64 (n:Int))
 bit:∀ j,j<64->w.cell? ⟨q,9+j,O⟩=S (.bool (x.testBit j))/\w.frozen? ⟨q,9+j,O⟩=false
def Gl{q n x:Nat}(i:Int)(w:ω)(h:uJ w q n x) :
  κ prog 233 #[.pointer (S ⟨q,8,O⟩),i] w λe c=>e=.returned (.bool (gG n i))/\c=w:=by
 have d:=h.n8;by_cases b:0<=i
 .have a:Hid (decide (i<(n:Int))=gG n i):=by unfold Hid gG;simp[b]
  go_enter func233,ntmps233
  go_wp2
  go_ret
  exact⟨ng a.out,rfl⟩
 .have a:Hid (false=gG n i):=by unfold Hid gG;simp[b]
  go_enter func233,ntmps233
  go_wp2
  go_ret
  exact⟨ng a.out,rfl⟩
def Gj{q n x:Nat}(w:ω)(h:uJ w q n x) :
  κ prog 208 #[.pointer (S ⟨q,8,O⟩)] w λe r=>e=.returned (.int .i64 (cnt x 64:Nat))/\r=w:=by
 obtain⟨j,d⟩:∃ j,cnt x 64=j:=⟨_,rfl⟩;rw[d];go_enter func208,ntmps208
 go_wp2
 go_loop [3,4] (λc i=>∃(k a:Nat),k<=64/\i=.int .i64 k/\c=.int .i64 (a:Nat)/\cnt x k=a) (λ_ i=>64-(intOf i).toNat)
 case atStart=>exact⟨0,0,ja5 _,rfl,rfl,rfl⟩
 case round =>
  obtain⟨k,a,v,rfl,rfl,g⟩:=hrel;have s:=cnt_le x k;rw[g] at s;have l:=ah g;by_cases o:k<64
  .obtain⟨c1,_⟩:=h.bit k o
   have t:(0:Int)<=(k:Int):=by omega
   have u:(k:Int)<64:=by omega
   have b:Hid (cnt x (k+1)=a+if x.testBit k then 1 else 0):=by
    unfold Hid;show cnt x k+_=_
    rw[l.out]
   cases f:x.testBit k with
   | true =>
    rw[f] at c1 b;go_wp2
    go_round
    case rel=>exact⟨k+1,a+1,by omega,by go_num,by go_num,b.out⟩
    case measure=>simp[intOf];omega
   | false =>
    rw[f] at c1 b;go_wp2
    go_round
    case rel=>exact⟨k+1,a,by omega,by go_num,rfl,b.out⟩
    case measure=>simp[intOf];omega
  .have m:k=64:=by omega
   subst m;have e  := d.symm.trans l.out;subst e;go_wp2
   go_ret
   exact⟨rfl,rfl⟩
def Bz{q n x:Nat}(c:List Nat)(N:jd x c)(f:Int)(w:ω)(h:uJ w q n x)(L:jw n x) :
    κ prog 205 #[.pointer (some ⟨q,8,none⟩),f] w λe M=>e=.returned (.tuple #[mZ c f,.bool (nX c)])/\M=w:=by
  have D:=ah h;have s:=ah N;have H:=ah L;have U:=h.n8;have W:=L.n1;obtain⟨F,J⟩:∃ F,mZ c f=F:=⟨_,rfl⟩;obtain⟨u,I⟩:∃ u,nX c=u:=⟨_,rfl⟩;rw[J,I];have t:=ah J;have y:=ah I;go_enter func205,ntmps205
  go_wp2_with fail
  go_loop [6] (λi=>∃ v:Int,i=.int .i64 v/\f<=v/\(v=f\/(0<=f/\v<=(n:Int)))/\∀ j:Nat,f<=(j:Int)->(j:Int)<v->x.testBit j=false) (λi=>64-(intOf i).toNat)
  case atStart=>exact⟨f,rfl,jb4 _,.inl rfl,λj d r=>by omega⟩
  case round =>
    obtain⟨v,rfl,P,V,B⟩:=hrel;have b:=ah B;have l:=Gl v w D.out
    cases g:gG n v with
    | true =>
      rw[g] at l;obtain⟨k,rfl,O⟩:=AQ g;obtain⟨c1,_⟩:=D.out.bit k (by omega)
      have R:(0:Int)<=(k:Int):=by omega
      have S:(k:Int)<64:=by omega
      cases a:x.testBit k with
      | true =>
        rw[a] at c1;obtain⟨C,A⟩:=Ph s.out (by omega) a P (λj d r=>b.out j d (by omega))
        have m  := t.out.symm.trans C;have o  := y.out.symm.trans A;subst m o;go_wp2_with fail
        refine cSt l ?_;go_wp2
        go_ret2
        exact⟨rfl,rfl⟩
      | false =>
        rw[a] at c1
        have z:Hid (∀ j:Nat,f<=(j:Int)->(j:Int)<(k:Int)+1->x.testBit j=false):=λj d r=>by
          by_cases e:j=k
          . subst e;exact a
          . exact b.out j d (by omega)
        go_wp2_with fail
        refine cSt l ?_;go_wp2
        go_round
        case rel=>exact⟨(k:Int)+1,by go_num,by omega,by omega,z.out⟩
        case measure=>simp[intOf];omega
    | false =>
      rw[g] at l
      have K:Hid (mZ c f=((c.headD 0:Nat):Int)):=by
        refine Pm s.out ?_;by_cases Q:f<0
        . exact .inl Q
        . refine .inr (λj d r=>?_)
          by_cases E:(j:Int)<v
          . exact b.out j d E
          . have:n<=j:=by
              unfold gG at g;simp at g
              have:=g (by omega)
              omega
            exact H.out.hi j this
      go_wp2_with fail
      refine cSt l ?_;go_wp2_with fail
      go_loop [7] (λi=>∃ k:Nat,k<=n/\i=.int .i64 k/\∀ j:Nat,j<k->x.testBit j=false) (λi=>64-(intOf i).toNat)
      case atStart=>exact⟨0,ja5 _,rfl,λj E=>by omega⟩
      case round =>
        obtain⟨k,O,rfl,B⟩:=hrel;have b:=ah B;by_cases T:k<n
        . obtain⟨c1,_⟩:=D.out.bit k (by omega)
          have R:(0:Int)<=(k:Int):=by omega
          have S:(k:Int)<64:=by omega
          have g1  := decide_eq_true (by omega)
          cases a:x.testBit k with
          | true =>
            rw[a] at c1;obtain⟨C,A⟩:=NH s.out (by omega) a b.out
            have m  := t.out.symm.trans (K.out.trans (by rw[C]))
            have o  := y.out.symm.trans A;subst m o;go_wp2
            go_ret2
            exact⟨rfl,rfl⟩
          | false =>
            rw[a] at c1
            have z:Hid (∀ j:Nat,j<k+1->x.testBit j=false):=λj r=>by
              by_cases e:j=k
              . subst e;exact a
              . exact b.out j (by omega)
            go_wp2
            go_round
            case rel=>exact⟨k+1,by omega,by go_num,z.out⟩
            case measure=>simp[intOf];omega
        . have g1  := decide_eq_false (by omega)
          have G  := Pq s.out (λj E=>by
            by_cases q:j<n
            . exact b.out j (by omega)
            . exact H.out.hi j (by omega))
          have m:F=0:=t.out.symm.trans (K.out.trans (by rw[G];rfl))
          have o:u=false:=y.out.symm.trans (by rw[G];rfl)
          subst m o;go_wp2
          go_ret2
          exact⟨rfl,rfl⟩
def BA{q n x:Nat}(i:Int)(b:Bool)(w:ω)(h:uJ w q n x)(s:n<=64) :
  κ prog 182 #[.pointer (S ⟨q,8,O⟩),i,b] w λe j=>e=.returned (.bool (fK n x i b))/\j=if fK n x i b=true then w.setCell ⟨q,9+i.toNat,O⟩ b else w:=by
 have d:=Gl i w h
 cases c:gG n i with
 | false =>
  rw[c] at d;have l:fK n x i b=false:=by unfold fK;simp[c]
  rw[l,if_neg (by simp)]
  go_enter func182,ntmps182
  go_wp2_with fail
  refine cSt d ?_;go_wp2
  go_ret
  exact⟨rfl,rfl⟩
 | true =>
  obtain⟨k,rfl,v⟩:=AQ c;rw[c] at d;obtain⟨c1,u⟩:=h.bit k (by omega)
  have o:(0:Int)<=(k:Int):=by omega
  have t:(k:Int)<64:=by omega
  have g:fK n x (k:Int) b=(x.testBit k != b):=by unfold fK hasB;rw[c];simp
  generalize r:x.testBit k=a at c1 g
  cases f:(a != b) with
  | false =>
   have m:(a==b)=true:=by revert f;cases a<;>cases b<;>simp
   rw[(g.trans f),if_neg (by simp)]
   go_enter func182,ntmps182
   go_wp2_with fail
   refine cSt d ?_;go_wp2
   go_ret
   exact⟨rfl,rfl⟩
  | true =>
   have m:(a==b)=false:=by revert f;cases a<;>cases b<;>simp
   rw[(g.trans f),if_pos rfl,show((k:Int)).toNat=k from rfl]
   go_enter func182,ntmps182
   go_wp2_with fail
   refine cSt d ?_;go_wp2
   go_ret
   exact⟨rfl,rfl⟩
def jU(t:TypeId)(a:Array υ)(w:ω)(q:Nat)(r b l:Int):Prop:=w.heap[q]?=S (.cells (a.setIfInBounds 77 (.int .i64 l)) t (0,0))/\a.size=78/\a[75]?=S (r:υ)/\a[76]?=S (b:υ)
def jU.cells{t:TypeId}{c:Array υ}{w:ω}{q:Nat}{r b l:Int}(h:jU t c w q r b l) :
  w.cell? ⟨q,75,O⟩=S (r:υ)/\w.cell? ⟨q,76,O⟩=S (b:υ)/\w.cell? ⟨q,77,O⟩=S (l:υ)/\w.frozen? ⟨q,77,O⟩=false:=by
 obtain⟨a,d,g,f⟩:=h;refine⟨?_,?_,?_,?_⟩
 .simp[World.cell?,a,g]
 .simp[World.cell?,a,f]
 .simp[World.cell?,a,d]
 .simp[World.frozen?,a]
def jU.set{t:TypeId}{a:Array υ}{w:ω}{q:Nat}{r b l:Int}(h:jU t a w q r b l)(c:Int):jU t a (w.setCell ⟨q,77,O⟩ c) q r b c:=by
 obtain⟨f,d⟩:=h;refine⟨?_,d⟩;rw[heap_setCell_same w q 77 _ _ _ f];simp
theorem jU.drew{t:TypeId}{a:Array υ}{w:ω}{q:Nat}{r b l:Int}(h:jU t a w q r b l):jU t a w.drew q r b l:=h
def sO.set{a w:ω}{q:Nat}{u:υ}(h:Kept (λk=>k=q) a w):Kept (λk=>k=q) a (w.setCell ⟨q,77,O⟩ u):=Kept.setCell  h  (.inl rfl) _
def QH{t:TypeId}{d:Array υ}{q:Nat}{r b l:Int}(n:Nat)(w:ω)(h:jU t d w q r b l)(K:n<=100000)(u:0<=r/\r<=1000)(B:0<=l/\l<=b)(F:b<=1000) :
  κ prog 135 #[.pointer (S ⟨q,75,O⟩),(n:Int)] w λe m=>(∃ v,e=.returned v)/\jU t d m q r b (fQ r b l n)/\Kept (λk=>k=q) w m:=by
 have z:fQ r b l ((0:Nat):Int)=l:=by unfold fQ;simp;omega
 have C:Hid (jU t d w q r b (fQ r b l ((0:Nat):Int))):=by rw[z];exact h
 go_enter func135,ntmps135
 go_wp2_with fail
 go_loopw [4] (λi wr=>∃ k:Nat,k<=n/\i=.int .i64 k/\jU t d wr q r b (fQ r b l k)/\Kept (λk=>k=q) w wr) (λi _=>n-(intOf i).toNat)
 case atStart=>exact⟨0,ja5 _,rfl,C.out,Kept.refl _ _⟩
 case round =>
  obtain⟨k,H,rfl,y,D⟩:=hrel;have c:Hid (jU t d wr q r b (fQ r b l k)):=y;have a:Hid (Kept (λk=>k=q) w wr):=D
  have A:=CB (r:=r) (b:=b) (l:=l) (n:=(k:Int)) u.1 B.1 (by omega) (by omega)
  have g:Hid ((k:Int)=n\/b<=fQ r b l k\/r<=0->fQ r b l k=fQ r b l n):=U0 u.1 (by omega)
  have x:Hid (fQ r b l k<b->(if fQ r b l k+r<b then fQ r b l k+r else b)=fQ r b l ((k:Int)+1)):=U1
  obtain⟨J,c1,c2,G⟩:=y.cells;generalize L:fQ r b l k=v at c A g x c2;by_cases E:k<n
  .by_cases j:v<b
   .have g2  := decide_eq_true j
    by_cases s:0<r
    .have g3  := decide_eq_true s
     have I:IntKind.i64.wrap (v+r)=v+r:=ja7 _ (by omega)
     have f:=ah (x.out j);by_cases o:v+r<b
     .rw[if_pos o] at f
      as_aux_lemma =>
       go_wp2_with fail
       go_region
       go_wp2_with fail
       go_region
       go_wp2
       go_roundw
       case rel=>exact⟨k+1,by omega,by go_num,by rw[show((k+1:Nat):Int)=(k:Int)+1 by omega,<- f.out];first|exact(c.out.set _)|exact(c.out.drew.set _).drew|(rw[show min b (v+r)=v+r by omega];exact(c.out.drew.set _).drew),by first|exact sO.set a.out|exact(sO.set a.out).drew|exact(sO.set a.out.drew).drew⟩
       case measure=>simp[intOf];omega
     .rw[if_neg o] at f
      as_aux_lemma =>
       go_wp2_with fail
       go_region
       go_wp2_with fail
       go_region
       go_wp2
       go_roundw
       case rel=>exact⟨k+1,by omega,by go_num,by rw[show((k+1:Nat):Int)=(k:Int)+1 by omega,<- f.out];first|exact(c.out.set _)|exact(c.out.drew.set _).drew|(rw[show min b (v+r)=b by omega];exact(c.out.drew.set _).drew),by first|exact sO.set a.out|exact(sO.set a.out).drew|exact(sO.set a.out.drew).drew⟩
       case measure=>simp[intOf];omega
    .have g3  := decide_eq_false s
     as_aux_lemma =>
      go_wp2_with fail
      go_region
      go_wp2
      go_end0
      exact⟨⟨_,rfl⟩,by rw[<- (g.out (.inr (.inr (by omega))))];exact c.out,by first|exact a.out|exact a.out.drew⟩
   .have g2  := decide_eq_false j
    as_aux_lemma =>
     go_wp2_with fail
     go_region
     go_wp2
     go_end0
     exact⟨⟨_,rfl⟩,by rw[<- (g.out (.inr (.inl (by omega))))];exact c.out,by first|exact a.out|exact a.out.drew⟩
  .as_aux_lemma =>
    go_wp2_with fail
    go_region
    go_wp2
    go_end0
    exact⟨⟨_,rfl⟩,by rw[<- (g.out (.inl (by omega)))];exact c.out,by first|exact a.out|exact a.out.drew⟩
def Gi{t:TypeId}{c:Array υ}{p:Nat}{r b l:Int}(n:Int)(w:ω)(h:jU t c w p r b l)(g:0<=l/\l<=1000) :
  κ prog 206 #[.pointer (some ⟨p,75,O⟩),n] w λe f=>e=.returned (.bool (inB n l))/\jU t c f p r b (jq l n)/\Kept (λk=>k=p) w f:=by
 have d:Hid (jU t c w p r b l):=h;obtain⟨m,c1,c2,j⟩:=h.cells;by_cases o:n<0
 .have a:inB n l=false:=by unfold inB;simp;omega
  have HV:Hid (jq l n=l):=by unfold Hid jq;simp[a]
  rw[a];go_enter func206,ntmps206
  go_wp2
  go_ret
  exact⟨rfl,by rw[HV.out];exact d.out,Kept.refl _ w⟩
 .by_cases i:l<n
  .have a:inB n l=false:=by unfold inB;simp;omega
   have HV:Hid (jq l n=l):=by unfold Hid jq;simp[a]
   rw[a];go_enter func206,ntmps206
   go_wp2
   go_ret
   exact⟨rfl,by rw[HV.out];exact d.out,Kept.refl _ w⟩
  .have a:inB n l=true:=by unfold inB;simp;omega
   have HV:Hid (jq l n=l-n):=by unfold Hid jq;simp[a]
   have q:IntKind.i64.wrap (l-n)=l-n:=ja7 _ (by omega)
   rw[a];go_enter func206,ntmps206
   go_wp2
   go_ret
   exact⟨rfl,by rw[HV.out];exact d.out.set _,Kept.setCell (S:=λk=>k=p) (Kept.refl _ w)  (.inl rfl) _⟩
end S4
def Rz{B:Nat}{q:Rh}{d:DV}(i:Nat)(s:ByteArray)(w:ω)(hd:dA B w q d)(hB:B<=w.heap.size)(hs:s.size=16)(hi:i<d.fl.length)(hf:d.fail≠0)(aM : -1<=d.fail)(aL:d.fail<=9223372036854775807)(hp:d.pend.length<=d.wr)(hw:d.wr<1000000000) :
    κ prog 109 #[q.p,(i:Int),s] w λe P =>
      ∃ t:Rh,e=.returned (0:Int)/\t.p=q.p/\dA B P t (d.iJ.wrote i s.data.toList)/\Kept q.fp w P/\(∀ r,t.v1.ownBlock=some r->q.v1.ownBlock=some r\/w.heap.size<=r)/\t.bf=q.bf/\∀ r,t.v2.ownBlock=some r->q.v2.ownBlock=some r\/w.heap.size<=r:=by
  obtain⟨c0,c1,c2,c3,c4,v⟩:=hd.cells;have aR:=v 1;have aE:=v 2;have ax:=v 3;have aD:=v 4;have g0:decide ((i:Int)<0)=false:=by simp
  have g1:decide ((d.fl.length:Int)<=(i:Int))=false:=by simp;omega
  have av:((s.size:Int) != 16)=false:=by simp;omega
  have g3:(d.fail==0)=false:=beq_eq_false_iff_ne.2 hf;obtain⟨i1,a9,a6,al,W⟩:=info_parts tN;obtain⟨X,a0,a8,Y,af⟩:=info_parts uS;obtain⟨az,Z,a3,ar,aw⟩:=hd.apart;have aq:q.p<w.heap.size:=(hd.lt q.p (.inl rfl)).2;have L:Hid (d.pend.length+1<=maxLen):=by unfold Hid maxLen;omega
  obtain⟨D,f⟩:∃ D,D=d.iJ:=⟨_,rfl⟩;rw[<- f];by_cases S:d.fail = -1
  have l:d.iJ=d:=by unfold DV.iJ;rw[if_pos S]
  have g4:decide (0<d.fail)=false:=by simp;omega
  have c:Hid (eH B w q d.fl d.pend.length (atS d.pend) d.pend.length (whS d.pend) D.fail (d.wr:Int)):=by rw[f,l];exact hd.inn
  have T:Hid (∀ j y,([.int .i64 (i:Int)]:List υ)[j]?=some y->(w.alloc (.cells #[(i:Int)] 3)).cell? ((⟨w.heap.size,0,none⟩:Addr).add j)=some y):=cell_one_new _ _ _;have J:Hid (Kept q.fp w (w.alloc (.cells #[(i:Int)] 3))):=(Kept.refl _ _).alloc _;have E:Hid ((w.alloc (.cells #[(i:Int)] 3)).heap.size=w.heap.size+1):=by unfold Hid;simp
  have U:Hid (D.fl=d.fl/\D.pend=d.pend/\D.wr=d.wr):=by rw[f,l];exact⟨rfl,rfl,rfl⟩
  rotate_left
  have l:d.iJ=d.failing (d.fail-1):=by unfold DV.iJ;rw[if_neg S]
  have g4:decide (0<d.fail)=true:=by simp;omega
  have c:Hid (eH B (w.setCell ⟨q.p,3,none⟩ (d.fail-1:Int)) q d.fl d.pend.length (atS d.pend) d.pend.length (whS d.pend) D.fail (d.wr:Int)):=by rw[f,l];exact(hd.failing (d.fail-1)).inn
  have T:Hid (∀ j y,([.int .i64 (i:Int)]:List υ)[j]?=some y->((w.setCell ⟨q.p,3,none⟩ (d.fail-1:Int)).alloc (.cells #[(i:Int)] 3)).cell? ((⟨w.heap.size,0,none⟩:Addr).add j)=some y):=FT _ _ _ _ _;have J:Hid (Kept q.fp w ((w.setCell ⟨q.p,3,none⟩ (d.fail-1:Int)).alloc (.cells #[(i:Int)] 3))):=((Kept.refl _ _).setCell (.inl (.inl rfl)) _).alloc _;have E:Hid (((w.setCell ⟨q.p,3,none⟩ (d.fail-1:Int)).alloc (.cells #[(i:Int)] 3)).heap.size=w.heap.size+1):=by unfold Hid;simp[World.setCell]
  have U:Hid (D.fl=d.fl/\D.pend=d.pend/\D.wr=d.wr):=by rw[f,l];exact⟨rfl,rfl,rfl⟩
  all_goals
    have a5:=ah (c.out.o1.alloc (.cells #[(i:Int)] 3));have ae:=ah c.out.cells.1;have an:=ah c.out.cells.2.1;have a7:=ah c.out.cells.2.2.1;have a4:=ah (ja4 hB J.out.size);clear hd v l f;go_enter func109,ntmps109
    go_wp2_with (first
      | (at_builtin;refine wpList_append_lies _ (by rfl) _ _ 88 (by rfl) B 3 i1 (.int .i64 0) 1 8 underlying88 a9 a6 al W rfl (by decide) q.v1 d.pend.length (atS d.pend) (by rfl) a5.out ⟨w,0,none⟩ 1 1 [(i:Int)] (by rfl) (by rfl) T.out (λu n=>by simp at n;subst n;rfl) (by decide) L.out (by omega) a4.out (w.heap.size+1) E.out ?_
         intro g k a N A Q aa;have b:=λj=>c.out.grow A Z j
         have z1:=(b 1).1.trans ae.out;have z2:=(b 2).1.trans an.out;have z4:=(b 4).1.trans a7.out;have f1:=(b 1).2;have f2:=(b 2).2;have f4:=(b 4).2;have x:Hid (eH B (a.setCell ⟨q.p,1,none⟩ (.slice (some ⟨g,0,none⟩) (d.pend.length+1) k)) {q with v1:=(.slice (some ⟨g,0,none⟩) (d.pend.length+1) k)} d.fl (d.pend.length+1) (atS d.pend++[.int .i64 (i:Int)]) d.pend.length (whS d.pend) D.fail (d.wr:Int)):=c.out.app1 _ _ _ N A
         have ag:Hid (((a.setCell ⟨q.p,1,none⟩ (.slice (some ⟨g,0,none⟩) (d.pend.length+1) k)).alloc (.cells #[s] 9)).ownsRow B 9 1 q.v2 d.pend.length (whS d.pend)):=x.out.o2.alloc _;have ab:Hid (∀ j y,([.string s]:List υ)[j]?=some y->((a.setCell ⟨q.p,1,none⟩ (.slice (some ⟨g,0,none⟩) (d.pend.length+1) k)).alloc (.cells #[s] 9)).cell? ((⟨a.heap.size,0,none⟩:Addr).add j)=some y):=FT _ _ _ _ _;have R:Hid (((a.setCell ⟨q.p,1,none⟩ (.slice (some ⟨g,0,none⟩) (d.pend.length+1) k)).alloc (.cells #[s] 9)).heap.size=a.heap.size+1):=by unfold Hid;simp[World.setCell]
         have am:=A.size;have ac:Hid (w.heap.size<=a.heap.size):=by unfold Hid;have:=E.out;omega
         have ao:Hid (B<=((a.setCell ⟨q.p,1,none⟩ (.slice (some ⟨g,0,none⟩) (d.pend.length+1) k)).alloc (.cells #[s] 9)).heap.size):=by unfold Hid;rw[R.out];have:=E.out;omega
         have a1:Hid (Kept q.fp w (a.setCell ⟨q.p,1,none⟩ (.slice (some ⟨g,0,none⟩) (d.pend.length+1) k))):=(J.out.grown A (λr e=>.inl (.inr (.inr (.inl e))))).setCell (.inl (.inl rfl)) _
         have ad:Hid (q.v1.ownBlock=some g\/g=w.heap.size+1):=Q
         clear b N A Q aa am)
      | (at_builtin;refine wpList_append_lies _ (by rfl) _ _ 44 (by rfl) B 9 X (.string ⟨#[]⟩) 1 16 underlying44 a0 a8 Y af rfl (by decide) q.v2 d.pend.length (whS d.pend) (by rfl) ag.out ⟨a,0,none⟩ 1 1 [s] (by rfl) (by rfl) ab.out (λu n=>by simp at n;subst n;rfl) (by decide) L.out (by omega) ao.out (a.heap.size+1) R.out ?_
         intro g2 o m M C G ap;have z:=λj=>x.out.grow C a3 j
         have y2:m.cell? ⟨q.p,2,none⟩=some q.v2:=(z 2).1.trans x.out.cells.2.1;have y4:m.cell? ⟨q.p,4,none⟩=some (.int .i64 (d.wr:Int)):=(z 4).1.trans x.out.cells.2.2.1;have e2:m.frozen? ⟨q.p,2,none⟩=false:=(z 2).2;have e4:m.frozen? ⟨q.p,4,none⟩=false:=(z 4).2;have ai:Hid (eH B (m.setCell ⟨q.p,2,none⟩ (.slice (some ⟨g2,0,none⟩) (d.pend.length+1) o)) {q with v1:=(.slice (some ⟨g,0,none⟩) (d.pend.length+1) k),v2:=.slice (some ⟨g2,0,none⟩) (d.pend.length+1) o} d.fl (d.pend.length+1) (atS d.pend++[.int .i64 (i:Int)]) (d.pend.length+1) (whS d.pend++[.string s]) D.fail (d.wr:Int)):=x.out.JI _ _ g2 o M C (by rcases G with H|H;exact .inl H;exact .inr (by rw[H];simp[World.setCell]))
         have a2:Hid (Kept q.fp w (m.setCell ⟨q.p,2,none⟩ (.slice (some ⟨g2,0,none⟩) (d.pend.length+1) o))):=((a1.out.alloc _).grown C (λr e=>.inl (.inr (.inr (.inr e))))).setCell (.inl (.inl rfl)) _
         have V:Hid (q.v2.ownBlock=some g2\/w.heap.size<=g2):=by
           rcases G with h|h
           . exact .inl h
           . exact .inr (by have:=ac.out;omega)
         clear z M C G ap))
    go_ret
    refine⟨{q with v1:=(.slice (some ⟨g,0,none⟩) (d.pend.length+1) k),v2:=.slice (some ⟨g2,0,none⟩) (d.pend.length+1) o},rfl,rfl,?_,a2.out.setCell (.inl (.inl rfl)) _,λr e=>by
      have I:g=r:=by simpa [Value.ownBlock] using e
      rcases ad.out with h|h
      . left;rw[h,I]
      . right;omega,rfl,λr e=>by
      have I:g2=r:=by simpa [Value.ownBlock] using e
      rcases V.out with h|h
      . left;rw[h,I]
      . right;omega⟩
    have F:=ai.out;obtain⟨d1,K,O⟩:=U.out;rw[<- d1,<- K,<- O] at F;rw[<- K,<- O];rw[<- wG s] at F;exact eH.wr (d:=D) i s.data.toList F
def KR(w:ω)(k:Nat):Prop:=∃ a t,w.heap[k]?=S (.cells a t (0,0))/\(t=127\/t=9\/t=3\/t=146)
def SR(B:Gd)(w:ω)(k:Nat):Prop:=¬B.g k/\KR w k
def fA(B:Gd)(w a:ω):Prop:=Kept (SR B w) w a
def KR.of{w a:ω}{k:Nat}(e:a.heap[k]?=w.heap[k]?)(h:KR a k):KR w k:=by
 obtain⟨b,t,d,c⟩:=h;exact⟨b,t,by simp_all,c⟩
theorem fA.trans{B:Gd}{a b c:ω}(h:fA B a b)(k:fA B b c):fA B a c:=by
 refine⟨k.os.trans h.os,k.tape.trans h.tape,k.output.trans h.output,ja4 h.size k.size,λi f d=>?_⟩
 have e:=h.block i f d;rw[k.block i (ja9 f h.size) (λs=>d ⟨s.1,s.2.of e⟩),e]
theorem fA.refl(B:Gd)(w:ω):fA B w w:=Kept.refl _ _
def fA.of_below{B:Gd}{w a:ω}(h:β w w a):fA B w a:=Below.kept h
structure bZ(B:Gd)(w:ω)(q:Rh)(d:DV):Prop extends dA 0 w q d where
 out:∀ k,q.fp k->¬B.g k
theorem bZ.keep{B:Gd}{w a:ω}{q:Rh}{d:DV}(hd:bZ B w q d)(b:∀ k,q.fp k->a.heap[k]?=w.heap[k]?):bZ B a q d:=⟨hd.todA.keep b,hd.out⟩
def dA.base0{B:Nat}{w:ω}{q:Rh}{d:DV}(hd:dA B w q d):dA 0 w q d:=⟨ja5 _,hd.blk,ownsRow_base hd.of (ja5 _),ownsRow_base hd.o1 (ja5 _),ownsRow_base hd.o2 (ja5 _),hd.ne⟩
def dA.toG{B:Nat}{w:ω}{q:Rh}{d:DV}(hd:dA B w q d):bZ B w q d:=⟨hd.base0,λk a=>Nat.not_lt.2 (hd.lt k a).1⟩
def bZ.nilled{B:Gd}{w b:ω}{q:Rh}{d c:DV}(hd:bZ B w q d)(f:dA 0 b {q with v1:=.slice O 0 0,v2:=.slice O 0 0} c):bZ B b {q with v1:=.slice O 0 0,v2:=.slice O 0 0} c :=
 ⟨f,λk a=>by
  rcases a with a|a|a|a
  .exact hd.out k (.inl a)
  .exact hd.out k (.inr (.inl a))
  .cases a
  .cases a⟩
def fA.box{B:Gd}{w b:ω}(h:fA B w b){k:Nat}{a:Array υ}{t:TypeId}(c:w.heap[k]?=S (.cells a t (0,0)))(f:¬(t=127\/t=9\/t=3\/t=146)):b.heap[k]?=S (.cells a t (0,0)):=by
 rw[h.block k (lt_of_some c) (λs=>?_)]
 .exact c
 .obtain⟨c2,t2,d,p⟩:=s.2
  simp_all
def bZ.inR{B:Gd}{w:ω}{q:Rh}{d:DV}(hd:bZ B w q d):∀ k,q.fp k->SR B w k:=by
 intro k a;obtain⟨b,t,e,p⟩:=hd.kinds k a;exact⟨hd.out k a,b,t,e,by rcases p with p|p|p;exact .inl p;exact .inr (.inl p);simp_all⟩
def bZ.Ov{B:Gd}{w a:ω}{q:Rh}{d:DV}(hd:bZ B w q d)(b:Kept q.fp w a):fA B w a:=b.mono λk _ c=>hd.inR k c
structure Qh where
 p:Nat
 d:Rh
 vt:υ
 vh:υ
structure aS(B:Gd)(w:ω)(q:Qh)(v:IV):Prop where
 blk:w.heap[q.p]?=S (.cells #[q.d.p,v.h.c,v.h.p,v.h.b,q.vt,q.vh] 146 (0,0))
 pB:¬B.g q.p
 dev:bZ B w q.d v.d
 own:w.ownsRow 0 168 2 q.vt v.t.length (jB v.t)
 held:w.ownsRow 0 3 1 q.vh v.held.length (kE v.held)
 ne:∀ k,q.vh.ownBlock=S k->q.d.v1.ownBlock≠S k
 tB:∀ k,q.vt.ownBlock=S k->¬B.g k
 hB:∀ k,q.vh.ownBlock=S k->¬B.g k
def aS.cells{B:Gd}{w:ω}{q:Qh}{v:IV}(h:aS B w q v) :
  w.cell? ⟨q.p,0,O⟩=S (q.d.p:υ)/\w.cell? ⟨q.p,1,O⟩=S (v.h.c:υ)/\w.cell? ⟨q.p,2,O⟩=S (v.h.p:υ)/\w.cell? ⟨q.p,3,O⟩=S (v.h.b:υ) /\
  w.cell? ⟨q.p,4,O⟩=S q.vt/\w.cell? ⟨q.p,5,O⟩=S q.vh/\∀ j,w.frozen? ⟨q.p,j,O⟩=false:=by
 have a:=h.blk;refine⟨?_,?_,?_,?_,?_,?_,λj=>frozen_of_row w q.p j _ _ a⟩<;>rw[cell_of_row w q.p _ _ _ _ a]<;>rfl
theorem aS.keep{B:Gd}{w a:ω}{q:Qh}{v:IV}(h:aS B w q v)(b:a.heap[q.p]?=w.heap[q.p]?)(f:∀ k,q.vt.ownBlock=S k->a.heap[k]?=w.heap[k]?)(c:∀ k,q.vh.ownBlock=S k->a.heap[k]?=w.heap[k]?)(hd:∀ k,q.d.fp k->a.heap[k]?=w.heap[k]?):aS B a q v :=
 ⟨by rw[b];exact h.blk,h.pB,h.dev.keep hd,aZ h.own f,aZ h.held c,h.ne,h.tB,h.hB⟩
def aS.below{B:Gd}{w b:ω}{q:Qh}{v:IV}(h:aS B w q v)(a:β w w b):aS B b q v :=
 h.keep (a.block _ (lt_of_some h.blk)) (λk e=>a.block _ (h.own.lt k e).2) (λk e=>a.block _ (h.held.lt k e).2) λk c=>a.block _ (h.dev.lt k c).2
def um{B:Gd}{n m:Nat}{q:Rh}{d:DV}(i:Nat)(s:ByteArray)(w:ω)(hd:bZ B w q d)(f:d.fine n m)(E:m<1000000000)(u:B.top<=w.heap.size)(o:s.size=16)(D:i<n) :
  κ prog 109 #[q.p,(i:Int),s] w λe h =>
   ∃ g:Rh,e=.returned d.aU/\g.p=q.p/\bZ B h g (d.put i s.data.toList)/\Kept q.fp w h/\∀ r,g.v1.ownBlock=S r->q.v1.ownBlock=S r\/w.heap.size<=r:=by
 have C:=f.len;have A:=f.wr;unfold DV.put DV.aU;by_cases c:d.fail=0
 .rw[if_pos c,if_pos c]
  refine(RD i s w hd.todA o (by omega) c).mono ?_
  rintro e h ⟨rfl,j,l⟩;exact⟨q,rfl,rfl,⟨j,hd.out⟩,l,λr v=>.inl v⟩
 .rw[if_neg c,if_neg c]
  refine(Rz i s w hd.todA (ja5 _) o (by omega) c f.ok.f1 f.ok.f2 f.ok.few (by omega)).mono ?_
  rintro e h ⟨g,rfl,j,l,x,t,z,y⟩;refine⟨g,rfl,j,⟨l,λk a=>?_⟩,x,t⟩
  rcases a with a|a|a|a
  .exact hd.out k (.inl (by rw[a,j]))
  .exact hd.out k (.inr (.inl (by rw[a,z])))
  .rcases t k a with b|b
   .exact hd.out k (.inr (.inr (.inl b)))
   .exact B.fresh u b
  .rcases y k a with b|b
   .exact hd.out k (.inr (.inr (.inr b)))
   .exact B.fresh u b
def aS.rE{B:Gd}{w c:ω}{q:Qh}{v:IV}(h:aS B w q v){f:Rh}{i:DV}(hd:bZ B c f i)(m:f.p=q.d.p)(a:Kept q.d.fp w c)(s:∀ r,f.v1.ownBlock=S r->q.d.v1.ownBlock=S r\/w.heap.size<=r) :
  aS B c {q with d:=f} {v with d:=i}/\fA B w c:=by
 have u:¬q.d.fp q.p:=λe=>by
  obtain⟨l,t,b,p⟩:=h.dev.kinds _ e;rw[h.blk] at b;cases b
  simp_all
 have x:∀ k,q.vt.ownBlock=S k->¬q.d.fp k:=λk a e=>by
  obtain⟨l,t,b,p⟩:=h.dev.kinds _ e;obtain⟨c2,g⟩:=ownsRow_kind h.own k a;rw[g] at b;cases b
  simp_all
 have n:∀ k,q.vh.ownBlock=S k->¬q.d.fp k:=λk a e=>by
  obtain⟨c2,g⟩:=ownsRow_kind h.held k a;rcases e with e|e|e|e
  .subst e
   have:=h.dev.blk
   simp_all
  .subst e
   obtain⟨_,c3,o,_⟩:=dQ h.dev.of
   simp_all
  .exact h.ne k a e
  .obtain⟨c3,o⟩:=ownsRow_kind h.dev.o2 k e
   simp_all
 refine⟨⟨?_,h.pB,hd,aZ h.own λk e=>a.block _ (h.own.lt k e).2 (x k e),aZ h.held λk e=>a.block _ (h.held.lt k e).2 (n k e),λk b g=>?_,h.tB,h.hB⟩,h.dev.Ov a⟩
 .rw[m,a.block _ (lt_of_some h.blk) u];exact h.blk
 .rcases s k g with j|j
  .exact h.ne k b j
  .have:=(h.held.lt k b).2;omega
def aS.oM{B:Gd}{w:ω}{q:Qh}{v:IV}(h:aS B w q v)(i:Nat)(u:υ){q2:Qh}{v2:IV}(o:q2.p=q.p)(j:q2.d=q.d)(hd:v2.d=v.d)
  (A:(#[q.d.p,v.h.c,v.h.p,v.h.b,q.vt,q.vh]:Array υ).setIfInBounds i u = #[.pointer (S ⟨q.d.p,0,O⟩),.int .i64 v2.h.c,.int .i64 v2.h.p,.int .i64 v2.h.b,q2.vt,q2.vh])
  (m:w.ownsRow 0 168 2 q2.vt v2.t.length (jB v2.t)) (l:w.ownsRow 0 3 1 q2.vh v2.held.length (kE v2.held)) (E:∀ k,q2.vh.ownBlock=S k->q.d.v1.ownBlock≠S k) (y:∀ k,q2.vt.ownBlock=S k->¬B.g k) (r:∀ k,q2.vh.ownBlock=S k->¬B.g k) :
  aS B (w.setCell ⟨q.p,i,O⟩ u) q2 v2/\fA B w (w.setCell ⟨q.p,i,O⟩ u):=by
 have f:=h.blk
 have z:∀ k,q.d.fp k->k≠q.p:=λk a e=>by
  obtain⟨D,t,n,p⟩:=h.dev.kinds _ a;rw[e,f] at n;cases n
  simp_all
 have C:∀ k,q2.vt.ownBlock=S k->k≠q.p:=λk a e=>by
  obtain⟨c2,s⟩:=ownsRow_kind m k a
  simp_all
 have x:∀ k,q2.vh.ownBlock=S k->k≠q.p:=λk a e=>by
  obtain⟨c2,s⟩:=ownsRow_kind l k a
  simp_all
 refine⟨⟨?_,by rw[o];exact h.pB,?_,aZ m λk e=>heap_setCell_other _ _ _ _ (C k e),aZ l λk e=>heap_setCell_other _ _ _ _ (x k e),?_,y,r⟩,?_⟩
 .rw[o,j,heap_setCell_same w q.p i _ _ u f,A]
 .rw[j,hd];exact h.dev.keep λk a=>heap_setCell_other _ _ _ _ (z k a)
 .simp_all
 .exact(Kept.refl _ w).setCell  (.inl ⟨h.pB,_,_,f,.inr (.inr (.inr rfl))⟩) _
def GN{B:Gd}{w:ω}{q:Qh}{v:IV}(h:aS B w q v):(∃ a cap,q.vt=.slice a v.t.length cap)/\∃ a cap,q.vh=.slice a v.held.length cap:=⟨ownsRow_shape h.own,ownsRow_shape h.held⟩
def Qh.fp(q:Qh)(k:Nat):Prop:=k=q.p\/q.vt.ownBlock=S k\/q.vh.ownBlock=S k\/q.d.fp k
theorem aS.out{B:Gd}{w:ω}{q:Qh}{v:IV}(h:aS B w q v):∀ k,q.fp k->¬B.g k:=by
 rintro k (rfl|a|a|a)
 .exact h.pB
 .exact h.tB k a
 .exact h.hB k a
 .exact h.dev.out k a
def aS.gQ{B:Gd}{w:ω}{q:Qh}{v:IV}(h:aS B w q v):∀ k,q.fp k->k<w.heap.size:=by
 rintro k (rfl|a|a|a)
 .exact lt_of_some h.blk
 .exact(h.own.lt k a).2
 .exact(h.held.lt k a).2
 .exact(h.dev.lt k a).2
def aS.re{B C:Gd}{w:ω}{q:Qh}{v:IV}(h:aS B w q v)(b:∀ k,q.fp k->¬C.g k):aS C w q v :=
 ⟨h.blk,b _ (.inl rfl),⟨h.dev.todA,λk a=>b k (.inr (.inr (.inr a)))⟩,h.own,h.held,h.ne,λk a=>b k (.inr (.inl a)),λk a=>b k (.inr (.inr (.inl a)))⟩
def aS.jm{B:Gd}{w b:ω}{q:Qh}{v:IV}(h:aS B w q v)(a:∀ k,q.fp k->b.heap[k]?=w.heap[k]?):aS B b q v :=
 h.keep (a _ (.inl rfl)) (λk e=>a k (.inr (.inl e))) (λk e=>a k (.inr (.inr (.inl e)))) λk c=>a k (.inr (.inr (.inr c)))
def xQ(n:Nat)(w:ω)(t:n<=1000) :
  κ prog 43 #[(n:Int)] w λe g=>e=.returned (.string (bytesOf (List.replicate n 0)))/\β w w g:=by
 obtain⟨b,r,i,o,c⟩:=info_parts xE;obtain⟨d,s,f,l⟩:=run_make_full  w _ 185 5 b _ 1 underlying185 r i o .i64 .i64 n (by rw[c];omega) (by unfold maxLen;omega) (ja1 _)
 have h:d.rangeAt _ 0 (aY (List.replicate n 0)):=λj v a=>by
  have u:j<n:=by
   rcases jat j n with q|q
   .exact q
   .rw[jaj (by rw[ni,jaw];exact q)] at a;cases a
  rw[jaq,f.cellAt j (by omega)]
  have e:(madeCells (Value.int .u8 0).cells (n*1)).toList=aY (List.replicate n 0):=by
   rw[Nat.mul_one];show(madeCells #[Value.int .u8 0] n).toList=_
   rw[toList_madeCells_one];simp[aY]
  simp_all
 have x:=uM n n (by simp) h
 have m:Hid _:=((ja0 _ _).grown l (ja1 _) (λk e=>by cases e))
 go_enter func43,ntmps43
 go_wp2
 go_ret
 exact⟨rfl,m.out⟩
def sF{B:Gd}{q:Qh}{v:IV}(c:Int)(w:ω)(h:aS B w q v)(f:(v.t.length:Int)=v.h.c) :
  κ prog 185 #[q.p,c] w λe d=>e=.returned (.bool (v.there c))/\d=w:=by
 obtain⟨j,c1,c2,c3,c4,g,i⟩:=h.cells;rw[<- f] at c1;unfold IV.there;generalize v.t.length=n at c1 |-;by_cases a:0<=c
 .have b:Hid (decide (0<=c/\c<(n:Int))=decide (c<(n:Int))):=by unfold Hid;simp[a]
  go_enter func185,ntmps185
  go_wp2
  go_ret
  exact⟨pG b.out.symm,rfl⟩
 .have k  := decide_eq_false a
  have b:Hid (decide (0<=c/\c<(n:Int))=false):=by unfold Hid;simp[a]
  go_enter func185,ntmps185
  go_wp2
  go_ret
  exact⟨by first|exact pG b.out.symm|rfl,rfl⟩
def Ad{B:Gd}{q:Qh}{v:IV}(k:Nat)(w:ω)(h:aS B w q v)(g:v.h.ok=true)(o:k<=40) :
  κ prog 235 #[q.p,(k:Int)] w λe f=>e=.returned (dw v.h k:Int)/\f=w:=by
 obtain⟨r,c1,c2,c3,c4,i,n⟩:=h.cells;have l:=HV.dK g;have b:Hid _:=λW=>by have:=pz v.h.c.toNat W (by omega);rw[show((v.h.c.toNat:Nat):Int)=v.h.c by omega] at this;exact this
 have a:Hid (dw v.h k=1+ay v.h.c.toNat+4*k):=rfl;have d:ay v.h.c.toNat<=10:=by unfold ay;omega
 generalize ay v.h.c.toNat=j at b a d;generalize dw v.h k=m at a |-;generalize v.h.c=c at c1 b;go_enter func235,ntmps235
 go_wp2_with (go_at_call 107;refine cSt (b.out _) ?_)
 go_ret
 exact⟨mg (by have:=a.out;omega),rfl⟩
def yx(c p b:Int)(w:ω)(n:HV.ok ⟨c,p,b⟩=true) :
    κ prog 34 #[.agg #[c,p,b]] w λe i=>e=.returned (aQ ⟨c,p,b⟩:Int)/\β w w i:=by
  have d:=HV.dK n;simp only at d;have l:Hid _:=λW=>by have:=pz c.toNat W (by omega);rw[show((c.toNat:Nat):Int)=c by omega] at this;exact this
  have f:Hid ((aQ ⟨c,p,b⟩:Int)=1+(ay c.toNat:Int)+4*p):=by unfold Hid aQ dw;simp only;omega
  have m:ay c.toNat<=10:=by unfold ay;omega
  have o:=d.2.2.1;have t:=d.2.2.2.1;generalize ay c.toNat=j at l f m;generalize (aQ _:Int)=r at f |-;have h:(w.alloc (.cells #[c,p,b] 67)).cell? ⟨w,0,O⟩=S (c:υ):=by rw[cell_of_row _ _ _ _ _ _ (heap_alloc_new w _)];rfl
  have k:(w.alloc (.cells #[c,p,b] 67)).cell? ⟨w,1,O⟩=S (p:υ):=by rw[cell_of_row _ _ _ _ _ _ (heap_alloc_new w _)];rfl
  have g:Hid (β w w (w.alloc (.cells #[c,p,b] 67))):=(ja0 _ _).alloc (ja1 _) _;go_enter func34,ntmps34
  go_wp2
  generalize w.alloc _=a at h k g |-;have s:IntKind.i64.wrap _=1+(j:Int):=ja7 _ (by omega)
  have v2:IntKind.i64.wrap (4*p)=4*p:=ja7 _ (by omega)
  have q:IntKind.i64.wrap _=1+(j:Int)+4*p:=ja7 _ (by omega)
  go_region_held3 (λW=>β a a W/\W.cell? ⟨w,0,O⟩=S (c:υ)/\W.cell? ⟨w,1,O⟩=S (p:υ))
    (first|(exact⟨(jaP (ja0 _ _)),h,k⟩)|assumption)
    (first
      | (go_at_call 107;refine cEq (l.out _) λi rfl=>?_))
  all_goals
    go_wp2
    go_ret
    exact⟨mg (by have:=f.out;omega),g.out.trans ((by assumption:β _ a _/\_).1.mono g.out.size)⟩
def aS.jA{B:Gd}{w:ω}{q:Qh}{v:IV}(h:aS B w q v){c:Nat}(j:c<v.t.length) :
  ∃ g cap,q.vt=.slice (S ⟨g,0,O⟩) v.t.length cap/\g<w.heap.size/\w.cell? ⟨g,c*2,O⟩=S (.int .i64 (v.t.getD c (0,0)).1)/\w.cell? ⟨g,c*2+1,O⟩=S (.int .i64 (v.t.getD c (0,0)).2):=by
 obtain⟨g,cap,b,_,i⟩:=h.own.form (by omega)
 have a:=h.own;rw[b] at a;obtain⟨f,d⟩:=uP v.t c j;refine⟨g,cap,b,i,?_,?_⟩
 .rw[a.cellAt _ (by omega)];exact f
 .rw[a.cellAt _ (by omega)];exact d
def aS.NK{B:Gd}{w:ω}{q:Qh}{v:IV}(h:aS B w q v){k:Nat}(a:k<v.held.length) :
  ∃ g cap,q.vh=.slice (S ⟨g,0,O⟩) v.held.length cap/\w.cell? ⟨g,k,O⟩=S (.int .i64 (v.held.getD k 0:Int)):=by
 obtain⟨g,cap,b,c,_,_⟩:=nJ h.held k a;refine⟨g,cap,b,?_⟩;rw[c];simp[kE,ja8 a,List.getD]
def any_take_succ{α:Type}(l:List α)(f:α->Bool)(d:α)(k:Nat)(h:k<l.length):(l.take (k+1)).any f=((l.take k).any f||f (l.getD k d)):=by
 rw[jay h,List.any_append]
 simp_all
def C9{α:Type}(l:List α)(f:α->Bool)(k:Nat)(h:(l.take k).any f=true):l.any f=true:=by
 rw[List.any_eq_true] at h |-;obtain⟨x,b,a⟩:=h;exact⟨x,jbm b,a⟩
def Qj{B:Gd}{q:Qh}{v:IV}(p:Nat)(w:ω)(h:aS B w q v)(hl:v.t.length<=32)(hh:v.held.length<=1000000000) :
  κ prog 265 #[q.p,(p:Int)] w λe w'=>e=.returned (.bool (v.iT p))/\w'=w:=by
 obtain⟨c0,c1,c2,c3,c4,R,fz⟩:=h.cells;obtain⟨⟨a,cap,P⟩,a5,a7,L⟩:=GN h;have a3:=ah P;have a2:=ah L;rw[P] at c4;rw[L] at R;have K:=ah h;have M:Hid (∀ k,k<v.t.length->(v.t.take (k+1)).any (λe=>decide (e=(2,(p:Int))))=((v.t.take k).any (λe=>decide (e=(2,(p:Int))))||decide (v.t.getD k (0,0)=(2,(p:Int))))):=λk b=>any_take_succ v.t _ (0,0) k b
 have X:Hid (∀ k,(v.t.take k).any (λe=>decide (e=(2,(p:Int))))=true->v.iT p=false):=λk b=>by
  unfold IV.iT IV.yZ;rw[C9 _ _ k b];rfl
 have F:Hid ((v.t.take v.t.length).any (λe=>decide (e=(2,(p:Int))))=false->v.iT p = !v.oI p):=λb=>by
  unfold IV.iT IV.yZ;rw[jaR] at b;rw[b];rfl
 have O:Hid (∀ k,k<v.held.length->(v.held.take (k+1)).any (λx=>decide (x=p))=((v.held.take k).any (λx=>decide (x=p))||decide (v.held.getD k 0=p))):=λk b=>any_take_succ v.held _ 0 k b
 have a1:=ah λk (b:(v.held.take k).any (λx=>decide (x=p))=true)=>C9 _ _ k b
 have T:Hid ((v.held.take v.held.length).any (λx=>decide (x=p))=false->v.oI p=false):=λb=>by rw[jaR] at b;exact b
 generalize hn:v.t.length=n at c4 hl M F;generalize hm:v.held.length=m at R hh O T;obtain⟨U,u⟩:∃ U:Nat->Bool,U=λk=>(v.t.take k).any (λe=>decide (e=(2,(p:Int)))):=⟨_,rfl⟩
 obtain⟨G,s⟩:∃ G:Nat->Bool,G=λk=>(v.held.take k).any (λx=>decide (x=p)):=⟨_,rfl⟩
 have a4:Hid (∀ k,k<n->U (k+1)=(U k||decide (v.t.getD k (0,0)=(2,(p:Int))))):=λk b=>by rw[u];exact M.out k b
 have V:Hid (∀ k,U k=true->v.iT p=false):=λk b=>by rw[u] at b;exact X.out k b
 have D:Hid (U n=false->v.iT p = !v.oI p):=λb=>by rw[u] at b;exact F.out b
 have a6:Hid (U 0=false):=by rw[u];exact rfl
 have Z:Hid (∀ k,k<m->G (k+1)=(G k||decide (v.held.getD k 0=p))):=λk b=>by rw[s];exact O.out k b
 have J:Hid (∀ k,G k=true->v.oI p=true):=λk b=>by rw[s] at b;exact a1.out k b
 have Q:Hid (G m=false->v.oI p=false):=λb=>by rw[s] at b;exact T.out b
 have a0:Hid (G 0=false):=by rw[s];exact rfl
 generalize v.iT p=C at V D |-;generalize v.oI p=hb at D J Q;go_enter func265,ntmps265
 go_wp2
 go_loop [5] (λi=>∃ k:Nat,k<=n/\i=.int .i64 k/\U k=false) (λi=>n-(intOf i).toNat)
 case atStart=>exact⟨0,ja5 _,rfl,a6.out⟩
 case round =>
  obtain⟨k,b,rfl,N⟩:=hrel;by_cases I:k<n
  .obtain⟨g,cp,r,_,t0,t1⟩:=K.out.jA (c:=k) (by rw[hn];exact I)
   rw[a3.out] at r
   injection r with hv1 hv2 hv3
   subst hv1;have f:=a4.out k I;rw[N,jbz] at f;have k0:(0:Int)<=(k:Int):=by omega
   have k1:(k:Int)<(n:Int):=by omega
   generalize v.t.getD k (0,0)=e at t0 t1 f;obtain⟨y0,y1⟩:=e;simp only at t0 t1;have l:=ah f;by_cases A:y0=2
   .have g2:(y0==2)=true:=by simpa using A
    by_cases d:y1=(p:Int)
    .have g3:(y1==(p:Int))=true:=by simpa using d
     have y:Hid (C=false):=(V.out (k+1)) (by rw[l.out];exact decide_eq_true (by rw[A,d]))
     go_wp2
     go_ret
     exact⟨pG y.out.symm,rfl⟩
    .have g3:(y1==(p:Int))=false:=by simpa using d
     have o:Hid (U (k+1)=false):=by unfold Hid;rw[l.out];exact decide_eq_false (λe=>d (by injection e))
     go_wp2
     go_round
     case rel=>exact⟨k+1,by omega,by go_num,o.out⟩
     case measure=>simp[intOf];omega
   .have g2:(y0==2)=false:=by simpa using A
    have o:Hid (U (k+1)=false):=by unfold Hid;rw[l.out];exact decide_eq_false (λe=>A (by injection e))
    go_wp2
    go_round
    case rel=>exact⟨k+1,by omega,by go_num,o.out⟩
    case measure=>simp[intOf];omega
  .have W:k=n:=by omega
   subst W;have y:=ah (D.out N);go_wp2
   go_loop [6] (λi=>∃ j:Nat,j<=m/\i=.int .i64 j/\G j=false) (λi=>m-(intOf i).toNat)
   case atStart=>exact⟨0,ja5 _,rfl,a0.out⟩
   case round =>
    obtain⟨j,hj,rfl,H⟩:=hrel;by_cases S:j<m
    .obtain⟨g,cp,r,t0⟩:=K.out.NK (k:=j) (by rw[hm];exact S)
     rw[a2.out] at r
     injection r with hv1 hv2 hv3
     subst hv1;have f:=Z.out j S;rw[H,jbz] at f;have j0:(0:Int)<=(j:Int):=by omega
     have j1:(j:Int)<(m:Int):=by omega
     generalize v.held.getD j 0=z at t0 f;have l:=ah f;by_cases d:z=p
     .have g3:((z:Int)==(p:Int))=true:=by simp;omega
      have E:Hid (C=false):=by unfold Hid;rw[y.out,(J.out (j+1)) (by rw[l.out];exact decide_eq_true d)];rfl
      go_wp2
      go_ret
      exact⟨pG E.out.symm,rfl⟩
     .have g3:((z:Int)==(p:Int))=false:=by simp;omega
      have o:Hid (G (j+1)=false):=by unfold Hid;rw[l.out];exact decide_eq_false d
      go_wp2
      go_round
      case rel=>exact⟨j+1,by omega,by go_num,o.out⟩
      case measure=>simp[intOf];omega
    .have Y:j=m:=by omega
     subst Y;have E:Hid (C=true):=by unfold Hid;rw[y.out,Q.out H];rfl
     go_wp2
     go_ret
     exact⟨pG E.out.symm,rfl⟩
structure Led(B:Gd)(w:ω)(q q':Qh)(V:IV)(w':ω):Prop where
 p:q'.p=q.p
 dp:q'.d.p=q.d.p
 vt:∀ k,q'.vt.ownBlock=S k->q.vt.ownBlock=S k\/w.heap.size<=k
 rim:aS B w' q' V
 kept:fA B w w'
def iF(B:Gd)(w:ω)(q:Qh)(V:IV)(f:Int)(e:Ending)(b:ω):Prop:=∃ a:Qh,e=.returned f/\Led B w q a V b
theorem Led.refl{B:Gd}{w:ω}{q:Qh}{v:IV}(h:aS B w q v):Led B w q q v w:=⟨rfl,rfl,λ_ a=>.inl a,h,fA.refl _ _⟩
theorem Led.trans{B:Gd}{w c g:ω}{q d q2:Qh}{j f:IV}(a:Led B w q d j c)(b:Led B c d q2 f g):Led B w q q2 f g :=
 ⟨b.p.trans a.p,b.dp.trans a.dp,λk i=>by
  rcases b.vt k i with h|h
  .exact a.vt k h
  .exact .inr (ja4 a.kept.size h),b.rim,fA.trans a.kept b.kept⟩
theorem Led.below{B:Gd}{w a:ω}{q:Qh}{v:IV}(h:aS B w q v)(b:β w w a):Led B w q q v a:=⟨rfl,rfl,λ_ c=>.inl c,h.below b,fA.of_below b⟩
def Led.dev{B:Gd}{w c:ω}{q:Qh}{v:IV}(h:aS B w q v){a:Rh}{g:DV}(hd:bZ B c a g)(f:a.p=q.d.p)(b:Kept q.d.fp w c)(j:∀ r,a.v1.ownBlock=S r->q.d.v1.ownBlock=S r\/w.heap.size<=r) :
  Led B w q {q with d:=a} {v with d:=g} c:=by
 obtain⟨k,i⟩:=h.rE hd f b j;exact⟨rfl,f,λ_ b=>.inl b,k,i⟩
def xB{B:Gd}{n m:Nat}{q:Qh}{v:IV}(w:ω)(h:aS B w q v)(hd:v.d.fine n m) :
  κ prog 120 #[q.p] w λe f=>∃ o:Qh,e=.returned (.tuple #[])/\Led B w q o v.flush f:=by
 obtain⟨z,c1,c2,c3,c4,j,y⟩:=h.cells;have b:=ah h;go_enter func120,ntmps120
 go_wp2_with fail
 refine(yw w h.dev.todA hd.ok hd.sn).mono ?_;rintro e u ⟨rfl,c,i⟩;have a:=Led.dev b.out (b.out.dev.nilled c) rfl i (λr e=>by cases e)
 obtain⟨g,t⟩:=a.rim.oM 5 _ (q2:={q with d:={q.d with v1:=.slice O 0 0,v2:=.slice O 0 0},vh:=.slice O 0 0}) (v2:=v.flush) rfl rfl rfl rfl a.rim.own (jae _ _ _ _) (λk e=>by cases e) a.rim.tB (λk e=>by cases e)
 have l:Hid (Led B w q {q with d:={q.d with v1:=.slice O 0 0,v2:=.slice O 0 0},vh:=.slice O 0 0} v.flush _):=⟨rfl,rfl,λ_ s=>.inl s,g,fA.trans a.kept t⟩
 have j:=a.rim.cells.2.2.2.2.2.1;have x:=a.rim.cells.2.2.2.2.2.2 5;go_wp2
 go_end0
 exact⟨_,rfl,l.out⟩
structure ru(B:Gd)(w:ω)(q:Qh)(v:IV)(d:DV)(q':Qh)(W:ω):Prop where
 led:Led B w q q' {v with d:=d} W
theorem ru.drew{B:Gd}{w W:ω}{q a:Qh}{v:IV}{d:DV}(h:ru B w q v d a W):ru B w q v d a W.drew:=⟨h.led.trans (Led.below h.led.rim (ja0 _ _).drew)⟩
def Me(s:ByteArray)(k:Nat):(s.extract (16*k) (16*k+16)).data.toList=chunk s k:=by
 have:=Em s k
 rw[show k*16=16*k by omega,show(k+1)*16=16*k+16 by omega] at this
 exact this
def Hr{B:Gd}{m:Nat}{q:Qh}{v:IV}(a c:Nat)(s:ByteArray)(w:ω)(h:aS B w q v)(hd:v.d.fine v.d.fl.length m)(hm:m+4<1000000000)(hB:B.top<=w.heap.size)(K:s.size=c*16)(hf:c<=4)(ha:a+c<=v.d.fl.length) :
    κ prog 264 #[q.p,(a:Int),s] w (iF B w q {v with d:=(v.d.puts a s c).1} (v.d.puts a s c).2):=by
  have a6:=hd.ok.n2;have u:=ah λk (f:k<=c)=>hd.puts K (by omega) (by omega) k f
  have z:=ah λk (f:(v.d.puts a s k).2=0)=>DV.yj f
  have H:=ah λk (f:(v.d.puts a s k).2≠0) (C:k<=c)=>DV.yh f c C
  have M:Hid (∀ k,(v.d.puts a s k).2=0\/(v.d.puts a s k).2=7):=λk=>DV.rV _ _ _ _
  have x:Hid (v.d.puts a s 0=(v.d,0)):=rfl;generalize v.d.puts a s=D at u z H x M |-;have S:=ah h;have a3:a+c<=200:=by omega
  go_enter func264,ntmps264
  go_wp2
  go_loopw [7] (λi wr=>∃(k:Nat) (y:Qh),k<=c/\i=.int .i64 k/\(D k).2=0/\ru B w q v (D k).1 y wr) (λi _=>c-(intOf i).toNat)
  case atStart=>exact⟨0,q,ja5 _,rfl,by rw[x.out],⟨by rw[x.out];exact Led.refl S.out⟩⟩
  case round =>
    obtain⟨k,y,C,rfl,o,b⟩:=hrel;have k7:IntKind.i64.wrap (16*(k:Int))=16*(k:Int):=ja7 _ (by omega)
    by_cases a2:k<c
    . have t:=z.out k o
      have L:=u.out k (by omega)
      have T:B.top<=wr.heap.size:=ja4 hB b.led.kept.size
      have Z:Hid (∀ W:ω,ru B w q v (D k).1 y W->wr.heap.size<=W.heap.size->κ prog 109 #[y.d.p,((a:Int)+(k:Int):Int),.string (s.extract (16*k) (16*k+16))] W λe n =>
          ∃ l:Qh,e=.returned (.int .i64 (D (k+1)).2)/\ru B w q v (D (k+1)).1 l n/\n.cell? ⟨q.p,0,none⟩=some (y.d.p:υ)):=λW j Y=>by
        have E:=um (a+k) (s.extract (16*k) (16*k+16)) W j.led.rim.dev L (by omega) (ja4 T Y) (by rw[jaz];omega) (by omega)
        rw[show(((a+k:Nat):Int))=(a:Int)+(k:Int) by omega] at E
        refine E.mono ?_;rintro e n ⟨q2,rfl,I,O,P,R⟩;have J:=Led.dev j.led.rim O I P R;refine⟨{y with d:=q2},by rw[t],⟨?_⟩,?_⟩
        . rw[t,<- Me]
          exact j.led.trans J
        . have:=J.rim.cells.1
          rw[show({y with d:=q2}:Qh).p=q.p from j.led.p,show({y with d:=q2}:Qh).d.p=y.d.p from I] at this
          exact this
      have c0:wr.cell? ⟨q.p,0,none⟩=some (y.d.p:υ):=by have:=b.led.rim.cells.1;rw[b.led.p] at this;exact this
      have r:=ah b;have k2:16*(k:Int)+16<=(s.size:Int):=by omega
      have k3:(0:Int)<=16*(k:Int):=by omega
      have k5:(16*(k:Int)).toNat=16*k:=by omega
      have k6:(16*(k:Int)+16).toNat=16*k+16:=by omega
      have k9:IntKind.i64.wrap (16*(k:Int)+16)=16*(k:Int)+16:=ja7 _ (by omega)
      have a4:IntKind.i64.wrap ((a:Int)+(k:Int))=(a:Int)+(k:Int):=ja7 _ (by omega)
      have a7:16*(k:Int)<=16*(k:Int)+16:=by omega
      have a0:16*(k:Int)<(s.size:Int):=by omega
      clear K t L o b u z;have a1  := c0;have F:Hid (ru B w q v (D k).1 y wr.drew/\wr.heap.size<=wr.drew.heap.size):=⟨r.out.drew,ja1 _⟩;go_wp2
      go_region_held3 (λW=>W.cell? ⟨q.p,0,none⟩=some (y.d.p:υ))
        (first|(exact a1)|assumption)
        (first
          | (go_at_call 109;refine(Z.out _ F.out.1 F.out.2).mono ?_;rintro e w3 ⟨l,rfl,U,a5⟩))
      have N:=ah U;by_cases g:(D (k+1)).2=0
      . have HZ:=ah g
        rw[g];go_wp2
        go_roundw
        case rel =>
          exact⟨k+1,l,by omega,by go_num,HZ.out,N.out⟩
        case measure=>simp[intOf];omega
      . have HE:=H.out (k+1) g (by omega)
        have A:=ah HE;have G:(D (k+1)).2=7:=by rcases M.out (k+1) with h|h;exact absurd h g;exact h
        have Q:=ah G;rw[G];go_wp2
        go_ret
        refine⟨l,?_,?_⟩
        . rw[A.out,Q.out];rfl
        . rw[A.out];exact N.out.led
    . have X:k=c:=by omega
      subst X;have r:=ah b;have V:=ah o;have a0:decide (16*(k:Int)<(s.size:Int))=false:=by simp;omega
      go_wp2
      go_ret
      exact⟨y,by rw[V.out];rfl,r.out.led⟩
