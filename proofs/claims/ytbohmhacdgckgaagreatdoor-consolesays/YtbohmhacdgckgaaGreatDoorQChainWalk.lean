/- A part. -/
import Derived.Test.YtbohmhacdgckgaaGreatDoorQRimActs
set_option linter.all false
set_option maxHeartbeats 2000000
set_option maxRecDepth 100000
namespace Go.Proofs.YtbohmhacdgckgaaGreatDoor
open Go.RowKit renaming Below->β, Hid->χ
open Go renaming World->ω, Value->υ, Calls->κ
open Option renaming none->O, some->S
open Go.Proofs.Tryz Go.RowKit Go.Maps
attribute [local go_sem ↓] Go.wp_at_zero Go.wp_at_succ
def UW{w:ω}{B g n cap ts}(b:w.ownsRow B 168 2 (.slice (S ⟨g,0,O⟩) n cap) n (bD ts))(m:ts.length=n)(c)(k p:Int) :
  ((w.setCell ⟨g,c*2,O⟩ k).setCell ⟨g,c*2+1,O⟩ p).ownsRow B 168 2 (.slice (S ⟨g,0,O⟩) n cap) n (bD (ts.set c (k,p))):=by
 obtain⟨f,a,i,l,j,o,d⟩:=fB b;refine⟨by rw[qV,jal,m],.inr ⟨g,cap,(a.setIfInBounds (c*2) (.int .i64 k)).setIfInBounds (c*2+1) (.int .i64 p),rfl,f,?_,l,j,by simp_all,?_⟩⟩
 .rw[heap_setCell_same _ _ _ _ _ _ (heap_setCell_same w g _ _ _ _ i)]
 .rw[FT,<- d];simp only[Array.toList_setIfInBounds,List.take_set]
def Wl(t)(c:Nat):eH t ((c:Int) / 8)=eH t ((c / 8:Nat):Int)/\iJ t ((c:Int) / 8)=iJ t ((c / 8:Nat):Int):=by
 simp_all
def aU.sets{B w q v}(h:aU B w q v){g cap T}(b:T.length=v.t.length)(a:w.ownsRow 0 168 2 (.slice (S ⟨g,0,O⟩) v.t.length cap) v.t.length (bD T))(c:¬B.g g) :
  aU B (w.setCell ⟨q.p,4,O⟩ (.slice (S ⟨g,0,O⟩) v.t.length cap)) {q with vt:=.slice (S ⟨g,0,O⟩) v.t.length cap} {v with t:=T}/\fM B w (w.setCell ⟨q.p,4,O⟩ (.slice (S ⟨g,0,O⟩) v.t.length cap)) :=
 h.pX 4 _   rfl rfl rfl rfl (by simp_all) h.held h.ne (λk e=>by
  have:g=k:=by simpa [Value.ownBlock] using e
  simp_all) h.hB
def aU.QZ{B w W c q v}(h:aU B w q v)(i:β w w W)(j:W.grownBy c q.vh.ownBlock)(x g cap)(o:c.ownsRow 0 3 1 (.slice (S ⟨g,0,O⟩) (v.held.length+1) cap) (v.held.length+1) (kX v.held++[.int .i64 (x:Int)]))
  (r:q.vh.ownBlock=S g\/w<=g) (C:B.top<=w) :
  aU B (c.setCell ⟨q.p,5,O⟩ (.slice (S ⟨g,0,O⟩) (v.held.length+1) cap)) {q with vh:=.slice (S ⟨g,0,O⟩) (v.held.length+1) cap} {v with held:=v.held++[x]}/\fM B w (c.setCell ⟨q.p,5,O⟩ (.slice (S ⟨g,0,O⟩) (v.held.length+1) cap)):=by
 have m:∀ k,k<w.heap.size->q.vh.ownBlock≠S k->c.heap[k]?=w.heap[k]?:=λk a D=>by
  rw[j.block k (ja8 a i.size) (jaM D),i.block k a]
 have F:q.vh.ownBlock≠S q.p:=λe=>by
  obtain⟨c2,b⟩:=ownsRow_kind h.held _ e;rw[h.blk] at *;cases b
 have G:∀ k,q.vt.ownBlock=S k->q.vh.ownBlock≠S k:=λk a e=>by
  obtain⟨c1,l⟩:=ownsRow_kind h.own k a;obtain⟨c2,b⟩:=ownsRow_kind h.held k e;rw[l] at *;cases b
 have z:∀ k,q.d.fp k->q.vh.ownBlock≠S k:=λk e a=>by
  obtain⟨c2,b⟩:=ownsRow_kind h.held k a;rcases e with e|e|e|e
  .subst e;have:=h.dev.blk
   rw[b] at *;cases this
  .subst e;obtain⟨_,c3,n,_⟩:=fB h.dev.of;rw[b] at *;cases n
  .exact h.ne k a e
  .obtain⟨c3,n⟩:=ownsRow_kind h.dev.o2 k e;rw[b] at *;cases n
 have u  := (m q.p (lt_of_some h.blk) F).trans h.blk
 have A:∀ k,q.d.fp k->k≠q.p:=λk a e=>by
  obtain⟨I,t,l,p⟩:=h.dev.kinds _ a;rw[e,h.blk] at *
  cases l;rcases p with p|p|p<;>cases p
 have y:∀ k,q.vt.ownBlock=S k->k≠q.p:=λk a e=>by
  obtain⟨c2,b⟩:=ownsRow_kind h.own k a;rw[e,h.blk] at *;cases b
 refine⟨⟨?_,h.pB,h.dev.keep λk a=>?_,bg h.own λk a=>?_,?_,?_,h.tB,λk a=>?_⟩,?_⟩
 .rw[heap_setCell_same _ _ _ _ _ _ u];rfl
 .rw[heap_setCell_other _ _ _ _ (A k a)];exact m k (h.dev.lt k a).2 (z k a)
 .rw[heap_setCell_other _ _ _ _ (y k a)];exact m k (h.own.lt k a).2 (G k a)
 .show World.ownsRow _ 0 _ 1 _ _ _
  have l:(v.held++[x]).length=v.held.length+1:=by simp
  have b:kX (v.held++[x])=kX v.held++[.int .i64 (x:Int)]:=by simp[kX]
  rw[l,b];refine bg o λk a=>heap_setCell_other _ _ _ _ (λe=>?_)
  obtain⟨c2,b⟩:=ownsRow_kind o k a;rw[show k=q.p from e,u] at *;cases b
 .intro k a e;have:g=k:=by simpa [Value.ownBlock] using a
  subst this;rcases r with f|f
  .exact h.ne g f e
  .have:=(h.dev.o1.lt g e).2;omega
 .have:g=k:=by simpa [Value.ownBlock] using a
  subst this;rcases r with f|f
  .exact h.hB g f
  .exact B.fresh C f
 .refine⟨j.os.trans i.os,j.tape.trans i.tape,j.output.trans i.output,?_,λk a s=>?_⟩
  .have f:=i.size;have H:=j.size;simp only[World.setCell];have:(c.setCell ⟨q.p,5,O⟩ (.slice (S ⟨g,0,O⟩) (v.held.length+1) cap)).heap.size=c.heap.size:=by simp[World.setCell]
   simp only[World.setCell] at *
   omega
  .have E:q.vh.ownBlock≠S k:=λe=>by
    obtain⟨c2,b⟩:=ownsRow_kind h.held k e;exact s ⟨h.hB k e,_,_,b,.inr (.inr (.inl rfl))⟩
   rw[heap_setCell_other _ _ _ _ (λe=>s ⟨by rw[e];exact h.pB,_,_,by rw[e];exact h.blk,.inr (.inr (.inr rfl))⟩)];exact m k a E
def KA{B m q v}(c k p w)(h:aU B w q v)(f:v.ok m)(hm:m<1000000000)(Y:B.top<=w)(A:c<v.t.length)(he:bP k p v.h.p=true) :
    κ prog 232 #[q.p,(c:Int),.agg #[k,p]] w (iZ B w q (v.set c (k,p)) v.d.aV):=by
  have ao:=HV.dS f.h;have ba:=f.len;have ar:=zF A;obtain⟨aM,an⟩:=zD (ts:=v.t.set c (k,p)) f.h (by rw[jal];exact f.len) (yC f.ents c (k,p) he) (c / 8) (by rw[jal];exact ar);have aE:=(nK f.h f.need).1;rw[show v.h.c.toNat=v.t.length by omega] at aE;obtain⟨d1,d2⟩:=Wl (v.t.set c (k,p)) c
  have ae:χ (∀(W:ω) (g cap:Nat),W.ownsRow w.heap.size 168 2 (.slice (S ⟨g,0,O⟩) v.t.length cap) v.t.length (bD (v.t.set c (k,p)))->κ prog 108 #[.slice (S ⟨g,0,O⟩) v.t.length cap,((c:Int) / 8:Int)] W λe w' =>
      e=.returned (.tuple #[.string (eH (v.t.set c (k,p)) ((c / 8:Nat):Int)),(0:Int)])/\β W W w'):=λW g cap Q=>by
    have:=JF (S ⟨g,0,O⟩) v.t.length cap (v.t.set c (k,p)) ((c:Int) / 8) W (vX Q _ (by rw[jaf (by rw[qV,jal];exact ja1 _)]) (ja1 _) jal) (by omega)
    rw[d1,d2,aM] at this;exact this
  have a3:χ (∀(W:ω),aU B W q v->B.top<=W.heap.size->κ prog 109 #[q.d.p,(1+(c:Int) / 8:Int),.string (eH (v.t.set c (k,p)) ((c / 8:Nat):Int))] W λe w' =>
      ∃ q':Qh,e=.returned v.d.aV/\Led B W q q' {v with d:=v.fV c (k,p)} w'/\q'.vt=q.vt/\q'.vh=q.vh):=λW hi hb=>by
    have h1:=vw (1+c / 8) (eH (v.t.set c (k,p)) ((c / 8:Nat):Int)) W hi.dev f.d hm hb an (by omega);rw[show(((1+c / 8:Nat):Int))=1+(c:Int) / 8 by omega] at h1;refine h1.mono ?_;rintro e w' ⟨q2,rfl,bv,bq,bj,bt⟩;exact⟨{q with d:=q2},rfl,Led.dev hi bq bv bj bt,rfl,rfl⟩
  have a6:bP (v.t.getD c (0,0)).1 (v.t.getD c (0,0)).2 v.h.p=true:=by rw[ja6,ja5 A];exact f.ents _ (jad A)
  have ab:χ (v.d.aV=0\/v.d.aV=7):=by
    rcases DV.oH v.d with L|L
    . exact .inl L.1
    . exact .inr L.1
  have K:χ (v.d.aV=0->v.set c (k,p)=⟨v.fV c (k,p),v.h,v.t.set c (k,p),if (v.t.getD c (0,0)).1=2 then v.held++[(v.t.getD c (0,0)).2.toNat] else v.held⟩):=λh0=>by unfold IV.set;rw[if_pos h0]
  have a2:χ (v.d.aV≠0->v.set c (k,p)={v with d:=v.fV c (k,p)}):=λh0=>by unfold IV.set;rw[if_neg h0]
  have cm:=f.few;have HI:=ah h;obtain⟨P,X,a1,cf,t0,t1⟩:=h.jZ A;obtain⟨_,D,E,al⟩:=JC h;have c4:=h.cells.2.2.2.2.1;rw[a1] at c4;have bE:=ah a1;have bc:=ah al;have lp:q.p<w.heap.size:=lt_of_some h.blk
  have c7:χ (∀ j u,(bD v.t)[j]?=S u->(w.alloc (.cells #[k,p] 168)).cell? ((⟨P,0,O⟩:Addr).add j)=S u):=λj u hj=>by
    have Q:=h.own;rw[a1] at Q;have:=wK Q j u hj
    rw[jbi _ _ _ (ja2 w _ this)];exact this
  have cg:=ao.2.2.2.1;have cd:(c:Int)<(v.t.length:Int):=by omega
  have c6:v.t.length<=32:=by omega
  have cj:(c:Int) / 8<=4:=by omega
  have ck:0<=(c:Int) / 8:=by omega
  obtain⟨i0,bO,bk,c8,bw⟩:=info_parts uQ;obtain⟨i1,bi,be,c9,b8⟩:=info_parts uS;clear h f aE aM an ar ba ao he a1 al d1 d2;generalize v.d.aV=pf at a3 ab K a2 |-;generalize v.set c (k,p)=V at K a2 |-;generalize eH (v.t.set c (k,p)) ((c / 8:Nat):Int)=RS at ae a3;generalize bN:(v.t.getD c (0,0)).1=y0 at t0 a6 K;generalize b9:(v.t.getD c (0,0)).2=y1 at t1 a6 K;have bf:=ah bN;have bp:=ah b9;have aq:χ ((bD v.t).length=v.t.length*2):=qV _;have bS:χ (∀ u∈bD v.t,u.oneCell'=true):=PO _;generalize hn:v.t.length=n at c4 A cd c6 ae aq;have l:=ah hn;have aw:(w.alloc (.cells #[k,p] 168)).heap.size=w.heap.size+1:=by simp
  have b4:=ah aw;have az:χ (w.heap.size<=(w.alloc (.cells #[k,p] 168)).heap.size):=by unfold χ;rw[aw];omega
  have bA:χ ((w.alloc (.cells #[k,p] 168)).heap[w.heap.size]?=S (.cells #[k,p] 168 (0,0))):=heap_alloc_new _ _;have F:χ (β w w (w.alloc (.cells #[k,p] 168))):=(ja0 _ _).alloc (ja1 _) _;have am:=ah (vW v.t c (by rw[l.out];exact A));go_enter func232,ntmps232
  go_wp2_with (at_builtin;refine wpList_append_lies _ (by rfl) _ _ 144 (by rfl) w.heap.size 168 i0 (.agg #[(0:Int),(0:Int)]) 2 16 underlying144 bO bk c8 bw rfl (by decide) (.slice O 0 0) 0 [] (by rfl) (jaa _ _ _ _) ⟨P,0,O⟩ n X (bD v.t) (by rfl) aq.out c7.out bS.out (by omega) (by unfold maxLen;omega) (by omega) az.out (w.heap.size+1) b4.out ?_;intro G a y s C ag bs;rw[jak,jaP] at s
               have a8:y.heap[w.heap.size]?=S (.cells #[k,p] 168 (0,0)):=(C.block _ (by rw[b4.out];omega) (λe=>by cases e)).trans bA.out;have b0:y.cell? ⟨w,0,O⟩=S (k:υ):=by rw[cell_of_row _ _ _ _ _ _ a8];rfl
               have b1:y.cell? ⟨w,1,O⟩=S (p:υ):=by rw[cell_of_row _ _ _ _ _ _ a8];rfl
               have s0:=(s.cellAt (c*2) (by omega)).trans am.out.1;have s1:=(s.cellAt (c*2+1) (by omega)).trans am.out.2;have f0:=s.frozenAt (c*2);have f1:=s.frozenAt (c*2+1);have bB:χ (y.ownsRow w.heap.size 168 2 (.slice (S ⟨G,0,O⟩) n a) n (bD v.t)):=s;have br:χ (β w w y):=F.out.grown C az.out (λk e=>by cases e);have H:χ (w.heap.size<=G):=(fB s).1
               clear s C ag bs a8)
  have U:χ (((y.setCell ⟨G,c*2,O⟩ k).setCell ⟨G,c*2+1,O⟩ p).ownsRow w.heap.size 168 2 (.slice (S ⟨G,0,O⟩) n a) n (bD (v.t.set c (k,p)))):=UW bB.out l.out c k p;have a9:χ (β w w ((y.setCell ⟨G,c*2,O⟩ k).setCell ⟨G,c*2+1,O⟩ p)):=(br.out.setCell (p:=⟨G,c*2,O⟩) H.out _).setCell (p:=⟨G,c*2+1,O⟩) H.out _;generalize (y.setCell ⟨G,c*2,O⟩ k).setCell ⟨G,c*2+1,O⟩ p=w2 at U a9 |-;refine cEq (ae.out w2 G a U.out) λw3 aD=>?_
  have aa:=ah (a9.out.trans (aD.mono a9.out.size));have b6:χ (w3.ownsRow w.heap.size 168 2 (.slice (S ⟨G,0,O⟩) n a) n (bD (v.t.set c (k,p)))):=bg U λr e=>aD.block r (U.lt r e).2
  have b7:=HI.below aa;have c0:=b7.cells.1;have bu:=ah (a3 w3 b7 (ja4 Y aa.size));have bR:=ah (Led.below HI aa);go_wp2_with fail;refine bu.mono ?_;rintro e w4 ⟨x,rfl,b3,bb,ca⟩;have i:χ (Led B w q x {v with d:=v.fV c (k,p)} w4):=bR.trans b3;obtain⟨cG,N⟩:=ownsRow_kind b6 G rfl
  have af:χ (w4.ownsRow w.heap.size 168 2 (.slice (S ⟨G,0,O⟩) n a) n (bD (v.t.set c (k,p)))):=bg b6 λr e=>by
    have:G=r:=by simpa [Value.ownBlock] using e
    subst this;rw[b3.kept.box N (by decide)];exact N.symm
  have a7:χ (x.vt=.slice (S ⟨P,0,O⟩) v.t.length X):=by unfold χ;rw[bb];exact bE
  have M:χ (x.vh=.slice D v.held.length E):=by unfold χ;rw[ca];exact bc
  by_cases I:pf=0
  . have HV:=ah (K I);have ap:=ah I;rw[I];clear K a2 ab I;have b:=i.rim;have o:x.p=q.p:=i.p;have c4:w4.cell? ⟨q.p,4,O⟩=S (.slice (S ⟨P,0,O⟩) n X):=by have:=b.cells.2.2.2.2.1;rw[o,a7.out,l.out] at this;exact this
    have c5:w4.cell? ⟨q.p,5,O⟩=S (.slice D v.held.length E):=by have:=b.cells.2.2.2.2.2.1;rw[o,M.out] at this;exact this
    have f4:w4.frozen? ⟨q.p,4,O⟩=false:=by have:=b.cells.2.2.2.2.2.2 4;rw[o] at this;exact this
    have f5:w4.frozen? ⟨q.p,5,O⟩=false:=by have:=b.cells.2.2.2.2.2.2 5;rw[o] at this;exact this
    obtain⟨g9,ci,b5,_,t0,t1⟩:=b.jZ (c:=c) (by show c<v.t.length;rw[l.out];exact A);rw[a7.out] at b5;injection b5 with e1 e2 e3;injection e1 with e1;injection e1 with e1;subst e1;rw[show(({v with d:=v.fV c (k,p)}:IV).t.getD c (0,0)).1=y0 from bf.out] at t0;rw[show(({v with d:=v.fV c (k,p)}:IV).t.getD c (0,0)).2=y1 from bp.out] at t1;have bm:B.top<=w.heap.size:=Y;have k0:(0:Int)<=(c:Int):=by omega
    have ax:q.p<w4.heap.size:=by have:=lt_of_some b.blk;rw[o] at this;exact this
    have bo:w.heap.size<=w4:=i.kept.size;by_cases Z:y0=2
    . have g2:(y0==2)=true:=by simpa using Z
      have cl:0<=y1/\y1<1000:=by
        rcases jS a6 with h4|h4
        . omega
        . omega
      obtain⟨z,rfl⟩:∃ z:Nat,y1=(z:Int):=⟨y1.toNat,by omega⟩;have F:χ (β w4 w4 (w4.alloc (.cells #[(z:Int)] 3)).drew):=((ja0 _ _).alloc (ja1 _) _).drew
      have bh:χ ((w4.alloc (.cells #[(z:Int)] 3)).drew.ownsRow 0 3 1 (.slice D v.held.length E) v.held.length (kX v.held)):=by
        have:=b.held
        rw[M.out] at this;exact bg this λr e=>F.block r (this.lt r e).2
      have bd:χ ((w4.alloc (.cells #[(z:Int)] 3)).drew.heap[w4.heap.size]?=S (.cells #[(z:Int)] 3 (0,0))):=heap_alloc_new _ _;have av:χ ((w4.alloc (.cells #[(z:Int)] 3)).drew.heap.size=w4.heap.size+1):=by unfold χ;show(w4.alloc _).heap.size=_;simp
      have cb:χ (0<=(w4.alloc (.cells #[(z:Int)] 3)).drew.heap.size):=ja7 _;have aL:χ (q.p<(w4.alloc (.cells #[(z:Int)] 3)).drew.heap.size):=by unfold χ;rw[av.out];omega
      have b2:χ (S q.p≠(Value.slice D v.held.length E).ownBlock):=by
        unfold χ;intro e;have:=b.held
        rw[M.out] at this;obtain⟨c2,e2⟩:=ownsRow_kind this q.p e.symm;have:=b.blk
        rw[o,e2] at this;cases this
      have aR:χ ((w4.alloc (.cells #[(z:Int)] 3)).drew.cell? ⟨q.p,5,O⟩=S (.slice D v.held.length E)):=(F.cell (p:=⟨q.p,5,O⟩) ax).trans c5
      have bl:χ ((w4.alloc (.cells #[(z:Int)] 3)).drew.frozen? ⟨q.p,5,O⟩=false):=by
        unfold χ;rw[jaI (w:=w4) (F.out.block q.p ax)];exact f5
      have ce:(w4.alloc (.cells #[(z:Int)] 3)).cell? ⟨q.p,5,O⟩=S (.slice D v.held.length E):=aR;have bX:χ (v.held.length+1<=maxLen):=by unfold χ maxLen;omega
      have ad:χ (V=⟨v.fV c (k,p),v.h,v.t.set c (k,p),v.held++[z]⟩):=by
        unfold χ;rw[HV.out,if_pos Z];simp
      go_wp2;go_region_law (refine step_append_lies _ (by rfl) _ _ 88 (by rfl) 0 3 i1 (.int .i64 0) 1 8 underlying88 bi be c9 b8 rfl (by decide) (.slice D v.held.length E) v.held.length (kX v.held) (by rfl) bh ⟨w4,0,O⟩ 1 1 [(z:Int)] (by rfl) (by rfl) (jbM bd) (λu hu=>by simp at hu;subst hu;rfl) (by decide) bX (by omega) cb (w4.heap.size+1) av ?_;intro g cap J s C ag ch;have q5:=(C.cell_far ⟨q.p,5,O⟩ aL b2).trans aR;have q6:=(C.frozen_far ⟨q.p,5,O⟩ aL b2).trans bl)
      all_goals
        have b:=i.rim;have cc:(w4.alloc (.cells #[(z:Int)] 3)).drew.grownBy J x.vh.ownBlock:=by rw[M.out];exact C
        have bL:x.vh.ownBlock=S g\/w4.heap.size<=g:=by
          rw[M.out];rcases ag with h|h
          . exact .inl h
          . exact .inr (by omega)
        obtain⟨R,a4⟩:=b.QZ F cc z g cap s bL (ja4 bm bo);rw[show x.p=q.p from o] at R a4
        have bn:χ ((J.setCell ⟨q.p,5,O⟩ (.slice (S ⟨g,0,O⟩) (v.held.length+1) cap)).ownsRow w.heap.size 168 2 (.slice (S ⟨G,0,O⟩) n a) n (bD (v.t.set c (k,p)))):=by
          obtain⟨cG,N⟩:=ownsRow_kind af G rfl;refine bg af λr e=>?_
          have:G=r:=by simpa [Value.ownBlock] using e
          subst this;rw[a4.box N (by decide)];exact N.symm
        obtain⟨ai,ac⟩:=R.sets (g:=G) (cap:=a) (T:=v.t.set c (k,p)) jal (by show World.ownsRow _ 0 _ 2 (.slice (S ⟨G,0,O⟩) v.t.length a) v.t.length _;rw[l.out];exact ownsRow_base bn (ja7 _)) (B.fresh Y H)
        have a0:χ (Led B w q {x with vh:=.slice (S ⟨g,0,O⟩) (v.held.length+1) cap,vt:=.slice (S ⟨G,0,O⟩) n a} V ((J.setCell ⟨q.p,5,O⟩ (.slice (S ⟨g,0,O⟩) (v.held.length+1) cap)).setCell ⟨q.p,4,O⟩ (.slice (S ⟨G,0,O⟩) n a))):=by
          refine⟨i.p,i.dp,λr e=>?_,?_,?_⟩
          . have:G=r:=by simpa [Value.ownBlock] using e
            subst this;exact .inr H
          . rw[ad.out];have:=ai
            simp only[l.out] at this;rw[<- o] at this |-;exact this
          . have:=fM.trans (fM.trans i.kept a4) ac
            simp only[l.out] at this;exact this
        have d4:(J.setCell ⟨q.p,5,O⟩ (.slice (S ⟨g,0,O⟩) (v.held.length+1) cap)).cell? ⟨q.p,4,O⟩=S (.slice (S ⟨P,0,O⟩) n X):=by
          have:=R.cells.2.2.2.2.1
          simp only[a7.out,l.out] at this;exact this
        have d5:(J.setCell ⟨q.p,5,O⟩ (.slice (S ⟨g,0,O⟩) (v.held.length+1) cap)).frozen? ⟨q.p,4,O⟩=false:=by
          have:=R.cells.2.2.2.2.2.2 4
          exact this
        generalize J.setCell ⟨q.p,5,O⟩ (.slice (S ⟨g,0,O⟩) (v.held.length+1) cap)=w7 at a0 d4 d5 |-;go_wp2;go_ret;exact⟨_,by rw[ap.out];rfl,a0⟩
    . have g2:(y0==2)=false:=by simpa using Z
      have ad:χ (V=⟨v.fV c (k,p),v.h,v.t.set c (k,p),v.held⟩):=by
        unfold χ;rw[HV.out,if_neg Z]
      obtain⟨ai,ac⟩:=b.sets (g:=G) (cap:=a) (T:=v.t.set c (k,p)) jal (by show World.ownsRow _ 0 _ 2 (.slice (S ⟨G,0,O⟩) v.t.length a) v.t.length _;rw[l.out];exact ownsRow_base af (ja7 _)) (B.fresh Y H)
      have a0:χ (Led B w q {x with vt:=.slice (S ⟨G,0,O⟩) n a} V (w4.setCell ⟨q.p,4,O⟩ (.slice (S ⟨G,0,O⟩) n a))):=by
        refine⟨i.p,i.dp,λr e=>?_,?_,?_⟩
        . have:G=r:=by simpa [Value.ownBlock] using e
          subst this;exact .inr H
        . rw[ad.out];have:=ai
          rw[show({v with d:=v.fV c (k,p)}:IV).t.length=n from l.out] at this;rw[<- o];exact this
        . have:=fM.trans i.kept ac
          rw[o,show({v with d:=v.fV c (k,p)}:IV).t.length=n from l.out] at this;exact this
      go_wp2;go_ret;exact⟨_,by rw[ap.out];rfl,a0⟩
  . have HV:=ah (a2 I);have L:pf=7:=by rcases ab with h|h;exact absurd h I;exact h
    have H7:=ah L;rw[L];go_wp2;go_ret;exact⟨x,by rw[H7.out];rfl,by rw[HV.out];exact i⟩
def uN{B w w' q v f}(h:aU B w q v)(a:β w w w'):iZ B w q v f (.returned f) w':=⟨q,rfl,Led.below h a⟩
def Zu{B m q v}(c fr:Int)(s:ByteArray)(w)(h:aU B w q v)(o:v.ok m)(hm:m+10<1000000000)(K:B.top<=w)(Y:s.size<=1000)(X : -9223372036854775808<=fr/\fr<=9223372036854775807) :
    κ prog 230 #[q.p,c,fr,s] w (iZ B w q (v.write c fr s) (v.bQ c fr s)):=by
  have b:=ah (uq c w h o.len)
  cases i:o9 v c fr s with
  | false =>
    have G:v.write c fr s=v:=by unfold IV.write;rw[i,if_neg (λh=>by cases h.1)]
    have z:v.bQ c fr s=1:=by unfold IV.bQ;rw[i];rfl
    rw[G,z];have j:χ (iZ B w q v 1 (.returned (1:Int)) w):=uN h (ja0 _ _)
    cases x:v.there c with
    | false =>
      rw[x] at b;go_enter func230,ntmps230;go_wp2_with (go_at_call 185;refine cSt b ?_)
      go_ret;exact j
    | true =>
      have hd:¬(0<=fr/\fr<=4/\s.size % 16=0/\(s.size:Int)<=16*(4-fr)):=by
        unfold o9 at i;rw[x,jbn] at i;exact of_decide_eq_false i
      rw[x] at b;by_cases l:fr<0
      . have g1  := decide_eq_true l;go_enter func230,ntmps230;go_wp2_with (go_at_call 185;refine cSt b ?_)
        go_ret;exact j
      . have g1  := decide_eq_false l;by_cases r:4<fr
        . have g2  := decide_eq_true r;go_enter func230,ntmps230;go_wp2_with (go_at_call 185;refine cSt b ?_)
          go_ret;exact j
        . have g2  := decide_eq_false r;by_cases F:s.size % 16=0
          . have g3:decide (0<(s.size:Int) % 16)=false:=by simp;omega
            have A:decide (16*(4-fr)<(s.size:Int))=true:=by simp;omega
            go_enter func230,ntmps230;go_wp2_with (go_at_call 185;refine cSt b ?_)
            go_ret;exact j
          . have g3:decide (0<(s.size:Int) % 16)=true:=by simp;omega
            go_enter func230,ntmps230;go_wp2_with (go_at_call 185;refine cSt b ?_)
            go_ret;exact j
  | true =>
    obtain⟨l,r,F,T,U⟩:=Eh i;obtain⟨P,M⟩:=IV.oM l;rw[l] at b;have g1:decide (fr<0)=false:=decide_eq_false (by omega);have g2:decide (4<fr)=false:=decide_eq_false (by omega);have g3:decide (0<(s.size:Int) % 16)=false:=by simp;omega
    have A:decide (16*(4-fr)<(s.size:Int))=false:=by simp;omega
    obtain⟨a,rfl⟩:∃ a:Nat,c=(a:Int):=⟨c.toNat,by omega⟩;obtain⟨g,cap,I,_,t0,t1⟩:=h.jZ (c:=a) (by omega);have c4:=h.cells.2.2.2.2.1;rw[I] at *
    have u:χ (v.ent (a:Int)=v.t.getD a (0,0)):=rfl;by_cases k:(v.ent (a:Int)).1=2
    . obtain⟨p0,W,N⟩:=o.place l k;have Q:=HV.dS o.h;have HV:χ (v.write (a:Int) fr s={v with d:=(v.sJ (a:Int) fr s).1}):=by unfold χ IV.write;rw[if_pos ⟨i,k⟩]
      have y:χ (v.bQ (a:Int) fr s=(v.sJ (a:Int) fr s).2):=by unfold χ IV.bQ;rw[i,if_pos rfl,if_pos k]
      have E:χ (κ prog 235 #[q.p,.int .i64 (v.ent (a:Int)).2] w λe w'=>e=.returned (dJ v.h (v.ent (a:Int)).2.toNat:Int)/\w'=w):=by
        have:=Bz (v.ent (a:Int)).2.toNat w h o.h (by omega)
        rw[show(((v.ent (a:Int)).2.toNat:Nat):Int)=(v.ent (a:Int)).2 by omega] at *;exact this
      have D:χ (κ prog 264 #[q.p,((dJ v.h (v.ent (a:Int)).2.toNat:Int)+fr:Int),s] w (iZ B w q (v.write (a:Int) fr s) (v.bQ (a:Int) fr s))):=by
        have:=Ko (dJ v.h (v.ent (a:Int)).2.toNat+fr.toNat) (s.size / 16) s w h o.d (by omega) K (by omega) (by omega) (by omega)
        rw[show(((dJ v.h (v.ent (a:Int)).2.toNat+fr.toNat:Nat):Int))=(dJ v.h (v.ent (a:Int)).2.toNat:Int)+fr by omega] at *
        rw[HV.out,y.out];exact this
      have Z:=o.d.ok.n2;generalize v.write (a:Int) fr s=V at *
      generalize v.bQ (a:Int) fr s=f at *
      rw[<- u.out,k] at t0;rw[<- u.out] at t1;generalize dJ v.h (v.ent (a:Int)).2.toNat=R at *
      generalize (v.ent (a:Int)).2=y1 at *
      generalize v.t.length=n at *
      go_enter func230,ntmps230
      go_wp2_with (first
        | (go_at_call 185;refine cSt b ?_)
        | (go_at_call 235;refine cSt E ?_))
      refine D.mono ?_;rintro e L ⟨q2,rfl,C⟩;have j:χ (iZ B w q V f (.returned f) L):=⟨q2,rfl,C⟩;go_wp2;go_ret;exact j
    . have H:v.write (a:Int) fr s=v:=by unfold IV.write;rw[if_neg (λh=>k h.2)]
      have J:v.bQ (a:Int) fr s=4:=by unfold IV.bQ;rw[i,if_pos rfl,if_neg k]
      rw[H,J];have j:χ (iZ B w q v 4 (.returned (4:Int)) w):=uN h (ja0 _ _);rw[<- u.out] at t0;generalize (v.ent (a:Int)).1=y0 at *
      have g5:(y0 != 2)=true:=by simpa using k
      generalize v.t.length=n at *
      go_enter func230,ntmps230;go_wp2_with (go_at_call 185;refine cSt b ?_)
      go_ret;exact j
def NR{B m q v}(c:Int)(w)(h:aU B w q v)(r:v.ok m)(E:m+10<1000000000)(x:B.top<=w) :
  κ prog 181 #[q.p,c] w (iZ B w q (v.clear c) (v.fF c)):=by
 have o:=ah (uq c w h r.len)
 cases b:v.there c with
 | false =>
  have j:v.clear c=v:=by unfold IV.clear;rw[b,if_neg (λh=>by cases h.1)]
  have k:v.fF c=1:=by unfold IV.fF;rw[b];rfl
  rw[b] at o;rw[j,k];have l:χ (iZ B w q v 1 (.returned (1:Int)) w):=uN h (ja0 _ _);go_enter func181,ntmps181;go_wp2_with (go_at_call 185;refine cSt o ?_)
  go_ret;exact l
 | true =>
  rw[b] at o;obtain⟨D,C⟩:=IV.oM b;obtain⟨a,rfl⟩:∃ a:Nat,c=(a:Int):=⟨c.toNat,by omega⟩;obtain⟨g,cap,u,_,t0,t1⟩:=h.jZ (c:=a) (by omega);have c4:=h.cells.2.2.2.2.1;rw[u] at *
  have y:χ (v.ent (a:Int)=v.t.getD a (0,0)):=rfl;rw[<- y.out] at t0;by_cases i:(v.ent (a:Int)).1=1
  .have j:v.clear (a:Int)=v:=by unfold IV.clear;rw[if_neg (λh=>h.2 i)]
   have k:v.fF (a:Int)=0:=by unfold IV.fF;rw[b,if_pos rfl,if_pos i]
   rw[j,k];rw[i] at t0;have l:χ (iZ B w q v 0 (.returned (0:Int)) w):=uN h (ja0 _ _);generalize v.t.length=n at *
   go_enter func181,ntmps181;go_wp2_with (go_at_call 185;refine cSt o ?_)
   go_ret;exact l
  .have A:χ (κ prog 232 #[q.p,(a:Int),.agg #[(1:Int),(0:Int)]] w (iZ B w q (v.clear (a:Int)) (v.fF (a:Int)))):=by
    have:=KA a 1 0 w h r (by omega) x (by omega) (lI (.inr ⟨.inr rfl,rfl⟩))
    have j:v.clear (a:Int)=v.set a (1,0):=by unfold IV.clear;rw[if_pos ⟨b,i⟩];rfl
    have k:v.fF (a:Int)=v.d.aV:=by unfold IV.fF;rw[b,if_pos rfl,if_neg i]
    rw[j,k];exact this
   generalize v.clear (a:Int)=V at *
   generalize v.fF (a:Int)=f at *
   generalize (v.ent (a:Int)).1=y0 at *
   have g1:(y0==1)=false:=by simpa using i
   generalize v.t.length=n at *
   go_enter func181,ntmps181;go_wp2_with (go_at_call 185;refine cSt o ?_)
   refine A.mono ?_;rintro e z ⟨q2,rfl,s⟩;have l:χ (iZ B w q V f _ z):=⟨q2,rfl,s⟩;go_wp2;go_ret;exact l
def QF{v:IV}{k}(h:v.iY k=[])(a:v.jE k=false):v.iY (k+1)=[]:=by
 rw[v.BL,h,if_neg (by simp_all)];rfl
def QD{v:IV}{k n}(h:v.iY k=[])(a:v.jE k=true)(c:k<n):∃ r,v.iY n=k::r:=by
 have e:v.iY n=v.iY (k+1)++((List.range' (k+1) (n-(k+1))).filter v.jE):=by
  unfold IV.iY;rw[<- List.filter_append];congr 1;have b:List.range' 0 (k+1)++List.range' (0+(k+1)) (n-(k+1))=List.range' 0 ((k+1)+(n-(k+1))):=by rw[List.range'_append_1]
  rw[jak] at *
  rw[List.range_eq_range',List.range_eq_range',b];congr 1;omega
 rw[e,v.BL,h,if_pos a];simp_all
def Qu{B m q v}(c:Int)(s:ByteArray)(w)(h:aU B w q v)(o:v.ok m)(hm:m+10<1000000000)(hB:B.top<=w) :
  κ prog 231 #[q.p,c,s] w (iZ B w q (v.fill c s) (v.dH c s)):=by
 have A:=ah (uq c w h o.len);have K:χ (∀ f:Int,iZ B w q v f (.returned f) w):=λf=>uN h (ja0 _ _)
 by_cases J:v.there c=true/\s.size=64
 .obtain⟨l,u⟩:=J;rw[l] at A;obtain⟨ax,aw⟩:=IV.oM l;obtain⟨j,rfl⟩:∃ j:Nat,c=(j:Int):=⟨c.toNat,by omega⟩;obtain⟨g,cap,hv,_,t0,t1⟩:=h.jZ (c:=j) (by omega);have c4:=h.cells.2.2.2.2.1;have c2:=h.cells.2.2.1;rw[hv] at *
  have al:χ (v.ent (j:Int)=v.t.getD j (0,0)):=rfl;rw[<- al.out] at t0;have k0:(0:Int)<=(j:Int):=by omega
  have a8:((s.size:Int) != 64)=false:=by simp;omega
  by_cases y:(v.ent (j:Int)).1=2
  .have X:v.fill (j:Int) s=v:=by unfold IV.fill;rw[if_pos ⟨l,u⟩,if_pos y]
   have R:v.dH (j:Int) s=5:=by unfold IV.dH;rw[if_pos ⟨l,u⟩,if_pos y]
   rw[X,R];rw[y] at t0;generalize v.t.length=n at *
   go_enter func231,ntmps231;go_wp2_with (go_at_call 185;refine cSt A ?_)
   go_ret;exact K 5
  .have af:=HV.dS o.h;have a6:=o.len;have aq:=o.few;have ao:=o.d.ok.n2;obtain⟨P,Q⟩:∃ P:Nat,v.h.p=(P:Int):=⟨v.h.p.toNat,by omega⟩;have M:v.jC=v.iY P:=by unfold IV.jC;rw[Q];rfl
   have a0:=ah λk=>UJ k w h (by omega) (by omega)
   have a3:χ (v.iY P=[]->v.fill (j:Int) s=v/\v.dH (j:Int) s=6):=λz=>by
    have Y:v.jC=[]:=M.trans z;constructor
    .unfold IV.fill;rw[if_pos ⟨l,u⟩,if_neg y,Y]
    .unfold IV.dH;rw[if_pos ⟨l,u⟩,if_neg y,Y]
   have a2:χ (∀(k:Nat),v.iY k=[]->v.jE k=true->k<P ->
     (κ prog 235 #[q.p,(k:Int)] w λe w'=>e=.returned (dJ v.h k:Int)/\w'=w) /\
     (κ prog 264 #[q.p,(dJ v.h k:Int),s] w (iZ B w q {v with d:=(v.fP k s).1} (v.fP k s).2)) /\
     ((v.fP k s).2=0\/(v.fP k s).2=7) /\
     ((v.fP k s).2≠0->v.fill (j:Int) s={v with d:=(v.fP k s).1}/\v.dH (j:Int) s=(v.fP k s).2) /\
     ((v.fP k s).2=0->v.fill (j:Int) s=(v.kJ k s).set j (2,(k:Int))/\v.dH (j:Int) s=(v.kJ k s).d.aV) /\
     (∀(W:ω) (x:Qh),aU B W x {v with d:=(v.fP k s).1}->x.p=q.p->κ prog 120 #[q.p] W λe w'=>∃ q':Qh,e=.returned (.tuple #[])/\Led B W x q' (v.kJ k s) w') /\
     (∀(W:ω) (x:Qh),aU B W x (v.kJ k s)->x.p=q.p->B.top<=W.heap.size->κ prog 232 #[q.p,(j:Int),.agg #[(2:Int),(k:Int)]] W (iZ B W x ((v.kJ k s).set j (2,(k:Int))) (v.kJ k s).d.aV))):=λk ae ad a7=>by
    obtain⟨r,hr⟩:=QD ae ad a7;have F:v.jC=k::r:=M.trans hr;have T:k∈v.jC:=by rw[F];exact jai
    have aD:=(nK o.h o.need).2 k (by omega);refine⟨Bz k w h o.h (by omega),?_,DV.rO _ _ _ _,λz=>?_,λz=>?_,λW x N U=>?_,λW x N U hb=>?_⟩
    .exact Ko (dJ v.h k) 4 s w h o.d (by omega) hB (by omega) (by omega) (by omega)
    .constructor
     .unfold IV.fill;rw[if_pos ⟨l,u⟩,if_neg y,F];show(if (v.fP k s).2=0 then _ else _)=_;rw[if_neg z]
     .unfold IV.dH;rw[if_pos ⟨l,u⟩,if_neg y,F];show(if (v.fP k s).2=0 then _ else _)=_;rw[if_neg z]
    .constructor
     .unfold IV.fill;rw[if_pos ⟨l,u⟩,if_neg y,F];show(if (v.fP k s).2=0 then _ else _)=_;rw[if_pos z];rfl
     .unfold IV.dH;rw[if_pos ⟨l,u⟩,if_neg y,F];show(if (v.fP k s).2=0 then _ else _)=_;rw[if_pos z]
    .rw[<- U];exact yI W N (o.fP T u (by omega))
    .rw[<- U];exact KA j 2 (k:Int) W N (o.kJ T u (by omega)) (by omega) hb (by show j<v.t.length;omega) (BM o T)
   have a5:χ (v.iY 0=[]):=rfl;have a1:=ah λk (a:v.iY k=[]) (b:v.jE k=false)=>QF a b
   have av:P<=40:=by omega
   rw[Q] at c2;have ar:χ (∀ k,(dJ v.h k:Int)=1+(aB v.h.c.toNat:Int)+4*(k:Int)):=λk=>by unfold dJ;omega
   clear o af a6 aq ao M Q u l;generalize (v.ent (j:Int)).1=y0 at *
   have g2:(y0==2)=false:=by simpa using y
   have HI:=ah h;generalize v.fill (j:Int) s=V at *
   generalize v.dH (j:Int) s=f at *
   generalize v.t.length=n at *
   go_enter func231,ntmps231;go_wp2_with (go_at_call 185;refine cSt A ?_)
   go_loop [7] (λi=>∃ k:Nat,k<=P/\i=.int .i64 k/\v.iY k=[]) (λi=>P-(intOf i).toNat)
   case atStart=>exact⟨0,ja7 _,rfl,a5⟩
   case round =>
    obtain⟨k,hk,rfl,I⟩:=hrel;by_cases ac:k<P
    .have HO:=ah (a0 k);have ai:=a2 k I;have ap:=a1 k I;generalize az:v.jE k=ob at *
     cases ob with
     | false =>
      have HX:=ah (ap rfl);go_wp2_with (go_at_call 265;refine cSt HO ?_)
      go_round
      case rel=>exact⟨k+1,by omega,by go_num,HX⟩
      case measure=>simp[intOf];omega
     | true =>
      obtain⟨x,q2,q3,q4,q5,q6,q7⟩:=ai rfl ac;have Q1:=ah x;have Q2:=ah q2;have Q3:=ah q3;have Q4:=ah q4;have Q5:=ah q5;have Q6:=ah q6;have Q7:=ah q7;have gP:((k:Int)==(P:Int))=false:=by simp;omega
      generalize dJ v.h k=bn at *
      generalize (v.fP k s).2=f1 at *
      generalize (v.kJ k s).d.aV=f2 at *
      go_wp2_with (first
       | (go_at_call 265;refine cSt HO ?_)
       | (go_at_call 235;refine cSt Q1 ?_))
      refine Q2.mono ?_;rintro e w3 ⟨Z,rfl,an⟩;have E:=ah an;by_cases L:f1=0
      .obtain⟨D,C⟩:=Q5 L;have aa:=ah D;have am:=ah C;have Q8:=ah (Q6 w3 Z E.rim E.p);rw[L];go_wp2_with fail;refine Q8.mono ?_;rintro e w4 ⟨r4,rfl,H⟩;have a9:=ah (E.trans H);have Q9:=ah (Q7 w4 r4 H.rim (H.p.trans E.p) (ja4 hB (E.trans H).kept.size));go_wp2_with fail;refine Q9.mono ?_;rintro e w5 ⟨r5,rfl,ag⟩;have G:χ (iZ B w q V f (.returned f2) w5):=⟨r5,by rw[am.out],by rw[aa.out];exact a9.trans ag⟩;go_wp2;go_ret;exact G
      .obtain⟨D,C⟩:=Q4 L;have h7:f1=7:=by rcases Q3 with h|h;exact absurd h L;exact h
       have G:χ (iZ B w q V f (.returned (7:Int)) w3):=⟨Z,by rw[C,h7],by rw[D];exact E⟩;rw[h7];go_wp2;go_ret;exact G
    .have ab:k=P:=by omega
     subst ab;obtain⟨D,C⟩:=a3 I;have G:χ (iZ B w q V f (.returned (6:Int)) w):=by rw[D,C];exact K 6
     clear I a2 a0 a1 a3 D C;go_wp2;go_ret;exact G
 .have a4:v.there c=false\/s.size≠64:=by
   cases l:v.there c with
   | false=>exact .inl rfl
   | true=>exact .inr λe=>J ⟨l,e⟩
  have X:v.fill c s=v:=by unfold IV.fill;rw[if_neg J]
  have R:v.dH c s=1:=by unfold IV.dH;rw[if_neg J]
  rw[X,R]
  cases l:v.there c with
  | false =>
   rw[l] at A;go_enter func231,ntmps231;go_wp2_with (go_at_call 185;refine cSt A ?_)
   go_ret;exact K 1
  | true =>
   rw[l] at A a4;have u:s.size≠64:=by rcases a4 with h|h;cases h;exact h
   have a8:((s.size:Int) != 64)=true:=by simp;omega
   go_enter func231,ntmps231;go_wp2_with (go_at_call 185;refine cSt A ?_)
   go_ret;exact K 1
def Gd.no:Gd:=⟨λ_=>False,0,λ_ h=>h.elim⟩
def Gd.but(w:ω)(S:Nat->Prop):Gd:=⟨λk=>k<w.heap.size/\¬S k,w.heap.size,λ_ h=>h.1⟩
structure Moved(S:Nat->Prop)(w:ω)(S':Nat->Prop)(w':ω):Prop where
 kept:Kept S w w'
 new:∀ k,S' k->S k\/w.heap.size<=k
theorem Moved.trans{S g d w f i}(a:Moved S w g f)(b:Moved g f d i):Moved S w d i :=
 ⟨⟨b.kept.os.trans a.kept.os,b.kept.tape.trans a.kept.tape,b.kept.output.trans a.kept.output,ja4 a.kept.size b.kept.size,λk c j=>by
  rw[b.kept.block k (ja8 c a.kept.size) (λl=>by rcases a.new k l with h|h;exact j h;omega),a.kept.block k c j]⟩,λk c=>by
  rcases b.new k c with h|h
  .exact a.new k h
  .exact .inr (ja4 a.kept.size h)⟩
def Moved.of_below{S}{w w':ω}(h:β w w w'):Moved S w S w':=⟨Below.kept h,λ_ h=>.inl h⟩
theorem Moved.refl(S w):Moved S w S w:=⟨Kept.refl _ _,λ_ h=>.inl h⟩
theorem Moved.size{S a w w'}(h:Moved S w a w'):w.heap.size<=w':=h.kept.size
theorem Moved.block{S a w w'}(h:Moved S w a w'){k:Nat}(b:k<w)(c:¬S k):w'.heap[k]?=w.heap[k]?:=h.kept.block k b c
def Moved.cell{S a w w'}(h:Moved S w a w'){p:Addr}(b:p.block<w)(c:¬S p.block):w'.cell? p=w.cell? p:=jab (h.block b c)
def Moved.out{S a w w'}(h:Moved S w a w'){k:Nat}(d:k<w)(c:¬S k):¬a k:=λe=>by
 rcases h.new k e with b|b
 .exact c b
 .omega
theorem Moved.below{S a w w'}{B:Nat}(h:Moved S w a w')(b:B<=w)(c:∀ k,S k->B<=k):β B w w':=h.kept.below b c
theorem aI.but{B w x v}(h:aI B w x v):aI (Gd.but w x.fp) w x v:=h.re λ_ a b=>b.2 a
theorem aU.but{B w q v}(h:aU B w q v):aU (Gd.but w q.fp) w q v:=h.re λ_ a b=>b.2 a
def oz{S c w w' T}(d:Kept T w w')(f:∀ k,T k->¬(Gd.but w S).g k)(j:∀ k,c k->¬(Gd.but w S).g k):Moved S w c w' :=
 ⟨d.mono λk a i=>jag λb=>f k i ⟨a,b⟩,λk h=>by
  rcases jav k _ with a|a
  .exact .inl (jag λb=>j k h ⟨a,b⟩)
  omega⟩
theorem Did.exact{w w' x V f e}(hd:Did (Gd.but w x.fp) w x V f e w') :
  ∃ x',e=.returned (erV f)/\x'.p=x.p/\x'.h.p=x.h.p/\aI Gd.no w' x' V/\Moved x.fp w x'.fp w':=by
 obtain⟨y,d,b,a,c⟩:=hd;exact⟨{x with h:=y},d,rfl,b,a.re λ_ _ h=>h,oz c (λ_ h=>h.1) a.out⟩
theorem iZ.exact{w w' q V f e}(hd:iZ (Gd.but w q.fp) w q V f e w') :
  ∃ a,e=.returned f/\a.p=q.p/\a.d.p=q.d.p/\aU Gd.no w' a V/\Moved q.fp w a.fp w':=by
 obtain⟨a,c,b⟩:=hd;exact⟨a,c,b.p,b.dp,b.rim.re λ_ _ h=>h,oz b.kept (λ_ h=>h.1) b.rim.out⟩
def Nums(w:ω)(a:Option Addr)(l:List Int):Prop:=∀ k,k<l.length->∃ g o,a=S ⟨g,o,O⟩/\w.cell? ⟨g,o+k,O⟩=S (.int .i64 (l.getD k 0))
def Nums.keep{w w' a l}(h:Nums w a l)(c:∀ g o,a=S ⟨g,o,O⟩->w'.heap[g]?=w.heap[g]?):Nums w' a l:=λk d=>by
 obtain⟨g,o,b,f⟩:=h k d;exact⟨g,o,b,by rw[jab (c g o b)];exact f⟩
def Nums.lt{w a l}(h:Nums w a l)(f:l≠[]){g o}(e:a=S ⟨g,o,O⟩):g<w:=by
 cases l with
 | nil=>simp_all
 | cons n r =>
  obtain⟨i,d,c,b⟩:=h 0 (by simp);rw[e] at *
  cases c;exact ja2 _ _ b
def Nums.nil(w a):Nums w a []:=λ_ h=>by cases h
def Nums.below{w w' a l}(h:Nums w a l)(c:β w w w'):Nums w' a l:=by
 by_cases b:l=[]
 .rw[b];exact Nums.nil _ _
 .exact h.keep λg o e=>c.block g (h.lt b e)
def Apart(a:Option Addr)(S:Nat->Prop):Prop:=∀ g o,a=some ⟨g,o,O⟩->¬S g
def Nums.moved{S c w w' a l}(h:Nums w a l)(d:Moved S w c w')(f:Apart a S):Nums w' a l:=by
 by_cases b:l=[]
 .rw[b];exact Nums.nil _ _
 .exact h.keep λg o e=>d.block (h.lt b e) (f g o e)
def Apart.moved{S b w w' a l}(d:Apart a S)(h:Nums w a l)(f:l≠[])(c:Moved S w b w'):Apart a b:=λg o e=>c.out (h.lt f e) (d g o e)
def zA(f:Int):Value:=.int .i64 f
def bZ(x:Qh):Option IV->υ
 | none=>.pointer O
 | some _=>.pointer (S ⟨x.p,0,O⟩)
def fpQ(a:Nat->Qh)(s:SV)(k:Nat):Prop:=∃ i,i<5/\s i≠O/\(a i).fp k
def jL(a:Nat->Qh)(i:Nat)(x:Qh):Nat->Qh:=λj=>if j=i then x else a j
structure bJ(w:ω)(sp:Nat)(xs:Nat->Qh)(s:SV)(m:Nat):Prop where
 blk:w.heap[sp]?=S (.cells #[bZ (xs 0) (s 0),bZ (xs 1) (s 1),bZ (xs 2) (s 2),bZ (xs 3) (s 3),bZ (xs 4) (s 4)] 87 (0,0))
 img:∀ i v,i<5->s i=S v->aU Gd.no w (xs i) v
 ok:s.ok m
 apart:∀ i j,i<5->j<5->i≠j->s i≠O->s j≠O->∀ k,(xs i).fp k->¬(xs j).fp k
theorem bJ.more{w sp m m' a s}(h:bJ w sp a s m)(b:m<=m'):bJ w sp a s m':=⟨h.blk,h.img,h.ok.more b,h.apart⟩
theorem bJ.iH{w sp m b s}(h:bJ w sp b s m){k}(d:fpQ b s k):k<w:=by
 obtain⟨i,g,f,c⟩:=d
 cases a:s i with
 | none=>exact absurd a f
 | some v=>exact(h.img i v g a).iH k c
def aU.wG{B w x v}(h:aU B w x v){k g t}(c:w.heap[k]?=S (.cells g t (0,0)))(a:¬(t=127\/t=9\/t=3\/t=146\/t=168)):¬x.fp k:=by
 rintro(rfl|hk|hk|hk)
 .have:=h.blk
  rw[c] at this;cases this;exact a (.inr (.inr (.inr (.inl rfl))))
 .obtain⟨f,b⟩:=ownsRow_kind h.own k hk;rw[c] at b;cases b;exact a (.inr (.inr (.inr (.inr rfl))))
 .obtain⟨f,b⟩:=ownsRow_kind h.held k hk;rw[c] at b;cases b;exact a (.inr (.inr (.inl rfl)))
 .obtain⟨f,t2,d,p⟩:=h.dev.kinds k hk;rw[c] at d;cases d;rcases p with p|p|p
  .exact a (.inl p)
  .exact a (.inr (.inl p))
  .exact a (.inr (.inr (.inl p)))
def bJ.tV{w sp m b s}(h:bJ w sp b s m){k c t}(f:w.heap[k]?=S (.cells c t (0,0)))(d:¬(t=127\/t=9\/t=3\/t=146\/t=168)):¬fpQ b s k:=by
 rintro⟨i,hi,hs,hf⟩
 cases a:s i with
 | none=>exact absurd a hs
 | some v=>exact(h.img i v hi a).wG f d hf
def bJ.tX{w sp m a s}(h:bJ w sp a s m):¬fpQ a s sp:=h.tV h.blk (by decide)
def bJ.keep{w w' sp m a s}(h:bJ w sp a s m)(d:w'.heap[sp]?=w.heap[sp]?)(g:∀ k,fpQ a s k->w'.heap[k]?=w.heap[k]?):bJ w' sp a s m :=
 ⟨by rw[d];exact h.blk,λi v c b=>(h.img i v c b).aY λk f=>g k ⟨i,c,(by rw[b];intro e;cases e),f⟩,h.ok,h.apart⟩
def bJ.below{w w' sp m a s}(h:bJ w sp a s m)(b:β w w w'):bJ w' sp a s m :=
 h.keep (b.block _ (lt_of_some h.blk)) λ_ c=>b.block _ (h.iH c)
def bJ.beside{S d w w' sp m a s}(h:bJ w sp a s m)(b:Moved S w d w')(f:¬S sp)(g:∀ k,fpQ a s k->¬S k):bJ w' sp a s m :=
 h.keep (b.block (lt_of_some h.blk) f) λk c=>b.block (h.iH c) (g k c)
def bJ.cell{w sp m a s}(h:bJ w sp a s m){i}(b:i<5):w.cell? ⟨sp,i,O⟩=S (bZ (a i) (s i)):=by
 rw[cell_of_row w sp _ _ _ _ h.blk]
 match i,b with
 | 0,_=>rfl
 | 1,_=>rfl
 | 2,_=>rfl
 | 3,_=>rfl
 | 4,_=>rfl
def bJ.kU{w sp m a s}(h:bJ w sp a s m){n v}(b:s.file n=S v):w.cell? ⟨sp,n.toNat,O⟩=S ((a n.toNat).p:υ):=by
 obtain⟨f,d,c⟩:=SV.eG b;rw[h.cell (by omega),c];rfl
def bJ.iM{w sp m b s}(h:bJ w sp b s m){n v}(c:s.file n=S v):aU Gd.no w (b n.toNat) v/\v.ok m:=by
 obtain⟨f,d,a⟩:=SV.eG c;exact⟨h.img _ v (by omega) a,h.ok _ v a⟩
structure jX(xs:Nat->Qh)(s:SV)(w:ω)(xs':Nat->Qh)(z:SV)(w':ω):Prop extends Moved (fpQ xs s) w (fpQ xs' z) w' where
 dp:∀ i,i<5->s i≠O->z i≠O/\(xs' i).d.p=(xs i).d.p
theorem jX.of_below{a s}{w w':ω}(h:β w w w'):jX a s w a s w':=⟨Moved.of_below h,λ_ _ h=>⟨h,rfl⟩⟩
theorem jX.refl(a s w):jX a s w a s w:=⟨Moved.refl _ _,λ_ _ h=>⟨h,rfl⟩⟩
theorem jX.trans{j g d s k f w c l}(a:jX j s w g k c)(b:jX g k c d f l):jX j s w d f l :=
 ⟨a.toMoved.trans b.toMoved,λi m h=>by
  obtain⟨q,n⟩:=a.dp i m h;obtain⟨r,o⟩:=b.dp i m q
  exact⟨r,o.trans n⟩⟩
def bJ.lG{w w' sp m m' f s}(h:bJ w sp f s m){n v V}(U:s.file n=S v){x'}(X:m<=m')(Z:V.ok m')(M:x'.p=(f n.toNat).p)(H:x'.d.p=(f n.toNat).d.p)(W:aU Gd.no w' x' V)(l:Moved (f n.toNat).fp w x'.fp w') :
  bJ w' sp (jL f n.toNat x') (s.upd n.toNat V) m'/\jX f s w (jL f n.toNat x') (s.upd n.toNat V) w':=by
 obtain⟨h0,h1,B⟩:=SV.eG U;have G:n.toNat<5:=by omega
 have z:s n.toNat≠none:=by rw[B];intro e;cases e
 generalize n.toNat=i at M H l B G z |-;have E:∀ k,(f i).fp k->fpQ f s k:=λk c=>⟨i,G,z,c⟩
 have Y:¬(f i).fp sp:=λe=>h.tX (E _ e)
 have C:∀ j,s.upd i V j≠O->s j≠none:=λj g=>by
  unfold SV.upd at g;split at g
  .next e=>rw[e];exact z
  .exact g
 have D:∀ j,j<5->j≠i->s j≠O->∀ k,(f j).fp k->k<w.heap.size/\¬(f i).fp k:=λj g R q k c=>⟨h.iH ⟨j,g,q,c⟩,h.apart j i g G R q z k c⟩
 refine⟨⟨?_,?_,h.ok.upd X Z,?_⟩,⟨⟨l.kept.mono λk _ c=>E k c,?_⟩,λj _ q=>?_⟩⟩
 .rw[l.block (lt_of_some h.blk) Y,h.blk]
  have t:∀ j,bZ (jL f i x' j) (s.upd i V j)=bZ (f j) (s j):=λj=>by
   unfold jL SV.upd;by_cases e:j=i
   .rw[if_pos e,if_pos e,e,B];show Value.pointer (S ⟨x'.p,0,O⟩)=_;rw[M];rfl
   .rw[if_neg e,if_neg e]
  rw[t,t,t,t,t]
 .intro j u g o;unfold SV.upd at o;unfold jL;by_cases e:j=i
  .rw[if_pos e] at o |-;cases o;exact W
  .rw[if_neg e] at o |-
   exact(h.img j u g o).aY λk c=>by
    obtain⟨x,y⟩:=D j g e (by rw[o];intro e;cases e) k c;exact l.block x y
 .intro a b N J I Q T k c;have L:=C a Q;have K:=C b T;unfold jL at c |-;by_cases A:a=i
  .have r:b≠i:=λe=>I (by rw[A,e])
   rw[if_pos A] at c;rw[if_neg r];intro P;obtain⟨x,y⟩:=D b J r K k P;exact l.out x y c
  .rw[if_neg A] at c;by_cases r:b=i
   .rw[if_pos r];obtain⟨x,y⟩:=D a N A L k c;exact l.out x y
   .rw[if_neg r];exact h.apart a b N J I L K k c
 .rintro k ⟨j,g,q,c⟩;unfold jL at c;by_cases e:j=i
  .rw[if_pos e] at c;rcases l.new k c with F|F
   .exact .inl (E k F)
   .exact .inr F
  .rw[if_neg e] at c;exact .inl ⟨j,g,C j q,c⟩
 .unfold jL SV.upd;by_cases e:j=i
  .rw[if_pos e,if_pos e,e];exact⟨(by intro e;cases e),H⟩
  .rw[if_neg e,if_neg e];exact⟨q,rfl⟩
def bK(w:ω)(sp:Nat)(b:Nat->Qh)(s:SV)(m:Nat)(R:SV × Int)(e:Ending)(w':ω):Prop :=
 ∃ a:Nat->Qh,e=.returned (zA R.2)/\bJ w' sp a R.1 m/\jX b s w a R.1 w'
def bK.of{w sp m m' a s}(h:bJ w sp a s m){n v V}(b:s.file n=S v)(g:m<=m')(q:V.ok m'){f e w'}
  (hd:iZ (Gd.but w (a n.toNat).fp) w (a n.toNat) V f e w'):bK w sp a s m' (s.upd n.toNat V,f) e w':=by
 obtain⟨x',k,c,d,j,o⟩:=hd.exact;obtain⟨i,l⟩:=h.lG b g q c d j o;exact⟨_,k,i,l⟩
def bK.from{w:ω}{a w' sp m b s R e}(h:bK a sp b s m R e w')(i:β w w a):bK w sp b s m R e w':=by
 obtain⟨c,f,d,g⟩:=h;exact⟨c,f,d,(jX.of_below i).trans g⟩
def bK.same{w w' sp m a s f}(h:bJ w sp a s m)(b:β w w w'):bK w sp a s m (s,f) (.returned (zA f)) w':=⟨a,rfl,h.below b,jX.of_below b⟩
def jh(x:Ih):Option IV->υ
 | none=>.pointer O
 | some _=>.pointer (S ⟨x.p,0,O⟩)
def fpS(a:Nat->Ih)(s:SV)(k:Nat):Prop:=∃ i,i<5/\s i≠O/\(a i).fp k
def sF(a:Nat->Ih)(i:Nat)(x:Ih):Nat->Ih:=λj=>if j=i then x else a j
structure bH(w:ω)(sp:Nat)(xs:Nat->Ih)(s:SV)(m:Nat):Prop where
 is_:∃ cur,w.heap[sp]?=S (.cells cur 74 (0,0))/\(∀ i,i<5->cur[6+i]?=S (jh (xs i) (s i)))/\∀ i,i<5->s i≠O->cur[i]?=S ((xs i).h.p:υ)
 img:∀ i v,i<5->s i=S v->aI Gd.no w (xs i) v
 ok:s.ok m
 apart:∀ i j,i<5->j<5->i≠j->s i≠O->s j≠O->∀ k,(xs i).fp k->¬(xs j).fp k
def bH.is{w sp m d s}(h:bH w sp d s m):∃ a,w.heap[sp]?=S (.cells a 74 (0,0)):=by
 obtain⟨c,b,_,_⟩:=h.is_;exact⟨c,b⟩
def bH.lt{w sp m b s}(h:bH w sp b s m):sp<w:=by
 obtain⟨c,a⟩:=h.is;exact lt_of_some a
theorem bH.more{w sp m m' a s}(h:bH w sp a s m)(b:m<=m'):bH w sp a s m':=⟨h.is_,h.img,h.ok.more b,h.apart⟩
theorem bH.iH{w sp m b s}(h:bH w sp b s m){k}(d:fpS b s k):k<w:=by
 obtain⟨i,g,f,c⟩:=d
 cases a:s i with
 | none=>exact absurd a f
 | some v=>exact(h.img i v g a).iH k c
def aI.wG{B w x v}(h:aI B w x v){k g t}(d:w.heap[k]?=S (.cells g t (0,0)))(a:¬(t=178\/t=175\/t=180\/t=235\/t=168)):¬x.fp k:=by
 rintro(rfl|rfl|rfl|hk)
 .have:=h.blk
  rw[d] at this;cases this;exact a (.inr (.inr (.inr (.inl rfl))))
 .obtain⟨j,c,b⟩:=uY h.map;rw[d] at b;cases b
 .obtain⟨_,i,b⟩:=h.tb;rw[d] at b;cases b;exact a (.inr (.inr (.inr (.inr rfl))))
 .obtain⟨i,t2,f,p⟩:=h.dev.kinds k hk;rw[d] at f;cases f;rcases p with p|p|p
  .exact a (.inl p)
  .exact a (.inr (.inl p))
  .exact a (.inr (.inr (.inl p)))
def bH.tV{w sp m b s}(h:bH w sp b s m){k c t}(f:w.heap[k]?=S (.cells c t (0,0)))(d:¬(t=178\/t=175\/t=180\/t=235\/t=168)):¬fpS b s k:=by
 rintro⟨i,hi,hs,hf⟩
 cases a:s i with
 | none=>exact absurd a hs
 | some v=>exact(h.img i v hi a).wG f d hf
def bH.tX{w sp m a s}(h:bH w sp a s m):¬fpS a s sp:=by
 obtain⟨c,b⟩:=h.is;exact h.tV b (by decide)
def bH.keep{w w' sp m a s}(h:bH w sp a s m)(d:w'.heap[sp]?=w.heap[sp]?)(g:∀ k,fpS a s k->w'.heap[k]?=w.heap[k]?):bH w' sp a s m :=
 ⟨by rw[d];exact h.is_,λi v c b=>(h.img i v c b).aY λk f=>g k ⟨i,c,(by rw[b];intro e;cases e),f⟩,h.ok,h.apart⟩
def bH.below{w w' sp m a s}(h:bH w sp a s m)(b:β w w w'):bH w' sp a s m :=
 h.keep (b.block _ h.lt) λ_ c=>b.block _ (h.iH c)
def bH.beside{S d w w' sp m a s}(h:bH w sp a s m)(b:Moved S w d w')(f:¬S sp)(g:∀ k,fpS a s k->¬S k):bH w' sp a s m :=
 h.keep (b.block h.lt f) λk c=>b.block (h.iH c) (g k c)
def bH.cell{w sp m a s}(h:bH w sp a s m){i}(f:i<5):w.cell? ⟨sp,6+i,O⟩=S (jh (a i) (s i)):=by
 obtain⟨c,d,b,_⟩:=h.is_;rw[cell_of_row w sp _ _ _ _ d];exact b i f
def bH.kU{w sp m a s}(h:bH w sp a s m){n v}(b:s.file n=S v):w.cell? ⟨sp,6+n.toNat,O⟩=S ((a n.toNat).p:υ):=by
 obtain⟨f,d,c⟩:=SV.eG b;rw[h.cell (by omega),c];rfl
def bH.iM{w sp m b s}(h:bH w sp b s m){n v}(c:s.file n=S v):aI Gd.no w (b n.toNat) v/\v.ok m:=by
 obtain⟨f,d,a⟩:=SV.eG c;exact⟨h.img _ v (by omega) a,h.ok _ v a⟩
def bH.lG{w w' sp m m' g s}(h:bH w sp g s m){n v V}(W:s.file n=S v){x'}(Z:m<=m')(hV:V.ok m')(L:x'.p=(g n.toNat).p)(I:x'.h.p=(g n.toNat).h.p)(Y:aI Gd.no w' x' V)(l:Moved (g n.toNat).fp w x'.fp w') :
  bH w' sp (sF g n.toNat x') (s.upd n.toNat V) m'/\Moved (fpS g s) w (fpS (sF g n.toNat x') (s.upd n.toNat V)) w':=by
 obtain⟨h0,h1,B⟩:=SV.eG W;have F:n.toNat<5:=by omega
 have y:s n.toNat≠none:=by rw[B];intro e;cases e
 generalize n.toNat=i at L I l B F y |-;have D:∀ k,(g i).fp k->fpS g s k:=λk d=>⟨i,F,y,d⟩
 have a0:¬(g i).fp sp:=λe=>h.tX (D _ e)
 have z:∀ j,s.upd i V j≠O->s j≠none:=λj f=>by
  unfold SV.upd at f;split at f
  .next e=>rw[e];exact y
  .exact f
 have C:∀ j,j<5->j≠i->s j≠O->∀ k,(g j).fp k->k<w.heap.size/\¬(g i).fp k:=λj f R q k d=>⟨h.iH ⟨j,f,q,d⟩,h.apart j i f F R q y k d⟩
 refine⟨⟨?_,?_,h.ok.upd Z hV,?_⟩,⟨l.kept.mono λk _ d=>D k d,?_⟩⟩
 .obtain⟨c,X,h9,P⟩:=h.is_;refine⟨c,(l.block h.lt a0).trans X,λj f=>?_,λj f q=>?_⟩
  rotate_left
  .rw[P j f (z j q)];unfold sF;by_cases e:j=i
   .rw[if_pos e,I,e]
   .rw[if_neg e]
  have U:∀ j,jh (sF g i x' j) (s.upd i V j)=jh (g j) (s j):=λj=>by
   unfold sF SV.upd;by_cases e:j=i
   .rw[if_pos e,if_pos e,e,B];show Value.pointer (S ⟨x'.p,0,O⟩)=_;rw[L];rfl
   .rw[if_neg e,if_neg e]
  rw[U];exact h9 j f
 .intro j u f o;unfold SV.upd at o;unfold sF;by_cases e:j=i
  .rw[if_pos e] at o |-;cases o;exact Y
  .rw[if_neg e] at o |-
   exact(h.img j u f o).aY λk d=>by
    obtain⟨t,x⟩:=C j f e (by rw[o];intro e;cases e) k d;exact l.block t x
 .intro a b M H G Q T k d;have K:=z a Q;have J:=z b T;unfold sF at d |-;by_cases A:a=i
  .have r:b≠i:=λe=>G (by rw[A,e])
   rw[if_pos A] at d;rw[if_neg r];intro N;obtain⟨t,x⟩:=C b H r J k N;exact l.out t x d
  .rw[if_neg A] at d;by_cases r:b=i
   .rw[if_pos r];obtain⟨t,x⟩:=C a M A K k d;exact l.out t x
   .rw[if_neg r];exact h.apart a b M H G K J k d
 .rintro k ⟨j,f,q,d⟩;unfold sF at d;by_cases e:j=i
  .rw[if_pos e] at d;rcases l.new k d with E|E
   .exact .inl (D k E)
   .exact .inr E
  .rw[if_neg e] at d;exact .inl ⟨j,f,z j q,d⟩
def dA(w:ω)(sp:Nat)(b:Nat->Ih)(s:SV)(m:Nat)(R:SV × Int)(e:Ending)(w':ω):Prop :=
 ∃ a:Nat->Ih,e=.returned (erV R.2)/\bH w' sp a R.1 m/\Moved (fpS b s) w (fpS a R.1) w'
def dA.of{w sp m m' a s}(h:bH w sp a s m){n v V}(b:s.file n=S v)(g:m<=m')(q:V.ok m'){f e w'}
  (hd:Did (Gd.but w (a n.toNat).fp) w (a n.toNat) V f e w'):dA w sp a s m' (s.upd n.toNat V,f) e w':=by
 obtain⟨x',k,c,d,j,o⟩:=hd.exact;obtain⟨i,l⟩:=h.lG b g q c d j o;exact⟨_,k,i,l⟩
def dA.from{w:ω}{a w' sp m b s R e}(h:dA a sp b s m R e w')(i:β w w a):dA w sp b s m R e w':=by
 obtain⟨c,f,d,g⟩:=h;exact⟨c,f,d,(Moved.of_below i).trans g⟩
def dA.same{w w' sp m a s f}(h:bH w sp a s m)(b:β w w w'):dA w sp a s m (s,f) (.returned (erV f)) w':=⟨a,rfl,h.below b,Moved.of_below b⟩
def uO{sp m b s}(n:Int)(w)(h:bH w sp b s m) :
  κ prog 153 #[.pointer (S ⟨sp,6,O⟩),n] w λe w'=>e=.returned (jh (b n.toNat) (s.file n))/\w'=w:=by
 by_cases g:n<0
 .have a:s.file n=none:=by unfold SV.file;rw[if_neg (by omega)]
  rw[a];go_enter func153,ntmps153;go_wp2;go_ret;exact⟨rfl,rfl⟩
 .by_cases f:5<=n
  .have a:s.file n=none:=by unfold SV.file;rw[if_neg (by omega)]
   rw[a];go_enter func153,ntmps153;go_wp2;go_ret;exact⟨rfl,rfl⟩
  .obtain⟨k,rfl⟩:∃ k:Nat,n=(k:Int):=⟨n.toNat,by omega⟩;have l:=h.cell (i:=k) (by omega);rw[(SV.Bo (by omega))];have d:(0:Int)<=(k:Int):=by omega
   have j:(k:Int)<5:=by omega
   have c:((k:Int)).toNat=k:=by omega
   rw[c];generalize jh (b k) (s k)=o at *
   go_enter func153,ntmps153;go_wp2;go_ret;exact⟨rfl,rfl⟩
def SH(c:Int)(w) :
  κ prog 222 #[.pointer O,c] w λe w'=>e=.returned (0:Int)/\w'=w:=by
 go_enter func222,ntmps222;go_wp2;go_ret;simp_all
def yN{B x v}(c:Int)(w)(h:aI B w x v) :
  κ prog 222 #[x.p,c] w λe w'=>e=.returned (.int .i64 (v.bG c).1)/\β w w w':=by
 have d:=ah (SI c w h)
 have g:χ (v.iT c=0\/v.iT c=1/\(v.bG c).1=0):=by
  unfold χ IV.iT IV.bG;cases v.there c<;>simp
 generalize v.iT c=f at *
 generalize (v.bG c).1=y at *
 go_enter func222,ntmps222;go_wp2_with fail;refine cEq d λi a=>?_
 rcases g with h|⟨h,b⟩
 .rw[h,aJ];go_wp2;go_ret;exact⟨rfl,a⟩
 .rw[h,eX];go_wp2;go_ret;exact⟨nU b.symm,a⟩
def SC{sp m a s}(n c:Int)(w)(h:bH w sp a s m) :
  κ prog 222 #[jh (a n.toNat) (s.file n),c] w λe w'=>e=.returned (tN (s.file n) c)/\β w w w':=by
 cases b:s.file n with
 | none =>
  refine(SH c w).mono ?_;rintro e w' ⟨rfl,rfl⟩;exact⟨rfl,ja0 _ _⟩
 | some v=>exact yN c w (h.iM b).1
def vY(c p b:Int)(w):(Instr.field 67 (.agg #[c,p,b]) 0).run prog w=.ok (.int .i64 c) w:=by kernel_rfl
def Qn(c p b:Int)(w):(Instr.field 67 (.agg #[c,p,b]) 2).run prog w=.ok (.int .i64 b) w:=by kernel_rfl
def drop_cons{l:List Int}{k}(h:k<l.length):l.drop k=l.getD k 0::l.drop (k+1):=by
 simp_all
def Gz{sp m cap G s a}(l)(c:Int)(w)(h:bH w sp G s m)(C:Nums w a l)(T:l.length<=100) :
  κ prog 225 #[.pointer (S ⟨sp,6,O⟩),.slice a l.length cap,c] w λe w'=>e=.returned (s.found l c)/\β w w w':=by
 have I:=ah λk W (b:β w w W) (j:k<l.length)=>(C.below b) k j
 have B:χ (s.kK c (l.drop 0) 0=s.found l c):=rfl;have F:χ (∀ k,k<l.length->s.kK c (l.drop k) k=if tN _ c=0 then s.kK c _ (k+1) else (k:Int)):=λk j=>by rw[drop_cons j];rfl
 have A:χ (s.kK c (l.drop l.length) l.length = -1):=by unfold χ;rw[jc1];rfl
 generalize s.found l c=R at *
 generalize U:l.length=n at *
 go_enter func225,ntmps225;go_wp2;go_loopw [11] (λi wr=>∃ k:Nat,k<=n/\i=.int .i64 k/\s.kK c (l.drop k) k=R/\β w w wr) (λi _=>n-(intOf i).toNat)
 case atStart=>exact⟨0,ja7 _,rfl,B,ja0 _ _⟩
 case round =>
  obtain⟨k,J,rfl,z,f⟩:=hrel;by_cases q:k<n
  .obtain⟨g,o,rfl,N⟩:=I k wr f q;have u:=ah (F k q);have r:=ah z;have D:=ah ((λn W (b:β w w W)=>uO n W (h.below b)) (l.getD k 0) wr f);have H:=ah ((λn W (b:β w w W)=>SC n c W (h.below b)) (l.getD k 0) wr f);generalize L:l.getD k 0=x at *
   generalize jh _ (s.file x)=K at *
   generalize tN (s.file x) c=y at *
   have Q:(0:Int)<=(k:Int):=by omega
   have P:(k:Int)<(n:Int):=by omega
   have M:((k:Int)).toNat=k:=by omega
   go_wp2_with fail;refine cSt D ?_;go_wp2_with fail;refine cBl H f λV v=>?_
   by_cases t:y=0
   .have d:χ (s.kK c (l.drop (k+1)) (k+1)=R):=by unfold χ;rw[<- r.out,u.out,if_pos t]
    go_wp2;go_roundw
    case rel =>
     exact⟨k+1,by omega,by go_num,d,v⟩
    case measure=>simp[intOf];omega
   .have d:χ ((k:Int)=R):=by unfold χ;rw[<- r.out,u.out,if_neg t]
    go_wp2;go_ret;exact⟨nU d,v⟩
  .have E:k=n:=by omega
   subst E;have d:χ (-1=R):=by unfold χ;rw[<- z,A.out]
   go_wp2;go_ret;exact⟨nU d,f⟩
def EU{sp m n cap j s a}(x r w)(h:bH w sp j s m)(i:Nums w a (x::r))(k:(x::r).length=n) :
  κ prog 221 #[.pointer (S ⟨sp,6,O⟩),.slice a n cap] w λe w'=>e=.returned (s.iF (x::r))/\β w w w':=by
 have d:=ah (uO x w h);obtain⟨g,o,rfl,q⟩:=i 0 (by simp);have u:w.cell? ⟨g,o,O⟩=S _:=q;have y:0<n:=by rw[<- k];simp
 show κ _ _ _ _ λe w'=>e=.returned (s.iO x)/\_
 unfold SV.iO
 cases f:s.file x with
 | none =>
  rw[f] at d;go_enter func221,ntmps221;go_wp2_with fail;refine cSt d ?_;unfold jh;go_wp2;go_ret;exact⟨rfl,ja0 _ _⟩
 | some v =>
  have z:=vY v.h.c v.h.p v.h.b;rw[f] at d;go_enter func221,ntmps221;go_wp2_with fail;refine cSt d ?_;unfold jh;go_wp2_with fail;refine cEq (tH w (h.iM f).1) λt l=>?_
  go_wp2;go_ret;exact⟨rfl,l⟩
def VU(k):Lib.repeatL [0] k=List.replicate k 0:=by
 have:=Lib.repeatL_replicate 0 1 k
 simp_all
def EW(n:Nat)(w)(f:n<=1000) :
  κ prog 227 #[(n:Int)] w λe w'=>e=.returned (.string (fA (n*16)))/\β w w w':=by
 have a:χ (κ prog 262 #[.string ⟨#[0]⟩,((n:Int)*16:Int)] w λe w'=>e=.returned (.string (fA (n*16)))/\β w w w'):=by
  have:=Tryz.strings_Repeat ⟨#[0]⟩ (n*16) w (by omega) (by show 1*(n*16)<=_;omega)
  rw[show(⟨#[0]⟩:ByteArray).data.toList=[0] from rfl,VU,show(((n*16:Nat)):Int)=(n:Int)*16 by omega] at *
  exact this
 have b:IntKind.i64.wrap _=(n:Int)*16:=ja9 _ (by omega);go_enter func227,ntmps227;go_wp2_with fail;refine cEq a λc d=>?_
 go_wp2;go_ret;simp_all
def DN(t:ByteArray)(f n w)(h:(f+n)*16<=t.size)(j:t.size<=100000) :
  κ prog 169 #[t,(f:Int),(n:Int)] w λe w'=>e=.returned (.string (fH t f n))/\w'=w:=by
 have a:χ (t.extract (f*16) _=fH t f n):=rfl;have g:(0:Int)<=(f:Int)*16:=by omega
 have c:((f:Int)+(n:Int))*16<=(t.size:Int):=by omega
 have d:((f:Int)*16).toNat=f*16:=by omega
 have k:(((f:Int)+(n:Int))*16).toNat=(f+n)*16:=by omega
 have i:IntKind.i64.wrap _=(f:Int)*16:=ja9 _ (by omega);have m:IntKind.i64.wrap _=(f:Int)+(n:Int):=ja9 _ (by omega);have l:IntKind.i64.wrap _=((f:Int)+(n:Int))*16:=ja9 _ (by omega);have b:(f:Int)<=(f:Int)+(n:Int):=by omega
 generalize fH t f n=R at *
 go_enter func169,ntmps169;go_wp2;go_ret;exact⟨by rw[a.out];rfl,rfl⟩
def check_any{sp m cap u s a C}(l)(fr n:Int)(w)(h:bH w sp u s m)(t:Nums w a l)(o:s.good C l)(z:0<=C/\C<=1000)(A : -9223372036854775808<=fr/\fr<=9223372036854775807) :
  κ prog 166 #[.pointer (S ⟨sp,6,O⟩),.slice a l.length cap,fr,n] w λe w'=>e=.returned (erV (s.aT l fr n))/\β w w w':=by
 cases l with
 | nil =>
  have v:s.aT [] fr n=4:=rfl;rw[v,bC (by decide)];go_enter func166,ntmps166;go_wp2;go_ret;exact⟨rfl,ja0 _ _⟩
 | cons x r =>
  have d:=ah (EU (cap:=cap) x r w h t rfl);have j  := o.iF (by simp);have f:χ (s.aT (x::r) fr n=if fr<0\/n<0\/4*C-fr<n then 1 else 0):=by unfold χ SV.aT;rw[if_neg (by simp),j]
  rw[j] at d;generalize s.aT (x::r) fr n=F at *
  have G:(((x::r).length:Int)==0)=false:=by simp;omega
  generalize (x::r).length=q at *
  have y  := ja9 _ (by omega);by_cases i:fr<0
  .have b:χ (F=1):=by unfold χ;rw[f.out,if_pos (.inl i)]
   go_enter func166,ntmps166;go_wp2_with fail;refine cEq d λg c=>?_
   go_wp2;go_ret;exact⟨by rw[b.out,eX];rfl,c⟩
  .have D  := decide_eq_false i;by_cases k:n<0
   .have b:χ (F=1):=by unfold χ;rw[f.out,if_pos (.inr (.inl k))]
    go_enter func166,ntmps166;go_wp2_with fail;refine cEq d λg c=>?_
    go_wp2;go_ret;exact⟨by rw[b.out,eX];rfl,c⟩
   .have g1  := decide_eq_false k;have E  := ja9 _ (by omega);by_cases B:C*4-fr<n
    .have b:χ (F=1):=by unfold χ;rw[f.out,if_pos (.inr (.inr (by omega)))]
     go_enter func166,ntmps166;go_wp2_with fail;refine cEq d λg c=>?_
     go_wp2;go_ret;exact⟨by rw[b.out,eX];rfl,c⟩
    .have b:χ (F=0):=by unfold χ;rw[f.out,if_neg (by omega)]
     go_enter func166,ntmps166;go_wp2_with fail;refine cEq d λg c=>?_
     go_wp2;go_ret;exact⟨by rw[b.out,aJ];rfl,c⟩
def AU{sp m cap L s a C}(l)(c:Int)(w)(h:bH w sp L s m)(A:Nums w a l)(hg:s.good C l)(h5:l.length<=100) :
  κ prog 171 #[.pointer (S ⟨sp,6,O⟩),.slice a l.length cap,c] w λe w'=>e=.returned (.tuple #[.string (s.read l c).1,erV (s.read l c).2])/\β w w w':=by
 by_cases d:l=[]
 .subst d;have i:s.read [] c=(bytesOf [],4):=rfl;rw[i,bC (by decide)];go_enter func171,ntmps171;go_wp2;go_ret2;exact⟨rfl,ja0 _ _⟩
 .have K:s.iF l=C:=hg.iF d
  have t:χ (κ prog 221 #[.pointer (S ⟨sp,6,O⟩),.slice a l.length cap] w λe w'=>e=.returned C/\β w w w'):=by
   cases l with
   | nil=>exact absurd rfl d
   | cons x r=>rw[<- K];exact EU x r w h A rfl
  have X:((l.length:Int)==0)=false:=by
   cases l with
   | nil=>exact absurd rfl d
   | cons x r=>simp;omega
  by_cases h0:c<0
  .have i:s.read l c=(bytesOf [],1):=by unfold SV.read;rw[if_neg d,if_neg (by omega)]
   rw[i,eX];generalize l.length=q at t X |-;go_enter func171,ntmps171;go_wp2;go_ret2;exact⟨rfl,ja0 _ _⟩
  .by_cases V:C<=c
   .have g1:decide (C<=c)=true:=decide_eq_true V;have i:s.read l c=(bytesOf [],1):=by unfold SV.read;rw[if_neg d,K,if_neg (by omega)]
    rw[i,eX];generalize l.length=q at t X |-;go_enter func171,ntmps171;go_wp2_with fail;refine cEq t λT a2=>?_
    go_wp2;go_ret2;exact⟨rfl,a2⟩
   .have g1:decide (C<=c)=false:=decide_eq_false V;have y:χ (∀ W:ω,β w w W->κ prog 225 #[.pointer (S ⟨sp,6,O⟩),.slice a l.length cap,c] W λe w'=>e=.returned (s.found l c)/\β W W w'):=λW b=>Gz l c W (h.below b) (A.below b) h5
    have B:χ (s.read l c=match s.seenAt c l with|none=>(bytesOf sO,0)|some v=>(bytesOf (v.iy c),v.ji c)):=by unfold χ SV.read;rw[if_neg d,K,if_pos (by omega)];rfl
    have a1:χ (∀ W:ω,κ prog 227 #[(4:Int)] W λe w'=>e=.returned (.string (bytesOf sO))/\β W W w'):=λW=>EW 4 W (by decide)
    rcases SV.BG s c l 0 with⟨E,f2⟩|⟨j,n,v,Z,E,f3,f4,F,f6,f7⟩
    .have G:χ (s.found l c = -1):=E;rw[f2] at B;rw[G.out] at y;rw[B.out,aJ];generalize l.length=q at *
     generalize bytesOf sO=z at *
     go_enter func171,ntmps171;go_wp2_with fail;refine cHd t λT f=>?_
     go_wp2_with fail;refine cBl (y _ f) f λN u=>?_
     go_wp2_with fail;refine cBl (a1 _) u λI D=>?_
     go_wp2;go_ret2;exact⟨rfl,D⟩
    .have G:χ (s.found l c=(j:Int)):=by unfold χ SV.found;rw[E];congr 1;omega
     rw[f7] at B;simp only at *
     rw[G.out] at y;rw[B.out];obtain⟨n0,n5,hs⟩:=SV.eG F
     have R:χ (∀ W:ω,β w w W->κ prog 226 #[(L n.toNat).p,c] W λe w'=>e=.returned (.tuple #[.string (bytesOf (v.iy c)),erV (v.ji c)])/\β W W w'):=λW b=>by
      obtain⟨i1,i2⟩:=(h.below b).iM F;exact Vy c W i1 i2
     have U:=ah λW (b:β w w W)=>(h.below b).kU F
     have a4:=ah λW (b:β w w W)=>A.below b
     obtain⟨g,o,ha,Q⟩:=A j Z;subst ha;rw[f3] at *
     have a0  := ja2 _ _ Q;obtain⟨k,rfl⟩:∃ k:Nat,n=(k:Int):=⟨n.toNat,by omega⟩;have hk:((k:Int)).toNat=k:=by omega
     rw[hk] at R U;have k0:(0:Int)<=(j:Int):=by omega
     have k1:(j:Int)<(l.length:Int):=by omega
     have k2:((j:Int)).toNat=j:=by omega
     generalize bytesOf (v.iy c)=z at *
     generalize erV (v.ji c)=er at *
     generalize (L k).p=xp at *
     generalize l.length=q at *
     go_enter func171,ntmps171;go_wp2_with fail;refine cHd t λT f=>?_
     go_wp2_with fail;refine cBl (y _ f) f λN u=>?_
     have d1  := (u.cell (p:=⟨g,o+j,O⟩) a0).trans Q;have Y:=U N u;have H  := d1;have M  := Y;have J:χ (β w w N.drew):=u.drew;go_wp2
     go_region_held3 (λW=>W.cell? ⟨g,o+j,O⟩=S (.int .i64 (k:Int))/\W.cell? ⟨sp,6+k,O⟩=S (xp:υ))
      (first|(exact⟨H,M⟩)|assumption)
      (first
        | (go_at_call 226;refine cEq (R _ J) λI P=>?_;have a3:I.cell? ⟨g,o+j,O⟩=S (.int .i64 (k:Int))/\I.cell? ⟨sp,6+k,O⟩=S (xp:υ):=⟨(P.cell (ja2 _ _ H)).trans H,(P.cell (ja2 _ _ M)).trans M⟩))
     have D:=ah (J.trans (P.mono J.size));go_wp2;go_ret2;exact⟨rfl,D⟩
def jI(l:List Int):List Value:=l.map λn=>.int .i64 n
def sliceLen:υ->Nat
 | .slice _ n _=>n
 | _=>0
def CY{w B n cap a l}(c:w.ownsRow B 3 1 (.slice a n cap) n (jI l))(i:l.length=n):Nums w a l:=λk b=>by
 obtain⟨g,j,d,f,_⟩:=kE c k (by omega);injection d with hv1 hv2 hv3;refine⟨g,0,hv1,?_⟩;rw[jak,f];simp[jI,ja5 b,List.getD]
def Jf{w:ω}{B n cap a d}(b:w.ownsRow B 3 1 (.slice a n cap) n d):n<=cap:=by
 rcases b.2 with⟨h,j⟩|⟨g,c,f,i,_,_,k,_⟩
 .omega
 .simp_all
structure Walks(w:ω)(s:SV)(root:Int)(R:List Int × Int)(l:List Int)(n:Int)(a:Option Addr)(cap:Nat)(wr:ω):Prop where
 own:wr.ownsRow w.heap.size 3 1 (.slice a l.length cap) l.length (jI l)
 go:s.jq (s.iO root) (6-l.length) l n=R
 len:l.length<=5
 root:n=root\/∃ v,s.file root=S v
 bel:β w w wr
def vU{sp m I s}(root:Int)(w)(h:bH w sp I s m) :
    κ prog 77 #[.pointer (S ⟨sp,6,O⟩),root] w λe w' =>
      ∃(a:Option Addr) (cap:Nat),e=.returned (.tuple #[.slice a (s.walk root).1.length cap,erV (s.walk root).2])/\Nums w' a (s.walk root).1/\(∀ g o,a=S ⟨g,o,O⟩->w<=g/\g<w'/\(s.walk root).1.length<=cap)/\β w w w':=by
  obtain⟨i1,ao,am,aw,ag⟩:=info_parts uS;have a6:=ah λn W (f:β w w W)=>uO n W (h.below f)
  have U:=ah λn v W (x:s.file n=S v) (f:β w w W)=>tH W ((h.below f).iM x).1
  have N:χ (∀(n:Int) (v:IV) (W:ω),s.file n=S v->β w w W->W.cell? ⟨sp,6+n.toNat,O⟩=S ((I n.toNat).p:υ)/\0<=n/\n<5):=λn v W x f=>⟨(h.below f).kU x,(SV.eG x).1,(SV.eG x).2.1⟩
  have a1:χ (Walks w s root (s.walk root) [] root O 0 w):=⟨jaa _ _ _ _,rfl,ja7 _,.inl rfl,ja0 _ _⟩;generalize s.walk root=R at a1 |-;go_enter func77,ntmps77;go_wp2;go_loopw [6,7] (λu i wr=>∃(l:List Int) (n:Int) (a:Option Addr) (cap:Nat),u=.slice a l.length cap/\i=.int .i64 n/\Walks w s root R l n a cap wr) (λu _ _=>6-sliceLen u)
  case atStart=>exact⟨[],root,O,0,rfl,rfl,a1⟩
  case round =>
    obtain⟨l,n,a,cap,rfl,rfl,t⟩:=hrel;have HW:=ah t;have aE:=t.len;obtain⟨q,Y⟩:∃ q,6-l.length=q+1:=⟨5-l.length,by omega⟩;have D:=t.go;rw[Y] at D;by_cases J:n = -1
    . have g0:(n != -1)=false:=by simpa using J
      rw[J,SV.xC] at D;have B:=ah D
      have HN:χ (Nums wr a l/\∀ g o,a=S ⟨g,o,O⟩->w.heap.size<=g/\g<wr.heap.size/\l.length<=cap):=⟨CY t.own rfl,λg o e=>by
        subst e
        exact⟨(t.own.lt g rfl).1,(t.own.lt g rfl).2,Jf t.own⟩⟩
      have G:=ah t.bel;go_wp2;go_ret2;exact⟨a,cap,by rw[<- B.out,aJ];rfl,by rw[<- B.out];exact HN.1,by rw[<- B.out];exact HN.2,G⟩
    . have g0:(n != -1)=true:=by simpa using J
      have F:=ah (a6 n wr t.bel)
      cases x:s.file n with
      | none =>
        rw[SV.xG J x] at D;have B:=ah D;have G:=ah t.bel;rw[x] at F;go_wp2_with fail;refine cSt F ?_;unfold jh;go_wp2;go_ret2;exact⟨O,0,by rw[<- B.out,bC (by decide)];rfl,by rw[<- B.out];exact Nums.nil _ _,(λg o e=>by cases e),G⟩
      | some v =>
        rw[x] at F;by_cases Z:l.length=5
        . have g1:((l.length:Int)==5)=true:=by simp;omega
          rw[SV.xE J x Z] at D;have B:=ah D;have G:=ah t.bel;go_wp2_with fail;refine cSt F ?_;unfold jh;go_wp2;go_ret2;exact⟨O,0,by rw[<- B.out,bC (by decide)];rfl,by rw[<- B.out];exact Nums.nil _ _,(λg o e=>by cases e),G⟩
        . have g1:((l.length:Int)==5)=false:=by simp;omega
          obtain⟨z,K⟩:∃ z,s.file root=S z:=by
            rcases t.root with e|e
            . rw[<- e];exact⟨v,x⟩
            . exact e
          have a2:s.iO root=z.h.c:=by unfold SV.iO;rw[K]
          have G:=ah t.bel;have Q:=ah (λW f=>U n v W x f);have X:=ah (λW f=>U root z W K f);obtain⟨d1,r0,r5⟩:=N root z wr K t.bel;have f1:=vY v.h.c v.h.p v.h.b;have f2:=vY z.h.c z.h.p z.h.b;have f3:=Qn v.h.c v.h.p v.h.b;obtain⟨rk,rfl⟩:∃ rk:Nat,root=(rk:Int):=⟨root.toNat,by omega⟩;have a3:((rk:Int)).toNat=rk:=by omega
          rw[a3] at d1 X;have d2:wr.drew.cell? ⟨sp,6+rk,O⟩=S ((I rk).p:υ):=d1;obtain⟨_,n0,n5⟩:=N n v wr x t.bel;obtain⟨d,rfl⟩:∃ d:Nat,n=(d:Int):=⟨n.toNat,by omega⟩;have a9:((d:Int)).toNat=d:=by omega
          have av:χ (∀ W:ω,β w w W->W.cell? ⟨sp,6+d,O⟩=S ((I d).p:υ)):=λW f=>by have:=(N (d:Int) v W x f).1;rw[a9] at this;exact this
          have a4:χ (∀ W:ω,β w w W->W.cell? ⟨sp,6+rk,O⟩=S ((I rk).p:υ)):=λW f=>by have:=(N (rk:Int) z W K f).1;rw[a3] at this;exact this
          rw[a9] at F Q;unfold jh at F;generalize (I rk).p=xr at *
          generalize (I d).p=xn at *
          have E:=ah λW (f:β wr wr W)=>G.trans (f.mono G.size)
          have T:=ah λW (f:β wr wr W)=>a4 W (E W f)
          have ab:χ (β wr wr wr.drew):=(ja0 _ _).drew;by_cases M:v.h.c=z.h.c
          . have an:(v.h.c != z.h.c)=false:=by simpa using M
            rw[SV.vI J x Z (by rw[a2];exact M)] at *
            have aq:=ah D;have aa:=ah t.own;have al:χ (∃ v,s.file (rk:Int)=S v):=⟨z,K⟩;have aD:l.length<=4:=by omega
            have HQ:=ah Y;have HM:χ (l.length+1<=maxLen):=by unfold χ maxLen;omega
            clear t D x K U N M a6 a1 a4 Y;go_wp2_with fail;refine cSt F ?_;go_wp2
            go_region_held3 (λW=>β wr wr W/\W.cell? ⟨sp,6+rk,O⟩=S (xr:υ))
              (first|(exact⟨ab,d2⟩)|assumption)
              (first
                | (go_at_call 95;refine(Q _ (E _ (by assumption:β wr wr _/\_).1)).mono ?_;rintro e C ⟨rfl,H⟩;have A:=(by assumption:β wr wr _/\_).1.trans (H.mono (by assumption:β wr wr _/\_).1.size);have a0:=And.intro A (T _ A))
                | (go_at_call 95;refine cEq (X _ (E _ (by assumption:β wr wr _/\_).1)) λC H=>?_;have A:=(by assumption:β wr wr _/\_).1.trans (H.mono (by assumption:β wr wr _/\_).1.size);have a0:=And.intro A (T _ A)))
            all_goals
              have L:=ah A;have a8:χ ((C.alloc (.cells #[(d:Int)] 3)).ownsRow w.heap.size 3 1 (.slice a l.length cap) l.length (jI l)):=(bg aa λk e=>L.block k (aa.lt k e).2).alloc _;have ae:χ ((C.alloc (.cells #[(d:Int)] 3)).heap.size=C.heap.size+1):=by unfold χ;simp
              have a7:χ (w.heap.size<=(C.alloc (.cells #[(d:Int)] 3)).heap.size):=by unfold χ;have:=(E _ L).size;rw[ae.out];omega
              have ax:χ (∀ j y,([.int .i64 (d:Int)]:List υ)[j]?=S y->(C.alloc (.cells #[(d:Int)] 3)).cell? ((⟨C.heap.size,0,O⟩:Addr).add j)=S y):=cell_one_new _ _ _;have ai:χ (β w w (C.alloc (.cells #[(d:Int)] 3))):=(E _ L).alloc (E _ L).size _
              go_wp2_with (at_builtin;refine wpList_append_lies _ (by rfl) _ _ 88 (by rfl) w.heap.size 3 i1 (.int .i64 0) 1 8 underlying88 ao am aw ag rfl (by decide) (.slice a l.length cap) l.length (jI l) (by rfl) a8 ⟨C,0,O⟩ 1 1 [(d:Int)] (by rfl) (by rfl) ax (λu hu=>by simp at *;subst hu;rfl) (by decide) HM (by omega) a7 (C.heap.size+1) ae ?_
                           intro g k w1 ac af ar ap;have P:χ (β w w w1):=ai.grown af a7 (λr e=>(a8.lt r e).1);have a5:=ah ac;have d3:=av w1 P
                           clear ac af ar ap)
              refine cEq (Q _ P) λw2 ad=>?_
              have az:χ (Walks w s (rk:Int) R (l++[(d:Int)]) v.h.b (S ⟨g,0,O⟩) k w2):=by
                have V:(l++[(d:Int)]).length=l.length+1:=by simp
                have e2:jI (l++[(d:Int)])=jI l++[.int .i64 (d:Int)]:=by simp[jI]
                refine⟨?_,?_,by rw[V];omega,.inr al,P.trans (ad.mono P.size)⟩
                . rw[V,e2];exact bg a5 λk e=>ad.block k (a5.lt k e).2
                . have:=HQ.out
                  rw[V,show 6-(l.length+1)=q by omega];exact aq
              go_wp2;go_roundw
              case rel =>
                exact⟨l++[(d:Int)],v.h.b,S ⟨g,0,O⟩,k,by simp,rfl,az⟩
              case measure=>simp[sliceLen];omega
          . have an:(v.h.c != z.h.c)=true:=by simpa using M
            rw[SV.walk_other J x Z (by rw[a2];exact M)] at *
            have B:=ah D;go_wp2_with fail;refine cSt F ?_;go_wp2
            go_region_held3 (λW=>β wr wr W/\W.cell? ⟨sp,6+rk,O⟩=S (xr:υ))
              (first|(exact⟨ab,d2⟩)|assumption)
              (first
                | (go_at_call 95;refine(Q _ (E _ (by assumption:β wr wr _/\_).1)).mono ?_;rintro e C ⟨rfl,H⟩;have A:=(by assumption:β wr wr _/\_).1.trans (H.mono (by assumption:β wr wr _/\_).1.size);have a0:=And.intro A (T _ A))
                | (go_at_call 95;refine cEq (X _ (E _ (by assumption:β wr wr _/\_).1)) λC H=>?_;have A:=(by assumption:β wr wr _/\_).1.trans (H.mono (by assumption:β wr wr _/\_).1.size);have a0:=And.intro A (T _ A)))
            all_goals
              have L:=ah (E _ A);go_wp2;go_ret2;exact⟨O,0,by rw[<- B.out,bC (by decide)];rfl,by rw[<- B.out];exact Nums.nil _ _,(λg o e=>by cases e),L⟩
