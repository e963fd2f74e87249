/- The document's own image: an entry that is set. -/
import Derived.Test.YtbohmhacdgckgaaGreatDoorQRimActs
set_option linter.all false
set_option maxHeartbeats 2000000
set_option maxRecDepth 100000
namespace Go.Proofs.YtbohmhacdgckgaaGreatDoor
open Go.RowKit renaming Below->β
open Go renaming World->ω, Calls->κ
open Option renaming none->O, some->S
open Go.Proofs.Tryz Go.RowKit Go.Maps
attribute [local go_sem ↓] Go.wp_at_zero Go.wp_at_succ
def Qq{w:ω}{B g n cap:Nat}{ts:List (Int × Int)}(b:w.ownsRow B 168 2 (.slice (S ⟨g,0,O⟩) n cap) n (jB ts))(l:ts.length=n)(c:Nat)(k p:Int) :
  ((w.setCell ⟨g,c*2,O⟩ k).setCell ⟨g,c*2+1,O⟩ p).ownsRow B 168 2 (.slice (S ⟨g,0,O⟩) n cap) n (jB (ts.set c (k,p))):=by
 obtain⟨f,a,h,j,i,m,d⟩:=dQ b;refine⟨by rw[pX,jah,l],.inr ⟨g,cap,(a.setIfInBounds (c*2) (.int .i64 k)).setIfInBounds (c*2+1) (.int .i64 p),rfl,f,?_,j,i,by simp_all,?_⟩⟩
 .rw[heap_setCell_same _ _ _ _ _ _ (heap_setCell_same w g _ _ _ _ h)]
 .rw[Ef,<- d]
  simp only[Array.toList_setIfInBounds,List.take_set]
def SE(t:List (Int × Int))(c:Nat):eP t ((c:Int) / 8)=eP t ((c / 8:Nat):Int)/\gV t ((c:Int) / 8)=gV t ((c / 8:Nat):Int):=by
 simp_all
def aS.sets{B:Gd}{w:ω}{q:Qh}{v:IV}(h:aS B w q v){g cap:Nat}{T:List (Int × Int)}(b:T.length=v.t.length)(a:w.ownsRow 0 168 2 (.slice (S ⟨g,0,O⟩) v.t.length cap) v.t.length (jB T))(c:¬B.g g) :
  aS B (w.setCell ⟨q.p,4,O⟩ (.slice (S ⟨g,0,O⟩) v.t.length cap)) {q with vt:=.slice (S ⟨g,0,O⟩) v.t.length cap} {v with t:=T}/\fA B w (w.setCell ⟨q.p,4,O⟩ (.slice (S ⟨g,0,O⟩) v.t.length cap)) :=
 h.oM 4 _   rfl rfl rfl rfl (by simp_all) h.held h.ne (λk e=>by
  have:g=k:=by simpa [Value.ownBlock] using e
  simp_all) h.hB
def aS.NP{B:Gd}{w W c:ω}{q:Qh}{v:IV}(h:aS B w q v)(i:β w w W)(l:W.grownBy c q.vh.ownBlock)(x g cap:Nat)(o:c.ownsRow 0 3 1 (.slice (S ⟨g,0,O⟩) (v.held.length+1) cap) (v.held.length+1) (kE v.held++[.int .i64 (x:Int)]))
  (r:q.vh.ownBlock=S g\/w.heap.size<=g) (C:B.top<=w.heap.size) :
  aS B (c.setCell ⟨q.p,5,O⟩ (.slice (S ⟨g,0,O⟩) (v.held.length+1) cap)) {q with vh:=.slice (S ⟨g,0,O⟩) (v.held.length+1) cap} {v with held:=v.held++[x]}/\fA B w (c.setCell ⟨q.p,5,O⟩ (.slice (S ⟨g,0,O⟩) (v.held.length+1) cap)):=by
 have n:∀ k,k<w.heap.size->q.vh.ownBlock≠S k->c.heap[k]?=w.heap[k]?:=λk a D=>by
  rw[l.block k (ja9 a i.size) (jaG D),i.block k a]
 have F:q.vh.ownBlock≠S q.p:=λe=>by
  obtain⟨c2,b⟩:=ownsRow_kind h.held _ e;rw[h.blk] at b;cases b
 have G:∀ k,q.vt.ownBlock=S k->q.vh.ownBlock≠S k:=λk a e=>by
  obtain⟨c1,j⟩:=ownsRow_kind h.own k a;obtain⟨c2,b⟩:=ownsRow_kind h.held k e;rw[j] at b;cases b
 have z:∀ k,q.d.fp k->q.vh.ownBlock≠S k:=λk e a=>by
  obtain⟨c2,b⟩:=ownsRow_kind h.held k a;rcases e with e|e|e|e
  .subst e
   have:=h.dev.blk
   rw[b] at this;cases this
  .subst e
   obtain⟨_,c3,m,_⟩:=dQ h.dev.of;rw[b] at m;cases m
  .exact h.ne k a e
  .obtain⟨c3,m⟩:=ownsRow_kind h.dev.o2 k e
   rw[b] at m;cases m
 have u  := (n q.p (lt_of_some h.blk) F).trans h.blk
 have A:∀ k,q.d.fp k->k≠q.p:=λk a e=>by
  obtain⟨I,t,j,p⟩:=h.dev.kinds _ a;rw[e,h.blk] at j;cases j
  rcases p with p|p|p<;>cases p
 have y:∀ k,q.vt.ownBlock=S k->k≠q.p:=λk a e=>by
  obtain⟨c2,b⟩:=ownsRow_kind h.own k a;rw[e,h.blk] at b;cases b
 refine⟨⟨?_,h.pB,h.dev.keep λk a=>?_,aZ h.own λk a=>?_,?_,?_,h.tB,λk a=>?_⟩,?_⟩
 .rw[heap_setCell_same _ _ _ _ _ _ u];rfl
 .rw[heap_setCell_other _ _ _ _ (A k a)];exact n k (h.dev.lt k a).2 (z k a)
 .rw[heap_setCell_other _ _ _ _ (y k a)];exact n k (h.own.lt k a).2 (G k a)
 .show World.ownsRow _ 0 _ 1 _ _ _
  have j:(v.held++[x]).length=v.held.length+1:=by simp
  have b:kE (v.held++[x])=kE v.held++[.int .i64 (x:Int)]:=by simp[kE]
  rw[j,b];refine aZ o λk a=>heap_setCell_other _ _ _ _ (λe=>?_)
  obtain⟨c2,b⟩:=ownsRow_kind o k a;rw[show k=q.p from e,u] at b;cases b
 .intro k a e
  have:g=k:=by simpa [Value.ownBlock] using a
  subst this;rcases r with f|f
  .exact h.ne g f e
  .have:=(h.dev.o1.lt g e).2;omega
 .have:g=k:=by simpa [Value.ownBlock] using a
  subst this;rcases r with f|f
  .exact h.hB g f
  .exact B.fresh C f
 .refine⟨l.os.trans i.os,l.tape.trans i.tape,l.output.trans i.output,?_,λk a s=>?_⟩
  .have f:=i.size
   have H:=l.size;simp only[World.setCell];have:(c.setCell ⟨q.p,5,O⟩ (.slice (S ⟨g,0,O⟩) (v.held.length+1) cap)).heap.size=c.heap.size:=by simp[World.setCell]
   simp only[World.setCell] at this;omega
  .have E:q.vh.ownBlock≠S k:=λe=>by
    obtain⟨c2,b⟩:=ownsRow_kind h.held k e;exact s ⟨h.hB k e,_,_,b,.inr (.inr (.inl rfl))⟩
   rw[heap_setCell_other _ _ _ _ (λe=>s ⟨by rw[e];exact h.pB,_,_,by rw[e];exact h.blk,.inr (.inr (.inr rfl))⟩)]
   exact n k a E
def NY{B:Gd}{m:Nat}{q:Qh}{v:IV}(c:Nat)(k p:Int)(w:ω)(h:aS B w q v)(f:v.ok m)(hm:m<1000000000)(U:B.top<=w.heap.size)(A:c<v.t.length)(he:bI k p v.h.p=true) :
    κ prog 232 #[q.p,(c:Int),.agg #[k,p]] w (iF B w q (v.set c (k,p)) v.d.aU):=by
  have am:=HV.dK f.h;have b8:=f.len;have ap:=yE A;obtain⟨aE,al⟩:=yD (ts:=v.t.set c (k,p)) f.h (by rw[jah];exact f.len) (wZ f.ents c (k,p) he) (c / 8) (by rw[jah];exact ap)
  have az:=(mM f.h f.need).1;rw[show v.h.c.toNat=v.t.length by omega] at az
  obtain⟨d1,d2⟩:=SE (v.t.set c (k,p)) c
  have ac:Hid (∀(W:ω) (g cap:Nat),W.ownsRow w.heap.size 168 2 (.slice (some ⟨g,0,none⟩) v.t.length cap) v.t.length (jB (v.t.set c (k,p)))->κ prog 108 #[.slice (some ⟨g,0,none⟩) v.t.length cap,((c:Int) / 8:Int)] W λe w' =>
      e=.returned (.tuple #[.string (eP (v.t.set c (k,p)) ((c / 8:Nat):Int)),(0:Int)])/\β W W w'):=λW g cap P=>by
    have:=GV (some ⟨g,0,none⟩) v.t.length cap (v.t.set c (k,p)) ((c:Int) / 8) W (uQ P _ (by rw[jar (by rw[pX,jah];exact ja1 _)]) (ja1 _) jah) (by omega)
    rw[d1,d2,aE] at this;exact this
  have a1:Hid (∀(W:ω),aS B W q v->B.top<=W.heap.size->κ prog 109 #[q.d.p,(1+(c:Int) / 8:Int),.string (eP (v.t.set c (k,p)) ((c / 8:Nat):Int))] W λe w' =>
      ∃ q':Qh,e=.returned v.d.aU/\Led B W q q' {v with d:=v.fG c (k,p)} w'/\q'.vt=q.vt/\q'.vh=q.vh):=λW hi hb=>by
    have h1:=um (1+c / 8) (eP (v.t.set c (k,p)) ((c / 8:Nat):Int)) W hi.dev f.d hm hb al (by omega)
    rw[show(((1+c / 8:Nat):Int))=1+(c:Int) / 8 by omega] at h1
    refine h1.mono ?_;rintro e w' ⟨q2,rfl,bt,bo,bh,br⟩;exact⟨{q with d:=q2},rfl,Led.dev hi bo bt bh br,rfl,rfl⟩
  have a3:bI (v.t.getD c (0,0)).1 (v.t.getD c (0,0)).2 v.h.p=true:=by rw[ja5,ja7 A];exact f.ents _ (jab A)
  have a9:Hid (v.d.aU=0\/v.d.aU=7):=by
    rcases DV.nN v.d with L|L
    . exact .inl L.1
    . exact .inr L.1
  have K:Hid (v.d.aU=0->v.set c (k,p)=⟨v.fG c (k,p),v.h,v.t.set c (k,p),if (v.t.getD c (0,0)).1=2 then v.held++[(v.t.getD c (0,0)).2.toNat] else v.held⟩):=λh0=>by unfold IV.set;rw[if_pos h0]
  have a0:Hid (v.d.aU≠0->v.set c (k,p)={v with d:=v.fG c (k,p)}):=λh0=>by unfold IV.set;rw[if_neg h0]
  have ck:=f.few;have HI:=ah h;obtain⟨O,S,Z,cd,t0,t1⟩:=h.jA A;obtain⟨_,D,E,ag⟩:=GN h;have c4:=h.cells.2.2.2.2.1;rw[Z] at c4;have bA:=ah Z;have ba:=ah ag;have lp:q.p<w.heap.size:=lt_of_some h.blk
  have bX:Hid (∀ j u,(jB v.t)[j]?=some u->(w.alloc (.cells #[k,p] 168)).cell? ((⟨O,0,none⟩:Addr).add j)=some u):=λj u hj=>by
    have P:=h.own;rw[Z] at P;have:=uZ P j u hj
    rw[jb1 _ _ _ (ja2 w _ this)];exact this
  have ce:=am.2.2.2.1;have cb:(c:Int)<(v.t.length:Int):=by omega
  have bS:v.t.length<=32:=by omega
  have ch:(c:Int) / 8<=4:=by omega
  have ci:0<=(c:Int) / 8:=by omega
  obtain⟨i0,bL,bi,c6,bu⟩:=info_parts tK;obtain⟨i1,bf,bc,c7,b6⟩:=info_parts tN;clear h f az aE al ap b8 am he Z ag d1 d2;generalize v.d.aU=pf at a1 a9 K a0 |-;generalize v.set c (k,p)=V at K a0 |-;generalize eP (v.t.set c (k,p)) ((c / 8:Nat):Int)=RS at ac a1;generalize bE:(v.t.getD c (0,0)).1=y0 at t0 a3 K;generalize b7:(v.t.getD c (0,0)).2=y1 at t1 a3 K;have bd:=ah bE;have bn:=ah b7;have ao:Hid ((jB v.t).length=v.t.length*2):=pX _;have bO:Hid (∀ u∈jB v.t,u.oneCell'=true):=L6 _;generalize hn:v.t.length=n at c4 A cb bS ac ao
  have l:=ah hn;have ar:(w.alloc (.cells #[k,p] 168)).heap.size=w.heap.size+1:=by simp
  have b2:=ah ar;have aw:Hid (w.heap.size<=(w.alloc (.cells #[k,p] 168)).heap.size):=by unfold Hid;rw[ar];omega
  have bv:Hid ((w.alloc (.cells #[k,p] 168)).heap[w.heap.size]?=some (.cells #[k,p] 168 (0,0))):=heap_alloc_new _ _;have F:Hid (β w w (w.alloc (.cells #[k,p] 168))):=(ja0 _ _).alloc (ja1 _) _;have ai:=ah (uP v.t c (by rw[l.out];exact A))
  go_enter func232,ntmps232
  go_wp2_with (at_builtin;refine wpList_append_lies _ (by rfl) _ _ 144 (by rfl) w.heap.size 168 i0 (.agg #[(0:Int),(0:Int)]) 2 16 underlying144 bL bi c6 bu rfl (by decide) (.slice none 0 0) 0 [] (by rfl) (jae _ _ _ _) ⟨O,0,none⟩ n S (jB v.t) (by rfl) ao.out bX.out bO.out (by omega) (by unfold maxLen;omega) (by omega) aw.out (w.heap.size+1) b2.out ?_;intro G a y s C ae bq;rw[jan,jaL] at s
               have a6:y.heap[w.heap.size]?=some (.cells #[k,p] 168 (0,0)):=(C.block _ (by rw[b2.out];omega) (λe=>by cases e)).trans bv.out
               have b0:y.cell? ⟨w,0,none⟩=some (k:Value):=by rw[cell_of_row _ _ _ _ _ _ a6];rfl
               have b1:y.cell? ⟨w,1,none⟩=some (p:Value):=by rw[cell_of_row _ _ _ _ _ _ a6];rfl
               have s0:=(s.cellAt (c*2) (by omega)).trans ai.out.1
               have s1:=(s.cellAt (c*2+1) (by omega)).trans ai.out.2
               have f0:=s.frozenAt (c*2);have f1:=s.frozenAt (c*2+1);have bw:Hid (y.ownsRow w.heap.size 168 2 (.slice (some ⟨G,0,none⟩) n a) n (jB v.t)):=s;have bp:Hid (β w w y):=F.out.grown C aw.out (λk e=>by cases e)
               have H:Hid (w.heap.size<=G):=(dQ s).1
               clear s C ae bq a6)
  have R:Hid (((y.setCell ⟨G,c*2,none⟩ k).setCell ⟨G,c*2+1,none⟩ p).ownsRow w.heap.size 168 2 (.slice (some ⟨G,0,none⟩) n a) n (jB (v.t.set c (k,p)))):=Qq bw.out l.out c k p;have a7:Hid (β w w ((y.setCell ⟨G,c*2,none⟩ k).setCell ⟨G,c*2+1,none⟩ p)):=(bp.out.setCell (p:=⟨G,c*2,none⟩) H.out _).setCell (p:=⟨G,c*2+1,none⟩) H.out _;generalize (y.setCell ⟨G,c*2,none⟩ k).setCell ⟨G,c*2+1,none⟩ p=w2 at R a7 |-;refine cEq (ac.out w2 G a R.out) λw3 ax=>?_
  have a8:=ah (a7.out.trans (ax.mono a7.out.size));have b4:Hid (w3.ownsRow w.heap.size 168 2 (.slice (some ⟨G,0,none⟩) n a) n (jB (v.t.set c (k,p)))):=aZ R.out λr e=>ax.block r (R.out.lt r e).2
  have b5:=HI.out.below a8.out;have c0:=b5.cells.1;have bs:=ah (a1.out w3 b5 (ja4 U a8.out.size));have bN:=ah (Led.below HI.out a8.out);go_wp2_with fail
  refine bs.out.mono ?_;rintro e w4 ⟨x,rfl,aR,b9,c8⟩;have i:Hid (Led B w q x {v with d:=v.fG c (k,p)} w4):=bN.out.trans aR
  obtain⟨cG,N⟩:=ownsRow_kind b4.out G rfl
  have ad:Hid (w4.ownsRow w.heap.size 168 2 (.slice (some ⟨G,0,none⟩) n a) n (jB (v.t.set c (k,p)))):=aZ b4.out λr e=>by
    have:G=r:=by simpa [Value.ownBlock] using e
    subst this;rw[aR.kept.box N (by decide)];exact N.symm
  have a4:Hid (x.vt=.slice (some ⟨O,0,none⟩) v.t.length S):=by unfold Hid;rw[b9];exact bA.out
  have M:Hid (x.vh=.slice D v.held.length E):=by unfold Hid;rw[c8];exact ba.out
  by_cases I:pf=0
  . have HV:=ah (K.out I)
    have an:=ah I;rw[I];clear K a0 a9 I;have b:=i.out.rim;have o:x.p=q.p:=i.out.p;have c4:w4.cell? ⟨q.p,4,none⟩=some (.slice (some ⟨O,0,none⟩) n S):=by have:=b.cells.2.2.2.2.1;rw[o,a4.out,l.out] at this;exact this
    have c5:w4.cell? ⟨q.p,5,none⟩=some (.slice D v.held.length E):=by have:=b.cells.2.2.2.2.2.1;rw[o,M.out] at this;exact this
    have f4:w4.frozen? ⟨q.p,4,none⟩=false:=by have:=b.cells.2.2.2.2.2.2 4;rw[o] at this;exact this
    have f5:w4.frozen? ⟨q.p,5,none⟩=false:=by have:=b.cells.2.2.2.2.2.2 5;rw[o] at this;exact this
    obtain⟨g9,cg,b3,_,t0,t1⟩:=b.jA (c:=c) (by show c<v.t.length;rw[l.out];exact A)
    rw[a4.out] at b3
    injection b3 with e1 e2 e3
    injection e1 with e1
    injection e1 with e1
    subst e1;rw[show(({v with d:=v.fG c (k,p)}:IV).t.getD c (0,0)).1=y0 from bd.out] at t0
    rw[show(({v with d:=v.fG c (k,p)}:IV).t.getD c (0,0)).2=y1 from bn.out] at t1
    have bk:B.top<=w.heap.size:=U;have k0:(0:Int)<=(c:Int):=by omega
    have av:q.p<w4.heap.size:=by have:=lt_of_some b.blk;rw[o] at this;exact this
    have bm:w.heap.size<=w4.heap.size:=i.out.kept.size;by_cases X:y0=2
    . have g2:(y0==2)=true:=by simpa using X
      have cj:0<=y1/\y1<1000:=by
        rcases jh a3 with h4|h4
        . omega
        . omega
      obtain⟨z,rfl⟩:∃ z:Nat,y1=(z:Int):=⟨y1.toNat,by omega⟩
      have F:Hid (β w4 w4 (w4.alloc (.cells #[(z:Int)] 3)).drew):=((ja0 _ _).alloc (ja1 _) _).drew
      have be:Hid ((w4.alloc (.cells #[(z:Int)] 3)).drew.ownsRow 0 3 1 (.slice D v.held.length E) v.held.length (kE v.held)):=by
        have:=b.held
        rw[M.out] at this;exact aZ this λr e=>F.out.block r (this.lt r e).2
      have bb:Hid ((w4.alloc (.cells #[(z:Int)] 3)).drew.heap[w4.heap.size]?=some (.cells #[(z:Int)] 3 (0,0))):=heap_alloc_new _ _;have aq:Hid ((w4.alloc (.cells #[(z:Int)] 3)).drew.heap.size=w4.heap.size+1):=by unfold Hid;show(w4.alloc _).heap.size=_;simp
      have c9:Hid (0<=(w4.alloc (.cells #[(z:Int)] 3)).drew.heap.size):=ja6 _;have aD:Hid (q.p<(w4.alloc (.cells #[(z:Int)] 3)).drew.heap.size):=by unfold Hid;rw[aq.out];omega
      have aM:Hid (some q.p≠(Value.slice D v.held.length E).ownBlock):=by
        unfold Hid;intro e;have:=b.held
        rw[M.out] at this;obtain⟨c2,e2⟩:=ownsRow_kind this q.p e.symm;have:=b.blk
        rw[o,e2] at this;cases this
      have aL:Hid ((w4.alloc (.cells #[(z:Int)] 3)).drew.cell? ⟨q.p,5,none⟩=some (.slice D v.held.length E)):=(F.out.cell (p:=⟨q.p,5,none⟩) av).trans c5
      have bj:Hid ((w4.alloc (.cells #[(z:Int)] 3)).drew.frozen? ⟨q.p,5,none⟩=false):=by
        unfold Hid;rw[jaF (w:=w4) (F.out.block q.p av)];exact f5
      have cc:(w4.alloc (.cells #[(z:Int)] 3)).cell? ⟨q.p,5,none⟩=some (.slice D v.held.length E):=aL.out;have bR:Hid (v.held.length+1<=maxLen):=by unfold Hid maxLen;omega
      have ab:Hid (V=⟨v.fG c (k,p),v.h,v.t.set c (k,p),v.held++[z]⟩):=by
        unfold Hid;rw[HV.out,if_pos X];simp
      go_wp2
      go_region_law (refine step_append_lies _ (by rfl) _ _ 88 (by rfl) 0 3 i1 (.int .i64 0) 1 8 underlying88 bf bc c7 b6 rfl (by decide) (.slice D v.held.length E) v.held.length (kE v.held) (by rfl) be.out ⟨w4,0,none⟩ 1 1 [(z:Int)] (by rfl) (by rfl) (jbu bb.out) (λu hu=>by simp at hu;subst hu;rfl) (by decide) bR.out (by omega) c9.out (w4.heap.size+1) aq.out ?_;intro g cap J s C ae cf;have q5:=(C.cell_far ⟨q.p,5,none⟩ aD.out aM.out).trans aL.out;have q6:=(C.frozen_far ⟨q.p,5,none⟩ aD.out aM.out).trans bj.out)
      all_goals
        have b:=i.out.rim;have ca:(w4.alloc (.cells #[(z:Int)] 3)).drew.grownBy J x.vh.ownBlock:=by rw[M.out];exact C
        have bB:x.vh.ownBlock=some g\/w4.heap.size<=g:=by
          rw[M.out];rcases ae with h|h
          . exact .inl h
          . exact .inr (by omega)
        obtain⟨Q,a2⟩:=b.NP F.out ca z g cap s bB (ja4 bk bm);rw[show x.p=q.p from o] at Q a2
        have bl:Hid ((J.setCell ⟨q.p,5,none⟩ (.slice (some ⟨g,0,none⟩) (v.held.length+1) cap)).ownsRow w.heap.size 168 2 (.slice (some ⟨G,0,none⟩) n a) n (jB (v.t.set c (k,p)))):=by
          obtain⟨cG,N⟩:=ownsRow_kind ad.out G rfl;refine aZ ad.out λr e=>?_
          have:G=r:=by simpa [Value.ownBlock] using e
          subst this;rw[a2.box N (by decide)];exact N.symm
        obtain⟨af,aa⟩:=Q.sets (g:=G) (cap:=a) (T:=v.t.set c (k,p)) jah (by show World.ownsRow _ 0 _ 2 (.slice (some ⟨G,0,none⟩) v.t.length a) v.t.length _;rw[l.out];exact ownsRow_base bl.out (ja6 _)) (B.fresh U H.out)
        have Y:Hid (Led B w q {x with vh:=.slice (some ⟨g,0,none⟩) (v.held.length+1) cap,vt:=.slice (some ⟨G,0,none⟩) n a} V ((J.setCell ⟨q.p,5,none⟩ (.slice (some ⟨g,0,none⟩) (v.held.length+1) cap)).setCell ⟨q.p,4,none⟩ (.slice (some ⟨G,0,none⟩) n a))):=by
          refine⟨i.out.p,i.out.dp,λr e=>?_,?_,?_⟩
          . have:G=r:=by simpa [Value.ownBlock] using e
            subst this;exact .inr H.out
          . rw[ab.out]
            have:=af
            simp only[l.out] at this;rw[<- o] at this |-;exact this
          . have:=fA.trans (fA.trans i.out.kept a2) aa
            simp only[l.out] at this;exact this
        have d4:(J.setCell ⟨q.p,5,none⟩ (.slice (some ⟨g,0,none⟩) (v.held.length+1) cap)).cell? ⟨q.p,4,none⟩=some (.slice (some ⟨O,0,none⟩) n S):=by
          have:=Q.cells.2.2.2.2.1
          simp only[a4.out,l.out] at this;exact this
        have d5:(J.setCell ⟨q.p,5,none⟩ (.slice (some ⟨g,0,none⟩) (v.held.length+1) cap)).frozen? ⟨q.p,4,none⟩=false:=by
          have:=Q.cells.2.2.2.2.2.2 4
          exact this
        generalize J.setCell ⟨q.p,5,none⟩ (.slice (some ⟨g,0,none⟩) (v.held.length+1) cap)=w7 at Y d4 d5 |-;go_wp2
        go_ret
        exact⟨_,by rw[an.out];rfl,Y.out⟩
    . have g2:(y0==2)=false:=by simpa using X
      have ab:Hid (V=⟨v.fG c (k,p),v.h,v.t.set c (k,p),v.held⟩):=by
        unfold Hid;rw[HV.out,if_neg X]
      obtain⟨af,aa⟩:=b.sets (g:=G) (cap:=a) (T:=v.t.set c (k,p)) jah (by show World.ownsRow _ 0 _ 2 (.slice (some ⟨G,0,none⟩) v.t.length a) v.t.length _;rw[l.out];exact ownsRow_base ad.out (ja6 _)) (B.fresh U H.out)
      have Y:Hid (Led B w q {x with vt:=.slice (some ⟨G,0,none⟩) n a} V (w4.setCell ⟨q.p,4,none⟩ (.slice (some ⟨G,0,none⟩) n a))):=by
        refine⟨i.out.p,i.out.dp,λr e=>?_,?_,?_⟩
        . have:G=r:=by simpa [Value.ownBlock] using e
          subst this;exact .inr H.out
        . rw[ab.out]
          have:=af
          rw[show({v with d:=v.fG c (k,p)}:IV).t.length=n from l.out] at this
          rw[<- o];exact this
        . have:=fA.trans i.out.kept aa
          rw[o,show({v with d:=v.fG c (k,p)}:IV).t.length=n from l.out] at this
          exact this
      go_wp2
      go_ret
      exact⟨_,by rw[an.out];rfl,Y.out⟩
  . have HV:=ah (a0.out I)
    have L:pf=7:=by rcases a9.out with h|h;exact absurd h I;exact h
    have H7:=ah L;rw[L];go_wp2
    go_ret
    exact⟨x,by rw[H7.out];rfl,by rw[HV.out];exact i.out⟩
def tu{B:Gd}{w a:ω}{q:Qh}{v:IV}{f:Int}(h:aS B w q v)(b:β w w a):iF B w q v f (.returned f) a:=⟨q,rfl,Led.below h b⟩
def VA{B:Gd}{m:Nat}{q:Qh}{v:IV}(c fr:Int)(s:ByteArray)(w:ω)(h:aS B w q v)(o:v.ok m)(Z:m+10<1000000000)(N:B.top<=w.heap.size)(X:s.size<=1000)(W : -9223372036854775808<=fr/\fr<=9223372036854775807) :
    κ prog 230 #[q.p,c,fr,s] w (iF B w q (v.write c fr s) (v.dJ c fr s)):=by
  have b:=ah (sF c w h o.len)
  cases i:oq v c fr s with
  | false =>
    have J:v.write c fr s=v:=by unfold IV.write;rw[i,if_neg (λh=>by cases h.1)]
    have F:v.dJ c fr s=1:=by unfold IV.dJ;rw[i];rfl
    rw[J,F];have j:Hid (iF B w q v 1 (.returned (1:Int)) w):=tu h (ja0 _ _)
    cases y:v.there c with
    | false =>
      rw[y] at b;go_enter func230,ntmps230
      go_wp2_with (go_at_call 185;refine cSt b.out ?_)
      go_ret
      exact j.out
    | true =>
      have hd:¬(0<=fr/\fr<=4/\s.size % 16=0/\(s.size:Int)<=16*(4-fr)):=by
        unfold oq at i;rw[y,jb6] at i;exact of_decide_eq_false i
      rw[y] at b;by_cases l:fr<0
      . have g1  := decide_eq_true l
        go_enter func230,ntmps230
        go_wp2_with (go_at_call 185;refine cSt b.out ?_)
        go_ret
        exact j.out
      . have g1  := decide_eq_false l
        by_cases u:4<fr
        . have g2  := decide_eq_true u
          go_enter func230,ntmps230
          go_wp2_with (go_at_call 185;refine cSt b.out ?_)
          go_ret
          exact j.out
        . have g2  := decide_eq_false u
          by_cases I:s.size % 16=0
          . have g3:decide (0<(s.size:Int) % 16)=false:=by simp;omega
            have G:decide (16*(4-fr)<(s.size:Int))=true:=by simp;omega
            go_enter func230,ntmps230
            go_wp2_with (go_at_call 185;refine cSt b.out ?_)
            go_ret
            exact j.out
          . have g3:decide (0<(s.size:Int) % 16)=true:=by simp;omega
            go_enter func230,ntmps230
            go_wp2_with (go_at_call 185;refine cSt b.out ?_)
            go_ret
            exact j.out
  | true =>
    obtain⟨l,u,I,S,T⟩:=CQ i;obtain⟨P,A⟩:=IV.nP l;rw[l] at b;have g1:decide (fr<0)=false:=decide_eq_false (by omega)
    have g2:decide (4<fr)=false:=decide_eq_false (by omega)
    have g3:decide (0<(s.size:Int) % 16)=false:=by simp;omega
    have G:decide (16*(4-fr)<(s.size:Int))=false:=by simp;omega
    obtain⟨a,rfl⟩:∃ a:Nat,c=(a:Int):=⟨c.toNat,by omega⟩
    obtain⟨g,cap,L,_,t0,t1⟩:=h.jA (c:=a) (by omega)
    have c4:=h.cells.2.2.2.2.1;rw[L] at c4;have x:Hid (v.ent (a:Int)=v.t.getD a (0,0)):=rfl;by_cases k:(v.ent (a:Int)).1=2
    . obtain⟨p0,U,D⟩:=o.place l k
      have Q:=HV.dK o.h;have HV:Hid (v.write (a:Int) fr s={v with d:=(v.qU (a:Int) fr s).1}):=by unfold Hid IV.write;rw[if_pos ⟨i,k⟩]
      have E:Hid (v.dJ (a:Int) fr s=(v.qU (a:Int) fr s).2):=by unfold Hid IV.dJ;rw[i,if_pos rfl,if_pos k]
      have z:Hid (κ prog 235 #[q.p,.int .i64 (v.ent (a:Int)).2] w λe C=>e=.returned (dw v.h (v.ent (a:Int)).2.toNat:Int)/\C=w):=by
        have:=Ad (v.ent (a:Int)).2.toNat w h o.h (by omega)
        rw[show(((v.ent (a:Int)).2.toNat:Nat):Int)=(v.ent (a:Int)).2 by omega] at this;exact this
      have r:Hid (κ prog 264 #[q.p,((dw v.h (v.ent (a:Int)).2.toNat:Int)+fr:Int),s] w (iF B w q (v.write (a:Int) fr s) (v.dJ (a:Int) fr s))):=by
        have:=Hr (dw v.h (v.ent (a:Int)).2.toNat+fr.toNat) (s.size / 16) s w h o.d (by omega) N (by omega) (by omega) (by omega)
        rw[show(((dw v.h (v.ent (a:Int)).2.toNat+fr.toNat:Nat):Int))=(dw v.h (v.ent (a:Int)).2.toNat:Int)+fr by omega] at this
        rw[HV.out,E.out];exact this
      have Y:=o.d.ok.n2;generalize v.write (a:Int) fr s=V at r |-;generalize v.dJ (a:Int) fr s=f at r |-;rw[<- x.out,k] at t0;rw[<- x.out] at t1;generalize dw v.h (v.ent (a:Int)).2.toNat=R at z r D;generalize (v.ent (a:Int)).2=y1 at t1 z;generalize v.t.length=n at c4 A;go_enter func230,ntmps230
      go_wp2_with (first
        | (go_at_call 185;refine cSt b.out ?_)
        | (go_at_call 235;refine cSt z.out ?_))
      refine r.out.mono ?_;rintro e O ⟨q2,rfl,H⟩;have j:Hid (iF B w q V f (.returned f) O):=⟨q2,rfl,H⟩;go_wp2
      go_ret
      exact j.out
    . have K:v.write (a:Int) fr s=v:=by unfold IV.write;rw[if_neg (λh=>k h.2)]
      have M:v.dJ (a:Int) fr s=4:=by unfold IV.dJ;rw[i,if_pos rfl,if_neg k]
      rw[K,M];have j:Hid (iF B w q v 4 (.returned (4:Int)) w):=tu h (ja0 _ _);rw[<- x.out] at t0;generalize (v.ent (a:Int)).1=y0 at t0 k;have g5:(y0 != 2)=true:=by simpa using k
      generalize v.t.length=n at c4 A;go_enter func230,ntmps230
      go_wp2_with (go_at_call 185;refine cSt b.out ?_)
      go_ret
      exact j.out
def KE{B:Gd}{m:Nat}{q:Qh}{v:IV}(c:Int)(w:ω)(h:aS B w q v)(u:v.ok m)(E:m+10<1000000000)(z:B.top<=w.heap.size) :
  κ prog 181 #[q.p,c] w (iF B w q (v.clear c) (v.fB c)):=by
 have o:=ah (sF c w h u.len)
 cases b:v.there c with
 | false =>
  have j:v.clear c=v:=by unfold IV.clear;rw[b,if_neg (λh=>by cases h.1)]
  have k:v.fB c=1:=by unfold IV.fB;rw[b];rfl
  rw[b] at o;rw[j,k];have l:Hid (iF B w q v 1 (.returned (1:Int)) w):=tu h (ja0 _ _);go_enter func181,ntmps181
  go_wp2_with (go_at_call 185;refine cSt o.out ?_)
  go_ret
  exact l.out
 | true =>
  rw[b] at o;obtain⟨D,s⟩:=IV.nP b;obtain⟨a,rfl⟩:∃ a:Nat,c=(a:Int):=⟨c.toNat,by omega⟩
  obtain⟨g,cap,y,_,t0,t1⟩:=h.jA (c:=a) (by omega)
  have c4:=h.cells.2.2.2.2.1;rw[y] at c4;have A:Hid (v.ent (a:Int)=v.t.getD a (0,0)):=rfl;rw[<- A.out] at t0;by_cases i:(v.ent (a:Int)).1=1
  .have j:v.clear (a:Int)=v:=by unfold IV.clear;rw[if_neg (λh=>h.2 i)]
   have k:v.fB (a:Int)=0:=by unfold IV.fB;rw[b,if_pos rfl,if_pos i]
   rw[j,k];rw[i] at t0;have l:Hid (iF B w q v 0 (.returned (0:Int)) w):=tu h (ja0 _ _);generalize v.t.length=n at c4 s;go_enter func181,ntmps181
   go_wp2_with (go_at_call 185;refine cSt o.out ?_)
   go_ret
   exact l.out
  .have r:Hid (κ prog 232 #[q.p,(a:Int),.agg #[(1:Int),(0:Int)]] w (iF B w q (v.clear (a:Int)) (v.fB (a:Int)))):=by
    have:=NY a 1 0 w h u (by omega) z (by omega) (kN (.inr ⟨.inr rfl,rfl⟩))
    have j:v.clear (a:Int)=v.set a (1,0):=by unfold IV.clear;rw[if_pos ⟨b,i⟩];rfl
    have k:v.fB (a:Int)=v.d.aU:=by unfold IV.fB;rw[b,if_pos rfl,if_neg i]
    rw[j,k];exact this
   generalize v.clear (a:Int)=V at r |-;generalize v.fB (a:Int)=f at r |-;generalize (v.ent (a:Int)).1=y0 at t0 i;have g1:(y0==1)=false:=by simpa using i
   generalize v.t.length=n at c4 s;go_enter func181,ntmps181
   go_wp2_with (go_at_call 185;refine cSt o.out ?_)
   refine r.out.mono ?_;rintro e C ⟨q2,rfl,x⟩;have l:Hid (iF B w q V f _ C):=⟨q2,rfl,x⟩;go_wp2
   go_ret
   exact l.out
def Nl{v:IV}{k:Nat}(h:v.iD k=[])(a:v.iT k=false):v.iD (k+1)=[]:=by
 rw[v.Aj,h,if_neg (by simp_all)];rfl
def Nj{v:IV}{k n:Nat}(h:v.iD k=[])(b:v.iT k=true)(c:k<n):∃ r,v.iD n=k::r:=by
 have e:v.iD n=v.iD (k+1)++((List.range' (k+1) (n-(k+1))).filter v.iT):=by
  unfold IV.iD;rw[<- List.filter_append]
  congr 1
  have a:List.range' 0 (k+1)++List.range' (0+(k+1)) (n-(k+1))=List.range' 0 ((k+1)+(n-(k+1))):=by rw[List.range'_append_1]
  rw[jan] at a;rw[List.range_eq_range',List.range_eq_range',a]
  congr 1
  omega
 rw[e,v.Aj,h,if_pos b]
 simp_all
def MS{B:Gd}{m:Nat}{q:Qh}{v:IV}(c:Int)(s:ByteArray)(w:ω)(h:aS B w q v)(o:v.ok m)(hm:m+10<1000000000)(hB:B.top<=w.heap.size) :
  κ prog 231 #[q.p,c,s] w (iF B w q (v.fill c s) (v.dD c s)):=by
 have A:=ah (sF c w h o.len);have M:Hid (∀ f:Int,iF B w q v f (.returned f) w):=λf=>tu h (ja0 _ _)
 by_cases L:v.there c=true/\s.size=64
 .obtain⟨l,u⟩:=L
  rw[l] at A;obtain⟨aw,a2⟩:=IV.nP l;obtain⟨j,rfl⟩:∃ j:Nat,c=(j:Int):=⟨c.toNat,by omega⟩
  obtain⟨g,cap,hv,_,t0,t1⟩:=h.jA (c:=j) (by omega)
  have c4:=h.cells.2.2.2.2.1;have c2:=h.cells.2.2.1;rw[hv] at c4;have am:Hid (v.ent (j:Int)=v.t.getD j (0,0)):=rfl;rw[<- am.out] at t0;have k0:(0:Int)<=(j:Int):=by omega
  have aa:((s.size:Int) != 64)=false:=by simp;omega
  by_cases x:(v.ent (j:Int)).1=2
  .have e3:v.fill (j:Int) s=v:=by unfold IV.fill;rw[if_pos ⟨l,u⟩,if_pos x]
   have S:v.dD (j:Int) s=5:=by unfold IV.dD;rw[if_pos ⟨l,u⟩,if_pos x]
   rw[e3,S];rw[x] at t0;generalize v.t.length=n at c4 a2;go_enter func231,ntmps231
   go_wp2_with (go_at_call 185;refine cSt A.out ?_)
   go_ret
   exact M.out 5
  .have ai:=HV.dK o.h
   have a8:=o.len;have aq:=o.few;have ap:=o.d.ok.n2;obtain⟨P,R⟩:∃ P:Nat,v.h.p=(P:Int):=⟨v.h.p.toNat,by omega⟩
   have O:v.iR=v.iD P:=by unfold IV.iR;rw[R];rfl
   have a1:=ah λk=>Qj k w h (by omega) (by omega)
   have K:Hid (v.iD P=[]->v.fill (j:Int) s=v/\v.dD (j:Int) s=6):=λz=>by
    have a0:v.iR=[]:=O.trans z
    constructor
    .unfold IV.fill;rw[if_pos ⟨l,u⟩,if_neg x,a0]
    .unfold IV.dD;rw[if_pos ⟨l,u⟩,if_neg x,a0]
   have J:Hid (∀(k:Nat),v.iD k=[]->v.iT k=true->k<P ->
     (κ prog 235 #[q.p,(k:Int)] w λe T=>e=.returned (dw v.h k:Int)/\T=w) /\
     (κ prog 264 #[q.p,(dw v.h k:Int),s] w (iF B w q {v with d:=(v.fC k s).1} (v.fC k s).2)) /\
     ((v.fC k s).2=0\/(v.fC k s).2=7) /\
     ((v.fC k s).2≠0->v.fill (j:Int) s={v with d:=(v.fC k s).1}/\v.dD (j:Int) s=(v.fC k s).2) /\
     ((v.fC k s).2=0->v.fill (j:Int) s=(v.jL k s).set j (2,(k:Int))/\v.dD (j:Int) s=(v.jL k s).d.aU) /\
     (∀(W:ω) (y:Qh),aS B W y {v with d:=(v.fC k s).1}->y.p=q.p->κ prog 120 #[q.p] W λe T=>∃ q':Qh,e=.returned (.tuple #[])/\Led B W y q' (v.jL k s) T) /\
     (∀(W:ω) (y:Qh),aS B W y (v.jL k s)->y.p=q.p->B.top<=W.heap.size->κ prog 232 #[q.p,(j:Int),.agg #[(2:Int),(k:Int)]] W (iF B W y ((v.jL k s).set j (2,(k:Int))) (v.jL k s).d.aU))):=λk ag af a9=>by
    obtain⟨r,hr⟩:=Nj ag af a9;have F:v.iR=k::r:=O.trans hr;have X:k∈v.iR:=by rw[F];exact jag
    have az:=(mM o.h o.need).2 k (by omega)
    refine⟨Ad k w h o.h (by omega),?_,DV.rV _ _ _ _,λz=>?_,λz=>?_,λW y Q Y=>?_,λW y Q Y hb=>?_⟩
    .exact Hr (dw v.h k) 4 s w h o.d (by omega) hB (by omega) (by omega) (by omega)
    .constructor
     .unfold IV.fill;rw[if_pos ⟨l,u⟩,if_neg x,F];show(if (v.fC k s).2=0 then _ else _)=_;rw[if_neg z]
     .unfold IV.dD;rw[if_pos ⟨l,u⟩,if_neg x,F];show(if (v.fC k s).2=0 then _ else _)=_;rw[if_neg z]
    .constructor
     .unfold IV.fill;rw[if_pos ⟨l,u⟩,if_neg x,F];show(if (v.fC k s).2=0 then _ else _)=_;rw[if_pos z];rfl
     .unfold IV.dD;rw[if_pos ⟨l,u⟩,if_neg x,F];show(if (v.fC k s).2=0 then _ else _)=_;rw[if_pos z]
    .rw[<- Y]
     exact xB W Q (o.fC X u (by omega))
    .rw[<- Y]
     exact NY j 2 (k:Int) W Q (o.jL X u (by omega)) (by omega) hb (by show j<v.t.length;omega) (Ak o X)
   have a7:Hid (v.iD 0=[]):=rfl;have a3:=ah λk (a:v.iD k=[]) (b:v.iT k=false)=>Nl a b
   have av:P<=40:=by omega
   rw[R] at c2;have ar:Hid (∀ k,(dw v.h k:Int)=1+(ay v.h.c.toNat:Int)+4*(k:Int)):=λk=>by unfold dw;omega
   clear o ai a8 aq ap O R u l;generalize (v.ent (j:Int)).1=y0 at t0 x;have g2:(y0==2)=false:=by simpa using x
   have HI:=ah h;generalize v.fill (j:Int) s=V at K J |-;generalize v.dD (j:Int) s=f at K J |-;generalize v.t.length=n at c4 a2;go_enter func231,ntmps231
   go_wp2_with (go_at_call 185;refine cSt A.out ?_)
   go_loop [7] (λi=>∃ k:Nat,k<=P/\i=.int .i64 k/\v.iD k=[]) (λi=>P-(intOf i).toNat)
   case atStart=>exact⟨0,ja6 _,rfl,a7.out⟩
   case round =>
    obtain⟨k,hk,rfl,I⟩:=hrel;by_cases ae:k<P
    .have Z:=ah (a1.out k)
     have a4:=J.out k I;have a6:=a3.out k I;generalize ax:v.iT k=ob at Z a4 a6
     cases ob with
     | false =>
      have HX:=ah (a6 rfl);go_wp2_with (go_at_call 265;refine cSt Z.out ?_)
      go_round
      case rel=>exact⟨k+1,by omega,by go_num,HX.out⟩
      case measure=>simp[intOf];omega
     | true =>
      obtain⟨y,q2,q3,q4,q5,q6,q7⟩:=a4 rfl ae;have Q1:=ah y;have Q2:=ah q2;have Q3:=ah q3;have Q4:=ah q4;have U:=ah q5;have Q6:=ah q6;have Q7:=ah q7;have gP:((k:Int)==(P:Int))=false:=by simp;omega
      generalize dw v.h k=bn at Q1 Q2;generalize (v.fC k s).2=f1 at Q2 Q3 Q4 U;generalize (v.jL k s).d.aU=f2 at U Q7
      go_wp2_with (first
       | (go_at_call 265;refine cSt Z.out ?_)
       | (go_at_call 235;refine cSt Q1.out ?_))
      refine Q2.out.mono ?_;rintro e w3 ⟨r3,rfl,ao⟩;have E:=ah ao;by_cases N:f1=0
      .obtain⟨D,C⟩:=U.out N
       have ac:=ah D;have an:=ah C;have Q8:=ah (Q6.out w3 r3 E.out.rim E.out.p);rw[N];go_wp2_with fail
       refine Q8.out.mono ?_;rintro e w4 ⟨r4,rfl,H⟩;have ab:=ah (E.out.trans H);have Q9:=ah (Q7.out w4 r4 H.rim (H.p.trans E.out.p) (ja4 hB (E.out.trans H).kept.size));go_wp2_with fail
       refine Q9.out.mono ?_;rintro e w5 ⟨r5,rfl,al⟩;have G:Hid (iF B w q V f (.returned f2) w5):=⟨r5,by rw[an.out],by rw[ac.out];exact ab.out.trans al⟩
       go_wp2
       go_ret
       exact G.out
      .obtain⟨D,C⟩:=Q4.out N
       have h7:f1=7:=by rcases Q3.out with h|h;exact absurd h N;exact h
       have G:Hid (iF B w q V f (.returned (7:Int)) w3):=⟨r3,by rw[C,h7],by rw[D];exact E.out⟩
       rw[h7];go_wp2
       go_ret
       exact G.out
    .have ad:k=P:=by omega
     subst ad;obtain⟨D,C⟩:=K.out I;have G:Hid (iF B w q V f (.returned (6:Int)) w):=by rw[D,C];exact M.out 6
     clear I J a1 a3 K D C;go_wp2
     go_ret
     exact G.out
 .have a5:v.there c=false\/s.size≠64:=by
   cases l:v.there c with
   | false=>exact .inl rfl
   | true=>exact .inr λe=>L ⟨l,e⟩
  have e3:v.fill c s=v:=by unfold IV.fill;rw[if_neg L]
  have S:v.dD c s=1:=by unfold IV.dD;rw[if_neg L]
  rw[e3,S]
  cases l:v.there c with
  | false =>
   rw[l] at A;go_enter func231,ntmps231
   go_wp2_with (go_at_call 185;refine cSt A.out ?_)
   go_ret
   exact M.out 1
  | true =>
   rw[l] at A a5;have u:s.size≠64:=by rcases a5 with h|h;cases h;exact h
   have aa:((s.size:Int) != 64)=true:=by simp;omega
   go_enter func231,ntmps231
   go_wp2_with (go_at_call 185;refine cSt A.out ?_)
   go_ret
   exact M.out 1
