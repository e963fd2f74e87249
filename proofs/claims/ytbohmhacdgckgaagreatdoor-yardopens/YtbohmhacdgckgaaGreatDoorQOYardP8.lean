/- A yard that is being opened (J2): its block, the copies of devices that it has already, and the images that stand on them. -/
import Derived.Test.YtbohmhacdgckgaaGreatDoorQODevCopy2
set_option linter.all false
set_option maxHeartbeats 2000000
set_option maxRecDepth 100000
namespace Go.Proofs.YtbohmhacdgckgaaGreatDoor
open Go.RowKit renaming Below->β
open Go renaming World->ω, Value->υ, Calls->κ
open Option renaming none->O
open Go.Proofs.Tryz Go.RowKit Go.Maps
attribute [local go_sem ↓] Go.wp_at_zero Go.wp_at_succ
structure YOp(w:ω)(B yp k q:Nat)(Y:Yh)(d:Nat->DV)(t:DV):Prop where
 blk:∃ cur,w.heap[yp]?=some (.cells cur 74 (0,0))/\cur.size=13/\(∀ i,i<k->cur[i]?=some (Y.dp (aK d) i:υ))/\cur[5]?=some (Y.tp.p:υ) /\
  (∀ i,i<k->cur[6+i]?=some (iE (Y.xs i) (aK d i)))/\(∀ i,q<=i->i<5->cur[6+i]?=some (.pointer O))/\cur[11]?=some (.int .i64 0)/\cur[12]?=some (.pointer O)
 img:∀ i v,i<k->aK d i=some v->aH Gd.no w (Y.xs i) v
 dev:∀ i,i<k->aK d i=O->bQ Gd.no w (Y.ds i) (d i)
 top:bQ Gd.no w Y.tp t
 apart:∀ i j,i<k->j<k->i≠j->∀ b,Y.fpF (aK d) i b->¬Y.fpF (aK d) j b
 apTop:∀ i,i<k->∀ b,Y.tp.fp b->¬Y.fpF (aK d) i b
 past:∀ i,i<k->∀ b,Y.fpF (aK d) i b->B<=b/\b≠yp
 pastT:∀ b,Y.tp.fp b->B<=b/\b≠yp
 pastY:B<=yp
def YOp.lt{w:ω}{B a k q:Nat}{Y:Yh}{d:Nat->DV}{t:DV}(h:YOp w B a k q Y d t):a<w.heap.size:=by
 obtain⟨c,b,_⟩:=h.blk;exact lt_of_some b
def YOp.fF{w:ω}{B g k q:Nat}{Y:Yh}{d:Nat->DV}{t:DV}(h:YOp w B g k q Y d t){i b:Nat}(f:i<k)(a:Y.fpF (aK d) i b):b<w.heap.size:=by
 cases c:aK d i with
 | none=>rw[Yh.dH c] at a;exact((h.dev i f c).lt b a).2
 | some v=>rw[Yh.dX c] at a;exact(h.img i v f c).gQ b a
theorem YOp.keep{w f:ω}{B g k q:Nat}{Y:Yh}{d:Nat->DV}{t:DV}(h:YOp w B g k q Y d t)(m:f.heap[g]?=w.heap[g]?)(l:∀ i,i<k->∀ b,Y.fpF (aK d) i b->f.heap[b]?=w.heap[b]?)(n:∀ b,Y.tp.fp b->f.heap[b]?=w.heap[b]?):YOp f B g k q Y d t :=
 ⟨by rw[m];exact h.blk,λi v a c=>(h.img i v a c).jm λb j=>l i a b (by rw[Yh.dX c];exact j),λi a c=>(h.dev i a c).keep λb j=>l i a b (by rw[Yh.dH c];exact j),h.top.keep n,h.apart,h.apTop,h.past,h.pastT,h.pastY⟩
def YOp.below{w c:ω}{B f k q:Nat}{Y:Yh}{d:Nat->DV}{t:DV}(h:YOp w B f k q Y d t)(a:β w w c):YOp c B f k q Y d t :=
 h.keep (a.block _ h.lt) (λ_ g b e=>a.block b (h.fF g e)) λb e=>a.block b (h.top.lt b e).2
def YOp.cell{w:ω}{B a k q:Nat}{Y:Yh}{d:Nat->DV}{t:DV}(h:YOp w B a k q Y d t)(i:Nat)(g:i<13):(∃ v,w.cell? ⟨a,i,O⟩=some v)/\w.frozen? ⟨a,i,O⟩=false:=by
 obtain⟨c,b,f,_⟩:=h.blk;refine⟨⟨c[i]'(by omega),?_⟩,frozen_of_row w a i _ _ b⟩
 rw[cell_of_row w a i _ _ _ b]
 simp_all
def YOp.U5{w:ω}{B a k q:Nat}{Y:Yh}{d:Nat->DV}{t:DV}(h:YOp w B a k q Y d t):w.cell? ⟨a,5,O⟩=some (Y.tp.p:υ):=by
 obtain⟨c,f,g,i,b,_⟩:=h.blk;rw[cell_of_row w a 5 _ _ _ f];exact b
def YOp.TM{w:ω}{B g k q:Nat}{Y:Yh}{d:Nat->DV}{t:DV}(h:YOp w B g k q Y d t)(A:k<5)(v:υ):YOp (w.setCell ⟨g,k,O⟩ v) B g k q Y d t:=by
 obtain⟨c,n,s,x,r,o,z,m,y⟩:=h.blk;have l:∀ b,b≠g->(w.setCell ⟨g,k,O⟩ v).heap[b]?=w.heap[b]?:=λb f=>heap_setCell_other _ _ _ _ f
 refine⟨⟨_,heap_setCell_same w g k _ _ _ n,by simpa using s,λi a=>?_,?_,λi a=>?_,λi a C=>?_,?_,?_⟩,λi u a j=>(h.img i u a j).jm λb f=>l b (h.past i a b (by rw[Yh.dX j];exact f)).2,λi a j=>(h.dev i a j).keep λb f=>l b (h.past i a b (by rw[Yh.dH j];exact f)).2,h.top.keep λb f=>l b (h.pastT b f).2,h.apart,h.apTop,h.past,h.pastT,h.pastY⟩
 .rw[ja3 (by omega)];exact x i a
 .rw[ja3 (by omega)];exact r
 .rw[ja3 (by omega)];exact o i a
 .rw[ja3 (by omega)];simp_all
 .rw[ja3 (by omega)];exact m
 .rw[ja3 (by omega)];exact y
def YOp.TP{w:ω}{B g k:Nat}{Y:Yh}{d:Nat->DV}{t:DV}(h:YOp w B g k k Y d t)(A:k<5)(v:υ):YOp (w.setCell ⟨g,6+k,O⟩ v) B g k (k+1) Y d t:=by
 obtain⟨c,n,s,x,r,o,q,m,z⟩:=h.blk;have l:∀ b,b≠g->(w.setCell ⟨g,6+k,O⟩ v).heap[b]?=w.heap[b]?:=λb f=>heap_setCell_other _ _ _ _ f
 refine⟨⟨_,heap_setCell_same w g _ _ _ _ n,by simpa using s,λi a=>?_,?_,λi a=>?_,λi a y=>?_,?_,?_⟩,λi u a j=>(h.img i u a j).jm λb f=>l b (h.past i a b (by rw[Yh.dX j];exact f)).2,λi a j=>(h.dev i a j).keep λb f=>l b (h.past i a b (by rw[Yh.dH j];exact f)).2,h.top.keep λb f=>l b (h.pastT b f).2,h.apart,h.apTop,h.past,h.pastT,h.pastY⟩
 .rw[ja3 (by omega)];exact x i a
 .rw[ja3 (by omega)];exact r
 .rw[ja3 (by omega)];exact o i a
 .rw[ja3 (by omega)];exact q i (by omega) y
 .rw[ja3 (by omega)];exact m
 .rw[ja3 (by omega)];exact z
def YOp.next{w:ω}{B m k q:Nat}{Y a:Yh}{d:Nat->DV}{t:DV}(h:YOp w B m k q Y d t)(Q:q<=k+1)(P:k<5)(l:a.tp=Y.tp/\∀ i,i≠k->a.ds i=Y.ds i/\a.xs i=Y.xs i)
  (I:w.cell? ⟨m,k,none⟩=some (a.dp (aK d) k:υ)) (M:w.cell? ⟨m,6+k,none⟩=some (iE (a.xs k) (aK d k))) (N:∀ v,aK d k=some v->aH Gd.no w (a.xs k) v) (hd:aK d k=none->bQ Gd.no w (a.ds k) (d k))
  (C:∀ b,a.fpF (aK d) k b->B<=b/\b≠m/\¬Y.tp.fp b/\∀ i,i<k->¬Y.fpF (aK d) i b):YOp w B m (k+1) (k+1) a d t:=by
 obtain⟨c,y,L,G,K,E,F,J,O⟩:=h.blk;obtain⟨u,l⟩:=l;have A:∀ i,w.cell? ⟨m,i,none⟩=c[i]?:=λi=>cell_of_row w m _ _ _ _ y
 have D:∀ i,i≠k->a.dp (aK d) i=Y.dp (aK d) i:=λi e=>by unfold Yh.dp;rw[(l i e).1,(l i e).2]
 have s:∀ i,i≠k->∀ b,a.fpF (aK d) i b=Y.fpF (aK d) i b:=λi e b=>by unfold Yh.fpF;rw[(l i e).1,(l i e).2]
 refine⟨⟨c,y,L,λi n=>?_,by rw[u];exact K,λi n=>?_,λi n H=>F i (by omega) H,J,O⟩,λi v n r=>?_,λi n r=>?_,by rw[u];exact h.top,λi j n R z b f g=>?_,λi n b f g=>?_,λi n b f=>?_,by rw[u];exact h.pastT,h.pastY⟩
 .by_cases e:i=k
  .rw[e,<- A];exact I
  .rw[D i e];exact G i (by omega)
 .by_cases e:i=k
  .rw[e,<- A];exact M
  .rw[(l i e).2];exact E i (by omega)
 .by_cases e:i=k
  .rw[e] at r |-;exact N v r
  .rw[(l i e).2];exact h.img i v (by omega) r
 .by_cases e:i=k
  .rw[e] at r |-;exact hd r
  .rw[(l i e).1];exact h.dev i (by omega) r
 .by_cases o:i=k
  .have x:j≠k:=λe=>z (by rw[o,e])
   rw[o] at f;rw[s j x] at g;exact(C b f).2.2.2 j (by omega) g
  .rw[s i o] at f
   by_cases x:j=k
   .rw[x] at g;exact(C b g).2.2.2 i (by omega) f
   .rw[s j x] at g;exact h.apart i j (by omega) (by omega) z b f g
 .rw[u] at f
  by_cases o:i=k
  .simp_all
  .rw[s i o] at g;exact h.apTop i (by omega) b f g
 .by_cases o:i=k
  .simp_all
  .rw[s i o] at f;exact h.past i (by omega) b f
structure oQ(w:ω)(B yp k:Nat)(Y:Yh)(d:Nat->DV)(t:DV)(h:Hd):Prop where
 op:YOp w B yp k k Y d t
 dev:bQ Gd.no w h (d k)
 cell:w.cell? ⟨yp,k,O⟩=some (h.p:υ)
 fp:∀ b,h.fp b->B<=b/\b≠yp/\¬Y.tp.fp b/\∀ i,i<k->¬Y.fpF (aK d) i b
def YOp.copied{w f:ω}{B a k:Nat}{Y:Yh}{d:Nat->DV}{t:DV}{h:Hd}(g:YOp w B a k k Y d t)(r:k<5)(v:B<=w.heap.size)(o:β w w f)(hd:aO w.heap.size f h (d k)):oQ (f.setCell ⟨a,k,O⟩ h.p) B a k Y d t h:=by
 have m:=g.below o;have s:=g.lt;have l:∀ b,h.fp b->b≠a:=λb e j=>by have:=(hd.lt b e).1;omega
 obtain⟨c,n,u,_⟩:=m.blk;refine⟨m.TM r _,⟨hd.base0.keep λb e=>heap_setCell_other _ _ _ _ (l b e),λ_ _ e=>e⟩,?_,λb e=>⟨?_,l b e,λj=>?_,λi q j=>?_⟩⟩
 .rw[cell_of_row _ a k _ _ _ (heap_setCell_same f a k _ _ _ n),jaa (by omega)]
 .have:=(hd.lt b e).1;omega
 .have:=(hd.lt b e).1;have:=(g.top.lt b j).2;omega
 .have:=(hd.lt b e).1;have:=g.fF q j;omega
theorem oQ.below{w f:ω}{B g k:Nat}{Y:Yh}{d:Nat->DV}{t:DV}{h:Hd}(a:oQ w B g k Y d t h)(c:β w w f):oQ f B g k Y d t h :=
 ⟨a.op.below c,a.dev.keep λb e=>c.block b (a.dev.lt b e).2,(jad (c.block _ a.op.lt)).trans a.cell,a.fp⟩
def oQ.Pn{w:ω}{B f k:Nat}{Y:Yh}{d:Nat->DV}{t:DV}{h:Hd}(a:oQ w B f k Y d t h)(j:k<5)(r:dF (d k)≠0):∃ n,YOp w B f (k+1) (k+1) n d t:=by
 have g:aK d k=none:=by unfold aK;simp_all
 obtain⟨c,m,x,y,u,s,o,q,z⟩:=a.op.blk;refine⟨{Y with ds:=λi=>if i=k then h else Y.ds i},a.op.next (by omega) j ⟨rfl,λi e=>⟨if_neg e,rfl⟩⟩ ?_ ?_ (λv e=>by simp_all) (λ_=>?_) λb e=>?_⟩
 .rw[Yh.dp_none g]
  show _=some (Value.pointer (some ⟨(if k=k then h else Y.ds k).p,0,O⟩))
  rw[if_pos rfl];exact a.cell
 .rw[g,cell_of_row w f _ _ _ _ m];exact o k (ja1 _) j
 .show bQ _ w (if k=k then h else Y.ds k) _
  rw[if_pos rfl];exact a.dev
 .rw[Yh.dH g] at e
  have l:(if k=k then h else Y.ds k).fp b:=e
  rw[if_pos rfl] at l;exact a.fp b l
def oQ.image{w j:ω}{B a k:Nat}{Y:Yh}{d:Nat->DV}{t:DV}{h:Hd}(f:oQ w B a k Y d t h)(o:k<5)(F:B<=w.heap.size)(s:dF (d k)=0)(n:β w w j){x:Ih}(A:x.h=h)(m:aH (Gd.but w h.fp) j x (kF (d k))) :
  ∃ y,YOp (j.setCell ⟨a,6+k,O⟩ x.p) B a (k+1) (k+1) y d t:=by
 have l:aK d k=some (kF (d k)):=by unfold aK;rw[if_pos ⟨o,s⟩]
 have r:=f.below n;obtain⟨c,u,E,_⟩:=r.op.blk;have D:=f.op.lt
 have z:∀ b,x.fp b->h.fp b\/w.heap.size<=b:=λb e=>by
  have:=m.out b e
  rcases jat b _ with q|q
  .exact .inl (jai λg=>this ⟨q,g⟩)
  .exact .inr q
 have C:∀ b,x.fp b->B<=b/\b≠a/\¬Y.tp.fp b/\∀ i,i<k->¬Y.fpF _ i b:=λb e=>by
  rcases z b e with q|q
  .exact f.fp b q
  .exact⟨by omega,by omega,λg=>by have:=(f.op.top.lt b g).2;omega,λi m g=>by have:=f.op.fF m g;omega⟩
 refine⟨{Y with xs:=λi=>if i=k then x else Y.xs i},(r.op.TP o _).next (by omega) o ⟨rfl,λi e=>⟨rfl,if_neg e⟩⟩ ?_ ?_ (λv e=>?_) (λe=>by simp_all) λb e=>?_⟩
 .rw[Yh.kY l,jah _ _ _ _ (by simp_all)]
  show _=some (Value.pointer (some ⟨(if k=k then x else Y.xs k).h.p,0,O⟩))
  rw[if_pos rfl,A];exact r.cell
 .rw[l,cell_of_row _ a _ _ _ _ (heap_setCell_same j a _ _ _ _ u),jaa (by omega)]
  show _=some (iE (if k=k then x else Y.xs k) _)
  rw[if_pos rfl];rfl
 .rw[l] at e
  cases e
  show aH _ _ (if k=k then x else Y.xs k) _
  rw[if_pos rfl];exact(m.re λ_ _ e=>e).jm λb e=>(λb n=>heap_setCell_other _ _ _ _ n) b (C b e).2.1
 .rw[Yh.dX l] at e
  simp_all
def xU(d:Nat->DV)(t:DV):YV:=⟨d,t,aK d,aj 0,[],O⟩
def YOp.dM{w:ω}{B a:Nat}{Y:Yh}{d:Nat->DV}{t:DV}(h:YOp w B a 5 5 Y d t):aB w a {Y with jb:=uV} (xU d t)/\∀ b,fpY a {Y with jb:=uV} (xU d t) b->B<=b:=by
 obtain⟨c,g,s,m,l,k,r,f,q⟩:=h.blk;refine⟨⟨⟨c,g,m,l,k,f,q⟩,h.img,h.dev,h.top,h.apart,h.apTop,λj o=>by cases o⟩,λb e=>?_⟩
 rcases e with e|⟨i,n,e⟩|e|e
 .rw[e];exact h.pastY
 .exact(h.past i n b e).1
 .exact(h.pastT b e).1
 .exact absurd rfl e.1
def EL:(prog.info? 46).map (λi=>(i.zero,i.size,i.bytes))=some (some (.pointer O),1,8):=by kernel_rfl
def nD(w:ω)(g o n:Nat)(a:Nat->Hd):Prop:=∀ k,k<n->w.cell? ⟨g,o+k,O⟩=some ((a k).p:υ)
def nD.lt{w:ω}{g o n:Nat}{b:Nat->Hd}(h:nD w g o n b)(a:0<n):g<w.heap.size:=ja2 _ _ (h 0 a)
def nD.keep{w a:ω}{g o n:Nat}{b:Nat->Hd}(h:nD w g o n b)(e:a.heap[g]?=w.heap[g]?):nD a g o n b:=λk c=>by rw[jad e];exact h k c
def nD.below{w a:ω}{g o n:Nat}{b:Nat->Hd}(h:nD w g o n b)(d:0<n)(c:β w w a):nD a g o n b:=h.keep (c.block g (h.lt d))
def LC{g o n cap:Nat}{a:Nat->Hd}(w:ω)(h:nD w g o n a)(m:n<=100) :
  κ prog 146 #[.slice (some ⟨g,o,O⟩) n cap,.pointer O] w λe d=>e=.returned (-1:Int)/\d=w:=by
 go_enter func146,ntmps146
 go_wp2
 go_loopw [8] (λi wr=>∃ k:Nat,k<=n/\i=.int .i64 (k:Int)/\wr=w) (λi _=>n-(intOf i).toNat)
 case atStart=>exact⟨0,ja5 _,rfl,rfl⟩
 case round =>
  obtain⟨k,j,rfl,rfl⟩:=hrel;by_cases c:k<n
  .have l:=h k c
   have b:(some (⟨(a k).p,0,O⟩:Addr)).isNone=false:=rfl;go_wp2
   rename_i K hK
   refine hK _ _ ?_;rw[b];go_wp2
   go_roundw
   case rel =>
    exact⟨k+1,by omega,by go_num,trivial⟩
   case measure=>simp[intOf];omega
  .have f:k=n:=by omega
   subst f;go_wp2
   go_ret
   exact⟨rfl,rfl⟩
def Le{g o n cap:Nat}{c:Nat->Hd}(w:ω)(h:nD w g o n c)(b:n<=100) :
  κ prog 72 #[.slice (some ⟨g,o,O⟩) n cap,.pointer O] w λe a=>e=.returned false/\a=w:=by
 go_enter func72,ntmps72
 go_wp2_with fail
 refine cSt (LC (cap:=cap) w h b) ?_;go_wp2
 go_ret
 simp_all
def aO.zA{B b:Nat}{w:ω}{h:Hd}{d:DV}(hd:aO b w h d)(a:B<=b):aO B w h d:=⟨hd.ok,ja4 a hd.pB,hd.blk,ownsRow_base hd.of a,ownsRow_base hd.os a,ownsRow_base hd.op a,hd.ne,hd.pn⟩
def nM(a:Nat->Hd)(k:Nat):List Value:=(List.range k).map λi=>.pointer (some ⟨(a i).p,0,O⟩)
def Qy(a:Nat->Hd)(k:Nat)(h:Hd):nM (setH a k h) (k+1)=nM a k++[.pointer (some ⟨h.p,0,O⟩)]:=by
 unfold nM;rw[jb9,jbl]
 congr 1
 .apply jbu
  intro i b;have:=List.mem_range.1 b
  unfold setH;rw[if_neg (by omega)]
 .simp[setH]
structure iZ(w:ω)(B:Nat)(a:Option Addr)(k cap:Nat)(hs:Nat->Hd)(d:Nat->DV):Prop where
 row:w.ownsRow B 46 1 (.slice a k cap) k (nM hs k)
 dev:∀ i,i<k->aO B w (hs i) (d i)
def iZ.nil(w:ω)(B:Nat)(a:Nat->Hd)(d:Nat->DV):iZ w B O 0 0 a d:=⟨jae _ _ _ _,λi b=>by omega⟩
def iZ.ptrs{w:ω}{B k cap:Nat}{a:Option Addr}{f:Nat->Hd}{d:Nat->DV}(h:iZ w B a k cap f d)(n:0<k):∃ g,a=some ⟨g,0,O⟩/\B<=g/\nD w g 0 k f/\∃ b,w.heap[g]?=some (.cells b 46 (0,0)):=by
 obtain⟨g,v,o,u,_,_⟩:=nJ h.row 0 n
 injection o with hv1 hv2 hv3
 have c:=h.row;rw[hv1] at c;obtain⟨r,b,l,_⟩:=dQ c;refine⟨g,hv1,r,λi j=>?_,b,l⟩
 obtain⟨t,s,m,q,_,_⟩:=nJ h.row i j
 injection m with hv1' hv2' hv3'
 rw[hv1] at hv1';cases hv1'
 rw[jaq,q];simp[nM,j]
def iZ.below{w c:ω}{B k cap:Nat}{a:Option Addr}{j:Nat->Hd}{d:Nat->DV}(h:iZ w B a k cap j d)(g:β w w c):iZ c B a k cap j d :=
 ⟨aZ h.row λq e=>g.block q (h.row.lt q e).2,λi f=>(h.dev i f).keep λb e=>g.block b ((h.dev i f).lt b e).2⟩
def iZ.snoc{w b f:ω}{B k cap u g3:Nat}{a:Option Addr}{m:Nat->Hd}{d:Nat->DV}{c:Hd}{row:Option Nat}(h:iZ w B a k cap m d)(H:B<=w.heap.size)(F:β w w b)(hd:aO w.heap.size b c (d k)){o:Obj}
  (C:f.ownsRow B 46 1 (.slice (some ⟨g3,0,O⟩) (k+1) u) (k+1) (nM m k++[.pointer (some ⟨c.p,0,O⟩)])) (G:(b.alloc o).grownBy f row) (z:∀ r,row=some r->∃ l,w.heap[r]?=some (.cells l 46 (0,0))):iZ f B (some ⟨g3,0,O⟩) (k+1) u (setH m k c) d:=by
 have y:β _ b (b.alloc o):=(ja0 _ _).alloc (ja1 _) _
 have t:=λx D (v:aO B b x D) (E:(∀ q,x.fp q->row≠some q))=>v.keep λq e=>by
  have s:=(v.lt q e).2;rw[((Kept.refl _ _).grown G λq e=>.inl e).block q (ja9 s y.size) (E q e)]
  exact y.block q s
 refine⟨by rw[Qy];exact C,λi I=>?_⟩
 unfold setH;by_cases e:i=k
 .rw[if_pos e,e]
  refine t c _ (hd.zA H) λq j n=>?_
  obtain⟨l,A⟩:=z q n;have:=(hd.lt q j).1
  simp_all
 .rw[if_neg e]
  have g:i<k:=by omega
  refine t _ _ ((h.dev i g).keep λq e=>F.block q ((h.dev i g).lt q e).2) λq j n=>?_
  obtain⟨l,A⟩:=z q n;exact((h.dev i g).toG.nY A (by decide)) j
def CV{c m C:Nat}{Y:Yh}{y:YV}{j:JV}(a:Bool)(w:ω)(h:aB w c Y y)(k:y.s.ok m)(b:y.j=some j)(d:JOk y.s C j) :
  κ prog 131 #[Y.jb.jp,a] w λe f=>e=.returned (.tuple #[])/\au c Y y {y with j:=some (lD j a)} w f :=
 (zQ a w (h.vg k b d)).mono λ_ _ ⟨i,g⟩=>⟨i,h.uj b (ja0 _ _) g rfl⟩
def Jj{c m C:Nat}{Y:Yh}{y:YV}{j:JV}(a:Bool)(w:ω)(h:aB w c Y y)(k:y.s.ok m)(b:y.j=some j)(d:JOk y.s C j) :
  κ prog 126 #[Y.jb.jp,a] w λe f=>e=.returned (erV (iH j a))/\au c Y y {y with j:=some (l9 j a)} w f :=
 (Qu a w (h.vg k b d)).mono λ_ _ ⟨i,g⟩=>⟨i,h.uj b (ja0 _ _) g (xZ j a).1⟩
def Wh{b m C:Nat}{Y:Yh}{y:YV}{j:JV}(n:Int)(w:ω)(h:aB w b Y y)(i:y.s.ok m)(a:y.j=some j)(c:JOk y.s C j) :
  κ prog 134 #[Y.jb.jp,n] w λe d=>e=.returned (erV (if S4.inB n 100000=true then 0 else 1))/\au b Y y {y with j:=some (jQ j n)} w d :=
 (Oj n w (h.vg i a c)).mono λ_ _ ⟨g,f⟩=>⟨g,h.uj a (ja0 _ _) f (Cm j n).1⟩
def Jk{b m C:Nat}{Y:Yh}{y:YV}{j:JV}(w:ω)(h:aB w b Y y)(k:y.s.ok m)(a:y.j=some j)(c:JOk y.s C j)(d:m+10<1000000000) :
  κ prog 130 #[Y.jb.jp] w λe f=>e=.returned (erV (dh y.s j))/\au b Y y (y.t0 j) w f :=
 (Oc w (h.vg k a c) d).mono λ_ _ ⟨i,g⟩=>⟨i,h.uj a (ja0 _ _) g (Ic y.s j).1⟩
def V9{b m C:Nat}{Y:Yh}{y:YV}{j:JV}(w:ω)(h:aB w b Y y)(l:y.s.ok m)(a:y.j=some j)(c:JOk y.s C j)(i:S4.Tab w)(d:m+10<1000000000) :
  κ prog 137 #[Y.jb.jp] w λe f=>e=.returned (.tuple #[.bool (fE y.s j),erV (bW y.s j)])/\au b Y y (y.t1 j) w f :=
 (Oe w (h.vg l a c) i d).mono λ_ _ ⟨k,g⟩=>⟨k,h.uj a (ja0 _ _) g (uw y.s j).1⟩
def qh{b:Jh}{y:YV}(h:y.busy≠true):goV b y=.pointer none:=by unfold goV;rw[if_neg h]
def qj{b:Jh}{y:YV}(h:y.busy=true):goV b y=.pointer (some ⟨b.jp,0,O⟩):=by unfold goV;rw[if_pos h]
def Wn{f C m:Nat}{Y:Yh}{y:YV}(a:Bool)(w:ω)(h:aB w f Y y)(k:YOk y C m) :
  κ prog 57 #[f,a] w λe l=>e=.returned (erV (y.iH a))/\au f Y y (y.pause a) w l:=by
 have d:=ah (oO w h);have o:Hid _:=au.refl h;by_cases b:y.busy=true
 .obtain⟨j,c,n⟩:=lU b
  rw[qj b] at d;have g:y.iH a=iH j a:=by unfold YV.iH;rw[c];show(if 4<=j.stage then _ else _)=_;rw[if_neg (by omega)]
  have i:y.pause a={y with j:=some (l9 j a)}:=by unfold YV.pause;rw[if_pos b,c];rfl
  rw[g,i];go_enter func57,ntmps57
  go_wp2_with fail
  refine cSt d.out ?_;go_wp2_with fail
  refine cHd (Jj a w h k.s c (k.job j c n).ok) λr q=>?_
  go_wp2
  go_ret
  exact⟨rfl,q.out⟩
 .rw[qh b] at d
  have g:y.iH a=4:=by
   unfold YV.iH
   cases c:y.j with
   | none=>rfl
   | some j=>show(if 4<=j.stage then _ else _)=_;rw[if_pos (lT b j c)]
  have i:y.pause a=y:=by unfold YV.pause;rw[if_neg b]
  rw[g,i,bJ (by decide)]
  go_enter func57,ntmps57
  go_wp2_with fail
  refine cSt d.out ?_;go_wp2
  go_ret
  exact⟨rfl,o.out⟩
def WG{g C m:Nat}{Y:Yh}{y:YV}(n:Int)(w:ω)(h:aB w g Y y)(l:YOk y C m) :
  κ prog 59 #[g,n] w λe o=>e=.returned (erV (YV.uy n))/\au g Y y (y.tick n) w o:=by
 have f:=ah (oO w h);have i:Hid _:=au.refl h;unfold YV.uy
 cases a:S4.inB n 100000 with
 | false =>
  have d:y.tick n=y:=by
   unfold YV.tick;split
   .cases b:y.j with
    | none =>
     show({y with j:=O}:YV)=y
     rw[<- b]
    | some j =>
     show({y with j:=some (jQ j n)}:YV)=y
     rw[show jQ j n=j by unfold jQ;rw[if_neg (by rw[a];decide)],<- b]
   .rfl
  rw[d,if_neg (by decide),eu]
  have r:n<0\/100000<n:=by unfold S4.inB at a;simp at a;omega
  by_cases v:n<0
  .go_enter func59,ntmps59
   go_wp2
   go_ret
   exact⟨rfl,i.out⟩
  .have g1  := decide_eq_true (by omega)
   go_enter func59,ntmps59
   go_wp2
   go_ret
   exact⟨rfl,i.out⟩
 | true =>
  have r:0<=n/\n<=100000:=by unfold S4.inB at a;simp at a;omega
  have g1:decide (100000<n)=false:=decide_eq_false (by omega)
  rw[if_pos rfl,aN];by_cases c:y.busy=true
  .obtain⟨j,b,q⟩:=lU c
   rw[qj c] at f;have d:y.tick n={y with j:=some (jQ j n)}:=by unfold YV.tick;rw[if_pos c,b];rfl
   have k:=ah (Wh n w h l.s b (l.job j b q).ok);rw[a,if_pos rfl,aN] at k;rw[d];go_enter func59,ntmps59
   go_wp2_with fail
   refine cSt f.out ?_;go_wp2_with fail
   refine cHd k.out λu t=>?_
   go_wp2
   go_ret
   exact⟨rfl,t.out⟩
  .rw[qh c] at f
   have d:y.tick n=y:=by unfold YV.tick;rw[if_neg c]
   rw[d];go_enter func59,ntmps59
   go_wp2_with fail
   refine cSt f.out ?_;go_wp2
   go_ret
   exact⟨rfl,i.out⟩
def VW{b C m:Nat}{Y:Yh}{y:YV}(w:ω)(h:aB w b Y y)(i:YOk y C m)(L:m<1000000000) :
  κ prog 55 #[b] w λe c=>e=.returned (erV y.sV)/\au b Y y y.cancel w c:=by
 have f:=ah (oO w h);have J:Hid (au b Y y y w w):=au.refl h;unfold YV.cancel YV.sV;by_cases a:y.busy=true
 .obtain⟨j,v,I⟩:=lU a
  rw[qj a] at f;rw[if_pos a,if_pos a];obtain⟨X,Z,c6,U,P,R⟩:=h.blk.cells;have B:=i.root;have A:=ah (vZ y.kd.root w);have d:Hid (∀ W:ω,β w w W->κ prog 31 #[b,.agg #[.int .i64 (aj y.kd.root).root,.int .i64 (aj y.kd.root).kind,.int .i64 (aj y.kd.root).file,.int .i64 (aj y.kd.root).rate,.int .i64 (aj y.kd.root).burst]] W λe c=>e=.returned (erV y.aJ)/\au b Y y (y.aA (aj y.kd.root)) w c):=λW a=>(uF (aj y.kd.root) W (h.below a) i.top (kX B.1 B.2) L).mono λe c ⟨t,q⟩=>⟨t,au.from a q⟩
  obtain⟨D,T,M,H⟩:=ny y (aj y.kd.root)
  have n:Hid (∀ W:ω,y.aJ=0->au b Y y (y.aA (aj y.kd.root)) w W->κ prog 131 #[Y.jb.jp,false] W λe c=>e=.returned (.tuple #[])/\au b Y y (y.over y.kd.root 5) w c):=λW r ⟨S,E,t,q⟩=>by
   rw[<- E];refine cEq (CV false W t (by rw[D];exact i.s) (H.trans v) (by rw[D];exact(i.job j v I).ok)) λc hd=>?_
   refine⟨rfl,au.trans E q ?_⟩
   have K:y.over y.kd.root 5={y.aA (aj y.kd.root) with j:=some (lD j false)}:=by
    unfold YV.over;rw[if_pos r,i.ch.walk,v];show({y.aA (aj y.kd.root) with j:=some (j.at 5),l:=y.l}:YV)=_
    rw[<- M];rfl
   rw[K];exact hd
  have k:Hid (y.aJ≠0->y.over y.kd.root 5=y.aA (aj y.kd.root)):=λr=>by unfold YV.over;rw[if_neg r]
  generalize y.over y.kd.root 5=z at n k |-;generalize y.aA (aj y.kd.root)=V at d n k;generalize y.aJ=F at d n k |-;by_cases g:F=0
  .rw[g,aN] at d
   rw[g,aN];have O:=ah (λW hd=>n.out W g hd)
   go_enter func55,ntmps55
   go_wp2_with fail
   refine cSt f.out ?_;go_wp2_with fail
   refine cEq A.out λo x=>?_
   go_wp2_with fail
   refine cEq (d.out o x) λN G=>?_
   go_wp2_with fail
   refine cHd (O.out _ G) λQ u=>?_
   go_wp2
   go_ret
   exact⟨rfl,u.out⟩
  .rw[k.out g]
   rw[bJ g] at d |-;go_enter func55,ntmps55
   go_wp2_with fail
   refine cSt f.out ?_;go_wp2_with fail
   refine cEq A.out λo x=>?_
   go_wp2_with fail
   refine cHd (d.out o x) λN u=>?_
   go_wp2
   go_ret
   exact⟨rfl,u.out⟩
 .rw[qh a] at f
  rw[if_neg a,if_neg a,bJ (by decide)]
  go_enter func55,ntmps55
  go_wp2_with fail
  refine cSt f.out ?_;go_wp2
  go_ret
  exact⟨rfl,J.out⟩
def aB.re{w:ω}{a:Nat}{Y:Yh}{y z:YV}(h:aB w a Y y)(d:z.s=y.s)(b:z.dv=y.dv)(g:z.top=y.top)(c:z.j=y.j)(f:z.kd.root=y.kd.root):aB w a Y z:=by
 obtain⟨k,l,m,i,n,o⟩:=z;subst d b g c;refine⟨?_,h.img,h.dev,h.top,h.apart,h.apTop,h.job⟩;rw[f];exact h.blk
theorem au.re{w g:ω}{d:Nat}{Y:Yh}{y z c:YV}(h:au d Y y z w g)(k:c.s=z.s)(l:c.dv=z.dv)(n:c.top=z.top)(i:c.j=z.j)(m:c.kd.root=z.kd.root):au d Y y c w g:=by
 obtain⟨f,e,a,b⟩:=h;refine⟨f,e,a.re k l n i m,?_⟩;have:fpY d f c=fpY d f z:=by unfold fpY;rw[k,i]
 simp_all
def WH{c:Nat}{Y:Yh}{y:YV}(n:Int)(w:ω)(h:aB w c Y y)(k:n<=9223372036854775807) :
  κ prog 136 #[Y.tp.p,n] w λe b=>e=.returned (erV (YV.kW (-1) n))/\au c Y y (y.arm (-1) n) w b:=by
 by_cases a:0<=n
 .refine(zW n w h.top.toaO a k).mono ?_
  rintro e b ⟨rfl,i,f⟩;obtain⟨j,g⟩:=h.pK  ⟨i,λ_ _ e=>e⟩ rfl ⟨f,λ_ d=>.inl d⟩
  refine⟨?_,?_⟩
  .unfold YV.kW;rw[if_pos ⟨by omega,by omega,a⟩,aN]
  .unfold YV.arm;rw[if_pos ⟨by omega,by omega,a⟩];exact⟨_,rfl,j,g⟩
 .refine(zV n w h.top.toaO (by omega)).mono ?_
  rintro e b ⟨rfl,rfl⟩;refine⟨?_,?_⟩
  .unfold YV.kW;rw[if_neg (λe=>a e.2.2),eu]
  .unfold YV.arm;rw[if_neg (λe=>a e.2.2)];exact au.refl h
def V6{t i:Nat}{Y:Yh}{y:YV}(n:Int)(w:ω)(h:aB w t Y y)(m:i<5)(G:n<=9223372036854775807) :
  κ prog 136 #[Y.dp y.s i,n] w λe f=>e=.returned (erV (YV.kW (i:Int) n))/\au t Y y (y.arm (i:Int) n) w f:=by
 have M:YV.kW (i:Int) n=if 0<=n then 0 else 1:=by
  unfold YV.kW;by_cases a:0<=n
  .omega
  .omega
 have E:((i:Int)).toNat=i:=by omega
 rw[M]
 cases b:y.s i with
 | none =>
  have hd:=h.dev i m b;rw[Yh.dp_none b];by_cases a:0<=n
  .refine(zW n w hd.toaO a G).mono ?_
   rintro e f ⟨rfl,A,q⟩;have o:Moved (Y.fpF y.s i) w (Y.fpF y.s i) f:=⟨q.mono λk _ g=>by rw[Yh.dH b];exact g,λ_ g=>.inl g⟩
   have D:y.arm (i:Int) n={y with dv:=λk=>if k=i then (y.dv k).failing n else y.dv k}:=by
    unfold YV.arm;rw[if_pos ⟨by omega,by omega,a⟩,if_neg (by omega),E,b]
   have x:=h.blk.keep (o.block h.blk.lt (h.kH.1 i m))
   obtain⟨B,z⟩:=h.pF (y':={y with dv:=λk=>if k=i then (y.dv k).failing n else y.dv k}) m o (Kept.refl _ _) x (λv P=>by simp_all) (λ_=>by
    show bQ Gd.no f (Y.ds i) (if i=i then (y.dv i).failing n else y.dv i)
    rw[if_pos rfl];exact⟨A,λ_ _ e=>e⟩) (λj l=>⟨rfl,if_neg l,rfl,rfl⟩) ⟨rfl,rfl,rfl,rfl⟩
   refine⟨by rw[if_pos a,aN],?_⟩
   rw[D];exact⟨Y,rfl,B,z⟩
  .refine(zV n w hd.toaO (by omega)).mono ?_
   rintro e f ⟨rfl,rfl⟩;refine⟨by rw[if_neg a,eu],?_⟩
   unfold YV.arm;rw[if_neg (λe=>a e.2.2)];exact au.refl h
 | some v =>
  have C:=h.img i v m b;rw[Yh.kY b];by_cases a:0<=n
  .refine(zW n w C.dev.toaO a G).mono ?_
   rintro e f ⟨rfl,A,q⟩
   have D:y.arm (i:Int) n={y with s:=y.s.upd i {v with d:=v.d.failing n}}:=by
    unfold YV.arm;rw[if_pos ⟨by omega,by omega,a⟩,if_neg (by omega),E,b]
   have r:y.s.upd i {v with d:=v.d.failing n} i=some {v with d:=v.d.failing n}:=by unfold SV.upd;rw[if_pos rfl]
   have o:Moved (Y.fpF _ i) w (Y.fpF _ i) f:=⟨q.mono λk _ g=>by rw[Yh.dX b];exact .inr (.inr (.inr g)),λk g=>.inl (by rw[Yh.dX r] at g;rw[Yh.dX b];exact g)⟩
   have x:je f t Y (y.s.upd i {v with d:=v.d.failing n}) y.kd.root (qw Y.jb y.j):=by
    obtain⟨c,H,O,L,N,I,J⟩:=h.blk.is;refine⟨c,(o.block h.blk.lt (h.kH.1 i m)).trans H,λj l=>?_,L,λj l=>?_,I,J⟩
    .rw[O j l]
     by_cases e:j=i
     .rw[e,Yh.kY b,Yh.kY r]
     .unfold Yh.dp SV.upd;rw[if_neg e]
    .rw[N j l]
     by_cases e:j=i
     .rw[e,b,r];rfl
     .unfold SV.upd;rw[if_neg e]
   obtain⟨B,z⟩:=h.pF  (y':={y with s:=y.s.upd i _}) m o (Kept.refl _ _) x (λu F=>by
    have K  := r.symm.trans F;cases K
    exact(C.rE  ⟨A,λ_ _ e=>e⟩ rfl q).1) (λF=>by
    simp_all) (λj l=>⟨by show SV.upd _ _ _ _=_;unfold SV.upd;rw[if_neg l],rfl,rfl,rfl⟩) ⟨rfl,rfl,rfl,rfl⟩
   refine⟨by rw[if_pos a,aN],?_⟩
   rw[D];exact⟨Y,rfl,B,z⟩
  .refine(zV n w C.dev.toaO (by omega)).mono ?_
   rintro e f ⟨rfl,rfl⟩;refine⟨by rw[if_neg a,eu],?_⟩
   unfold YV.arm;rw[if_neg (λe=>a e.2.2)];exact au.refl h
def V5{a:Nat}{Y:Yh}{y:YV}(f n:Int)(w:ω)(h:aB w a Y y)(g:n<=9223372036854775807) :
  κ prog 61 #[a,f,n] w λe k=>e=.returned (erV (YV.kW f n))/\au a Y y (y.arm f n) w k:=by
 obtain⟨m,A,B,x,t,v⟩:=h.blk.cells;by_cases l:f = -1
 .subst l
  go_enter func61,ntmps61
  go_wp2_with fail
  refine cHd (WH n w h g) λj b=>?_
  go_wp2
  go_ret
  exact⟨rfl,b.out⟩
 .by_cases z:0<=f/\f<5
  .obtain⟨i,rfl⟩:∃ i:Nat,f=(i:Int):=⟨f.toNat,by omega⟩
   have c:=ah (V6 n w h (show i<5 by omega) g)
   have q:=m i (by omega)
   generalize Y.dp y.s i=dp at c q;go_enter func61,ntmps61
   go_wp2_with fail
   refine cHd c.out λj b=>?_
   go_wp2
   go_ret
   exact⟨rfl,b.out⟩
  .have r:YV.kW f n=1:=by unfold YV.kW;rw[if_neg (by omega)]
   have o:y.arm f n=y:=by unfold YV.arm;rw[if_neg (by omega)]
   have d:Hid _:=au.refl h;rw[r,o,eu];by_cases u:f<0
   .go_enter func61,ntmps61
    go_wp2
    go_ret
    exact⟨rfl,d.out⟩
   .go_enter func61,ntmps61
    go_wp2
    go_ret
    exact⟨rfl,d.out⟩
def qO(j:JV):Obj:=.cells #[j.kind,j.file,j.state,.int .i64 (S4.cnt j.x 64:Nat)] 120 (0,0)
def au.box{w W c:ω}{b:Nat}{Y:Yh}{y z:YV}(h:aB w b Y y)(hd:au b Y y z W c){n:Nat}{o:Obj}(g:w.heap.size<=n)(a:W.heap[n]?=some o):c.heap[n]?=some o:=by
 obtain⟨f,_,_,d⟩:=hd;rw[d.block (lt_of_some a) (λe=>by have:=h.fF e;omega)];exact a
def Ol{s:SV}{C:Nat}{j:JV}(h:JOk s C j)(a:j.kind≠2):0<=j.file/\j.file<=4:=by
 obtain⟨v,b⟩:=h.file a;have:=SV.dS b
 omega
def Wq{k C m:Nat}{Y:Yh}{y:YV}(w:ω)(h:aB w k Y y)(B:YOk y C m)(hm:m+20<1000000000) :
  κ prog 53 #[k] w λe b=>e=.returned (erV y.lg)/\au k Y y y.pivot w b:=by
 have i:=ah (oO w h);have O:Hid (∀ W:ω,β w w W->au k Y y y w W):=λW a=>au.below h a
 by_cases a:y.busy=true
 .obtain⟨j,g,hg⟩:=lU a
  have v:=B.job j g hg;rw[qj a] at i;have H:y.kd.kind=j.kind:=by rw[<- v.dsk];rfl
  have Z:y.kd.file=j.file:=by rw[<- v.dsk];rfl
  have D:=ah (yQ w (h.job j g).1 v.ok.set);have q:Hid (∀ W:ω,β w w W->β w w (W.alloc (qO j))):=λW a=>a.alloc a.size _
  have r:Hid (∀ W:ω,(W.alloc (qO j)).cell? ⟨W,0,none⟩=some (j.kind:υ)):=λW=>by
   rw[cell_of_row _ _ _ _ _ _ (show(W.alloc (qO j)).heap[W.heap.size]?=some (.cells _ _ (0,0)) from heap_alloc_new W _)];rfl
  by_cases A:j.kind=2
  .have o:y.lg=9:=by unfold YV.lg;rw[g];show(if 4<=j.stage then _ else if y.kd.kind=2 then _ else _)=_;rw[if_neg (by omega),if_pos (H.trans A)]
   have G:y.pivot=y:=by unfold YV.pivot;rw[g];show(if 4<=j.stage\/y.kd.kind=2 then _ else _)=_;rw[if_pos (.inr (H.trans A))]
   have g2:(j.kind==2)=true:=by simpa using A
   rw[o,G,bJ (by decide)]
   unfold qO at q r;clear h B a g hg v H Z o G r A;go_enter func53,ntmps53
   go_wp2_with fail
   refine i.out.mono ?_;rintro e b ⟨rfl,f⟩;have u:=f.symm;subst u;clear f i;go_wp2_with fail
   refine D.out.mono ?_;rintro e n ⟨rfl,d⟩;have z:=ah (O.out _ (q.out _ d));clear d D;go_wp2
   go_ret
   exact⟨rfl,z.out⟩
  .have g2:(j.kind==2)=false:=by simpa using A
   have x:Hid (∀ W:ω,β w w W->κ prog 130 #[Y.jb.jp] W λe b=>e=.returned (erV (dh y.s j))/\au k Y y (y.t0 j) W b/\au k Y y (y.t0 j) w b):=λW a=>(Jk W (h.below a) B.s g v.ok (by omega)).mono λe b ⟨R,J⟩=>⟨R,J,au.from a J⟩
   have a2:y.lg=if dh y.s j≠0 then dh y.s j else y.aJ:=by unfold YV.lg;rw[g];show(if 4<=j.stage then _ else if y.kd.kind=2 then _ else _)=_;rw[if_neg (by omega),if_neg (λe=>A (H.symm.trans e))]
   have a0:y.pivot=if dh y.s j≠0 then (y.t0 j) else (y.t0 j).over j.file 4:=by unfold YV.pivot;rw[g];show(if 4<=j.stage\/y.kd.kind=2 then _ else _)=_;rw[if_neg (by rintro(e|e);omega;exact A (H.symm.trans e)),Z]
   by_cases I:dh y.s j≠0
   .rw[a2,a0,if_pos I,if_pos I]
    rw[bJ I] at x |-;unfold qO at q r;clear h B a g hg v H Z a2 a0 O;go_enter func53,ntmps53
    go_wp2_with fail
    refine i.out.mono ?_;rintro e b ⟨rfl,f⟩;have u:=f.symm;subst u;clear f i;go_wp2_with fail
    refine D.out.mono ?_;rintro e n ⟨rfl,d⟩;have E:=ah (x.out _ (q.out _ d));clear d D x q r;go_wp2_with fail
    refine E.out.mono ?_;rintro e w2 ⟨rfl,_,hd⟩;have z:=ah hd;clear hd E;go_wp2
    go_ret
    exact⟨rfl,z.out⟩
   .have a6:dh y.s j=0:=jai λe=>I e
    rw[a2,a0,if_neg I,if_neg I];rw[a6,aN] at x;have a3:=Ol v.ok A
    have K:Hid (∀(W:ω) (n c:ω),β w w n->W=n.alloc (qO j)->au k Y y (y.t0 j) W c->c.cell? ⟨n,1,none⟩=some (j.file:υ)):=λW n c d e hd=>by
     subst e;have:=au.box h hd d.size (heap_alloc_new n _)
     unfold qO at this;rw[cell_of_row _ _ _ _ _ _ this];rfl
    have a1:Hid (∀ W:ω,κ prog 32 #[j.file] W λe b=>e=.returned (.agg #[.int .i64 (aj j.file).root,.int .i64 (aj j.file).kind,.int .i64 (aj j.file).file,.int .i64 (aj j.file).rate,.int .i64 (aj j.file).burst])/\β W W b):=λW=>vZ j.file W
    have t:Hid (∀ W c:ω,au k Y y (y.t0 j) w W->β W W c->κ prog 31 #[k,.agg #[.int .i64 (aj j.file).root,.int .i64 (aj j.file).kind,.int .i64 (aj j.file).file,.int .i64 (aj j.file).rate,.int .i64 (aj j.file).burst]] c λe b=>e=.returned (erV y.aJ)/\au k Y y ((y.t0 j).aA (aj j.file)) w b):=λW c hd a=>by
     obtain⟨Y1,o,R,J⟩:=hd;refine(uF (aj j.file) c (R.below a) B.top (kX a3.1 a3.2) (by omega)).mono ?_
     rintro e b ⟨rfl,h4⟩;exact⟨rfl,au.trans o J (au.from a h4)⟩
    obtain⟨s1,s2,s3,s4⟩:=ny (y.t0 j) (aj j.file)
    have N:Hid (∀ W:ω,y.aJ=0->au k Y y ((y.t0 j).aA (aj j.file)) w W->κ prog 131 #[Y.jb.jp,true] W λe b=>e=.returned (.tuple #[])/\au k Y y ((y.t0 j).over j.file 4) w b):=λW h0 ⟨Y1,o,R,J⟩=>by
     rw[<- o];refine(CV (C:=C) true W R (by rw[s1];exact B.s.settle j (by omega)) s4 (by rw[s1];exact v.ok.settle)).mono ?_
     rintro e b ⟨rfl,hd⟩;refine⟨rfl,?_⟩;have a8:=au.trans o J hd
     have G:(y.t0 j).over j.file 4={(y.t0 j).aA (aj j.file) with j:=some (lD (eG y.s j) true),l:=((dU y.s j).walk j.file).1}:=by
      unfold YV.over;rw[if_pos (show(y.t0 j).aJ=0 from h0)];rfl
     rw[G];exact a8.re rfl rfl rfl rfl rfl
    have M:Hid (y.aJ≠0->(y.t0 j).over j.file 4=(y.t0 j).aA (aj j.file)):=λh0=>by unfold YV.over;rw[if_neg (show ¬(y.t0 j).aJ=0 from h0)]
    have r:=r;unfold qO at q r K;clear h B a g hg v H Z a2 a0 O s1 s2 s3 s4 I a6 a3;generalize (y.t0 j).over j.file 4=z3 at N M |-;generalize (y.t0 j).aA (aj j.file)=z2 at N M t;generalize (y.t0 j)=z1 at x K t;generalize y.aJ=F at t N M |-;by_cases L:F=0
    .rw[L,aN] at t
     rw[L,aN];have a5:=ah (λW hd=>N.out W L hd)
     clear N M L;go_enter func53,ntmps53
     go_wp2_with fail
     refine i.out.mono ?_;rintro e b ⟨rfl,f⟩;have u:=f.symm;subst u;clear f i;go_wp2_with fail
     refine D.out.mono ?_;rintro e n ⟨rfl,d⟩;have E:=ah (x.out _ (q.out _ d));have X:=ah (λc hd=>K.out _ n c d rfl hd)
     clear d D x q r K;go_wp2_with fail
     refine E.out.mono ?_;rintro e w2 ⟨rfl,T,Q⟩;have q1:=X.out _ T;have U:=ah (λc a=>t.out w2 c Q a)
     clear T Q E X t;go_wp2_with fail
     refine(a1.out _).mono ?_;rintro e w3 ⟨rfl,V⟩;have S:=ah (U.out _ V);clear V U a1;go_wp2_with fail
     refine S.out.mono ?_;rintro e w4 ⟨rfl,P⟩;have a7:=ah (a5.out _ P);clear P S a5;go_wp2_with fail
     refine a7.out.mono ?_;rintro e w5 ⟨rfl,a4⟩;have z:=ah a4;clear a4 a7;go_wp2
     go_ret
     exact⟨rfl,z.out⟩
    .rw[M.out L]
     rw[bJ L] at t |-;clear N M;go_enter func53,ntmps53
     go_wp2_with fail
     refine i.out.mono ?_;rintro e b ⟨rfl,f⟩;have u:=f.symm;subst u;clear f i;go_wp2_with fail
     refine D.out.mono ?_;rintro e n ⟨rfl,d⟩;have E:=ah (x.out _ (q.out _ d));have X:=ah (λc hd=>K.out _ n c d rfl hd)
     clear d D x q r K;go_wp2_with fail
     refine E.out.mono ?_;rintro e w2 ⟨rfl,T,Q⟩;have q1:=X.out _ T;have U:=ah (λc a=>t.out w2 c Q a)
     clear T Q E X t;go_wp2_with fail
     refine(a1.out _).mono ?_;rintro e w3 ⟨rfl,V⟩;have S:=ah (U.out _ V);clear V U a1;go_wp2_with fail
     refine S.out.mono ?_;rintro e w4 ⟨rfl,P⟩;have z:=ah P;clear P S;go_wp2
     go_ret
     exact⟨rfl,z.out⟩
 .rw[qh a] at i
  have o:y.lg=4:=by
   unfold YV.lg
   cases g:y.j with
   | none=>rfl
   | some j=>show(if 4<=j.stage then _ else _)=_;rw[if_pos (lT a j g)]
  have G:y.pivot=y:=by
   unfold YV.pivot
   cases g:y.j with
   | none=>rfl
   | some j=>show(if 4<=j.stage\/y.kd.kind=2 then _ else _)=_;rw[if_pos (.inl (lT a j g))]
  have z:=ah (O.out w (ja0 _ _));rw[o,G,bJ (by decide)]
  clear h B a o G O;go_enter func53,ntmps53
  go_wp2_with fail
  refine i.out.mono ?_;rintro e b ⟨rfl,f⟩;have u:=f.symm;subst u;clear f i;go_wp2
  go_ret
  exact⟨rfl,z.out⟩
def VY{c m C:Nat}{Y:Yh}{y:YV}{j:JV}(w:ω)(h:aB w c Y y)(i:y.s.ok m)(n:y.j=some j)(k:JOk y.s C j)(t:m+10<1000000000) :
  κ prog 138 #[Y.jb.jp] w λe b =>
   (dh y.s j≠0/\e=.returned (.tuple #[false,erV (dh y.s j)])/\au c Y y (y.t0 j) w b) \/
   (dh y.s j=0/\e=.returned (.tuple #[true,.nilIface])/\au c Y y {y with s:=dU y.s j,j:=some (lD (eG y.s j) true)} w b):=by
 have a:=ah (Jk w h i n k t)
 have d:Hid (∀ W:ω,au c Y y (y.t0 j) w W->κ prog 131 #[Y.jb.jp,true] W λe b=>e=.returned (.tuple #[])/\au c Y y {y with s:=dU y.s j,j:=some (lD (eG y.s j) true)} w b):=λW ⟨v,l,u,r⟩=>by
  rw[<- l];refine(CV (C:=C) true W u (i.settle j (by omega)) rfl k.settle).mono ?_
  rintro e b ⟨rfl,hd⟩;exact⟨rfl,au.trans l r hd⟩
 clear h i n k;generalize (y.t0 j)=x at a d |-;generalize ({y with s:=dU y.s j,j:=some (lD (eG y.s j) true)}:YV)=z2 at d |-
 generalize dh y.s j=F at a |-;by_cases f:F=0
 .rw[f,aN] at a
  go_enter func138,ntmps138
  go_wp2_with fail
  refine a.out.mono ?_;rintro e q ⟨rfl,hd⟩;have o:=ah (d.out _ hd);clear hd d a;go_wp2_with fail
  refine o.out.mono ?_;rintro e z ⟨rfl,hd⟩;have g:=ah hd;clear hd o;go_wp2
  go_ret2
  exact .inr ⟨f,rfl,g.out⟩
 .rw[bJ f] at a |-
  clear d;go_enter func138,ntmps138
  go_wp2_with fail
  refine a.out.mono ?_;rintro e q ⟨rfl,hd⟩;have g:=ah hd;clear hd a;go_wp2
  go_ret2
  exact .inl ⟨f,rfl,g.out⟩
def Ug{s:SV}{j:JV}(h:bW s j≠0):fE s j=false:=by
 unfold bW at h;refine decide_eq_false ?_;rintro⟨h1,h2,h3,h4⟩
 simp_all
def Uh{s:SV}{j:JV}(b:j.stage<4):(stepJ s j).stage<4\/((stepJ s j).stage=5/\bW s j≠0):=by
 unfold stepJ;split
 .next d =>
  split
  .next a =>
   refine .inr ⟨rfl,?_⟩;unfold bW
   simp_all
  .have e:∀ c,(j.went c).stage=j.stage:=λ_=>rfl
   simp_all
 omega
def Un{s:SV}{j:JV}(c:j.stage=1\/j.stage=2)(h:(stepJ s j).state=3):bW s j=0:=by
 refine jai λa=>?_
 rcases c with b|b
 .unfold bW at a
  split at a
  .next f =>
   have:stepJ s j=j.fell:=by
    unfold stepJ
    simp_all
   rw[this] at h;unfold JV.state at h;split at h
   .next d=>exact absurd d.1 (by show ¬(5:Int)=1;decide)
   .exact absurd h (by show ¬(5:Int)=3;decide)
  omega
 .have:stepJ s j=j:=by
   unfold stepJ
   simp_all
  rw[this] at h;unfold JV.state at h;omega
def WC{f C m:Nat}{Y:Yh}{y:YV}(w:ω)(h:aB w f Y y)(E:YOk y C m)(hT:S4.Tab w)(hm:m+30<1000000000) :
  κ prog 63 #[f] w λe c=>e=.returned (.tuple #[y.fE,erV y.bW])/\au f Y y y.step w c:=by
 have A:=ah (oO w h);by_cases a:y.busy=true
 .obtain⟨j,t,hg⟩:=lU a
  have V:=E.job j t hg;rw[qj a] at A;have U:y.kd.kind=j.kind:=by rw[<- V.dsk];rfl
  have hr:=E.root;have al:j.stage=1\/j.stage=2:=by rcases V.ok.stage with e|e|e|e<;>omega
  obtain⟨jl,jk⟩:=uw y.s j;have ae:(stepJ y.s j).kind=j.kind:=by have:=congrArg aP.kind jk;exact this
  have q:=ah (V9 w h E.s t V.ok hT (by omega))
  have am:(stepS y.s j).ok (m+10):=E.s.step j (by omega)
  have ad:JOk (stepS y.s j) C (stepJ y.s j):=V.ok.step
  have g:Hid (∀ W:ω,au f Y y (y.t1 j) w W->κ prog 129 #[Y.jb.jp] W λe c=>e=.returned (.agg #[j.kind,.int .i64 (stepJ y.s j).file,.int .i64 (stepJ y.s j).state,.int .i64 (S4.cnt (stepJ y.s j).x 64:Nat)])/\∀ o,au f Y y (y.t1 j) w (c.alloc o)):=λW ⟨Y1,r,B,K⟩=>by
   rw[<- r];refine(yQ W (B.job _ rfl).1 ad.set).mono ?_;rintro e c ⟨rfl,a⟩;refine⟨by rw[ae],λo=>⟨Y1,r,B.below (a.alloc a.size o),K.trans (Moved.of_below (a.alloc a.size o))⟩⟩
  have T:Hid (∀(z:YV) (jz:JV) (W:ω),z.j=some jz->au f Y y z w W->κ prog 139 #[Y.jb.jp] W λe c=>e=.returned (.bool (decide (jz.stage<4)))/\c=W):=λz jz W hz ⟨Y1,r,B,K⟩=>by
   rw[<- r];exact Ap W (B.job _ hz).1
  have a3:Hid (∀(z:YV) (W:ω),z.kd=y.kd->au f Y y z w W->W.cell? ⟨f,11,none⟩=some (y.kd.root:υ)):=λz W hz ⟨Y1,r,B,K⟩=>by
   have:=B.blk.cells.2.2.2.1
   rw[hz] at this;exact this
  have R:Hid (∀ W:ω,κ prog 32 #[y.kd.root] W λe c=>e=.returned (.agg #[.int .i64 (aj y.kd.root).root,.int .i64 (aj y.kd.root).kind,.int .i64 (aj y.kd.root).file,.int .i64 (aj y.kd.root).rate,.int .i64 (aj y.kd.root).burst])/\β W W c):=λW=>vZ y.kd.root W
  have a6:Hid (∀(z:YV) (W i:ω),z.top=y.top->au f Y y z w W->β W W i->κ prog 31 #[f,.agg #[.int .i64 (aj y.kd.root).root,.int .i64 (aj y.kd.root).kind,.int .i64 (aj y.kd.root).file,.int .i64 (aj y.kd.root).rate,.int .i64 (aj y.kd.root).burst]] i λe c=>e=.returned (erV z.aJ)/\au f Y y (z.aA (aj y.kd.root)) w c):=λz W i hz hd a=>by
   obtain⟨Y1,r,B,K⟩:=hd;refine(uF (m:=m) (aj y.kd.root) i (B.below a) (by rw[hz];exact E.top) (kX hr.1 hr.2) (by omega)).mono ?_
   rintro e c ⟨rfl,h4⟩;exact⟨rfl,au.trans r K (au.from a h4)⟩
  have a2:y.step=if bW y.s j≠0 then (if (stepJ y.s j).stage=5 then (y.t1 j).aA (aj y.kd.root) else (y.t1 j))
    else if y.kd.kind≠2\/(stepJ y.s j).state≠3 then (y.t1 j)
    else if dh (stepS y.s j) (stepJ y.s j)≠0 then (y.t2 j).aA (aj y.kd.root)
    else {(y.t4 j).aA (aj y.kd.root) with kd:=aj y.kd.root}:=by
   unfold YV.step;rw[t];show(if 4<=j.stage then _ else _)=_;rw[if_neg (by omega)]
  have ab:y.bW=if bW y.s j≠0 then bW y.s j else if y.kd.kind≠2\/(stepJ y.s j).state≠3 then 0 else dh (stepS y.s j) (stepJ y.s j):=by
   unfold YV.bW;rw[t];show(if 4<=j.stage then _ else _)=_;rw[if_neg (by omega)]
  have af:y.fE=if bW y.s j≠0 then false else if y.kd.kind≠2\/(stepJ y.s j).state≠3 then fE y.s j else decide (dh (stepS y.s j) (stepJ y.s j)=0):=by
   unfold YV.fE;rw[t];show(if 4<=j.stage then _ else _)=_;rw[if_neg (by omega)]
  by_cases d:j.kind=2/\(stepJ y.s j).state=3
  .have a9:=Un al d.2
   have a4:Hid (∀ W:ω,au f Y y (y.t1 j) w W->κ prog 138 #[Y.jb.jp] W λe c =>
     (dh (stepS y.s j) (stepJ y.s j)≠0/\e=.returned (.tuple #[false,erV (dh (stepS y.s j) (stepJ y.s j))])/\au f Y y (y.t2 j) w c) \/
     (dh (stepS y.s j) (stepJ y.s j)=0/\e=.returned (.tuple #[true,.nilIface])/\au f Y y {y with s:=dU (stepS y.s j) (stepJ y.s j),j:=some (lD (eG (stepS y.s j) (stepJ y.s j)) true)} w c)):=λW ⟨Y1,r,B,K⟩=>by
    rw[<- r];refine(VY (m:=m+10) (C:=C) W B am rfl ad (by omega)).mono ?_
    rintro e c (⟨q1,q2,q3⟩|⟨q1,q2,q3⟩)
    .exact .inl ⟨q1,q2,au.trans r K q3⟩
    .exact .inr ⟨q1,q2,au.trans r K q3⟩
   have g1:(j.kind==2)=true:=by simpa using d.1
   have g2:((stepJ y.s j).state==3)=true:=by simpa using d.2
   have D:y.step=if dh (stepS y.s j) (stepJ y.s j)≠0 then (y.t2 j).aA (aj y.kd.root)
    else {(y.t4 j).aA (aj y.kd.root) with kd:=aj y.kd.root}:=by
    rw[a2,if_neg (by rw[a9];simp),if_neg (by rintro(e|e);exact e (U.trans d.1);exact e d.2)]
   have a5:y.bW=dh (stepS y.s j) (stepJ y.s j):=by rw[ab,if_neg (by rw[a9];simp),if_neg (by rintro(e|e);exact e (U.trans d.1);exact e d.2)]
   have Z:y.fE=decide (dh (stepS y.s j) (stepJ y.s j)=0):=by rw[af,if_neg (by rw[a9];simp),if_neg (by rintro(e|e);exact e (U.trans d.1);exact e d.2)]
   have ar:dh (stepS y.s j) (stepJ y.s j)≠0->(eG (stepS y.s j) (stepJ y.s j)).stage=5:=λk=>by
    have h2:=d.1;rw[<- ae] at h2;obtain⟨_,H⟩:=BZ (s:=stepS y.s j) d.2 h2;rw[H] at k;rw[Ie d.2 h2 k];rfl
   have ag:Hid (dh (stepS y.s j) (stepJ y.s j)≠0->decide ((eG (stepS y.s j) (stepJ y.s j)).stage<4)=false):=λk=>decide_eq_false (by rw[ar k];decide)
   have av:Hid (decide ((lD (eG (stepS y.s j) (stepJ y.s j)) true).stage<4)=false):=decide_eq_false (by show ¬(4:Int)<4;decide)
   have a1:Hid (∀ W:ω,dh (stepS y.s j) (stepJ y.s j)=0->au f Y y (({y with s:=dU (stepS y.s j) (stepJ y.s j),j:=some (lD (eG (stepS y.s j) (stepJ y.s j)) true)}:YV).aA (aj y.kd.root)) w W->au f Y y y.step w W):=λW k hd=>by
    rw[D,if_neg (by rw[k];simp)]
    refine hd.re ?_ ?_ ?_ ?_ ?_
    all_goals (unfold YV.aA;split<;>rfl)
   have a0:Hid (∀ W:ω,dh (stepS y.s j) (stepJ y.s j)≠0->au f Y y ((y.t2 j).aA (aj y.kd.root)) w W->au f Y y y.step w W):=λW k hd=>by
    rw[D,if_pos k];exact hd
   rw[a5,Z];rw[a9,aN] at q;clear a2 ab af D a5 Z ar h E a t hg V U hr al jl jk ae am ad d a9 hT;have P:=ah (λW i=>a6.out (y.t2 j) W i rfl)
   have ao:=ah (λW i=>a6.out ({y with s:=dU (stepS y.s j) (stepJ y.s j),j:=some (lD (eG (stepS y.s j) (stepJ y.s j)) true)}:YV) W i rfl)
   have M:=ah (λW=>a3.out (y.t2 j) W rfl)
   have an:=ah (λW=>a3.out ({y with s:=dU (stepS y.s j) (stepJ y.s j),j:=some (lD (eG (stepS y.s j) (stepJ y.s j)) true)}:YV) W rfl)
   have l:=ah (λW=>T.out (y.t2 j) _ W rfl)
   have a8:=ah (λW=>T.out ({y with s:=dU (stepS y.s j) (stepJ y.s j),j:=some (lD (eG (stepS y.s j) (stepJ y.s j)) true)}:YV) _ W rfl)
   rw[av.out] at a8;clear a6 a3 T av;generalize y.step=zf at a0 a1 |-;generalize (y.t2 j)=z2 at a4 P M l a0;generalize ({y with s:=dU (stepS y.s j) (stepJ y.s j),j:=some (lD (eG (stepS y.s j) (stepJ y.s j)) true)}:YV)=z3 at a4 ao an a8 a1
   generalize (y.t1 j)=z1 at q g a4;generalize decide ((eG (stepS y.s j) (stepJ y.s j)).stage<4)=dg at l ag;generalize dh (stepS y.s j) (stepJ y.s j)=SF at a4 ag a0 a1 |-;generalize (stepJ y.s j).state=st at g g2;generalize (stepJ y.s j).file=fl at g;generalize S4.cnt (stepJ y.s j).x 64=ct at g;generalize fE y.s j=b1 at q;go_enter func63,ntmps63
   go_wp2_with fail
   refine A.out.mono ?_;rintro e c ⟨rfl,b⟩;have n:=b.symm;subst n;clear b A;go_wp2_with fail
   refine q.out.mono ?_;rintro e w1 ⟨rfl,I⟩;have G:=ah (g.out _ I);clear I q g;go_wp2_with fail
   refine G.out.mono ?_;rintro e w2 ⟨rfl,v⟩;have aq:=ah (a4.out _ (v (.cells #[j.kind,fl,st,(ct:Int)] 120)));clear v G a4;go_wp2_with fail
   refine aq.out.mono ?_;rintro e w3 (⟨k,rfl,Q⟩|⟨k,rfl,Q⟩)
   .have u:=ah (l.out _ Q)
    rw[ag.out k] at u;have S:=ah Q;clear Q aq l a8 a1 ao an ag;go_wp2_with fail
    refine u.out.mono ?_;rintro e c ⟨rfl,b⟩;have n:=b.symm;subst n;clear b u;have aw:=M.out _ S.out;have N:=ah (λi a=>P.out _ i S.out a)
    clear S M P;go_wp2_with fail
    refine(R.out _).mono ?_;rintro e w5 ⟨rfl,O⟩;have L:=ah (N.out _ O);clear O N R;go_wp2_with fail
    refine L.out.mono ?_;rintro e w6 ⟨rfl,J⟩;have X:=ah (a0.out _ k J);clear J L a0;go_wp2
    go_ret2
    exact⟨by rw[decide_eq_false k];rfl,X.out⟩
   .have u:=ah (a8.out _ Q)
    have S:=ah Q;clear Q aq l a8 a0 P M ag;go_wp2_with fail
    refine u.out.mono ?_;rintro e c ⟨rfl,b⟩;have n:=b.symm;subst n;clear b u;have aw:=an.out _ S.out;have N:=ah (λi a=>ao.out _ i S.out a)
    clear S an ao;go_wp2_with fail
    refine(R.out _).mono ?_;rintro e w5 ⟨rfl,O⟩;have L:=ah (N.out _ O);clear O N R;go_wp2_with fail
    refine L.out.mono ?_;rintro e w6 ⟨rfl,J⟩;have X:=ah (a1.out _ k J);clear J L a1;go_wp2
    go_ret2
    exact⟨by rw[decide_eq_true k,k,aN];rfl,X.out⟩
  .have aa:y.kd.kind≠2\/(stepJ y.s j).state≠3:=by
    by_cases e:j.kind=2
    .exact .inr λH=>d ⟨e,H⟩
    .exact .inl λH=>e (U.symm.trans H)
   have a5:y.bW=bW y.s j:=by
    rw[ab];by_cases e:bW y.s j=0
    .rw[if_neg (λh=>h e),if_pos aa,e]
    .rw[if_pos e]
   have Z:y.fE=fE y.s j:=by
    rw[af];by_cases e:bW y.s j=0
    .rw[if_neg (λh=>h e),if_pos aa]
    .rw[if_pos e,Ug e]
   have F:(j.kind==2&&(stepJ y.s j).state==3)=false:=by
    cases ha:(j.kind==2) with
    | false=>rfl
    | true =>
     have:¬(stepJ y.s j).state=3:=λe=>d ⟨by simpa using ha,e⟩
     simpa using this
   rw[a5,Z];by_cases ai:(stepJ y.s j).stage<4
   .have D:y.step=(y.t1 j):=by
     rw[a2];by_cases e:bW y.s j=0
     .rw[if_neg (λh=>h e),if_pos aa]
     .rw[if_pos e,if_neg (by omega)]
    have l:=ah (λW=>T.out (y.t1 j) _ W rfl)
    rw[decide_eq_true ai] at l;rw[D];clear a2 ab af D a5 Z h E a t hg V U hr al jl jk ae am ad hT ai aa T a6 a3 R;generalize (y.t1 j)=z1 at q g l |-;generalize fE y.s j=b1 at q |-;generalize erV (bW y.s j)=E1 at q |-;generalize (stepJ y.s j).state=st at g F d;generalize (stepJ y.s j).file=fl at g;generalize S4.cnt (stepJ y.s j).x 64=ct at g;go_enter func63,ntmps63
    go_wp2_with fail
    refine A.out.mono ?_;rintro e c ⟨rfl,b⟩;have n:=b.symm;subst n;clear b A;go_wp2_with fail
    refine q.out.mono ?_;rintro e w1 ⟨rfl,I⟩;have G:=ah (g.out _ I);clear I q g;go_wp2_with fail
    refine G.out.mono ?_;rintro e w2 ⟨rfl,ac⟩;have v:=ac (.cells #[j.kind,fl,st,(ct:Int)] 120);clear ac;have u:=ah (l.out _ v);have a7:=ah v;clear v G l
    have ap:((j.kind==2)=false)\/((j.kind==2)=true/\(st==3)=false):=by
     cases ha:(j.kind==2) with
     | false=>exact .inl rfl
     | true=>rw[ha] at F;exact .inr ⟨rfl,by simpa using F⟩
    clear F d;rcases ap with g1|⟨g1,g2⟩
    all_goals
     go_wp2_with fail
     refine u.out.mono ?_;rintro e c ⟨rfl,b⟩;have n:=b.symm;subst n;clear b u;go_wp2
     go_ret2
     exact⟨rfl,a7.out⟩
   .have h5:(stepJ y.s j).stage=5/\bW y.s j≠0:=by
     rcases Uh (s:=y.s) hg with e|e
     .exact absurd e ai
     .exact e
    have D:y.step=(y.t1 j).aA (aj y.kd.root):=by
     rw[a2,if_pos h5.2,if_pos h5.1]
    have l:=ah (λW=>T.out (y.t1 j) _ W rfl)
    rw[decide_eq_false ai] at l;have P:=ah (λW i=>a6.out (y.t1 j) W i rfl)
    have M:=ah (λW=>a3.out (y.t1 j) W rfl)
    rw[D];clear a2 ab af D a5 Z h E a t hg V U hr al jl jk ae am ad hT ai aa T a6 a3 h5;generalize (y.t1 j)=z1 at q g l P M |-;generalize fE y.s j=b1 at q |-;generalize erV (bW y.s j)=E1 at q |-;generalize (stepJ y.s j).state=st at g F d;generalize (stepJ y.s j).file=fl at g;generalize S4.cnt (stepJ y.s j).x 64=ct at g;go_enter func63,ntmps63
    go_wp2_with fail
    refine A.out.mono ?_;rintro e c ⟨rfl,b⟩;have n:=b.symm;subst n;clear b A;go_wp2_with fail
    refine q.out.mono ?_;rintro e w1 ⟨rfl,I⟩;have G:=ah (g.out _ I);clear I q g;go_wp2_with fail
    refine G.out.mono ?_;rintro e w2 ⟨rfl,ac⟩;have v:=ac (.cells #[j.kind,fl,st,(ct:Int)] 120);clear ac;have u:=ah (l.out _ v);have a7:=ah v;clear v G l
    have ap:((j.kind==2)=false)\/((j.kind==2)=true/\(st==3)=false):=by
     cases ha:(j.kind==2) with
     | false=>exact .inl rfl
     | true=>rw[ha] at F;exact .inr ⟨rfl,by simpa using F⟩
    clear F d;rcases ap with g1|⟨g1,g2⟩
    all_goals
     go_wp2_with fail
     refine u.out.mono ?_;rintro e c ⟨rfl,b⟩;have n:=b.symm;subst n;clear b u;have aw:=M.out _ a7.out;have N:=ah (λi a=>P.out _ i a7.out a)
     clear a7 M P;go_wp2_with fail
     refine(R.out _).mono ?_;rintro e w5 ⟨rfl,O⟩;have L:=ah (N.out _ O);clear O N R;go_wp2_with fail
     refine L.out.mono ?_;rintro e w6 ⟨rfl,J⟩;have X:=ah J;clear J L;go_wp2
     go_ret2
     exact⟨rfl,X.out⟩
 .rw[qh a] at A
  have r:y.bW=4:=by
   unfold YV.bW
   cases t:y.j with
   | none=>rfl
   | some j=>show(if 4<=j.stage then _ else _)=_;rw[if_pos (lT a j t)]
  have H:y.fE=false:=by
   unfold YV.fE
   cases t:y.j with
   | none=>rfl
   | some j=>show(if 4<=j.stage then _ else _)=_;rw[if_pos (lT a j t)]
  have e3:y.step=y:=by
   unfold YV.step
   cases t:y.j with
   | none=>rfl
   | some j=>show(if 4<=j.stage then _ else _)=_;rw[if_pos (lT a j t)]
  have X:Hid (au f Y y y w w):=au.refl h;rw[r,H,e3,bJ (by decide)]
  clear h E a r H e3 hT;go_enter func63,ntmps63
  go_wp2_with fail
  refine A.out.mono ?_;rintro e c ⟨rfl,b⟩;have n:=b.symm;subst n;clear b A;go_wp2
  go_ret2
  exact⟨rfl,X.out⟩
