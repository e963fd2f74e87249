/- A part. -/
import Derived.Test.YtbohmhacdgckgaaGreatDoorQDevCopy2
set_option linter.all false
set_option maxHeartbeats 4000000
set_option maxRecDepth 100000
namespace Go.Proofs.YtbohmhacdgckgaaGreatDoor
open Go.RowKit renaming Below->β, Hid->χ
open Go renaming World->ω, Value->υ, Calls->κ
open Option renaming none->O, some->S
open Go.Proofs.Tryz Go.RowKit Go.Maps
attribute [local go_sem ↓] Go.wp_at_zero Go.wp_at_succ
structure YOp(w:ω)(B yp k q:Nat)(Y:Yh)(d:Nat->DV)(t:DV):Prop where
 blk:∃ cur,w.heap[yp]?=S (.cells cur 74 (0,0))/\cur.size=13/\(∀ i,i<k->cur[i]?=S (Y.dp (aO d) i:υ))/\cur[5]?=S (Y.tp.p:υ) /\
  (∀ i,i<k->cur[6+i]?=S (jh (Y.xs i) (aO d i)))/\(∀ i,q<=i->i<5->cur[6+i]?=S (.pointer O))/\cur[11]?=S (.int .i64 0)/\cur[12]?=S (.pointer O)
 img:∀ i v,i<k->aO d i=S v->aI Gd.no w (Y.xs i) v
 dev:∀ i,i<k->aO d i=O->bV Gd.no w (Y.ds i) (d i)
 top:bV Gd.no w Y.tp t
 apart:∀ i j,i<k->j<k->i≠j->∀ b,Y.fpF (aO d) i b->¬Y.fpF (aO d) j b
 apTop:∀ i,i<k->∀ b,Y.tp.fp b->¬Y.fpF (aO d) i b
 past:∀ i,i<k->∀ b,Y.fpF (aO d) i b->B<=b/\b≠yp
 pastT:∀ b,Y.tp.fp b->B<=b/\b≠yp
 pastY:B<=yp
def YOp.lt{w B a k q Y d t}(h:YOp w B a k q Y d t):a<w:=by
 obtain⟨c,b,_⟩:=h.blk;exact lt_of_some b
def YOp.gG{w B g k q Y d t}(h:YOp w B g k q Y d t){i b}(c:i<k)(f:Y.fpF (aO d) i b):b<w:=by
 cases a:aO d i with
 | none=>rw[Yh.dN a] at *;exact((h.dev i c a).lt b f).2
 | some v=>rw[Yh.eY a] at *;exact(h.img i v c a).iH b f
theorem YOp.keep{w w' B f k q Y d t}(h:YOp w B f k q Y d t)(l:w'.heap[f]?=w.heap[f]?)(j:∀ i,i<k->∀ b,Y.fpF (aO d) i b->w'.heap[b]?=w.heap[b]?)(m:∀ b,Y.tp.fp b->w'.heap[b]?=w.heap[b]?):YOp w' B f k q Y d t :=
 ⟨by rw[l];exact h.blk,λi v a c=>(h.img i v a c).aY λb g=>j i a b (by rw[Yh.eY c];exact g),λi a c=>(h.dev i a c).keep λb g=>j i a b (by rw[Yh.dN c];exact g),h.top.keep m,h.apart,h.apTop,h.past,h.pastT,h.pastY⟩
def YOp.below{w w' B c k q Y d t}(h:YOp w B c k q Y d t)(a:β w w w'):YOp w' B c k q Y d t :=
 h.keep (a.block _ h.lt) (λ_ f b e=>a.block b (h.gG f e)) λb e=>a.block b (h.top.lt b e).2
def YOp.cell{w B a k q Y d t}(h:YOp w B a k q Y d t)(i)(g:i<13):(∃ v,w.cell? ⟨a,i,O⟩=S v)/\w.frozen? ⟨a,i,O⟩=false:=by
 obtain⟨c,b,f,_⟩:=h.blk;refine⟨⟨c[i]'(by omega),?_⟩,frozen_of_row w a i _ _ b⟩;rw[cell_of_row w a i _ _ _ b];simp_all
def YOp.YP{w B a k q Y d t}(h:YOp w B a k q Y d t):w.cell? ⟨a,5,O⟩=S (Y.tp.p:υ):=by
 obtain⟨c,f,g,i,b,_⟩:=h.blk;rw[cell_of_row w a 5 _ _ _ f];exact b
def YOp.Xz{w B g k q Y d t}(h:YOp w B g k q Y d t)(A:k<5)(v):YOp (w.setCell ⟨g,k,O⟩ v) B g k q Y d t:=by
 obtain⟨c,n,s,x,r,o,z,m,y⟩:=h.blk;have l:∀ b,b≠g->(w.setCell ⟨g,k,O⟩ v).heap[b]?=w.heap[b]?:=λb f=>heap_setCell_other _ _ _ _ f
 refine⟨⟨_,heap_setCell_same w g k _ _ _ n,by simpa using s,λi a=>?_,?_,λi a=>?_,λi a C=>?_,?_,?_⟩,λi u a j=>(h.img i u a j).aY λb f=>l b (h.past i a b (by rw[Yh.eY j];exact f)).2,λi a j=>(h.dev i a j).keep λb f=>l b (h.past i a b (by rw[Yh.dN j];exact f)).2,h.top.keep λb f=>l b (h.pastT b f).2,h.apart,h.apTop,h.past,h.pastT,h.pastY⟩
 .rw[ja3 (by omega)];exact x i a
 .rw[ja3 (by omega)];exact r
 .rw[ja3 (by omega)];exact o i a
 .rw[ja3 (by omega)];simp_all
 .rw[ja3 (by omega)];exact m
 .rw[ja3 (by omega)];exact y
def YOp.XB{w B g k Y d t}(h:YOp w B g k k Y d t)(A:k<5)(v):YOp (w.setCell ⟨g,6+k,O⟩ v) B g k (k+1) Y d t:=by
 obtain⟨c,n,s,x,r,o,q,m,z⟩:=h.blk;have l:∀ b,b≠g->(w.setCell ⟨g,6+k,O⟩ v).heap[b]?=w.heap[b]?:=λb f=>heap_setCell_other _ _ _ _ f
 refine⟨⟨_,heap_setCell_same w g _ _ _ _ n,by simpa using s,λi a=>?_,?_,λi a=>?_,λi a y=>?_,?_,?_⟩,λi u a j=>(h.img i u a j).aY λb f=>l b (h.past i a b (by rw[Yh.eY j];exact f)).2,λi a j=>(h.dev i a j).keep λb f=>l b (h.past i a b (by rw[Yh.dN j];exact f)).2,h.top.keep λb f=>l b (h.pastT b f).2,h.apart,h.apTop,h.past,h.pastT,h.pastY⟩
 .rw[ja3 (by omega)];exact x i a
 .rw[ja3 (by omega)];exact r
 .rw[ja3 (by omega)];exact o i a
 .rw[ja3 (by omega)];exact q i (by omega) y
 .rw[ja3 (by omega)];exact m
 .rw[ja3 (by omega)];exact z
def YOp.next{w B l k q Y a d t}(h:YOp w B l k q Y d t)(R:q<=k+1)(Q:k<5)(f:a.tp=Y.tp/\∀ i,i≠k->a.ds i=Y.ds i/\a.xs i=Y.xs i)
  (I:w.cell? ⟨l,k,O⟩=S (a.dp (aO d) k:υ)) (M:w.cell? ⟨l,6+k,O⟩=S (jh (a.xs k) (aO d k))) (N:∀ v,aO d k=S v->aI Gd.no w (a.xs k) v) (hd:aO d k=O->bV Gd.no w (a.ds k) (d k))
  (C:∀ b,a.fpF (aO d) k b->B<=b/\b≠l/\¬Y.tp.fp b/\∀ i,i<k->¬Y.fpF (aO d) i b):YOp w B l (k+1) (k+1) a d t:=by
 obtain⟨c,y,L,G,K,E,F,J,P⟩:=h.blk;obtain⟨u,f⟩:=f;have A:∀ i,w.cell? ⟨l,i,O⟩=c[i]?:=λi=>cell_of_row w l _ _ _ _ y
 have D:∀ i,i≠k->a.dp (aO d) i=Y.dp (aO d) i:=λi e=>by unfold Yh.dp;rw[(f i e).1,(f i e).2]
 have s:∀ i,i≠k->∀ b,a.fpF (aO d) i b=Y.fpF (aO d) i b:=λi e b=>by unfold Yh.fpF;rw[(f i e).1,(f i e).2]
 refine⟨⟨c,y,L,λi m=>?_,by rw[u];exact K,λi m=>?_,λi m H=>F i (by omega) H,J,P⟩,λi v m o=>?_,λi m o=>?_,by rw[u];exact h.top,λi j m T z b g r=>?_,λi m b g r=>?_,λi m b g=>?_,by rw[u];exact h.pastT,h.pastY⟩
 .by_cases e:i=k
  .rw[e,<- A];exact I
  .rw[D i e];exact G i (by omega)
 .by_cases e:i=k
  .rw[e,<- A];exact M
  .rw[(f i e).2];exact E i (by omega)
 .by_cases e:i=k
  .rw[e] at o |-;exact N v o
  .rw[(f i e).2];exact h.img i v (by omega) o
 .by_cases e:i=k
  .rw[e] at o |-;exact hd o
  .rw[(f i e).1];exact h.dev i (by omega) o
 .by_cases n:i=k
  .have x:j≠k:=λe=>z (by rw[n,e])
   rw[n] at g;rw[s j x] at *
   exact(C b g).2.2.2 j (by omega) r
  .rw[s i n] at *
   by_cases x:j=k
   .rw[x] at r;exact(C b r).2.2.2 i (by omega) g
   .rw[s j x] at *;exact h.apart i j (by omega) (by omega) z b g r
 .rw[u] at *
  by_cases n:i=k
  .simp_all
  .rw[s i n] at *;exact h.apTop i (by omega) b g r
 .by_cases n:i=k
  .simp_all
  .rw[s i n] at *;exact h.past i (by omega) b g
structure qj(w:ω)(B yp k:Nat)(Y:Yh)(d:Nat->DV)(t:DV)(h:Hd):Prop where
 op:YOp w B yp k k Y d t
 dev:bV Gd.no w h (d k)
 cell:w.cell? ⟨yp,k,O⟩=S (h.p:υ)
 fp:∀ b,h.fp b->B<=b/\b≠yp/\¬Y.tp.fp b/\∀ i,i<k->¬Y.fpF (aO d) i b
def YOp.copied{w f B a k Y d t h}(g:YOp w B a k k Y d t)(r:k<5)(v:B<=w)(o:β w w f)(hd:aS w.heap.size f h (d k)):qj (f.setCell ⟨a,k,O⟩ h.p) B a k Y d t h:=by
 have m:=g.below o;have s:=g.lt;have l:∀ b,h.fp b->b≠a:=λb e j=>by have:=(hd.lt b e).1;omega
 obtain⟨c,n,u,_⟩:=m.blk;refine⟨m.Xz r _,⟨hd.base0.keep λb e=>heap_setCell_other _ _ _ _ (l b e),λ_ _ e=>e⟩,?_,λb e=>⟨?_,l b e,λj=>?_,λi q j=>?_⟩⟩
 .rw[cell_of_row _ a k _ _ _ (heap_setCell_same f a k _ _ _ n),jac (by omega)]
 .have:=(hd.lt b e).1;omega
 .have:=(hd.lt b e).1;have:=(g.top.lt b j).2;omega
 .have:=(hd.lt b e).1;have:=g.gG q j;omega
theorem qj.below{w w' B f k Y d t h}(a:qj w B f k Y d t h)(c:β w w w'):qj w' B f k Y d t h :=
 ⟨a.op.below c,a.dev.keep λb e=>c.block b (a.dev.lt b e).2,(jab (c.block _ a.op.lt)).trans a.cell,a.fp⟩
def qj.Uf{w B f k Y d t h}(a:qj w B f k Y d t h)(j:k<5)(r:dL (d k)≠0):∃ m,YOp w B f (k+1) (k+1) m d t:=by
 have g:aO d k=none:=by unfold aO;simp_all
 obtain⟨c,l,x,y,u,s,n,q,z⟩:=a.op.blk;refine⟨{Y with ds:=λi=>if i=k then h else Y.ds i},a.op.next (by omega) j ⟨rfl,λi e=>⟨if_neg e,rfl⟩⟩ ?_ ?_ (λv e=>by simp_all) (λ_=>?_) λb e=>?_⟩
 .rw[Yh.dp_none g];show _=S (Value.pointer (S ⟨(if k=k then h else Y.ds k).p,0,O⟩))
  rw[if_pos rfl];exact a.cell
 .rw[g,cell_of_row w f _ _ _ _ l];exact n k (ja1 _) j
 .show bV _ w (if k=k then h else Y.ds k) _
  rw[if_pos rfl];exact a.dev
 .rw[Yh.dN g] at e;have o:(if k=k then h else Y.ds k).fp b:=e;rw[if_pos rfl] at *
  exact a.fp b o
def qj.image{w w' B a k Y d t h}(f:qj w B a k Y d t h)(n:k<5)(E:B<=w)(r:dL (d k)=0)(m:β w w w'){x}(z:x.h=h)(l:aI (Gd.but w h.fp) w' x (kY (d k))) :
  ∃ u,YOp (w'.setCell ⟨a,6+k,O⟩ x.p) B a (k+1) (k+1) u d t:=by
 have j:aO d k=S (kY (d k)):=by unfold aO;rw[if_pos ⟨n,r⟩]
 have o:=f.below m;obtain⟨c,s,D,_⟩:=o.op.blk;have C:=f.op.lt
 have y:∀ b,x.fp b->h.fp b\/w.heap.size<=b:=λb e=>by
  have:=l.out b e
  rcases jav b _ with q|q
  .exact .inl (jag λg=>this ⟨q,g⟩)
  .exact .inr q
 have A:∀ b,x.fp b->B<=b/\b≠a/\¬Y.tp.fp b/\∀ i,i<k->¬Y.fpF _ i b:=λb e=>by
  rcases y b e with q|q
  .exact f.fp b q
  .exact⟨by omega,by omega,λg=>by have:=(f.op.top.lt b g).2;omega,λi l g=>by have:=f.op.gG l g;omega⟩
 refine⟨{Y with xs:=λi=>if i=k then x else Y.xs i},(o.op.XB n _).next (by omega) n ⟨rfl,λi e=>⟨rfl,if_neg e⟩⟩ ?_ ?_ (λv e=>?_) (λe=>by simp_all) λb e=>?_⟩
 .rw[Yh.lX j,jan _ _ _ _ (by simp_all)];show _=S (Value.pointer (S ⟨(if k=k then x else Y.xs k).h.p,0,O⟩))
  rw[if_pos rfl,z];exact o.cell
 .rw[j,cell_of_row _ a _ _ _ _ (heap_setCell_same w' a _ _ _ _ s),jac (by omega)];show _=S (jh (if k=k then x else Y.xs k) _)
  rw[if_pos rfl];rfl
 .rw[j] at e;cases e;show aI _ _ (if k=k then x else Y.xs k) _
  rw[if_pos rfl];exact(l.re λ_ _ e=>e).aY λb e=>(λb m=>heap_setCell_other _ _ _ _ m) b (A b e).2.1
 .rw[Yh.eY j] at e;simp_all
def yU(d:Nat->DV)(t:DV):YV:=⟨d,t,aO d,aj 0,[],O⟩
def YOp.aZ{w B a Y d t}(h:YOp w B a 5 5 Y d t):aC w a {Y with jb:=wE} (yU d t)/\∀ b,fpY a {Y with jb:=wE} (yU d t) b->B<=b:=by
 obtain⟨c,g,s,m,l,k,r,f,q⟩:=h.blk;refine⟨⟨⟨c,g,m,l,k,f,q⟩,h.img,h.dev,h.top,h.apart,h.apTop,λj o=>by cases o⟩,λb e=>?_⟩;rcases e with e|⟨i,n,e⟩|e|e
 .rw[e];exact h.pastY
 .exact(h.past i n b e).1
 .exact(h.pastT b e).1
 .exact absurd rfl e.1
def G9:(prog.info? 46).map (λi=>(i.zero,i.size,i.bytes))=S (S (.pointer O),1,8):=by kernel_rfl
def oh(w:ω)(g o n:Nat)(a:Nat->Hd):Prop:=∀ k,k<n->w.cell? ⟨g,o+k,O⟩=S ((a k).p:υ)
def oh.lt{w g o n b}(h:oh w g o n b)(a:0<n):g<w:=ja2 _ _ (h 0 a)
def oh.keep{w w' g o n a}(h:oh w g o n a)(e:w'.heap[g]?=w.heap[g]?):oh w' g o n a:=λk b=>by rw[jab e];exact h k b
def oh.below{w w' g o n a}(h:oh w g o n a)(c:0<n)(b:β w w w'):oh w' g o n a:=h.keep (b.block g (h.lt c))
def OW{g o n cap a}(w)(h:oh w g o n a)(l:n<=100) :
  κ prog 146 #[.slice (S ⟨g,o,O⟩) n cap,.pointer O] w λe w'=>e=.returned (-1:Int)/\w'=w:=by
 go_enter func146,ntmps146;go_wp2;go_loopw [8] (λi wr=>∃ k:Nat,k<=n/\i=.int .i64 (k:Int)/\wr=w) (λi _=>n-(intOf i).toNat)
 case atStart=>exact⟨0,ja7 _,rfl,rfl⟩
 case round =>
  obtain⟨k,f,rfl,rfl⟩:=hrel;by_cases b:k<n
  .have j:=h k b;have c:(S (⟨(a k).p,0,O⟩:Addr)).isNone=false:=rfl;go_wp2
   rename_i K hK
   refine hK _ _ ?_;rw[c];go_wp2;go_roundw
   case rel =>
    exact⟨k+1,by omega,by go_num,trivial⟩
   case measure=>simp[intOf];omega
  .have d:k=n:=by omega
   subst d;go_wp2;go_ret;exact⟨rfl,rfl⟩
def OE{g o n cap b}(w)(h:oh w g o n b)(a:n<=100) :
  κ prog 72 #[.slice (S ⟨g,o,O⟩) n cap,.pointer O] w λe w'=>e=.returned false/\w'=w:=by
 go_enter func72,ntmps72;go_wp2_with fail;refine cSt (OW (cap:=cap) w h a) ?_;go_wp2;go_ret;simp_all
def aS.Am{B b w h d}(hd:aS b w h d)(a:B<=b):aS B w h d:=⟨hd.ok,ja4 a hd.pB,hd.blk,ownsRow_base hd.of a,ownsRow_base hd.os a,ownsRow_base hd.op a,hd.ne,hd.pn⟩
def oG(a:Nat->Hd)(k:Nat):List Value:=(List.range k).map λi=>.pointer (S ⟨(a i).p,0,O⟩)
def U4(a k h):oG (setH a k h) (k+1)=oG a k++[.pointer (S ⟨h.p,0,O⟩)]:=by
 unfold oG;rw[jbr,jbs];congr 1
 .apply jb4;intro i b;have:=List.mem_range.1 b
  unfold setH;rw[if_neg (by omega)]
 .simp[setH]
structure jO(w:ω)(B:Nat)(a:Option Addr)(k cap:Nat)(hs:Nat->Hd)(d:Nat->DV):Prop where
 row:w.ownsRow B 46 1 (.slice a k cap) k (oG hs k)
 dev:∀ i,i<k->aS B w (hs i) (d i)
def jO.nil(w B a d):jO w B O 0 0 a d:=⟨jaa _ _ _ _,λi b=>by omega⟩
def jO.ptrs{w B k cap a f d}(h:jO w B a k cap f d)(n:0<k):∃ g,a=S ⟨g,0,O⟩/\B<=g/\oh w g 0 k f/\∃ b,w.heap[g]?=S (.cells b 46 (0,0)):=by
 obtain⟨g,v,o,u,_⟩:=kE h.row 0 n;injection o with hv1 hv2 hv3;have c:=h.row;rw[hv1] at c;obtain⟨r,b,l,_⟩:=fB c;refine⟨g,hv1,r,λi j=>?_,b,l⟩;obtain⟨t,s,m,q,_⟩:=kE h.row i j;injection m with hv1' hv2' hv3';rw[hv1] at *
 cases hv1';rw[jak,q];simp[oG,j]
def jO.below{w w' B k cap a g d}(h:jO w B a k cap g d)(f:β w w w'):jO w' B a k cap g d :=
 ⟨bg h.row λq e=>f.block q (h.row.lt q e).2,λi c=>(h.dev i c).keep λb e=>f.block b ((h.dev i c).lt b e).2⟩
def jO.snoc{w b f B k cap u g3 a m d c row}(h:jO w B a k cap m d)(H:B<=w)(F:β w w b)(hd:aS w.heap.size b c (d k)){o}
  (C:f.ownsRow B 46 1 (.slice (S ⟨g3,0,O⟩) (k+1) u) (k+1) (oG m k++[.pointer (S ⟨c.p,0,O⟩)])) (G:(b.alloc o).grownBy f row) (z:∀ r,row=S r->∃ l,w.heap[r]?=S (.cells l 46 (0,0))):jO f B (S ⟨g3,0,O⟩) (k+1) u (setH m k c) d:=by
 have y:β _ b (b.alloc o):=(ja0 _ _).alloc (ja1 _) _
 have t:=λx D (v:aS B b x D) (E:(∀ q,x.fp q->row≠S q))=>v.keep λq e=>by
  have s:=(v.lt q e).2;rw[((Kept.refl _ _).grown G λq e=>.inl e).block q (ja8 s y.size) (E q e)];exact y.block q s
 refine⟨by rw[U4];exact C,λi I=>?_⟩;unfold setH;by_cases e:i=k
 .rw[if_pos e,e];refine t c _ (hd.Am H) λq j n=>?_
  obtain⟨l,A⟩:=z q n;have:=(hd.lt q j).1
  simp_all
 .rw[if_neg e];have g:i<k:=by omega
  refine t _ _ ((h.dev i g).keep λq e=>F.block q ((h.dev i g).lt q e).2) λq j n=>?_
  obtain⟨l,A⟩:=z q n;exact((h.dev i g).toG.oZ A (by decide)) j
def Em{c m C Y y j}(a:Bool)(w)(h:aC w c Y y)(i:y.s.ok m)(b:y.j=S j)(d:JOk y.s C j) :
  κ prog 131 #[Y.jb.jp,a] w λe w'=>e=.returned (.tuple #[])/\ay c Y y {y with j:=S (mF j a)} w w' :=
 (AY a w (h.wO i b d)).mono λ_ _ ⟨g,f⟩=>⟨g,h.vg b (ja0 _ _) f rfl⟩
def L9{c m C Y y j}(a:Bool)(w)(h:aC w c Y y)(i:y.s.ok m)(b:y.j=S j)(d:JOk y.s C j) :
  κ prog 126 #[Y.jb.jp,a] w λe w'=>e=.returned (erV (fD j a))/\ay c Y y {y with j:=S (nG j a)} w w' :=
 (U0 a w (h.wO i b d)).mono λ_ _ ⟨g,f⟩=>⟨g,h.vg b (ja0 _ _) f (wL j a).1⟩
def ZN{b m C Y y j}(n:Int)(w)(h:aC w b Y y)(g:y.s.ok m)(a:y.j=S j)(c:JOk y.s C j) :
  κ prog 134 #[Y.jb.jp,n] w λe w'=>e=.returned (erV (if S4.inB n 100000=true then 0 else 1))/\ay b Y y {y with j:=S (kM j n)} w w' :=
 (RZ n w (h.wO g a c)).mono λ_ _ ⟨f,d⟩=>⟨f,h.vg a (ja0 _ _) d (zZ j n).1⟩
def Mc{b m C Y y j}(w)(h:aC w b Y y)(i:y.s.ok m)(a:y.j=S j)(c:JOk y.s C j)(d:m+10<1000000000) :
  κ prog 130 #[Y.jb.jp] w λe w'=>e=.returned (erV (dF y.s j))/\ay b Y y (y.t0 j) w w' :=
 (RQ w (h.wO i a c) d).mono λ_ _ ⟨g,f⟩=>⟨g,h.vg a (ja0 _ _) f (DU y.s j).1⟩
def ZM{b m C Y y j}(w)(h:aC w b Y y)(k:y.s.ok m)(a:y.j=S j)(c:JOk y.s C j)(g:S4.Tab w)(d:m+10<1000000000) :
  κ prog 137 #[Y.jb.jp] w λe w'=>e=.returned (.tuple #[.bool (eP y.s j),erV (bF y.s j)])/\ay b Y y (y.t1 j) w w' :=
 (RU w (h.wO k a c) g d).mono λ_ _ ⟨i,f⟩=>⟨i,h.vg a (ja0 _ _) f (uo y.s j).1⟩
def qX{b y}(h:y.busy≠true):goV b y=.pointer none:=by unfold goV;rw[if_neg h]
def qY{b y}(h:y.busy=true):goV b y=.pointer (S ⟨b.jp,0,O⟩):=by unfold goV;rw[if_pos h]
def Me{d C m Y y}(a:Bool)(w)(h:aC w d Y y)(k:YOk y C m) :
  κ prog 57 #[d,a] w λe w'=>e=.returned (erV (y.fD a))/\ay d Y y (y.pause a) w w':=by
 have i:=ah (qh w h);have n:χ _:=ay.refl h;by_cases b:y.busy=true
 .obtain⟨j,c,l⟩:=mZ b;rw[qY b] at *
  have f:y.fD a=fD j a:=by unfold YV.fD;rw[c];show(if 4<=j.stage then _ else _)=_;rw[if_neg (by omega)]
  have g:y.pause a={y with j:=S (nG j a)}:=by unfold YV.pause;rw[if_pos b,c];rfl
  rw[f,g];go_enter func57,ntmps57;go_wp2_with fail;refine cSt i ?_;go_wp2_with fail;refine cHd (L9 a w h k.s c (k.job j c l).ok) λq o=>?_
  go_wp2;go_ret;exact⟨rfl,o⟩
 .rw[qX b] at *
  have f:y.fD a=4:=by
   unfold YV.fD
   cases c:y.j with
   | none=>rfl
   | some j=>show(if 4<=j.stage then _ else _)=_;rw[if_pos (mY b j c)]
  have g:y.pause a=y:=by unfold YV.pause;rw[if_neg b]
  rw[f,g,bC (by decide)];go_enter func57,ntmps57;go_wp2_with fail;refine cSt i ?_;go_wp2;go_ret;exact⟨rfl,n⟩
def Z7{d C m Y y}(n:Int)(w)(h:aC w d Y y)(k:YOk y C m) :
  κ prog 59 #[d,n] w λe w'=>e=.returned (erV (YV.nX n))/\ay d Y y (y.tick n) w w':=by
 have i:=ah (qh w h);have f:χ _:=ay.refl h;unfold YV.nX
 cases g:S4.inB n 100000 with
 | false =>
  have c:y.tick n=y:=by
   unfold YV.tick;split
   .cases a:y.j with
    | none =>
     show({y with j:=O}:YV)=y
     rw[<- a]
    | some j =>
     show({y with j:=S (kM j n)}:YV)=y
     rw[show kM j n=j by unfold kM;rw[if_neg (by rw[g];decide)],<- a]
   .rfl
  rw[c,if_neg (by decide),eX];have o:n<0\/100000<n:=by unfold S4.inB at *;simp at *;omega
  by_cases u:n<0
  .go_enter func59,ntmps59;go_wp2;go_ret;exact⟨rfl,f⟩
  .have g1  := decide_eq_true (by omega);go_enter func59,ntmps59;go_wp2;go_ret;exact⟨rfl,f⟩
 | true =>
  have o:0<=n/\n<=100000:=by unfold S4.inB at *;simp at *;omega
  have g1:decide (100000<n)=false:=decide_eq_false (by omega);rw[if_pos rfl,aJ];by_cases b:y.busy=true
  .obtain⟨j,a,l⟩:=mZ b;rw[qY b] at *
   have c:y.tick n={y with j:=S (kM j n)}:=by unfold YV.tick;rw[if_pos b,a];rfl
   have r:=ah (ZN n w h k.s a (k.job j a l).ok);rw[g,if_pos rfl,aJ] at *
   rw[c];go_enter func59,ntmps59;go_wp2_with fail;refine cSt i ?_;go_wp2_with fail;refine cHd r λt q=>?_
   go_wp2;go_ret;exact⟨rfl,q⟩
  .rw[qX b] at *
   have c:y.tick n=y:=by unfold YV.tick;rw[if_neg b]
   rw[c];go_enter func59,ntmps59;go_wp2_with fail;refine cSt i ?_;go_wp2;go_ret;exact⟨rfl,f⟩
def Zz{b C m Y y}(w)(h:aC w b Y y)(d:YOk y C m)(J:m<1000000000) :
  κ prog 55 #[b] w λe w'=>e=.returned (erV y.nM)/\ay b Y y y.cancel w w':=by
 have n:=ah (qh w h);have G:χ (ay b Y y y w w):=ay.refl h;unfold YV.cancel YV.nM;by_cases a:y.busy=true
 .obtain⟨j,r,E⟩:=mZ a;rw[qY a] at *
  rw[if_pos a,if_pos a];obtain⟨Z,c5,c6,V,P,R⟩:=h.blk.cells;have v:=d.root;have u:=ah (xM y.kd.root w);have f:χ (∀ W:ω,β w w W->κ prog 31 #[b,.agg #[.int .i64 (aj y.kd.root).root,.int .i64 (aj y.kd.root).kind,.int .i64 (aj y.kd.root).file,.int .i64 (aj y.kd.root).rate,.int .i64 (aj y.kd.root).burst]] W λe w'=>e=.returned (erV y.aN)/\ay b Y y (y.aA (aj y.kd.root)) w w'):=λW a=>(vJ (aj y.kd.root) W (h.below a) d.top (lW v.1 v.2) J).mono λe w' ⟨o,i⟩=>⟨o,ay.from a i⟩
  obtain⟨x,U,K,D⟩:=nY y (aj y.kd.root)
  have L:χ (∀ W:ω,y.aN=0->ay b Y y (y.aA (aj y.kd.root)) w W->κ prog 131 #[Y.jb.jp,false] W λe w'=>e=.returned (.tuple #[])/\ay b Y y (y.over y.kd.root 5) w w'):=λW k ⟨T,A,o,i⟩=>by
   rw[<- A];refine cEq (Em false W o (by rw[x];exact d.s) (D.trans r) (by rw[x];exact(d.job j r E).ok)) λw' hd=>?_
   refine⟨rfl,ay.trans A i ?_⟩
   have H:y.over y.kd.root 5={y.aA (aj y.kd.root) with j:=S (mF j false)}:=by
    unfold YV.over;rw[if_pos k,d.ch.walk,r];show({y.aA (aj y.kd.root) with j:=S (j.at 5),l:=y.l}:YV)=_
    rw[<- K];rfl
   rw[H];exact hd
  have I:χ (y.aN≠0->y.over y.kd.root 5=y.aA (aj y.kd.root)):=λk=>by unfold YV.over;rw[if_neg k]
  generalize y.over y.kd.root 5=z at *
  generalize y.aA (aj y.kd.root)=X at *
  generalize y.aN=F at *
  by_cases c:F=0
  .rw[c,aJ] at f;rw[c,aJ];have N:=ah (λW hd=>L W c hd);go_enter func55,ntmps55;go_wp2_with fail;refine cSt n ?_;go_wp2_with fail;refine cEq u λg t=>?_
   go_wp2_with fail;refine cEq (f g t) λM B=>?_
   go_wp2_with fail;refine cHd (N _ B) λQ q=>?_
   go_wp2;go_ret;exact⟨rfl,q⟩
  .rw[I.out c];rw[bC c] at *
   go_enter func55,ntmps55;go_wp2_with fail;refine cSt n ?_;go_wp2_with fail;refine cEq u λg t=>?_
   go_wp2_with fail;refine cHd (f g t) λM q=>?_
   go_wp2;go_ret;exact⟨rfl,q⟩
 .rw[qX a] at *
  rw[if_neg a,if_neg a,bC (by decide)];go_enter func55,ntmps55;go_wp2_with fail;refine cSt n ?_;go_wp2;go_ret;exact⟨rfl,G⟩
def aC.re{w a Y y z}(h:aC w a Y y)(d:z.s=y.s)(b:z.dv=y.dv)(g:z.top=y.top)(c:z.j=y.j)(f:z.kd.root=y.kd.root):aC w a Y z:=by
 obtain⟨k,l,m,i,n,o⟩:=z;subst d b g c;refine⟨?_,h.img,h.dev,h.top,h.apart,h.apTop,h.job⟩;rw[f];exact h.blk
theorem ay.re{w w' d Y y z c}(h:ay d Y y z w w')(i:c.s=z.s)(k:c.dv=z.dv)(m:c.top=z.top)(g:c.j=z.j)(l:c.kd.root=z.kd.root):ay d Y y c w w':=by
 obtain⟨f,e,a,b⟩:=h;refine⟨f,e,a.re i k m g l,?_⟩;have:fpY d f c=fpY d f z:=by unfold fpY;rw[i,g]
 simp_all
def Z8{b Y y}(n:Int)(w)(h:aC w b Y y)(j:n<=9223372036854775807) :
  κ prog 136 #[Y.tp.p,n] w λe w'=>e=.returned (erV (YV.jF (-1) n))/\ay b Y y (y.arm (-1) n) w w':=by
 by_cases a:0<=n
 .refine(Bc n w h.top.toaS a j).mono ?_;rintro e w' ⟨rfl,g,d⟩;obtain⟨i,f⟩:=h.qL  ⟨g,λ_ _ e=>e⟩ rfl ⟨d,λ_ c=>.inl c⟩;refine⟨?_,?_⟩
  .unfold YV.jF;rw[if_pos ⟨by omega,by omega,a⟩,aJ]
  .unfold YV.arm;rw[if_pos ⟨by omega,by omega,a⟩];exact⟨_,rfl,i,f⟩
 .refine(Ba n w h.top.toaS (by omega)).mono ?_;rintro e w' ⟨rfl,rfl⟩;refine⟨?_,?_⟩
  .unfold YV.jF;rw[if_neg (λe=>a e.2.2),eX]
  .unfold YV.arm;rw[if_neg (λe=>a e.2.2)];exact ay.refl h
def ZI{r i Y y}(n:Int)(w)(h:aC w r Y y)(l:i<5)(F:n<=9223372036854775807) :
  κ prog 136 #[Y.dp y.s i,n] w λe w'=>e=.returned (erV (YV.jF (i:Int) n))/\ay r Y y (y.arm (i:Int) n) w w':=by
 have L:YV.jF (i:Int) n=if 0<=n then 0 else 1:=by
  unfold YV.jF;by_cases a:0<=n
  .omega
  .omega
 have D:((i:Int)).toNat=i:=by omega
 rw[L]
 cases b:y.s i with
 | none =>
  have hd:=h.dev i l b;rw[Yh.dp_none b];by_cases a:0<=n
  .refine(Bc n w hd.toaS a F).mono ?_;rintro e w' ⟨rfl,z,o⟩;have m:Moved (Y.fpF y.s i) w (Y.fpF y.s i) w':=⟨o.mono λk _ f=>by rw[Yh.dN b];exact f,λ_ f=>.inl f⟩
   have C:y.arm (i:Int) n={y with dv:=λk=>if k=i then (y.dv k).failing n else y.dv k}:=by
    unfold YV.arm;rw[if_pos ⟨by omega,by omega,a⟩,if_neg (by omega),D,b]
   have t:=h.blk.keep (m.block h.blk.lt (h.lC.1 i l))
   obtain⟨A,x⟩:=h.qH (y':={y with dv:=λk=>if k=i then (y.dv k).failing n else y.dv k}) l m (Kept.refl _ _) t (λv P=>by simp_all) (λ_=>by
    show bV Gd.no w' (Y.ds i) (if i=i then (y.dv i).failing n else y.dv i)
    rw[if_pos rfl];exact⟨z,λ_ _ e=>e⟩) (λj g=>⟨rfl,if_neg g,rfl,rfl⟩) ⟨rfl,rfl,rfl,rfl⟩
   refine⟨by rw[if_pos a,aJ],?_⟩;rw[C];exact⟨Y,rfl,A,x⟩
  .refine(Ba n w hd.toaS (by omega)).mono ?_;rintro e w' ⟨rfl,rfl⟩;refine⟨by rw[if_neg a,eX],?_⟩;unfold YV.arm;rw[if_neg (λe=>a e.2.2)];exact ay.refl h
 | some v =>
  have B:=h.img i v l b;rw[Yh.lX b];by_cases a:0<=n
  .refine(Bc n w B.dev.toaS a F).mono ?_;rintro e w' ⟨rfl,z,o⟩
   have C:y.arm (i:Int) n={y with s:=y.s.upd i {v with d:=v.d.failing n}}:=by
    unfold YV.arm;rw[if_pos ⟨by omega,by omega,a⟩,if_neg (by omega),D,b]
   have q:y.s.upd i {v with d:=v.d.failing n} i=S {v with d:=v.d.failing n}:=by unfold SV.upd;rw[if_pos rfl]
   have m:Moved (Y.fpF _ i) w (Y.fpF _ i) w':=⟨o.mono λk _ f=>by rw[Yh.eY b];exact .inr (.inr (.inr f)),λk f=>.inl (by rw[Yh.eY q] at *;rw[Yh.eY b];exact f)⟩
   have t:jQ w' r Y (y.s.upd i {v with d:=v.d.failing n}) y.kd.root (rC Y.jb y.j):=by
    obtain⟨c,G,N,K,M,H,I⟩:=h.blk.is;refine⟨c,(m.block h.blk.lt (h.lC.1 i l)).trans G,λj g=>?_,K,λj g=>?_,H,I⟩
    .rw[N j g];by_cases e:j=i
     .rw[e,Yh.lX b,Yh.lX q]
     .unfold Yh.dp SV.upd;rw[if_neg e]
    .rw[M j g];by_cases e:j=i
     .rw[e,b,q];rfl
     .unfold SV.upd;rw[if_neg e]
   obtain⟨A,x⟩:=h.qH  (y':={y with s:=y.s.upd i _}) l m (Kept.refl _ _) t (λu E=>by
    have J  := q.symm.trans E;cases J;exact(B.sW  ⟨z,λ_ _ e=>e⟩ rfl o).1) (λE=>by
    simp_all) (λj g=>⟨by show SV.upd _ _ _ _=_;unfold SV.upd;rw[if_neg g],rfl,rfl,rfl⟩) ⟨rfl,rfl,rfl,rfl⟩
   refine⟨by rw[if_pos a,aJ],?_⟩;rw[C];exact⟨Y,rfl,A,x⟩
  .refine(Ba n w B.dev.toaS (by omega)).mono ?_;rintro e w' ⟨rfl,rfl⟩;refine⟨by rw[if_neg a,eX],?_⟩;unfold YV.arm;rw[if_neg (λe=>a e.2.2)];exact ay.refl h
def ZH{a Y y}(f n:Int)(w)(h:aC w a Y y)(d:n<=9223372036854775807) :
  κ prog 61 #[a,f,n] w λe w'=>e=.returned (erV (YV.jF f n))/\ay a Y y (y.arm f n) w w':=by
 obtain⟨o,z,A,u,q,t⟩:=h.blk.cells;by_cases k:f = -1
 .subst k;go_enter func61,ntmps61;go_wp2_with fail;refine cHd (Z8 n w h d) λg b=>?_
  go_wp2;go_ret;exact⟨rfl,b⟩
 .by_cases x:0<=f/\f<5
  .obtain⟨i,rfl⟩:∃ i:Nat,f=(i:Int):=⟨f.toNat,by omega⟩;have j:=ah (ZI n w h (show i<5 by omega) d);have v:=o i (by omega);generalize Y.dp y.s i=dp at *
   go_enter func61,ntmps61;go_wp2_with fail;refine cHd j λg b=>?_
   go_wp2;go_ret;exact⟨rfl,b⟩
  .have m:YV.jF f n=1:=by unfold YV.jF;rw[if_neg (by omega)]
   have l:y.arm f n=y:=by unfold YV.arm;rw[if_neg (by omega)]
   have c:χ _:=ay.refl h;rw[m,l,eX];by_cases r:f<0
   .go_enter func61,ntmps61;go_wp2;go_ret;exact⟨rfl,c⟩
   .go_enter func61,ntmps61;go_wp2;go_ret;exact⟨rfl,c⟩
def su(j:JV):Obj:=.cells #[j.kind,j.file,j.state,.int .i64 (S4.cnt j.x 64:Nat)] 120 (0,0)
def ay.box{w W c b Y y z}(h:aC w b Y y)(hd:ay b Y y z W c){n:Nat}{o}(g:w<=n)(a:W.heap[n]?=S o):c.heap[n]?=S o:=by
 obtain⟨f,_,_,d⟩:=hd;rw[d.block (lt_of_some a) (λe=>by have:=h.gG e;omega)];exact a
def Si{s C j}(h:JOk s C j)(a:j.kind≠2):0<=j.file/\j.file<=4:=by
 obtain⟨v,b⟩:=h.file a;have:=SV.eG b
 omega
def ZT{g C m Y y}(w)(h:aC w g Y y)(u:YOk y C m)(hm:m+20<1000000000) :
  κ prog 53 #[g] w λe w'=>e=.returned (erV y.jK)/\ay g Y y y.pivot w w':=by
 have k:=ah (qh w h);have J:χ (∀ W:ω,β w w W->ay g Y y y w W):=λW a=>ay.below h a
 by_cases a:y.busy=true
 .obtain⟨j,f,hg⟩:=mZ a;have q:=u.job j f hg;rw[qY a] at *
  have A:y.kd.kind=j.kind:=by rw[<- q.dsk];rfl
  have V:y.kd.file=j.file:=by rw[<- q.dsk];rfl
  have v:=ah (zT w (h.job j f).1 q.ok.set);have D:χ (∀ W:ω,β w w W->β w w (W.alloc (su j))):=λW a=>a.alloc a.size _
  have H:χ (∀ W:ω,(W.alloc (su j)).cell? ⟨W,0,O⟩=S (j.kind:υ)):=λW=>by
   rw[cell_of_row _ _ _ _ _ _ (show(W.alloc (su j)).heap[W.heap.size]?=S (.cells _ _ (0,0)) from heap_alloc_new W _)];rfl
  by_cases t:j.kind=2
  .have n:y.jK=9:=by unfold YV.jK;rw[f];show(if 4<=j.stage then _ else if y.kd.kind=2 then _ else _)=_;rw[if_neg (by omega),if_pos (A.trans t)]
   have z:y.pivot=y:=by unfold YV.pivot;rw[f];show(if 4<=j.stage\/y.kd.kind=2 then _ else _)=_;rw[if_pos (.inr (A.trans t))]
   have g2:(j.kind==2)=true:=by simpa using t
   rw[n,z,bC (by decide)];unfold su at *
   clear h u a f hg q A V n z H t;go_enter func53,ntmps53;go_wp2_with fail;refine k.mono ?_;rintro e w' ⟨rfl,d⟩;have o:=d.symm;subst o;clear d k;go_wp2_with fail;refine v.mono ?_;rintro e i ⟨rfl,c⟩;have r:=ah (J _ (D _ c));clear c v;go_wp2;go_ret;exact⟨rfl,r⟩
  .have g2:(j.kind==2)=false:=by simpa using t
   have B:χ (∀ W:ω,β w w W->κ prog 130 #[Y.jb.jp] W λe w'=>e=.returned (erV (dF y.s j))/\ay g Y y (y.t0 j) W w'/\ay g Y y (y.t0 j) w w'):=λW a=>(Mc W (h.below a) u.s f q.ok (by omega)).mono λe w' ⟨N,G⟩=>⟨N,G,ay.from a G⟩
   have a1:y.jK=if dF y.s j≠0 then dF y.s j else y.aN:=by unfold YV.jK;rw[f];show(if 4<=j.stage then _ else if y.kd.kind=2 then _ else _)=_;rw[if_neg (by omega),if_neg (λe=>t (A.symm.trans e))]
   have X:y.pivot=if dF y.s j≠0 then (y.t0 j) else (y.t0 j).over j.file 4:=by unfold YV.pivot;rw[f];show(if 4<=j.stage\/y.kd.kind=2 then _ else _)=_;rw[if_neg (by rintro(e|e);omega;exact t (A.symm.trans e)),V]
   by_cases E:dF y.s j≠0
   .rw[a1,X,if_pos E,if_pos E];rw[bC E] at *
    unfold su at *
    clear h u a f hg q A V a1 X J;go_enter func53,ntmps53;go_wp2_with fail;refine k.mono ?_;rintro e w' ⟨rfl,d⟩;have o:=d.symm;subst o;clear d k;go_wp2_with fail;refine v.mono ?_;rintro e i ⟨rfl,c⟩;have x:=ah (B _ (D _ c));clear c v B D H;go_wp2_with fail;refine x.mono ?_;rintro e w2 ⟨rfl,_,hd⟩;have r:=ah hd;clear hd x;go_wp2;go_ret;exact⟨rfl,r⟩
   .have a5:dF y.s j=0:=jag λe=>E e
    rw[a1,X,if_neg E,if_neg E];rw[a5,aJ] at B;have a2:=Si q.ok t
    have Z:χ (∀(W:ω) (i b:ω),β w w i->W=i.alloc (su j)->ay g Y y (y.t0 j) W b->b.cell? ⟨i,1,O⟩=S (j.file:υ)):=λW i b c e hd=>by
     subst e;have:=ay.box h hd c.size (heap_alloc_new i _)
     unfold su at *
     rw[cell_of_row _ _ _ _ _ _ this];rfl
    have a0:χ (∀ W:ω,κ prog 32 #[j.file] W λe w'=>e=.returned (.agg #[.int .i64 (aj j.file).root,.int .i64 (aj j.file).kind,.int .i64 (aj j.file).file,.int .i64 (aj j.file).rate,.int .i64 (aj j.file).burst])/\β W W w'):=λW=>xM j.file W
    have M:χ (∀ W b:ω,ay g Y y (y.t0 j) w W->β W W b->κ prog 31 #[g,.agg #[.int .i64 (aj j.file).root,.int .i64 (aj j.file).kind,.int .i64 (aj j.file).file,.int .i64 (aj j.file).rate,.int .i64 (aj j.file).burst]] b λe w'=>e=.returned (erV y.aN)/\ay g Y y ((y.t0 j).aA (aj j.file)) w w'):=λW b hd a=>by
     obtain⟨Y1,n,N,G⟩:=hd;refine(vJ (aj j.file) b (N.below a) u.top (lW a2.1 a2.2) (by omega)).mono ?_;rintro e w' ⟨rfl,h4⟩;exact⟨rfl,ay.trans n G (ay.from a h4)⟩
    obtain⟨s1,s2,s3,s4⟩:=nY (y.t0 j) (aj j.file)
    have HE:χ (∀ W:ω,y.aN=0->ay g Y y ((y.t0 j).aA (aj j.file)) w W->κ prog 131 #[Y.jb.jp,true] W λe w'=>e=.returned (.tuple #[])/\ay g Y y ((y.t0 j).over j.file 4) w w'):=λW h0 ⟨Y1,n,N,G⟩=>by
     rw[<- n];refine(Em (C:=C) true W N (by rw[s1];exact u.s.settle j (by omega)) s4 (by rw[s1];exact q.ok.settle)).mono ?_;rintro e w' ⟨rfl,hd⟩;refine⟨rfl,?_⟩;have a7:=ay.trans n G hd
     have z:(y.t0 j).over j.file 4={(y.t0 j).aA (aj j.file) with j:=S (mF (dY y.s j) true),l:=((dQ y.s j).walk j.file).1}:=by
      unfold YV.over;rw[if_pos (show(y.t0 j).aN=0 from h0)];rfl
     rw[z];exact a7.re rfl rfl rfl rfl rfl
    have HO:χ (y.aN≠0->(y.t0 j).over j.file 4=(y.t0 j).aA (aj j.file)):=λh0=>by unfold YV.over;rw[if_neg (show ¬(y.t0 j).aN=0 from h0)]
    have H:=H;unfold su at *
    clear h u a f hg q A V a1 X J s1 s2 s3 s4 E a5 a2;generalize (y.t0 j).over j.file 4=z3 at *
    generalize (y.t0 j).aA (aj j.file)=z2 at *
    generalize (y.t0 j)=z1 at *
    generalize y.aN=F at *
    by_cases I:F=0
    .rw[I,aJ] at M;rw[I,aJ];have a4:=ah (λW hd=>HE W I hd);clear HE HO I;go_enter func53,ntmps53;go_wp2_with fail;refine k.mono ?_;rintro e w' ⟨rfl,d⟩;have o:=d.symm;subst o;clear d k;go_wp2_with fail;refine v.mono ?_;rintro e i ⟨rfl,c⟩;have x:=ah (B _ (D _ c));have U:=ah (λb hd=>Z _ i b c rfl hd);clear c v B D H Z;go_wp2_with fail;refine x.mono ?_;rintro e w2 ⟨rfl,Q,L⟩;have q1:=U _ Q;have R:=ah (λb a=>M w2 b L a);clear Q L x U M;go_wp2_with fail;refine(a0 _).mono ?_;rintro e w3 ⟨rfl,T⟩;have P:=ah (R _ T);clear T R a0;go_wp2_with fail;refine P.mono ?_;rintro e w4 ⟨rfl,K⟩;have a6:=ah (a4 _ K);clear K P a4;go_wp2_with fail;refine a6.mono ?_;rintro e w5 ⟨rfl,a3⟩;have r:=ah a3;clear a3 a6;go_wp2;go_ret;exact⟨rfl,r⟩
    .rw[HO.out I];rw[bC I] at *
     clear HE HO;go_enter func53,ntmps53;go_wp2_with fail;refine k.mono ?_;rintro e w' ⟨rfl,d⟩;have o:=d.symm;subst o;clear d k;go_wp2_with fail;refine v.mono ?_;rintro e i ⟨rfl,c⟩;have x:=ah (B _ (D _ c));have U:=ah (λb hd=>Z _ i b c rfl hd);clear c v B D H Z;go_wp2_with fail;refine x.mono ?_;rintro e w2 ⟨rfl,Q,L⟩;have q1:=U _ Q;have R:=ah (λb a=>M w2 b L a);clear Q L x U M;go_wp2_with fail;refine(a0 _).mono ?_;rintro e w3 ⟨rfl,T⟩;have P:=ah (R _ T);clear T R a0;go_wp2_with fail;refine P.mono ?_;rintro e w4 ⟨rfl,K⟩;have r:=ah K;clear K P;go_wp2;go_ret;exact⟨rfl,r⟩
 .rw[qX a] at *
  have n:y.jK=4:=by
   unfold YV.jK
   cases f:y.j with
   | none=>rfl
   | some j=>show(if 4<=j.stage then _ else _)=_;rw[if_pos (mY a j f)]
  have z:y.pivot=y:=by
   unfold YV.pivot
   cases f:y.j with
   | none=>rfl
   | some j=>show(if 4<=j.stage\/y.kd.kind=2 then _ else _)=_;rw[if_pos (.inl (mY a j f))]
  have r:=ah (J w (ja0 _ _));rw[n,z,bC (by decide)];clear h u a n z J;go_enter func53,ntmps53;go_wp2_with fail;refine k.mono ?_;rintro e w' ⟨rfl,d⟩;have o:=d.symm;subst o;clear d k;go_wp2;go_ret;exact⟨rfl,r⟩
def ZB{b m C Y y j}(w)(h:aC w b Y y)(f:y.s.ok m)(l:y.j=S j)(g:JOk y.s C j)(r:m+10<1000000000) :
  κ prog 138 #[Y.jb.jp] w λe w' =>
   (dF y.s j≠0/\e=.returned (.tuple #[false,erV (dF y.s j)])/\ay b Y y (y.t0 j) w w') \/
   (dF y.s j=0/\e=.returned (.tuple #[true,.nilIface])/\ay b Y y {y with s:=dQ y.s j,j:=S (mF (dY y.s j) true)} w w'):=by
 have a:=ah (Mc w h f l g r)
 have i:χ (∀ W:ω,ay b Y y (y.t0 j) w W->κ prog 131 #[Y.jb.jp,true] W λe w'=>e=.returned (.tuple #[])/\ay b Y y {y with s:=dQ y.s j,j:=S (mF (dY y.s j) true)} w w'):=λW ⟨u,k,t,q⟩=>by
  rw[<- k];refine(Em (C:=C) true W t (f.settle j (by omega)) rfl g.settle).mono ?_;rintro e w' ⟨rfl,hd⟩;exact⟨rfl,ay.trans k q hd⟩
 clear h f l g;generalize (y.t0 j)=v at *
 generalize ({y with s:=dQ y.s j,j:=S (mF (dY y.s j) true)}:YV)=z2 at *
 generalize dF y.s j=F at *
 by_cases c:F=0
 .rw[c,aJ] at a;go_enter func138,ntmps138;go_wp2_with fail;refine a.mono ?_;rintro e o ⟨rfl,hd⟩;have n:=ah (i _ hd);clear hd i a;go_wp2_with fail;refine n.mono ?_;rintro e x ⟨rfl,hd⟩;have d:=ah hd;clear hd n;go_wp2;go_ret2;exact .inr ⟨c,rfl,d⟩
 .rw[bC c] at *
  clear i;go_enter func138,ntmps138;go_wp2_with fail;refine a.mono ?_;rintro e o ⟨rfl,hd⟩;have d:=ah hd;clear hd a;go_wp2;go_ret2;exact .inl ⟨c,rfl,d⟩
def XU{s j}(h:bF s j≠0):eP s j=false:=by
 unfold bF at h;refine decide_eq_false ?_;rintro⟨h1,h2,h3,h4⟩;simp_all
def XW{s j}(b:j.stage<4):(stepJ s j).stage<4\/((stepJ s j).stage=5/\bF s j≠0):=by
 unfold stepJ;split
 .next d =>
  split
  .next a =>
   refine .inr ⟨rfl,?_⟩;unfold bF;simp_all
  .have e:∀ c,(j.went c).stage=j.stage:=λ_=>rfl
   simp_all
 omega
def X6{s j}(b:j.stage=1\/j.stage=2)(h:(stepJ s j).state=3):bF s j=0:=by
 refine jag λd=>?_
 rcases b with a|a
 .unfold bF at *
  split at *
  .next f =>
   have:stepJ s j=j.fell:=by
    unfold stepJ;simp_all
   rw[this] at h;unfold JV.state at h;split at h
   .next c=>exact absurd c.1 (by show ¬(5:Int)=1;decide)
   .exact absurd h (by show ¬(5:Int)=3;decide)
  omega
 .have:stepJ s j=j:=by
   unfold stepJ;simp_all
  rw[this] at h;unfold JV.state at h;omega
def Z4{c C m Y y}(w)(h:aC w c Y y)(D:YOk y C m)(hT:S4.Tab w)(hm:m+30<1000000000) :
  κ prog 63 #[c] w λe w'=>e=.returned (.tuple #[y.eP,erV y.bF])/\ay c Y y y.step w w':=by
 have A:=ah (qh w h);by_cases a:y.busy=true
 .obtain⟨j,l,hg⟩:=mZ a;have U:=D.job j l hg;rw[qY a] at A;have T:y.kd.kind=j.kind:=by rw[<- U.dsk];rfl
  have hr:=D.root;have am:j.stage=1\/j.stage=2:=by rcases U.ok.stage with e|e|e|e<;>omega
  obtain⟨jl,jk⟩:=uo y.s j;have af:(stepJ y.s j).kind=j.kind:=by have:=congrArg aP.kind jk;exact this
  have v:=ah (ZM w h D.s l U.ok hT (by omega));have an:(stepS y.s j).ok (m+10):=D.s.step j (by omega);have ae:JOk (stepS y.s j) C (stepJ y.s j):=U.ok.step
  have r:χ (∀ W:ω,ay c Y y (y.t1 j) w W->κ prog 129 #[Y.jb.jp] W λe w'=>e=.returned (.agg #[j.kind,.int .i64 (stepJ y.s j).file,.int .i64 (stepJ y.s j).state,.int .i64 (S4.cnt (stepJ y.s j).x 64:Nat)])/\∀ o,ay c Y y (y.t1 j) w (w'.alloc o)):=λW ⟨Y1,k,u,I⟩=>by
   rw[<- k];refine(zT W (u.job _ rfl).1 ae.set).mono ?_;rintro e w' ⟨rfl,a⟩;refine⟨by rw[af],λo=>⟨Y1,k,u.below (a.alloc a.size o),I.trans (Moved.of_below (a.alloc a.size o))⟩⟩
  have Q:χ (∀(z:YV) (jz:JV) (W:ω),z.j=S jz->ay c Y y z w W->κ prog 139 #[Y.jb.jp] W λe w'=>e=.returned (.bool (decide (jz.stage<4)))/\w'=W):=λz jz W hz ⟨Y1,k,u,I⟩=>by
   rw[<- k];exact BQ W (u.job _ hz).1
  have a4:χ (∀(z:YV) (W:ω),z.kd=y.kd->ay c Y y z w W->W.cell? ⟨c,11,O⟩=S (y.kd.root:υ)):=λz W hz ⟨Y1,k,u,I⟩=>by
   have:=u.blk.cells.2.2.2.1
   rw[hz] at this;exact this
  have N:χ (∀ W:ω,κ prog 32 #[y.kd.root] W λe w'=>e=.returned (.agg #[.int .i64 (aj y.kd.root).root,.int .i64 (aj y.kd.root).kind,.int .i64 (aj y.kd.root).file,.int .i64 (aj y.kd.root).rate,.int .i64 (aj y.kd.root).burst])/\β W W w'):=λW=>xM y.kd.root W
  have a7:χ (∀(z:YV) (W f:ω),z.top=y.top->ay c Y y z w W->β W W f->κ prog 31 #[c,.agg #[.int .i64 (aj y.kd.root).root,.int .i64 (aj y.kd.root).kind,.int .i64 (aj y.kd.root).file,.int .i64 (aj y.kd.root).rate,.int .i64 (aj y.kd.root).burst]] f λe w'=>e=.returned (erV z.aN)/\ay c Y y (z.aA (aj y.kd.root)) w w'):=λz W f hz hd a=>by
   obtain⟨Y1,k,u,I⟩:=hd;refine(vJ (m:=m) (aj y.kd.root) f (u.below a) (by rw[hz];exact D.top) (lW hr.1 hr.2) (by omega)).mono ?_;rintro e w' ⟨rfl,h4⟩;exact⟨rfl,ay.trans k I (ay.from a h4)⟩
  have a3:y.step=if bF y.s j≠0 then (if (stepJ y.s j).stage=5 then (y.t1 j).aA (aj y.kd.root) else (y.t1 j))
    else if y.kd.kind≠2\/(stepJ y.s j).state≠3 then (y.t1 j)
    else if dF (stepS y.s j) (stepJ y.s j)≠0 then (y.t2 j).aA (aj y.kd.root)
    else {(y.t4 j).aA (aj y.kd.root) with kd:=aj y.kd.root}:=by
   unfold YV.step;rw[l];show(if 4<=j.stage then _ else _)=_;rw[if_neg (by omega)]
  have ac:y.bF=if bF y.s j≠0 then bF y.s j else if y.kd.kind≠2\/(stepJ y.s j).state≠3 then 0 else dF (stepS y.s j) (stepJ y.s j):=by
   unfold YV.bF;rw[l];show(if 4<=j.stage then _ else _)=_;rw[if_neg (by omega)]
  have ag:y.eP=if bF y.s j≠0 then false else if y.kd.kind≠2\/(stepJ y.s j).state≠3 then eP y.s j else decide (dF (stepS y.s j) (stepJ y.s j)=0):=by
   unfold YV.eP;rw[l];show(if 4<=j.stage then _ else _)=_;rw[if_neg (by omega)]
  by_cases d:j.kind=2/\(stepJ y.s j).state=3
  .have aa:=X6 am d.2
   have a5:χ (∀ W:ω,ay c Y y (y.t1 j) w W->κ prog 138 #[Y.jb.jp] W λe w' =>
     (dF (stepS y.s j) (stepJ y.s j)≠0/\e=.returned (.tuple #[false,erV (dF (stepS y.s j) (stepJ y.s j))])/\ay c Y y (y.t2 j) w w') \/
     (dF (stepS y.s j) (stepJ y.s j)=0/\e=.returned (.tuple #[true,.nilIface])/\ay c Y y {y with s:=dQ (stepS y.s j) (stepJ y.s j),j:=S (mF (dY (stepS y.s j) (stepJ y.s j)) true)} w w')):=λW ⟨Y1,k,u,I⟩=>by
    rw[<- k];refine(ZB (m:=m+10) (C:=C) W u an rfl ae (by omega)).mono ?_;rintro e w' (⟨q1,q2,q3⟩|⟨q1,q2,q3⟩)
    .exact .inl ⟨q1,q2,ay.trans k I q3⟩
    .exact .inr ⟨q1,q2,ay.trans k I q3⟩
   have g1:(j.kind==2)=true:=by simpa using d.1
   have g2:((stepJ y.s j).state==3)=true:=by simpa using d.2
   have B:y.step=if dF (stepS y.s j) (stepJ y.s j)≠0 then (y.t2 j).aA (aj y.kd.root)
    else {(y.t4 j).aA (aj y.kd.root) with kd:=aj y.kd.root}:=by
    rw[a3,if_neg (by rw[aa];simp),if_neg (by rintro(e|e);exact e (T.trans d.1);exact e d.2)]
   have a6:y.bF=dF (stepS y.s j) (stepJ y.s j):=by rw[ac,if_neg (by rw[aa];simp),if_neg (by rintro(e|e);exact e (T.trans d.1);exact e d.2)]
   have a0:y.eP=decide (dF (stepS y.s j) (stepJ y.s j)=0):=by rw[ag,if_neg (by rw[aa];simp),if_neg (by rintro(e|e);exact e (T.trans d.1);exact e d.2)]
   have av:dF (stepS y.s j) (stepJ y.s j)≠0->(dY (stepS y.s j) (stepJ y.s j)).stage=5:=λg=>by
    have h2:=d.1;rw[<- af] at h2;obtain⟨_,F⟩:=DW (s:=stepS y.s j) d.2 h2;rw[F] at g;rw[KD d.2 h2 g];rfl
   have ai:χ (dF (stepS y.s j) (stepJ y.s j)≠0->decide ((dY (stepS y.s j) (stepJ y.s j)).stage<4)=false):=λg=>decide_eq_false (by rw[av g];decide)
   have aw:χ (decide ((mF (dY (stepS y.s j) (stepJ y.s j)) true).stage<4)=false):=decide_eq_false (by show ¬(4:Int)<4;decide)
   have a2:χ (∀ W:ω,dF (stepS y.s j) (stepJ y.s j)=0->ay c Y y (({y with s:=dQ (stepS y.s j) (stepJ y.s j),j:=S (mF (dY (stepS y.s j) (stepJ y.s j)) true)}:YV).aA (aj y.kd.root)) w W->ay c Y y y.step w W):=λW g hd=>by
    rw[B,if_neg (by rw[g];simp)];refine hd.re ?_ ?_ ?_ ?_ ?_
    all_goals (unfold YV.aA;split<;>rfl)
   have a1:χ (∀ W:ω,dF (stepS y.s j) (stepJ y.s j)≠0->ay c Y y ((y.t2 j).aA (aj y.kd.root)) w W->ay c Y y y.step w W):=λW g hd=>by
    rw[B,if_pos g];exact hd
   rw[a6,a0];rw[aa,aJ] at v;clear a3 ac ag B a6 a0 av h D a l hg U T hr am jl jk af an ae d aa hT;have X:=ah (λW f=>a7 (y.t2 j) W f rfl);have ap:=ah (λW f=>a7 ({y with s:=dQ (stepS y.s j) (stepJ y.s j),j:=S (mF (dY (stepS y.s j) (stepJ y.s j)) true)}:YV) W f rfl);have R:=ah (λW=>a4 (y.t2 j) W rfl);have ao:=ah (λW=>a4 ({y with s:=dQ (stepS y.s j) (stepJ y.s j),j:=S (mF (dY (stepS y.s j) (stepJ y.s j)) true)}:YV) W rfl);have n:=ah (λW=>Q (y.t2 j) _ W rfl);have a9:=ah (λW=>Q ({y with s:=dQ (stepS y.s j) (stepJ y.s j),j:=S (mF (dY (stepS y.s j) (stepJ y.s j)) true)}:YV) _ W rfl);rw[aw.out] at a9;clear a7 a4 Q aw;generalize y.step=zf at a1 a2 |-;generalize (y.t2 j)=z2 at a5 X R n a1;generalize ({y with s:=dQ (stepS y.s j) (stepJ y.s j),j:=S (mF (dY (stepS y.s j) (stepJ y.s j)) true)}:YV)=z3 at a5 ap ao a9 a2;generalize (y.t1 j)=z1 at v r a5;generalize decide ((dY (stepS y.s j) (stepJ y.s j)).stage<4)=dg at n ai;generalize dF (stepS y.s j) (stepJ y.s j)=SF at a5 ai a1 a2 |-;generalize (stepJ y.s j).state=st at r g2;generalize (stepJ y.s j).file=fl at r;generalize S4.cnt (stepJ y.s j).x 64=ct at r;generalize eP y.s j=b1 at v;go_enter func63,ntmps63;go_wp2_with fail;refine A.mono ?_;rintro e w' ⟨rfl,b⟩;have i:=b.symm;subst i;clear b A;go_wp2_with fail
   refine v.mono ?_;rintro e w1 ⟨rfl,G⟩;have E:=ah (r _ G);clear G v r;go_wp2_with fail;refine E.mono ?_;rintro e w2 ⟨rfl,t⟩;have ar:=ah (a5 _ (t (.cells #[j.kind,fl,st,(ct:Int)] 120)));clear t E a5;go_wp2_with fail;refine ar.mono ?_;rintro e w3 (⟨g,rfl,M⟩|⟨g,rfl,M⟩)
   .have q:=ah (n _ M);rw[ai.out g] at q;have P:=ah M;clear M ar n a9 a2 ap ao ai;go_wp2_with fail;refine q.mono ?_;rintro e w' ⟨rfl,b⟩;have i:=b.symm;subst i;clear b q;have ax:=R _ P;have K:=ah (λf a=>X _ f P a);clear P R X;go_wp2_with fail;refine(N _).mono ?_;rintro e w5 ⟨rfl,L⟩;have J:=ah (K _ L);clear L K N;go_wp2_with fail;refine J.mono ?_;rintro e w6 ⟨rfl,H⟩;have V:=ah (a1 _ g H);clear H J a1;go_wp2;go_ret2;exact⟨by rw[decide_eq_false g];rfl,V⟩
   .have q:=ah (a9 _ M);have P:=ah M;clear M ar n a9 a1 X R ai;go_wp2_with fail;refine q.mono ?_;rintro e w' ⟨rfl,b⟩;have i:=b.symm;subst i;clear b q;have ax:=ao _ P;have K:=ah (λf a=>ap _ f P a);clear P ao ap;go_wp2_with fail;refine(N _).mono ?_;rintro e w5 ⟨rfl,L⟩;have J:=ah (K _ L);clear L K N;go_wp2_with fail;refine J.mono ?_;rintro e w6 ⟨rfl,H⟩;have V:=ah (a2 _ g H);clear H J a2;go_wp2;go_ret2;exact⟨by rw[decide_eq_true g,g,aJ];rfl,V⟩
  .have ab:y.kd.kind≠2\/(stepJ y.s j).state≠3:=by
    by_cases e:j.kind=2
    .exact .inr λF=>d ⟨e,F⟩
    .exact .inl λF=>e (T.symm.trans F)
   have a6:y.bF=bF y.s j:=by
    rw[ac];by_cases e:bF y.s j=0
    .rw[if_neg (λh=>h e),if_pos ab,e]
    .rw[if_pos e]
   have a0:y.eP=eP y.s j:=by
    rw[ag];by_cases e:bF y.s j=0
    .rw[if_neg (λh=>h e),if_pos ab]
    .rw[if_pos e,XU e]
   have Z:(j.kind==2&&(stepJ y.s j).state==3)=false:=by
    cases ha:(j.kind==2) with
    | false=>rfl
    | true =>
     have:¬(stepJ y.s j).state=3:=λe=>d ⟨by simpa using ha,e⟩
     simpa using this
   rw[a6,a0];by_cases al:(stepJ y.s j).stage<4
   .have B:y.step=(y.t1 j):=by
     rw[a3];by_cases e:bF y.s j=0
     .rw[if_neg (λh=>h e),if_pos ab]
     .rw[if_pos e,if_neg (by omega)]
    have n:=ah (λW=>Q (y.t1 j) _ W rfl);rw[decide_eq_true al] at n;rw[B];clear a3 ac ag B a6 a0 h D a l hg U T hr am jl jk af an ae hT al ab Q a7 a4 N;generalize (y.t1 j)=z1 at v r n |-;generalize eP y.s j=b1 at *
    generalize erV (bF y.s j)=E1 at *
    generalize (stepJ y.s j).state=st at *
    generalize (stepJ y.s j).file=fl at *
    generalize S4.cnt (stepJ y.s j).x 64=ct at *
    go_enter func63,ntmps63;go_wp2_with fail;refine A.mono ?_;rintro e w' ⟨rfl,b⟩;have i:=b.symm;subst i;clear b A;go_wp2_with fail;refine v.mono ?_;rintro e w1 ⟨rfl,G⟩;have E:=ah (r _ G);clear G v r;go_wp2_with fail;refine E.mono ?_;rintro e w2 ⟨rfl,ad⟩;have t:=ad (.cells #[j.kind,fl,st,(ct:Int)] 120);clear ad;have q:=ah (n _ t);have a8:=ah t;clear t E n
    have aq:((j.kind==2)=false)\/((j.kind==2)=true/\(st==3)=false):=by
     cases ha:(j.kind==2) with
     | false=>exact .inl rfl
     | true=>rw[ha] at Z;exact .inr ⟨rfl,by simpa using Z⟩
    clear Z d;rcases aq with g1|⟨g1,g2⟩
    all_goals
     go_wp2_with fail;refine q.mono ?_;rintro e w' ⟨rfl,b⟩;have i:=b.symm;subst i;clear b q;go_wp2;go_ret2;exact⟨rfl,a8⟩
   .have h5:(stepJ y.s j).stage=5/\bF y.s j≠0:=by
     rcases XW (s:=y.s) hg with e|e
     .exact absurd e al
     .exact e
    have B:y.step=(y.t1 j).aA (aj y.kd.root):=by
     rw[a3,if_pos h5.2,if_pos h5.1]
    have n:=ah (λW=>Q (y.t1 j) _ W rfl);rw[decide_eq_false al] at *
    have X:=ah (λW f=>a7 (y.t1 j) W f rfl);have R:=ah (λW=>a4 (y.t1 j) W rfl);rw[B];clear a3 ac ag B a6 a0 h D a l hg U T hr am jl jk af an ae hT al ab Q a7 a4 h5;generalize (y.t1 j)=z1 at *
    generalize eP y.s j=b1 at *
    generalize erV (bF y.s j)=E1 at *
    generalize (stepJ y.s j).state=st at *
    generalize (stepJ y.s j).file=fl at *
    generalize S4.cnt (stepJ y.s j).x 64=ct at *
    go_enter func63,ntmps63;go_wp2_with fail;refine A.mono ?_;rintro e w' ⟨rfl,b⟩;have i:=b.symm;subst i;clear b A;go_wp2_with fail;refine v.mono ?_;rintro e w1 ⟨rfl,G⟩;have E:=ah (r _ G);clear G v r;go_wp2_with fail;refine E.mono ?_;rintro e w2 ⟨rfl,ad⟩;have t:=ad (.cells #[j.kind,fl,st,(ct:Int)] 120);clear ad;have q:=ah (n _ t);have a8:=ah t;clear t E n
    have aq:((j.kind==2)=false)\/((j.kind==2)=true/\(st==3)=false):=by
     cases ha:(j.kind==2) with
     | false=>exact .inl rfl
     | true=>rw[ha] at Z;exact .inr ⟨rfl,by simpa using Z⟩
    clear Z d;rcases aq with g1|⟨g1,g2⟩
    all_goals
     go_wp2_with fail;refine q.mono ?_;rintro e w' ⟨rfl,b⟩;have i:=b.symm;subst i;clear b q;have ax:=R _ a8;have K:=ah (λf a=>X _ f a8 a);clear a8 R X;go_wp2_with fail;refine(N _).mono ?_;rintro e w5 ⟨rfl,L⟩;have J:=ah (K _ L);clear L K N;go_wp2_with fail;refine J.mono ?_;rintro e w6 ⟨rfl,H⟩;have V:=ah H;clear H J;go_wp2;go_ret2;exact⟨rfl,V⟩
 .rw[qX a] at *
  have k:y.bF=4:=by
   unfold YV.bF
   cases l:y.j with
   | none=>rfl
   | some j=>show(if 4<=j.stage then _ else _)=_;rw[if_pos (mY a j l)]
  have F:y.eP=false:=by
   unfold YV.eP
   cases l:y.j with
   | none=>rfl
   | some j=>show(if 4<=j.stage then _ else _)=_;rw[if_pos (mY a j l)]
  have e3:y.step=y:=by
   unfold YV.step
   cases l:y.j with
   | none=>rfl
   | some j=>show(if 4<=j.stage then _ else _)=_;rw[if_pos (mY a j l)]
  have V:χ (ay c Y y y w w):=ay.refl h;rw[k,F,e3,bC (by decide)];clear h D a k F e3 hT;go_enter func63,ntmps63;go_wp2_with fail;refine A.mono ?_;rintro e w' ⟨rfl,b⟩;have i:=b.symm;subst i;clear b A;go_wp2;go_ret2;exact⟨rfl,V⟩
def aC.started{w t q d m C Y n y z}{b:Jh}{j}(h:aC w d Y y)(D:β w w t)(l:PJ t d b.jp b.lp b.bp b.a b.cap Y.xs y.s m C j)
  (E:w<=b.jp/\w<=b.lp/\w<=b.bp/\∀ g o,b.a=some ⟨g,o,O⟩->w<=g) (I:aC q d n z) (f:Moved (fpY d Y y) t (fpY d n z) q) :
  aC (q.setCell ⟨d,12,O⟩ b.jp) d {n with jb:=b} {z with j:=some j}/\Moved (fpY d Y y) w (fpY d {n with jb:=b} {z with j:=some j}) (q.setCell ⟨d,12,O⟩ b.jp):=by
 obtain⟨G,J,B,r⟩:=E;obtain⟨F,H,L⟩:=l.job.lts;have i:∀ k,w.heap.size<=k->¬fpY d Y y k:=λk M e=>by have:=h.gG e;omega
 have x  := l.ok.ne
 have K:Apart b.a (fpY d {n with jb:=b} {z with j:=some j}):=λg o e c=>by
  have u:=l.nums.lt x e;rcases c with c|c|c|⟨_,c⟩
  .exact f.out u (i g (r g o e)) (.inl c)
  .exact f.out u (i g (r g o e)) (.inr (.inl c))
  .exact f.out u (i g (r g o e)) (.inr (.inr (.inl c)))
  .exact l.ap g o e (.inr c)
 refine⟨I.zM (l.job.keep (f.block F (i _ G)) (f.block H (i _ J)) (f.block L (i _ B))) (l.nums.moved f (λg o e=>i g (r g o e))) x l.cap K,?_⟩;have v  := (Moved.of_below D).trans f;refine⟨v.kept.trans ((Kept.setCell (S:=λk=>k=d)  (Kept.refl _ q) (.inl rfl) _).mono ?_),λk A=>?_⟩
 .rintro k _ rfl;exact .inl rfl
 .rcases A with c|c|c|⟨_,c⟩
  .exact .inl (.inl c)
  .exact v.new k (.inr (.inl c))
  .exact v.new k (.inr (.inr (.inl c)))
  .refine .inr ?_;rcases c with e|e|e
   .simp_all
   .simp_all
   .simp_all
def ZX{l C m Y y}(kind file n k:Int)(w)(h:aC w l Y y)(K:YOk y C m)(hm:m<1000000000) :
  κ prog 51 #[l,kind,file,n,k] w λe w'=>e=.returned (erV (y.iE (gZ y kind file n k)))/\qQ l Y y (y.start (gZ y kind file n k)) w w':=by
 have D:=ah (qh w h);have T:=ah λW (r:β w w W)=>qQ.of_below h r
 by_cases r:y.busy=true
 .rw[qY r] at D;have R:y.lu (gZ y kind file n k)=8:=by unfold YV.lu;rw[if_pos r]
  have i:y.iE (gZ y kind file n k)=8:=by unfold YV.iE;rw[R];rfl
  have f:y.start (gZ y kind file n k)=y:=by unfold YV.start;rw[R];rfl
  have B:=ah (T w (ja0 _ _));rw[i,f,bC (by decide)];clear h K r R i f T;go_enter func51,ntmps51;go_wp2_with fail;refine cSt D ?_;clear D;go_wp2;go_ret;exact⟨rfl,B⟩
 .rw[qX r] at D;by_cases N:kind=0
  .have R:y.lu (gZ y kind file n k)=1:=by unfold YV.lu;rw[if_neg r,if_pos (show(gZ y kind file n k).kind=0 from N)]
   have i:y.iE (gZ y kind file n k)=1:=by unfold YV.iE;rw[R];rfl
   have f:y.start (gZ y kind file n k)=y:=by unfold YV.start;rw[R];rfl
   have B:=ah (T w (ja0 _ _));have g1:(kind==0)=true:=by simpa using N
   rw[i,f,eX];clear h K r R i f T N;go_enter func51,ntmps51;go_wp2_with fail;refine cSt D ?_;clear D;go_wp2;go_ret;exact⟨rfl,B⟩
  .have g1:(kind==0)=false:=by simpa using N
   obtain⟨c0,c5,c6,a9,a6,fz⟩:=h.blk.cells;obtain⟨d,hd⟩:∃ d:aP,d=gZ y kind file n k:=⟨_,rfl⟩;have Z:d.root=y.kd.root:=by rw[hd];rfl
   have H:χ (β w w (w.alloc (bI d))):=(ja0 _ _).alloc (ja1 _) _;have a5:=ah (uM d w);have V:=ah (qw d w);have HI:χ ((prog.info? 82).map (·.size)=S ([.int .i64 d.root,.int .i64 d.kind,.int .i64 d.file,.int .i64 d.rate,.int .i64 d.burst]:List υ).length):=vG;have a0:χ (∀ W:ω,κ prog 124 #[.agg #[d.root,d.kind,d.file,d.rate,d.burst]] W λe w'=>e=.returned (erV d.kv.fault)/\β W W w'):=λW=>AA d.root d.kind d.file d.rate d.burst W
   have t:y.lu d=if d.kv.fault=0 then newF y.s d else d.kv.fault:=by unfold YV.lu;rw[if_neg r,if_neg (by rw[hd];exact N)]
   rw[<- hd];by_cases G:d.kv.fault=0
   .rw[if_pos G] at t;rw[G,aJ] at a0;by_cases J:newF y.s d=0
    .have i:y.iE d=y.aN:=by unfold YV.iE;rw[if_pos (t.trans J)]
     have f:y.start d=if y.aN=0 then {y.aA d with j:=S ((iw y.s d).at 1)} else y.aA d:=by unfold YV.start;rw[if_pos (t.trans J)]
     have a3:χ (∀ W:ω,β w w W->κ prog 125 #[.pointer (S ⟨l,6,O⟩),.agg #[d.root,d.kind,d.file,d.rate,d.burst]] W λe w'=>∃(b:Jh) (z:Nat),e=.returned (.tuple #[b.jp,.nilIface])/\PJ w' l b.jp b.lp b.bp b.a b.cap Y.xs y.s m z (iw y.s d)/\(w.heap.size<=b.jp/\w.heap.size<=b.lp/\w.heap.size<=b.bp/\∀ g o,b.a=S ⟨g,o,O⟩->w.heap.size<=g)/\β W W w'):=λW c=>by
      refine(IQ d W ((h.shelf K.s).below c) J).mono ?_;rintro e w' ⟨jp,lp,bp,z,a,cap,rfl,h1,⟨q1,q2,q3,q4⟩,h3,_⟩;have hs:=c.size;exact⟨⟨jp,lp,bp,a,cap⟩,z,rfl,h1,⟨ja4 hs q1,ja4 hs q2,ja4 hs q3,λg o e=>ja4 hs (q4 g o e)⟩,h3⟩
     have a4:=ah λW (c:β w w W)=>vJ d W (h.below c) K.top G hm
     obtain⟨s1,s2,s3,s4⟩:=nY y d
     have aa:χ (∀(X I:ω) (b:Jh) (z:Nat),β w w X->PJ X l b.jp b.lp b.bp b.a b.cap Y.xs y.s m z (iw y.s d)->(w.heap.size<=b.jp/\w.heap.size<=b.lp/\w.heap.size<=b.bp/\∀ g o,b.a=S ⟨g,o,O⟩->w.heap.size<=g)->ay l Y y (y.aA d) X I ->
        (∃ v,I.cell? ⟨l,12,O⟩=S v)/\I.frozen? ⟨l,12,O⟩=false/\κ prog 126 #[b.jp,false] (I.setCell ⟨l,12,O⟩ b.jp) λe w'=>e=.returned .nilIface/\qQ l Y y {y.aA d with j:=S ((iw y.s d).at 1)} w w'):=λX I b z ab E L ⟨Y1,i,h1,h3⟩=>by
      obtain⟨_,_,_,_,af,qf⟩:=h1.blk.cells;obtain⟨h5,h6⟩:=h.started ab E L h1 h3;refine⟨⟨_,af⟩,qf 12,?_⟩;have ae:=L9 (m:=m) (C:=z) false _ h5 (by show(y.aA d).s.ok m;rw[s1];exact K.s) rfl (by show JOk (y.aA d).s z _;rw[s1];exact E.ok);have ep:fD (iw y.s d) false=0:=rfl;rw[ep,aJ] at ae;refine cEq ae λw' hd=>?_
      refine⟨rfl,?_⟩;obtain⟨Y2,f,h7,h8⟩:=hd;refine⟨Y2,.inr (λg o e=>?_),h7,h6.trans h8⟩;have e3:b.a=S ⟨g,o,O⟩:=by rw[f] at e;exact e
      have q1:=E.nums.lt E.ok.ne e3;have q2:=h3.size;have q3:=h8.size;have q4:(I.setCell ⟨l,12,O⟩ b.jp).heap.size=I.heap.size:=by simp[World.setCell]
      exact⟨L.2.2.2 g o e3,by omega⟩
     rw[i,f];unfold bI at H a5 V;rw[<- Z] at a9;have x:kind=d.kind:=by rw[hd];rfl
     have P:file=d.file:=by rw[hd];rfl
     have M:n=d.rate:=by rw[hd];rfl
     have Q:k=d.burst:=by rw[hd];rfl
     rw[x,P,M,Q];rw[x] at g1;have ac:=ah λX I (ab:β w w X) (hd:ay l Y y (y.aA d) X I)=>(ay.from ab hd).out
     clear h K r i f t G c0 c5 c6 a6 fz hd N Z x P M Q T s1 s2 s3 s4 J;generalize ({y.aA d with j:=S ((iw y.s d).at 1)}:YV)=z2 at aa |-;generalize y.aA d=z1 at a4 aa ac |-;generalize y.aN=F at *
     by_cases hF:F=0
     .rw[if_pos hF,hF,aJ];rw[hF,aJ] at a4;go_enter func51,ntmps51;go_wp2_with fail;refine cSt D ?_;go_wp2_with fail;refine cEq (a0 _) λw2 c=>?_
      have a2:=ah (H.trans (c.mono H.size));have a1:=ah (V _ c.drew);have u:=ah c.drew;go_wp2;have A:χ (β w w w2.drew):=a2.drew
      go_region_held3 (λW=>W.cell? ⟨w,0,O⟩=S (d.root:υ)/\W.cell? ⟨w,1,O⟩=S (d.kind:υ)/\W.cell? ⟨w,2,O⟩=S (d.file:υ)/\W.cell? ⟨w,3,O⟩=S (d.rate:υ)/\W.cell? ⟨w,4,O⟩=S (d.burst:υ))
        (first|(exact a1)|assumption)
        (first
          | (go_at_call 125;refine(a3 _ A).mono ?_;rintro e w3 ⟨b,z,rfl,E,L,q⟩;have U:=ah (A.trans (q.mono A.size));have a7:=ah (a5 _ (u.trans (q.mono u.size)));have ad:=ah E;have ag:=ah L;have ai:=V _ (u.trans (q.mono u.size));clear q E L))
      have HK:=ah (a4 _ U);go_wp2_with (refine wpList_load_mid (by rfl) 82 (.tmp 11) (by rfl) w.heap.size 0 (by rfl) [d.root,d.kind,d.file,d.rate,d.burst] _ a7 underlying82 rfl HI ?_)
      refine cEq HK λw4 a8=>?_
      obtain⟨⟨v,af⟩,qf,hp⟩:=aa w3 w4 b z U ad ag a8;have HP:=ah hp;go_wp2_with fail;refine cHd HP λw5 B=>?_
      go_wp2;go_ret;exact⟨rfl,B⟩
     .rw[if_neg hF];rw[bC hF] at *
      go_enter func51,ntmps51;go_wp2_with fail;refine cSt D ?_;go_wp2_with fail;refine cEq (a0 _) λw2 c=>?_
      have a2:=ah (H.trans (c.mono H.size));have a1:=ah (V _ c.drew);have u:=ah c.drew;go_wp2;have A:χ (β w w w2.drew):=a2.drew
      go_region_held3 (λW=>W.cell? ⟨w,0,O⟩=S (d.root:υ)/\W.cell? ⟨w,1,O⟩=S (d.kind:υ)/\W.cell? ⟨w,2,O⟩=S (d.file:υ)/\W.cell? ⟨w,3,O⟩=S (d.rate:υ)/\W.cell? ⟨w,4,O⟩=S (d.burst:υ))
        (first|(exact a1)|assumption)
        (first
          | (go_at_call 125;refine(a3 _ A).mono ?_;rintro e w3 ⟨b,z,rfl,E,L,q⟩;have U:=ah (A.trans (q.mono A.size));have a7:=ah (a5 _ (u.trans (q.mono u.size)));have ad:=ah E;have ag:=ah L;have ai:=V _ (u.trans (q.mono u.size));clear q E L))
      have HK:=ah (a4 _ U);go_wp2_with (refine wpList_load_mid (by rfl) 82 (.tmp 11) (by rfl) w.heap.size 0 (by rfl) [d.root,d.kind,d.file,d.rate,d.burst] _ a7 underlying82 rfl HI ?_)
      refine cEq HK λw4 a8=>?_
      have B:=ah (ac _ _ U a8);go_wp2;go_ret;exact⟨rfl,B⟩
    .have i:y.iE d=newF y.s d:=by unfold YV.iE;rw[if_neg (λe=>J (t.symm.trans e)),t]
     have f:y.start d=y:=by unfold YV.start;rw[if_neg (λe=>J (t.symm.trans e))]
     have a3:χ (∀ W:ω,β w w W->κ prog 125 #[.pointer (S ⟨l,6,O⟩),.agg #[d.root,d.kind,d.file,d.rate,d.burst]] W λe w'=>e=.returned (.tuple #[.pointer O,.iface 96 (.int .i64 (newF y.s d))])/\β W W w'):=λW c=>by
      have:=IL d W ((h.shelf K.s).below c) J
      rw[bC J] at *;exact this
     rw[i,f,bC J];unfold bI at *
     rw[<- Z] at a9;have x:kind=d.kind:=by rw[hd];rfl
     have P:file=d.file:=by rw[hd];rfl
     have M:n=d.rate:=by rw[hd];rfl
     have Q:k=d.burst:=by rw[hd];rfl
     rw[x,P,M,Q];rw[x] at g1;clear h K r i f t G c0 c5 c6 a6 fz hd N Z x P M Q;generalize newF y.s d=nf at *
     go_enter func51,ntmps51;go_wp2_with fail;refine cSt D ?_;go_wp2_with fail;refine cEq (a0 _) λw2 c=>?_
     have a2:=ah (H.trans (c.mono H.size));have a1:=ah (V _ c.drew);have u:=ah c.drew;go_wp2;have A:χ (β w w w2.drew):=a2.drew
     go_region_held3 (λW=>W.cell? ⟨w,0,O⟩=S (d.root:υ)/\W.cell? ⟨w,1,O⟩=S (d.kind:υ)/\W.cell? ⟨w,2,O⟩=S (d.file:υ)/\W.cell? ⟨w,3,O⟩=S (d.rate:υ)/\W.cell? ⟨w,4,O⟩=S (d.burst:υ))
      (first|(exact a1)|assumption)
      (first
        | (go_at_call 125;refine cEq (a3 _ A) λw3 q=>?_;have U:=ah (A.trans (q.mono A.size));have ai:=V _ (u.trans (q.mono u.size));clear q))
     have B:=ah (T _ U);go_wp2;go_ret;exact⟨rfl,B⟩
   .rw[if_neg G] at *
    have i:y.iE d=d.kv.fault:=by unfold YV.iE;rw[if_neg (λe=>G (t.symm.trans e)),t]
    have f:y.start d=y:=by unfold YV.start;rw[if_neg (λe=>G (t.symm.trans e))]
    rw[bC G] at *
    rw[i,f,bC G];unfold bI at *
    rw[<- Z] at a9;have x:kind=d.kind:=by rw[hd];rfl
    have P:file=d.file:=by rw[hd];rfl
    have M:n=d.rate:=by rw[hd];rfl
    have Q:k=d.burst:=by rw[hd];rfl
    rw[x,P,M,Q];rw[x] at g1;clear h K r i f t c0 c5 c6 a6 fz hd N Z x P M Q HI a5;generalize d.kv.fault=ff at *
    go_enter func51,ntmps51;go_wp2_with fail;refine cSt D ?_;go_wp2_with fail;refine cEq (a0 _) λw2 c=>?_
    have B:=ah (T _ (H.trans (c.mono H.size)));go_wp2;go_ret;exact⟨rfl,B⟩
def Qo(a b c:Int)(w):(Instr.field 67 (.agg #[a,b,c]) 2).run prog w=.ok (.int .i64 c) w:=by kernel_rfl
def qO(w:ω)(c m:Nat)(Y:Yh)(s:SV)(d:aP)(v:υ)(w':ω):Prop:=β w w w' /\
 ((¬(¬(d.kind=2/\s.back d.root=d.file)/\newF s d=0)/\v=.pointer O) \/
  (¬(d.kind=2/\s.back d.root=d.file)/\newF s d=0/\∃(b:Jh) (C:Nat),v=.pointer (S ⟨b.jp,0,O⟩)/\PJ w' c b.jp b.lp b.bp b.a b.cap Y.xs s m C (iw s d)/\(w.heap.size<=b.jp/\w.heap.size<=b.lp/\w.heap.size<=b.bp/\∀ g o,b.a=S ⟨g,o,O⟩->w.heap.size<=g)))
def ZK{j m rk:Nat}{Y y}(kind file i f:Int)(w)(h:aC w j Y y)(hs:y.s.ok m)(hr:∃ v,y.s.file (rk:Int)=S v) :
    κ prog 78 #[j,.agg #[(rk:Int),kind,file,i,f]] w λe w'=>∃ v,e=.returned v/\qO w j m Y y.s ⟨(rk:Int),kind,file,i,f⟩ v w':=by
  obtain⟨v,hv⟩:=hr;obtain⟨r0,r5,a3⟩:=SV.eG hv;have ac:((rk:Int)).toNat=rk:=by omega
  rw[ac] at a3;have ab:y.s.back (rk:Int)=v.h.b:=by unfold SV.back;rw[hv]
  have X:χ (β w w (w.alloc (bI ⟨(rk:Int),kind,file,i,f⟩))):=(ja0 _ _).alloc (ja1 _) _;have ai:=ah (uM ⟨(rk:Int),kind,file,i,f⟩ w);have t:=ah (qw ⟨(rk:Int),kind,file,i,f⟩ w)
  have T:χ (∀ W:ω,β w w W->W.cell? ⟨j,6+rk,O⟩=S ((Y.xs rk).p:υ)):=λW n=>by
    have:=(h.below n).blk.cells.2.2.1 rk (by omega)
    rw[a3] at *
    exact this
  have a9:=ah λW (n:β w w W)=>tH W ((h.img _ v (by omega) a3).below n)
  have a6:χ (kind=2/\v.h.b=file->∀ W:ω,β w w W->qO w j m Y y.s ⟨(rk:Int),kind,file,i,f⟩ (.pointer O) W):=λe W n=>⟨n,.inl ⟨λe2=>e2.1 ⟨e.1,by show y.s.back (rk:Int)=file;rw[ab];exact e.2⟩,rfl⟩⟩
  have a1:χ (¬(kind=2/\v.h.b=file)->∀ W:ω,β w w W->κ prog 125 #[.pointer (S ⟨j,6,O⟩),.agg #[(rk:Int),kind,file,i,f]] W λe w'=>β W W w'/\∃(Z:Option Addr) (F:Int),e=.returned (.tuple #[.pointer Z,erV F])/\(F≠0->qO w j m Y y.s ⟨(rk:Int),kind,file,i,f⟩ (.pointer O) w')/\(F=0->qO w j m Y y.s ⟨(rk:Int),kind,file,i,f⟩ (.pointer Z) w')):=λaf W l=>by
    have hd:¬(kind=2/\y.s.back (rk:Int)=file):=by rw[ab];exact af
    by_cases P:newF y.s ⟨(rk:Int),kind,file,i,f⟩=0
    . refine(IQ ⟨(rk:Int),kind,file,i,f⟩ W ((h.shelf hs).below l) P).mono ?_;rintro e w' ⟨jp,lp,bp,C',a,cap,rfl,h1,⟨z,q2,A,C⟩,M,_⟩;have L:=l.size;refine⟨M,S ⟨jp,0,O⟩,0,by rw[aJ],λe=>absurd rfl e,λ_=>⟨l.trans (M.mono L),.inr ⟨hd,P,⟨jp,lp,bp,a,cap⟩,C',rfl,h1,ja4 L z,ja4 L q2,ja4 L A,λg o e=>ja4 L (C g o e)⟩⟩⟩
    . refine cEq (IL ⟨(rk:Int),kind,file,i,f⟩ W ((h.shelf hs).below l) P) λw' M=>?_
      exact⟨M,O,_,rfl,λ_=>⟨l.trans (M.mono l.size),.inl ⟨λe=>P e.2,rfl⟩⟩,λe=>absurd e P⟩
  unfold bI at *
  simp only at *
  have f2:=Qo v.h.c v.h.p v.h.b;generalize v.h.c=hc at *
  generalize v.h.p=hp at *
  generalize v.h.b=n at *
  generalize (Y.xs rk).p=xp at *
  have J:χ (∀ W V,qO w j m Y y.s ⟨(rk:Int),kind,file,i,f⟩ V W->∃ v,Ending.returned V=.returned v/\qO w j m Y y.s ⟨(rk:Int),kind,file,i,f⟩ v W):=λW V hf=>⟨V,rfl,hf⟩
  generalize qO w j m Y y.s ⟨(rk:Int),kind,file,i,f⟩=FP at *
  by_cases H:kind=2
  . have g1:(kind==2)=true:=by simpa using H
    by_cases G:n=file
    . have g2:(file==n)=true:=by simpa using G.symm
      have ag:=ah (a6 ⟨H,G⟩);clear H G a6 a1;go_enter func78,ntmps78;go_wp2;generalize aa:w.alloc (.cells #[(rk:Int),kind,file,i,f] 82)=d at *
      have q:χ (β w w d.drew):=X.drew;have r:χ (β d d d.drew):=(ja0 _ _).drew;obtain⟨N,z,q2,A,C⟩:=t _ r;have Q:=T _ q;have a0:χ (d.drew.cell? ⟨w,0,O⟩=S (.int .i64 (rk:Int))/\d.drew.cell? ⟨w,1,O⟩=S (kind:υ)/\d.drew.cell? ⟨w,2,O⟩=S (file:υ)/\d.drew.cell? ⟨w,3,O⟩=S (i:υ)/\d.drew.cell? ⟨w,4,O⟩=S (f:υ)/\d.drew.cell? ⟨j,6+rk,O⟩=S (xp:υ)):=⟨N,z,q2,A,C,Q⟩
      go_region_held3 (λW=>W.cell? ⟨w,0,O⟩=S (.int .i64 (rk:Int))/\W.cell? ⟨w,1,O⟩=S (kind:υ)/\W.cell? ⟨w,2,O⟩=S (file:υ)/\W.cell? ⟨w,3,O⟩=S (i:υ)/\W.cell? ⟨w,4,O⟩=S (f:υ)/\W.cell? ⟨j,6+rk,O⟩=S (xp:υ))
        (first|(exact a0)|assumption)
        (first
          | (go_at_call 95;refine cEq (a9 _ q) λk l=>?_;have I:=ah (r.trans (l.mono r.size));have D:=ah (q.trans (l.mono q.size));have ad:k.cell? ⟨w,0,O⟩=S (.int .i64 (rk:Int))/\k.cell? ⟨w,1,O⟩=S (kind:υ)/\k.cell? ⟨w,2,O⟩=S (file:υ)/\k.cell? ⟨w,3,O⟩=S (i:υ)/\k.cell? ⟨w,4,O⟩=S (f:υ)/\k.cell? ⟨j,6+rk,O⟩=S (xp:υ):=by {obtain⟨t0,t1,t2,t3,t4⟩:=t _ I;exact⟨t0,t1,t2,t3,t4,T _ D⟩};clear l))
      have u:=ah (J _ _ (ag _ D));go_wp2;go_ret;exact u
    . have g2:(file==n)=false:=by simpa using λe:file=n=>G e.symm
      have a2:χ (¬(kind=2/\n=file)):=λe=>G e.2
      clear H G a6;go_enter func78,ntmps78;go_wp2;generalize aa:w.alloc (.cells #[(rk:Int),kind,file,i,f] 82)=d at *
      have q:χ (β w w d.drew):=X.drew;have r:χ (β d d d.drew):=(ja0 _ _).drew;obtain⟨N,z,q2,A,C⟩:=t _ r;have Q:=T _ q;have a0:χ (d.drew.cell? ⟨w,0,O⟩=S (.int .i64 (rk:Int))/\d.drew.cell? ⟨w,1,O⟩=S (kind:υ)/\d.drew.cell? ⟨w,2,O⟩=S (file:υ)/\d.drew.cell? ⟨w,3,O⟩=S (i:υ)/\d.drew.cell? ⟨w,4,O⟩=S (f:υ)/\d.drew.cell? ⟨j,6+rk,O⟩=S (xp:υ)):=⟨N,z,q2,A,C,Q⟩
      go_region_held3 (λW=>W.cell? ⟨w,0,O⟩=S (.int .i64 (rk:Int))/\W.cell? ⟨w,1,O⟩=S (kind:υ)/\W.cell? ⟨w,2,O⟩=S (file:υ)/\W.cell? ⟨w,3,O⟩=S (i:υ)/\W.cell? ⟨w,4,O⟩=S (f:υ)/\W.cell? ⟨j,6+rk,O⟩=S (xp:υ))
        (first|(exact a0)|assumption)
        (first
          | (go_at_call 95;refine cEq (a9 _ q) λk l=>?_;have I:=ah (r.trans (l.mono r.size));have D:=ah (q.trans (l.mono q.size));have ad:k.cell? ⟨w,0,O⟩=S (.int .i64 (rk:Int))/\k.cell? ⟨w,1,O⟩=S (kind:υ)/\k.cell? ⟨w,2,O⟩=S (file:υ)/\k.cell? ⟨w,3,O⟩=S (i:υ)/\k.cell? ⟨w,4,O⟩=S (f:υ)/\k.cell? ⟨j,6+rk,O⟩=S (xp:υ):=by {obtain⟨t0,t1,t2,t3,t4⟩:=t _ I;exact⟨t0,t1,t2,t3,t4,T _ D⟩};clear l))
      have HN:=ah (a1 a2);go_wp2;have a4:χ (β w w k.drew):=D.drew;have B:χ (β d d k.drew):=I.drew;have a7:=ah (t _ B)
      go_region_held3 (λW=>W.cell? ⟨w,0,O⟩=S (.int .i64 (rk:Int))/\W.cell? ⟨w,1,O⟩=S (kind:υ)/\W.cell? ⟨w,2,O⟩=S (file:υ)/\W.cell? ⟨w,3,O⟩=S (i:υ)/\W.cell? ⟨w,4,O⟩=S (f:υ))
        (first|(exact a7)|assumption)
        (first
          | (go_at_call 125;refine(HN _ a4).mono ?_;rintro e w3 ⟨U,Z,F,rfl,R,K⟩;have a5:=ah R;have a8:=ah K;have ae:=t _ (B.trans (U.mono B.size));clear U R K))
      by_cases x:F=0
      . have E:χ (erV F=.nilIface):=by unfold χ;rw[x,aJ]
        rw[E.out];have u:=ah (J _ _ (a8 x));go_wp2;go_ret;exact u
      . have E:χ (erV F=.iface 96 (.int .i64 F)):=bC x;rw[E.out];have u:=ah (J _ _ (a5 x));go_wp2;go_ret;exact u
  . have g1:(kind==2)=false:=by simpa using H
    have a2:χ (¬(kind=2/\n=file)):=λe=>H e.1
    go_enter func78,ntmps78;go_wp2;generalize aa:w.alloc (.cells #[(rk:Int),kind,file,i,f] 82)=d at *
    have q:χ (β w w d.drew):=X.drew;have r:χ (β d d d.drew):=(ja0 _ _).drew;obtain⟨N,z,q2,A,C⟩:=t _ r;have Q:=T _ q;have a0:χ (d.drew.cell? ⟨w,0,O⟩=S (.int .i64 (rk:Int))/\d.drew.cell? ⟨w,1,O⟩=S (kind:υ)/\d.drew.cell? ⟨w,2,O⟩=S (file:υ)/\d.drew.cell? ⟨w,3,O⟩=S (i:υ)/\d.drew.cell? ⟨w,4,O⟩=S (f:υ)/\d.drew.cell? ⟨j,6+rk,O⟩=S (xp:υ)):=⟨N,z,q2,A,C,Q⟩;have p1:d.cell? ⟨w,1,O⟩=S (kind:υ):=z;go_quiet (fail)
    have D:χ (β w w (d.drewN nq)):=below_drewN X _;have I:χ (β d d (d.drewN nq)):=below_drewN (ja0 _ _) _;generalize d.drewN nq=k at *
    have HN:=ah (a1 a2);go_wp2;have a4:χ (β w w k.drew):=D.drew;have B:χ (β d d k.drew):=I.drew;have a7:=ah (t _ B)
    go_region_held3 (λW=>W.cell? ⟨w,0,O⟩=S (.int .i64 (rk:Int))/\W.cell? ⟨w,1,O⟩=S (kind:υ)/\W.cell? ⟨w,2,O⟩=S (file:υ)/\W.cell? ⟨w,3,O⟩=S (i:υ)/\W.cell? ⟨w,4,O⟩=S (f:υ))
      (first|(exact a7)|assumption)
      (first
        | (go_at_call 125;refine(HN _ a4).mono ?_;rintro e w3 ⟨U,Z,F,rfl,R,K⟩;have a5:=ah R;have a8:=ah K;have ae:=t _ (B.trans (U.mono B.size));clear U R K))
    by_cases x:F=0
    . have E:χ (erV F=.nilIface):=by unfold χ;rw[x,aJ]
      rw[E.out];have u:=ah (J _ _ (a8 x));go_wp2;go_ret;exact u
    . have E:χ (erV F=.iface 96 (.int .i64 F)):=bC x;rw[E.out];have u:=ah (J _ _ (a5 x));go_wp2;go_ret;exact u
def Ua{s d}(h:newF s d=0):d.kind≠0:=by
 unfold newF at h;split at h
 .omega
 .split at h
  .cases h
  .split at h
   .cases h
   .rcases EP h with e|e|e<;>omega
def GR{s d}:lZ s d=true↔¬(d.kind=2/\s.back d.root=d.file)/\newF s d=0:=by
 unfold lZ;rw[decide_eq_true_eq];exact⟨λh=>h.2,λh=>⟨Ua h.2,h⟩⟩
def UD{w:ω}{W f c m Y d t v}(I:aC W c Y (yU d t))(r:∀ b,fpY c Y (yU d t) b->w<=b)(T:w.heap.size<=W)(P:Y.jb.a=O)
  (L:qO (W.setCell ⟨c,11,O⟩ (.int .i64 (ak t).root)) c m Y (aO d) (ak t) v f) :
  (∃ u,f.cell? ⟨c,12,O⟩=some u)/\f.frozen? ⟨c,12,O⟩=false/\∃ y,aC (f.setCell ⟨c,12,O⟩ v) c y (jT d t)/\(∀ b,fpY c y (jT d t) b->w<=b)/\(∀ g o,y.jb.a=some ⟨g,o,O⟩->w<=g/\g<(f.setCell ⟨c,12,O⟩ v).heap.size):=by
 obtain⟨B,_⟩:=I.xg (ak t);obtain⟨A,Q⟩:=L;have n:=B.below A;obtain⟨_,_,_,_,J,K⟩:=n.blk.cells;have q:(W.setCell ⟨c,11,O⟩ (.int .i64 (ak t).root)).heap.size=W.heap.size:=by simp[World.setCell]
 refine⟨⟨_,J⟩,K 12,?_⟩;rcases Q with⟨D,rfl⟩|⟨G,F,b,C,rfl,z,i⟩
 .have l  := λe=>D (GR.1 e)
  have s:(jT d t).j=none:=by show(if lZ (aO d) (ak t)=true then _ else O)=O;rw[if_neg l]
  have x:(jT d t).kd.root=(ak t).root:=by show(if lZ (aO d) (ak t)=true then ak t else aj _).root=_;rw[if_neg l];rfl
  obtain⟨M,_⟩:=n.own  (Kept.setCell (S:=λk=>k=c)  (Kept.refl _ f) (.inl rfl) _) (by have:=n.blk.zM Y.jb (.pointer O);exact this);refine⟨Y,M.re rfl rfl rfl s x,λb N=>r b ?_,λg o e=>by rw[P] at e;cases e⟩;rcases N with e|e|e|e
  .exact .inl e
  .exact .inr (.inl e)
  .exact .inr (.inr (.inl e))
  .exact absurd s e.1
 .have l  := GR.2 ⟨G,F⟩;have s:(jT d t).j=some (iw (aO d) (ak t)):=by show(if lZ (aO d) (ak t)=true then some _ else O)=_;rw[if_pos l]
  have x:(jT d t).kd.root=(ak t).root:=by show(if lZ (aO d) (ak t)=true then ak t else aj _).root=_;rw[if_pos l]
  obtain⟨H,V⟩:=B.started A z i n (Moved.of_below (ja0 _ _));refine⟨{Y with jb:=b},H.re rfl rfl rfl s x,λk E=>?_,λg o e=>?_⟩
  .rcases E with e|e|e|e
   .exact r k (.inl e)
   .exact r k (.inr (.inl e))
   .exact r k (.inr (.inr (.inl e)))
   .rcases e.2 with e|e|e
    .have:=i.1;rw[q] at *;rw[e];show w.heap.size<=b.jp;omega
    .have:=i.2.1;rw[q] at *;rw[e];show w.heap.size<=b.lp;omega
    .have:=i.2.2.1;rw[q] at *;rw[e];show w.heap.size<=b.bp;omega
  .have R:=i.2.2.2 g o e;rw[q] at *
   have U:=z.nums.lt z.ok.ne e;have X:(f.setCell ⟨c,12,O⟩ b.jp).heap.size=f.heap.size:=by simp[World.setCell]
   omega
def Di(p:Nat):Obj:=.cells #[.pointer O,.pointer O,.pointer O,.pointer O,.pointer O,p,.pointer O,.pointer O,.pointer O,.pointer O,.pointer O,(0:Int),.pointer O] 74 (0,0)
def YOp.start{w c:ω}{B:Nat}{h d t}(f:β w w c)(g:B<=w)(hd:aS w.heap.size c h t):YOp (c.alloc (Di h.p)) B c 0 0 ⟨λ_=>h,h,λ_=>⟨0,h,0,0,0⟩,wE⟩ d t:=by
 have k:=f.size;refine⟨⟨_,heap_alloc_new c _,rfl,λi a=>(by omega),rfl,λi a=>(by omega),λi _ a=>?_,rfl,rfl⟩,λi v a=>(by omega),λi a=>(by omega),⟨hd.base0.keep λb e=>jap c _ _ (hd.lt b e).2,λ_ _ e=>e⟩,λi j a=>(by omega),λi a=>(by omega),λi a=>(by omega),λb e=>?_,by omega⟩
 .match i,a with
  | 0,_=>rfl
  | 1,_=>rfl
  | 2,_=>rfl
  | 3,_=>rfl
  | 4,_=>rfl
 .have:=hd.lt b e
  omega
def lD(w:ω)(a k:Nat)(d:Nat->DV)(t:DV)(wr:ω):Prop:=(∃ Y,YOp wr w.heap.size a k k Y d t)/\β w w wr
def OpenAt(w:ω)(a k:Nat)(d:Nat->DV)(t:DV)(h:Hd)(wr:ω):Prop:=(∃ Y,qj wr w.heap.size a k Y d t h)/\β w w wr
def mP(w:ω)(d:Nat->DV)(t:DV)(e:Ending)(w':ω):Prop:=β w w w' /\
 ((jJ d t≠0/\e=.returned (.tuple #[.pointer O,erV (jJ d t)]))\/(jJ d t=0/\∃(c:Nat) (Y:Yh),e=.returned (.tuple #[c,.nilIface])/\aC w' c Y (jT d t)/\(∀ b,fpY c Y (jT d t) b->w.heap.size<=b)/\(∀ g o,Y.jb.a=S ⟨g,o,O⟩->w.heap.size<=g/\g<w'.heap.size)))
def ZR{g o cap m hs d th t}(w)(hp:oh w g o 5 hs)(hd:∀ i,i<5->bV Gd.no w (hs i) (d i))(ht:bV Gd.no w th t)(hf:∀ i,(d i).fine (d i).fl.length m)(bc:t.fine t.fl.length m) :
    κ prog 18 #[.slice (S ⟨g,o,O⟩) 5 cap,th.p] w λe w'=>mP w d t e w':=by
  have aM:=ah (OE (cap:=cap) w hp (by omega))
  have bb:χ (κ prog 73 #[th.p] w λe w'=>∃ T:Nat,e=.returned T/\lD w w'.heap.size 0 d t (w'.alloc (Di T))):=by
    refine(yc w ht.toaS).mono ?_;rintro e w' ⟨r,rfl,R,l⟩;exact⟨r.p,rfl,⟨_,YOp.start l (ja1 _) R⟩,l.alloc l.size _⟩
  have b2:=ah λk W (E:k<5) (l:β w w W)=>(hp.below (by omega) l) k E
  have bm:χ (∀(k f:Nat) (W:ω),k<5->lD w f k d t W->κ prog 73 #[(hs k).p] W λe w'=>∃ r:Hd,e=.returned r.p/\(∃ v,w'.cell? ⟨f,k,O⟩=S v)/\w'.frozen? ⟨f,k,O⟩=false/\OpenAt w f k d t r (w'.setCell ⟨f,k,O⟩ r.p)):=λk f W E ⟨⟨Y,q⟩,l⟩=>by
    have bk:=(hd k E).keep λb e=>l.block b ((hd k E).lt b e).2
    refine(yc W bk.toaS).mono ?_;rintro e w' ⟨r,rfl,R,B⟩;obtain⟨V,q2⟩:=(q.below B).cell k (by omega);exact⟨r,rfl,V,q2,⟨Y,q.copied E l.size B R⟩,(l.trans (B.mono l.size)).setCell q.pastY _⟩
  have aE:χ (∀(k f:Nat) (r:Hd) (W:ω),OpenAt w f k d t r W->W.cell? ⟨f,k,O⟩=S (r.p:υ)):=λk f r W ⟨⟨Y,L⟩,_⟩=>L.cell
  have bd:χ (∀(k f:Nat) (r:Hd) (W:ω),k<5->dL (d k)≠0->OpenAt w f k d t r W->κ prog 74 #[r.p] W λe w'=>e=.returned (.tuple #[.pointer O,.iface 96 (.int .i64 (dL (d k)))])/\lD w f (k+1) d t w'):=λk f r W E s ⟨⟨Y,L⟩,l⟩=>by
    refine(Jb W L.dev.ou (ja1 _)).mono ?_;rintro e w' ⟨B,⟨_,rfl⟩|⟨K,_⟩⟩
    . exact⟨by rw[bC s],(L.below B).Uf E s,l.trans (B.mono l.size)⟩
    . exact absurd K s
  have bh:χ (∀(k f:Nat) (r:Hd) (W:ω),k<5->dL (d k)=0->OpenAt w f k d t r W->κ prog 74 #[r.p] W λe w'=>∃ xp:Nat,e=.returned (.tuple #[xp,.nilIface])/\(∃ v,w'.cell? ⟨f,6+k,O⟩=S v)/\w'.frozen? ⟨f,6+k,O⟩=false/\lD w f (k+1) d t (w'.setCell ⟨f,6+k,O⟩ xp)):=λk f r W E K ⟨⟨Y,L⟩,l⟩=>by
    refine(Jb W L.dev.ou (ja1 _)).mono ?_;rintro e w' ⟨B,⟨s,_⟩|⟨_,x,hx,_,rfl,hi⟩⟩
    . exact absurd K s
    . obtain⟨V,q2⟩:=(L.below B).op.cell (6+k) (by omega);exact⟨x.p,rfl,V,q2,L.image E l.size K B hx hi,(l.trans (B.mono l.size)).setCell L.op.pastY _⟩
  have bE:=bc.ok.n1
  have bj:χ (∀(f:Nat) (W:ω),lD w f 5 d t W->∃ T:Nat,W.cell? ⟨f,5,O⟩=S (T:υ)/\κ prog 75 #[T,(0:Int)] W λe w'=>e=.returned (.tuple #[.string (bytesOf (t.seen.getD 0 [])),.nilIface])/\w'=W):=λf W ⟨⟨Y,q⟩,l⟩ =>
    ⟨Y.tp.p,q.YP,l9 0 W q.top.toaS (by omega)⟩
  have a9:χ (∀ W:ω,κ prog 76 #[.string (bytesOf (t.seen.getD 0 []))] W λe w'=>e=.returned (.tuple #[.agg #[.int .i64 (ak t).root,.int .i64 (ak t).kind,.int .i64 (ak t).file,.int .i64 (ak t).rate,.int .i64 (ak t).burst],erV (aN (bytesOf (t.seen.getD 0 [])))])/\β W W w'):=λW=>Vj _ W
  have aq:=yT hf;have a1:jJ d t=if aN (bytesOf (t.seen.getD 0 []))=0 then ((aO d).walk (ak t).root).2 else aN (bytesOf (t.seen.getD 0 [])):=rfl
  have ab:χ (∀(f:Nat) (W:ω),lD w f 5 d t W->κ prog 77 #[.pointer (S ⟨f,6,O⟩),.int .i64 (ak t).root] W λe w'=>∃(a:Option Addr) (n cap:Nat),e=.returned (.tuple #[.slice a n cap,erV ((aO d).walk (ak t).root).2])/\β W W w'):=λf W ⟨⟨Y,q⟩,l⟩ =>
    (vU (ak t).root W (q.aZ.1.shelf aq)).mono λe w' ⟨a,cap,R,_,_,h4⟩=>⟨a,_,cap,R,h4⟩
  have G:χ (∀(f k:Nat) (W J:ω),lD w f k d t W->β W W J->lD w f k d t J):=λf k W J ⟨⟨Y,q⟩,l⟩ B=>⟨⟨Y,q.below B⟩,l.trans (B.mono l.size)⟩
  have a4:χ (∀(f k:Nat) (W:ω),lD w f k d t W->β w w W/\(∃ v,W.cell? ⟨f,11,O⟩=S v)/\W.frozen? ⟨f,11,O⟩=false):=λf k W ⟨⟨Y,q⟩,l⟩=>⟨l,q.cell 11 (by omega)⟩
  have b5:χ (aN (bytesOf (t.seen.getD 0 []))≠0->∀ W:ω,β w w W->mP w d t (.returned (.tuple #[.pointer O,.iface 96 (.int .i64 (aN (bytesOf (t.seen.getD 0 []))))])) W):=λs W l=>⟨l,.inl ⟨by rw[a1,if_neg s];exact s,by rw[a1,if_neg s,bC s]⟩⟩
  have ba:χ (aN (bytesOf (t.seen.getD 0 []))=0->((aO d).walk (ak t).root).2≠0->∀ W:ω,β w w W->mP w d t (.returned (.tuple #[.pointer O,.iface 96 (.int .i64 ((aO d).walk (ak t).root).2)])) W):=λK s W l=>⟨l,.inl ⟨by rw[a1,if_pos K];exact s,by rw[a1,if_pos K,bC s]⟩⟩
  have bn:χ (aN (bytesOf (t.seen.getD 0 []))=0->((aO d).walk (ak t).root).2=0->∀(f:Nat) (W:ω),lD w f 5 d t W->κ prog 78 #[f,.agg #[.int .i64 (ak t).root,.int .i64 (ak t).kind,.int .i64 (ak t).file,.int .i64 (ak t).rate,.int .i64 (ak t).burst]] (W.setCell ⟨f,11,O⟩ (.int .i64 (ak t).root)) λe w'=>∃ po:Option Addr,e=.returned (.pointer po)/\(∃ u,w'.cell? ⟨f,12,O⟩=S u)/\w'.frozen? ⟨f,12,O⟩=false/\mP w d t (.returned (.tuple #[f,.nilIface])) (w'.setCell ⟨f,12,O⟩ (.pointer po))):=λK ao f W ⟨⟨Y,q⟩,l⟩=>by
    obtain⟨hY,hn⟩:=q.aZ;have ai:=q.pastY;have b6:(ak t).kv.fault=0:=yw K;have bf:=of_decide_eq_true (KV.qF b6).1;have bN:0<=(ak t).root:=bf.1
    have s:((aO d).walk (ak t).root).1≠[]:=λe=>by
      have:=SV.sH ao
      rw[e] at *
      have:(ak t).root = -1:=this
      omega
    obtain⟨v,hv,_⟩:=(Chain.of ao s).root;have ap:(((ak t).root.toNat:Nat):Int)=(ak t).root:=by omega
    obtain⟨R,_⟩:=hY.xg (ak t);have:=ZK (m:=m) (rk:=(ak t).root.toNat) (ak t).kind (ak t).file (ak t).rate (ak t).burst _ R aq ⟨v,by rw[ap];exact hv⟩
    rw[ap] at *
    refine this.mono ?_;rintro e w' ⟨u0,rfl,hP⟩
    obtain⟨u,rfl⟩:∃ po:Option Addr,u0=.pointer po:=by
      rcases hP.2 with⟨_,e⟩|⟨_,_,b,_,e,_⟩
      . exact⟨_,e⟩
      . exact⟨_,e⟩
    obtain⟨V,q2,Y',b0,bl,b9⟩:=UD (w:=w) hY hn l.size rfl hP
    have b1:β w w (w'.setCell ⟨f,12,O⟩ (.pointer u)):=by
      have B:=l.setCell (p:=⟨f,11,O⟩) ai (.int .i64 (ak t).root);exact(B.trans (hP.1.mono B.size)).setCell ai _
    exact⟨u,rfl,V,q2,b1,.inr ⟨by rw[a1,if_pos K];exact ao,f,Y',rfl,b0,bl,b9⟩⟩
  have az:χ (∀(W:ω) (N:Nat),W.heap[N]?=S (bI (ak t))->∀ J:ω,J.heap[N]?=W.heap[N]?->J.cell? ⟨N,0,O⟩=S (.int .i64 (ak t).root)/\J.rangeAt N 0 [.int .i64 (ak t).root,.int .i64 (ak t).kind,.int .i64 (ak t).file,.int .i64 (ak t).rate,.int .i64 (ak t).burst]):=λW N hN J hW=>by
    have e:J.heap[N]?=S (bI (ak t)):=hW.trans hN;unfold bI at e;have c:∀ i,J.cell? ⟨N,i,O⟩=(#[.int .i64 (ak t).root,.int .i64 (ak t).kind,.int .i64 (ak t).file,.int .i64 (ak t).rate,.int .i64 (ak t).burst]:Array υ)[i]?:=λi=>cell_of_row _ _ _ _ _ _ e
    refine⟨c 0,λj v hv=>?_⟩;rw[jak,c j]
    simpa using hv
  have HI:χ ((prog.info? 82).map (·.size)=S ([.int .i64 (ak t).root,.int .i64 (ak t).kind,.int .i64 (ak t).file,.int .i64 (ak t).rate,.int .i64 (ak t).burst]:List υ).length):=vG;have aw:χ (∀(f k:Nat) (W:ω),lD w f k d t W->f<W.heap.size):=λf k W ⟨⟨Y,q⟩,l⟩=>q.lt
  unfold bI at *
  generalize mP w d t=P at *
  generalize bytesOf (t.seen.getD 0 [])=ds at *
  generalize (ak t).root=y at *
  generalize (ak t).kind=I at *
  generalize (ak t).file=F at *
  generalize (ak t).rate=D at *
  generalize (ak t).burst=H at *
  generalize ((aO d).walk y).2=wf at *
  go_enter func18,ntmps18;go_wp2_with fail;refine cEq aM λw' hw=>?_
  have aL:=hw.symm;subst aL;go_wp2_with fail;refine bb.mono ?_;rintro e w1 ⟨T,rfl,q⟩;have HO:=ah q;unfold Di at *
  go_wp2_with fail;generalize ai:w1.heap.size=f at *
  generalize bs:w1.alloc _=W2 at *
  go_loopw [34] (λi wr=>∃ k:Nat,k<=5/\i=.int .i64 (k:Int)/\lD w f k d t wr) (λi _=>5-(intOf i).toNat)
  case atStart=>exact⟨0,by omega,rfl,HO⟩
  case round =>
    obtain⟨k,E,rfl,q⟩:=hrel;by_cases a6:k<5
    . have bp:χ (lD w f k d t wr.drew):=G _ _ _ _ q (ja0 _ _).drew;have e1:=b2 k wr a6 (a4 _ _ _ q).1;have k0:(0:Int)<=(k:Int):=by omega
      have k5:(k:Int)<5:=by omega
      have k2:((k:Int)).toNat=k:=by omega
      have k3:IntKind.i64.wrap ((k:Int)+1)=(k:Int)+1:=ja9 _ (by omega);have aD:=ah (bm k f wr.drew a6 bp);generalize (hs k).p=dp at *
      go_wp2_with fail
      go_region_held3 (λ_=>True)
        (first|trivial|assumption)
        (first
          | (go_at_call 73;refine aD.mono ?_;rintro e w4 ⟨r,rfl,⟨v,V⟩,q2,hA⟩;have HA:=ah hA;have q3:=aE _ _ _ _ hA;clear hA))
      generalize bv:w4.setCell ⟨f,k,O⟩ r.p=W5 at *
      by_cases ar:dL (d k)=0
      . have aa:=ah (bh k f r W5 a6 ar HA);go_wp2_with fail;refine aa.mono ?_;rintro e w6 ⟨xp,rfl,⟨v6,p1⟩,p2,br⟩;have an:=ah br;go_wp2;refine⟨⟨k+1,by omega,by simp,an⟩,?_⟩;simp only[intOf];omega
      . have aa:=ah (bd k f r W5 a6 ar HA);generalize dL (d k)=of at *
        go_wp2_with fail;refine cHd aa λw6 an=>?_
        go_wp2;refine⟨⟨k+1,by omega,by simp,an⟩,?_⟩;simp only[intOf];omega
    . have aR:k=5:=by omega
      subst aR;obtain⟨tq,c5,bq⟩:=bj f wr q;have al:=ah bq;have ag:=ah q;by_cases Z:aN ds=0
      . rw[Z,aJ] at a9;have bi:=ah (ba Z);have b7:=ah (bn Z);by_cases a8:wf=0
        . rw[a8,aJ] at ab;have bo:=ah (b7 a8);go_wp2_with fail;refine cSt al ?_;go_wp2_with fail;refine cEq (a9 _) λz a0=>?_
          have Q:=G _ _ _ _ ag a0;have s:z.heap.size≠f:=by have:=aw _ _ _ Q;omega
          have ac:χ (lD w f 5 d t (z.alloc (.cells #[y,I,F,D,H] 82))):=G _ _ _ _ Q ((ja0 _ _).alloc (ja1 _) _);have a2:χ ((z.alloc (.cells #[y,I,F,D,H] 82)).heap[z.heap.size]?=S (.cells #[y,I,F,D,H] 82 (0,0))):=heap_alloc_new z _;go_wp2_with fail;generalize z.alloc (.cells #[y,I,F,D,H] 82)=A at *
          generalize z.heap.size=N at *
          have U:=ah (az A N a2);have am:χ (A.drew.cell? ⟨N,0,O⟩=S (y:υ)):=(U A.drew rfl).1;have a3:χ (lD w f 5 d t A.drew):=G _ _ _ _ ac (ja0 _ _).drew;have ad:=ah (ab f A.drew a3);have ae:χ (N<A.drew.heap.size):=lt_of_some a2
          go_region_held3 (λW=>W.cell? ⟨N,0,O⟩=S (y:υ))
            (first|(exact am)|assumption)
            (first
              | (go_at_call 77;refine ad.mono ?_;rintro e C ⟨a5,n5,b3,rfl,M⟩;have a7:=ah (G _ _ _ _ a3 M);have X:χ (C.heap[N]?=A.heap[N]?):=M.block N ae;have be:C.cell? ⟨N,0,O⟩=S (y:υ):=(U C X).1;have ax:χ ((C.setCell ⟨f,11,O⟩ y).heap[N]?=A.heap[N]?):=(heap_setCell_other _ _ _ _ s).trans X;clear M))
          obtain⟨_,⟨bL,bB⟩,bA⟩:=a4 _ _ _ a7;have b8:=ah (U (C.setCell ⟨f,11,O⟩ y) ax).2;have b4:=ah (bo f C a7);go_wp2_with (refine wpList_load_mid (by rfl) 82 (.tmp 13) (by rfl) N 0 (by rfl) [y,I,F,D,H] _ b8 underlying82 rfl HI ?_)
          refine b4.mono ?_;rintro e w6 ⟨bt,rfl,⟨u6,bu⟩,bw,hP⟩;have HP:=ah hP;go_wp2;exact HP
        . rw[bC a8] at *
          have af:=ah (bi a8);go_wp2_with fail;refine cSt al ?_;go_wp2_with fail;refine cEq (a9 _) λz a0=>?_
          have Q:=G _ _ _ _ ag a0;have s:z.heap.size≠f:=by have:=aw _ _ _ Q;omega
          have ac:χ (lD w f 5 d t (z.alloc (.cells #[y,I,F,D,H] 82))):=G _ _ _ _ Q ((ja0 _ _).alloc (ja1 _) _);have a2:χ ((z.alloc (.cells #[y,I,F,D,H] 82)).heap[z.heap.size]?=S (.cells #[y,I,F,D,H] 82 (0,0))):=heap_alloc_new z _;go_wp2_with fail;generalize z.alloc (.cells #[y,I,F,D,H] 82)=A at *
          generalize z.heap.size=N at *
          have U:=ah (az A N a2);have am:χ (A.drew.cell? ⟨N,0,O⟩=S (y:υ)):=(U A.drew rfl).1;have a3:χ (lD w f 5 d t A.drew):=G _ _ _ _ ac (ja0 _ _).drew;have ad:=ah (ab f A.drew a3);have ae:χ (N<A.drew.heap.size):=lt_of_some a2
          go_region_held3 (λW=>W.cell? ⟨N,0,O⟩=S (y:υ))
            (first|(exact am)|assumption)
            (first
              | (go_at_call 77;refine ad.mono ?_;rintro e C ⟨a5,n5,b3,rfl,M⟩;have a7:=ah (G _ _ _ _ a3 M);have X:χ (C.heap[N]?=A.heap[N]?):=M.block N ae;have be  := (U C X).1;have ax:χ ((C.setCell ⟨f,11,O⟩ y).heap[N]?=A.heap[N]?):=(heap_setCell_other _ _ _ _ s).trans X;clear M))
          have HP:=ah (af C (a4 _ _ _ a7).1);go_wp2;exact HP
      . rw[bC Z] at *
        have af:=ah (b5 Z);go_wp2_with fail;refine cSt al ?_;go_wp2_with fail;refine cEq (a9 _) λz a0=>?_
        have Q:=G _ _ _ _ ag a0;have av:=(a4 _ _ _ Q).1;have HP:=ah (af (z.alloc (.cells #[y,I,F,D,H] 82)) (av.alloc av.size _));go_wp2;exact HP
def Qp(a b c d:Int)(w):(Instr.field 120 (.agg #[a,b,c,d]) 1).run prog w=.ok (.int .i64 b) w:=by kernel_rfl
def MB{u C m Y y}(f:Int)(w)(h:aC w u Y y)(s:YOk y C m) :
  κ prog 188 #[u,f] w λe w'=>e=.returned (.bool (y.used f))/\β w w w':=by
 have q:=ah (qh w h);have r:=ah (uy w h s);have n:χ (∀(W:ω) (g o cap:Nat),Nums W (S ⟨g,o,O⟩) y.l->κ prog 236 #[.slice (S ⟨g,o,O⟩) y.l.length cap,f] W λe w'=>e=.returned (.bool (y.l.contains f))/\w'=W):=λW g o cap J=>AL y.l f W J rfl (by have:=s.ch.len;omega)
 have v:y.used f=(y.busy&&decide (y.kd.file=f)||y.l.contains f):=rfl;by_cases d:y.busy=true
 .obtain⟨j,A,E⟩:=mZ d;have z:=s.job j A E;rw[qY d] at *
  have D:y.kd.file=j.file:=by rw[<- z.dsk];rfl
  have G:=ah λW (d:β w w W)=>zT W ((h.below d).job j A).1 z.ok.set
  rw[v,d,D,jbn];have L:=Qp j.kind j.file j.state (S4.cnt j.x 64:Nat);generalize j.kind=P at *
  generalize j.state=N at *
  generalize S4.cnt j.x 64=M at *
  generalize j.file=t at *
  generalize y.l.length=ln at *
  cases B:y.l.contains f with
  | true =>
   rw[B] at n;rw[Bool.or_true];go_enter func188,ntmps188;go_wp2_with fail;refine cEq q λw' k=>?_
   have c:=k.symm;subst c;go_wp2_with fail;refine r.mono ?_;rintro e a ⟨g,o,cap,rfl,i,_,_,_,b⟩;go_wp2_with fail;refine cSt (n a g o cap i) ?_;go_wp2;go_ret;exact⟨rfl,b⟩
  | false =>
   rw[B] at n;rw[jbB]
   have K:decide (t=f)=(t==f):=by
    by_cases e:t=f
    .rw[e];simp
    .rw[decide_eq_false e];symm;simpa using e
   rw[K];go_enter func188,ntmps188;go_wp2_with fail;refine cEq q λw' k=>?_
   have c:=k.symm;subst c;go_wp2_with fail;refine r.mono ?_;rintro e a ⟨g,o,cap,rfl,i,_,_,_,b⟩;go_wp2_with fail;refine cSt (n a g o cap i) ?_;go_wp2_with fail;refine cBl (G a b) b λQ H=>?_
   go_wp2;go_ret;exact⟨rfl,H⟩
 .rw[qX d] at *
  have I:y.busy=false:=by simpa using d
  rw[v,I,Bool.false_and,jbT];generalize y.l.length=ln at *
  generalize y.l.contains f=F at *
  cases F with
  | true =>
   go_enter func188,ntmps188;go_wp2_with fail;refine cEq q λw' k=>?_
   have c:=k.symm;subst c;go_wp2_with fail;refine r.mono ?_;rintro e a ⟨g,o,cap,rfl,i,_,_,_,b⟩;go_wp2_with fail;refine cSt (n a g o cap i) ?_;go_wp2;go_ret;exact⟨rfl,b⟩
  | false =>
   go_enter func188,ntmps188;go_wp2_with fail;refine cEq q λw' k=>?_
   have c:=k.symm;subst c;go_wp2_with fail;refine r.mono ?_;rintro e a ⟨g,o,cap,rfl,i,_,_,_,b⟩;go_wp2_with fail;refine cSt (n a g o cap i) ?_;go_wp2;go_ret;exact⟨rfl,b⟩
def ZV{B h d}{C:Nat}(w)(hd:bV B w h d)(k:1<=C/\C<=32) :
  κ prog 189 #[h.p,(C:Int)] w λe w'=>e=.returned (oI d.fl.length (C:Int))/\β w w w':=by
 have g:=ah (size_any w hd.toaS);have m:=hd.ok.n2
 have i:HV.ok ⟨(C:Int),0,0⟩=true:=by
  unfold HV.ok;simp;omega
 have a:=ah λW=>wC (C:Int) 0 0 W i
 have b:(aQ ⟨(C:Int),0,0⟩:Int)=1+(aB C:Int):=by unfold aQ dJ;simp
 have j:aB C<=5:=by unfold aB;omega
 rw[b] at a;have c:oI d.fl.length (C:Int)=Int.tdiv ((d.fl.length:Int)-(1+(aB C:Int))) 4:=by unfold oI;rw[show((C:Int)).toNat=C by omega];congr 1;omega
 rw[c];generalize d.fl.length=n at *
 generalize aB C=l at *
 go_enter func189,ntmps189;go_wp2_with fail;refine cSt g ?_;go_wp2_with fail;refine cHd (a _) λo f=>?_
 go_wp2;go_ret;exact⟨rfl,f⟩
def nH(a:Nat->Ih)(k:Nat)(x:Ih):Nat->Ih:=λi=>if i=k then x else a i
def fV(a:Nat->Hd)(k:Nat)(h:Hd):Nat->Hd:=λi=>if i=k then h else a i
def Yh.hd(Y:Yh)(s:SV)(i:Nat):Hd:=match s i with
 | none=>Y.ds i
 | some _=>(Y.xs i).h
def aC.lJ{w c i Y y}(h:aC w c Y y)(a:i<5):bV Gd.no w (Y.hd y.s i) (y.dev i)/\(Y.hd y.s i).p=Y.dp y.s i/\∀ k,(Y.hd y.s i).fp k->Y.fpF y.s i k:=by
 unfold Yh.hd YV.dev Yh.dp Yh.fpF
 cases b:y.s i with
 | none=>exact⟨h.dev i a b,rfl,λk e=>e⟩
 | some v=>exact⟨(h.img i v a b).dev,rfl,λk e=>.inr (.inr (.inr e))⟩
def aC.made{w c a i Y y}(h:aC w a Y y)(g:i<5){x v}(m:Moved (Y.hd y.s i).fp w x.fp c)(D:aI Gd.no c x v)(C:x.h.p=(Y.hd y.s i).p) :
  aC (c.setCell ⟨a,6+i,O⟩ x.p) a {Y with xs:=nH Y.xs i x} {y with s:=y.s.upd i v}/\Moved (fpY a Y y) w (fpY a {Y with xs:=nH Y.xs i x} {y with s:=y.s.upd i v}) (c.setCell ⟨a,6+i,O⟩ x.p):=by
 obtain⟨F,A,B⟩:=h.lJ g;have f:y.s.upd i v i=some v:=by unfold SV.upd;rw[if_pos rfl]
 have l:({Y with xs:=nH Y.xs i x}:Yh).xs i=x:=by show nH _ i x i=x;unfold nH;rw[if_pos rfl]
 have r:Moved _ w (({Y with xs:=nH _ i x}:Yh).fpF _ i) c:=⟨m.kept.mono λk _ e=>B k e,λk e=>by
  rw[Yh.eY f,l] at e;rcases m.new k e with n|n
  .simp_all
  .exact .inr n⟩
 have z:=h.lC.1 i g
 have t:∀ b,x.fp b->b≠a:=λb e n=>by
  rcases m.new b e with E|E
  .simp_all
  .have:=h.blk.lt;omega
 have q:jQ (c.setCell _ (jh (({Y with xs:=nH _ i x}:Yh).xs i) (y.s.upd i v i))) a _ _ _ _ :=
  (h.blk.keep (r.block h.blk.lt z)).Kv g (λj d=>⟨by show nH _ i x j=_;unfold nH;rw[if_neg d],by unfold SV.upd;rw[if_neg d]⟩) (λj d=>by
    by_cases e:j=i
    .rw[e,Yh.lX f,l,C,A]
    .unfold Yh.dp SV.upd;rw[if_neg e];show(match y.s j with|none=>(Y.ds j).p|some _=>(nH _ i x j).h.p)=_
     unfold nH;rw[if_neg e]
     cases y.s j<;>rfl) rfl
 rw[f,l] at q;refine h.qH   g r (Kept.setCell (S:=λk=>k=a)  (Kept.refl _ c) (.inl rfl) _) q (λu o=>?_) (λo=>?_) (λj d=>⟨by show SV.upd _ _ _ _=_;unfold SV.upd;rw[if_neg d],rfl,by show nH _ i x j=_;unfold nH;rw[if_neg d],rfl⟩) ⟨rfl,rfl,rfl,rfl⟩
 .cases (f.symm.trans o);rw[l];exact D.aY λb e=>heap_setCell_other _ _ _ _ (t b e)
 .simp_all
def aC.Ac{w c a i Y y}(h:aC w a Y y)(g:i<5){d D}(m:Moved (Y.hd y.s i).fp w d.fp c)(hd:bV Gd.no c d D)(A:d.p=(Y.hd y.s i).p) :
  aC (c.setCell ⟨a,6+i,O⟩ (.pointer O)) a {Y with ds:=fV Y.ds i d} {y with s:=y.s.gone i,dv:=λk=>if k=i then D else y.dv k}/\Moved (fpY a Y y) w (fpY a {Y with ds:=fV Y.ds i d} {y with s:=y.s.gone i,dv:=λk=>if k=i then D else y.dv k}) (c.setCell ⟨a,6+i,O⟩ (.pointer O)):=by
 obtain⟨E,x,z⟩:=h.lJ g;have l:y.s.gone i i=none:=by unfold SV.gone;rw[if_pos rfl]
 have n:({Y with ds:=fV Y.ds i d}:Yh).ds i=d:=by show fV _ i d i=d;unfold fV;rw[if_pos rfl]
 have q:Moved _ w (({Y with ds:=fV _ i d}:Yh).fpF _ i) c:=⟨m.kept.mono λk _ e=>z k e,λk e=>by
  rw[Yh.dN l,n] at e;rcases m.new k e with r|r
  .simp_all
  omega⟩
 have v:=h.lC.1 i g
 have t:∀ b,d.fp b->b≠a:=λb e r=>by
  rcases m.new b e with C|C
  .simp_all
  .have:=h.blk.lt;omega
 have o:jQ (c.setCell _ (jh (({Y with ds:=fV _ i d}:Yh).xs i) (y.s.gone i i))) a _ _ _ _ :=
  (h.blk.keep (q.block h.blk.lt v)).Kv g (λj f=>⟨rfl,by unfold SV.gone;rw[if_neg f]⟩) (λj f=>by
    by_cases e:j=i
    .rw[e,Yh.dp_none l,n,A,x]
    .unfold Yh.dp SV.gone;rw[if_neg e];show(match y.s j with|none=>(fV _ i d j).p|some _=>(Y.xs j).h.p)=_
     unfold fV;rw[if_neg e]
     cases y.s j<;>rfl) rfl
 rw[l] at o;refine h.qH   g q (Kept.setCell (S:=λk=>k=a)  (Kept.refl _ c) (.inl rfl) _) o (λu B=>?_) (λB=>?_) (λj f=>⟨by show SV.gone _ _ _=_;unfold SV.gone;rw[if_neg f],if_neg f,rfl,by show fV _ i d j=_;unfold fV;rw[if_neg f]⟩) ⟨rfl,rfl,rfl,rfl⟩
 .simp_all
 .rw[n];show bV _ _ d (if i=i then D else y.dv i)
  rw[if_pos rfl];exact hd.keep λb e=>heap_setCell_other _ _ _ _ (t b e)
def KH:(prog.info? 47).map (·.size)=S 5:=by kernel_rfl
def Rt(P:Nat->Nat)(w):(Instr.index 47 (.agg #[P 0,P 1,P 2,P 3,P 4]) (.int .i64 0)).run prog w=.ok (.pointer (S ⟨P 0,0,O⟩)) w:=by kernel_rfl
def Ru(P:Nat->Nat)(w):(Instr.index 47 (.agg #[P 0,P 1,P 2,P 3,P 4]) (.int .i64 1)).run prog w=.ok (.pointer (S ⟨P 1,0,O⟩)) w:=by kernel_rfl
def Rw(P:Nat->Nat)(w):(Instr.index 47 (.agg #[P 0,P 1,P 2,P 3,P 4]) (.int .i64 2)).run prog w=.ok (.pointer (S ⟨P 2,0,O⟩)) w:=by kernel_rfl
def Rx(P:Nat->Nat)(w):(Instr.index 47 (.agg #[P 0,P 1,P 2,P 3,P 4]) (.int .i64 3)).run prog w=.ok (.pointer (S ⟨P 3,0,O⟩)) w:=by kernel_rfl
def Ry(P:Nat->Nat)(w):(Instr.index 47 (.agg #[P 0,P 1,P 2,P 3,P 4]) (.int .i64 4)).run prog w=.ok (.pointer (S ⟨P 4,0,O⟩)) w:=by kernel_rfl
def G8(P:Nat->Nat)(k:Nat)(a:k<5)(w) :
  (Instr.index 47 (.agg #[P 0,P 1,P 2,P 3,P 4]) (.int .i64 (k:Int))).run prog w=.ok (.pointer (S ⟨P k,0,O⟩)) w:=by
 match k,a with
 | 0,_=>exact Rt P w
 | 1,_=>exact Ru P w
 | 2,_=>exact Rw P w
 | 3,_=>exact Rx P w
 | 4,_=>exact Ry P w
def jO.block{w B k cap a i d}(h:jO w B a k cap i d):∀ r,(Value.slice a k cap).ownBlock=S r->∃ b,w.heap[r]?=S (.cells b 46 (0,0)):=λr e=>by
 rcases h.row.2 with⟨f,_⟩|⟨g,l,b,c,_,j,_⟩
 .rw[f] at e;cases e
 .rw[c] at e;have m:g=r:=by simpa [Value.ownBlock] using e
  simp_all
def aC.Jm{w b Y y}(h:aC w b Y y):w.rangeAt b 0 [.pointer (S ⟨Y.dp y.s 0,0,O⟩),.pointer (S ⟨Y.dp y.s 1,0,O⟩),.pointer (S ⟨Y.dp y.s 2,0,O⟩),.pointer (S ⟨Y.dp y.s 3,0,O⟩),.pointer (S ⟨Y.dp y.s 4,0,O⟩)]:=λj v a=>by
 have c:=h.blk.cells.1
 match j,a with
 | 0,a=>simp_all
 | 1,a=>simp_all
 | 2,a=>simp_all
 | 3,a=>simp_all
 | 4,a=>simp_all
def ZF{m Y y}(w)(h:aC w m Y y) :
  κ prog 69 #[m] w λe w'=>∃(a:Option Addr) (cap:Nat) (c:Nat->Hd) (B:Hd),e=.returned (.tuple #[.slice a 5 cap,B.p])/\jO w' w a 5 cap c y.dev/\aS w w' B y.top/\β w w w':=by
 obtain⟨J,R,a4,K,M⟩:=info_parts G9;have T:=ah h.Jm;have Z:χ ((prog.info? 47).map (·.size)=S ([.pointer (S ⟨Y.dp y.s 0,0,O⟩),.pointer (S ⟨Y.dp y.s 1,0,O⟩),.pointer (S ⟨Y.dp y.s 2,0,O⟩),.pointer (S ⟨Y.dp y.s 3,0,O⟩),.pointer (S ⟨Y.dp y.s 4,0,O⟩)]:List υ).length):=KH;have U:=ah λk (n:k<5) W=>G8 (Y.dp y.s) k n W
 have a2:χ (∀(k:Nat) (W:ω) (a:Option Addr) (cap:Nat) (c:Nat->Hd),k<5->β w w W->jO W w.heap.size a k cap c y.dev->κ prog 73 #[Y.dp y.s k] W λe w'=>∃ b:Hd,e=.returned b.p/\aS W.heap.size w' b (y.dev k)/\β W W w'):=λk W a cap c n f _=>by
  obtain⟨V,G,_⟩:=(h.below f).lJ n;rw[<- G];exact yc W V.toaS
 have a3:χ (∀ W:ω,β w w W->W.cell? ⟨m,5,O⟩=S (Y.tp.p:υ)/\κ prog 73 #[Y.tp.p] W λe w'=>∃ b:Hd,e=.returned b.p/\aS W.heap.size w' b y.top/\β W W w'):=λW f=>⟨(h.below f).blk.cells.2.1,yc W (h.below f).top.toaS⟩
 generalize Y.dp y.s=P at *
 generalize Y.tp.p=tp at *
 go_enter func69,ntmps69;go_wp2_with (refine wpList_load_mid (by rfl) 47 (.tmp 9) (by rfl) m 0 (by rfl) [P 0,P 1,P 2,P 3,P 4] _ T underlying47 rfl Z ?_)
 go_loopw [4,11] (λu i wr=>∃(k:Nat) (a:Option Addr) (cap:Nat) (c:Nat->Hd),k<=5/\i=.int .i64 (k:Int)/\u=.slice a k cap/\jO wr w.heap.size a k cap c y.dev/\β w w wr) (λ_ i _=>5-(intOf i).toNat)
 case atStart=>exact⟨0,O,0,λ_=>⟨0,0,0,0,0,.nilIface⟩,by omega,rfl,rfl,jO.nil _ _ _ _,ja0 _ _⟩
 case round =>
  obtain⟨k,a,cap,c,n,rfl,rfl,o,f⟩:=hrel;by_cases x:k<5
  .have f1:=U k x;have HC:=ah (a2 k wr a cap c x f o);have l:=ah o;have g:=ah f;generalize P k=pk at *
   go_wp2_with fail;refine HC.mono ?_;rintro e d ⟨b,rfl,t,j⟩;have q  := g.size;have A:χ ((d.alloc (.cells #[b.p] 46)).ownsRow w.heap.size 46 1 (.slice a k cap) k (oG c k)):=(l.below j).row.alloc _;have F:χ (w.heap.size<=(d.alloc (.cells #[b.p] 46)).heap.size):=by unfold χ;have:=j.size;simp;omega
   have N:χ (β w w (d.alloc (.cells #[b.p] 46))):=(g.trans (j.mono q)).alloc (ja4 q j.size) _;have a1:χ ((d.alloc (.cells #[b.p] 46)).heap.size=d.heap.size+1):=by unfold χ;simp
   have L:χ (∀ i y,([.pointer (S ⟨b.p,0,O⟩)]:List υ)[i]?=S y->(d.alloc (.cells #[b.p] 46)).cell? ((⟨d.heap.size,0,O⟩:Addr).add i)=S y):=cell_one_new _ _ _;go_wp2_with (at_builtin;refine wpList_append_lies _ (by rfl) _ _ 53 (by rfl) w.heap.size 46 J (.pointer O) 1 8 underlying53 R a4 K M rfl (by decide) (.slice a k cap) k (oG c k) (by rfl) A ⟨d,0,O⟩ 1 1 [b.p] (by rfl) (by rfl) L (λu hu=>by simp at *;subst hu;rfl) (by decide) (by unfold maxLen;omega) (by omega) F (d.heap.size+1) a1 ?_;intro g3 C z H E a5 a6)
   have I:χ (jO z w.heap.size (S ⟨g3,0,O⟩) (k+1) C (setH c k b) y.dev):=l.snoc q j t H E l.block;have Q:χ (β w w z):=N.grown E F (λr e=>(A.lt r e).1);go_roundw
   case rel =>
    exact⟨k+1,S _,C,setH c k b,by omega,by go_num,rfl,I,Q⟩
   case measure=>simp[intOf];omega
  .have a0:k=5:=by omega
   subst a0;obtain⟨c5,X⟩:=a3 wr f;have l:=ah o;have g:=ah f;go_wp2_with fail;refine X.mono ?_;rintro e d ⟨b,rfl,t,j⟩;have D:=ah t;have v:=ah j;go_wp2
   first
    | exact⟨a,cap,c,b,rfl,l.below v,D.Am g.size,g.trans _⟩
    | (go_ret2;exact⟨a,cap,c,b,rfl,l.below v,D.Am g.size,g.trans (v.mono g.size)⟩)
structure pG(w:ω)(ka:Option Addr)(n:Nat)(ks:List (List Bool)):Prop where
 len:ks.length=n
 at_:∀ i,i<n->∃(g o:Nat) (a:Option Addr) (l c:Nat),ka=S ⟨g,o,O⟩/\w.cell? ⟨g,o+i,O⟩=S (.slice a l c)/\Bools w a l (ks.getD i [])/\l<=maxLen
theorem pG.below{w w' b n f}(h:pG w b n f)(j:β w w w'):pG w' b n f :=
 ⟨h.len,λi r=>by
  obtain⟨g,o,a,l,c,m,d,q,k⟩:=h.at_ i r
  exact⟨g,o,a,l,c,m,(j.cell  (ja2 _ _ d)).trans d,q.below j,k⟩⟩
def mP.from{w:ω}{W w' d t e}(f:β w w W)(h:mP W d t e w'):mP w d t e w':=by
 obtain⟨n,a⟩:=h;have c:=f.size;refine⟨f.trans (n.mono c),?_⟩;rcases a with a|⟨a,k,Y,l,m,q,i⟩
 .exact .inl a
 .exact .inr ⟨a,k,Y,l,m,λb e=>ja4 c (q b e),λg o j=>⟨ja4 c (i g o j).1,(i g o j).2⟩⟩
def mP.shape{w w' d t e}(h:mP w d t e w'):∃(a:Option Addr) (b:υ),e=.returned (.tuple #[.pointer a,b])/\mP w d t (.returned (.tuple #[.pointer a,b])) w':=by
 have c:=h;rcases h.2 with⟨_,rfl⟩|⟨_,f,Y,rfl,_⟩
 .exact⟨_,_,rfl,c⟩
 .exact⟨_,_,rfl,c⟩
def ZC{L m C n kc ka q Y y}(w)(h:aC w L Y y)(hY:YOk y C m)(hK:pG w ka n q) :
  κ prog 12 #[L,.slice ka n kc] w λe w'=>mP w (y.left q) (jG y.top []) e w':=by
 obtain⟨i2,aa,ab,a8,ac⟩:=info_parts G9;have aq:=ah h.Jm;have av:χ ((prog.info? 47).map (·.size)=S ([.pointer (S ⟨Y.dp y.s 0,0,O⟩),.pointer (S ⟨Y.dp y.s 1,0,O⟩),.pointer (S ⟨Y.dp y.s 2,0,O⟩),.pointer (S ⟨Y.dp y.s 3,0,O⟩),.pointer (S ⟨Y.dp y.s 4,0,O⟩)]:List υ).length):=KH;have ag:=ah λk (v:k<5) W=>G8 (Y.dp y.s) k v W
 have a9:χ (∀ W:ω,Bools W O 0 []):=λW=>⟨rfl,λi hi=>by cases hi⟩
 have ad:χ (∀(k:Nat) (W:ω) (a:Option Addr) (l c:Nat),k<5->β w w W->Bools W a l (q.getD k [])->l<=maxLen->κ prog 39 #[Y.dp y.s k,.slice a l c] W λe w'=>∃ b:Hd,e=.returned b.p/\aS W.heap.size w' b (y.left q k)/\β W W w'):=λk W a l c v j hB hl=>by
  obtain⟨d1,d2,_⟩:=(h.below j).lJ v;rw[<- d2];exact E8 a l c (q.getD k []) W d1.toaS hB hl
 have ax:χ (∀ W:ω,β w w W->W.cell? ⟨L,5,O⟩=S (Y.tp.p:υ)/\κ prog 39 #[Y.tp.p,.slice O 0 0] W λe w'=>∃ b:Hd,e=.returned b.p/\aS W.heap.size w' b (jG y.top [])/\β W W w'):=λW j=>⟨(h.below j).blk.cells.2.1,E8 O 0 0 [] W (h.below j).top.toaS (a9 W) (ja7 _)⟩
 have aD:=ah λk W (j:β w w W) (v:k<n)=>(hK.below j).at_ k v
 have af:χ (∀ k:Nat,¬k<n->q.getD k []=[]):=λk v=>by rw[ja6,jaj (by have:=hK.len;omega)];rfl
 have al:χ (∀(W x:ω) (a:Option Addr) (cap:Nat) (o:Nat->Hd) (A:Hd),β w w W->jO W w.heap.size a 5 cap o (y.left q)->aS W.heap.size x A (jG y.top [])->β W W x->κ prog 18 #[.slice a 5 cap,A.p] x λe w'=>∃(V:Option Addr) (Q:υ),e=.returned (.tuple #[.pointer V,Q])/\mP w (y.left q) (jG y.top []) (.returned (.tuple #[.pointer V,Q])) w'):=λW x a cap o A j B ht f=>by
  obtain⟨g,rfl,_,hp,_⟩:=(B.below f).ptrs (by omega);have ae:=j.trans (f.mono j.size);exact(ZR (m:=m) x hp (λi hi=>((B.below f).dev i hi).toG.noG) ht.toG.noG (λi=>uK (hY.dev i) _) (uK hY.top _)).mono λe w' hO=>(hO.from ae).shape
 generalize mP w (y.left q) (jG y.top [])=OP at *
 generalize y.left q=D at *
 generalize jG y.top []=T at *
 generalize Y.dp y.s=P at *
 generalize Y.tp.p=tp at *
 go_enter func12,ntmps12;go_wp2_with (refine wpList_load_mid (by rfl) 47 (.tmp 12) (by rfl) L 0 (by rfl) [P 0,P 1,P 2,P 3,P 4] _ aq underlying47 rfl av ?_)
 go_loopw [6,14] (λu i wr=>∃(k:Nat) (a:Option Addr) (cap:Nat) (o:Nat->Hd),k<=5/\i=.int .i64 (k:Int)/\u=.slice a k cap/\jO wr w.heap.size a k cap o D/\β w w wr) (λ_ i _=>5-(intOf i).toNat)
 case atStart=>exact⟨0,O,0,λ_=>⟨0,0,0,0,0,.nilIface⟩,by omega,rfl,rfl,jO.nil _ _ _ _,ja0 _ _⟩
 case round =>
  obtain⟨k,a,cap,o,v,rfl,rfl,B,j⟩:=hrel;by_cases a3:k<5
  .have f1:=ag k a3;have z:=ah B;have M:=ah j;by_cases a7:k<n
   .obtain⟨kg,ko,a1,l1,c1,rfl,ck,hB,am⟩:=aD k wr j a7;have I:=ah (ad k wr a1 l1 c1 a3 j hB am);have k0:(0:Int)<=(k:Int):=by omega
    have k1:(k:Int)<(n:Int):=by omega
    have k2:((k:Int)).toNat=k:=by omega
    generalize P k=pk at *
    go_wp2_with fail;refine I.mono ?_;rintro e d ⟨b,rfl,E,f⟩;have t:w.heap.size<=wr:=M.size;have a6:=ah E;have a0:=ah f;have a5:=ah (z.below f);have H:χ ((d.alloc (.cells #[b.p] 46)).ownsRow w.heap.size 46 1 (.slice a k cap) k (oG o k)):=a5.row.alloc _;have K:χ (w.heap.size<=(d.alloc (.cells #[b.p] 46)).heap.size):=by unfold χ;have:=f.size;simp;omega
    have U:χ (β w w (d.alloc (.cells #[b.p] 46))):=(M.trans (f.mono t)).alloc (ja4 t f.size) _;have a4:χ ((d.alloc (.cells #[b.p] 46)).heap.size=d.heap.size+1):=by unfold χ;simp
    have R:χ (∀ i y,([.pointer (S ⟨b.p,0,O⟩)]:List υ)[i]?=S y->(d.alloc (.cells #[b.p] 46)).cell? ((⟨d.heap.size,0,O⟩:Addr).add i)=S y):=cell_one_new _ _ _;go_wp2_with (at_builtin;refine wpList_append_lies _ (by rfl) _ _ 53 (by rfl) w.heap.size 46 i2 (.pointer O) 1 8 underlying53 aa ab a8 ac rfl (by decide) (.slice a k cap) k (oG o k) (by rfl) H ⟨d,0,O⟩ 1 1 [b.p] (by rfl) (by rfl) R (λu Z=>by simp at *;subst Z;rfl) (by decide) (by unfold maxLen;omega) (by omega) K (d.heap.size+1) a4 ?_;intro g3 F G a2 J ao an)
    have N:χ (jO G w.heap.size (S ⟨g3,0,O⟩) (k+1) F (setH o k b) D):=z.snoc t a0 a6 a2 J z.block;have X:χ (β w w G):=U.grown J K (λr e=>(H.lt r e).1);go_roundw
    case rel =>
     exact⟨k+1,S ⟨g3,0,O⟩,F,setH o k b,by omega,by go_num,rfl,N,X⟩
    case measure=>simp[intOf];omega
   .have ap:=af k a7;have az:=a9 wr;rw[<- ap] at *
    have I:=ah (ad k wr O 0 0 a3 j az (ja7 _));generalize P k=pk at *
    go_wp2_with fail;refine I.mono ?_;rintro e d ⟨b,rfl,E,f⟩;have t  := M.size;have a6:=ah E;have a0:=ah f;have a5:=ah (z.below f);have H:χ ((d.alloc (.cells #[b.p] 46)).ownsRow w.heap.size 46 1 (.slice a k cap) k (oG o k)):=a5.row.alloc _;have K:χ (w.heap.size<=(d.alloc (.cells #[b.p] 46)).heap.size):=by unfold χ;have:=f.size;simp;omega
    have U:χ (β w w (d.alloc (.cells #[b.p] 46))):=(M.trans (f.mono t)).alloc (ja4 t f.size) _;have a4:χ ((d.alloc (.cells #[b.p] 46)).heap.size=d.heap.size+1):=by unfold χ;simp
    have R:χ (∀ i y,([.pointer (S ⟨b.p,0,O⟩)]:List υ)[i]?=S y->(d.alloc (.cells #[b.p] 46)).cell? ((⟨d.heap.size,0,O⟩:Addr).add i)=S y):=cell_one_new _ _ _;go_wp2_with (at_builtin;refine wpList_append_lies _ (by rfl) _ _ 53 (by rfl) w.heap.size 46 i2 (.pointer O) 1 8 underlying53 aa ab a8 ac rfl (by decide) (.slice a k cap) k (oG o k) (by rfl) H ⟨d,0,O⟩ 1 1 [b.p] (by rfl) (by rfl) R (λu Z=>by simp at *;subst Z;rfl) (by decide) (by unfold maxLen;omega) (by omega) K (d.heap.size+1) a4 ?_;intro g3 F G a2 J ao an)
    have N:χ (jO G w.heap.size (S ⟨g3,0,O⟩) (k+1) F (setH o k b) D):=z.snoc t a0 a6 a2 J z.block;have X:χ (β w w G):=U.grown J K (λr e=>(H.lt r e).1);go_roundw
    case rel =>
     exact⟨k+1,S ⟨g3,0,O⟩,F,setH o k b,by omega,by go_num,rfl,N,X⟩
    case measure=>simp[intOf];omega
  .have aw:k=5:=by omega
   subst aw;obtain⟨c5,ar⟩:=ax wr j;have I:=ah ar;have HO:=ah (λx A=>al wr x a cap o A j B);go_wp2_with fail;refine I.mono ?_;rintro e d ⟨b,rfl,E,f⟩;have ai:=ah (HO d b E f);go_wp2_with fail;refine ai.mono ?_;rintro e w2 ⟨V,Q,rfl,hP⟩;have HP:=ah hP;go_wp2;exact HP
structure DZ(w wr:ω)(N k:Nat)(T:TypeId)(c0:Array υ)(hs:Nat->Rh)(D:Nat->DV):Prop where
 blk:∃ cur,wr.heap[N]?=S (.cells cur T (0,0))/\cur.size=c0.size/\(∀ i,i<k->cur[i]?=S ((hs i).p:υ))/\∀ i,k<=i->cur[i]?=c0[i]?
 dev:∀ i,i<k->dh Gd.no wr (hs i) (D i)
 past:∀ i,i<k->∀ b,(hs i).fp b->N<b
 apart:∀ i j,i<k->j<k->i≠j->∀ b,(hs i).fp b->¬(hs j).fp b
 bel:β w w wr
 new:w.heap.size<=N
def DZ.lt{w wr N k T d b D}(h:DZ w wr N k T d b D):N<wr:=by
 obtain⟨c,a,_⟩:=h.blk;exact lt_of_some a
def DZ.below{w wr w' N k T c f D}(h:DZ w wr N k T c f D)(a:β wr wr w'):DZ w w' N k T c f D :=
 ⟨by rw[a.block _ h.lt];exact h.blk,λi d=>(h.dev i d).keep λb e=>a.block b ((h.dev i d).lt b e).2,h.past,h.apart,h.bel.trans (a.mono h.bel.size),h.new⟩
def DZ.cell{w wr N k T f d D}(h:DZ w wr N k T f d D):(∀ i,i<k->wr.cell? ⟨N,i,O⟩=S ((d i).p:υ))/\(∀ i,k<=i->wr.cell? ⟨N,i,O⟩=f[i]?)/\∀ i,wr.frozen? ⟨N,i,O⟩=false:=by
 obtain⟨c,a,l,j,g⟩:=h.blk;exact⟨λi b=>(cell_of_row wr N i _ _ _ a).trans (j i b),λi b=>(cell_of_row wr N i _ _ _ a).trans (g i b),λi=>frozen_of_row wr N i _ _ a⟩
def DZ.start{w:ω}{W T c d D}(b:β w w W):DZ w (W.alloc (.cells c T (0,0))) W 0 T c d D :=
 ⟨⟨c,heap_alloc_new W _,rfl,λ_ a=>absurd a (jbt _),λ_ _=>rfl⟩,λ_ a=>absurd a (jbt _),λ_ a=>absurd a (jbt _),λ_ _ a=>absurd a (jbt _),b.alloc b.size _,b.size⟩
def DZ.step{w wr d N k T n u D}(h:DZ w wr N k T n u D)(C:k<n.size){q}(l:β wr wr d)(hd:dR wr.heap.size d q (D k)):DZ w (d.setCell ⟨N,k,O⟩ q.p) N (k+1) T n (lg u k q) D:=by
 have g:=h.below l;obtain⟨c,v,y,z,x⟩:=g.blk;have B:=h.lt;have s:∀ b,b≠N->(d.setCell ⟨N,k,O⟩ q.p).heap[b]?=d.heap[b]?:=λb l=>heap_setCell_other _ _ _ _ l
 refine⟨⟨_,heap_setCell_same d N k _ _ _ v,by simpa using y,λi f=>?_,λi f=>?_⟩,λi f=>?_,λi f b a=>?_,λi j f E t b a m=>?_,g.bel.setCell h.new _,h.new⟩
 .unfold lg;by_cases e:i=k
  .simp_all
  .rw[if_neg e,ja3 (λA=>e A.symm)];exact z i (by omega)
 .rw[ja3 (by omega)];exact x i (by omega)
 .unfold lg;by_cases e:i=k
  .rw[if_pos e,e];exact⟨hd.base0.keep λb a=>s b (by have:=(hd.lt b a).1;omega),λ_ _ e=>e⟩
  .rw[if_neg e];exact(g.dev i (by omega)).keep λb a=>s b (by have:=g.past i (by omega) b a;omega)
 .unfold lg at *
  by_cases e:i=k
  .rw[if_pos e] at *;have:=(hd.lt b a).1;omega
  .rw[if_neg e] at *;exact h.past i (by omega) b a
 .unfold lg at *
  by_cases o:i=k
  .rw[if_pos o] at *
   rw[if_neg (λe=>t (by rw[o,e]))] at *
   have:=(hd.lt b a).1
   have:=((h.dev j (by omega)).lt b m).2
   omega
  .rw[if_neg o] at *
   by_cases r:j=k
   .rw[if_pos r] at *
    have:=(hd.lt b m).1
    have:=((h.dev i (by omega)).lt b a).2
    omega
   .rw[if_neg r] at *;exact h.apart i j (by omega) (by omega) t b a m
def sV(w:ω)(d:Nat->DV)(t:DV)(e:Ending)(w':ω):Prop:=β w w w' /\
 ((jJ d t≠0/\e=.returned (.tuple #[.pointer O,jJ d t]))\/(jJ d t=0/\∃(b:Nat) (Z:Zh),e=.returned (.tuple #[b,(0:Int)])/\au w' b Z (jT d t)/\(∀ k,fpZ b Z (jT d t) k->w.heap.size<=k)/\(∀ g o,Z.la=S ⟨g,o,O⟩->w.heap.size<=g/\g<w'.heap.size)/\∀ g o,Z.jb.a=S ⟨g,o,O⟩->w.heap.size<=g/\g<w'.heap.size))
def kT.fresh{w:ω}{W w' f l d t e}(a:β w w W)(h:kT W f l d t e w')(x:∀ i,i<5->∀ b,(f i).fp b->w<=b)(m:∀ b,l.fp b->w<=b):sV w d t e w':=by
 obtain⟨g1,g2⟩:=h;refine⟨a.trans (g1.mono a.size),?_⟩;rcases g2 with g2|⟨n,r,Z,u,v,s,j,c⟩
 .exact .inl g2
 .refine .inr ⟨n,r,Z,u,v,λk e=>?_,λg o e=>⟨ja4 a.size (j g o e).1,(j g o e).2⟩,λg o e=>⟨ja4 a.size (c g o e).1,(c g o e).2⟩⟩;rcases s k e with⟨i,q,e⟩|e|e
  .exact x i q k e
  .exact m k e
  .exact ja4 a.size e
def sV.shape{w w' d t e}(h:sV w d t e w'):∃(b:Option Addr) (f:Int),e=.returned (.tuple #[.pointer b,f])/\sV w d t (.returned (.tuple #[.pointer b,f])) w':=by
 rcases h.2 with⟨_,a⟩|⟨_,c,Z,a,_⟩
 .exact⟨_,_,a,by simp_all⟩
 .exact⟨_,_,a,by simp_all⟩
def kag{G m C n kc ka o Z y}(w)(h:au w G Z y)(J:YOk y C m)(hK:pG w ka n o) :
  κ prog 13 #[G,.slice ka n kc] w λe w'=>sV w (y.left o) (jG y.top []) e w':=by
 have a2:χ (∀ W:ω,Bools W O 0 []):=λW=>⟨rfl,λi F=>by cases F⟩
 have ac:=ah λk W (t:k<5) (j:β w w W)=>(h.below j).blk.cells.1 k t
 have a6:χ (∀(k:Nat) (W:ω) (a:Option Addr) (l c:Nat),k<5->β w w W->Bools W a l (o.getD k [])->l<=maxLen->κ prog 40 #[Z.dp y.s k,.slice a l c] W λe w'=>∃ q:Rh,e=.returned q.p/\dR W.heap.size w' q (y.left o k)/\β W W w'):=λk W a l c t j hB hl=>by
  obtain⟨d1,d2,_⟩:=(h.below j).lJ t;rw[<- d2];exact Jr a l c (o.getD k []) W d1.todR (J.dev k).ok hB hl
 have a7:χ (∀ W:ω,β w w W->W.cell? ⟨G,5,O⟩=S (Z.tp.p:υ)/\κ prog 40 #[Z.tp.p,.slice O 0 0] W λe w'=>∃ q:Rh,e=.returned q.p/\dR W.heap.size w' q (jG y.top [])/\β W W w'):=λW j=>⟨(h.below j).blk.cells.2.1,Jr O 0 0 [] W (h.below j).top.todR J.top.ok (a2 W) (ja7 _)⟩
 have ae:=ah λk W (j:β w w W) (t:k<n)=>(hK.below j).at_ k t
 have a9:χ (∀ k:Nat,¬k<n->o.getD k []=[]):=λk t=>by rw[ja6,jaj (by have:=hK.len;omega)];rfl
 have aa:χ (∀(W x:ω) (N:Nat) (c0:Array υ) (d:Nat->Rh) (L:Rh),DZ w W N 5 49 c0 d (y.left o)->dR W.heap.size x L (jG y.top [])->β W W x->κ prog 19 #[.agg #[(d 0).p,(d 1).p,(d 2).p,(d 3).p,(d 4).p],L.p] x λe w'=>∃(A:Option Addr) (f:Int),e=.returned (.tuple #[.pointer A,f])/\sV w (y.left o) (jG y.top []) (.returned (.tuple #[.pointer A,f])) w'/\β x x w'):=λW x N c0 d L E K g=>by
  have X:=E.below g
  refine(kan (m:=m) x X.dev K.toG.noG X.apart (λi F k e1 e2=>?_) (λi=>uK (J.dev i) _) (uK J.top _)).mono λe w' hO=>by
   obtain⟨A,f,q1,q2⟩:=(hO.fresh X.bel (λi F b e=>by have:=E.past i F b e;have:=E.new;omega) (λb e=>by have:=(K.lt b e).1;have:=E.bel.size;omega)).shape;exact⟨A,f,q1,q2,hO.1⟩
  have:=(K.lt k e1).1
  have:=((E.dev i F).lt k e2).2
  omega
 generalize sV w (y.left o) (jG y.top [])=OP at *
 generalize y.left o=D at *
 generalize jG y.top []=T at *
 generalize Z.dp y.s=P at *
 generalize Z.tp.p=tp at *
 have ai:χ (∃ d,DZ w (w.alloc (.cells #[.pointer O,.pointer O,.pointer O,.pointer O,.pointer O] 49)) w.heap.size 0 49 #[.pointer O,.pointer O,.pointer O,.pointer O,.pointer O] d D):=⟨λ_=>⟨0,0,0,.nilIface,.nilIface⟩,DZ.start (ja0 _ _)⟩;go_enter func13,ntmps13;go_wp2;go_loopw [7,8] (λi u wr=>∃(k:Nat) (d:Nat->Rh),k<=5/\i=.int .i64 (k:Int)/\DZ w wr w.heap.size k 49 #[.pointer O,.pointer O,.pointer O,.pointer O,.pointer O] d D) (λi _ _=>5-(intOf i).toNat)
 case atStart =>
  obtain⟨d,h0⟩:=ai;exact⟨0,d,by omega,rfl,h0⟩
 case round =>
  obtain⟨k,d,t,rfl,B⟩:=hrel;by_cases r:k<5
  .have H:=ah B;have V:=ah B.bel;have k0:(0:Int)<=(k:Int):=by omega
   have k5:(k:Int)<5:=by omega
   have am:=ac k wr r B.bel;by_cases a0:k<n
   .obtain⟨kg,ko,a1,l1,c1,rfl,ck,hB,ab⟩:=ae k wr V a0;have HC:=ah (a6 k wr a1 l1 c1 r V hB ab);have k1:(k:Int)<(n:Int):=by omega
    go_wp2_with fail;refine HC.mono ?_;rintro e I ⟨q,rfl,z,g⟩;have ag:=ah (H.step (by exact r) g z);obtain⟨_,M,qf⟩:=(H.below g).cell;have R:∃ v,I.cell? ⟨w.heap.size,k,O⟩=S v:=⟨_,(M k (ja1 _)).trans (jbu (show k<5 from r))⟩;obtain⟨v1,af⟩:=R;go_wp2;go_roundw
    case rel =>
      exact⟨k+1,_,by omega,by go_num,ag⟩
    case measure=>simp[intOf];omega
   .go_wp2_with fail;refine(a6 k wr O 0 0 r V (by rw[a9.out k a0];exact a2 _) (ja7 _)).mono ?_;rintro e I ⟨q,rfl,z,g⟩;obtain⟨_,M,qf⟩:=(H.below g).cell;have R:∃ v,I.cell? ⟨w.heap.size,k,O⟩=S v:=⟨_,(M k (ja1 _)).trans (jbu (show k<5 from r))⟩;obtain⟨v1,af⟩:=R;go_wp2;go_roundw
    case rel =>
      exact⟨k+1,_,by omega,by go_num,(H.step (by exact r) g z)⟩
    case measure=>simp[intOf];omega
  .have e5:k=5:=by omega
   subst e5;have U:β wr wr wr.drew:=(ja0 _ _).drew;have a3:=B.below U;obtain⟨t5,ad⟩:=a7 wr.drew a3.bel
   have Y:χ (∀ W:ω,β wr wr W->W.cell? ⟨G,5,O⟩=S (tp:υ)/\W.cell? ⟨w,0,O⟩=S ((d 0).p:υ)/\W.cell? ⟨w,1,O⟩=S ((d 1).p:υ)/\W.cell? ⟨w,2,O⟩=S ((d 2).p:υ)/\W.cell? ⟨w,3,O⟩=S ((d 3).p:υ)/\W.cell? ⟨w,4,O⟩=S ((d 4).p:υ)):=λW j=>by
    have h1:=B.below j;obtain⟨c,_⟩:=h1.cell;exact⟨(a7 W h1.bel).1,c 0 (by omega),c 1 (by omega),c 2 (by omega),c 3 (by omega),c 4 (by omega)⟩
   have a5:=ah U;go_wp2
   go_region_held3 (λW=>W.cell? ⟨G,5,O⟩=S (tp:υ)/\W.cell? ⟨w,0,O⟩=S ((d 0).p:υ)/\W.cell? ⟨w,1,O⟩=S ((d 1).p:υ)/\W.cell? ⟨w,2,O⟩=S ((d 2).p:υ)/\W.cell? ⟨w,3,O⟩=S ((d 3).p:υ)/\W.cell? ⟨w,4,O⟩=S ((d 4).p:υ))
    (first|(exact(Y _ U))|assumption)
    (first
      | (go_at_call 40;refine ad.mono ?_;rintro e I ⟨q,rfl,z,g⟩;have HO:=ah (aa _ _ _ _ _ _ a3 z g);have Q:=ah (a5.trans (g.mono a5.size));have an:=Y _ Q;clear z g)
      | (go_at_call 19;refine HO.mono ?_;rintro e w2 ⟨A,f,rfl,a4,a8⟩;have HQ:=ah a4;have al:=Y _ (Q.trans (a8.mono Q.size));clear a4 a8))
   go_wp2;exact HQ
def bY.from{w:ω}{a w' b Z y y'}(c:β w w a)(h:bY b Z y y' a w'):bY b Z y y' w w':=by
 obtain⟨Z',k,f,i,j⟩:=h;have d:=c.size;exact⟨Z',k.imp id λq g o e=>⟨ja4 d (q g o e).1,(q g o e).2⟩,f.imp id λq g o e=>⟨ja4 d (q g o e).1,(q g o e).2⟩,i,(Moved.of_below c).trans j⟩
def bY.oL{w b w' c Z y y'}(h:bY c Z y y' w b)(a:β b b w'):bY c Z y y' w w':=by
 obtain⟨Z',i,d,j,f⟩:=h;exact⟨Z',i.imp id λq g o e=>⟨(q g o e).1,ja8 (q g o e).2 a.size⟩,d.imp id λq g o e=>⟨(q g o e).1,ja8 (q g o e).2 a.size⟩,j.below a,f.trans (Moved.of_below a)⟩
structure Beside(w:ω)(a:Option Addr)(l:List Int)(S:Nat->Prop):Prop where
 num:Nums w a l
 ap:Apart a S
def nZ{b w Z y i a l F f v}(h:au w b Z y)(g:Beside w a l (fpZ b Z y))
  (m:∀ W,au W b Z y->κ prog F f W λe w'=>e=.returned v/\bY b Z y i W w') :
  ∀ W,β w w W->κ prog F f W λe w'=>e=.returned v/\Nums w' a l/\bY b Z y i w w':=λW c=>by
 refine(m W (h.below c)).mono λe w' ⟨k,d⟩=>⟨k,?_,bY.from c d⟩
 obtain⟨Z',_,_,_,j⟩:=d;exact(g.num.below c).moved j g.ap
def xR(n:Nat):YV:=⟨λ_=>iP n,iP 1,λ_=>O,aj 0,[0],O⟩
def newC(a sp lb:Nat):Array Value := #[.pointer O,.pointer O,.pointer O,.pointer O,.pointer O,a,sp,(0:Int),(0:Int),(-1:Int),(0:Int),(0:Int),.slice (S ⟨lb,0,O⟩) 1 1,.pointer O]
structure NZ(w W:ω)(sp lb:Nat)(th:Rh):Prop where
 bel:β w w W
 shf:W.heap[sp]?=S nI
 lst:W.heap[lb]?=S (.cells #[(0:Int)] 3 (0,0))
 top:dh Gd.no W th (iP 1)
 pst:∀ b,th.fp b->w.heap.size<=b/\lb<b/\sp<b
 new:w.heap.size<=sp/\w.heap.size<=lb
def NZ.aZ{w W wr sp lb n f m}(h:NZ w W sp lb f)(hd:DZ W wr W 5 92 (newC f.p sp lb) m (λ_=>iP n)) :
  au wr W ⟨m,f,λ_=>⟨0,f,.slice O 0 0,.slice O 0 0⟩,sp,S ⟨lb,0,O⟩,1,⟨0,O,0⟩⟩ (xR n)/\(∀ k,fpZ W ⟨m,f,λ_=>⟨0,f,.slice O 0 0,.slice O 0 0⟩,sp,S ⟨lb,0,O⟩,1,⟨0,O,0⟩⟩ (xR n) k->w<=k)/\β w w wr:=by
 have t:=lt_of_some h.shf;have r:=lt_of_some h.lst;have d:=hd.bel;have B:=h.bel.size;obtain⟨c,u,G,x,b⟩:=hd.blk;have s  := (d.block _ r).trans h.lst;refine⟨⟨⟨c,u,λi a=>x i a,b 5 (by omega),b 6 (by omega),b 7 (by omega),b 8 (by omega),b 9 (by omega),b 10 (by omega),b 11 (by omega),b 12 (by omega),b 13 (by omega)⟩,(d.block _ t).trans h.shf,λi v a D=>(by cases D),λi a _=>hd.dev i a,h.top.keep λk e=>d.block k (h.top.lt k e).2,λi j a E y k q l=>hd.apart i j a E y k q l,λi a k q l=>?_,⟨λk z=>?_,λg o e=>?_,λg o e C=>?_⟩,λj e=>(by cases e)⟩,λk e=>?_,h.bel.trans (d.mono B)⟩
 .have F:=hd.past i a k l;have q2:=(h.top.lt k q).2;omega
 .have A:k=0:=by have:k<1:=z;omega
  subst A;exact⟨lb,0,rfl,by rw[cell_of_row _ _ _ _ _ _ s];rfl⟩
 .cases e;exact ja8 r d.size
 .cases e;rcases C with e|e|⟨i,a,e⟩|e|e
  .omega
  .rw[e] at s;rw[(d.block _ t).trans h.shf] at *
   unfold nI at *
   simp at *
  .have:=hd.past i a _ e
   omega
  .have:=(h.pst _ e).2.1;omega
  .exact absurd rfl e.1
 .rcases e with e|e|⟨i,a,e⟩|e|e
  .omega
  .have l:k=sp:=e;have:=h.new.1
   omega
  .have:=hd.past i a _ e
   omega
  .exact(h.pst _ e).1
  .exact absurd rfl e.1
