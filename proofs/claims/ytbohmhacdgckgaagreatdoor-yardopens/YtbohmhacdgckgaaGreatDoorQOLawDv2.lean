/- Two lists of numbers that are the same (the document's own test). -/
import Derived.Test.YtbohmhacdgckgaaGreatDoorQOLawYb
import Derived.Laws.ResultCell
import Derived.Laws.Rows
set_option linter.all false
set_option maxHeartbeats 4000000
set_option maxRecDepth 100000
namespace Go.Proofs.YtbohmhacdgckgaaGreatDoor
open Go.RowKit renaming Below->β
open Go renaming World->ω, Value->υ, Calls->κ
open Option renaming some->S
open Go.Proofs.Tryz Go.RowKit Go.Maps
attribute [local go_sem ↓] Go.wp_at_zero Go.wp_at_succ
def TB{a b:Option Addr}{c1 c2:Nat}(l:List Int)(w:ω)(z:Nums w a l)(u:Nums w b l)(A:l.length<=1000) :
  κ prog 65 #[.slice a l.length c1,.slice b l.length c2] w λe t=>e=.returned true/\β w w t:=by
 have j:Hid (∀(k:Nat) (W:ω),β _ w W->k<l.length->∃ g o g2 o2,a=S _/\b=S _/\W.cell? _=S _/\W.cell? _=S _):=λk W m c=>by
  obtain⟨g,o,d,f⟩:=(z.below m) k c;obtain⟨g2,o2,v,y⟩:=(u.below m) k c;exact⟨g,o,g2,o2,d,v,f,y⟩
 generalize l.length=n at j A |-;go_enter func65,ntmps65
 go_wp2
 go_loopw [5] (λi wr=>∃ k:Nat,k<=n/\i=.int .i64 (k:Int)/\β _ w wr) (λi _=>n-(intOf i).toNat)
 case atStart=>exact⟨0,ja5 _,rfl,ja0 _ _⟩
 case round =>
  obtain⟨k,c,rfl,r⟩:=hrel;have q:=ah r;by_cases s:k<n
  .obtain⟨g,o,g2,o2,rfl,rfl,d,f⟩:=j.out k wr r s
   have C:(k:Int)<(n:Int):=by omega
   generalize l.getD k 0=x at d f;go_wp2
   go_region
   go_wp2
   go_roundw
   case rel =>
    exact⟨k+1,by omega,by go_num,q.out.drew⟩
   case measure=>simp[intOf];omega
  .have B:k=n:=by omega
   subst B;go_wp2
   go_ret
   exact⟨rfl,q.out⟩
def Ue(o:Option JV):∃ a b c d:Int,(match o with|none=>.agg #[(0:Int),(-1:Int),(0:Int),(0:Int)] | some j=>.agg #[j.kind,j.file,j.state,.int .i64 (S4.cnt j.x 64:Nat)])=Value.agg #[a,b,c,d]:=by
 cases o with
 | none=>simp_all
 | some j=>simp_all
def JU{B:Gd}{A x C m:Nat}{w0:ω}(w:ω)(h:Both B w0 A x C m w) :
    κ prog 15 #[A,x] w λe c=>e=.returned true/\β w w c:=by
  obtain⟨Y,Z,y,h,z⟩:=h;have hC:=z.c32;have u:=ah λW (d:β w w W)=>h.below d
  have ai:Hid (∀ W:ω,β w w W->κ prog 66 #[A] W λe c=>∃(g o cap:Nat),e=.returned (.slice (some ⟨g,o,none⟩) y.l.length cap)/\Hid (Nums c (some ⟨g,o,none⟩) y.l)/\β w w c):=λW d=>(VX W (u.out W d).prog z).mono λe c ⟨g,o,cap,t,r,_,_,_,h6⟩=>⟨g,o,cap,t,r,d.trans (h6.mono d.size)⟩
  have M:Hid (∀(W n:ω) (g o cap:Nat),β w w W->Hid (Nums W (some ⟨g,o,none⟩) y.l)->n.heap=W.heap->β w w n->κ prog 65 #[.slice (some ⟨g,o,none⟩) y.l.length cap,.slice Z.la y.l.length Z.lc] n λe c=>e=.returned true/\β w w c):=λW n g o cap d hn he q =>
    (TB y.l n (hn.out.keep λk _ _=>by rw[he]) (u.out n q).ref.list.1 (by have:=z.ch.len;omega)).mono λe c ⟨t,r⟩=>⟨t,q.trans (r.mono q.size)⟩
  obtain⟨sa,sb,sc,sd,a7⟩:=Ue y.j;have ad:Hid (∀ W:ω,β w w W->κ prog 67 #[A] W λe c=>e=.returned (.agg #[sa,sb,sc,sd])/\β w w c):=λW d=>(WB W (u.out W d).prog z).mono λe c ⟨t,r⟩=>⟨t.trans (congrArg Ending.returned a7),d.trans (r.mono d.size)⟩
  have an:Hid (∀ W:ω,β w w W->κ prog 68 #[x] W λe c=>e=.returned (.agg #[sa,sb,sc,sd])/\β w w c):=λW d=>(Xd W (u.out W d).ref).mono λe c ⟨t,r⟩=>⟨t.trans (congrArg Ending.returned a7),d.trans (r.mono d.size)⟩
  have aq:Hid (∀ W:ω,β w w W->κ prog 26 #[A] W λe c=>e=.returned ((4*C:Nat):Int)/\β w w c):=λW d=>(Jm W (u.out W d).prog z).mono λe c ⟨t,r⟩=>⟨t,d.trans (r.mono d.size)⟩
  have N:Hid (∀ W:ω,β w w W->κ prog 25 #[A,(0:Int),((4*C:Nat):Int)] W λe c=>e=.returned (.tuple #[.string (y.s.ji y.l 0 ((4*C:Nat):Int)),erV (y.s.aW y.l 0 ((4*C:Nat):Int))])/\β w w c):=λW d=>(CW 0 _ W (u.out W d).prog z (by omega) (by omega)).mono λe c ⟨t,r⟩=>⟨t,d.trans (r.mono d.size)⟩
  have D:Hid (∀ W:ω,β w w W->κ prog 44 #[Z.sp,.slice Z.la y.l.length Z.lc,(0:Int),((4*C:Nat):Int)] W λe c=>e=.returned (.tuple #[.string (y.s.ji y.l 0 ((4*C:Nat):Int)),y.s.aW y.l 0 ((4*C:Nat):Int)])/\β w w c):=λW d=>(GL y.l 0 _ W ((u.out W d).ref.shelf z.s) (u.out W d).ref.list.1 z.ch.good (by have:=z.ch.len;omega) (by omega) (by omega)).mono λe c ⟨t,r⟩=>⟨t,d.trans (r.mono d.size)⟩
  have X:Hid (∀ W:ω,β w w W->κ prog 69 #[A] W λe c=>∃(g cap:Nat) (I:Nat->Nat) (Q:Nat),e=.returned (.tuple #[.slice (some ⟨g,0,none⟩) 5 cap,Q])/\β w w c /\
      (∀ n:ω,β c c n->κ prog 70 #[Q,Z.tp.p] n λe E=>e=.returned true/\β c c E) /\
      ∀(k:Nat) (n:ω),k<5->β c c n->n.cell? ⟨g,k,none⟩=some (I k:υ)/\n.cell? ⟨x,k,none⟩=some (Z.dp y.s k:υ)/\κ prog 70 #[I k,Z.dp y.s k] n λe E=>e=.returned true/\β c c E):=λW d=>(V3 W (u.out W d).prog).mono λe c ⟨a,cap,hs,th,t,r,h3,h4⟩=>by
    have G  := d.trans (h4.mono d.size);obtain⟨g,rfl,_⟩:=r.ptrs (by decide)
    refine⟨g,cap,λk=>(hs k).p,th.p,t,G,λn q=>?_,λk n H q=>?_⟩
    . exact(Dc n (h3.keep λb e=>q.block b (h3.lt b e).2) (u.out n (G.trans (q.mono G.size))).ref.top.todA z.top.sn).mono λe E ⟨O,q2⟩=>⟨O,q.trans (q2.mono q.size)⟩
    . have hz:=(u.out n (G.trans (q.mono G.size))).ref
      obtain⟨g',e1,_,hp,_⟩:=(r.below q).ptrs (by decide)
      cases e1
      have hc:=hp k H;rw[jaq] at hc;obtain⟨z1,z2,_⟩:=hz.kP H;refine⟨hc,hz.blk.cells.1 k H,?_⟩;rw[<- z2];exact(Dc n ((r.below q).dev k H) z1.todA (z.dev k).sn).mono λe E ⟨O,q2⟩=>⟨O,q.trans (q2.mono q.size)⟩
  have v:Hid (∀ W:ω,β w w W->W.cell? ⟨x,5,none⟩=some (Z.tp.p:υ)/\W.cell? ⟨x,6,none⟩=some (Z.sp:υ)/\W.cell? ⟨x,12,none⟩=some (.slice Z.la y.l.length Z.lc)):=λW d=>by
    obtain⟨_,L,V,_,_,_,_,_,F,_⟩:=(u.out W d).ref.blk.cells;exact⟨L,V,F⟩
  have a8:=Dy y.s y.l 0 ((4*C:Nat):Int);generalize ((4*C:Nat):Int)=n4 at *
  generalize y.s.ji y.l 0 n4=T at N D;generalize y.s.aW y.l 0 n4=f at N D a8;generalize Z.dp y.s=dp at X;generalize Z.tp.p=tz at X v;generalize Z.sp=sp at D v;generalize Z.la=la at D v M;generalize Z.lc=lc at D v M;generalize y.l=l at *
  have aa:Hid (β w w w.drew):=(ja0 _ _).drew;have F:=(v.out _ (ja0 _ _)).2.2;go_enter func15,ntmps15
  go_wp2
  go_region_held3 (λW=>W.cell? ⟨x,12,none⟩=some (.slice la l.length lc))
    (first|(exact F)|assumption)
    (first
      | (go_at_call 66;refine(ai.out _ aa.out).mono ?_;rintro e w1 ⟨g,o,cap,rfl,HN,U⟩;have a3:=ah U;have az:=(v.out _ U).2.2;clear U)
      | (go_at_call 65;refine cEq (M.out w1 _ g o cap a3.out HN rfl a3.out) λw2 q=>?_;have ar:=ah q;have aw:=(v.out _ q).2.2;clear q)
      | (go_at_call 67;refine cEq (ad.out _ ar.out) λE a0=>?_;have ac:=ah a0;have av:=(v.out _ a0).2.2;clear a0)
      | (go_at_call 68;refine cEq (an.out _ ac.out) λw4 S=>?_;have af:=ah S;have ax:=(v.out _ S).2.2;clear S))
  go_wp2_with fail
  refine cHd (aq.out _ af.out) λw5 al=>?_
  go_wp2_with fail
  refine cEq (N.out _ al.out) λw6 a2=>?_
  obtain⟨L,V,F⟩:=v.out _ a2;go_wp2
  go_region_held3 (λW=>W.cell? ⟨x,6,none⟩=some (sp:υ)/\W.cell? ⟨x,12,none⟩=some (.slice la l.length lc))
    (first|(exact⟨V,F⟩)|assumption)
    (first
      | (go_at_call 44;refine(D.out _ ?_).mono ?_;(· exact Alike.after a2 ⟨rfl,rfl,rfl,rfl⟩);rintro e w7 ⟨rfl,R⟩;have ae:=ah R;have c7:=(v.out _ R).2;clear R))
  go_wp2_with fail
  refine(X.out _ ae.out).mono ?_;rintro e J ⟨g,cap,I,Q,rfl,a4,am,ag⟩;have a1:=ah a4;have a9:=ah ag;obtain⟨L,_⟩:=v.out _ a4
  go_wp2_with (first
    | (go_at_call 10;refine cSt (oH f _ a8) ?_)
    | (go_at_call 70;refine cHd (am _ (ja0 _ _)) λw9 ao=>?_;clear L))
  go_loopw [12] (λi wr=>∃ k:Nat,k<=5/\i=.int .i64 (k:Int)/\β J J wr) (λi _=>5-(intOf i).toNat)
  case atStart=>exact⟨0,ja5 _,rfl,ao.out⟩
  case round =>
    obtain⟨k,H,rfl,a5⟩:=hrel;have HB:=ah a5;by_cases a6:k<5
    . obtain⟨d1,d2,_⟩:=a9.out k wr a6 a5
      have P:=ah λn (q:β J J n)=>a9.out k n a6 q
      have k0:(0:Int)<=(k:Int):=by omega
      have k1:(k:Int)<5:=by omega
      have k2:((k:Int)).toNat=k:=by omega
      go_wp2
      go_region_held3 (λW=>W.cell? ⟨g,k,none⟩=some (I k:υ)/\W.cell? ⟨x,k,none⟩=some (dp k:υ))
        (first|(exact⟨d1,d2⟩)|assumption)
        (first
          | (go_at_call 70;refine((P.out _ ?_).2.2).mono ?_;(· exact Alike.after HB.out ⟨rfl,rfl,rfl,rfl⟩);rintro e wa ⟨rfl,K⟩;have ab:=ah K;have d3:=And.intro (P.out _ K).1 (P.out _ K).2.1;clear K))
      go_wp2
      go_roundw
      case rel =>
        exact⟨k+1,by omega,by go_num,ab.out⟩
      case measure=>simp[intOf];omega
    . have ap:k=5:=by omega
      subst ap;go_wp2
      go_ret
      exact⟨rfl,a1.out.trans (HB.out.mono a1.out.size)⟩
def PX(d:Nat->DV)(t:DV):0<=jo d t:=by
 unfold jo;split
 .exact((aK d).walk_good _).2.2.1
 .generalize bytesOf _=b
  have a:0<=bV b:=by
   unfold bV;omega
  unfold Go.Proofs.YtbohmhacdgckgaaGreatDoor.aJ;omega
def YS(w:ω)(a b q:Nat)(W:ω):Prop:=∃ C,Both (Gd.of w.heap.size) w a b C (20+3000*q) W
def YS.bel{w W:ω}{b c q:Nat}(h:YS w b c q W):β w w W:=by
 obtain⟨C,Y,Z,y,a,d⟩:=h;exact a.kept.below (ja1 _) λk e=>Nat.le_of_not_lt e
def YS.later{w W b:ω}{a c q:Nat}(h:YS w a c q W)(d:β W W b):YS w a c q b:=by
 obtain⟨C,h⟩:=h;exact⟨C,h.below d⟩
def YS.next{w W:ω}{a b q:Nat}(h:YS w a b q W):YS w a b (q+1) W:=by
 obtain⟨C,h⟩:=h;exact⟨C,h.more (by omega)⟩
def YS.act{w W:ω}{f g q:Nat}(h:YS w f g q W)(x:aT)(n:nR x)(k:S4.Tab w)(m:0<w.heap.size)(o:q<=100) :
  κ prog 14 #[f,g,.agg #[x.kind,x.a,x.b,x.c,x.d,x.s,.slice x.ka x.kl x.kc]] W λe i=>e=.returned true/\YS w f g (q+1) i:=by
 obtain⟨C,h⟩:=h;exact(VK x W h n k m (by omega)).mono λe i ⟨l,j⟩=>⟨l,C,j.more (by omega)⟩
def YS.as{w W:ω}{a b q:Nat}(h:YS w a b q W) :
  κ prog 15 #[a,b] W λe c=>e=.returned true/\YS w a b q c:=by
 have d:=h;obtain⟨C,h⟩:=h;exact(JU W h).mono λe c ⟨f,g⟩=>⟨f,d.later g⟩
def pU(a:List ByteArray)(k:Nat):ByteArray:=if k<a.length/\16<=(a.getD k ByteArray.empty).size then (a.getD k ByteArray.empty).extract 0 (16*min ((a.getD k ByteArray.empty).size / 16) 200) else dY 16
def rC(a:List ByteArray)(k:Nat):Nat:=(pU a k).size / 16
def rJ(a:List ByteArray)(k:Nat):DV:=DV.made (qc (pU a k) (rC a k) (rC a k)) 0
def wE(a:List ByteArray)(k:Nat):(pU a k).size=rC a k*16/\1<=rC a k/\rC a k<=200:=by
 have h:∃ n,(pU a k).size=n*16/\1<=n/\n<=200:=by
  unfold pU;split
  .next h =>
   refine⟨min ((a.getD k ByteArray.empty).size / 16) 200,?_,by omega,by omega⟩
   rw[jaz];omega
  .exact⟨1,by show(List.replicate 16 (0:UInt8)).toArray.size=_;simp,by omega,by omega⟩
 unfold rC;omega
def Gs(a:List ByteArray)(k:Nat):(rJ a k).fine (rJ a k).fl.length 0:=by
 obtain⟨b,d,c⟩:=wE a k;exact⟨DV.AP (by rw[wu];exact d) (by rw[wu];exact c) (Aw _ _ _ b) (by decide),Fg _ _,rfl,ja1 _⟩
structure Five(W:ω)(N k:Nat)(T:TypeId)(ps:Nat->Nat):Prop where
 is:∃ cur,W.heap[N]?=S (.cells cur T (0,0))/\cur.size=5/\(∀ i,i<k->cur[i]?=S (ps i:υ))/\∀ i,k<=i->i<5->cur[i]?=S (.pointer none)
def Five.lt{W:ω}{N k:Nat}{T:TypeId}{b:Nat->Nat}(h:Five W N k T b):N<W.heap.size:=by
 obtain⟨c,a,_⟩:=h.is;exact lt_of_some a
def Five.keep{W b:ω}{N k:Nat}{T:TypeId}{a:Nat->Nat}(h:Five W N k T a)(e:b.heap[N]?=W.heap[N]?):Five b N k T a:=⟨by rw[e];exact h.is⟩
def Five.cell{W:ω}{N k:Nat}{T:TypeId}{b:Nat->Nat}(h:Five W N k T b):(∀ i,i<k->W.cell? ⟨N,i,none⟩=S (b i:υ))/\(∀ i,k<=i->i<5->W.cell? ⟨N,i,none⟩=S (.pointer none))/\∀ i,W.frozen? ⟨N,i,none⟩=false:=by
 obtain⟨c,d,m,l,j⟩:=h.is;have f:∀ i,W.cell? _=c[i]?:=λi=>cell_of_row W N _ _ _ _ d
 exact⟨λi a=>(f i).trans (l i a),λi g a=>(f i).trans (j i g a),λi=>frozen_of_row W N i _ _ d⟩
def Five.set{W:ω}{N k:Nat}{T:TypeId}{a:Nat->Nat}(h:Five W N k T a)(d:k<5)(p:Nat):Five (W.setCell ⟨N,k,none⟩ p) N (k+1) T (λi=>if i=k then p else a i):=by
 obtain⟨c,g,l,j,f⟩:=h.is;refine⟨c.setIfInBounds k (.pointer (S ⟨p,0,none⟩)),?_,?_,λi b=>?_,λi d b=>?_⟩
 .rw[heap_setCell_same W N k _ _ _ g]
 .simp_all
 .by_cases e:i=k
  .simp_all
  .rw[if_neg e,ja3 (by omega)]
   exact j i (by omega)
 .rw[ja3 (by omega)]
  exact f i (by omega) b
def kD(T:TypeId):Obj:=.cells #[.pointer none,.pointer none,.pointer none,.pointer none,.pointer none] T
def Jy{W:ω}{N:Nat}{T:TypeId}(h:W.heap[N]?=S (kD T))(b:Nat->Nat):Five W N 0 T b:=⟨_,h,rfl,λi a=>by omega,λi _ a=>by
 match i,a with
 | 0,_=>rfl
 | 1,_=>rfl
 | 2,_=>rfl
 | 3,_=>rfl
 | 4,_=>rfl⟩
structure DW(w W:ω)(k:Nat)(hs:Nat->Hd)(qs:Nat->Rh)(D:Nat->DV):Prop where
 l:Five W (w.heap.size+2) k 47 λi=>(hs i).p
 m:Five W (w.heap.size+3) k 49 λi=>(qs i).p
 r2:W.heap[w.heap.size]?=S (kD 47)
 r3:W.heap[w.heap.size+1]?=S (kD 49)
 dev:∀ i,i<k->aO (w.heap.size+4) W (hs i) (D i)
 ref:∀ i,i<k->dA (w.heap.size+4) W (qs i) (D i)
 apart:∀ i j,i<k->j<k->i≠j->∀ b,(qs i).fp b->¬(qs j).fp b
 bel:β w w W
def DW.big{w W:ω}{k:Nat}{a:Nat->Hd}{qs:Nat->Rh}{D:Nat->DV}(h:DW w W k a qs D):w.heap.size+4<=W.heap.size:=by have:=h.m.lt;omega
def DW.below{w W f:ω}{k:Nat}{d:Nat->Hd}{qs:Nat->Rh}{D:Nat->DV}(h:DW w W k d qs D)(a:β W W f):DW w f k d qs D :=
 ⟨h.l.keep (a.block _ h.l.lt),h.m.keep (a.block _ h.m.lt),(a.block _ (lt_of_some h.r2)).trans h.r2,(a.block _ (lt_of_some h.r3)).trans h.r3,λi c=>(h.dev i c).keep λb e=>a.block b ((h.dev i c).lt b e).2,λi c=>(h.ref i c).keep λb e=>a.block b ((h.ref i c).lt b e).2,h.apart,h.bel.trans (a.mono h.bel.size)⟩
def DW.start(w:ω)(n:Nat->Hd)(qs:Nat->Rh)(D:Nat->DV):DW w ((((w.alloc (kD 47)).alloc (kD 49)).alloc (kD 47)).alloc (kD 49)) 0 n qs D:=by
 have l:(w.alloc (kD 47)).heap.size=w.heap.size+1:=by simp
 have o:((w.alloc (kD 47)).alloc (kD 49)).heap.size=w.heap.size+2:=by simp
 have m:(((w.alloc (kD 47)).alloc (kD 49)).alloc (kD 47)).heap.size=w.heap.size+3:=by simp
 have c:β (w.alloc (kD 47)).heap.size _ ((w.alloc _).alloc (kD 49)):=(ja0 _ _).alloc (ja1 _) _;have b:=(ja0 ((w.alloc (kD 47)).alloc (kD 49)).heap.size _).alloc (ja1 _) (kD 47);have a:=(ja0 (((w.alloc (kD 47)).alloc (kD 49)).alloc (kD 47)).heap.size _).alloc (ja1 _) (kD 49);have d:=heap_alloc_new (w.alloc (kD 47)) (kD 49);have g:=heap_alloc_new ((w.alloc (kD 47)).alloc (kD 49)) (kD 47);have k:=heap_alloc_new (((w.alloc (kD 47)).alloc (kD 49)).alloc (kD 47)) (kD 49);rw[l] at c d;rw[o] at b g;rw[m] at a k
 refine⟨Jy ?_ _,Jy k _,?_,?_,λi f=>by omega,λi f=>by omega,λi j f=>by omega,?_⟩
 .rw[a.block _ (by omega)];exact g
 .rw[a.block _ (by omega),b.block _ (by omega),c.block _ (by omega)];exact(heap_alloc_new w (kD 47))
 .rw[a.block _ (by omega),b.block _ (by omega)];exact d
 .exact((ja0 _ _).alloc (ja1 _) _).trans ((c.mono (by omega)).trans ((b.mono (by omega)).trans (a.mono (by omega))))
structure DI(w W:ω)(k:Nat)(hs:Nat->Hd)(qs:Nat->Rh)(D:Nat->DV)(fl:List (List UInt8)):Prop where
 l:Five W (w.heap.size+2) (k+1) 47 λi=>(hs i).p
 m:Five W (w.heap.size+3) (k+1) 49 λi=>(qs i).p
 r2:W.heap[w.heap.size]?=S (kD 47)
 r3:W.heap[w.heap.size+1]?=S (kD 49)
 dev:∀ i,i<k+1->aO (w.heap.size+4) W (hs i) (D i)
 ref:∀ i,i<k->dA (w.heap.size+4) W (qs i) (D i)
 now:eH (w.heap.size+4) W (qs k) fl 0 [] 0 [] (-1) ((0:Nat):Int)
 off:∀ i,i<k+1->∀ b,(hs i).fp b->¬(qs k).fp b
 apart:∀ i j,i<k+1->j<k+1->i≠j->∀ b,(qs i).fp b->¬(qs j).fp b
 bel:β w w W
def Oo{W:ω}{N k:Nat}{T:TypeId}{b:Nat->Hd}{a:Hd}(h:Five W N (k+1) T λi=>if i=k then a.p else (b i).p):Five W N (k+1) T λi=>(setH b k a i).p:=by
 have e:(λi=>(setH b k a i).p)=λi=>if i=k then a.p else (b i).p:=by
  funext i
  unfold setH;split<;>rfl
 simp_all
def Oq{W:ω}{N k:Nat}{T:TypeId}{qs:Nat->Rh}{q:Rh}(h:Five W N (k+1) T λi=>if i=k then q.p else (qs i).p):Five W N (k+1) T λi=>(kG qs k q i).p:=by
 have e:(λi=>(kG qs k q i).p)=λi=>if i=k then q.p else (qs i).p:=by
  funext i
  unfold kG;split<;>rfl
 simp_all
structure DM(w W:ω)(k:Nat)(hs:Nat->Hd)(qs:Nat->Rh)(D:Nat->DV):Prop where
 l:Five W (w.heap.size+2) (k+1) 47 λi=>(hs i).p
 m:Five W (w.heap.size+3) k 49 λi=>(qs i).p
 r2:W.heap[w.heap.size]?=S (kD 47)
 r3:W.heap[w.heap.size+1]?=S (kD 49)
 dev:∀ i,i<k+1->aO (w.heap.size+4) W (hs i) (D i)
 ref:∀ i,i<k->dA (w.heap.size+4) W (qs i) (D i)
 apart:∀ i j,i<k->j<k->i≠j->∀ b,(qs i).fp b->¬(qs j).fp b
 bel:β w w W
def DW.of{w W a:ω}{k:Nat}{n:Nat->Hd}{qs:Nat->Rh}{D:Nat->DV}{d:Hd}(j:DW w W k n qs D)(o:k<5)(f:β W W a)(hd:aO W.heap.size a d (D k)) :
  a.cell? ⟨w.heap.size+2,k,none⟩=S (.pointer none)/\a.frozen? ⟨w.heap.size+2,k,none⟩=false/\DM w (a.setCell ⟨w.heap.size+2,k,none⟩ d.p) k (setH n k d) qs D:=by
 have q:=j.big;have h:=j.below f;obtain⟨_,c2,c3⟩:=h.l.cell;have c:∀ b,b≠w.heap.size+2->(a.setCell ⟨w.heap.size+2,k,none⟩ d.p).heap[b]?=a.heap[b]?:=λb f=>heap_setCell_other _ _ _ _ f
 refine⟨c2 k (ja1 _) o,c3 k,Oo (h.l.set o d.p),h.m.keep (c _ (by omega)),(c _ (by omega)).trans h.r2,(c _ (by omega)).trans h.r3,λi g=>?_,λi g=>(h.ref i g).keep λb e=>c b (by have:=((h.ref i g).lt b e).1;omega),h.apart,h.bel.setCell (by simp_all) _⟩
 unfold setH;by_cases e:i=k
 .rw[if_pos e,e]
  exact(hd.zA q).keep λb e=>c b (by have:=(hd.lt b e).1;omega)
 .rw[if_neg e]
  exact(h.dev i (by omega)).keep λb r=>c b (by have:=((h.dev i (by omega)).lt b r).1;omega)
def DM.new{w W g:ω}{k:Nat}{x:Nat->Hd}{qs:Nat->Rh}{D:Nat->DV}{q:Rh}{fl:List (List UInt8)}(h:DM w W k x qs D)(z:k<5)(d:β W W g)(hd:dA W.heap.size g q (DV.made fl 0)) :
  g.cell? ⟨w.heap.size+3,k,none⟩=S (.pointer none)/\g.frozen? ⟨w.heap.size+3,k,none⟩=false/\DI w (g.setCell ⟨w.heap.size+3,k,none⟩ q.p) k x (kG qs k q) D fl:=by
 have u:w.heap.size+4<=W.heap.size:=by have:=h.m.lt;omega
 have y:=h.m.keep (d.block _ h.m.lt);obtain⟨_,c2,c3⟩:=y.cell;have n:∀ b,b≠w.heap.size+3->(g.setCell ⟨w.heap.size+3,k,none⟩ q.p).heap[b]?=g.heap[b]?:=λb d=>heap_setCell_other _ _ _ _ d
 have t:=λi (a:i<k+1)=>(h.dev i a).keep λb e=>d.block b ((h.dev i a).lt b e).2
 have r:=λi (a:i<k)=>(h.ref i a).keep λb e=>d.block b ((h.ref i a).lt b e).2
 have A:kG qs k q k=q:=by unfold kG;rw[if_pos rfl]
 refine⟨c2 k (ja1 _) z,c3 k,(h.l.keep (d.block _ h.l.lt)).keep (n _ (by omega)),Oq (y.set z q.p),(n _ (by omega)).trans ((d.block _ (lt_of_some h.r2)).trans h.r2),(n _ (by omega)).trans ((d.block _ (lt_of_some h.r3)).trans h.r3),λi a=>(t i a).keep λb e=>n b (by have:=((t i a).lt b e).1;omega),λi a=>?_,?_,λi a b f c=>?_,λi j a B v b f c=>?_,(h.bel.trans (d.mono h.bel.size)).setCell (by simp_all) _⟩
 .unfold kG
  rw[if_neg (by omega)]
  exact(r i a).keep λb e=>n b (by have:=((r i a).lt b e).1;omega)
 .rw[A]
  have:=((hd.base u).keep λb e=>n b (by have:=((hd.base u).lt b e).1;omega)).inn
  exact this
 .rw[A] at c
  have:=((h.dev i a).lt b f).2
  have:=(hd.lt b c).1
  omega
 .unfold kG at f c
  by_cases o:i=k
  .rw[if_pos o] at f
   rw[if_neg (λe=>v (by rw[o,e]))] at c
   have:=(hd.lt b f).1
   have:=((h.ref j (by omega)).lt b c).2
   omega
  .rw[if_neg o] at f
   by_cases s:j=k
   .rw[if_pos s] at c
    have:=(hd.lt b c).1
    have:=((h.ref i (by omega)).lt b f).2
    omega
   .rw[if_neg s] at c
    exact h.apart i j (by omega) (by omega) v b f c
def DI.cells{w W:ω}{k:Nat}{c:Nat->Hd}{qs:Nat->Rh}{D:Nat->DV}{fl:List (List UInt8)}(h:DI w W k c qs D fl):W.cell? ⟨w.heap.size+3,k,none⟩=S ((qs k).p:υ)/\W.cell? ⟨(qs k).p,0,none⟩=S (.slice (S ⟨(qs k).bf,0,none⟩) fl.length (qs k).cf) /\
  ∀ j,j<fl.length->W.cell? ⟨(qs k).bf,j,none⟩=S (.string (bytesOf (fl.getD j [])))/\W.frozen? ⟨(qs k).bf,j,none⟩=false:=by
 refine⟨h.m.cell.1 k (by omega),h.now.cell0,λj b=>?_⟩
 have a:=h.now.of.cellAt j (by omega)
 rw[xu _ _ b] at a;exact⟨a,h.now.of.frozenAt j⟩
theorem DI.set{w W:ω}{k j:Nat}{f:Nat->Hd}{qs:Nat->Rh}{D:Nat->DV}{fl:List (List UInt8)}(h:DI w W k f qs D fl)(s:List UInt8):DI w (W.setCell ⟨(qs k).bf,j,none⟩ (.string (bytesOf s))).drew k f qs D (fl.set j s):=by
 have n  := (dQ h.now.of).1;have a:∀ b,b≠(qs k).bf->(W.setCell ⟨(qs k).bf,j,none⟩ (.string (bytesOf s))).drew.heap[b]?=W.heap[b]?:=λb g=>heap_setCell_other _ _ _ _ g
 exact⟨h.l.keep (a _ (by omega)),h.m.keep (a _ (by omega)),(a _ (by omega)).trans h.r2,(a _ (by omega)).trans h.r3,λi c=>(h.dev i c).keep λb e=>a b (λd=>h.off i c b e (d▸.inr (.inl rfl))),λi c=>(h.ref i c).keep λb e=>a b (λd=>h.apart i k (by omega) (by omega) (by omega) b e (d▸.inr (.inl rfl))),(h.now.yK j s).drew,h.off,h.apart,(h.bel.setCell (by show w.heap.size<=(qs k).bf;omega) _).drew⟩
def DI.done{w W:ω}{k:Nat}{a:Nat->Hd}{qs:Nat->Rh}{D:Nat->DV}{fl:List (List UInt8)}(h:DI w W k a qs D fl)(b:D k=DV.made fl 0):DW w W (k+1) a qs D :=
 ⟨h.l,h.m,h.r2,h.r3,h.dev,λi c=>by
  by_cases e:i=k
  .rw[e,b]
   exact⟨h.now.pB,h.now.blk,h.now.of,h.now.o1,h.now.o2,h.now.ne⟩
  .exact h.ref i (by omega),h.apart,h.bel⟩
def sW(a:List ByteArray)(b:Nat):Bool:=decide (a.length<=20/\∀ k,k<a.length->(a.getD k ByteArray.empty).size<=b)
def Az{a b:Bool}(h:a=b):Ending.returned a=.returned b:=by rw[h]
def Js(l:Option Addr)(len cap:Nat)(a:List ByteArray)(w:ω)(f:Texts w l len a)(x:len<=maxLen) :
  κ prog 16 #[.slice l len cap,(3300:Int)] w λe v=>e=.returned (.bool (sW a 3300))/\v=w:=by
 unfold maxLen at x;obtain⟨t,f⟩:=f;by_cases A:20<len
 .have c:Hid (sW a 3300=false):=by unfold Hid sW;simp;omega
  clear f;go_enter func16,ntmps16
  go_wp2
  go_ret
  exact⟨Az c.out.symm,rfl⟩
 .have z:Hid (∀ k,k<len->∃ b g,l=S ⟨b,g,none⟩/\w.cell? ⟨b,g+k,none⟩=S (.string (a.getD k ByteArray.empty))/\(a.getD k ByteArray.empty).size<=maxLen):=f
  have m:Hid (a.length=len):=t;clear f t;go_enter func16,ntmps16
  go_wp2
  go_loop [5] (λi=>∃ k:Nat,k<=len/\i=.int .i64 k/\∀ j,j<k->(a.getD j ByteArray.empty).size<=3300) (λi=>len-(intOf i).toNat)
  case atStart=>exact⟨0,ja5 _,rfl,λj q=>by omega⟩
  case round =>
   obtain⟨k,B,rfl,d⟩:=hrel;by_cases o:k<len
   .obtain⟨b,g,rfl,u,n⟩:=z.out k o
    unfold maxLen at n;by_cases r:3300<(a.getD k ByteArray.empty).size
    .have c:Hid (sW a 3300=false):=by
      unfold Hid sW;simp only[decide_eq_false_iff_not];rintro⟨_,h⟩;have:=h k (by rw[m.out];exact o)
      omega
     clear d;generalize a.getD k ByteArray.empty=s at u n r;go_wp2
     go_ret
     exact⟨Az c.out.symm,rfl⟩
    .have y:Hid (∀ j,j<k+1->(a.getD j ByteArray.empty).size<=3300):=by
      intro j q;by_cases e:j=k
      .rw[e];omega
      .exact d j (by omega)
     clear d;generalize a.getD k ByteArray.empty=s at u n r;go_wp2
     go_round
     case rel=>exact⟨k+1,by omega,by go_num,y.out⟩
     case measure=>simp[intOf];omega
   .have c:Hid (sW a 3300=true):=by
     unfold Hid sW;simp only[decide_eq_true_eq];exact⟨by rw[m.out];omega,λj q=>d j (by have:=m.out;omega)⟩
    clear d;go_wp2
    go_ret
    exact⟨Az c.out.symm,rfl⟩
def Vu{d:Func}{p q u:Tmp}{t1 t2:TypeId}(h:d.results = #[.cell p t1,.cell q t2,.tmp u])(c:Array υ)(P:Program)(w:ω) :
    (results d c).run P w =
      ((asAddr (c.getD p undef)).run P w).andThen λa w₁=>((loadVar t1 a).run P w₁).andThen λv w₂=>((asAddr (c.getD q undef)).run P w₂).andThen λb w₃=>((loadVar t2 b).run P w₃).andThen λu₁ w₄=>.ok (.tuple #[v,u₁,c.getD u undef]) w₄:=by
  simp only[results,h];simp[Sem.run_bind,Result.andThen]
def uT(W:ω)(N:Nat)(p:Nat->Nat):World:=((((W.setCell ⟨N,0,none⟩ (p 0)).setCell ⟨N,1,none⟩ (p 1)).setCell ⟨N,2,none⟩ (p 2)).setCell ⟨N,3,none⟩ (p 3)).setCell ⟨N,4,none⟩ (p 4)
def vk(p:Nat->Nat):Array Value := #[p 0,p 1,p 2,p 3,p 4]
def MX{W:ω}{N:Nat}{T:TypeId}(h:W.heap[N]?=S (kD T))(p:Nat->Nat):(uT W N p).heap[N]?=S (.cells (vk p) T (0,0)):=by
 unfold uT;unfold kD at h;rw[heap_setCell_same _ _ _ _ _ _ (heap_setCell_same _ _ _ _ _ _ (heap_setCell_same _ _ _ _ _ _ (heap_setCell_same _ _ _ _ _ _ (heap_setCell_same _ _ _ _ _ _ h))))];rfl
def xI{W:ω}{N b:Nat}(h:b≠N)(p:Nat->Nat):(uT W N p).heap[b]?=W.heap[b]?:=by
 unfold uT;rw[heap_setCell_other _ _ _ _ h,heap_setCell_other _ _ _ _ h,heap_setCell_other _ _ _ _ h,heap_setCell_other _ _ _ _ h,heap_setCell_other _ _ _ _ h]
def MW{a W:ω}{B N:Nat}(h:β B a W)(b:B<=N)(p:Nat->Nat):β B a (uT W N p):=((((h.setCell b _).setCell b _).setCell b _).setCell b _).setCell b _
def Ot{W:ω}{g:Nat}{p:Nat->Nat}(h:W.heap[g]?=S (.cells (vk p) 47 (0,0))):(loadVar 47 ⟨g,0,none⟩).run prog W=.ok (.agg (vk p)) W:=run_loadVar_row W g _ _ _ _ _ h underlying47 rfl (by kernel_rfl)
def Po{W:ω}{g:Nat}{p:Nat->Nat}(h:W.heap[g]?=S (.cells (vk p) 49 (0,0))):(loadVar 49 ⟨g,0,none⟩).run prog W=.ok (.agg (vk p)) W:=run_loadVar_row W g _ _ _ _ _ h underlying49 rfl (by kernel_rfl)
def xH(w a:ω)(c:List ByteArray)(d:Nat->Hd)(qs:Nat->Rh):Prop :=
 (∀ i,i<5->aO w.heap.size a (d i) (rJ c i))/\(∀ i,i<5->dA w.heap.size a (qs i) (rJ c i))/\(∀ i j,i<5->j<5->i≠j->∀ b,(qs i).fp b->¬(qs j).fp b)/\β w w a
def DW.Om{w W:ω}{j:List ByteArray}{a:Nat->Hd}{qs:Nat->Rh}(h:DW w W 5 a qs (rJ j))(V:ω)(n:V=(uT (uT W w.heap.size λi=>(a i).p) (w.heap.size+1) λi=>(qs i).p).drew) :
  (loadVar 47 ⟨w,0,none⟩).run prog V=.ok (.agg (vk λi=>(a i).p)) V/\(loadVar 49 ⟨w.heap.size+1,0,none⟩).run prog V=.ok (.agg (vk λi=>(qs i).p)) V/\xH w V j a qs:=by
 subst n;obtain⟨d,c⟩:∃ d,d=uT (uT W w.heap.size λi=>(a i).p) (w.heap.size+1) λi=>(qs i).p:=⟨_,rfl⟩
 have m:d.heap[w.heap.size]?=S (.cells (vk λi=>(a i).p) 47 (0,0)):=by
  rw[c,xI (by omega)]
  exact MX h.r2 _
 have l:d.heap[w.heap.size+1]?=S (.cells (vk λi=>(qs i).p) 49 (0,0)):=by
  rw[c];refine MX ?_ _;rw[xI (by omega)]
  exact h.r3
 have g:∀ b,w.heap.size+4<=b->d.heap[b]?=W.heap[b]?:=λb o=>by
  rw[c,xI (by omega),xI (by omega)]
 have k:β w w d:=by
  rw[c];exact MW (MW h.bel (ja1 _) _) (jb5 _) _
 rw[<- c];clear c;refine⟨Ot m,Po l,λi f=>?_,λi f=>?_,h.apart,k.drew⟩
 .exact((h.dev i f).zA (by omega)).keep λb e=>g b ((h.dev i f).lt b e).1
 .exact((h.ref i f).base (by omega)).keep λb e=>g b ((h.ref i f).lt b e).1
def Jf(la:Option Addr)(len cap:Nat)(a:List ByteArray)(w:ω)(hT:Texts w la len a) :
  κ prog 17 #[.slice la len cap] w λe F=>∃(c:Nat->Hd) (qs:Nat->Rh),e=.returned (.tuple #[.agg #[(c 0).p,(c 1).p,(c 2).p,(c 3).p,(c 4).p],.agg #[(qs 0).p,(qs 1).p,(qs 2).p,(qs 3).p,(qs 4).p],true])/\xH w F a c qs:=by
 have av:a.length=len:=hT.1;have ad:Hid (∀ W:ω,κ prog 43 #[(16:Int)] W λe F=>e=.returned (.string (dY 16))/\β W W F):=λW=>Px 16 W (by decide)
 have a7:Hid (∀(k:Nat) (W:ω),k<len->β w w W->∃ b am,la=some ⟨b,am,none⟩/\W.cell? ⟨b,am+k,none⟩=some (.string (a.getD k ByteArray.empty))/\(a.getD k ByteArray.empty).size<=maxLen):=λk W hk hb=>(hT.below hb).2 k hk
 have ae:Hid (∀(k:Nat) (W:ω),κ prog 71 #[.string (pU a k)] W λe F=>∃ h:Hd,e=.returned (.tuple #[h.p,.nilIface])/\aO W.heap.size F h (rJ a k)/\β W W F):=λk W=>P5 _ _ W (wE a k).1 (wE a k).2.1 (wE a k).2.2
 have ac:Hid (∀(k:Nat) (W:ω),κ prog 36 #[(rC a k:Int)] W λe F=>∃ q:Rh,e=.returned q.p/\dA W.heap.size F q (DV.made (qc (pU a k) (rC a k) 0) 0)/\β W W F):=λk W=>by
  have:=FI (rC a k) W (wE a k).2.1 (wE a k).2.2
  rw[<- DT (pU a k) (rC a k)] at this;exact this
 have ai:Hid (∃ c qs,DW w ((((w.alloc (kD 47)).alloc (kD 49)).alloc (kD 47)).alloc (kD 49)) 0 c qs (rJ a)):=⟨λ_=>⟨0,0,0,0,0,.nilIface⟩,λ_=>⟨0,0,0,.nilIface,.nilIface⟩,DW.start w _ _ _⟩
 clear hT;unfold kD at ai;go_enter func17,ntmps17
 go_wp2
 go_loopw [7,8,9,10,11,12] (λi _ _ _ _ _ wr=>∃(k:Nat) (c:Nat->Hd) (qs:Nat->Rh),k<=5/\i=.int .i64 (k:Int)/\DW w wr k c qs (rJ a)) (λi _ _ _ _ _ _=>5-(intOf i).toNat)
 case atStart =>
  obtain⟨c,qs,h0⟩:=ai.out;exact⟨0,c,qs,by omega,rfl,h0⟩
 case round =>
  clear ai;obtain⟨k,c,qs,hk,rfl,E⟩:=hrel;by_cases Q:k<5
  .have HL:=ah E
   have HB:=ah E.bel;have k0:(0:Int)<=(k:Int):=by omega
   have k5:(k:Int)<5:=by omega
   have g5:decide ((k:Int)<5)=true:=decide_eq_true k5;have B:=ah (ae.out k);have s:=ah (ac.out k);obtain⟨S,n2,n3⟩:=wE a k;have Z:((pU a k).size:Int) / 16=(rC a k:Int):=by omega
   have A:Hid (∀ t,qc (pU a k) (rC a k) (t+1)=(qc (pU a k) (rC a k) t).set t (chunk (pU a k) t)):=λt=>CZ _ _ t
   have G:Hid (∀ t,(qc (pU a k) (rC a k) t).length=rC a k):=λt=>wu _ _ t
   have T:Hid (∀ t,Value.string ((pU a k).extract (16*t) (16*t+16))=.string (bytesOf (chunk (pU a k) t))):=λt=>by
    rw[<- Me,wG]
   have C:Hid (rJ a k=DV.made (qc (pU a k) (rC a k) (rC a k)) 0):=rfl;clear E ae ac;go_wp2_with fail
   refine(ad.out _).mono ?_;rintro e w1 ⟨rfl,ag⟩;have R:=ah (HL.out.below ag);have ap:Hid (β w w w1):=HB.out.trans (ag.mono HB.out.size);clear ag HL HB ad;by_cases an:k<len
   .obtain⟨bg,bo,rfl,bc,bs⟩:=a7.out k w1 an ap.out
    have g1:decide ((k:Int)<(len:Int))=true:=decide_eq_true (by omega)
    have u:(k:Int)<(len:Int):=by omega
    unfold maxLen at bs;by_cases ab:16<=(a.getD k ByteArray.empty).size
    .obtain⟨z,af⟩:∃ z,z=min ((a.getD k ByteArray.empty).size / 16) 200:=⟨_,rfl⟩
     have D:Hid ((a.getD k ByteArray.empty).extract 0 (16*z)=pU a k):=by unfold Hid pU;rw[if_pos ⟨by omega,ab⟩,af]
     generalize a.getD k ByteArray.empty=b at bc bs ab af D;have g2:decide (16<=(b.size:Int))=true:=decide_eq_true (by omega)
     have g3:min ((b.size:Int) / 16) 200=(z:Int):=by omega
     have g4:IntKind.i64.wrap (16*(z:Int))=16*(z:Int):=ja7 _ (by omega)
     have g6:16*(z:Int)<=(b.size:Int):=by omega
     have g7:(0:Int)<=16*(z:Int):=by omega
     have g8:(16*(z:Int)).toNat=16*z:=by omega
     clear af;go_wp2_with fail
     rw[D.out];generalize qc (pU a k) (rC a k)=o at s A G C;generalize pU a k=x at B S Z A T |-;generalize rC a k=n at s S n2 n3 Z G C;clear D a7;refine(B.out _).mono ?_;rintro e w2 ⟨h',rfl,hd,J⟩;obtain⟨lc,lf,H⟩:=R.out.of Q J hd;have M:=ah H;clear H hd J R B;go_wp2_with fail
     refine(s.out _).mono ?_;rintro e w3 ⟨q,rfl,N,K⟩;obtain⟨mc,mf,P⟩:=M.out.new Q K N;have f:=ah P;clear P N K M s lc lf;generalize a9:w3.setCell ⟨w.heap.size+3,k,none⟩ q.p=W4 at f |-;generalize setH c k h'=g at f;generalize kG qs k q=d at f;go_wp2
     clear a9 mc mf;go_loopw [12] (λj wx=>∃ t:Nat,t<=n/\j=.int .i64 (t:Int)/\DI w wx k g d (rJ a) (o t)) (λj _=>n-(intOf j).toNat)
     case atStart=>exact⟨0,ja5 _,rfl,f.out⟩
     case round =>
      clear f;obtain⟨t,ht,rfl,y⟩:=hrel;obtain⟨c1,c2,c3⟩:=y.cells;rw[G.out t] at c2 c3;have r:=ah y;clear y;by_cases a6:t<n
      .obtain⟨I,ff⟩:=c3 t a6
       have O:=T.out t
       have L:Hid (DI w (wr.setCell ⟨(d k).bf,t,none⟩ (.string (x.extract (16*t) (16*t+16)))).drew k g d (rJ a) (o (t+1))):=by
        unfold Hid;rw[O,A.out t];exact r.out.set _
       generalize d k=q1 at c1 c2 I ff L;generalize o t=ct at I;have t0:(0:Int)<=(t:Int):=by omega
       have t1:(t:Int)<(n:Int):=by omega
       have t2:16*(t:Int)+16<=(x.size:Int):=by omega
       have t3:(0:Int)<=16*(t:Int):=by omega
       have t4:(0:Int)<=16*(t:Int)+16:=by omega
       have t5:(16*(t:Int)).toNat=16*t:=by omega
       have t6:(16*(t:Int)+16).toNat=16*t+16:=by omega
       have t7:IntKind.i64.wrap (16*(t:Int))=16*(t:Int):=ja7 _ (by omega)
       have t9:IntKind.i64.wrap (16*(t:Int)+16)=16*(t:Int)+16:=ja7 _ (by omega)
       have al:16*(t:Int)<=16*(t:Int)+16:=by omega
       clear O c3 r;go_wp2
       go_region
       go_wp2
       go_roundw
       case rel =>
        have fin:∃ t1:Nat,t1<=n/\Value.int .i64 ((t:Int)+1)=.int .i64 (t1:Int)/\DI w (wr.setCell ⟨q1.bf,t,none⟩ (.string (x.extract (16*t) (16*t+16)))).drew k g d (rJ a) (o t1):=⟨t+1,by omega,by go_num,L.out⟩
        first|exact fin|((repeat apply Exists.intro);exact⟨fin,rfl⟩)
       case measure=>simp[intOf];omega
      .have a5:t=n:=by omega
       subst a5;have HD:=ah (r.out.done C.out);have q9:decide ((t:Int)<(t:Int))=false:=by simp
       clear r c3;go_wp2
       go_roundw
       case rel =>
        have fin:∃(u:Nat) (c:Nat->Hd) (qs:Nat->Rh),u<=5/\Value.int .i64 ((k:Int)+1)=.int .i64 (u:Int)/\DW w wr u c qs (rJ a):=⟨k+1,g,d,by omega,by go_num,HD.out⟩
        first|exact fin|((repeat apply Exists.intro);exact⟨fin,rfl⟩)
       case measure=>simp[intOf];omega
    .have D:Hid (dY 16=pU a k):=by unfold Hid pU;rw[if_neg (by omega)]
     generalize a.getD k ByteArray.empty=b at bc bs ab;have g2:decide (16<=(b.size:Int))=false:=decide_eq_false (by omega)
     go_wp2_with fail
     rw[D.out];generalize qc (pU a k) (rC a k)=o at s A G C;generalize pU a k=x at B S Z A T |-;generalize rC a k=n at s S n2 n3 Z G C;clear D a7;refine(B.out _).mono ?_;rintro e w2 ⟨h',rfl,hd,J⟩;obtain⟨lc,lf,H⟩:=R.out.of Q J hd;have M:=ah H;clear H hd J R B;go_wp2_with fail
     refine(s.out _).mono ?_;rintro e w3 ⟨q,rfl,N,K⟩;obtain⟨mc,mf,P⟩:=M.out.new Q K N;have f:=ah P;clear P N K M s lc lf;generalize a9:w3.setCell ⟨w.heap.size+3,k,none⟩ q.p=W4 at f |-;generalize setH c k h'=g at f;generalize kG qs k q=d at f;go_wp2
     clear a9 mc mf;go_loopw [12] (λj wx=>∃ t:Nat,t<=n/\j=.int .i64 (t:Int)/\DI w wx k g d (rJ a) (o t)) (λj _=>n-(intOf j).toNat)
     case atStart=>exact⟨0,ja5 _,rfl,f.out⟩
     case round =>
      clear f;obtain⟨t,ht,rfl,y⟩:=hrel;obtain⟨c1,c2,c3⟩:=y.cells;rw[G.out t] at c2 c3;have r:=ah y;clear y;by_cases a6:t<n
      .obtain⟨I,ff⟩:=c3 t a6
       have O:=T.out t
       have L:Hid (DI w (wr.setCell ⟨(d k).bf,t,none⟩ (.string (x.extract (16*t) (16*t+16)))).drew k g d (rJ a) (o (t+1))):=by
        unfold Hid;rw[O,A.out t];exact r.out.set _
       generalize d k=q1 at c1 c2 I ff L;generalize o t=ct at I;have t0:(0:Int)<=(t:Int):=by omega
       have t1:(t:Int)<(n:Int):=by omega
       have t2:16*(t:Int)+16<=(x.size:Int):=by omega
       have t3:(0:Int)<=16*(t:Int):=by omega
       have t4:(0:Int)<=16*(t:Int)+16:=by omega
       have t5:(16*(t:Int)).toNat=16*t:=by omega
       have t6:(16*(t:Int)+16).toNat=16*t+16:=by omega
       have t7:IntKind.i64.wrap (16*(t:Int))=16*(t:Int):=ja7 _ (by omega)
       have t9:IntKind.i64.wrap (16*(t:Int)+16)=16*(t:Int)+16:=ja7 _ (by omega)
       have al:16*(t:Int)<=16*(t:Int)+16:=by omega
       clear O c3 r;go_wp2
       go_region
       go_wp2
       go_roundw
       case rel =>
        have fin:∃ t1:Nat,t1<=n/\Value.int .i64 ((t:Int)+1)=.int .i64 (t1:Int)/\DI w (wr.setCell ⟨q1.bf,t,none⟩ (.string (x.extract (16*t) (16*t+16)))).drew k g d (rJ a) (o t1):=⟨t+1,by omega,by go_num,L.out⟩
        first|exact fin|((repeat apply Exists.intro);exact⟨fin,rfl⟩)
       case measure=>simp[intOf];omega
      .have a5:t=n:=by omega
       subst a5;have HD:=ah (r.out.done C.out);have q9:decide ((t:Int)<(t:Int))=false:=by simp
       clear r c3;go_wp2
       go_roundw
       case rel =>
        have fin:∃(u:Nat) (c:Nat->Hd) (qs:Nat->Rh),u<=5/\Value.int .i64 ((k:Int)+1)=.int .i64 (u:Int)/\DW w wr u c qs (rJ a):=⟨k+1,g,d,by omega,by go_num,HD.out⟩
        first|exact fin|((repeat apply Exists.intro);exact⟨fin,rfl⟩)
       case measure=>simp[intOf];omega
   .have g1:decide ((k:Int)<(len:Int))=false:=decide_eq_false (by omega)
    have D:Hid (dY 16=pU a k):=by unfold Hid pU;rw[if_neg (by omega)]
    go_wp2_with fail
    rw[D.out];generalize qc (pU a k) (rC a k)=o at s A G C;generalize pU a k=x at B S Z A T |-;generalize rC a k=n at s S n2 n3 Z G C;clear D a7;refine(B.out _).mono ?_;rintro e w2 ⟨h',rfl,hd,J⟩;obtain⟨lc,lf,H⟩:=R.out.of Q J hd;have M:=ah H;clear H hd J R B;go_wp2_with fail
    refine(s.out _).mono ?_;rintro e w3 ⟨q,rfl,N,K⟩;obtain⟨mc,mf,P⟩:=M.out.new Q K N;have f:=ah P;clear P N K M s lc lf;generalize a9:w3.setCell ⟨w.heap.size+3,k,none⟩ q.p=W4 at f |-;generalize setH c k h'=g at f;generalize kG qs k q=d at f;go_wp2
    clear a9 mc mf;go_loopw [12] (λj wx=>∃ t:Nat,t<=n/\j=.int .i64 (t:Int)/\DI w wx k g d (rJ a) (o t)) (λj _=>n-(intOf j).toNat)
    case atStart=>exact⟨0,ja5 _,rfl,f.out⟩
    case round =>
     clear f;obtain⟨t,ht,rfl,y⟩:=hrel;obtain⟨c1,c2,c3⟩:=y.cells;rw[G.out t] at c2 c3;have r:=ah y;clear y;by_cases a6:t<n
     .obtain⟨I,ff⟩:=c3 t a6
      have O:=T.out t
      have L:Hid (DI w (wr.setCell ⟨(d k).bf,t,none⟩ (.string (x.extract (16*t) (16*t+16)))).drew k g d (rJ a) (o (t+1))):=by
       unfold Hid;rw[O,A.out t];exact r.out.set _
      generalize d k=q1 at c1 c2 I ff L;generalize o t=ct at I;have t0:(0:Int)<=(t:Int):=by omega
      have t1:(t:Int)<(n:Int):=by omega
      have t2:16*(t:Int)+16<=(x.size:Int):=by omega
      have t3:(0:Int)<=16*(t:Int):=by omega
      have t4:(0:Int)<=16*(t:Int)+16:=by omega
      have t5:(16*(t:Int)).toNat=16*t:=by omega
      have t6:(16*(t:Int)+16).toNat=16*t+16:=by omega
      have t7:IntKind.i64.wrap (16*(t:Int))=16*(t:Int):=ja7 _ (by omega)
      have t9:IntKind.i64.wrap (16*(t:Int)+16)=16*(t:Int)+16:=ja7 _ (by omega)
      have al:16*(t:Int)<=16*(t:Int)+16:=by omega
      clear O c3 r;go_wp2
      go_region
      go_wp2
      go_roundw
      case rel =>
       have fin:∃ t1:Nat,t1<=n/\Value.int .i64 ((t:Int)+1)=.int .i64 (t1:Int)/\DI w (wr.setCell ⟨q1.bf,t,none⟩ (.string (x.extract (16*t) (16*t+16)))).drew k g d (rJ a) (o t1):=⟨t+1,by omega,by go_num,L.out⟩
       first|exact fin|((repeat apply Exists.intro);exact⟨fin,rfl⟩)
      case measure=>simp[intOf];omega
     .have a5:t=n:=by omega
      subst a5;have HD:=ah (r.out.done C.out);have q9:decide ((t:Int)<(t:Int))=false:=by simp
      clear r c3;go_wp2
      go_roundw
      case rel =>
       have fin:∃(u:Nat) (c:Nat->Hd) (qs:Nat->Rh),u<=5/\Value.int .i64 ((k:Int)+1)=.int .i64 (u:Int)/\DW w wr u c qs (rJ a):=⟨k+1,g,d,by omega,by go_num,HD.out⟩
       first|exact fin|((repeat apply Exists.intro);exact⟨fin,rfl⟩)
      case measure=>simp[intOf];omega
  .have ao:k=5:=by omega
   subst ao;have k2:decide (((5:Nat):Int)<5)=false:=rfl;obtain⟨l1,_,_⟩:=E.l.cell;obtain⟨U,_,_⟩:=E.m.cell;have l0:=l1 0 (by omega)
   have l2:=l1 2 (by omega)
   have l3:=l1 3 (by omega)
   have l4:=l1 4 (by omega)
   replace l1:=l1 1 (by omega)
   have m0:=U 0 (by omega)
   have m2:=U 2 (by omega)
   have m3:=U 3 (by omega)
   have m4:=U 4 (by omega)
   replace U:=U 1 (by omega)
   have r2:=E.r2;have r3:=E.r3;unfold kD at r2 r3;have a8:Hid (∀ i,wr.cell? ⟨w.heap.size,i,none⟩=(#[Value.pointer none,.pointer none,.pointer none,.pointer none,.pointer none])[i]?):=λi=>cell_of_row _ _ _ _ _ _ r2
   have aa:Hid (∀ i,wr.cell? ⟨w.heap.size+1,i,none⟩=(#[Value.pointer none,.pointer none,.pointer none,.pointer none,.pointer none])[i]?):=λi=>cell_of_row _ _ _ _ _ _ r3
   have a0:wr.cell? ⟨w,0,none⟩=some (.pointer none):=a8.out 0;have a1:wr.cell? ⟨w,1,none⟩=some (.pointer none):=a8.out 1;have a2:wr.cell? ⟨w,2,none⟩=some (.pointer none):=a8.out 2;have a3:wr.cell? ⟨w,3,none⟩=some (.pointer none):=a8.out 3;have a4:wr.cell? ⟨w,4,none⟩=some (.pointer none):=a8.out 4;have b0:wr.cell? ⟨w.heap.size+1,0,none⟩=some (.pointer none):=aa.out 0;have b1:wr.cell? ⟨w.heap.size+1,1,none⟩=some (.pointer none):=aa.out 1;have b2:wr.cell? ⟨w.heap.size+1,2,none⟩=some (.pointer none):=aa.out 2;have b3:wr.cell? ⟨w.heap.size+1,3,none⟩=some (.pointer none):=aa.out 3
   have b4:wr.cell? ⟨w.heap.size+1,4,none⟩=some (.pointer none):=aa.out 4;have Y:∀ i,wr.frozen? ⟨w.heap.size,i,none⟩=false:=λi=>frozen_of_row wr _ i _ _ r2
   have X:∀ i,wr.frozen? ⟨w.heap.size+1,i,none⟩=false:=λi=>frozen_of_row wr _ i _ _ r3
   have aD:=Y 0;have aM:=Y 1;have ar:=Y 2;have aw:=Y 3;have az:=Y 4;have aR:=X 0;have ax:=X 1;have aL:=X 2;have aq:=X 3;have aE:=X 4;have HL:=ah E;clear E Y X r2 r3 ae ac ad a7;go_wp2
   go_region
   go_wp2
   (try simp only[Exit.inBlock,Exit.then])
   obtain⟨V,hV⟩:∃ V,V=(uT (uT wr w.heap.size λi=>(c i).p) (w.heap.size+1) λi=>(qs i).p).drew:=⟨_,rfl⟩
   obtain⟨e1,e2,e3⟩:=HL.out.Om V hV;unfold uT at hV;rw[<- hV];refine bodyPost_ret (v:=.tuple #[.agg (vk λi=>(c i).p),.agg (vk λi=>(qs i).p),true]) ?_ rfl ⟨c,qs,rfl,e3⟩
   rw[Vu rfl];simp[asAddr,Result.andThen,e1,e2]
