/- An image is made in a file, whatever its number (J3); Blank, Snap. -/
import Derived.Test.YtbohmhacdgckgaaGreatDoorQYardC4
set_option linter.all false
set_option maxHeartbeats 2000000
set_option maxRecDepth 100000
namespace Go.Proofs.YtbohmhacdgckgaaGreatDoor
open Go.RowKit renaming Below->β
open Go renaming World->ω, Value->υ, Calls->κ
open Option renaming none->O, some->S
open Go.Proofs.Tryz Go.RowKit Go.Maps
attribute [local go_sem ↓] Go.wp_at_zero Go.wp_at_succ
def VZ{f C m i:Nat}{Y:Yh}{y:YV}(back:Int)(w:ω)(h:aB w f Y y)(O:YOk y C m)(hC:1<=C/\C<=32)(K:i<5)(hu:y.used (i:Int)≠true)(hm:m+20<1000000000) :
    κ prog 121 #[f,(i:Int),back] w λe n=>e=.returned (erV (y.eX (i:Int) back))/\au f Y y (y.blank (i:Int) back) w n:=by
  have HU:=ah (Jp (i:Int) w h O);rw[show y.used (i:Int)=false by simpa using hu] at HU
  obtain⟨v,hv,hc⟩:=O.ch.root;obtain⟨r0,r5,D⟩:=SV.dS hv;obtain⟨k,hk⟩:∃ k:Nat,y.kd.root=(k:Int):=⟨y.kd.root.toNat,by omega⟩
  rw[hk] at D r5 r0;have aa:((k:Int)).toNat=k:=by omega
  rw[aa] at D
  have P:Hid (∀ W:ω,β w w W->W.cell? ⟨f,11,none⟩=some (.int .i64 (k:Int))/\W.cell? ⟨f,6+k,none⟩=some ((Y.xs k).p:υ)):=λW d=>by
    obtain⟨q0,_,q6,af,_,_⟩:=(h.below d).blk.cells;have:=q6 k (by omega)
    rw[D] at this;exact⟨by rw[<- hk];exact af,this⟩
  have z:=ah λW (d:β w w W)=>(h.below d).blk.cells.1 i K
  have B:Hid (∀ W:ω,β w w W->κ prog 95 #[(Y.xs k).p] W λe n=>e=.returned (.agg #[(C:Int),v.h.p,v.h.b])/\β w w n/\β W W n):=λW d=>(qo W ((h.img k v (by omega) D).below d)).mono λe n ⟨h1,T⟩=>⟨by rw[h1,hc],d.trans (T.mono d.size),T⟩
  have J:Hid (∀ W:ω,β w w W->κ prog 189 #[Y.dp y.s i,(C:Int)] W λe n=>e=.returned (nO (y.dev i).fl.length (C:Int))/\β W W n):=λW d=>by
    obtain⟨d1,d2,_⟩:=(h.below d).kP K;rw[<- d2];exact Ws W d1 hC
  have u:=ah λW N (d:β w w W) (A:w.heap.size<=N) (I:W.heap[N]?=some (bx (C:Int) (nO (y.dev i).fl.length (C:Int)) back))=>h.creates (back:=back) O K hm hu rfl d A I
  have a2:Hid (∀(a:ω) (R:Int),β w w a->∀ w4:ω,β (a.alloc (bx (C:Int) v.h.p back)).heap.size (a.alloc (bx (C:Int) v.h.p back)) w4->w4.heap[a.heap.size]?=some (bx (C:Int) v.h.p back)/\(w4.setCell ⟨a,1,none⟩ R).heap[a.heap.size]?=some (bx (C:Int) R back)/\β w w (w4.setCell ⟨a,1,none⟩ R)):=λa R d w4 j=>by
    have g:w4.heap[a.heap.size]?=some (bx (C:Int) v.h.p back):=(j.block _ (by simp)).trans (heap_alloc_new a _)
    refine⟨g,?_,((d.alloc d.size _).trans (j.mono (by simp;have:=d.size;omega))).setCell d.size _⟩
    unfold bx at g;rw[heap_setCell_same _ _ _ _ _ _ g];rfl
  generalize erV (y.eX (i:Int) back)=E at u |-;generalize nO (y.dev i).fl.length (C:Int)=R at J u;generalize Y.dp y.s i=dp at z J u;generalize (Y.xs k).p=xp at P B;generalize v.h.p=t at B a2;generalize v.h.b=M at B;have g0:decide ((i:Int)<0)=false:=decide_eq_false (by omega)
  have g5:decide (5<=(i:Int))=false:=decide_eq_false (by omega)
  have i0:(0:Int)<=(i:Int):=by omega
  have i5:(i:Int)<5:=by omega
  have i2:((i:Int)).toNat=i:=by omega
  unfold bx at a2 u;go_enter func121,ntmps121
  go_wp2_with fail
  refine cHd HU.out λc F=>?_
  go_upto_region 5 with fail
  have a5:Hid (β w w c.drew):=F.out.drew;have X:Hid (β w w (c.alloc (.cells #[(0:Int),(0:Int),(0:Int)] 67)).drew):=(F.out.alloc F.out.size _).drew;obtain⟨an,d6⟩:=P.out _ a5.out;obtain⟨aE,a6⟩:=P.out _ X.out;have ad:c.heap.size<(c.alloc (.cells #[(0:Int),(0:Int),(0:Int)] 67)).drew.heap.size:=by show c.heap.size<(c.alloc _).heap.size;simp
  have ai:Hid ((c.alloc (.cells #[(0:Int),(0:Int),(0:Int)] 67)).drew.heap[c.heap.size]?=some (.cells #[(0:Int),(0:Int),(0:Int)] 67 (0,0))):=heap_alloc_new c _;have G:Hid (w.heap.size<=c.heap.size):=F.out.size;go_cut [7] from 20 (λhv wx=>∃ N:Nat,hv=.pointer (some ⟨N,0,none⟩)/\w.heap.size<=N/\wx.heap[N]?=some (bx (C:Int) t M)/\β w w wx)
  case first =>
    go_region_with (first
      | (go_at_call 95;refine(B.out _ (by first|exact a5.out|exact X.out)).mono ?_;rintro e a ⟨rfl,a8,a0⟩;have o:=ah a8;(try have l:a.heap[c.heap.size]?=some (.cells #[(0:Int),(0:Int),(0:Int)] 67 (0,0)):=(a0.block _ ad).trans ai.out);(try have aw:a.cell? ⟨c,0,none⟩=some (.int .i64 0):=by rw[cell_of_row _ _ _ _ _ _ l];rfl);(try have aq:a.cell? ⟨c,1,none⟩=some (.int .i64 0):=by rw[cell_of_row _ _ _ _ _ _ l];rfl);(try have al:a.cell? ⟨c,2,none⟩=some (.int .i64 0):=by rw[cell_of_row _ _ _ _ _ _ l];rfl);(try have az:=frozen_of_row a c.heap.size 0 _ _ l);(try have aM:=frozen_of_row a c.heap.size 1 _ _ l);(try have ao:=frozen_of_row a c.heap.size 2 _ _ l);clear a8 a0))
    all_goals
      go_wp2_with fail
      go_meet
      case rel =>
        first
          | exact⟨_,rfl,o.out.size,heap_alloc_new a _,o.out.alloc o.out.size _⟩
          | exact⟨_,rfl,o.out.size,heap_alloc_new a _,(o.out.alloc o.out.size _).drew⟩
          | exact⟨_,rfl,G.out,by
              unfold bx
              rw[heap_setCell_same _ _ _ _ _ _ (heap_setCell_same _ _ _ _ _ _ (heap_setCell_same _ _ _ _ _ _ l))];rfl,((o.out.setCell G.out _).setCell G.out _).setCell G.out _⟩
  case rest =>
    obtain⟨N,rfl,A,I,ab⟩:=hcut;have U:wc.heap[N]?=some (.cells #[(C:Int),t,M] 67 (0,0)):=I;have x2:wc.cell? ⟨N,2,none⟩=some (M:υ):=(sS I).2.2.1;have f2:=frozen_of_row wc N 2 _ _ U;have V:Hid ((wc.setCell ⟨N,2,none⟩ back).heap[N]?=some (bx (C:Int) t back)):=by unfold Hid;rw[heap_setCell_same _ _ _ _ _ _ U];rfl
    have Z:Hid (β w w (wc.setCell ⟨N,2,none⟩ back)):=ab.setCell A _;go_upto_region 7 with fail
    generalize ar:wc.setCell ⟨N,2,none⟩ back=r at V Z |-;have H:Hid (β w w r.drew):=Z.out.drew;have Q:Hid (r.drew.heap[N]?=some (bx (C:Int) t back)):=V.out;obtain⟨y0,y1,y2,yf⟩:=sS Q.out;have ae:Hid (r.drew.cell? ⟨f,i,none⟩=some (dp:υ)/\r.drew.cell? ⟨N,0,none⟩=some (.int .i64 (C:Int))):=⟨z.out _ H.out,y0⟩
    have ac:Hid (∀ w4:ω,β r.drew.heap.size r.drew w4->w4.heap[N]?=some (bx (C:Int) t back)/\β w w w4/\(w4.setCell ⟨N,1,none⟩ R).heap[N]?=some (bx (C:Int) R back)/\β w w (w4.setCell ⟨N,1,none⟩ R)):=λw4 j=>by
      have g:w4.heap[N]?=some (bx (C:Int) t back):=(j.block _ (lt_of_some Q.out)).trans Q.out;have x:=H.out.trans (j.mono H.out.size);refine⟨g,x,?_,x.setCell A _⟩;unfold bx at g;rw[heap_setCell_same _ _ _ _ _ _ g];rfl
    go_region_held3 (λW=>W.cell? ⟨f,i,none⟩=some (dp:υ)/\W.cell? ⟨N,0,none⟩=some (.int .i64 (C:Int)))
      (first|(exact ae.out)|assumption)
      (first
        | (go_at_call 189;refine cEq (J.out _ H.out) λw4 j=>?_;obtain⟨g,x,S,L⟩:=ac.out w4 j;obtain⟨t0,t1,t2,tf⟩:=sS g;have av:w4.cell? ⟨f,i,none⟩=some (dp:υ)/\w4.cell? ⟨N,0,none⟩=some (.int .i64 (C:Int)):=⟨z.out _ x,t0⟩;have ap:(w4.setCell ⟨N,1,none⟩ R).cell? ⟨f,i,none⟩=some (dp:υ)/\(w4.setCell ⟨N,1,none⟩ R).cell? ⟨N,0,none⟩=some (.int .i64 (C:Int)):=⟨z.out _ L,(sS S).1⟩;have a1:=ah S;have a4:=ah L;clear g x S L j))
    go_upto_region 9 with fail
    generalize am:w4.setCell ⟨N,1,none⟩ R=q at a1 a4 |-;have a7:Hid (β w w q.drew):=a4.out.drew;have a9:Hid (q.drew.heap[N]?=some (bx (C:Int) R back)):=a1.out;obtain⟨y0,y1,y2,yf⟩:=sS a9.out;have ag:Hid (q.drew.cell? ⟨f,i,none⟩=some (dp:υ)/\q.drew.cell? ⟨N,0,none⟩=some (.int .i64 (C:Int))/\q.drew.cell? ⟨N,1,none⟩=some (R:υ)/\q.drew.cell? ⟨N,2,none⟩=some (back:υ)):=⟨z.out _ a7.out,y0,y1,y2⟩;have HC:=ah (u.out q.drew N a7.out A a9.out)
    go_region_held3 (λW=>W.cell? ⟨f,i,none⟩=some (dp:υ)/\W.cell? ⟨N,0,none⟩=some (.int .i64 (C:Int))/\W.cell? ⟨N,1,none⟩=some (R:υ)/\W.cell? ⟨N,2,none⟩=some (back:υ))
      (first|(exact ag.out)|assumption)
      (first
        | (go_at_call 30;refine HC.out.mono ?_;rintro e w6 ⟨po,rfl,aD,⟨v6,q6⟩,aL,ax,a3⟩;have HD:=ah a3;clear a3))
    go_wp2
    go_ret
    exact⟨rfl,HD.out⟩
def Jg{b C m:Nat}{Y:Yh}{y:YV}(f back:Int)(w:ω)(h:aB w b Y y)(l:YOk y C m)(n:1<=C/\C<=32)(s:m+20<1000000000) :
  κ prog 121 #[b,f,back] w λe o=>e=.returned (erV (y.eX f back))/\au b Y y (y.blank f back) w o:=by
 by_cases a:0<=f/\f<5
 .obtain⟨i,rfl⟩:∃ i:Nat,f=(i:Int):=⟨f.toNat,by omega⟩
  by_cases c:y.used (i:Int)=true
  .have d:y.eX (i:Int) back=5:=by unfold YV.eX;rw[if_pos a,if_pos c]
   have g:y.blank (i:Int) back=y:=by unfold YV.blank;rw[if_pos a,if_pos c]
   have j:=ah (Jp (i:Int) w h l);rw[c] at j;have r:=ah λW (q:β w w W)=>au.below h q
   rw[d,g,bJ (by decide)]
   have t:decide (5<=(i:Int))=false:=decide_eq_false (by omega)
   go_enter func121,ntmps121
   go_wp2_with fail
   refine cEq j.out λv u=>?_
   go_wp2
   go_ret
   exact⟨rfl,(r.out _ u)⟩
  .exact VZ back w h l n (by omega) c s
 .have d:y.eX f back=1:=by unfold YV.eX;rw[if_neg a]
  have g:y.blank f back=y:=by unfold YV.blank;rw[if_neg a]
  have k:Hid (au b Y y y w w):=au.refl h;rw[d,g,eu];by_cases x:f<0
  .go_enter func121,ntmps121
   go_wp2
   go_ret
   exact⟨rfl,k.out⟩
  .have t  := decide_eq_true (by omega)
   go_enter func121,ntmps121
   go_wp2
   go_ret
   exact⟨rfl,k.out⟩
def VT{a C m:Nat}{Y:Yh}{y:YV}(f:Int)(w:ω)(h:aB w a Y y)(i:YOk y C m)(c:1<=C/\C<=32)(b:m+20<1000000000) :
  κ prog 47 #[a,f] w λe d=>e=.returned (erV (y.eX f (-1)))/\au a Y y (y.blank f (-1)) w d:=by
 go_enter func47,ntmps47
 go_wp2_with fail
 refine cHd (Jg f (-1) w h i c b) λj g=>?_
 go_wp2
 go_ret
 exact⟨rfl,g.out⟩
def Wx{d C m:Nat}{Y:Yh}{y:YV}(f:Int)(w:ω)(h:aB w d Y y)(t:YOk y C m)(V:1<=C/\C<=32)(R:m+20<1000000000) :
  κ prog 49 #[d,f] w λe b=>e=.returned (erV (y.jP f))/\au d Y y (y.snap f) w b:=by
 have i:=ah (oO w h);have B:Hid (∀ W:ω,β w w W->au d Y y y w W):=λW a=>au.below h a
 by_cases a:y.busy=true
 .rw[qj a] at i
  have u:y.jP f=8:=by unfold YV.jP;rw[if_pos a]
  have D:y.snap f=y:=by unfold YV.snap;rw[if_pos (.inl a)]
  have v:=ah (B.out w (ja0 _ _));rw[u,D,bJ (by decide)]
  clear h t a u D B;go_enter func49,ntmps49
  go_wp2_with fail
  refine i.out.mono ?_;rintro e b ⟨rfl,c⟩;have r:=c.symm;subst r;clear c i;go_wp2
  go_ret
  exact⟨rfl,v.out⟩
 .rw[qh a] at i
  have q:=ah (sH w h t);by_cases j:y.l.length=4
  .have u:y.jP f=6:=by unfold YV.jP;rw[if_neg a,if_pos j]
   have D:y.snap f=y:=by unfold YV.snap;rw[if_pos (.inr j)]
   rw[u,D,bJ (by decide)]
   have G:((y.l.length:Int)==4)=true:=by rw[j];rfl
   clear h t a u D j;generalize y.l.length=ln at q G;go_enter func49,ntmps49
   go_wp2_with fail
   refine i.out.mono ?_;rintro e b ⟨rfl,c⟩;have r:=c.symm;subst r;clear c i;go_wp2_with fail
   refine q.out.mono ?_;rintro e M ⟨g,o,cap,rfl,_,_,_,_,k⟩;have v:=ah (B.out _ k);clear k q;go_wp2
   go_ret
   exact⟨rfl,v.out⟩
  .have G:((y.l.length:Int)==4)=false:=by simpa using (show ¬(y.l.length:Int)=4 by omega)
   have H:Hid (∀ W:ω,β w w W->W.cell? ⟨d,11,none⟩=some (y.kd.root:υ)):=λW a=>(h.below a).blk.cells.2.2.2.1
   have s:Hid (∀ W:ω,β w w W->κ prog 121 #[d,f,y.kd.root] W λe b=>e=.returned (erV (y.eX f y.kd.root))/\au d Y y (y.blank f y.kd.root) w b):=λW a=>(Jg f y.kd.root W (h.below a) t V R).mono λe b ⟨K,X⟩=>⟨K,au.from a X⟩
   have I:y.jP f=if y.eX f y.kd.root=0 then (y.blank f y.kd.root).aJ else y.eX f y.kd.root:=by unfold YV.jP;rw[if_neg a,if_neg j]
   have F:y.snap f=if y.eX f y.kd.root=0 then (if (y.blank f y.kd.root).aJ=0 then {(y.blank f y.kd.root).aA (aj f) with l:=f::y.l} else (y.blank f y.kd.root).aA (aj f)) else y.blank f y.kd.root:=by unfold YV.snap;rw[if_neg (by rintro(e|e);exact a e;exact j e)]
   by_cases n:y.eX f y.kd.root=0
   .obtain⟨Z,f5,_,_,_⟩:=zC n
    have O:=(t.blank f y.kd.root R).top;have L:Hid (∀ W:ω,κ prog 32 #[f] W λe b=>e=.returned (.agg #[.int .i64 (aj f).root,.int .i64 (aj f).kind,.int .i64 (aj f).file,.int .i64 (aj f).rate,.int .i64 (aj f).burst])/\β W W b):=λW=>vZ f W
    have J:Hid (∀ W x:ω,au d Y y (y.blank f y.kd.root) w W->β W W x->κ prog 31 #[d,.agg #[.int .i64 (aj f).root,.int .i64 (aj f).kind,.int .i64 (aj f).file,.int .i64 (aj f).rate,.int .i64 (aj f).burst]] x λe b=>e=.returned (erV (y.jP f))/\au d Y y (y.snap f) w b):=λW x hd a=>by
     obtain⟨Y1,u,K,h3⟩:=hd;refine(uF (aj f) x (K.below a) O (kX Z (by omega)) (by omega)).mono ?_
     rintro e b ⟨rfl,j⟩;refine⟨by rw[I,if_pos n],?_⟩
     have P:=au.trans u h3 (au.from a j);rw[F,if_pos n];split
     .exact P.re rfl rfl rfl rfl rfl
     .exact P
    rw[n,aN] at s;clear h t a j I F n B O;generalize erV (y.jP f)=E at J |-;generalize y.l.length=ln at q G;go_enter func49,ntmps49
    go_wp2_with fail
    refine i.out.mono ?_;rintro e b ⟨rfl,c⟩;have r:=c.symm;subst r;clear c i;go_wp2_with fail
    refine q.out.mono ?_;rintro e M ⟨g,o,cap,rfl,_,_,_,_,k⟩;have a0:=H.out _ k;have A:=ah (s.out _ k);clear k q s H;go_wp2_with fail
    refine A.out.mono ?_;rintro e T ⟨rfl,z⟩;have N:=ah (λx a=>J.out T x z a)
    clear z A J;go_wp2_with fail
    refine(L.out _).mono ?_;rintro e w3 ⟨rfl,U⟩;have Q:=ah (N.out _ U);clear U N L;go_wp2_with fail
    refine Q.out.mono ?_;rintro e w4 ⟨rfl,S⟩;have v:=ah S;clear S Q;go_wp2
    go_ret
    exact⟨rfl,v.out⟩
   .rw[I,F,if_neg n,if_neg n]
    rw[bJ n] at s |-;clear h t a j I F B;generalize y.eX f y.kd.root=bf at s n |-;generalize y.l.length=ln at q G;go_enter func49,ntmps49
    go_wp2_with fail
    refine i.out.mono ?_;rintro e b ⟨rfl,c⟩;have r:=c.symm;subst r;clear c i;go_wp2_with fail
    refine q.out.mono ?_;rintro e M ⟨g,o,cap,rfl,_,_,_,_,k⟩;have a0:=H.out _ k;have A:=ah (s.out _ k);clear k q s H;go_wp2_with fail
    refine A.out.mono ?_;rintro e T ⟨rfl,z⟩;have v:=ah z;clear z A;go_wp2
    go_ret
    exact⟨rfl,v.out⟩
def mQ(c p b:Int):Obj:=.cells #[c,p,b] 67 (0,0)
def CU:Obj:=.cells #[.pointer O,.pointer O,.pointer O,.pointer O,.pointer O,.pointer O,.pointer O,.pointer O,.pointer O,.pointer O,.pointer O,(0:Int),.pointer O] 74 (0,0)
def iO.start(w:ω)(D:DV):iO (w.alloc CU) w.heap.size 0 (λ_=>⟨0,0,0,0,0,.nilIface⟩) D (.pointer O):=by
 refine⟨⟨_,heap_alloc_new w _,rfl,λi a=>(by omega),rfl,λi a=>?_,rfl,rfl⟩,λi a=>(by omega),λi a=>(by omega),λi _ a=>(by omega)⟩
 match i,a with
 | 0,_=>rfl
 | 1,_=>rfl
 | 2,_=>rfl
 | 3,_=>rfl
 | 4,_=>rfl
structure Making(w:ω)(c p:Int)(yp k:Nat)(tv:υ)(wr:ω):Prop where
 dM:∃ hs,iO wr yp k hs (ig (aQ (newH c p))) tv
 yp:w.heap.size<yp
 box:wr.heap[w.heap.size]?=S (mQ c p (-1))
 bel:β w w wr
def Making.boxes{w wr:ω}{c p:Int}{a k:Nat}{b:υ}(h:Making w c p a k b wr):wr.cell? ⟨w,0,O⟩=S (c:υ)/\wr.cell? ⟨w,1,O⟩=S (p:υ)/\wr.cell? ⟨w,2,O⟩=S (.int .i64 (-1)):=by
 refine⟨?_,?_,?_⟩<;>(rw[cell_of_row _ _ _ _ _ _ h.box];rfl)
theorem Making.below{w wr d:ω}{c p:Int}{f k:Nat}{b:υ}(h:Making w c p f k b wr)(a:β wr wr d):Making w c p f k b d:=by
 obtain⟨i,g⟩:=h.dM;exact⟨⟨i,g.below a⟩,h.yp,(a.block _ (lt_of_some h.box)).trans h.box,h.bel.trans (a.mono h.bel.size)⟩
structure sQ(w:ω)(c p:Int)(yp:Nat)(wr:ω):Prop where
 dM:∃(hs:Nat->Hd) (t:Hd),iO wr yp 5 hs (ig (aQ (newH c p))) (.pointer (S ⟨t.p,0,O⟩))/\bQ Gd.no wr t (ig 1)/\(∀ b,t.fp b->yp<b)/\∀ i,i<5->∀ b,t.fp b->¬(hs i).fp b
 yp:w.heap.size<yp
 box:wr.heap[w.heap.size]?=S (mQ c p (-1))
 bel:β w w wr
def Making.top{w W g:ω}{c p:Int}{a:Nat}(h:Making w c p a 5 (.pointer O) W)(k:β W W g){t:Hd}(f:aO W.heap.size g t (ig 1)):sQ w c p a (g.setCell ⟨a,5,O⟩ t.p):=by
 obtain⟨m,j⟩:=h.dM;have q:=h.yp;have s:=j.lt;have l:=h.below k;refine⟨⟨m,t,j.pK k,⟨f.base0.keep λb d=>heap_setCell_other _ _ _ _ (λe=>by have:=(f.lt b d).1;have r:b=a:=e;omega),λ_ _ e=>e⟩,λb d=>by have:=(f.lt b d).1;omega,λi n b d o=>?_⟩,h.yp,?_,l.bel.setCell (by show w.heap.size<=a;omega) _⟩
 .have u:=(f.lt b d).1
  have q2:=((j.dev i n).lt b o).2;omega
 .rw[heap_setCell_other _ _ _ _ (by show w.heap.size≠a;omega)];exact l.box
def O8(n:Nat):(ig n).aU=0:=by rfl
def sQ.create{w W:ω}{c p:Int}{a:Nat}(F:(newH c p).ok=true)(L:aQ (newH c p)<=200)(h:sQ w c p a W):∃ dp:Nat,W.cell? ⟨a,11,none⟩=S (.int .i64 0)/\W.cell? ⟨a,0,none⟩=S (dp:υ) /\
  ∀ o:ω,β W W o->κ prog 30 #[dp,.agg #[c,p,(-1:Int)]] o λe d=>∃ xp:Nat,e=.returned (.tuple #[xp,.nilIface]) /\
   (d.cell? ⟨a,11,none⟩=S (.int .i64 0)/\d.cell? ⟨a,0,none⟩=S (dp:υ)/\d.cell? ⟨w,0,none⟩=S (c:υ)/\d.cell? ⟨w,1,none⟩=S (p:υ)/\d.cell? ⟨w,2,none⟩=S (.int .i64 (-1)))/\(∃ v,d.cell? ⟨a,6,none⟩=S v)/\d.frozen? ⟨a,6,none⟩=false /\
   ((d.setCell ⟨a,6,none⟩ xp).cell? ⟨a,11,none⟩=S (.int .i64 0)/\(d.setCell ⟨a,6,none⟩ xp).cell? ⟨a,0,none⟩=S (dp:υ)/\(d.setCell ⟨a,6,none⟩ xp).cell? ⟨w,0,none⟩=S (c:υ)/\(d.setCell ⟨a,6,none⟩ xp).cell? ⟨w,1,none⟩=S (p:υ)/\(d.setCell ⟨a,6,none⟩ xp).cell? ⟨w,2,none⟩=S (.int .i64 (-1))) /\
   ∃ Y:Yh,aB (d.setCell ⟨a,6,none⟩ xp) a Y (mY c p)/\(∀ b,fpY a Y (mY c p) b->w.heap.size<=b)/\β w w (d.setCell ⟨a,6,none⟩ xp):=by
 obtain⟨J,t,l,u,C,N⟩:=h.dM;have P:=h.yp;refine⟨(J 0).p,l.root,l.D9 (by omega),λo g=>?_⟩
 have f:=l.below g;refine(DX c p (-1) o (f.dev 0 (by omega)).nG (tZ  (by unfold aQ dw;omega) L) (by omega) (ja1 _)).mono ?_
 rintro e d ⟨x,M,_,O,r|r⟩
 .obtain⟨_,rfl,m,_,_⟩:=r
  have n  := nH O (λ_ e=>e.1) m.out
  have k  := n.block f.lt (λe=>by have:=f.past 0 (by omega) a e;omega)
  have G:d.heap[w.heap.size]?=S (mQ c p (-1)):=by rw[n.block (by have:=f.lt;omega) (λe=>by have:=f.past 0 (by omega) _ e;omega),g.block _ (lt_of_some h.box)];exact h.box
  obtain⟨⟨v,H⟩,q2⟩:=f.cell 6 (by omega)
  obtain⟨I,s⟩:=f.dM (u.keep λb s=>g.block b (u.lt b s).2) C N n (m.re λ_ _ e=>e) M
  have j:=G;unfold mQ at j;have E:=(jad k).trans f.root;have A:=(jad k).trans (f.D9 (show 0<5 by omega))
  have D:d.cell? ⟨w,0,none⟩=S (c:υ):=by rw[cell_of_row _ _ _ _ _ _ j];rfl
  have z:d.cell? ⟨w,1,none⟩=S (p:υ):=by rw[cell_of_row _ _ _ _ _ _ j];rfl
  have y:d.cell? ⟨w,2,none⟩=S (.int .i64 (-1)):=by rw[cell_of_row _ _ _ _ _ _ j];rfl
  have q:∀ i,(⟨a,6,none⟩:Addr)≠⟨w.heap.size,i,none⟩:=λi e=>by injection e;omega
  refine⟨x.p,rfl,⟨E,A,D,z,y⟩,⟨v,(jad k).trans H⟩,(jaF k).trans q2,⟨?_,?_,?_,?_,?_⟩,_,I,λb K=>?_,?_⟩
  .rw[jai _ _ _ _ (by intro e;injection e with _ e;omega)];exact E
  .rw[jai _ _ _ _ (by intro e;injection e with _ e;omega)];exact A
  .rw[jai _ _ _ _ (q 0)];exact D
  .rw[jai _ _ _ _ (q 1)];exact z
  .rw[jai _ _ _ _ (q 2)];exact y
  .rcases s b K with e|⟨i,m,e⟩|e|e
   .omega
   .have:=l.past i m b e;omega
   .have:=C b e;omega
   .have:=h.bel.size;have:=g.size;omega
  .have B:=h.bel.trans (g.mono h.bel.size)
   exact(B.trans (n.below B.size λb e=>by have:=f.past 0 (by omega) b e;omega)).setCell (by show w.heap.size<=a;omega) _
 .exact absurd (FH F (ja1 _)) r.1
def Jl(c p:Int)(w:ω)(u:(newH c p).ok=true)(P:aQ (newH c p)<=200) :
    κ prog 8 #[c,p] w λe f=>∃(a:Nat) (Y:Yh),e=.returned (.tuple #[a,.nilIface])/\aB f a Y (lG c p)/\(∀ b,fpY a Y (lG c p) b->w.heap.size<=b)/\β w w f:=by
  have y:Hid (β w w (w.alloc (mQ c p (-1)))):=(ja0 _ _).alloc (ja1 _) _
  have B:Hid (κ prog 27 #[.agg #[c,p,(-1:Int)]] (w.alloc (mQ c p (-1))) λe f=>e=.returned .nilIface/\∀ N,N=f.heap.size->Making w c p N 0 (.pointer none) (f.alloc CU)):=by
    have:=oW c p (-1) (w.alloc (mQ c p (-1)))
    rw[show HV.fault ⟨c,p,-1⟩=0 by unfold HV.fault;rw[show HV.ok ⟨c,p,-1⟩=true from u];rfl,aN] at this
    refine this.mono ?_;rintro e f ⟨rfl,g⟩;refine⟨rfl,λN hN=>?_⟩
    subst hN;have I:w.heap.size<f.heap.size:=by have:=g.size;simp at this;omega
    exact⟨⟨_,iO.start f _⟩,I,(jal f _ _ I).trans ((g.block _ (by simp)).trans (heap_alloc_new w _)),(y.out.trans (g.mono y.out.size)).alloc (jb0 I) _⟩
  have K:Hid (∀ W:ω,κ prog 29 #[.agg #[c,p,(-1:Int)]] W λe f=>e=.returned (aQ (newH c p):Int)/\β W W f):=λW=>uU c p (-1) W u
  have Q:1<=aQ (newH c p):=by unfold aQ dw;omega
  have L:Hid (∀(k a:Nat) (W:ω),k<5->Making w c p a k (.pointer none) W->κ prog 28 #[(aQ (newH c p):Int)] W λe f=>∃ dp:Nat,e=.returned (.tuple #[dp,.nilIface])/\(∃ v,f.cell? ⟨a,k,none⟩=some v)/\f.frozen? ⟨a,k,none⟩=false/\(f.cell? ⟨w,0,none⟩=some (c:υ)/\f.cell? ⟨w,1,none⟩=some (p:υ)/\f.cell? ⟨w,2,none⟩=some (.int .i64 (-1)))/\Making w c p a (k+1) (.pointer none) (f.setCell ⟨a,k,none⟩ dp)):=λk a W ac j=>by
    obtain⟨hs,D⟩:=j.dM;refine(FQ (aQ (newH c p)) W Q P).mono ?_;rintro e f ⟨d,rfl,hd,g⟩;obtain⟨⟨v,q⟩,q2⟩:=(D.below g).cell k (by omega)
    have J:=j.below g;have a2:=j.yp;refine⟨d.p,rfl,⟨v,q⟩,q2,J.boxes,⟨_,D.step ac g (ja1 _) hd⟩,j.yp,?_,J.bel.setCell (by show w.heap.size<=a;omega) _⟩
    rw[heap_setCell_other _ _ _ _ (by show w.heap.size≠a;omega)];exact J.box
  have a7:Hid (∀(a:Nat) (W:ω),Making w c p a 5 (.pointer none) W->κ prog 28 #[(1:Int)] W λe f=>∃ E:Nat,e=.returned (.tuple #[E,.nilIface])/\(∃ v,f.cell? ⟨a,5,none⟩=some v)/\f.frozen? ⟨a,5,none⟩=false/\sQ w c p a (f.setCell ⟨a,5,none⟩ E)):=λa W j=>by
    refine(FQ 1 W (by omega) (by omega)).mono ?_
    rintro e f ⟨t,rfl,ht,g⟩;obtain⟨hs,D⟩:=j.dM;obtain⟨⟨v,q⟩,q2⟩:=(D.below g).cell 5 (by omega)
    exact⟨t.p,rfl,⟨v,q⟩,q2,j.top g ht⟩
  have a9:Hid (∀(a:Nat) (W:ω),sQ w c p a W->_):=λa W r=>r.create u P
  have V:Hid (∀(a:Nat) (W:ω),sQ w c p a W->W.cell? ⟨w,0,none⟩=some (c:υ)/\W.cell? ⟨w,1,none⟩=some (p:υ)/\W.cell? ⟨w,2,none⟩=some (.int .i64 (-1))):=λa W r=>by
    have g:=r.box;unfold mQ at g;refine⟨?_,?_,?_⟩<;>(rw[cell_of_row _ _ _ _ _ _ g];rfl)
  have Z:Hid (∀(a:Nat) (Y:Yh) (W A:ω),aB W a Y (mY c p)->(∀ b,fpY a Y (mY c p) b->w.heap.size<=b)->β w w W->β W W A->κ prog 31 #[a,.agg #[.int .i64 (aj 0).root,.int .i64 (aj 0).kind,.int .i64 (aj 0).file,.int .i64 (aj 0).rate,.int .i64 (aj 0).burst]] A λe f=>e=.returned .nilIface/\∃ o,aB f a o (lG c p)/\(∀ b,fpY a o (lG c p) b->w.heap.size<=b)/\β w w f):=λa Y W A x hf g O=>by
    have:=uF (m:=0) (aj 0) A (x.below O) (tZ (n:=1) (by omega) (by omega)) (kX (by omega) (by omega)) (by omega)
    rw[show(mY c p).aJ=0 from O8 1,aN] at this
    refine this.mono ?_;rintro e f ⟨rfl,o,_,C,s⟩;refine⟨rfl,o,C,λb G=>?_,?_⟩
    . rcases s.new b G with e|e
      . exact hf b e
      . have:=g.size;have:=O.size;omega
    . have a3:=g.trans (O.mono g.size)
      exact a3.trans (s.below a3.size hf)
  have a0:Hid (∀ W:ω,κ prog 32 #[(0:Int)] W λe f=>e=.returned (.agg #[.int .i64 (aj 0).root,.int .i64 (aj 0).kind,.int .i64 (aj 0).file,.int .i64 (aj 0).rate,.int .i64 (aj 0).burst])/\β W W f):=λW=>vZ 0 W
  clear u P Q;generalize aQ (newH c p)=nn at K L;unfold mQ at y B;unfold CU at B;go_enter func8,ntmps8
  go_wp2_with fail
  refine B.out.mono ?_;rintro e w1 ⟨rfl,a4⟩;have z:=ah (a4 _ rfl);clear a4 B;go_wp2
  generalize a2:w1.heap.size=a at z |-;generalize aa:w1.alloc _=W2 at z |-;clear aa a2 y;go_loopw [9,21] (λe i wr=>e=.nilIface/\∃ k:Nat,k<=5/\i=.int .i64 (k:Int)/\Making w c p a k (.pointer none) wr) (λ_ i _=>5-(intOf i).toNat)
  case atStart=>exact⟨rfl,0,by omega,rfl,z.out⟩
  case round =>
    clear z;obtain⟨rfl,k,u,rfl,j⟩:=hrel;by_cases ae:k<5
    . have a5:Hid (Making w c p a k (.pointer none) wr.drew):=j.below (ja0 _ _).drew
      have ag:=ah a5.out.boxes;clear j;have k0:(0:Int)<=(k:Int):=by omega
      have k5:(k:Int)<5:=by omega
      have k2:((k:Int)).toNat=k:=by omega
      have k3:IntKind.i64.wrap ((k:Int)+1)=(k:Int)+1:=ja8 _ (by omega)
      go_wp2
      go_region_held3 (λW=>W.cell? ⟨w,0,none⟩=some (c:υ)/\W.cell? ⟨w,1,none⟩=some (p:υ)/\W.cell? ⟨w,2,none⟩=some (.int .i64 (-1)))
        (first|(exact ag.out)|assumption)
        (first
          | (go_at_call 29;refine(K.out _).mono ?_;rintro e w3 ⟨rfl,G⟩;have M:=a5.out.below G;have ao:=M.boxes;have af:=ah (L.out k a w3 ae M);clear G M)
          | (go_at_call 28;refine af.out.mono ?_;rintro e w4 ⟨dp,rfl,⟨v,q⟩,q2,aq,H⟩;have ab:=ah H;have ap:=H.boxes;clear H))
      go_wp2
      refine⟨⟨rfl,k+1,by omega,by simp,ab.out⟩,?_⟩
      simp only[intOf];omega
    . have am:k=5:=by omega
      subst am;have X:=ah (a7.out a wr j);clear j a7 L K;go_wp2_with fail
      refine X.out.mono ?_;rintro e w4 ⟨E,rfl,⟨v,q⟩,q2,r⟩;have F:=ah r;clear r X;go_upto_region 17 with fail
      generalize ad:w4.setCell ⟨a,5,none⟩ E=l at F |-;clear ad q q2;obtain⟨dp,al,r0,a6⟩:=a9.out a l F.out;obtain⟨x0,x1,x2⟩:=V.out a l F.out;have HC:=ah (a6 l.drew (ja0 _ _).drew);have an:Hid (l.drew.cell? ⟨a,11,none⟩=some (.int .i64 0)/\l.drew.cell? ⟨a,0,none⟩=some (dp:υ)/\l.drew.cell? ⟨w,0,none⟩=some (c:υ)/\l.drew.cell? ⟨w,1,none⟩=some (p:υ)/\l.drew.cell? ⟨w,2,none⟩=some (.int .i64 (-1))):=⟨al,r0,x0,x1,x2⟩;clear a6 a9 V F
      go_region_held3 (λW=>W.cell? ⟨a,11,none⟩=some (.int .i64 0)/\W.cell? ⟨a,0,none⟩=some (dp:υ)/\W.cell? ⟨w,0,none⟩=some (c:υ)/\W.cell? ⟨w,1,none⟩=some (p:υ)/\W.cell? ⟨w,2,none⟩=some (.int .i64 (-1)))
        (first|(exact an.out)|assumption)
        (first
          | (go_at_call 30;refine HC.out.mono ?_;rintro e w6 ⟨xp,rfl,av,⟨v6,q6⟩,ax,ar,Y,x,a8,R⟩;have S:=ah x;have HF:=ah a8;have a1:=ah R;have ai:(w6.setCell ⟨a,6,none⟩ xp).cell? ⟨a,11,none⟩=some (.int .i64 0):=x.blk.cells.2.2.2.1;clear x a8 R))
      go_upto_region 20 with fail
      generalize aw:w6.setCell ⟨a,6,none⟩ xp=W7 at S a1 ai |-;go_wp2_with fail
      refine(a0.out _).mono ?_;rintro e w8 ⟨rfl,U⟩;have HK:=ah (Z.out a Y _ w8 S.out HF.out a1.out U);clear U Z a0;go_wp2_with fail
      refine HK.out.mono ?_;rintro e w9 ⟨rfl,o,C,s,T⟩;have H1:=ah C;have H2:=ah s;have H3:=ah T;clear C s T HK;go_wp2
      go_ret2
      exact⟨a,o,rfl,H1.out,H2.out,H3.out⟩
