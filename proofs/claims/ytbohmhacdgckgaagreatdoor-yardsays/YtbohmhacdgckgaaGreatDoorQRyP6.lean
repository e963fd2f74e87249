/- The document's yard: a job is over; a pause, a cancel, a pivot (J6). -/
import Derived.Test.YtbohmhacdgckgaaGreatDoorQYardOk4
set_option linter.all false
set_option maxHeartbeats 2000000
set_option maxRecDepth 100000
namespace Go.Proofs.YtbohmhacdgckgaaGreatDoor
open Go.RowKit renaming Below->β
open Go renaming World->ω, Value->υ, Calls->κ
open Option renaming none->O, some->S
open Go.Proofs.Tryz Go.RowKit Go.Maps
attribute [local go_sem ↓] Go.wp_at_zero Go.wp_at_succ
def kdG(d:aP):Value:=.agg #[d.root,d.kind,d.file,d.rate,d.burst]
def wo(r:Int)(w:ω):κ prog 35 #[r] w λe a=>e=.returned (kdG (aj r))/\β w w a:=by
 go_enter func35,ntmps35
 go_wp2
 exact bodyPost_ret (v:=.agg #[r,(0:Int),(-1:Int),(0:Int),(0:Int)]) (by simp[results,results35,go_sem]) rfl ⟨rfl,(ja0 _ _).alloc (ja1 _) _⟩
def Uf{s:SV}{j:JV}(a:j.kind≠2)(l:List Int):bT l s (dU s j):=by
 unfold dU;split
 .exact .gK l _ _
 .exact .refl l _
def rD(y:YV):0<=y.aJ:=by rcases DV.nN y.top with h|h<;>(unfold YV.aJ;omega)
def aC.walked{w W:ω}{a m:Nat}{Z j:Zh}{y z:YV}{l:List Int}(r:Int)(i:nS Z j)(h:aC W a j z)(u:Moved (fpZ a Z y) w (fpZ a j z) W)(F:z.s.ok m)(D:(z.s.walk r).1=l)(q:l≠[]) :
  W.cell? ⟨a,6,O⟩=S (Z.sp:υ)/\κ prog 82 #[Z.sp,r] W λe c=>∃(b:Option Addr) (f:Nat),e=.returned (.tuple #[.slice b l.length f,.int .i64 (z.s.walk r).2])/\(∃ v,c.cell? ⟨a,12,O⟩=S v)/\c.frozen? ⟨a,12,O⟩=false/\∃ d:Zh,(∀ g o,d.la=S ⟨g,o,O⟩->w.heap.size<=g/\g<c.heap.size)/\d.jb=Z.jb/\d.tp.p=Z.tp.p/\d.sp=Z.sp/\aC (c.setCell ⟨a,12,O⟩ (.slice b l.length f)) a d {z with l:=l}/\Moved (fpZ a Z y) w (fpZ a d {z with l:=l}) (c.setCell ⟨a,12,O⟩ (.slice b l.length f)):=by
 have A:=h.blk.cells.2.2.1;rw[i.sp] at A;refine⟨A,?_⟩;rw[<- i.sp];refine(vI r W (h.shelf F)).mono ?_;rintro e c ⟨b,f,rfl,k,x,t⟩;rw[D] at k |-;have n:=h.below t;obtain⟨_,_,_,_,_,_,_,_,B,_,E⟩:=n.blk.cells
 obtain⟨g1,g2⟩:=n.sD  k q λg o e C=>by
  have:=(x g o e).1
  have:=h.fF C
  omega
 refine⟨b,f,rfl,⟨_,B⟩,E 12,{j with la:=b,lc:=f},λg o e=>⟨ja4 u.size (x g o e).1,k.lt q e⟩,i.jb,i.tp,rfl,g1,u.trans ((Moved.of_below t).trans g2)⟩
def JC{a m:Nat}{Z:Zh}{y:YV}{j:JV}(root st:Int)(w:ω)(h:aC w a Z y)(hs:y.s.ok m)(V:y.top.fine y.top.fl.length m)(B:y.j=some j)(X:st≠1)(J:0<=root/\root<=4)(P:(y.s.walk root).1≠[])(hm:m<1000000000) :
  κ prog 133 #[a,root,st] w λe c=>e=.returned y.aJ/\jK a Z y (y.over root st) w c:=by
 have G:=ah (wo root w);have d:Hid (∀ W:ω,β w w W->κ prog 38 #[a,kdG (aj root)] W λe c=>e=.returned y.aJ/\aF a Z y (y.aA (aj root)) w c):=λW E=>(uG (aj root) W (h.below E) V (kX J.1 J.2) hm).mono λe c ⟨h1,Q⟩=>⟨h1,aF.from E Q⟩
 obtain⟨M,_,s3,O⟩:=ny y (aj root)
 have D:Hid (∀ W:ω,aF a Z y (y.aA (aj root)) w W->W.cell? ⟨a,13,none⟩=some (Z.jb.xp:υ)/\W.cell? ⟨Z.jb.xp,74,none⟩=some (j.state:υ)/\W.frozen? ⟨Z.jb.xp,74,none⟩=false/\aF a Z y {y.aA (aj root) with j:=some (j.at st)} w (W.setCell ⟨Z.jb.xp,74,none⟩ st)):=λW ⟨H,t,g1,g2⟩=>by
  have z:=O.trans B;obtain⟨_,_,_,_,_,_,_,_,_,K,_⟩:=g1.blk.cells;rw[z] at K;obtain⟨q,q2⟩:=g1.stage z X;have L:=(g1.job j z).1;rw[<- t.jb];exact⟨K,L.cell (i:=74) (by omega),L.thaw 74,H,t,q,g2.trans q2⟩
 have r:Hid (∀ W:ω,y.aJ=0->aF a Z y {y.aA (aj root) with j:=some (j.at st)} w W->W.cell? ⟨a,6,none⟩=some (Z.sp:υ)/\κ prog 82 #[Z.sp,root] W λe c=>∃(b:Option Addr) (k ln:Nat) (f:Int),e=.returned (.tuple #[.slice b ln k,f])/\(∃ v,c.cell? ⟨a,12,none⟩=some v)/\c.frozen? ⟨a,12,none⟩=false/\jK a Z y (y.over root st) w (c.setCell _ (.slice b ln k))):=λW l ⟨H,t,g1,g2⟩=>by
  obtain⟨q,q2⟩:=g1.walked (m:=m)  root t g2 (by show(y.aA _).s.ok m;rw[M];exact hs) (by show((y.aA _).s.walk root).1=_;rw[M]) P
  refine⟨q,q2.mono ?_⟩;rintro e c ⟨b,k,rfl,hv,hz,T,I,S,_,_,N,U⟩;refine⟨b,k,_,_,rfl,hv,hz,T,.inr (λg o e=>⟨(I g o e).1,by have:=(I g o e).2;simpa [World.setCell] using this⟩),.inl (by rw[S]),?_,?_⟩
  .unfold YV.over;rw[if_pos l,B];exact N
  .unfold YV.over;rw[if_pos l,B];exact U
 have n:Hid (∀ W:ω,y.aJ≠0->aF a Z y _ w W->jK a Z y (y.over root st) w W):=λW l hd=>by unfold YV.over;rw[if_neg l];exact hd.out
 have hP:=rD y;generalize y.over root st=yo at r n |-;generalize ({y.aA _ with j:=some (j.at st)}:YV)=y2 at D r
 generalize y.aA _=y1 at d D n;generalize y.aJ=F at d r n hP |-;by_cases A:F=0
 .rw[A] at d |-
  go_enter func133,ntmps133
  go_wp2_with fail
  refine cEq G.out λu C=>?_
  go_wp2_with fail
  refine cEq (d.out u C) λw2 x=>?_
  obtain⟨q,q2,q3,a0⟩:=D.out _ x;obtain⟨q4,Y⟩:=(λW hd=>r.out W A hd) _ a0
  go_wp2_with fail
  refine Y.mono ?_;rintro e w3 ⟨b,k,ln,f,rfl,⟨v,q5⟩,q6,hd⟩;go_wp2
  go_ret
  exact⟨rfl,hd⟩
 .have gF  := decide_eq_true (by omega)
  have R:=ah (λW hd=>n.out W A hd)
  go_enter func133,ntmps133
  go_wp2_with fail
  refine cEq G.out λu C=>?_
  go_wp2_with fail
  refine cEq (d.out u C) λw2 x=>?_
  go_wp2
  go_ret
  exact⟨rfl,(R.out _ x)⟩
def JA{c m C:Nat}{Z:Zh}{y:YV}{j:JV}(a:Bool)(w:ω)(h:aC w c Z y)(i:y.s.ok m)(b:y.j=S j)(d:JOk y.s C j) :
  κ prog 128 #[Z.jb.xp,a] w λe f=>e=.returned (iH j a)/\aF c Z y {y with j:=S (l9 j a)} w f :=
 (SX a w (h.rj i b d)).mono λ_ _ ⟨k,g⟩=>⟨k,h.wX b (ja0 _ _) g (xZ j a).1⟩
def JB{b m C:Nat}{Z:Zh}{y:YV}{j:JV}(w:ω)(h:aC w b Z y)(i:y.s.ok m)(a:y.j=S j)(c:JOk y.s C j)(d:m+10<1000000000) :
  κ prog 132 #[Z.jb.xp] w λe f=>e=.returned (dh y.s j)/\aF b Z y (y.t0 j) w f :=
 (S9 w (h.rj i a c) d).mono λ_ _ ⟨k,g⟩=>⟨k,h.wX a (ja0 _ _) g (Ic y.s j).1⟩
def WV{b m C:Nat}{Z:Zh}{y:YV}{j:JV}(w:ω)(h:aC w b Z y)(i:y.s.ok m)(a:y.j=S j)(c:JOk y.s C j)(d:m+10<1000000000) :
  κ prog 140 #[Z.jb.xp] w λe f=>e=.returned (.tuple #[.bool (fE y.s j),bW y.s j])/\aF b Z y (y.t1 j) w f :=
 (Tf w (h.rj i a c) d).mono λ_ _ ⟨k,g⟩=>⟨k,h.wX a (ja0 _ _) g (uw y.s j).1⟩
def W9{f C m:Nat}{Z:Zh}{y:YV}(a:Bool)(w:ω)(h:aC w f Z y)(l:YOk y C m) :
  κ prog 58 #[f,a] w λe n=>e=.returned (y.iH a)/\aF f Z y (y.pause a) w n:=by
 have d:=ah (qW w h);have q:Hid _:=aF.refl h;by_cases c:y.busy=true
 .obtain⟨j,b,o⟩:=lU c
  rw[c] at d;have g:y.iH a=iH j a:=by unfold YV.iH;rw[b];show(if 4<=j.stage then _ else _)=_;rw[if_neg (by omega)]
  have i:y.pause a={y with j:=S (l9 j a)}:=by unfold YV.pause;rw[if_pos c,b];rfl
  obtain⟨_,_,_,_,_,_,_,_,_,k,_⟩:=h.blk.cells;rw[b] at k;have u  := k;rw[g,i];go_enter func58,ntmps58
  go_wp2_with fail
  refine cSt d.out ?_;go_wp2_with fail
  refine cHd (JA a w h l.s b (l.job j b o).ok) λt r=>?_
  go_wp2
  go_ret
  exact⟨rfl,r.out⟩
 .have g:y.iH a=4:=by
   unfold YV.iH
   cases b:y.j with
   | none=>rfl
   | some j=>show(if 4<=j.stage then _ else _)=_;rw[if_pos (lT c j b)]
  have i:y.pause a=y:=by unfold YV.pause;rw[if_neg c]
  rw[show y.busy=false by simpa using c] at d
  rw[g,i];go_enter func58,ntmps58
  go_wp2_with fail
  refine cSt d.out ?_;go_wp2
  go_ret
  exact⟨rfl,q.out⟩
def WR{d C m:Nat}{Z:Zh}{y:YV}(w:ω)(h:aC w d Z y)(b:YOk y C m)(k:m<1000000000) :
  κ prog 56 #[d] w λe g=>e=.returned y.sV/\jK d Z y y.cancel w g:=by
 have c:=ah (qW w h);have i:Hid _:=(aF.refl h).out;unfold YV.cancel YV.sV;by_cases a:y.busy=true
 .obtain⟨j,l,q⟩:=lU a
  rw[a] at c;rw[if_pos a,if_pos a];have f:=ah (JC y.kd.root 5 w h b.s b.top l (by decide) b.root (by rw[b.ch.walk];exact b.ch.ne) k)
  have t:=h.blk.cells.2.2.2.1;generalize y.over y.kd.root 5=r at f |-;go_enter func56,ntmps56
  go_wp2_with fail
  refine cSt c.out ?_;go_wp2_with fail
  refine cHd f.out λo n=>?_
  go_wp2
  go_ret
  exact⟨rfl,n.out⟩
 .rw[if_neg a,if_neg a]
  rw[show y.busy=false by simpa using a] at c
  go_enter func56,ntmps56
  go_wp2_with fail
  refine cSt c.out ?_;go_wp2
  go_ret
  exact⟨rfl,i.out⟩
def Xa{c C m:Nat}{Z:Zh}{y:YV}(w:ω)(h:aC w c Z y)(r:YOk y C m)(hm:m+20<1000000000) :
  κ prog 54 #[c] w λe u=>e=.returned y.lg/\jK c Z y y.pivot w u:=by
 have f:=ah (qW w h);have G:Hid (jK c Z y y w w):=(aF.refl h).out;obtain⟨_,_,_,_,E,c9,_,_,_,I,_⟩:=h.blk.cells;by_cases l:y.busy=true
 .obtain⟨j,a,O⟩:=lU l
  have x:=r.job j a O;rw[l] at f;rw[a] at I;have a0  := I;by_cases b:y.kd.kind=2
  .have k:y.lg=9:=by unfold YV.lg;rw[a];show(if 4<=j.stage then _ else if y.kd.kind=2 then _ else _)=_;rw[if_neg (by omega),if_pos b]
   have B:y.pivot=y:=by unfold YV.pivot;rw[a];show(if 4<=j.stage\/y.kd.kind=2 then _ else _)=_;rw[if_pos (.inr b)]
   rw[k,B];rw[b] at E;go_enter func54,ntmps54
   go_wp2_with fail
   refine cSt f.out ?_;go_wp2
   go_ret
   exact⟨rfl,G.out⟩
  .have g2:(y.kd.kind==2)=false:=by simpa using b
   have t:=ah (JB w h r.s a x.ok (by omega))
   have Q:y.lg=if dh y.s j≠0 then dh y.s j else y.aJ:=by unfold YV.lg;rw[a];show(if 4<=j.stage then _ else if y.kd.kind=2 then _ else _)=_;rw[if_neg (by omega),if_neg b]
   have S:y.pivot=if dh y.s j≠0 then (y.t0 j) else (y.t0 j).over y.kd.file 4:=by unfold YV.pivot;rw[a];show(if 4<=j.stage\/y.kd.kind=2 then _ else _)=_;rw[if_neg (by rintro(e|e);omega;exact b e)]
   obtain⟨q,A⟩:=x.chain r.ch b;have V:j.kind≠2:=by rw[show j.kind=y.kd.kind by rw[<- x.dsk];rfl];exact b
   have P:0<=dh y.s j:=by
    unfold dh;split
    .rw[show j.file=y.kd.file by rw[<- x.dsk];rfl,A.walk];exact jb9 0
    .decide
   have X:0<=y.kd.file/\y.kd.file<=4:=by
    obtain⟨v,U,_⟩:=A.root;have:=SV.dS U
    omega
   have z:Hid (∀ W:ω,aF c Z y (y.t0 j) w W->W.cell? ⟨c,9,none⟩=some (y.kd.file:υ)/\κ prog 133 #[c,y.kd.file,(4:Int)] W λe u=>e=.returned y.aJ/\jK c Z y ((y.t0 j).over y.kd.file 4) w u):=λW ⟨Z1,k,g1,g2⟩=>by
    refine⟨g1.blk.cells.2.2.2.2.2.1,?_⟩;have H  := A.over (Uf V q);refine(JC (m:=m+10) (j:=eG y.s j) y.kd.file 4 W g1 (r.s.settle j (by omega)) (r.top.more (by omega)) rfl (by decide) X (by show((dU y.s j).walk y.kd.file).1≠[];rw[H.walk];exact H.ne) (by omega)).mono ?_
    rintro e u ⟨rfl,N,i,d,K,L⟩;refine⟨rfl,N,?_,?_,K,g2.trans L⟩
    .rcases i with i|i
     .exact .inl (i.trans k.la)
     .exact .inr λg o e=>⟨ja4 g2.size (i g o e).1,(i g o e).2⟩
    .rcases d with d|d
     .exact .inl (d.trans (by rw[k.jb]))
     .exact .inr λg o e=>⟨ja4 g2.size (d g o e).1,(d g o e).2⟩
   have J:=ah λW (hd:aF c Z y (y.t0 j) w W)=>hd.out
   rw[Q,S];generalize (y.t0 j).over y.kd.file 4=z3 at z |-;generalize (y.t0 j)=z1 at t z J |-;generalize dh y.s j=F at t P |-;generalize y.kd.kind=kk at E g2 b;generalize y.kd.file=ff at z;by_cases n:F=0
   .rw[if_neg (λe=>e n),if_neg (λe=>e n)]
    rw[n] at t;go_enter func54,ntmps54
    go_wp2_with fail
    refine cSt f.out ?_;go_wp2_with fail
    refine cEq t.out λM D=>?_
    obtain⟨Y,R⟩:=z.out _ D;go_wp2_with fail
    refine cHd R λw2 T=>?_
    go_wp2
    go_ret
    exact⟨rfl,T.out⟩
   .rw[if_pos n,if_pos n]
    have gF  := decide_eq_true (by omega)
    go_enter func54,ntmps54
    go_wp2_with fail
    refine cSt f.out ?_;go_wp2_with fail
    refine cEq t.out λM D=>?_
    go_wp2
    go_ret
    exact⟨rfl,(J.out _ D)⟩
 .have k:y.lg=4:=by
   unfold YV.lg
   cases a:y.j with
   | none=>rfl
   | some j=>show(if 4<=j.stage then _ else _)=_;rw[if_pos (lT l j a)]
  have B:y.pivot=y:=by
   unfold YV.pivot
   cases a:y.j with
   | none=>rfl
   | some j=>show(if 4<=j.stage\/y.kd.kind=2 then _ else _)=_;rw[if_pos (.inl (lT l j a))]
  rw[show y.busy=false by simpa using l] at f
  rw[k,B];go_enter func54,ntmps54
  go_wp2_with fail
  refine cSt f.out ?_;go_wp2
  go_ret
  exact⟨rfl,G.out⟩
def E5(s:SV)(n b:Int):0<=(dL s n b).2:=by
 unfold dL;split
 .omega
 .exact OE _ _
def Ir(s:SV)(j:JV):0<=Go.Proofs.YtbohmhacdgckgaaGreatDoor.bW s j:=by
 unfold bW;split
 .split
  .exact SV.FD _ _ _ _
  .decide
 .decide
def Io{j:JV}:j.state=5↔j.stage=5:=by
 unfold JV.state;omega
def ZD4(b:Nat)(Z:Zh)(y y':YV)(w a:ω):Prop:=∃ Z':Zh,(∀ g o,Z'.la=S ⟨g,o,O⟩->w.heap.size<=g/\g<a.heap.size)/\Z'.jb=Z.jb/\Z'.tp.p=Z.tp.p/\Z'.sp=Z.sp/\aC a b Z' y'/\Moved (fpZ b Z y) w (fpZ b Z' y') a
def ZD4.and{w c f:ω}{b:Nat}{Z:Zh}{y y1 y':YV}(h:ZD4 b Z y y1 w c)(m:∀ a,a.jb=Z.jb->aC c b a y1->aF b a y1 y' c f):ZD4 b Z y y' w f:=by
 obtain⟨a,d,i,j,l,k,r⟩:=h;obtain⟨n,e,g1,g2⟩:=m a i k;exact⟨n,λg o q=>by rw[e.la] at q;exact⟨(d g o q).1,ja9 (d g o q).2 g2.size⟩,e.jb.trans i,e.tp.trans j,e.sp.trans l,g1,r.trans g2⟩
def Jv{a m:Nat}{Z:Zh}{y z:YV}{w W:ω}(hd:aF a Z y z w W)(g:z.top.fine z.top.fl.length m)(d:0<=z.kd.root/\z.kd.root<=4)(i:m<1000000000) :
  W.cell? ⟨a,7,O⟩=S (z.kd.root:υ)/\∀ b:ω,β W W b->κ prog 38 #[a,kdG (aj z.kd.root)] b λe c=>e=.returned z.aJ/\aF a Z y (z.aA (aj z.kd.root)) w c:=by
 obtain⟨l,j,g1,g2⟩:=hd;refine⟨g1.blk.cells.2.2.2.1,λb f=>?_⟩
 refine cEq (uG _ b (g1.below f) g (kX d.1 d.2) i) λc k=>?_
 exact⟨rfl,aF.trans j g2 (aF.from f k)⟩
def WW{a:Nat}{Z:Zh}{y z:YV}{j:JV}{w W:ω}(hd:aF a Z y z w W)(b:z.j=S j) :
  W.cell? ⟨a,8,O⟩=S (z.kd.kind:υ)/\W.cell? ⟨a,13,O⟩=S (Z.jb.xp:υ)/\W.cell? ⟨Z.jb.xp,74,O⟩=S (j.state:υ):=by
 obtain⟨g,d,g1,g2⟩:=hd;obtain⟨_,_,_,_,f,_,_,_,_,c,_⟩:=g1.blk.cells;rw[b] at c;rw[<- d.jb];exact⟨f,c,(g1.job j b).1.cell  (by omega)⟩
def Xe{k C m:Nat}{Z:Zh}{y:YV}(w:ω)(h:aC w k Z y)(G:YOk y C m)(hm:m+30<1000000000) :
    κ prog 64 #[k] w λe n=>e=.returned (.tuple #[y.fE,y.bW])/\jK k Z y y.step w n:=by
  have F:=ah (qW w h);by_cases B:y.busy=true
  . obtain⟨j,D,hg⟩:=lU B
    have a6:=G.job j D hg;rw[B] at F;have X:=G.root;have r:=ah (WV w h G.s D a6.ok (by omega))
    have a7:(stepS y.s j).ok (m+10):=G.s.step j (by omega)
    have a9:JOk (stepS y.s j) C (stepJ y.s j):=a6.ok.step;have aa:(stepJ y.s j).kind=j.kind:=congrArg aP.kind (uw y.s j).2;have ek:y.kd.kind=j.kind:=by rw[<- a6.dsk];rfl
    have ac:=Ir y.s j;obtain⟨_,_,_,_,_,_,_,_,_,Y,_⟩:=h.blk.cells;rw[D] at Y;have bj:w.cell? ⟨k,13,none⟩=some (Z.jb.xp:υ):=Y;have J:Hid (∀ W:ω,κ prog 35 #[y.kd.root] W λe n=>e=.returned (kdG (aj y.kd.root))/\β W W n):=λW=>wo y.kd.root W
    have K:y.step=if bW y.s j≠0 then (if (stepJ y.s j).stage=5 then (y.t1 j).aA (aj y.kd.root) else (y.t1 j))
        else if y.kd.kind≠2\/(stepJ y.s j).state≠3 then (y.t1 j)
        else if dh (stepS y.s j) (stepJ y.s j)≠0 then (y.t2 j).aA (aj y.kd.root)
        else {(y.t4 j).aA (aj y.kd.root) with kd:=aj y.kd.root}:=by
      unfold YV.step;rw[D];show(if 4<=j.stage then _ else _)=_;rw[if_neg (by omega)]
    have Q:y.bW=if bW y.s j≠0 then bW y.s j else if y.kd.kind≠2\/(stepJ y.s j).state≠3 then 0 else dh (stepS y.s j) (stepJ y.s j):=by
      unfold YV.bW;rw[D];show(if 4<=j.stage then _ else _)=_;rw[if_neg (by omega)]
    have P:y.fE=if bW y.s j≠0 then false else if y.kd.kind≠2\/(stepJ y.s j).state≠3 then fE y.s j else decide (dh (stepS y.s j) (stepJ y.s j)=0):=by
      unfold YV.fE;rw[D];show(if 4<=j.stage then _ else _)=_;rw[if_neg (by omega)]
    have t:Hid (∀ W:ω,aF k Z y (y.t1 j) w W->W.cell? ⟨k,8,none⟩=some (y.kd.kind:υ)/\W.cell? ⟨k,13,none⟩=some (Z.jb.xp:υ)/\W.cell? ⟨Z.jb.xp,74,none⟩=some (.int .i64 (stepJ y.s j).state)):=λW hd=>WW (z:=(y.t1 j)) hd rfl
    have T:Hid (∀(z:YV) (W:ω),aF k Z y z w W->jK k Z y z w W):=λz W hd=>hd.out
    by_cases O:bW y.s j=0
    . rw[if_neg (λe=>e O)] at K Q P
      by_cases H:y.kd.kind≠2\/(stepJ y.s j).state≠3
      . rw[K,Q,P,if_pos H,if_pos H,if_pos H]
        have E:=ah (λW=>T.out (y.t1 j) W)
        rw[O] at r;clear h G B D hg a6 X a7 a9 aa ek ac Y J K Q P T O;generalize (y.t1 j)=z1 at r t E |-;generalize (stepJ y.s j).state=st at t H;generalize y.kd.kind=kk at t H;generalize fE y.s j=sb at r |-;by_cases U:kk=2
        . have h3:st≠3:=by rcases H with e|e;exact absurd U e;exact e
          have g2:(kk != 2)=false:=by simpa using U
          have g3:(st != 3)=true:=by simpa using h3
          go_enter func64,ntmps64
          go_wp2_with fail
          refine F.out.mono ?_;rintro e n ⟨rfl,x⟩;have I:=x.symm;subst I;clear x F;go_wp2_with fail
          refine r.out.mono ?_;rintro e w1 ⟨rfl,u⟩;obtain⟨L,q2,q3⟩:=t.out _ u;have N:=ah (E.out _ u);clear u r t E;go_wp2
          go_ret2
          exact⟨rfl,N.out⟩
        . have g2:(kk != 2)=true:=by simpa using U
          go_enter func64,ntmps64
          go_wp2_with fail
          refine F.out.mono ?_;rintro e n ⟨rfl,x⟩;have I:=x.symm;subst I;clear x F;go_wp2_with fail
          refine r.out.mono ?_;rintro e w1 ⟨rfl,u⟩;obtain⟨L,q2,q3⟩:=t.out _ u;have N:=ah (E.out _ u);clear u r t E;go_wp2
          go_ret2
          exact⟨rfl,N.out⟩
      . have U:y.kd.kind=2:=jaj λe=>H (.inl e)
        have h3:(stepJ y.s j).state=3:=jaj λe=>H (.inr e)
        rw[K,Q,P,if_neg H,if_neg H,if_neg H];have ap:(stepJ y.s j).kind=2:=aa.trans (ek.symm.trans U);obtain⟨ax,an⟩:=BZ (s:=stepS y.s j) h3 ap;have aL:0<=dh (stepS y.s j) (stepJ y.s j):=by rw[an];exact E5 _ _ _
        have al:(dU (stepS y.s j) (stepJ y.s j)).ok (m+20):=a7.settle _ (by omega)
        have R:Hid (∀ W:ω,aF k Z y (y.t1 j) w W->κ prog 132 #[Z.jb.xp] W λe n=>e=.returned (dh (stepS y.s j) (stepJ y.s j))/\aF k Z y (y.t2 j) w n):=λW ⟨Z1,e1,g1,g2⟩=>by
          rw[<- e1.jb];refine(JB (m:=m+10) (C:=C) (j:=stepJ y.s j) W g1 a7 rfl a9 (by omega)).mono ?_
          rintro e n ⟨rfl,hd⟩;exact⟨rfl,aF.trans e1 g2 hd⟩
        by_cases hS:dh (stepS y.s j) (stepJ y.s j)=0
        . rw[if_neg (λe=>e hS),decide_eq_true hS,hS]
          have ao:((dU (stepS y.s j) (stepJ y.s j)).walk y.kd.root).1≠[]:=λe=>by
            have q:=(G.step hm).ch.ne;rw[K,if_neg H,if_neg (λe=>e hS)] at q
            refine q ?_;show(YV.aA _ _).l=[]
            rw[(ny _ _).2.2.1];exact e
          have ad:Hid (∀ W:ω,aF k Z y (y.t2 j) w W->W.cell? ⟨k,6,none⟩=some (Z.sp:υ)/\W.cell? ⟨k,7,none⟩=some (y.kd.root:υ)/\∀ W1:ω,β W W W1->κ prog 82 #[Z.sp,y.kd.root] W1 λe n=>∃(b:Option Addr) (bc ln:Nat) (f:Int),e=.returned (.tuple #[.slice b ln bc,f])/\(n.cell? ⟨k,6,none⟩=some (Z.sp:υ)/\n.cell? ⟨k,7,none⟩=some (y.kd.root:υ)/\(∃ v,n.cell? ⟨k,12,none⟩=some v)/\n.frozen? ⟨k,12,none⟩=false)/\((n.setCell ⟨k,12,none⟩ (.slice b ln bc)).cell? ⟨k,6,none⟩=some (Z.sp:υ)/\(n.setCell ⟨k,12,none⟩ (.slice b ln bc)).cell? ⟨k,7,none⟩=some (y.kd.root:υ))/\ZD4 k Z y (y.t3 j) w (n.setCell ⟨k,12,none⟩ (.slice b ln bc))):=λW ⟨Z1,e1,g1,g2⟩=>by
            obtain⟨L,_⟩:=g1.walked (m:=m+20) (l:=((dU (stepS y.s j) (stepJ y.s j)).walk y.kd.root).1) y.kd.root e1 g2 al rfl ao;refine⟨L,g1.blk.cells.2.2.2.1,λW1 b4=>?_⟩
            obtain⟨_,q2⟩:=(g1.below b4).walked (m:=m+20) (l:=((dU (stepS y.s j) (stepJ y.s j)).walk y.kd.root).1) y.kd.root e1 (g2.trans (Moved.of_below b4)) al rfl ao;refine q2.mono ?_;rintro e n ⟨b,bc,rfl,hv,hz,Z2,V,p2,p3,p4,M,p6⟩;obtain⟨_,_,u6,u7,_⟩:=M.blk.cells;rw[p4] at u6;have v6:=u6;have v7:=u7;have aq:∀ i:Nat,i≠12->∀ v:υ,(n.setCell ⟨k,12,none⟩ v).cell? ⟨k,i,none⟩=n.cell? ⟨k,i,none⟩:=λi hi v=>jai _ _ _ _ (λe=>hi (by cases e;rfl))
            rw[aq 6 (by decide)] at u6
            rw[aq 7 (by decide)] at u7
            exact⟨b,bc,_,_,rfl,⟨u6,u7,hv,hz⟩,⟨v6,v7⟩,Z2,λg o e=>⟨(V g o e).1,by have:=(V g o e).2;simpa [World.setCell] using this⟩,p2,p3,p4,M,p6⟩
          have am:Hid (∀ W:ω,ZD4 k Z y (y.t3 j) w W->W.cell? ⟨k,13,none⟩=some (Z.jb.xp:υ)/\(∃ v,W.cell? ⟨Z.jb.xp,74,none⟩=some v)/\W.frozen? ⟨Z.jb.xp,74,none⟩=false/\ZD4 k Z y (y.t4 j) w (W.setCell ⟨Z.jb.xp,74,none⟩ (4:Int))):=λW hd=>by
            obtain⟨Z1,V,p2,p3,p4,M,p6⟩:=id hd;obtain⟨_,_,_,_,_,_,_,_,_,Y,_⟩:=M.blk.cells;have hJ:=(M.job _ rfl).1;rw[<- p2]
            exact⟨Y,⟨_,hJ.cell (i:=74) (by omega)⟩,hJ.thaw 74,by
              rw[p2]
              exact hd.and λZ2 e g=>by
                obtain⟨L,q2⟩:=g.stage rfl (show(4:Int)≠1 by decide)
                rw[e] at L q2
                exact⟨Z2,.refl Z2,L,q2⟩⟩
          have a0:Hid (∀ W:ω,ZD4 k Z y (y.t4 j) w W->W.cell? ⟨k,7,none⟩=some (y.kd.root:υ)/\∀ A:ω,β W W A->κ prog 38 #[k,kdG (aj y.kd.root)] A λe n=>e=.returned y.aJ/\ZD4 k Z y ((y.t4 j).aA (aj y.kd.root)) w n):=λW hd=>by
            obtain⟨Z1,V,p2,p3,p4,M,p6⟩:=id hd;refine⟨M.blk.cells.2.2.2.1,λA B=>?_⟩
            refine(uG (aj y.kd.root) A (M.below B) G.top (kX X.1 X.2) (by omega)).mono ?_
            rintro e n ⟨rfl,Z2,e2,g1,g2⟩;have g3:=(Moved.of_below B).trans g2;exact⟨rfl,Z2,λg o q=>by rw[e2.la] at q;exact⟨(V g o q).1,ja9 (V g o q).2 g3.size⟩,e2.jb.trans p2,e2.tp.trans p3,e2.sp.trans p4,g1,p6.trans g3⟩
          have a8:Hid (∀ W:ω,ZD4 k Z y ((y.t4 j).aA (aj y.kd.root)) w W->W.cell? ⟨k,7,none⟩=some (y.kd.root:υ)/\∀ A:ω,β W W A->(∃ a b c d:Int,A.cell? ⟨k,7,none⟩=some (y.kd.root:υ)/\A.cell? ⟨k,8,none⟩=some (a:υ)/\A.cell? ⟨k,9,none⟩=some (b:υ)/\A.cell? ⟨k,10,none⟩=some (c:υ)/\A.cell? ⟨k,11,none⟩=some (d:υ))/\(∀ i,A.frozen? ⟨k,i,none⟩=false)/\jK k Z y {(y.t4 j).aA (aj y.kd.root) with kd:=aj y.kd.root} w (A.setCells k 7 (kdV (aj y.kd.root)))):=λW hd=>by
            obtain⟨Z1,V,p2,p3,p4,M,p6⟩:=id hd
            have aw:∀ z:YV,z.kd=y.kd->(z.aA (aj y.kd.root)).kd.root=y.kd.root:=λz hz=>by
              by_cases h0:z.aJ=0
              . rw[vX h0];rfl
              . rw[vW h0,hz]
            have c7:=M.blk.cells.2.2.2.1;rw[aw (y.t4 j) rfl] at c7;refine⟨c7,λA B=>?_⟩
            have g:=M.below B;obtain⟨_,_,_,k7,k8,k9,b7,b9,_,_,kf⟩:=g.blk.cells;rw[aw (y.t4 j) rfl] at k7;obtain⟨L,q2⟩:=g.qN (aj y.kd.root);exact⟨⟨_,_,_,_,k7,k8,k9,b7,b9⟩,kf,Z1,.inr λg o e=>⟨(V g o e).1,ja9 (V g o e).2 (ja4 B.size q2.size)⟩,.inl (by rw[p2]),L,p6.trans ((Moved.of_below B).trans q2)⟩
          rw[O] at r;rw[hS] at R;rw[U,h3] at t;clear h G B D hg a6 X a7 a9 aa ek ac Y K Q P T O H U h3 ap ax an aL al ao;generalize ({(y.t4 j).aA (aj y.kd.root) with kd:=aj y.kd.root}:YV)=z6 at a8 |-
          generalize (y.t4 j).aA (aj y.kd.root)=z5 at a0 a8;generalize (y.t4 j)=z4 at am a0;generalize (y.t3 j)=z3 at ad am;generalize (y.t2 j)=z2 at R ad;generalize (y.t1 j)=z1 at r t R;generalize fE y.s j=sb at r;generalize y.aJ=df at a0;generalize y.kd.root=rr at ad a0 a8 J;unfold kdG aj at J a0;unfold kdV aj at a8;simp only at J a0 a8;go_enter func64,ntmps64
          go_wp2_with fail
          refine F.out.mono ?_;rintro e n ⟨rfl,x⟩;have I:=x.symm;subst I;clear x F;go_wp2_with fail
          refine r.out.mono ?_;rintro e w1 ⟨rfl,u⟩;obtain⟨L,q2,q3⟩:=t.out _ u;have ab:=ah (R.out _ u);clear u r t R;go_wp2_with fail
          refine ab.out.mono ?_;rintro e w2 ⟨rfl,ag⟩;obtain⟨u6,u7,aE⟩:=ad.out _ ag;have HW:=ah (aE w2.drew (ja0 _ _).drew);have d6:w2.drew.cell? ⟨k,6,none⟩=some (Z.sp:υ):=u6;have d7:w2.drew.cell? ⟨k,7,none⟩=some (rr:υ):=u7;clear ag aE ab ad;go_wp2
          go_region_held3 (λW=>W.cell? ⟨k,6,none⟩=some (Z.sp:υ)/\W.cell? ⟨k,7,none⟩=some (rr:υ))
            (first|(exact⟨d6,d7⟩)|assumption)
            (first
              | (go_at_call 82;refine HW.out.mono ?_;rintro e w3 ⟨b,bc,ln,f,rfl,⟨v6,v7,⟨v,bm⟩,bb⟩,b8,az⟩;have ba:=And.intro v6 v7;have b6:=ah az;clear az))
          clear HW ba b8 d6 d7;obtain⟨bk,⟨bh,bi⟩,bl,a5⟩:=am.out _ b6.out;obtain⟨r7,av⟩:=a0.out _ a5;have ar:=ah av;clear a5 av am a0;go_wp2_with fail
          refine(J.out _).mono ?_;rintro e w5 ⟨rfl,b2⟩;have aR:=ah (ar.out _ b2);clear b2 ar;go_wp2_with fail
          refine aR.out.mono ?_;rintro e w6 ⟨rfl,aD⟩;obtain⟨s7,aM⟩:=a8.out _ aD;have b0:=ah aM;clear aD aM a8 aR;go_wp2_with fail
          refine(J.out _).mono ?_;rintro e w7 ⟨rfl,b3⟩;obtain⟨⟨a1,a2,a3,a4,t7,t8,t9,bf,be⟩,tf,b1⟩:=b0.out _ b3;have f7:=tf 7;have f8:=tf 8;have f9:=tf 9;have bn:=tf 10;have bd:=tf 11;have N:=ah b1;clear b3 b1 tf b0 J;go_wp2
          go_ret2
          exact⟨rfl,N.out⟩
        . rw[if_pos hS,decide_eq_false hS]
          have S:Hid (∀ W:ω,aF k Z y (y.t2 j) w W->W.cell? ⟨k,7,none⟩=some (y.kd.root:υ)/\∀ A:ω,β W W A->κ prog 38 #[k,kdG (aj y.kd.root)] A λe n=>e=.returned y.aJ/\aF k Z y ((y.t2 j).aA (aj y.kd.root)) w n):=λW hd=>Jv (m:=m) hd G.top X (by omega)
          have E:=ah (λW=>T.out ((y.t2 j).aA (aj y.kd.root)) W)
          have gS:decide (0<dh (stepS y.s j) (stepJ y.s j))=true:=decide_eq_true (by omega)
          rw[O] at r;rw[U,h3] at t;clear h G B D hg a6 X a7 a9 aa ek ac Y K Q P T O H U h3 ap ax an aL al;generalize ((y.t2 j).aA (aj y.kd.root))=z3 at S E |-;generalize (y.t2 j)=z2 at R S;generalize (y.t1 j)=z1 at r t R;generalize dh (stepS y.s j) (stepJ y.s j)=SF at R gS |-;generalize fE y.s j=sb at r;go_enter func64,ntmps64
          go_wp2_with fail
          refine F.out.mono ?_;rintro e n ⟨rfl,x⟩;have I:=x.symm;subst I;clear x F;go_wp2_with fail
          refine r.out.mono ?_;rintro e w1 ⟨rfl,u⟩;obtain⟨L,q2,q3⟩:=t.out _ u;have ab:=ah (R.out _ u);clear u r t R;go_wp2_with fail
          refine ab.out.mono ?_;rintro e w2 ⟨rfl,ag⟩;obtain⟨q4,ae⟩:=S.out _ ag;have HW:=ah ae;clear ag ae ab S;go_wp2_with fail
          refine(J.out _).mono ?_;rintro e w3 ⟨rfl,af⟩;have ai:=ah (HW.out _ af);clear af HW J;go_wp2_with fail
          refine ai.out.mono ?_;rintro e w4 ⟨rfl,a5⟩;have N:=ah (E.out _ a5);clear a5 ai E;go_wp2
          go_ret2
          exact⟨rfl,N.out⟩
    . rw[if_pos O] at K Q P
      rw[Q,P];have gF:decide (0<bW y.s j)=true:=decide_eq_true (by omega)
      by_cases h5:(stepJ y.s j).stage=5
      . rw[K,if_pos h5]
        have S:Hid (∀ W:ω,aF k Z y (y.t1 j) w W->W.cell? ⟨k,7,none⟩=some (y.kd.root:υ)/\∀ A:ω,β W W A->κ prog 38 #[k,kdG (aj y.kd.root)] A λe n=>e=.returned y.aJ/\aF k Z y ((y.t1 j).aA (aj y.kd.root)) w n):=λW hd=>Jv (m:=m) hd G.top X (by omega)
        have E:=ah (λW=>T.out ((y.t1 j).aA (aj y.kd.root)) W)
        rw[Io.2 h5] at t;clear h G B D hg a6 X a7 a9 aa ek ac Y K Q P T O h5;generalize ((y.t1 j).aA (aj y.kd.root))=z3 at S E |-;generalize (y.t1 j)=z1 at r t S;generalize bW y.s j=SF at r gF |-;generalize fE y.s j=sb at r;go_enter func64,ntmps64
        go_wp2_with fail
        refine F.out.mono ?_;rintro e n ⟨rfl,x⟩;have I:=x.symm;subst I;clear x F;go_wp2_with fail
        refine r.out.mono ?_;rintro e w1 ⟨rfl,u⟩;obtain⟨L,q2,q3⟩:=t.out _ u;obtain⟨q4,ae⟩:=S.out _ u;have HW:=ah ae;clear u ae r t S;go_wp2_with fail
        refine(J.out _).mono ?_;rintro e w3 ⟨rfl,af⟩;have ai:=ah (HW.out _ af);clear af HW J;go_wp2_with fail
        refine ai.out.mono ?_;rintro e w4 ⟨rfl,a5⟩;have N:=ah (E.out _ a5);clear a5 ai E;go_wp2
        go_ret2
        exact⟨rfl,N.out⟩
      . rw[K,if_neg h5]
        have g5:((stepJ y.s j).state==5)=false:=by simpa using λe=>h5 (Io.1 e)
        have E:=ah (λW=>T.out (y.t1 j) W)
        clear h G B D hg a6 X a7 a9 aa ek ac Y K Q P T O h5 J;generalize (y.t1 j)=z1 at r t E |-;generalize bW y.s j=SF at r gF |-;generalize fE y.s j=sb at r;generalize (stepJ y.s j).state=st at t g5;go_enter func64,ntmps64
        go_wp2_with fail
        refine F.out.mono ?_;rintro e n ⟨rfl,x⟩;have I:=x.symm;subst I;clear x F;go_wp2_with fail
        refine r.out.mono ?_;rintro e w1 ⟨rfl,u⟩;obtain⟨L,q2,q3⟩:=t.out _ u;have N:=ah (E.out _ u);clear u r t E;go_wp2
        go_ret2
        exact⟨rfl,N.out⟩
  . have e1:y.bW=4:=by
      unfold YV.bW
      cases D:y.j with
      | none=>rfl
      | some j=>show(if 4<=j.stage then _ else _)=_;rw[if_pos (lT B j D)]
    have e2:y.step=y:=by
      unfold YV.step
      cases D:y.j with
      | none=>rfl
      | some j=>show(if 4<=j.stage then _ else _)=_;rw[if_pos (lT B j D)]
    have e3:y.fE=false:=by
      unfold YV.fE
      cases D:y.j with
      | none=>rfl
      | some j=>show(if 4<=j.stage then _ else _)=_;rw[if_pos (lT B j D)]
    have b5:Hid (jK k Z y y w w):=(aF.refl h).out;rw[show y.busy=false by simpa using B] at F
    rw[e1,e2,e3];clear h G B e1 e2 e3;go_enter func64,ntmps64
    go_wp2_with fail
    refine F.out.mono ?_;rintro e n ⟨rfl,x⟩;have I:=x.symm;subst I;clear x F;go_wp2
    go_ret2
    exact⟨rfl,b5.out⟩
