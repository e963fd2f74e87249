/- Two yards side by side: the program's and the document's. -/
import Derived.Test.YtbohmhacdgckgaaGreatDoorQOYardN2
set_option linter.all false
set_option maxHeartbeats 8000000
set_option maxRecDepth 100000
namespace Go.Proofs.YtbohmhacdgckgaaGreatDoor
open Go.RowKit renaming Below->β
open Go renaming World->ω, Value->υ, Calls->κ
open Option renaming none->O, some->S
open Go.Proofs.Tryz Go.RowKit Go.Maps
attribute [local go_sem ↓] Go.wp_at_zero Go.wp_at_succ
structure YZ(B:Gd)(w0 w:ω)(yp:Nat)(Y:Yh)(y:YV)(zp:Nat)(Z:Zh)(z:YV):Prop where
 prog:aB w yp Y y
 ref:aC w zp Z z
 apart:∀ k,fpY yp Y y k->¬fpZ zp Z z k
 pj:Apart Y.jb.a (fpZ zp Z z)
 pjL:∀ q o,Y.jb.a=S ⟨q,o,O⟩->q<w.heap.size
 rl:Apart Z.la (fpY yp Y y)
 rlL:∀ q o,Z.la=S ⟨q,o,O⟩->q<w.heap.size
 rj:Apart Z.jb.a (fpY yp Y y)
 rjL:∀ q o,Z.jb.a=S ⟨q,o,O⟩->q<w.heap.size
 offY:∀ k,fpY yp Y y k->¬B.g k
 offZ:∀ k,fpZ zp Z z k->¬B.g k
 kept:Kept (λk=>¬B.g k) w0 w
 top:B.top<=w0.heap.size
def YZ.IK{B:Gd}{a w:ω}{b c:Nat}{Y:Yh}{y z:YV}{Z:Zh}(h:YZ B a w b Y y c Z z):B.top<=w.heap.size:=ja4 h.top h.kept.size
theorem YZ.below{B:Gd}{c w b:ω}{d f:Nat}{Y:Yh}{y z:YV}{Z:Zh}(h:YZ B c w d Y y f Z z)(a:β w w b):YZ B c b d Y y f Z z :=
 ⟨h.prog.below a,h.ref.below a,h.apart,h.pj,λq o e=>ja9 (h.pjL q o e) a.size,h.rl,λq o e=>ja9 (h.rlL q o e) a.size,h.rj,λq o e=>ja9 (h.rjL q o e) a.size,h.offY,h.offZ,h.kept.trans (Below.kept a),h.top⟩
def YZ.Bo{B:Gd}{m w l:ω}{g i:Nat}{Y:Yh}{y y' z:YV}{Z:Zh}(h:YZ B m w g Y y i Z z)(hd:oV g Y y y' w l):∃ f,YZ B m l g f y' i Z z:=by
 obtain⟨f,n,r,b⟩:=hd;have j:=λk (e:fpZ i Z z k)=>h.ref.fF e
 refine⟨f,r,h.ref.beside b (λk c a=>h.apart k a c) h.rl h.rj,λk c a=>?_,λq o e a=>?_,λq o e=>?_,λq o e a=>?_,λq o e=>ja9 (h.rlL q o e) b.size,λq o e a=>?_,λq o e=>ja9 (h.rjL q o e) b.size,λk e=>?_,h.offZ,h.kept.trans (b.kept.mono λk _ e=>h.offY k e),h.top⟩
 .rcases b.new k c with q|q
  .exact h.apart k q a
  .have:=j k a;omega
 .rcases n with c|c
  .exact h.pj q o (by simp_all) a
  .have:=j q a;have:=(c q o e).1;omega
 .rcases n with c|c
  .exact ja9 (h.pjL q o (by simp_all)) b.size
  .simp_all
 .rcases b.new q a with d|d
  .exact h.rl q o e d
  .have:=h.rlL q o e;omega
 .rcases b.new q a with d|d
  .exact h.rj q o e d
  .have:=h.rjL q o e;omega
 .rcases b.new k e with q|q
  .exact h.offY k q
  .exact B.fresh h.IK q
def YZ.Gw{B:Gd}{j w i:ω}{f g:Nat}{Y:Yh}{y z m:YV}{Z:Zh}(h:YZ B j w f Y y g Z z)(hd:jK g Z z m w i):∃ Z',YZ B j i f Y y g Z' m:=by
 obtain⟨Z',r,l,s,c⟩:=hd;have d:=λk (e:fpY f Y y k)=>h.prog.fF e
 refine⟨Z',h.prog.beside c (λk a b=>h.apart k a b) h.pj,s,λk a b=>?_,λq o e b=>?_,λq o e=>ja9 (h.pjL q o e) c.size,λq o e b=>?_,λq o e=>?_,λq o e b=>?_,λq o e=>?_,h.offY,λk e=>?_,h.kept.trans (c.kept.mono λk _ e=>h.offZ k e),h.top⟩
 .rcases c.new k b with q|q
  .exact h.apart k a q
  .have:=d k a;omega
 .rcases c.new q b with n|n
  .exact h.pj q o e n
  .have:=h.pjL q o e;omega
 .rcases r with a|a
  .exact h.rl q o (by simp_all) b
  .have:=d q b;have:=(a q o e).1;omega
 .rcases r with a|a
  .exact ja9 (h.rlL q o (by simp_all)) c.size
  .simp_all
 .rcases l with a|a
  .exact h.rj q o (by simp_all) b
  .have:=d q b;have:=(a q o e).1;omega
 .rcases l with a|a
  .exact ja9 (h.rjL q o (by simp_all)) c.size
  .simp_all
 .rcases c.new k e with q|q
  .exact h.offZ k q
  .exact B.fresh h.IK q
def Both(B:Gd)(a:ω)(b c C m:Nat)(W:ω):Prop:=∃(Y:Yh) (Z:Zh) (y:YV),YZ B a W b Y y c Z y/\YOk y C m
theorem Both.below{B:Gd}{a W c:ω}{b d C m:Nat}(h:Both B a b d C m W)(i:β W W c):Both B a b d C m c:=by
 obtain⟨Y,Z,y,g,f⟩:=h;exact⟨Y,Z,y,g.below i,f⟩
theorem Both.more{B:Gd}{a W:ω}{b c C m m':Nat}(h:Both B a b c C m W)(d:m<=m'):Both B a b c C m' W:=by
 obtain⟨Y,Z,y,g,f⟩:=h;exact⟨Y,Z,y,g,f.more d⟩
structure nR(x:aT):Prop where
 rA : -2^63<=x.a/\x.a<=2^63-1
 rB : -2^63<=x.b/\x.b<=2^63-1
 rS:x.s.size<=700
def lC.cells5{w:ω}{N:Nat}{a:aT}(h:lC w N a):w.cell? ⟨N,1,O⟩=S (a.a:υ)/\w.cell? ⟨N,2,O⟩=S (a.b:υ)/\w.cell? ⟨N,3,O⟩=S (a.c:υ)/\w.cell? ⟨N,4,O⟩=S (a.d:υ)/\w.cell? ⟨N,5,O⟩=S (a.s:υ):=by
 refine⟨?_,?_,?_,?_,?_⟩<;>(rw[cell_of_row _ _ _ _ _ _ h.blk];rfl)
def YOk.c32{y:YV}{C m:Nat}(h:YOk y C m):1<=C/\C<=32:=by
 obtain⟨v,a,b⟩:=h.ch.root;have:=HV.dK (h.s.file a).h
 omega
def oP{B:Gd}{b c:Nat}{r w:ω}{Y:Yh}{Z:Zh}{y y':YV}(h:YZ B r w b Y y c Z y)(x:aT){fp fr:FuncId}{u l:Array υ}{vp vr:υ}
  (A:∀ W:ω,aB W b Y y->κ prog fp u W λe a=>e=.returned vp/\oV b Y y y' W a)
  (C:∀(W:ω) (Z:Zh),aC W c Z y->κ prog fr l W λe a=>e=.returned vr/\jK c Z y y' W a) :
  ∀ W:ω,β (w.alloc (dR x)).heap.size (w.alloc (dR x)) W->κ prog fp u W λe a=>e=.returned vp/\lC a w.heap.size x/\∀ d:ω,β a a d->κ prog fr l d λe i=>e=.returned vr/\lC i w.heap.size x/\∃ g Z',YZ B r i b g y' c Z' y':=λW m=>by
 have n:β _ w (w.alloc (dR x)):=(ja0 _ _).alloc (ja1 _) _;have q:=h.below (n.trans (m.mono n.size));have o  := (m.block _ (by simp)).trans (heap_alloc_new w _)
 refine cEq (A W q.prog) λa hd=>?_
 obtain⟨g,v⟩:=q.Bo hd;obtain⟨_,_,_,j⟩:=hd;have f  := (j.block (lt_of_some o) (λe=>by have:=h.prog.fF e;omega)).trans o
 refine⟨rfl,⟨f⟩,λd t=>?_⟩
 have s:=v.below t;have k  := (t.block _ (lt_of_some f)).trans f;refine cEq (C d Z s.ref) λi hd=>?_
 obtain⟨Z',z⟩:=s.Gw hd;obtain⟨_,_,_,_,j⟩:=hd;exact⟨rfl,⟨(j.block (lt_of_some k) (λe=>by have:=h.ref.fF e;omega)).trans k⟩,g,Z',z⟩
def Dy(s:SV)(l:List Int)(fr n:Int):0<=s.aW l fr n:=by
 by_cases h:s.aW l fr n=0
 .omega
 .exact Int.le_of_lt (wL h)
def EF{a:SV->Pt->SV × Int}(c:∀(s:SV) p,0<=(a s p).2):∀(P:List Pt) (s:SV),0<=(jC a s P).2:=by
 intro P
 induction P with
 | nil=>intro s;exact jb4 _
 | cons p r b =>
  intro s;rw[pY];split
  .exact b _
  simp_all
def WO(y:YV)(fr:Int)(t:ByteArray):0<=y.dJ fr t:=by
 unfold YV.dJ;split
 .unfold SV.put
  split
  .split
   .exact EF (λs p=>AA _ _ _ _ _) _ _
   .omega
  .omega
 .decide
def WM(y:YV)(fr n:Int):0<=y.mG fr n:=by
 unfold YV.mG;split
 .next h =>
  unfold SV.wipe;rw[if_pos h];exact EF (λs p=>I4 _ _ _) _ _
 .decide
def Wv(y:YV)(f:Int):0<=y.jP f:=by
 unfold YV.jP;split
 .decide
 .split
  .decide
  .split
   .exact rD _
   .exact zJ _ _ _
def OB(d:KV):0<=d.fault:=by
 unfold KV.fault;omega
def Wy(y:YV)(d:aP):0<=y.iU d:=by
 unfold YV.iU;split
 .exact rD _
 .unfold YV.kU
  split
  .decide
  .split
   .decide
   .split
    .exact AX _ _
    .exact OB _
def Ib(s:SV)(j:JV):0<=dh s j:=by
 unfold dh;split
 .split
  .exact E5 _ _ _
  .exact(s.walk_good _).2.2.1
 .decide
def Wp(y:YV):0<=y.lg:=by
 unfold YV.lg;split
 .decide
 .split
  .decide
  .split
   .decide
   .split
    .exact Ib _ _
    .exact rD _
def VU(y:YV):0<=y.sV:=by
 unfold YV.sV;split
 .exact rD _
 .decide
def Wl(y:YV)(a:Bool):0<=y.iH a:=by
 unfold YV.iH;split
 .decide
 .split
  .decide
  .unfold iH
   omega
def WE(n:Int):0<=YV.uy n:=by unfold YV.uy;omega
def VR(f n:Int):0<=YV.kW f n:=by unfold YV.kW;omega
def Jo(y:YV):0<=y.bW:=by
 unfold YV.bW;split
 .decide
 .split
  .decide
  .split
   .exact Ir _ _
   .split
    .decide
    .exact Ib _ _
def Stp(B:Gd)(j w:ω)(k l C m:Nat)(x:aT)(fp fr:FuncId)(n i:Array υ):Prop:=∃(f:Int) (b:YV),0<=f/\YOk b C (m+3000)/\∀ W:ω,β (w.alloc (dR x)).heap.size (w.alloc (dR x)) W->κ prog fp n W λe a=>e=.returned (erV f)/\lC a w.heap.size x/\∀ d:ω,β a a d->κ prog fr i d λe c=>e=.returned f/\lC c w.heap.size x/\∃ g Z',YZ B j c k g b l Z' b
def JR{B:Gd}{g i C m:Nat}{n:ω}{Y:Yh}{Z:Zh}{y:YV}(x:aT)(w:ω)(h:YZ B n w g Y y i Z y)(f:YOk y C m)(o:nR x)(u:m+10000<1000000000)
  (t:x.kind.toList=[119,114,105,116,101]\/x.kind.toList=[98,108,97,110,107]\/x.kind.toList=[115,110,97,112]\/x.kind.toList=[115,116,97,114,116]\/x.kind.toList=[112,97,117,115,101]\/x.kind.toList=[116,105,99,107]\/x.kind.toList=[102,97,105,108]) :
  x.kind.toList=[119,114,105,116,101]/\Stp B n w g i C m x 24 41 #[g,x.a,x.s] #[i,x.a,x.s,false] \/
  x.kind.toList=[98,108,97,110,107]/\Stp B n w g i C m x 47 48 #[g,x.a] #[i,x.a,(-1:Int)] \/
  x.kind.toList=[115,110,97,112]/\Stp B n w g i C m x 49 50 #[g,x.a] #[i,x.a] \/
  x.kind.toList=[115,116,97,114,116]/\Stp B n w g i C m x 51 52 #[g,x.a,x.b,x.c,x.d] #[i,x.a,x.b,x.c,x.d] \/
  x.kind.toList=[112,97,117,115,101]/\Stp B n w g i C m x 57 58 #[g,.bool (decide (0<x.a))] #[i,.bool (decide (0<x.a))] \/
  x.kind.toList=[116,105,99,107]/\Stp B n w g i C m x 59 60 #[g,x.a] #[i,x.a] \/
  x.kind.toList=[102,97,105,108]/\Stp B n w g i C m x 61 62 #[g,x.a,x.b] #[i,x.a,x.b]:=by
 have r:=f.c32;have v:=o.rS;rcases t with e|e|e|e|e|e|e
 .exact .inl ⟨e,_,_,WO _ _ _,(f.write x.a x.s (by omega)).more (by omega),oP h x (λW j=>(Jr x.a x.s W j f (by omega) (by omega) o.rA (by omega)).mono λe l q=>⟨q.1,q.2.out⟩) (λW Z k=>(Xj x.a x.s W k f (by omega) (by omega) o.rA (by omega)).mono λe l q=>⟨q.1,q.2.out⟩)⟩
 .exact .inr (.inl ⟨e,_,_,zJ _ _ _,(f.blank x.a (-1) (by omega)).more (by omega),oP h x (λW j=>(VT x.a W j f r (by omega)).mono λe l q=>⟨q.1,q.2.out⟩) (λW Z k=>(Jw x.a (-1) W k f (by omega) (by omega)).mono λe l q=>⟨q.1,q.2.out⟩)⟩)
 .exact .inr (.inr (.inl ⟨e,_,_,Wv _ _,(f.snap x.a (by omega)).more (by omega),oP h x (λW j=>(Wx x.a W j f r (by omega)).mono λe l q=>⟨q.1,q.2.out⟩) (λW Z k=>Xb x.a W k f (by omega) (by omega))⟩))
 .exact .inr (.inr (.inr (.inl ⟨e,_,_,Wy _ _,(f.start (d:=jH y x.a x.b x.c x.d) rfl (by omega)).more (by omega),oP h x (λW j=>WA x.a x.b x.c x.d W j f (by omega)) (λW Z k=>Xc x.a x.b x.c x.d W k f (by omega))⟩)))
 .exact .inr (.inr (.inr (.inr (.inl ⟨e,_,_,Wl _ _,(f.pause _).more (by omega),oP h x (λW j=>(Wn _ W j f).mono λe l q=>⟨q.1,q.2.out⟩) (λW Z k=>(W9 _ W k f).mono λe l q=>⟨q.1,q.2.out⟩)⟩))))
 .exact .inr (.inr (.inr (.inr (.inr (.inl ⟨e,_,_,WE _,(f.tick x.a).more (by omega),oP h x (λW j=>(WG x.a W j f).mono λe l q=>⟨q.1,q.2.out⟩) (λW Z k=>(Xf x.a W k f).mono λe l q=>⟨q.1,q.2.out⟩)⟩)))))
 .exact .inr (.inr (.inr (.inr (.inr (.inr (⟨e,_,_,VR _ _,(f.arm x.a x.b o.rB.2).more (by omega),oP h x (λW j=>(V5 x.a x.b W j o.rB.2).mono λe l q=>⟨q.1,q.2.out⟩) (λW Z k=>(WQ x.a x.b W k).mono λe l q=>⟨q.1,q.2.out⟩)⟩))))))
def JQ{B:Gd}{b c C m:Nat}{g:ω}{Y:Yh}{Z:Zh}{y:YV}(x:aT)(w:ω)(h:YZ B g w b Y y c Z y)(a:YOk y C m)(k:nR x)(l:m+10000<1000000000)
  (j:x.kind.toList=[112,105,118,111,116]\/x.kind.toList=[99,97,110,99,101,108]) :
  x.kind.toList=[112,105,118,111,116]/\Stp B g w b c C m x 53 54 #[b] #[c] \/
  x.kind.toList=[99,97,110,99,101,108]/\Stp B g w b c C m x 55 56 #[b] #[c]:=by
 rcases j with e|e
 .exact .inl ⟨e,_,_,Wp _,(a.pivot (by omega)).more (by omega),oP h x (λW d=>(Wq W d a (by omega)).mono λe i q=>⟨q.1,q.2.out⟩) (λW Z f=>Xa W f a (by omega))⟩
 .exact .inr (⟨e,_,_,VU _,(a.cancel (by omega)).more (by omega),oP h x (λW d=>(VW W d a (by omega)).mono λe i q=>⟨q.1,q.2.out⟩) (λW Z f=>WR W f a (by omega))⟩)
def sG{B:Gd}{n o C m:Nat}{q:ω}{Y:Yh}{Z:Zh}{y:YV}(x:aT)(w:ω)(h:YZ B q w n Y y o Z y)(P:YOk y C m)(T:nR x)(U:m+10000<1000000000)
    (J:x.kind.toList=[119,114,105,116,101]\/x.kind.toList=[98,108,97,110,107]\/x.kind.toList=[115,110,97,112]\/x.kind.toList=[115,116,97,114,116]\/x.kind.toList=[112,97,117,115,101]\/x.kind.toList=[116,105,99,107]\/x.kind.toList=[102,97,105,108]) :
    κ prog 14 #[n,o,.agg #[x.kind,x.a,x.b,x.c,x.d,x.s,.slice x.ka x.kl x.kc]] w λe F=>e=.returned true/\Both B q n o C (m+3000) F:=by
  have a1:lC (w.alloc (dR x)) w.heap.size x:=⟨heap_alloc_new w _⟩;have v:=a1.cells5;have t:Hid (β (w.alloc (dR x)).heap.size (w.alloc (dR x)) (w.alloc (dR x)).drew):=(ja0 _ _).drew;rcases JR x w h P T U J with⟨g,f,l,j,k,i⟩|⟨g,f,l,j,k,i⟩|⟨g,f,l,j,k,i⟩|⟨g,f,l,j,k,i⟩|⟨g,f,l,j,k,i⟩|⟨g,f,l,j,k,i⟩|⟨g,f,l,j,k,i⟩
  all_goals
    have G:=ah k;have D:=ah i
    (first|have M:(x.kind.toList==[119,114,105,116,101])=true:=by rw[g];rfl|have M:(x.kind.toList==[119,114,105,116,101])=false:=by rw[g];rfl)
    (first|have g1:(x.kind.toList==[119,105,112,101])=true:=by rw[g];rfl|have g1:(x.kind.toList==[119,105,112,101])=false:=by rw[g];rfl)
    (first|have g2:(x.kind.toList==[114,101,97,100])=true:=by rw[g];rfl|have g2:(x.kind.toList==[114,101,97,100])=false:=by rw[g];rfl)
    (first|have g3:(x.kind.toList==[102,108,117,115,104])=true:=by rw[g];rfl|have g3:(x.kind.toList==[102,108,117,115,104])=false:=by rw[g];rfl)
    (first|have Q:(x.kind.toList==[98,108,97,110,107])=true:=by rw[g];rfl|have Q:(x.kind.toList==[98,108,97,110,107])=false:=by rw[g];rfl)
    (first|have V:(x.kind.toList==[115,110,97,112])=true:=by rw[g];rfl|have V:(x.kind.toList==[115,110,97,112])=false:=by rw[g];rfl)
    (first|have E:(x.kind.toList==[115,116,97,114,116])=true:=by rw[g];rfl|have E:(x.kind.toList==[115,116,97,114,116])=false:=by rw[g];rfl)
    (first|have N:(x.kind.toList==[112,105,118,111,116])=true:=by rw[g];rfl|have N:(x.kind.toList==[112,105,118,111,116])=false:=by rw[g];rfl)
    (first|have O:(x.kind.toList==[99,97,110,99,101,108])=true:=by rw[g];rfl|have O:(x.kind.toList==[99,97,110,99,101,108])=false:=by rw[g];rfl)
    (first|have H:(x.kind.toList==[112,97,117,115,101])=true:=by rw[g];rfl|have H:(x.kind.toList==[112,97,117,115,101])=false:=by rw[g];rfl)
    (first|have a0:(x.kind.toList==[116,105,99,107])=true:=by rw[g];rfl|have a0:(x.kind.toList==[116,105,99,107])=false:=by rw[g];rfl)
    (first|have I:(x.kind.toList==[102,97,105,108])=true:=by rw[g];rfl|have I:(x.kind.toList==[102,97,105,108])=false:=by rw[g];rfl)
    unfold dR at D v t;go_enter func14,ntmps14
    go_wp2
    go_region_held3 (λW=>W.cell? ⟨w,1,none⟩=some (x.a:υ)/\W.cell? ⟨w,2,none⟩=some (x.b:υ)/\W.cell? ⟨w,3,none⟩=some (x.c:υ)/\W.cell? ⟨w,4,none⟩=some (x.d:υ)/\W.cell? ⟨w,5,none⟩=some (x.s:υ))
      (first|(exact v)|assumption)
      (first
        | ((first|go_at_call 24|go_at_call 47|go_at_call 49|go_at_call 51|go_at_call 57|go_at_call 59|go_at_call 61);refine(D.out _ t.out).mono ?_;rintro e w1 ⟨rfl,r,u⟩;have a2:=r.cells5;have R:=ah u;clear u r)
        | ((first|go_at_call 41|go_at_call 48|go_at_call 50|go_at_call 52|go_at_call 58|go_at_call 60|go_at_call 62);refine(R.out _ (ja0 _ _)).mono ?_;rintro e w2 ⟨rfl,A,z⟩;have a3:=A.cells5;have L:=ah z;clear z A)
        | (go_at_call 10;refine cSt (oH f _ j) ?_))
    have K:Hid (Both B q n o C (m+3000) w2):=L.out.elim λS h=>h.elim λZ' X=>⟨S,Z',l,X,G.out⟩
    go_wp2
    go_ret
    exact⟨rfl,K.out⟩
def Je{B:Gd}{i j C m:Nat}{k:ω}{Y:Yh}{Z:Zh}{y:YV}(x:aT)(w:ω)(h:YZ B k w i Y y j Z y)(L:YOk y C m)(O:nR x)(P:m+10000<1000000000)
  (D:x.kind.toList=[112,105,118,111,116]\/x.kind.toList=[99,97,110,99,101,108]) :
  κ prog 14 #[i,j,.agg #[x.kind,x.a,x.b,x.c,x.d,x.s,.slice x.ka x.kl x.kc]] w λe u=>e=.returned true/\Both B k i j C (m+3000) u:=by
 have U:lC (w.alloc (dR x)) w.heap.size x:=⟨heap_alloc_new w _⟩;have H:=U.cells5;have z:Hid (β (w.alloc (dR x)).heap.size (w.alloc (dR x)) (w.alloc (dR x)).drew):=(ja0 _ _).drew;rcases JQ x w h L O P D with⟨g,f,r,o,q,n⟩|⟨g,f,r,o,q,n⟩
 all_goals
  have l:=ah n
  (first|have G:(x.kind.toList==[119,114,105,116,101])=true:=by rw[g];rfl|have G:(x.kind.toList==[119,114,105,116,101])=false:=by rw[g];rfl)
  (first|have g1:(x.kind.toList==[119,105,112,101])=true:=by rw[g];rfl|have g1:(x.kind.toList==[119,105,112,101])=false:=by rw[g];rfl)
  (first|have g2:(x.kind.toList==[114,101,97,100])=true:=by rw[g];rfl|have g2:(x.kind.toList==[114,101,97,100])=false:=by rw[g];rfl)
  (first|have g3:(x.kind.toList==[102,108,117,115,104])=true:=by rw[g];rfl|have g3:(x.kind.toList==[102,108,117,115,104])=false:=by rw[g];rfl)
  (first|have M:(x.kind.toList==[98,108,97,110,107])=true:=by rw[g];rfl|have M:(x.kind.toList==[98,108,97,110,107])=false:=by rw[g];rfl)
  (first|have Q:(x.kind.toList==[115,110,97,112])=true:=by rw[g];rfl|have Q:(x.kind.toList==[115,110,97,112])=false:=by rw[g];rfl)
  (first|have t:(x.kind.toList==[115,116,97,114,116])=true:=by rw[g];rfl|have t:(x.kind.toList==[115,116,97,114,116])=false:=by rw[g];rfl)
  (first|have J:(x.kind.toList==[112,105,118,111,116])=true:=by rw[g];rfl|have J:(x.kind.toList==[112,105,118,111,116])=false:=by rw[g];rfl)
  (first|have K:(x.kind.toList==[99,97,110,99,101,108])=true:=by rw[g];rfl|have K:(x.kind.toList==[99,97,110,99,101,108])=false:=by rw[g];rfl)
  (first|have v:(x.kind.toList==[112,97,117,115,101])=true:=by rw[g];rfl|have v:(x.kind.toList==[112,97,117,115,101])=false:=by rw[g];rfl)
  (first|have S:(x.kind.toList==[116,105,99,107])=true:=by rw[g];rfl|have S:(x.kind.toList==[116,105,99,107])=false:=by rw[g];rfl)
  (first|have A:(x.kind.toList==[102,97,105,108])=true:=by rw[g];rfl|have A:(x.kind.toList==[102,97,105,108])=false:=by rw[g];rfl)
  unfold dR at l H z;go_enter func14,ntmps14
  go_wp2_with fail
  refine(l.out _ (ja0 _ _)).mono ?_;rintro e V ⟨rfl,W,F⟩;go_wp2_with fail
  refine(F _ (ja0 _ _)).mono ?_;rintro e T ⟨rfl,X,I⟩;go_wp2_with fail
  refine cSt (oH f _ o) ?_;have E:Hid (Both B k i j C (m+3000) T):=I.elim λN h=>h.elim λZ' R=>⟨N,Z',r,R,q⟩
  go_wp2
  go_ret
  exact⟨rfl,E.out⟩
def Px(n:Nat)(w:ω)(u:n<=10000) :
  κ prog 43 #[(n:Int)] w λe g=>e=.returned (.string (bytesOf (List.replicate n 0)))/\β w w g:=by
 obtain⟨b,s,l,r,c⟩:=info_parts xE;obtain⟨d,t,f,m⟩:=run_make_full  w _ _ 5 b _ 1 underlying185 s l r .i64 .i64 n (by rw[c];omega) (by unfold maxLen;omega) (ja1 _)
 have i:d.rangeAt _ 0 (aY (List.replicate n 0)):=λj v a=>by
  have x:j<n:=by
   rcases jat j n with q|q
   .exact q
   .rw[jaj (by rw[ni,jaw];exact q)] at a;cases a
  rw[jaq,f.cellAt j (by omega)]
  have e:(madeCells (Value.int .u8 0).cells (n*1)).toList=aY (List.replicate n 0):=by
   rw[Nat.mul_one];show(madeCells #[Value.int _ 0] n).toList=_
   rw[toList_madeCells_one];simp[aY]
  simp_all
 have y:=uM n n (by simp) i
 have o:Hid _:=((ja0 _ _).grown m (ja1 _) (λk e=>by cases e))
 go_enter func43,ntmps43
 go_wp2
 go_ret
 exact⟨rfl,o.out⟩
def YZ.tab{B:Gd}{a w:ω}{f i:Nat}{Y:Yh}{y z:YV}{Z:Zh}(h:YZ B a w f Y y i Z z)(d:S4.Tab a)(b:B.g 0):S4.Tab w:=λj c=>by
 have e:w.cell? ⟨0,j,O⟩=a.cell? ⟨0,j,O⟩:=by
  unfold World.cell?;rw[h.kept.block 0 (ja9 (B.lt 0 b) h.top) (λq=>q b)]
 exact e.trans (d j c)
def lC.below{w W:ω}{N:Nat}{x:aT}(h:lC w N x)(a:β w w W):lC W N x:=⟨(a.block _ (lt_of_some h.blk)).trans h.blk⟩
def Jt{B:Gd}{b c:Nat}{i w:ω}{Y:Yh}{Z:Zh}{y y':YV}(h:YZ B i w b Y y c Z y)(v:S4.Tab i)(x:B.g 0){fp fr:FuncId}{n k:Array υ}{vp vr:υ}
  (o:∀ W:ω,aB W b Y y->S4.Tab W->κ prog fp n W λe a=>e=.returned vp/\oV b Y y y' W a)
  (r:∀(W:ω) (Z:Zh),aC W c Z y->κ prog fr k W λe a=>e=.returned vr/\jK c Z y y' W a) :
  ∀ W:ω,β w w W->κ prog fp n W λe a=>e=.returned vp/\∀ d:ω,β a a d->κ prog fr k d λe m=>e=.returned vr/\∃ f Z',YZ B i m b f y' c Z' y':=λW s=>by
 have j:=h.below s;refine cEq (o W j.prog (j.tab v x)) λa hd=>?_
 obtain⟨f,q⟩:=j.Bo hd;refine⟨rfl,λd t=>?_⟩
 have l:=q.below t;refine cEq (r d Z l.ref) λm hd=>?_
 obtain⟨Z',u⟩:=l.Gw hd;exact⟨rfl,f,Z',u⟩
def Ju{B:Gd}{c f C m:Nat}{d w:ω}{Y:Yh}{Z:Zh}{y:YV}(h:YZ B d w c Y y f Z y)(i:YOk y C m)(v:S4.Tab d)(x:B.g 0)(z:m+10000<1000000000) :
    ∀ W:ω,β w w W->κ prog 63 #[c] W λe a=>e=.returned (.tuple #[y.fE,erV y.bW])/\∀ b:ω,β a a b->κ prog 64 #[f] b λe j=>e=.returned (.tuple #[y.fE,y.bW])/\Both B d c f C (m+3000) j:=λW s =>
  (Jt h v x  (λW k o=>(WC W k i o (by omega)).mono λe a q=>⟨q.1,q.2.out⟩) (λW Z n=>Xe W n i (by omega)) W s).mono λe a q=>⟨q.1,λb u=>(q.2 b u).mono λe j r=>⟨r.1,by
    obtain⟨l,Z',t⟩:=r.2
    exact⟨l,Z',y.step,t,(i.step (by omega)).more (by omega)⟩⟩⟩
def VO{B:Gd}{j l C m:Nat}{k:ω}{Y:Yh}{Z:Zh}{y:YV}(x:aT)(w:ω)(h:YZ B k w j Y y l Z y)(H:YOk y C m)(K:m+10000<1000000000)(E:S4.Tab k)(O:B.g 0)(o:x.kind.toList≠[119,114,105,116,101])(L:x.kind.toList≠[119,105,112,101])(F:x.kind.toList≠[114,101,97,100])(M:x.kind.toList≠[102,108,117,115,104])(N:x.kind.toList≠[98,108,97,110,107])(q:x.kind.toList≠[115,110,97,112])(A:x.kind.toList≠[115,116,97,114,116])(u:x.kind.toList≠[112,105,118,111,116])(J:x.kind.toList≠[99,97,110,99,101,108])(v:x.kind.toList≠[112,97,117,115,101])(G:x.kind.toList≠[116,105,99,107])(r:x.kind.toList≠[102,97,105,108]) :
  κ prog 14 #[j,l,.agg #[x.kind,x.a,x.b,x.c,x.d,x.s,.slice x.ka x.kl x.kc]] w λe t=>e=.returned true/\Both B k j l C (m+3000) t:=by
 have z:β w w (w.alloc (dR x)):=(ja0 _ _).alloc (ja1 _) _;have i:=ah (Ju (h.below z) H E O K);have T  := beq_eq_false_iff_ne.2 o;have g1  := beq_eq_false_iff_ne.2 L;have g2  := beq_eq_false_iff_ne.2 F;have g3  := beq_eq_false_iff_ne.2 M;have W  := beq_eq_false_iff_ne.2 N;have X  := beq_eq_false_iff_ne.2 q;have P  := beq_eq_false_iff_ne.2 A;have U  := beq_eq_false_iff_ne.2 u;have V  := beq_eq_false_iff_ne.2 J;have Q  := beq_eq_false_iff_ne.2 v;have a0  := beq_eq_false_iff_ne.2 G;have S  := beq_eq_false_iff_ne.2 r;have n:=Jo y
 generalize y.bW=f at i n;generalize y.fE=b at i;unfold dR at i;go_enter func14,ntmps14
 go_wp2_with fail
 refine cHd (i.out _ (ja0 _ _)) λR I=>?_
 go_wp2_with fail
 refine cHd (I.out _ (ja0 _ _)) λw4 D=>?_
 go_wp2_with fail
 refine cSt (oH f _ n) ?_;go_wp2
 go_ret
 exact⟨rfl,D.out⟩
def VL{B:Gd}{j l C m:Nat}{k:ω}{Y:Yh}{Z:Zh}{y:YV}(x:aT)(w:ω)(h:YZ B k w j Y y l Z y)(u:YOk y C m)(N:m+10000<1000000000)(A:S4.Tab k)(F:B.g 0)(n:x.kind.toList=[102,108,117,115,104]) :
  κ prog 14 #[j,l,.agg #[x.kind,x.a,x.b,x.c,x.d,x.s,.slice x.ka x.kl x.kc]] w λe i=>e=.returned true/\Both B k j l C (m+3000) i:=by
 have H:β w w (w.alloc (dR x)):=(ja0 _ _).alloc (ja1 _) _;have t:=ah (Jt (h.below H) A F    (λW K _=>(V7 W K u).mono λe i q=>⟨q.1,q.2.out⟩) (λW Z L=>(WT W L u).mono λe i q=>⟨q.1,q.2.out⟩))
 have o:Hid (∀ W:ω,(∃ D Z',YZ B k W j D y.flush l Z' y.flush)->∀ E:ω,β W W E->κ prog 63 _ E λe i=>e=.returned _/\∀ G:ω,β _ i G->κ prog 64 _ G λe M=>e=.returned _/\Both B k j l C (m+3000) M):=λW r=>by
  obtain⟨D,Z',O⟩:=r;exact Ju O u.flush A F N
 have S:(x.kind.toList==[119,114,105,116,101])=false:=by rw[n];rfl
 have g1:(x.kind.toList==[119,105,112,101])=false:=by rw[n];rfl
 have g2:(x.kind.toList==[114,101,97,100])=false:=by rw[n];rfl
 have g3:(x.kind.toList==[102,108,117,115,104])=true:=by rw[n];rfl
 have z:=Jo y.flush;generalize y.flush.bW=f at o z;generalize y.flush.fE=b at o;generalize y.flush=T at o t;unfold dR at t;go_enter func14,ntmps14
 go_wp2_with fail
 refine cEq (t.out _ (ja0 _ _)) λQ I=>?_
 have v:=ah I;go_wp2_with fail
 refine cEq (v.out _ (ja0 _ _)) λP r=>?_
 go_wp2_with fail
 refine cHd ((o.out P r) _ (ja0 _ _)) λR v=>?_
 go_wp2_with fail
 refine cHd (v.out _ (ja0 _ _)) λw4 J=>?_
 go_wp2_with fail
 refine cSt (oH f _ z) ?_;go_wp2
 go_ret
 exact⟨rfl,J.out⟩
def Vr{y:YV}{C m:Nat}(a:YOk y C m)(fr:Int){n:Int}(h:n<0\/200<n):y.mG fr n=1/\y.wipe fr n=y:=by
 have d:¬y.s.aW y.l fr n=0:=λe=>by
  obtain⟨_,c,b,f⟩:=SV.mO a.ch.good e;have:=a.c32
  omega
 unfold YV.mG YV.wipe
 simp_all
def VQ{B:Gd}{i k C m:Nat}{n:ω}{Y:Yh}{Z:Zh}{y:YV}(x:aT)(w:ω)(h:YZ B n w i Y y k Z y)(j:YOk y C m)(E:nR x)(L:m+10000<1000000000)(q:x.kind.toList=[119,105,112,101])(A:x.b<0\/200<x.b) :
  κ prog 14 #[i,k,.agg #[x.kind,x.a,x.b,x.c,x.d,x.s,.slice x.ka x.kl x.kc]] w λe g=>e=.returned true/\Both B n i k C (m+3000) g:=by
 have H:=j.c32;obtain⟨z,q2⟩:=Vr j x.a A
 have o:Hid (∀ W:ω,β (w.alloc (dR x)).heap.size _ W->κ prog 42 _ W λe g=>e=.returned (erV 1)/\Both B n i k C (m+3000) g):=λW v=>by
  have r:=(h.below ((ja0 _ _).alloc (ja1 _) _)).below v;refine cEq (Jq x.a x.b W r.prog j (by omega) (by omega) E.rA) λg hd=>?_
  rw[z];rw[q2] at hd;obtain⟨D,u⟩:=r.Bo hd.out;exact⟨rfl,D,Z,y,u,j.more (by omega)⟩
 have F:lC _ w.heap.size x:=⟨heap_alloc_new w _⟩;obtain⟨c1,c2,_⟩:=F.cells5;have J:(x.kind.toList==[119,114,105,116,101])=false:=by rw[q];rfl
 have g1:(x.kind.toList==[119,105,112,101])=true:=by rw[q];rfl
 unfold dR at o c1 c2;obtain⟨f,rfl,I⟩:∃ f:Int,f=1/\0<=f:=⟨1,rfl,by decide⟩
 go_enter func14,ntmps14
 by_cases K:x.b<0
 .go_wp2_with fail
  refine cHd (o.out _ (ja0 _ _)) λt l=>?_
  go_wp2_with fail
  refine cSt (oH 1 _ (by decide)) ?_
  go_wp2
  go_ret
  exact⟨rfl,l.out⟩
 .have G:decide (200<x.b)=true:=by simp;omega
  go_wp2_with fail
  refine cHd (o.out _ (ja0 _ _)) λt l=>?_
  go_wp2_with fail
  refine cSt (oH 1 _ (by decide)) ?_
  go_wp2
  go_ret
  exact⟨rfl,l.out⟩
def VP{B:Gd}{j o C m:Nat}{z:ω}{Y:Yh}{Z:Zh}{y:YV}(x:aT)(w:ω)(h:YZ B z w j Y y o Z y)(l:YOk y C m)(M:nR x)(hm:m+10000<1000000000){n:Nat}(D:x.kind.toList=[119,105,112,101])(u:x.b=(n:Int))(hn:n<=200) :
    κ prog 14 #[j,o,.agg #[x.kind,x.a,x.b,x.c,x.d,x.s,.slice x.ka x.kl x.kc]] w λe i=>e=.returned true/\Both B z j o C (m+3000) i:=by
  have hC:=l.c32;have g:=ah (oP h x (y':=y.wipe x.a (n:Int)) (vp:=erV (y.mG x.a (n:Int))) (vr:=.int .i64 (y.mG x.a (n:Int))) (λW hp=>(Jq x.a (n:Int) W hp l (by omega) (by omega) M.rA).mono λe i q=>⟨q.1,q.2.out⟩) (λW Z hr=>(Xi (n:=n) x.a W hr l (by omega) (by omega) M.rA hn).mono λe i q=>⟨q.1,q.2.out⟩))
  have G:Hid (∀ W:ω,κ prog 43 #[(16*(n:Int):Int)] W λe i=>e=.returned (.string (dY (n*16)))/\β W W i):=λW=>by
    have:=Px (n*16) W (by omega)
    rw[show((n*16:Nat):Int)=16*(n:Int) by omega] at this
    exact this
  have O:Hid (IntKind.i64.wrap (16*(n:Int))=16*(n:Int)):=ja7 _ (by omega)
  have I:0<=y.mG x.a (n:Int):=WM _ _ _;have F:Hid (YOk (y.wipe x.a (n:Int)) C (m+3000)):=(l.wipe x.a (n:Int) (by omega)).more (by omega)
  have g0:(x.kind.toList==[119,114,105,116,101])=false:=by rw[D];rfl
  have g1:(x.kind.toList==[119,105,112,101])=true:=by rw[D];rfl
  generalize y.mG x.a (n:Int)=f at g I;generalize y.wipe x.a (n:Int)=y2 at g F;generalize dY (n*16)=T at g G;have N:lC (w.alloc (dR x)) w.heap.size x:=⟨heap_alloc_new w _⟩;have J:=N.cells5;rw[u] at J;have t:Hid (β (w.alloc (dR x)).heap.size (w.alloc (dR x)) (w.alloc (dR x)).drew):=(ja0 _ _).drew;have c2:=J.2.1
  have k:Hid (∀ W:ω,lC W w.heap.size x->W.cell? ⟨w,1,none⟩=some (x.a:υ)/\W.cell? ⟨w,2,none⟩=some (.int .i64 (n:Int))):=λW U=>by
    obtain⟨R,E,_⟩:=U.cells5;rw[u] at E;exact⟨R,E⟩
  have v:Hid ((w.alloc (dR x)).cell? ⟨w,1,none⟩=some (x.a:υ)/\(w.alloc (dR x)).cell? ⟨w,2,none⟩=some (.int .i64 (n:Int))):=k.out _ N;have d1:decide ((n:Int)<0)=false:=by simp
  have d2:decide (200<(n:Int))=false:=by simp;omega
  unfold dR at g v t c2;rw[u] at g v t c2 |-;go_enter func14,ntmps14
  go_wp2
  go_region_held3 (λW=>W.cell? ⟨w,1,none⟩=some (x.a:υ)/\W.cell? ⟨w,2,none⟩=some (.int .i64 (n:Int)))
    (first|(exact v.out)|assumption)
    (first
      | (go_at_call 42;refine(g.out _ t.out).mono ?_;rintro e w1 ⟨rfl,r,H⟩;have a1:=k.out _ r;have S:=ah r;have X:=ah H;clear H r)
      | (go_at_call 43;rw[O.out];refine cEq (G.out _) λwn A=>?_;have a0:=k.out _ (S.out.below A);have V:=ah A;clear A)
      | (go_at_call 41;refine(X.out _ V.out).mono ?_;rintro e w2 ⟨rfl,L,K⟩;have a2:=k.out _ L;have Q:=ah K;clear K L)
      | (go_at_call 10;refine cSt (oH f _ I) ?_))
  have P:Hid (Both B z j o C (m+3000) w2):=by
    obtain⟨Y',Z',h9⟩:=Q.out;exact⟨Y',Z',y2,h9,F.out⟩
  go_wp2
  go_ret
  exact⟨rfl,P.out⟩
def VN{B:Gd}{r k C m:Nat}{z:ω}{Y:Yh}{Z:Zh}{y:YV}(x:aT)(w:ω)(h:YZ B z w r Y y k Z y)(n:YOk y C m)(D:nR x)(t:x.kind.toList=[114,101,97,100]) :
    κ prog 14 #[r,k,.agg #[x.kind,x.a,x.b,x.c,x.d,x.s,.slice x.ka x.kl x.kc]] w λe v=>e=.returned true/\Both B z r k C (m+3000) v:=by
  have P:=n.c32;have K:β w w (w.alloc (dR x)):=(ja0 _ _).alloc (ja1 _) _;have q:=ah λW (g:β (w.alloc (dR x)).heap.size (w.alloc (dR x)) W)=>(h.below K).below g
  have u:Hid (∀ W:ω,β (w.alloc (dR x)).heap.size (w.alloc (dR x)) W->Both B z r k C (m+3000) W):=λW g=>⟨Y,Z,y,q.out W g,n.more (by omega)⟩
  have O:lC (w.alloc (dR x)) w.heap.size x:=⟨heap_alloc_new w _⟩
  have i:Hid (∀ W:ω,β (w.alloc (dR x)).heap.size (w.alloc (dR x)) W->W.cell? ⟨w,1,none⟩=some (x.a:υ)/\W.cell? ⟨w,2,none⟩=some (x.b:υ)/\W.cell? ⟨k,6,none⟩=some (Z.sp:υ)/\W.cell? ⟨k,12,none⟩=some (.slice Z.la y.l.length Z.lc)):=λW g=>by
    obtain⟨c1,c2,_⟩:=(O.below g).cells5;obtain⟨_,_,M,_,_,_,_,_,I,_⟩:=(q.out W g).ref.blk.cells;exact⟨c1,c2,M,I⟩
  have o:=ah λW (g:β (w.alloc (dR x)).heap.size (w.alloc (dR x)) W)=>CW x.a x.b W (q.out W g).prog n (by omega) D.rA
  have j:Hid (∀ W:ω,β (w.alloc (dR x)).heap.size (w.alloc (dR x)) W->κ prog 44 #[Z.sp,.slice Z.la y.l.length Z.lc,x.a,x.b] W λe v=>e=.returned (.tuple #[.string (y.s.ji y.l x.a x.b),y.s.aW y.l x.a x.b])/\β W W v):=λW g=>GL y.l x.a x.b W ((q.out W g).ref.shelf n.s) (q.out W g).ref.list.1 n.ch.good (by have:=n.ch.len;omega) (by omega) D.rA
  have E:=Dy y.s y.l x.a x.b;have Q:(x.kind.toList==[119,114,105,116,101])=false:=by rw[t];rfl
  have g1:(x.kind.toList==[119,105,112,101])=false:=by rw[t];rfl
  have g2:(x.kind.toList==[114,101,97,100])=true:=by rw[t];rfl
  generalize y.s.ji y.l x.a x.b=T at o j;generalize y.s.aW y.l x.a x.b=f at o j E;generalize y.l.length=len at j i;generalize Z.la=L at j i;generalize Z.lc=lc at j i;generalize Z.sp=sp at j i;unfold dR at u i o j;obtain⟨c1,c2,_⟩:=i.out _ (ja0 _ _);go_enter func14,ntmps14
  go_wp2_with fail
  generalize w.alloc (.cells #[x.kind,x.a,x.b,x.c,x.d,x.s,.slice x.ka x.kl x.kc] 36)=W at u i o j c1 c2 |-;generalize w.heap.size=N at i c1 c2 |-;refine cEq (o.out _ (ja0 _ _)) λJ H=>?_
  have A:=ah H;go_wp2
  go_region_held3 (λW=>W.cell? ⟨N,1,none⟩=some (x.a:υ)/\W.cell? ⟨N,2,none⟩=some (x.b:υ)/\W.cell? ⟨k,6,none⟩=some (sp:υ)/\W.cell? ⟨k,12,none⟩=some (.slice L len lc))
    (first|(exact(i.out J H))|assumption)
    (first
      | (go_at_call 44;refine(j.out _ ?_).mono ?_;(· exact Alike.after A.out ⟨rfl,rfl,rfl,rfl⟩);rintro e S ⟨rfl,G⟩;have F:=ah (Alike.far A.out G ⟨rfl,rfl,rfl,rfl⟩);have R:=i.out _ F.out;clear G))
  go_wp2_with (go_at_call 10;refine cSt (oH f _ E) ?_)
  go_ret
  exact⟨rfl,u.out _ F.out⟩
def VK{B:Gd}{k o C m:Nat}{l:ω}(x:aT)(w:ω)(h:Both B l k o C m w)(j:nR x)(G:S4.Tab l)(J:B.g 0)(i:m+10000<1000000000) :
  κ prog 14 #[k,o,.agg #[x.kind,x.a,x.b,x.c,x.d,x.s,.slice x.ka x.kl x.kc]] w λe K=>e=.returned true/\Both B l k o C (m+3000) K:=by
 obtain⟨Y,Z,y,h,f⟩:=h;by_cases r:x.kind.toList=[119,114,105,116,101]
 .exact sG x w h f j i (.inl r)
 by_cases q:x.kind.toList=[119,105,112,101]
 .by_cases L:x.b<0\/200<x.b
  .exact VQ x w h f j i q L
  .exact VP (n:=x.b.toNat) x w h f j i q (by omega) (by omega)
 by_cases v:x.kind.toList=[114,101,97,100]
 .exact VN x w h f j v
 by_cases E:x.kind.toList=[102,108,117,115,104]
 .exact VL x w h f i G J E
 by_cases H:x.kind.toList=[98,108,97,110,107]
 .exact sG x w h f j i (.inr (.inl H))
 by_cases t:x.kind.toList=[115,110,97,112]
 .exact sG x w h f j i (.inr (.inr (.inl t)))
 by_cases F:x.kind.toList=[115,116,97,114,116]
 .exact sG x w h f j i (.inr (.inr (.inr (.inl F))))
 by_cases z:x.kind.toList=[112,105,118,111,116]
 .exact Je x w h f j i (.inl z)
 by_cases A:x.kind.toList=[99,97,110,99,101,108]
 .exact Je x w h f j i (.inr A)
 by_cases D:x.kind.toList=[112,97,117,115,101]
 .exact sG x w h f j i (.inr (.inr (.inr (.inr (.inl D)))))
 by_cases I:x.kind.toList=[116,105,99,107]
 .exact sG x w h f j i (.inr (.inr (.inr (.inr (.inr (.inl I))))))
 by_cases u:x.kind.toList=[102,97,105,108]
 .exact sG x w h f j i (.inr (.inr (.inr (.inr (.inr (.inr (u)))))))
 exact VO x w h f i G J r q v E H t F z A D I u
