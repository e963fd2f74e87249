/- A part. -/
import Derived.Test.YtbohmhacdgckgaaGreatDoorQRyN1
set_option linter.all false
set_option maxHeartbeats 4000000
set_option maxRecDepth 100000
namespace Go.Proofs.YtbohmhacdgckgaaGreatDoor
open Go.RowKit renaming Below->β, Hid->χ
open Go renaming World->ω, Value->υ, Calls->κ
open Option renaming none->O, some->S
open Go.Proofs.Tryz Go.RowKit Go.Maps
attribute [local go_sem ↓] Go.wp_at_zero Go.wp_at_succ
def yR{c p}(a:(newH c p).ok=true):aQ (newH c p)<=200:=by
 have b:=HV.dS a;unfold newH at *
 simp only at *
 unfold aQ dJ aB;simp only;omega
def Ep(w:ω)(c p:Int)(b:Nat)(w':ω):Prop:=β w w w'/\∃ Z:Zh,au w' b Z (fJ c p)/\(∀ k,fpZ b Z (fJ c p) k->w.heap.size<=k)/\(∀ g o,Z.la=S ⟨g,o,O⟩->w.heap.size<=g/\g<w'.heap.size)/\Z.jb.a=O
def kam(c p w)(g:(newH c p).ok≠true) :
  κ prog 9 #[c,p] w λe w'=>e=.returned (.tuple #[.pointer O,(1:Int)])/\β w w w':=by
 have a:χ (β w w (w.alloc (bz c p (-1)))):=(ja0 _ _).alloc (ja1 _) _
 have f:χ (κ prog 33 #[.agg #[c,p,(-1:Int)]] (w.alloc (bz c p (-1))) λe w'=>e=.returned (1:Int)/\β w w w'):=by
  have:=qB c p (-1) (w.alloc (bz c p (-1)))
  rw[show HV.fault _=1 by unfold HV.fault;rw[if_neg (show ¬HV.ok ⟨c,p,-1⟩=true from g)]] at *
  exact this.mono λe w' ⟨i,b⟩=>⟨i,a.trans (b.mono a.size)⟩
 unfold bz at *
 go_enter func9,ntmps9;go_wp2_with fail;refine cHd f λj d=>?_
 go_wp2;go_ret2;exact⟨rfl,d⟩
def MJ(c p w)(B:(newH c p).ok=true) :
    κ prog 9 #[c,p] w λe w'=>∃ zp:Nat,e=.returned (.tuple #[zp,(0:Int)])/\Ep w c p zp w':=by
  have hn:=yR B;have r:=HV.dS B;have a7:1<=aQ (newH c p):=by unfold aQ dJ;omega
  obtain⟨d,a4⟩:∃ d,d=w.alloc (bz c p (-1)):=⟨_,rfl⟩;have A:β w w d:=by rw[a4];exact(ja0 _ _).alloc (ja1 _) _
  have al:d.heap[w.heap.size]?=S (bz c p (-1)):=by rw[a4];exact heap_alloc_new _ _
  have aq:=lt_of_some al
  have HF:χ (κ prog 33 #[.agg #[c,p,(-1:Int)]] d λe w'=>e=.returned (0:Int)/\β d d w'):=by
    have:=qB c p (-1) d
    rw[show HV.fault ⟨c,p,-1⟩=0 by unfold HV.fault;rw[if_pos (show HV.ok ⟨c,p,-1⟩=true from B)]] at this;exact this
  have Q:χ (∀ W:ω,κ prog 34 #[.agg #[c,p,(-1:Int)]] W λe w'=>e=.returned (aQ (newH c p):Int)/\β W W w'):=λW=>zu c p (-1) W B
  have I:=ah λW (r:β d d W)=>Aw ((r.block _ aq).trans al)
  have ap:χ (∀ W:ω,κ prog 35 #[(0:Int)] W λe w'=>e=.returned (.agg #[(0:Int),(0:Int),(-1:Int),(0:Int),(0:Int)])/\β W W w'):=λW=>xO 0 W
  have aE:χ (∀(W u:ω),β d d W->β (W.alloc nI).heap.size (W.alloc nI) u->κ prog 36 #[(1:Int)] (u.alloc (.cells #[(0:Int)] 3)) λe w'=>∃ l:Rh,e=.returned l.p/\NZ d w' W.heap.size u.heap.size l):=λW u r E=>by
    refine(II 1 (u.alloc (.cells #[(0:Int)] 3)) (by omega) (by omega)).mono ?_;rintro e w' ⟨l,rfl,h1,h2⟩;have ac:(W.alloc nI).heap.size=W.heap.size+1:=by simp
    have a3:(u.alloc (.cells #[(0:Int)] 3)).heap.size=u.heap.size+1:=by simp
    have b7:=E.size;rw[ac] at b7;have a6:β d d (W.alloc nI):=r.alloc r.size _;have K:=a6.trans (E.mono a6.size);have ao:β d d (u.alloc (.cells #[(0:Int)] 3)):=K.alloc K.size _;have hq:=r.size;refine⟨l,rfl,ao.trans (h2.mono ao.size),?_,?_,h1.toG.noG,λb e=>?_,r.size,by omega⟩
    . rw[h2.block _ (by rw[a3];omega),jap _ _ _ (by omega),E.block _ (by rw[ac];omega)];exact heap_alloc_new W _
    . rw[h2.block _ (by rw[a3];omega)];exact heap_alloc_new u _
    . have:=(h1.lt b e).1
      rw[a3] at this;omega
  have a2:χ (∀ W:ω,κ prog 36 #[(aQ (newH c p):Int)] W λe w'=>∃ q:Rh,e=.returned q.p/\dR W.heap.size w' q (iP (aQ (newH c p)))/\β W W w'):=λW=>II (aQ (newH c p)) W a7 hn
  have ai:χ (∀(j wr:ω) (sp lb:Nat) (l:Rh) (n:Nat->Rh),NZ d j sp lb l->DZ j wr j.heap.size 5 92 (newC l.p sp lb) n (λ_=>iP (aQ (newH c p)))->wr.cell? ⟨j,0,O⟩=S ((n 0).p:υ)/\β d d wr/\κ prog 37 #[(n 0).p,.agg #[c,p,(-1:Int)]] wr.drew λe w'=>∃ xp:Nat,e=.returned (.tuple #[xp,(0:Int)])/\β d d w'/\w'.cell? ⟨j,0,O⟩=S ((n 0).p:υ)/\w'.cell? ⟨j,6,O⟩=S (sp:υ)/\(∃ v,w'.cell? ⟨sp,0,O⟩=S v)/\w'.frozen? ⟨sp,0,O⟩=false /\
      (((w'.setCell ⟨sp,0,O⟩ xp).cell? ⟨j,7,O⟩=S (.int .i64 0)/\(w'.setCell ⟨sp,0,O⟩ xp).cell? ⟨j,8,O⟩=S (.int .i64 0)/\(w'.setCell ⟨sp,0,O⟩ xp).cell? ⟨j,9,O⟩=S (.int .i64 (-1))/\(w'.setCell ⟨sp,0,O⟩ xp).cell? ⟨j,10,O⟩=S (.int .i64 0)/\(w'.setCell ⟨sp,0,O⟩ xp).cell? ⟨j,11,O⟩=S (.int .i64 0)) /\
      κ prog 38 #[j.heap.size,.agg #[(0:Int),(0:Int),(-1:Int),(0:Int),(0:Int)]] (w'.setCell ⟨sp,0,O⟩ xp) λe F=>(∃ f:Int,e=.returned f)/\Ep w c p j.heap.size F)):=λj wr sp lb l n J hd=>by
    obtain⟨hy,Y,y⟩:=J.aZ hd;obtain⟨k0,_⟩:=hy.blk.cells;have b8:=k0 0 (by omega);refine⟨b8,y,?_⟩;have R:β wr wr wr.drew:=(ja0 _ _).drew;have t:=hy.below R;obtain⟨V,d2,d3⟩:=t.lJ (i:=0) (by omega);have b4:(xR (aQ (newH c p))).dev 0=iP (aQ (newH c p)):=rfl;rw[b4] at V;have bc:(Zh.hd ⟨n,l,λ_=>⟨0,l,.slice O 0 0,.slice O 0 0⟩,sp,S ⟨lb,0,O⟩,1,⟨0,O,0⟩⟩ (xR (aQ (newH c p))).s 0)=n 0:=rfl;rw[bc] at V d3;have aR  := uX a7 hn;have bd  := IG B (ja1 _);refine(Fh c p (-1) wr.drew V.ou aR (by omega) (ja1 _)).mono ?_;rintro e w' ⟨x,ar,_,ax,h4|h4⟩
    . obtain⟨_,rfl,ae⟩:=h4;have D  := oz ax (λ_ e=>e.1) ae.out;obtain⟨g1,g2⟩:=t.made (i:=0) (by omega) D (ae.re λ_ _ e=>e) ar;have b3:=λk (e:(n 0).fp k)=>Y k (.inr (.inr (.inl ⟨0,by omega,e⟩)))
      have ad  := (y.trans (R.mono y.size)).trans (D.below (ja4 y.size R.size) b3);have aD  := λe=>t.lC.2.1 0 (by omega) e
      have bb  := λe=>t.pY.1 0 (by omega) e
      have am:=D.block t.blk.lt aD;have a8:=D.block (lt_of_some t.shf) bb;obtain⟨q0,_,q6,_⟩:=t.blk.cells;have be:=KG t.shf (k:=0) (by omega);obtain⟨v0,ba⟩:=be;obtain⟨_,_,_,t7,t8,t9,ab,aa,_⟩:=g1.blk.cells;refine⟨x.p,rfl,ad,(jab (a:=⟨j.heap.size,0,O⟩) am).trans (q0 0 (by omega)),(jab (a:=⟨j.heap.size,6,O⟩) am).trans q6,⟨v0,(jab (a:=⟨sp,0,O⟩) a8).trans ba⟩,(jaI (a:=⟨sp,0,O⟩) a8).trans (frozen_of_row _ sp 0 _ _ t.shf),⟨t7,t8,t9,ab,aa⟩,?_⟩;refine(vK (m:=20) (aj 0) _ g1 ((uX (by omega) (by omega)).more (by omega)) (lW (by omega) (by omega)) (by omega)).mono ?_;rintro e F ⟨rfl,Z2,e2,p1,P⟩;refine⟨⟨_,rfl⟩,?_,Z2,p1,λk e=>?_,λg o e=>?_,?_⟩
      . have N:β d d (w'.setCell ⟨sp,0,O⟩ x.p):=ad.setCell J.new.1 _;have H:=A.trans (N.mono A.size);refine H.trans (P.below H.size λk e=>?_);rcases g2.new k e with z|z
        . exact ja4 A.size (Y k z)
        . exact ja4 A.size (ja4 y.size z)
      . have H  := ja4 A.size y.size;rcases P.new k e with z|z
        . rcases g2.new k z with e4|e4
          . exact ja4 A.size (Y k e4)
          . exact ja4 H e4
        . have a1:(w'.setCell ⟨sp,0,O⟩ x.p).heap.size=w'.heap.size:=by simp[World.setCell]
          rw[a1] at z;have:=D.size
          exact ja4 H (ja4 this z)
      . rw[e2.la] at e;cases e;have q1:=lt_of_some J.lst;have q2:=J.new.2;have q3:=hd.bel.size;have q4:wr.heap.size<=w':=D.size;have q5:=P.size;have a1:(w'.setCell ⟨sp,0,O⟩ x.p).heap.size=w'.heap.size:=by simp[World.setCell]
        rw[a1] at q5;exact⟨ja4 A.size q2,by omega⟩
      . rw[e2.jb]
    . exact absurd bd h4.1
  have gN:decide (200<(aQ (newH c p):Int))=false:=decide_eq_false (by omega);have af:χ (∀(j:ω) (sp lb:Nat) (l:Rh),∃ n,DZ j (j.alloc (.cells (newC l.p sp lb) 92)) j.heap.size 0 92 (newC l.p sp lb) n (λ_=>iP (aQ (newH c p)))):=λj sp lb l=>⟨λ_=>⟨0,0,0,.nilIface,.nilIface⟩,DZ.start (ja0 _ _)⟩
  generalize iP (aQ (newH c p))=ND at a2 ai af;generalize aQ (newH c p)=nn at Q a2 gN;unfold bz at *
  unfold nI at *
  unfold newC at *
  go_enter func9,ntmps9;go_wp2_with fail;rw[<- a4];refine cEq HF λw1 E=>?_
  obtain⟨b0,b1,b2⟩:=I _ E;have b5:=ah E;go_wp2_with fail;refine cBl (Q _) b5 λF aM=>?_
  go_wp2_with fail;refine cEq (ap _) λT K=>?_
  have az:=ah (aE _ _ aM K);go_wp2_with fail;refine az.mono ?_;rintro e w4 ⟨l,rfl,b9⟩;have C:=ah b9;have av:=ah (af w4 F.heap.size T.heap.size l);go_wp2;go_loopw [9] (λi wr=>∃(k:Nat) (n:Nat->Rh),k<=5/\i=.int .i64 (k:Int)/\DZ w4 wr w4.heap.size k 92 #[.pointer O,.pointer O,.pointer O,.pointer O,.pointer O,l.p,F.heap.size,(0:Int),(0:Int),(-1:Int),(0:Int),(0:Int),.slice (S ⟨T,0,O⟩) 1 1,.pointer O] n (λ_=>ND)) (λi _=>5-(intOf i).toNat)
  case atStart =>
    obtain⟨n,h0⟩:=av;exact⟨0,n,by omega,rfl,h0⟩
  case round =>
    obtain⟨k,n,B,rfl,hL⟩:=hrel;by_cases bh:k<5
    . have L:=ah hL;have k0:(0:Int)<=(k:Int):=by omega
      have k5:(k:Int)<5:=by omega
      have U:=ah λW (r:β wr wr W)=>I W ((C.bel.trans (L.bel.mono C.bel.size)).trans (r.mono (ja4 C.bel.size L.bel.size)))
      have G:χ (β wr wr wr.drew):=(ja0 _ _).drew;have X:=U _ G;go_wp2
      go_region_held3 (λW=>W.cell? ⟨w,0,O⟩=S (c:υ)/\W.cell? ⟨w,1,O⟩=S (p:υ)/\W.cell? ⟨w,2,O⟩=S (.int .i64 (-1)))
        (first|(exact X)|assumption)
        (first
          | (go_at_call 34;refine cEq (Q _) λw5 N=>?_;have M:=ah (G.trans (N.mono G.size));have bf:=U _ M;clear N)
          | (go_at_call 36;refine(a2 _).mono ?_;rintro e w6 ⟨q,rfl,hq,a0⟩;have a9:=ah ((L.below M).step (show k<14 by omega) a0 hq);have Z:=M.trans (a0.mono M.size);have bk:=U _ Z;have a5:=(L.below Z).cell;have b6  := I _ (C.bel.trans (a9.bel.mono C.bel.size));have aw:∃ v,w6.cell? ⟨w4.heap.size,k,O⟩=S v:=⟨_,(a5.2.1 k (ja1 _)).trans (jbu (show k<14 by omega))⟩;obtain⟨vk,bj⟩:=aw;have bi:=a5.2.2 k;clear a5 hq a0 Z))
      go_wp2;go_roundw
      case rel =>
        exact⟨k+1,_,by omega,by go_num,a9⟩
      case measure=>simp[intOf];omega
    . have e5:k=5:=by omega
      subst e5;obtain⟨c0,y,aL⟩:=ai w4 wr F.heap.size T.heap.size l n C hL;have HM:=ah aL;have G:χ (β d d wr.drew):=y.drew;have X:=And.intro (show wr.drew.cell? ⟨w4,0,O⟩=_ from c0) (I _ G);go_wp2
      go_region_held3 (λW=>W.cell? ⟨w4,0,O⟩=S ((n 0).p:υ)/\W.cell? ⟨w,0,O⟩=S (c:υ)/\W.cell? ⟨w,1,O⟩=S (p:υ)/\W.cell? ⟨w,2,O⟩=S (.int .i64 (-1)))
        (first|(exact X)|assumption)
        (first
          | (go_at_call 37;refine HM.mono ?_;rintro e w7 ⟨xp,rfl,an,q0,q6,⟨v7,q7⟩,f7,⟨t7,t8,t9,ab,aa⟩,ag⟩;have b6:=And.intro q0 (I _ an);have HW:=ah ag;clear an ag))
      go_wp2_with fail;refine HW.mono ?_;rintro e w8 ⟨⟨f,rfl⟩,hm⟩;have HQ:=ah hm;go_wp2;go_ret2;exact⟨w4.heap.size,rfl,HQ⟩
def PW(w):(binOp BinOp.eql 27 .nilIface (.iface 96 (.int .i64 1))).run prog w=.ok (.bool false) w:=by kernel_rfl
def FV(F w):(binOp BinOp.eql 27 (.iface 96 (.int .i64 F)) (.iface 96 (.int .i64 1))).run prog w=.ok (.bool (F==1)) w:=by kernel_rfl
def xK{d Y y}(fr n:Int)(F w)(h:aC w d Y y)(g:y.busy≠true\/n=0\/F=1) :
  κ prog 93 #[d,fr,n,erV F] w λe w'=>e=.returned (.tuple #[])/\w'=w:=by
 have b:=ah (qh w h);unfold goV at *
 by_cases c:y.busy=true
 .rw[if_pos c] at *
  by_cases f:n=0
  .subst f;go_enter func93,ntmps93;go_wp2_with fail;refine cSt b ?_;go_wp2;refine bodyPost_ret (results_none rfl _ _ _) rfl ?_;exact⟨rfl,rfl⟩
  .have a:F=1:=by
    rcases g with a|a|a
    .exact absurd c a
    .exact absurd a f
    .exact a
   rw[a,eX];have i:=FV 1;go_enter func93,ntmps93;go_wp2_with fail;refine cSt b ?_;go_wp2;refine bodyPost_ret (results_none rfl _ _ _) rfl ?_;exact⟨rfl,rfl⟩
 .rw[if_neg c] at *
  generalize erV F=E;go_enter func93,ntmps93;go_wp2_with fail;refine cSt b ?_;go_wp2;refine bodyPost_ret (results_none rfl _ _ _) rfl ?_;exact⟨rfl,rfl⟩
def ZG{b C m Y y}(fr:Nat)(n F w)(h:aC w b Y y)(x:YOk y C m)(L:F≠1)(v:y.busy=true)(hn:1<=n)(hl:fr+n<=1000) :
  κ prog 93 #[b,(fr:Int),(n:Int),erV F] w λe w'=>e=.returned (.tuple #[])/\ay b Y y (y.mark fr n) w w':=by
 have H:=ah (qh w h);unfold goV at *
 rw[if_pos v] at *
 obtain⟨j,t,G⟩:=mZ v
 have J:χ (∀ k:Nat,∀ W:ω,fr / 4+k=(fr+n-1) / 4+1->ay b Y y {y with j:=S (lH j (fr / 4) k)} w W->ay b Y y (y.mark fr n) w W):=λk W f hd=>by
  obtain⟨d,rfl⟩:∃ d,n=d+1:=⟨n-1,by omega⟩
  have e:y.mark fr (d+1)={y with j:=S (lH j (fr / 4) k)}:=by
   unfold YV.mark;have r:fr / 4<=(fr+d) / 4:=Nat.div_le_div_right (by omega)
   have A:k=(fr+d) / 4-fr / 4+1:=by
    have:fr+(d+1)-1=fr+d:=by omega
    rw[this] at *;omega
   rw[t,A,<- OY];rfl
  rw[e];exact hd
 have U:χ (ay b Y y {y with j:=S (lH j (fr / 4) 0)} w w):=by
  have e:({y with j:=S (lH j (fr / 4) 0)}:YV)=y:=by
   show({y with j:=S j}:YV)=y
   rw[<- t]
  unfold χ;rw[e];exact ay.refl h
 have T:χ (∀(k:Nat) (W:ω),ay b Y y {y with j:=S (lH j (fr / 4) k)} w W->κ prog 170 #[Y.jb.jp,((fr:Int) / 4+(k:Int):Int)] W λe w'=>e=.returned (.tuple #[])/\ay b Y y {y with j:=S (lH j (fr / 4) (k+1))} w w'):=λk W ⟨i,z,q,B⟩=>by
  have Q:JOk y.s C (lH j (fr / 4) k):=(x.job j t G).ok.lH _ k;obtain⟨g1,g2,g3,N,R⟩:=q.job _ rfl
  have M:PJ W b i.jb.jp i.jb.lp i.jb.bp i.jb.a i.jb.cap i.xs y.s m C (lH j (fr / 4) k):=⟨q.shelf x.s,g1,g2,λg o e f=>R g o e (by
   rcases f with f|f
   .exact .inr (.inl (q.inS f))
   .exact .inr (.inr (.inr ⟨(by intro e;cases e),f⟩))),Q,N⟩
  rw[<- z,show(fr:Int) / 4+(k:Int)=((fr / 4+k:Nat):Int) by omega];refine cEq (O1 ((fr / 4+k:Nat):Int) W M) λw' hd=>?_
  obtain⟨D,K,P,I⟩:=q.vg rfl (ja0 _ _) hd (by rw[show eU (lH j (fr / 4) k) ((fr / 4+k:Nat):Int)=lH j (fr / 4) (k+1) from rfl,FK,FK]);exact⟨rfl,D,K.trans z,P,B.trans I⟩
 generalize Y.jb.jp=X at *
 have l:erV F=.nilIface\/(erV F=.iface 96 (.int .i64 F)/\(F==1)=false):=by
  by_cases r:F=0
  .exact .inl (by rw[r,aJ])
  .exact .inr ⟨bC r,by simpa using L⟩
 have g1:((n:Int)==0)=false:=by simp;omega
 have Z:=PW;have a0:=FV F;rcases l with l|⟨l,gE⟩<;>rw[l]<;>clear l
 all_goals
  go_enter func93,ntmps93;go_wp2_with fail;refine cSt H ?_;go_wp2;go_loopw [9] (λc wr=>∃ k:Nat,fr / 4+k<=(fr+n-1) / 4+1/\c=.int .i64 ((fr:Int) / 4+(k:Int))/\ay b Y y {y with j:=S (lH j (fr / 4) k)} w wr) (λc _=>((fr+n) / 4+2)-(intOf c).toNat)
  case atStart=>exact⟨0,by omega,by simp,U⟩
  case round =>
   obtain⟨k,f,rfl,hd⟩:=hrel;by_cases V:fr / 4+k<=(fr+n-1) / 4
   .have u:=ah (T k _ hd);go_wp2_with fail;refine cHd u λw2 E=>?_
    go_wp2;refine⟨⟨k+1,by omega,by simp;omega,E⟩,?_⟩;simp only[intOf];omega
   .have u:=ah (J k _ (by omega) hd);go_wp2;go_end0
    exact⟨rfl,u⟩
def Le{s:SV}{C m l n v}(f:s.good C l)(d:s.ok m)(g:n∈l)(a:s.file n=S v){c:Nat}(k:(c:Int)<C):v.there (c:Int)=true:=by
 obtain⟨u,b,i⟩:=f n g;rw[a] at b;cases b;have j:=(d.file a).len;exact decide_eq_true (by omega)
def H9{s:SV}{C:Nat}{m l}(a:s.good (C:Int) l)(g:s.ok m){c f k t}(w:c<C)(i:t.size=k*16)(o:f+k<=4):(s.lay l c f t).2≠1:=by
 cases l with
 | nil=>show(4:Int)≠1;decide
 | cons n r =>
  obtain⟨v,b,u⟩:=a n jai;have d:=Le a g jai b (c:=c) (by omega);show(match s.file n with|none=>_|some v=>_:SV × Int).2≠1
  rw[b];show(if (v.bG c).1=2 then _ else _:SV × Int).2≠1
  split
  .show v.bQ c f t≠1
   unfold IV.bQ;rw[if_pos (show o9 v c f t=true by unfold o9;rw[d];simp;omega)];split
   .unfold IV.sJ;rcases DV.rO _ _ t _ with h|h<;>rw[h]<;>decide
   .decide
  .show v.dH c _≠1
   have j:((s.read (n::r) c).1.extract 0 (f*16)++t++(s.read (n::r) c).1.extract (f*16+t.size) 64).size=64:=by
    simp only[jaN,jaB,(SV.l9 (c:=(c:Int)) a g (by simp_all) ⟨by omega,by omega⟩).2,i];omega
   unfold IV.dH;rw[if_pos ⟨d,j⟩];split
   .decide
   .split
    .decide
    .rename_i q r' hq
     split
     .rcases DV.oH _ with⟨h,_⟩|⟨h,_⟩<;>rw[h]<;>decide
     .unfold IV.fP;rcases DV.rO _ _ _ 4 with h|h<;>rw[h]<;>decide
def Zf{s}{C:Nat}{m l}(b:s.good (C:Int) l)(d:s.ok m){fr N p}(a:p.fits fr N C):(SV.dM l s p).2≠1:=by
 cases l with
 | nil=>show(4:Int)≠1;decide
 | cons n r =>
  obtain⟨v,f,g⟩:=b n jai;show(match s.file n with|none=>_|some v=>_:SV × Int).2≠1
  rw[f];show(if p.n=4 then _ else _:SV × Int).2≠1
  split
  .show v.fF _≠1
   unfold IV.fF;rw[if_pos (Le b d jai f (c:=p.c) (by have:=a.c;omega))];split
   .decide
   .rcases DV.oH _ with⟨h,_⟩|⟨h,_⟩<;>rw[h]<;>decide
  .split
   .omega
   .exact(H9   (t:=fA _) b d a.c (by show(List.replicate _ (0:UInt8)).toArray.size=_;simp_all) a.n4)
def GN{a}{C:Nat}{l fr N}(n:∀(s:SV) (m:Nat) p,s.good (C:Int) l->s.ok m->m+10<=1000000000->p.fits fr N C->(a s p).2≠1/\(a s p).1.ok (m+10)/\(a s p).1.good (C:Int) l) :
  ∀P s m,s.good (C:Int) l->s.ok m->m+10*P.length<=1000000000->(∀ p∈P,p.fits fr N C)->(kC a s P).2≠1:=by
 intro P
 induction P with
 | nil=>intro s m _ _ _ _;show(0:Int)≠1;decide
 | cons p r j =>
  intro s m f g o b;simp only[jau] at *
  rw[qW];obtain⟨c,d,k⟩:=n s m p f g (by omega) (b p jai);split
  .exact j _ _ k d (by omega) λq i=>b q (jbk _ i)
  .exact c
def Va{s:SV}{C:Nat}{m l}(a:s.good (C:Int) l)(b:s.ok m){fr t}(i:t.size % 16=0)(f:s.aT l fr ((t.size / 16:Nat):Int)=0)(g:m+10*(t.size / 16)<=1000000000):(s.put l fr t).2≠1:=by
 obtain⟨k,n,o,j⟩:=SV.mD a f;unfold SV.put;rw[if_pos i,if_pos f];have q:=rJ fr.toNat (t.size / 16) _ 0 (ja1 _);refine GN     (λs m p a b g d=>⟨H9 a b d.c (uh (by have:=d.an;omega)) d.n4,b.lay _ _ _ _ g,?_⟩) _ s m a b (by omega) (wP (by omega) _ 0 (ja1 _));exact(bW.lay l s l _ _ _).good a
def Zi{s:SV}{C:Nat}{m l}(a:s.good (C:Int) l)(b:s.ok m){fr n}(d:s.aT l fr n=0)(c:m+10*n.toNat<=1000000000):(s.wipe l fr n).2≠1:=by
 obtain⟨i,o,j,g⟩:=SV.mD a d;unfold SV.wipe;rw[if_pos d];have k:=rJ fr.toNat n.toNat _ 0 (ja1 _);refine GN     (λs m p a b c f=>⟨Zf a b f,b.dM _ _ c,?_⟩) _ s m a b (by omega) (wP (by omega) _ 0 (ja1 _));exact(bW.dM l s l p).good a
def EO{s:SV}{l fr n}(a:l≠[])(h:s.aT l fr n≠0):s.aT l fr n=1:=by
 unfold SV.aT at *
 simp_all
def L8{d C m Y y}(fr:Int)(n F w)(h:aC w d Y y)(i:YOk y C m)(j:C<=40)(l:F≠1->0<=fr/\0<=n/\fr+n<=4*C) :
  κ prog 93 #[d,fr,n,erV F] w λe w'=>e=.returned (.tuple #[])/\ay d Y y (if F=1 then y else y.mark fr.toNat n.toNat) w w':=by
 by_cases c:F=1
 .refine(xK fr n F w h (.inr (.inr c))).mono ?_;rintro e w' ⟨rfl,rfl⟩;rw[if_pos c];exact⟨rfl,ay.refl h⟩
 .rw[if_neg c];obtain⟨a,rfl⟩:∃ k:Nat,fr=(k:Int):=⟨fr.toNat,by omega⟩;obtain⟨b,rfl⟩:∃ k:Nat,n=(k:Int):=⟨n.toNat,by omega⟩;rw[show((a:Int)).toNat=a by omega,show((b:Int)).toNat=b by omega];by_cases f:y.busy=true
  .by_cases g:b=0
   .subst g;refine(xK (a:Int) 0 F w h (.inr (.inl rfl))).mono ?_;rintro e w' ⟨rfl,rfl⟩;rw[TM];exact⟨rfl,ay.refl h⟩
   .exact ZG a b F w h i c f (by omega) (by omega)
  .refine(xK (a:Int) (b:Int) F w h (.inl f)).mono ?_;rintro e w' ⟨rfl,rfl⟩;rw[TL f];exact⟨rfl,ay.refl h⟩
def kad{b C m Y y}(fr:Int)(t:ByteArray)(w)(h:aC w b Y y)(a:YOk y C m)(n:C<=40)(hm:m+7000<1000000000)(D : -9223372036854775808<=fr/\fr<=9223372036854775807)(G:t.size<=10000) :
    κ prog 24 #[b,fr,t] w λe w'=>e=.returned (erV (y.bQ fr t))/\ay b Y y (y.write fr t) w w':=by
  have Q:χ (∀ W:ω,β w w W->κ prog 92 #[b] W λe w'=>∃(g o cap:Nat),e=.returned (.slice (S ⟨g,o,O⟩) y.l.length cap)/\Nums w' (S ⟨g,o,O⟩) y.l/\w.heap.size<=g/\β w w w'):=λW f=>(uy W (h.below f) a).mono λe w' ⟨g,o,cap,d,i,j,_,_,U⟩=>⟨g,o,cap,d,i,ja4 f.size j,f.trans (U.mono f.size)⟩
  have E:χ (∀(W:ω) (g o cap:Nat),β w w W->Nums W (S ⟨g,o,O⟩) y.l->w.heap.size<=g->κ prog 91 #[.pointer (S ⟨b,6,O⟩),.slice (S ⟨g,o,O⟩) y.l.length cap,fr,t] W λe w'=>e=.returned (erV (y.s.put y.l fr t).2)/\ay b Y y {y with s:=(y.s.put y.l fr t).1} w w'):=λW g o cap f T hg =>
    (Om y.l fr t W ((h.shelf a.s).below f) T a.ch.good (by have:=a.ch.len;omega) n (λg' o' e P=>by
      cases e;have:=h.gG (.inr (.inl (h.inS P)))
      omega) (by omega) D G).mono λe w' hd=>h.wX f hd
  have Z:χ (∀ W:ω,ay b Y y {y with s:=(y.s.put y.l fr t).1} w W->κ prog 93 #[b,fr,((t.size:Int) / 16:Int),erV (y.s.put y.l fr t).2] W λe w'=>e=.returned (.tuple #[])/\erV (y.s.put y.l fr t).2=erV (y.bQ fr t)/\ay b Y y (y.write fr t) w w'):=λW ⟨J,v,d,i⟩=>by
    have u:YOk {y with s:=(y.s.put y.l fr t).1} C (m+10*(t.size / 16)):=a.files (a.s.put _ _ _ (by omega)) (λl=>.put l _ _ _ _) (by omega);by_cases c:t.size % 16=0/\y.s.aT y.l fr ((t.size / 16:Nat):Int)=0
    . obtain⟨_,H,n0,hl⟩:=SV.mD a.ch.good c.2;refine(L8 fr ((t.size:Int) / 16) _ W d u n (λ_=>⟨H,by omega,by omega⟩)).mono ?_;rintro e w' ⟨rfl,F,M,j,K⟩;rw[if_neg (Va a.ch.good a.s c.1 c.2 (by omega))] at *
      have V:y.write fr t=({y with s:=(y.s.put y.l fr t).1}:YV).mark fr.toNat ((t.size:Int) / 16).toNat:=by
        unfold YV.write;rw[if_pos c,show((t.size:Int) / 16).toNat=t.size / 16 by omega]
      refine⟨rfl,?_,?_⟩
      . unfold YV.bQ;rw[if_pos c]
      . rw[V];exact⟨F,M.trans v,j,i.trans K⟩
    . have X:y.s.put y.l fr t=(y.s,1):=by
        unfold SV.put;by_cases k:t.size % 16=0
        . rw[if_pos k,if_neg (λe=>c ⟨k,e⟩),EO a.ch.ne (λe=>c ⟨k,e⟩)]
        . rw[if_neg k]
      rw[X] at d i u |-;refine(xK fr ((t.size:Int) / 16) 1 W d (.inr (.inr rfl))).mono ?_;rintro e w' ⟨rfl,rfl⟩;refine⟨rfl,?_,?_⟩
      . unfold YV.bQ;rw[if_neg c]
      . unfold YV.write;rw[if_neg c];exact⟨J,v,d,i⟩
  generalize y.s.put y.l fr t=R at *
  have I:χ (β w w w.drew):=(ja0 _ _).drew;go_enter func24,ntmps24;go_wp2
  go_region_held3 (λ_=>True)
    (first|trivial|assumption)
    (first
      | (go_at_call 92;refine(Q _ I).mono ?_;rintro e A ⟨g,o,cap,rfl,d,j,L⟩;have N:=ah (E A g o cap L d j);have a0:=True.intro)
      | (go_at_call 91;refine cEq N λw2 z=>?_;have q:=ah (Z _ z);have a1:=True.intro))
  go_wp2_with fail;refine q.mono ?_;rintro e w3 ⟨rfl,x,r⟩;have HE:=ah x;have B:=ah r;clear x r q;go_wp2;go_ret;exact⟨mg HE,B⟩
def kac{b C m Y y}(fr n:Int)(w)(h:aC w b Y y)(a:YOk y C m)(k:C<=40)(hm:m+7000<1000000000)(A : -9223372036854775808<=fr/\fr<=9223372036854775807) :
    κ prog 42 #[b,fr,n] w λe w'=>e=.returned (erV (y.lU fr n))/\ay b Y y (y.wipe fr n) w w':=by
  have M:χ (∀ W:ω,β w w W->κ prog 92 #[b] W λe w'=>∃(g o cap:Nat),e=.returned (.slice (S ⟨g,o,O⟩) y.l.length cap)/\Nums w' (S ⟨g,o,O⟩) y.l/\w.heap.size<=g/\β w w w'):=λW f=>(uy W (h.below f) a).mono λe w' ⟨g,o,cap,c,i,j,_,_,P⟩=>⟨g,o,cap,c,i,ja4 f.size j,f.trans (P.mono f.size)⟩
  have B:χ (∀(W:ω) (g o cap:Nat),β w w W->Nums W (S ⟨g,o,O⟩) y.l->w.heap.size<=g->κ prog 117 #[.pointer (S ⟨b,6,O⟩),.slice (S ⟨g,o,O⟩) y.l.length cap,fr,n] W λe w'=>e=.returned (erV (y.s.wipe y.l fr n).2)/\ay b Y y {y with s:=(y.s.wipe y.l fr n).1} w w'):=λW g o cap f N Z =>
    (OD y.l fr n W ((h.shelf a.s).below f) N a.ch.good (by have:=a.ch.len;omega) k (λg' o' e L=>by
      cases e;have:=h.gG (.inr (.inl (h.inS L)))
      omega) (by omega) A).mono λe w' hd=>h.wX f hd
  have U:χ (∀ W:ω,ay b Y y {y with s:=(y.s.wipe y.l fr n).1} w W->κ prog 93 #[b,fr,n,erV (y.s.wipe y.l fr n).2] W λe w'=>e=.returned _/\erV _=erV (y.lU fr n)/\ay b Y y (y.wipe fr n) w w'):=λW ⟨G,t,c,i⟩=>by
    by_cases d:y.s.aT y.l fr n=0
    . obtain⟨_,E,n0,hl⟩:=SV.mD a.ch.good d;refine(L8 fr n _ W c (a.files (a.s.wipe _ _ _ (by omega)) (λl=>.wipe l _ _ _ _) (by omega)) k (λ_=>⟨E,by omega,by omega⟩)).mono ?_;rintro e w' ⟨rfl,D,J,j,H⟩;rw[if_neg (Zi a.ch.good a.s d (by omega))] at *
      have Q:y.wipe fr n=({y with s:=(y.s.wipe y.l fr n).1}:YV).mark fr.toNat n.toNat:=by
        unfold YV.wipe;rw[if_pos d]
      refine⟨rfl,?_,?_⟩
      . unfold YV.lU;rw[if_pos d]
      . rw[Q];exact⟨D,J.trans t,j,i.trans H⟩
    . have T:y.s.wipe y.l fr n=(y.s,1):=by
        unfold SV.wipe;rw[if_neg d,EO a.ch.ne d]
      rw[T] at c i |-;refine(xK fr n 1 W c (.inr (.inr rfl))).mono ?_;rintro e w' ⟨rfl,rfl⟩;refine⟨rfl,?_,?_⟩
      . unfold YV.lU;rw[if_neg d]
      . unfold YV.wipe;rw[if_neg d];exact⟨G,t,c,i⟩
  generalize y.s.wipe y.l fr n=R at *
  have F:χ (β w w w.drew):=(ja0 _ _).drew;go_enter func42,ntmps42;go_wp2
  go_region_held3 (λ_=>True)
    (first|trivial|assumption)
    (first
      | (go_at_call 92;refine(M _ F).mono ?_;rintro e x ⟨g,o,cap,rfl,c,j,I⟩;have K:=ah (B x g o cap I c j);have a0:=True.intro)
      | (go_at_call 117;refine cEq K λw2 v=>?_;have q:=ah (U _ v);have a1:=True.intro))
  go_wp2_with fail;refine q.mono ?_;rintro e X ⟨rfl,u,r⟩;have V:=ah u;have z:=ah r;clear u r q;go_wp2;go_ret;exact⟨mg V,z⟩
def getD_in{l:List Int}{k}(h:k<l.length):l.getD k 0∈l:=by
 simp_all
def ZJ{a C m Y y}(w)(h:aC w a Y y)(u:YOk y C m) :
  κ prog 45 #[a] w λe w'=>e=.returned (.tuple #[])/\ay a Y y y.flush w w':=by
 have U:=ah (uy w h u)
 have L:χ (∀ W:ω,ay a Y y {y with s:=y.s.iG (y.l.take y.l.length)} w W->ay a Y y y.flush w W):=λW hd=>by
  rw[jaT] at *;exact hd
 have K:χ (∀(k:Nat) (b W:ω) (g o:Nat),k<y.l.length->Nums b (S ⟨g,o,O⟩) y.l->w.heap.size<=g->β w w b->ay a Y y {y with s:=y.s.iG (y.l.take k)} b W->∃(n xp:Nat),W.cell? ⟨g,o+k,O⟩=S (.int .i64 (n:Int))/\n<5/\W.cell? ⟨a,6+n,O⟩=S (xp:υ) /\
   κ prog 119 #[xp] W λe w'=>e=.returned (.tuple #[])/\ay a Y y {y with s:=y.s.iG (y.l.take (k+1))} b w'):=λk b W g o c V hg t ⟨j,A,d,f⟩=>by
  have hN  := V.moved f (λM T e x=>by
   cases e;have:=h.gG x
   omega)
  obtain⟨M,T,Z,B⟩:=hN k c;cases Z;obtain⟨v,D,_⟩:=QB u.ch.good (y.l.take k) _ (getD_in c);obtain⟨a0,a5,a2⟩:=SV.eG D;have N:W.cell? ⟨a,6+(y.l.getD k 0).toNat,O⟩=S (jh (j.xs (y.l.getD k 0).toNat) (y.s.iG (y.l.take k) (y.l.getD k 0).toNat)):=d.blk.cells.2.2.1 (y.l.getD k 0).toNat (by omega);rw[a2] at *
  refine⟨(y.l.getD k 0).toNat,(j.xs (y.l.getD k 0).toNat).p,by rw[B,show(((y.l.getD k 0).toNat:Nat):Int)=y.l.getD k 0 by omega],by omega,N,?_⟩;refine(Gy W (d.shelf (SV.ok.iG _ u.s)) D).mono ?_;rintro e w' ⟨rfl,F,q,X⟩;obtain⟨J,P⟩:=d.xq (ja0 _ _) q X;refine⟨rfl,{j with xs:=F},A,?_,?_⟩
  .rw[D6 c,SV.BD];exact J
  .rw[D6 c,SV.BD];exact f.trans P
 have Q:χ (∀(b W:ω) (z:YV),β w w b->ay a Y y z b W->ay a Y y z w W):=λb W z t ⟨j,A,d,f⟩=>⟨j,A,d,(Moved.of_below t).trans f⟩
 have I:=ah λW (t:β w w W)=>ay.refl (h.below t)
 have a1  := u.ch.len;generalize hl:y.l.length=ln at *
 go_enter func45,ntmps45;go_wp2_with fail;refine U.mono ?_;rintro e r ⟨g,o,cap,rfl,d,f,h3,B,q⟩;have R:=ah (λW z hd=>Q r W z q hd);go_wp2;go_loopw [7] (λi wr=>∃ k:Nat,k<=ln/\i=.int .i64 (k:Int)/\ay a Y y {y with s:=y.s.iG (y.l.take k)} r wr) (λi _=>ln-(intOf i).toNat)
 case atStart=>exact⟨0,ja7 _,rfl,(I r q)⟩
 case round =>
  obtain⟨k,c,rfl,hd⟩:=hrel;by_cases E:k<ln
  .obtain⟨n,xp,q1,q2,q3,x⟩:=(λk W c hd=>K k r W g o c d f q hd) k wr E hd;have k0:(0:Int)<=(k:Int):=by omega
   have k2:((k:Int)).toNat=k:=by omega
   have n0:(0:Int)<=(n:Int):=by omega
   have n1:(n:Int)<5:=by omega
   have n2:((n:Int)).toNat=n:=by omega
   have k3:IntKind.i64.wrap _=(k:Int)+1:=ja9 _ (by omega);go_wp2_with fail;refine cHd x λw2 H=>?_
   go_wp2;refine⟨⟨k+1,by omega,by simp,H⟩,?_⟩;simp only[intOf];omega
  .have G:k=ln:=by omega
   rw[G] at hd;go_wp2;go_end0
   exact⟨rfl,(L _ (R _ _ hd))⟩
def bx(a b c:Int):Obj:=.cells #[a,b,c] 67 (0,0)
def uI{W:ω}{N a b c}(h:W.heap[N]?=S (bx a b c)):W.cell? ⟨N,0,O⟩=S (a:υ)/\W.cell? ⟨N,1,O⟩=S (b:υ)/\W.cell? ⟨N,2,O⟩=S (c:υ)/\W.frozen? ⟨N,1,O⟩=false:=by
 refine⟨?_,?_,?_,frozen_of_row W N 1 _ _ h⟩<;>(rw[cell_of_row _ _ _ _ _ _ h];rfl)
def aC.creates{w W b}{i N:Nat}{m C Y y back R}(h:aC w b Y y)(L:YOk y C m)(f:i<5)(hm:m+20<1000000000)(T:y.used (i:Int)≠true)(hR:R=oI (y.dev i).fl.length (C:Int))(r:β w w W)(hN:w<=N)(z:W.heap[N]?=S (bx (C:Int) R back)) :
  κ prog 30 #[Y.dp y.s i,.agg #[(C:Int),R,back]] W λe w'=>∃ g,e=.returned (.tuple #[.pointer g,erV (y.dP (i:Int) back)]) /\
   (w'.cell? ⟨b,i,O⟩=S (Y.dp y.s i:υ)/\w'.cell? ⟨N,0,O⟩=S (.int .i64 (C:Int))/\w'.cell? ⟨N,1,O⟩=S (R:υ)/\w'.cell? ⟨N,2,O⟩=S (back:υ))/\(∃ v,w'.cell? ⟨b,6+i,O⟩=S v)/\w'.frozen? ⟨b,6+i,O⟩=false /\
   ((w'.setCell ⟨b,6+i,O⟩ (.pointer g)).cell? ⟨b,i,O⟩=S (Y.dp y.s i:υ)/\(w'.setCell ⟨b,6+i,O⟩ (.pointer g)).cell? ⟨N,0,O⟩=S (.int .i64 (C:Int))/\(w'.setCell ⟨b,6+i,O⟩ (.pointer g)).cell? ⟨N,1,O⟩=S (R:υ)/\(w'.setCell ⟨b,6+i,O⟩ (.pointer g)).cell? ⟨N,2,O⟩=S (back:υ)) /\
   ay b Y y (y.blank (i:Int) back) w (w'.setCell ⟨b,6+i,O⟩ (.pointer g)):=by
 have d:=h.below r;obtain⟨d1,o,G⟩:=d.lJ f;have a3:=h.blk.lt;have a1:¬(Y.hd y.s i).fp N:=λe=>by have:=h.gG (.inr (.inl ⟨i,f,G N e⟩));omega
 have I  := λe=>d.lC.1 i f (G b e)
 have U:y.head (i:Int) back=⟨(C:Int),R,back⟩:=by
  unfold YV.head;rw[L.ch.iO,show((i:Int)).toNat=i by omega,hR]
 have P:((i:Int)).toNat=i:=by omega
 have hF:y.dP (i:Int) back=crF (y.dev i) ⟨(C:Int),R,back⟩:=by
  unfold YV.dP;rw[if_pos ⟨by omega,by omega⟩,if_neg T,U,P]
 have hV:y.blank (i:Int) back=if crF (y.dev i) ⟨(C:Int),R,back⟩=0 then {y with s:=y.s.upd i (crV (y.dev i) ⟨(C:Int),R,back⟩)} else {y with s:=y.s.gone i,dv:=λk=>if k=i then jB (y.dev i) ⟨(C:Int),R,back⟩ else y.dv k}:=by
  unfold YV.blank;rw[if_pos ⟨by omega,by omega⟩,if_neg T,U,P]
 have M:∀(w':ω) (j:υ),w'.heap[b]?=W.heap[b]?->w'.heap[N]?=W.heap[N]? ->
   (w'.cell? ⟨b,i,O⟩=S (Y.dp y.s i:υ)/\w'.cell? ⟨N,0,O⟩=S (.int .i64 (C:Int))/\w'.cell? ⟨N,1,O⟩=S (R:υ)/\w'.cell? ⟨N,2,O⟩=S (back:υ))/\(∃ v,w'.cell? ⟨b,6+i,O⟩=S v)/\w'.frozen? ⟨b,6+i,O⟩=false /\
   ((w'.setCell ⟨b,6+i,O⟩ j).cell? ⟨b,i,O⟩=S (Y.dp y.s i:υ)/\(w'.setCell ⟨b,6+i,O⟩ j).cell? ⟨N,0,O⟩=S (.int .i64 (C:Int))/\(w'.setCell ⟨b,6+i,O⟩ j).cell? ⟨N,1,O⟩=S (R:υ)/\(w'.setCell ⟨b,6+i,O⟩ j).cell? ⟨N,2,O⟩=S (back:υ)):=λw' j E e2=>by
  obtain⟨c0,_,c6,_,_,fz⟩:=d.blk.cells;have X:=(jab (a:=⟨b,i,O⟩) E).trans (c0 i f);have a6:=(jab (a:=⟨b,6+i,O⟩) E).trans (c6 i f);have af:=(jaI (a:=⟨b,6+i,O⟩) E).trans (fz (6+i));obtain⟨J,H,Q,_⟩:=uI (e2.trans z);have q:∀ k,(⟨b,6+i,O⟩:Addr)≠⟨N,k,O⟩:=λk e=>by simp_all
  refine⟨⟨X,J,H,Q⟩,⟨_,a6⟩,af,?_,?_,?_,?_⟩
  .rw[jan _ _ _ _ (by simp_all)];exact X
  .rw[jan _ _ _ _ (q 0)];exact J
  .rw[jan _ _ _ _ (q 1)];exact H
  .rw[jan _ _ _ _ (q 2)];exact Q
 rw[<- o,hF];refine(Fg (C:Int) R _ W d1.ou (L.dev i) hm (ja1 _)).mono ?_;rintro e w' ⟨x,V,_,a2,A|A⟩
 .obtain⟨l,rfl,K,_⟩:=A;have c  := oz a2 (λ_ e=>e.1) K.out;obtain⟨t,B⟩:=d.made f c (K.re λ_ _ e=>e) V;obtain⟨n,D,u,F⟩:=M w' _ (c.block d.blk.lt I) (c.block (lt_of_some z) a1);rw[o];refine⟨S _,by rw[l,aJ],n,D,u,F,?_⟩;rw[hV,if_pos l];exact⟨{Y with xs:=nH _ i x},rfl,t,(Moved.of_below r).trans B⟩
 .obtain⟨l,rfl,Z⟩:=A;have c  := oz a2 (λ_ e=>e.1) Z.out;obtain⟨t,B⟩:=d.Ac f c Z.noG V;obtain⟨n,D,u,F⟩:=M w' _ (c.block d.blk.lt I) (c.block (lt_of_some z) a1);rw[o];refine⟨O,rfl,n,D,u,F,?_⟩;rw[hV,if_neg l];exact⟨{Y with ds:=fV _ i _},rfl,t,(Moved.of_below r).trans B⟩
def ZE{f C m i:Nat}{Y y}(back:Int)(w)(h:aC w f Y y)(M:YOk y C m)(hC:1<=C/\C<=32)(J:i<5)(hu:y.used (i:Int)≠true)(hm:m+20<1000000000) :
  κ prog 121 #[f,(i:Int),back] w λe w'=>e=.returned (erV (y.dP (i:Int) back))/\ay f Y y (y.blank (i:Int) back) w w':=by
 have HU:=ah (MB (i:Int) w h M);rw[show y.used (i:Int)=false by simpa using hu] at HU;obtain⟨v,hv,hc⟩:=M.ch.root;obtain⟨r0,r5,B⟩:=SV.eG hv;obtain⟨k,hk⟩:∃ k:Nat,y.kd.root=(k:Int):=⟨y.kd.root.toNat,by omega⟩;rw[hk] at B r5 r0;have ab:((k:Int)).toNat=k:=by omega
 rw[ab] at B
 have P:χ (∀ W:ω,β w w W->W.cell? ⟨f,11,O⟩=S (.int .i64 (k:Int))/\W.cell? ⟨f,6+k,O⟩=S ((Y.xs k).p:υ)):=λW d=>by
  obtain⟨q0,_,q6,ag,_,_⟩:=(h.below d).blk.cells;have:=q6 k (by omega)
  rw[B] at this;exact⟨by rw[<- hk];exact ag,this⟩
 have x:=ah λW (d:β w w W)=>(h.below d).blk.cells.1 i J
 have A:χ (∀ W:ω,β w w W->κ prog 95 #[(Y.xs k).p] W λe w'=>e=.returned (.agg #[(C:Int),v.h.p,v.h.b])/\β w w w'/\β W W w'):=λW d=>(tH W ((h.img k v (by omega) B).below d)).mono λe w' ⟨h1,U⟩=>⟨by rw[h1,hc],d.trans (U.mono d.size),U⟩
 have I:χ (∀ W:ω,β w w W->κ prog 189 #[Y.dp y.s i,(C:Int)] W λe w'=>e=.returned (oI (y.dev i).fl.length (C:Int))/\β W W w'):=λW d=>by
  obtain⟨d1,d2,_⟩:=(h.below d).lJ J;rw[<- d2];exact ZV W d1 hC
 have t:=ah λW N (d:β w w W) (z:w.heap.size<=N) (H:W.heap[N]?=S (bx (C:Int) (oI (y.dev i).fl.length (C:Int)) back))=>h.creates (back:=back) M J hm hu rfl d z H
 have a3:χ (∀(a:ω) (R:Int),β w w a->∀ w4:ω,β (a.alloc (bx (C:Int) v.h.p back)).heap.size (a.alloc (bx (C:Int) v.h.p back)) w4->w4.heap[a.heap.size]?=S (bx (C:Int) v.h.p back)/\(w4.setCell ⟨a,1,O⟩ R).heap[a.heap.size]?=S (bx (C:Int) R back)/\β w w (w4.setCell ⟨a,1,O⟩ R)):=λa R d w4 j=>by
  have g:w4.heap[a.heap.size]?=S (bx (C:Int) v.h.p back):=(j.block _ (by simp)).trans (heap_alloc_new a _);refine⟨g,?_,((d.alloc d.size _).trans (j.mono (by simp;have:=d.size;omega))).setCell d.size _⟩;unfold bx at g;rw[heap_setCell_same _ _ _ _ _ _ g];rfl
 generalize erV (y.dP (i:Int) back)=E at t |-;generalize oI (y.dev i).fl.length (C:Int)=R at I t;generalize Y.dp y.s i=dp at x I t;generalize (Y.xs k).p=xp at P A;generalize v.h.p=r at A a3;generalize v.h.b=L at A;have g0:decide ((i:Int)<0)=false:=decide_eq_false (by omega);have g5:decide (5<=(i:Int))=false:=decide_eq_false (by omega);have i0:(0:Int)<=(i:Int):=by omega
 have i5:(i:Int)<5:=by omega
 have i2:((i:Int)).toNat=i:=by omega
 unfold bx at a3 t;go_enter func121,ntmps121;go_wp2_with fail;refine cHd HU.out λc D=>?_
 go_upto_region 5 with fail
 have a7:χ (β w w c.drew):=D.out.drew;have Z:χ (β w w (c.alloc (.cells #[(0:Int),(0:Int),(0:Int)] 67)).drew):=(D.out.alloc D.out.size _).drew;obtain⟨ao,d6⟩:=P.out _ a7.out;obtain⟨aL,a6⟩:=P.out _ Z.out;have ae:c.heap.size<(c.alloc (.cells #[(0:Int),(0:Int),(0:Int)] 67)).drew.heap.size:=by show c.heap.size<(c.alloc _).heap.size;simp
 have al:χ ((c.alloc (.cells #[(0:Int),(0:Int),(0:Int)] 67)).drew.heap[c.heap.size]?=S (.cells #[(0:Int),(0:Int),(0:Int)] 67 (0,0))):=heap_alloc_new c _;have F:χ (w.heap.size<=c):=D.out.size;go_cut [7] from 20 (λhv wx=>∃ N:Nat,hv=.pointer (S ⟨N,0,O⟩)/\w.heap.size<=N/\wx.heap[N]?=S (bx (C:Int) r L)/\β w w wx)
 case first =>
  go_region_with (first
   | (go_at_call 95;refine(A.out _ (by first|exact a7.out|exact Z)).mono ?_;rintro e a ⟨rfl,a9,a1⟩;have n:=ah a9;(try have l:a.heap[c.heap.size]?=S (.cells #[(0:Int),(0:Int),(0:Int)] 67 (0,0)):=(a1.block _ ae).trans al);(try have ax:a.cell? ⟨c,0,O⟩=S (.int .i64 0):=by rw[cell_of_row _ _ _ _ _ _ l];rfl);(try have ar:a.cell? ⟨c,1,O⟩=S (.int .i64 0):=by rw[cell_of_row _ _ _ _ _ _ l];rfl);(try have am:a.cell? ⟨c,2,O⟩=S (.int .i64 0):=by rw[cell_of_row _ _ _ _ _ _ l];rfl);(try have aD:=frozen_of_row a c.heap.size 0 _ _ l);(try have aR:=frozen_of_row a c.heap.size 1 _ _ l);(try have ap:=frozen_of_row a c.heap.size 2 _ _ l);clear a9 a1))
  all_goals
   go_wp2_with fail;go_meet
   case rel =>
     first
      | exact⟨_,rfl,n.size,heap_alloc_new a _,n.alloc n.size _⟩
      | exact⟨_,rfl,n.size,heap_alloc_new a _,(n.alloc n.size _).drew⟩
      | exact⟨_,rfl,F,by
       unfold bx
       rw[heap_setCell_same _ _ _ _ _ _ (heap_setCell_same _ _ _ _ _ _ (heap_setCell_same _ _ _ _ _ _ l))];rfl,((n.setCell F.out _).setCell F.out _).setCell F.out _⟩
 case rest =>
  obtain⟨N,rfl,z,H,ac⟩:=hcut;have V:wc.heap[N]?=S (.cells #[(C:Int),r,L] 67 (0,0)):=H;have x2:wc.cell? ⟨N,2,O⟩=S (L:υ):=(uI H).2.2.1;have f2:=frozen_of_row wc N 2 _ _ V;have X:χ ((wc.setCell ⟨N,2,O⟩ back).heap[N]?=S (bx (C:Int) r back)):=by unfold χ;rw[heap_setCell_same _ _ _ _ _ _ V];rfl
  have a0:χ (β w w (wc.setCell ⟨N,2,O⟩ back)):=ac.setCell z _;go_upto_region 7 with fail
  generalize av:wc.setCell ⟨N,2,O⟩ back=q at X a0 |-;have G:χ (β w w q.drew):=a0.drew;have Q:χ (q.drew.heap[N]?=S (bx (C:Int) r back)):=X;obtain⟨y0,y1,y2,yf⟩:=uI Q;have af:χ (q.drew.cell? ⟨f,i,O⟩=S (dp:υ)/\q.drew.cell? ⟨N,0,O⟩=S (.int .i64 (C:Int))):=⟨x _ G,y0⟩
  have ad:χ (∀ w4:ω,β q.drew.heap.size q.drew w4->w4.heap[N]?=S (bx (C:Int) r back)/\β w w w4/\(w4.setCell ⟨N,1,O⟩ R).heap[N]?=S (bx (C:Int) R back)/\β w w (w4.setCell ⟨N,1,O⟩ R)):=λw4 j=>by
   have g:w4.heap[N]?=S (bx (C:Int) r back):=(j.block _ (lt_of_some Q)).trans Q;have u:=G.trans (j.mono G.size);refine⟨g,u,?_,u.setCell z _⟩;unfold bx at g;rw[heap_setCell_same _ _ _ _ _ _ g];rfl
  go_region_held3 (λW=>W.cell? ⟨f,i,O⟩=S (dp:υ)/\W.cell? ⟨N,0,O⟩=S (.int .i64 (C:Int)))
   (first|(exact af)|assumption)
   (first
     | (go_at_call 189;refine cEq (I _ G) λw4 j=>?_;obtain⟨g,u,T,K⟩:=ad w4 j;obtain⟨t0,t1,t2,tf⟩:=uI g;have aw:w4.cell? ⟨f,i,O⟩=S (dp:υ)/\w4.cell? ⟨N,0,O⟩=S (.int .i64 (C:Int)):=⟨x _ u,t0⟩;have aq:(w4.setCell ⟨N,1,O⟩ R).cell? ⟨f,i,O⟩=S (dp:υ)/\(w4.setCell ⟨N,1,O⟩ R).cell? ⟨N,0,O⟩=S (.int .i64 (C:Int)):=⟨x _ K,(uI T).1⟩;have a2:=ah T;have a5:=ah K;clear g u T K j))
  go_upto_region 9 with fail
  generalize an:w4.setCell ⟨N,1,O⟩ R=o at a2 a5 |-;have a8:χ (β w w o.drew):=a5.drew;have aa:χ (o.drew.heap[N]?=S (bx (C:Int) R back)):=a2;obtain⟨y0,y1,y2,yf⟩:=uI aa;have ai:χ (o.drew.cell? ⟨f,i,O⟩=S (dp:υ)/\o.drew.cell? ⟨N,0,O⟩=S (.int .i64 (C:Int))/\o.drew.cell? ⟨N,1,O⟩=S (R:υ)/\o.drew.cell? ⟨N,2,O⟩=S (back:υ)):=⟨x _ a8,y0,y1,y2⟩;have HC:=ah (t o.drew N a8 z aa)
  go_region_held3 (λW=>W.cell? ⟨f,i,O⟩=S (dp:υ)/\W.cell? ⟨N,0,O⟩=S (.int .i64 (C:Int))/\W.cell? ⟨N,1,O⟩=S (R:υ)/\W.cell? ⟨N,2,O⟩=S (back:υ))
   (first|(exact ai)|assumption)
   (first
     | (go_at_call 30;refine HC.mono ?_;rintro e w6 ⟨po,rfl,aE,⟨v6,q6⟩,aM,az,a4⟩;have HD:=ah a4;clear a4))
  go_wp2;go_ret;exact⟨rfl,HD⟩
def L6{c C m Y y}(f back:Int)(w)(h:aC w c Y y)(k:YOk y C m)(l:1<=C/\C<=32)(r:m+20<1000000000) :
  κ prog 121 #[c,f,back] w λe w'=>e=.returned (erV (y.dP f back))/\ay c Y y (y.blank f back) w w':=by
 by_cases a:0<=f/\f<5
 .obtain⟨i,rfl⟩:∃ i:Nat,f=(i:Int):=⟨f.toNat,by omega⟩;by_cases b:y.used (i:Int)=true
  .have d:y.dP (i:Int) back=5:=by unfold YV.dP;rw[if_pos a,if_pos b]
   have g:y.blank (i:Int) back=y:=by unfold YV.blank;rw[if_pos a,if_pos b]
   have o:=ah (MB (i:Int) w h k);rw[b] at *
   have q:=ah λW (n:β w w W)=>ay.below h n
   rw[d,g,bC (by decide)];have s:decide (5<=(i:Int))=false:=decide_eq_false (by omega);go_enter func121,ntmps121;go_wp2_with fail;refine cEq o λu t=>?_
   go_wp2;go_ret;exact⟨rfl,(q _ t)⟩
  .exact ZE back w h k l (by omega) b r
 .have d:y.dP f back=1:=by unfold YV.dP;rw[if_neg a]
  have g:y.blank f back=y:=by unfold YV.blank;rw[if_neg a]
  have j:χ (ay c Y y y w w):=ay.refl h;rw[d,g,eX];by_cases v:f<0
  .go_enter func121,ntmps121;go_wp2;go_ret;exact⟨rfl,j⟩
  .have s  := decide_eq_true (by omega);go_enter func121,ntmps121;go_wp2;go_ret;exact⟨rfl,j⟩
def Zy{a C m Y y}(f:Int)(w)(h:aC w a Y y)(g:YOk y C m)(b:1<=C/\C<=32)(c:m+20<1000000000) :
  κ prog 47 #[a,f] w λe w'=>e=.returned (erV (y.dP f (-1)))/\ay a Y y (y.blank f (-1)) w w':=by
 go_enter func47,ntmps47;go_wp2_with fail;refine cHd (L6 f (-1) w h g b c) λi d=>?_
 go_wp2;go_ret;exact⟨rfl,d⟩
def ZW{c C m Y y}(f:Int)(w)(h:aC w c Y y)(q:YOk y C m)(V:1<=C/\C<=32)(Q:m+20<1000000000) :
  κ prog 49 #[c,f] w λe w'=>e=.returned (erV (y.iU f))/\ay c Y y (y.snap f) w w':=by
 have k:=ah (qh w h);have z:χ (∀ W:ω,β w w W->ay c Y y y w W):=λW a=>ay.below h a
 by_cases a:y.busy=true
 .rw[qY a] at *
  have r:y.iU f=8:=by unfold YV.iU;rw[if_pos a]
  have A:y.snap f=y:=by unfold YV.snap;rw[if_pos (.inl a)]
  have s:=ah (z w (ja0 _ _));rw[r,A,bC (by decide)];clear h q a r A z;go_enter func49,ntmps49;go_wp2_with fail;refine k.mono ?_;rintro e w' ⟨rfl,b⟩;have n:=b.symm;subst n;clear b k;go_wp2;go_ret;exact⟨rfl,s⟩
 .rw[qX a] at *
  have u:=ah (uy w h q);by_cases d:y.l.length=4
  .have r:y.iU f=6:=by unfold YV.iU;rw[if_neg a,if_pos d]
   have A:y.snap f=y:=by unfold YV.snap;rw[if_pos (.inr d)]
   rw[r,A,bC (by decide)];have g4:((y.l.length:Int)==4)=true:=by rw[d];rfl
   clear h q a r A d;generalize y.l.length=ln at *
   go_enter func49,ntmps49;go_wp2_with fail;refine k.mono ?_;rintro e w' ⟨rfl,b⟩;have n:=b.symm;subst n;clear b k;go_wp2_with fail;refine u.mono ?_;rintro e K ⟨g,o,cap,rfl,_,_,_,_,i⟩;have s:=ah (z _ i);clear i u;go_wp2;go_ret;exact⟨rfl,s⟩
  .have g4:((y.l.length:Int)==4)=false:=by simpa using (show ¬(y.l.length:Int)=4 by omega)
   have F:χ (∀ W:ω,β w w W->W.cell? ⟨c,11,O⟩=S (y.kd.root:υ)):=λW a=>(h.below a).blk.cells.2.2.2.1
   have B:χ (∀ W:ω,β w w W->κ prog 121 #[c,f,y.kd.root] W λe w'=>e=.returned (erV (y.dP f y.kd.root))/\ay c Y y (y.blank f y.kd.root) w w'):=λW a=>(L6 f y.kd.root W (h.below a) q V Q).mono λe w' ⟨H,X⟩=>⟨H,ay.from a X⟩
   have G:y.iU f=if y.dP f y.kd.root=0 then (y.blank f y.kd.root).aN else y.dP f y.kd.root:=by unfold YV.iU;rw[if_neg a,if_neg d]
   have D:y.snap f=if y.dP f y.kd.root=0 then (if (y.blank f y.kd.root).aN=0 then {(y.blank f y.kd.root).aA (aj f) with l:=f::y.l} else (y.blank f y.kd.root).aA (aj f)) else y.blank f y.kd.root:=by unfold YV.snap;rw[if_neg (by rintro(e|e);exact a e;exact d e)]
   by_cases j:y.dP f y.kd.root=0
   .obtain⟨Z,f5,_⟩:=Aq j;have M:=(q.blank f y.kd.root Q).top;have J:χ (∀ W:ω,κ prog 32 #[f] W λe w'=>e=.returned (.agg #[.int .i64 (aj f).root,.int .i64 (aj f).kind,.int .i64 (aj f).file,.int .i64 (aj f).rate,.int .i64 (aj f).burst])/\β W W w'):=λW=>xM f W
    have I:χ (∀ W t:ω,ay c Y y (y.blank f y.kd.root) w W->β W W t->κ prog 31 #[c,.agg #[.int .i64 (aj f).root,.int .i64 (aj f).kind,.int .i64 (aj f).file,.int .i64 (aj f).rate,.int .i64 (aj f).burst]] t λe w'=>e=.returned (erV (y.iU f))/\ay c Y y (y.snap f) w w'):=λW t hd a=>by
     obtain⟨Y1,r,H,h3⟩:=hd;refine(vJ (aj f) t (H.below a) M (lW Z (by omega)) (by omega)).mono ?_;rintro e w' ⟨rfl,d⟩;refine⟨by rw[G,if_pos j],?_⟩;have N:=ay.trans r h3 (ay.from a d);rw[D,if_pos j];split
     .exact N.re rfl rfl rfl rfl rfl
     .exact N
    rw[j,aJ] at B;clear h q a d G D j z M;generalize erV (y.iU f)=E at *
    generalize y.l.length=ln at *
    go_enter func49,ntmps49;go_wp2_with fail;refine k.mono ?_;rintro e w' ⟨rfl,b⟩;have n:=b.symm;subst n;clear b k;go_wp2_with fail;refine u.mono ?_;rintro e K ⟨g,o,cap,rfl,_,_,_,_,i⟩;have a0:=F _ i;have x:=ah (B _ i);clear i u B F;go_wp2_with fail;refine x.mono ?_;rintro e T ⟨rfl,v⟩;have L:=ah (λt a=>I T t v a);clear v x I;go_wp2_with fail;refine(J _).mono ?_;rintro e w3 ⟨rfl,U⟩;have P:=ah (L _ U);clear U L J;go_wp2_with fail;refine P.mono ?_;rintro e w4 ⟨rfl,R⟩;have s:=ah R;clear R P;go_wp2;go_ret;exact⟨rfl,s⟩
   .rw[G,D,if_neg j,if_neg j];rw[bC j] at *
    clear h q a d G D z;generalize y.dP f y.kd.root=bf at *
    generalize y.l.length=ln at *
    go_enter func49,ntmps49;go_wp2_with fail;refine k.mono ?_;rintro e w' ⟨rfl,b⟩;have n:=b.symm;subst n;clear b k;go_wp2_with fail;refine u.mono ?_;rintro e K ⟨g,o,cap,rfl,_,_,_,_,i⟩;have a0:=F _ i;have x:=ah (B _ i);clear i u B F;go_wp2_with fail;refine x.mono ?_;rintro e T ⟨rfl,v⟩;have s:=ah v;clear v x;go_wp2;go_ret;exact⟨rfl,s⟩
def nO(c p b:Int):Obj:=.cells #[c,p,b] 67 (0,0)
def Ej:Obj:=.cells #[.pointer O,.pointer O,.pointer O,.pointer O,.pointer O,.pointer O,.pointer O,.pointer O,.pointer O,.pointer O,.pointer O,(0:Int),.pointer O] 74 (0,0)
def jy.start(w:ω)(D):jy (w.alloc Ej) w 0 (λ_=>⟨0,0,0,0,0,.nilIface⟩) D (.pointer O):=by
 refine⟨⟨_,heap_alloc_new w _,rfl,λi a=>(by omega),rfl,λi a=>?_,rfl,rfl⟩,λi a=>(by omega),λi a=>(by omega),λi _ a=>(by omega)⟩
 match i,a with
 | 0,_=>rfl
 | 1,_=>rfl
 | 2,_=>rfl
 | 3,_=>rfl
 | 4,_=>rfl
structure Making(w:ω)(c p:Int)(yp k:Nat)(tv:υ)(wr:ω):Prop where
 aZ:∃ hs,jy wr yp k hs (iP (aQ (newH c p))) tv
 yp:w.heap.size<yp
 box:wr.heap[w.heap.size]?=S (nO c p (-1))
 bel:β w w wr
def Making.boxes{w wr c p a k b}(h:Making w c p a k b wr):wr.cell? ⟨w,0,O⟩=S (c:υ)/\wr.cell? ⟨w,1,O⟩=S (p:υ)/\wr.cell? ⟨w,2,O⟩=S (.int .i64 (-1)):=by
 refine⟨?_,?_,?_⟩<;>(rw[cell_of_row _ _ _ _ _ _ h.box];rfl)
theorem Making.below{w wr w' c p d k b}(h:Making w c p d k b wr)(a:β wr wr w'):Making w c p d k b w':=by
 obtain⟨g,f⟩:=h.aZ;exact⟨⟨g,f.below a⟩,h.yp,(a.block _ (lt_of_some h.box)).trans h.box,h.bel.trans (a.mono h.bel.size)⟩
structure uG(w:ω)(c p:Int)(yp:Nat)(wr:ω):Prop where
 aZ:∃(hs:Nat->Hd) (t:Hd),jy wr yp 5 hs (iP (aQ (newH c p))) (.pointer (S ⟨t.p,0,O⟩))/\bV Gd.no wr t (iP 1)/\(∀ b,t.fp b->yp<b)/\∀ i,i<5->∀ b,t.fp b->¬(hs i).fp b
 yp:w.heap.size<yp
 box:wr.heap[w.heap.size]?=S (nO c p (-1))
 bel:β w w wr
def Making.top{w W w' c p a}(h:Making w c p a 5 (.pointer O) W)(j:β W W w'){t}(f:aS W.heap.size w' t (iP 1)):uG w c p a (w'.setCell ⟨a,5,O⟩ t.p):=by
 obtain⟨l,g⟩:=h.aZ;have o:=h.yp;have r:=g.lt;have k:=h.below j;refine⟨⟨l,t,g.qL j,⟨f.base0.keep λb d=>heap_setCell_other _ _ _ _ (λe=>by have:=(f.lt b d).1;have q:b=a:=e;omega),λ_ _ e=>e⟩,λb d=>by have:=(f.lt b d).1;omega,λi m b d n=>?_⟩,h.yp,?_,k.bel.setCell (by show w.heap.size<=a;omega) _⟩
 .have s:=(f.lt b d).1;have q2:=((g.dev i m).lt b n).2;omega
 .rw[heap_setCell_other _ _ _ _ (by show w.heap.size≠a;omega)];exact k.box
def TY(n):(iP n).aV=0:=by rfl
def uG.create{w W c p a}(E:(newH c p).ok=true)(K:aQ (newH c p)<=200)(h:uG w c p a W):∃ dp:Nat,W.cell? ⟨a,11,O⟩=S (.int .i64 0)/\W.cell? ⟨a,0,O⟩=S (dp:υ) /\
  ∀ m,β W W m->κ prog 30 #[dp,.agg #[c,p,(-1:Int)]] m λe w'=>∃ xp:Nat,e=.returned (.tuple #[xp,.nilIface]) /\
   (w'.cell? ⟨a,11,O⟩=S (.int .i64 0)/\w'.cell? ⟨a,0,O⟩=S (dp:υ)/\w'.cell? ⟨w,0,O⟩=S (c:υ)/\w'.cell? ⟨w,1,O⟩=S (p:υ)/\w'.cell? ⟨w,2,O⟩=S (.int .i64 (-1)))/\(∃ v,w'.cell? ⟨a,6,O⟩=S v)/\w'.frozen? ⟨a,6,O⟩=false /\
   ((w'.setCell ⟨a,6,O⟩ xp).cell? ⟨a,11,O⟩=S (.int .i64 0)/\(w'.setCell ⟨a,6,O⟩ xp).cell? ⟨a,0,O⟩=S (dp:υ)/\(w'.setCell ⟨a,6,O⟩ xp).cell? ⟨w,0,O⟩=S (c:υ)/\(w'.setCell ⟨a,6,O⟩ xp).cell? ⟨w,1,O⟩=S (p:υ)/\(w'.setCell ⟨a,6,O⟩ xp).cell? ⟨w,2,O⟩=S (.int .i64 (-1))) /\
   ∃ Y,aC (w'.setCell ⟨a,6,O⟩ xp) a Y (nS c p)/\(∀ b,fpY a Y (nS c p) b->w<=b)/\β w w (w'.setCell ⟨a,6,O⟩ xp):=by
 obtain⟨I,t,j,s,B,M⟩:=h.aZ;have P:=h.yp;refine⟨(I 0).p,j.root,j.FH (by omega),λm f=>?_⟩;have d:=j.below f;refine(Fg c p (-1) m (d.dev 0 (by omega)).ou (uX  (by unfold aQ dJ;omega) K) (by omega) (ja1 _)).mono ?_;rintro e w' ⟨x,L,_,N,q|q⟩
 .obtain⟨_,rfl,k,_⟩:=q;have l  := oz N (λ_ e=>e.1) k.out;have g  := l.block d.lt (λe=>by have:=d.past 0 (by omega) a e;omega);have F:w'.heap[w.heap.size]?=S (nO c p (-1)):=by rw[l.block (by have:=d.lt;omega) (λe=>by have:=d.past 0 (by omega) _ e;omega),f.block _ (lt_of_some h.box)];exact h.box
  obtain⟨⟨v,G⟩,q2⟩:=d.cell 6 (by omega);obtain⟨H,r⟩:=d.aZ (s.keep λb r=>f.block b (s.lt b r).2) B M l (k.re λ_ _ e=>e) L;have o:=F;unfold nO at *
  have D:=(jab g).trans d.root;have z:=(jab g).trans (d.FH (show 0<5 by omega));have C:w'.cell? ⟨w,0,O⟩=S (c:υ):=by rw[cell_of_row _ _ _ _ _ _ o];rfl
  have y:w'.cell? ⟨w,1,O⟩=S (p:υ):=by rw[cell_of_row _ _ _ _ _ _ o];rfl
  have u:w'.cell? ⟨w,2,O⟩=S (.int .i64 (-1)):=by rw[cell_of_row _ _ _ _ _ _ o];rfl
  have n:∀ i,(⟨a,6,O⟩:Addr)≠⟨w.heap.size,i,O⟩:=λi e=>by injection e;omega
  refine⟨x.p,rfl,⟨D,z,C,y,u⟩,⟨v,(jab g).trans G⟩,(jaI g).trans q2,⟨?_,?_,?_,?_,?_⟩,_,H,λb J=>?_,?_⟩
  .rw[jan _ _ _ _ (by intro e;injection e with _ e;omega)];exact D
  .rw[jan _ _ _ _ (by intro e;injection e with _ e;omega)];exact z
  .rw[jan _ _ _ _ (n 0)];exact C
  .rw[jan _ _ _ _ (n 1)];exact y
  .rw[jan _ _ _ _ (n 2)];exact u
  .rcases r b J with e|⟨i,k,e⟩|e|e
   .omega
   .have:=j.past i k b e;omega
   .have:=B b e;omega
   .have:=h.bel.size;have:=f.size;omega
  .have A:=h.bel.trans (f.mono h.bel.size);exact(A.trans (l.below A.size λb e=>by have:=d.past 0 (by omega) b e;omega)).setCell (by show w.heap.size<=a;omega) _
 .exact absurd (IG E (ja1 _)) q.1
def Md(c p w)(s:(newH c p).ok=true)(J:aQ (newH c p)<=200) :
  κ prog 8 #[c,p] w λe w'=>∃(a:Nat) (Y:Yh),e=.returned (.tuple #[a,.nilIface])/\aC w' a Y (fJ c p)/\(∀ b,fpY a Y (fJ c p) b->w<=b)/\β w w w':=by
 have C:χ (β w w (w.alloc (nO c p (-1)))):=(ja0 _ _).alloc (ja1 _) _
 have a0:χ (κ prog 27 #[.agg #[c,p,(-1:Int)]] (w.alloc (nO c p (-1))) λe w'=>e=.returned .nilIface/\∀ N,N=w'.heap.size->Making w c p N 0 (.pointer O) (w'.alloc Ej)):=by
  have:=qp c p (-1) (w.alloc (nO c p (-1)))
  rw[show HV.fault ⟨c,p,-1⟩=0 by unfold HV.fault;rw[show HV.ok ⟨c,p,-1⟩=true from s];rfl,aJ] at *
  refine this.mono ?_;rintro e w' ⟨rfl,f⟩;refine⟨rfl,λN hN=>?_⟩;subst hN;have E:w.heap.size<w':=by have:=f.size;simp at *;omega
  exact⟨⟨_,jy.start w' _⟩,E,(jap w' _ _ E).trans ((f.block _ (by simp)).trans (heap_alloc_new w _)),(C.trans (f.mono C.size)).alloc (jbh E) _⟩
 have Q:χ (∀ W:ω,κ prog 29 #[.agg #[c,p,(-1:Int)]] W λe w'=>e=.returned (aQ (newH c p):Int)/\β W W w'):=λW=>wC c p (-1) W s
 have K:1<=aQ (newH c p):=by unfold aQ dJ;omega
 have T:χ (∀(k a:Nat) (W:ω),k<5->Making w c p a k (.pointer O) W->κ prog 28 #[(aQ (newH c p):Int)] W λe w'=>∃ dp:Nat,e=.returned (.tuple #[dp,.nilIface])/\(∃ v,w'.cell? ⟨a,k,O⟩=S v)/\w'.frozen? ⟨a,k,O⟩=false/\(w'.cell? ⟨w,0,O⟩=S (c:υ)/\w'.cell? ⟨w,1,O⟩=S (p:υ)/\w'.cell? ⟨w,2,O⟩=S (.int .i64 (-1)))/\Making w c p a (k+1) (.pointer O) (w'.setCell ⟨a,k,O⟩ dp)):=λk a W ab g=>by
  obtain⟨hs,z⟩:=g.aZ;refine(IU (aQ (newH c p)) W K J).mono ?_;rintro e w' ⟨d,rfl,hd,f⟩;obtain⟨⟨v,o⟩,q2⟩:=(z.below f).cell k (by omega);have F:=g.below f;have a1:=g.yp;refine⟨d.p,rfl,⟨v,o⟩,q2,F.boxes,⟨_,z.step ab f (ja1 _) hd⟩,g.yp,?_,F.bel.setCell (by show w.heap.size<=a;omega) _⟩;rw[heap_setCell_other _ _ _ _ (by show w.heap.size≠a;omega)];exact F.box
 have a6:χ (∀(a:Nat) (W:ω),Making w c p a 5 (.pointer O) W->κ prog 28 #[(1:Int)] W λe w'=>∃ A:Nat,e=.returned (.tuple #[A,.nilIface])/\(∃ v,w'.cell? ⟨a,5,O⟩=S v)/\w'.frozen? ⟨a,5,O⟩=false/\uG w c p a (w'.setCell ⟨a,5,O⟩ A)):=λa W g=>by
  refine(IU 1 W (by omega) (by omega)).mono ?_;rintro e w' ⟨t,rfl,ht,f⟩;obtain⟨hs,z⟩:=g.aZ;obtain⟨⟨v,o⟩,q2⟩:=(z.below f).cell 5 (by omega);exact⟨t.p,rfl,⟨v,o⟩,q2,g.top f ht⟩
 have a8:χ (∀(a:Nat) (W:ω),uG w c p a W->_):=λa W q=>q.create s J
 have U:χ (∀(a:Nat) (W:ω),uG w c p a W->W.cell? ⟨w,0,O⟩=S (c:υ)/\W.cell? ⟨w,1,O⟩=S (p:υ)/\W.cell? ⟨w,2,O⟩=S (.int .i64 (-1))):=λa W q=>by
  have f:=q.box;unfold nO at *
  refine⟨?_,?_,?_⟩<;>(rw[cell_of_row _ _ _ _ _ _ f];rfl)
 have X:χ (∀(a:Nat) (Y:Yh) (W x:ω),aC W a Y (nS c p)->(∀ b,fpY a Y (nS c p) b->w.heap.size<=b)->β w w W->β W W x->κ prog 31 #[a,.agg #[.int .i64 (aj 0).root,.int .i64 (aj 0).kind,.int .i64 (aj 0).file,.int .i64 (aj 0).rate,.int .i64 (aj 0).burst]] x λe w'=>e=.returned .nilIface/\∃ l,aC w' a l (fJ c p)/\(∀ b,fpY a l (fJ c p) b->w.heap.size<=b)/\β w w w'):=λa Y W x u hf f H=>by
  have:=vJ (m:=0) (aj 0) x (u.below H) (uX (n:=1) (by omega) (by omega)) (lW (by omega) (by omega)) (by omega)
  rw[show(nS c p).aN=0 from TY 1,aJ] at *
  refine this.mono ?_;rintro e w' ⟨rfl,l,_,y,r⟩;refine⟨rfl,l,y,λb B=>?_,?_⟩
  .rcases r.new b B with e|e
   .exact hf b e
   .have:=f.size;have:=H.size;omega
  .have a2:=f.trans (H.mono f.size);exact a2.trans (r.below a2.size hf)
 have Z:χ (∀ W:ω,κ prog 32 #[(0:Int)] W λe w'=>e=.returned (.agg #[.int .i64 (aj 0).root,.int .i64 (aj 0).kind,.int .i64 (aj 0).file,.int .i64 (aj 0).rate,.int .i64 (aj 0).burst])/\β W W w'):=λW=>xM 0 W
 clear s J K;generalize aQ (newH c p)=nn at *
 unfold nO at *
 unfold Ej at *
 go_enter func8,ntmps8;go_wp2_with fail;refine a0.mono ?_;rintro e w1 ⟨rfl,a3⟩;have M:=ah (a3 _ rfl);clear a3 a0;go_wp2;generalize a1:w1.heap.size=a at *
 generalize a9:w1.alloc _=W2 at *
 clear a9 a1 C;go_loopw [9,21] (λe i wr=>e=.nilIface/\∃ k:Nat,k<=5/\i=.int .i64 (k:Int)/\Making w c p a k (.pointer O) wr) (λ_ i _=>5-(intOf i).toNat)
 case atStart=>exact⟨rfl,0,by omega,rfl,M⟩
 case round =>
  clear M;obtain⟨rfl,k,s,rfl,g⟩:=hrel;by_cases ad:k<5
  .have a4:χ (Making w c p a k (.pointer O) wr.drew):=g.below (ja0 _ _).drew;have ag:=ah a4.boxes;clear g;have k0:(0:Int)<=(k:Int):=by omega
   have k5:(k:Int)<5:=by omega
   have k2:((k:Int)).toNat=k:=by omega
   have k3:IntKind.i64.wrap ((k:Int)+1)=(k:Int)+1:=ja9 _ (by omega);go_wp2
   go_region_held3 (λW=>W.cell? ⟨w,0,O⟩=S (c:υ)/\W.cell? ⟨w,1,O⟩=S (p:υ)/\W.cell? ⟨w,2,O⟩=S (.int .i64 (-1)))
    (first|(exact ag)|assumption)
    (first
      | (go_at_call 29;refine(Q _).mono ?_;rintro e w3 ⟨rfl,B⟩;have G:=a4.below B;have an:=G.boxes;have ae:=ah (T k a w3 ad G);clear B G)
      | (go_at_call 28;refine ae.mono ?_;rintro e w4 ⟨dp,rfl,⟨v,o⟩,q2,ap,D⟩;have aa:=ah D;have ao:=D.boxes;clear D))
   go_wp2;refine⟨⟨rfl,k+1,by omega,by simp,aa⟩,?_⟩;simp only[intOf];omega
  .have al:k=5:=by omega
   subst al;have V:=ah (a6 a wr g);clear g a6 T Q;go_wp2_with fail;refine V.mono ?_;rintro e w4 ⟨A,rfl,⟨v,o⟩,q2,q⟩;have I:=ah q;clear q V;go_upto_region 17 with fail
   generalize ac:w4.setCell ⟨a,5,O⟩ A=j at *
   clear ac o q2;obtain⟨dp,ai,r0,a5⟩:=a8 a j I;obtain⟨x0,x1,x2⟩:=U a j I;have HC:=ah (a5 j.drew (ja0 _ _).drew);have am:χ (j.drew.cell? ⟨a,11,O⟩=S (.int .i64 0)/\j.drew.cell? ⟨a,0,O⟩=S (dp:υ)/\j.drew.cell? ⟨w,0,O⟩=S (c:υ)/\j.drew.cell? ⟨w,1,O⟩=S (p:υ)/\j.drew.cell? ⟨w,2,O⟩=S (.int .i64 (-1))):=⟨ai,r0,x0,x1,x2⟩;clear a5 a8 U I
   go_region_held3 (λW=>W.cell? ⟨a,11,O⟩=S (.int .i64 0)/\W.cell? ⟨a,0,O⟩=S (dp:υ)/\W.cell? ⟨w,0,O⟩=S (c:υ)/\W.cell? ⟨w,1,O⟩=S (p:υ)/\W.cell? ⟨w,2,O⟩=S (.int .i64 (-1)))
    (first|(exact am)|assumption)
    (first
      | (go_at_call 30;refine HC.mono ?_;rintro e w6 ⟨xp,rfl,av,⟨v6,q6⟩,ax,aq,Y,u,a7,L⟩;have HY:=ah u;have HF:=ah a7;have af:=ah L;have ar:(w6.setCell ⟨a,6,O⟩ xp).cell? ⟨a,11,O⟩=S (.int .i64 0):=u.blk.cells.2.2.2.1;clear u a7 L))
   go_upto_region 20 with fail
   generalize aw:w6.setCell ⟨a,6,O⟩ xp=W7 at *
   go_wp2_with fail;refine(Z _).mono ?_;rintro e w8 ⟨rfl,R⟩;have HK:=ah (X a Y _ w8 HY HF af R);clear R X Z;go_wp2_with fail;refine HK.mono ?_;rintro e w9 ⟨rfl,l,y,r,P⟩;have H1:=ah y;have H2:=ah r;have H3:=ah P;clear y r P HK;go_wp2;go_ret2;exact⟨a,l,rfl,H1,H2,H3⟩
def YOk.c32{y C m}(h:YOk y C m):1<=C/\C<=32:=by
 obtain⟨v,a,b⟩:=h.ch.root;have:=HV.dS (h.s.file a).h
 omega
def J4{b cap F Z y l a c f A}(w)(h:au w b Z y)(g:Beside w a [] (fpZ b Z y))(d:Few f)(m:c=[112,97,117,115,101]/\F=58/\A = #[.pointer (some ⟨b,0,O⟩),.bool true]\/c=[114,101,115,117,109,101]/\F=58/\A = #[.pointer (some ⟨b,0,O⟩),.bool false]\/c=[99,97,110,99,101,108]/\F=56/\A = #[.pointer (some ⟨b,0,O⟩)]\/c=[112,105,118,111,116]/\F=54/\A = #[.pointer (some ⟨b,0,O⟩)])
  (j:∀ W,au W b Z y->κ prog F A W λe w'=>e=.returned f/\bY b Z y l W w') :
  κ prog 90 #[b,.string (bytesOf c),.slice a 0 cap] w λe w'=>e=.returned (.string (bytesOf (fO f)))/\bY b Z y l w w':=by
 have s:=ah (nZ h g j);have k:=ah λW:ω=>oU f W (by unfold Few at d;omega)
 have q:=dV c;generalize bytesOf c=S at q |-;generalize fO f=T at k |-;clear h g d j;rcases m with⟨rfl,rfl,rfl⟩|⟨rfl,rfl,rfl⟩|⟨rfl,rfl,rfl⟩|⟨rfl,rfl,rfl⟩
 all_goals
  go_enter func90,ntmps90;go_wp2_with (first|((first|go_at_call 56|go_at_call 58|go_at_call 54);refine(s.out _ (ja0 _ _)).mono ?_;rintro e t ⟨rfl,n,i⟩;have r:=ah i;clear n i)|(go_at_call 163;refine cHd (k.out _) λu o=>?_))
  go_ret;exact⟨rfl,r.out.oL o.out⟩
def J7{b cap F Z y n a c f A}(p w)(h:au w b Z y)(d:Beside w a [p] (fpZ b Z y))(l:Few f)(s:c=[98,108,97,110,107]/\F=48/\A = #[.pointer (some ⟨b,0,O⟩),.int .i64 p,.int .i64 (-1)]\/c=[115,110,97,112]/\F=50/\A = #[.pointer (some ⟨b,0,O⟩),.int .i64 p]\/c=[116,105,99,107]/\F=60/\A = #[.pointer (some ⟨b,0,O⟩),.int .i64 p])
  (j:∀ W,au W b Z y->κ prog F A W λe w'=>e=.returned f/\bY b Z y n W w') :
  κ prog 90 #[b,.string (bytesOf c),.slice a 1 cap] w λe w'=>e=.returned (.string (bytesOf (fO f)))/\bY b Z y n w w':=by
 have r:=ah (nZ h d j);have m:=ah λW:ω=>oU f W (by unfold Few at l;omega)
 have u:=dV c;generalize bytesOf c=S at u |-;obtain⟨g,o,rfl,k⟩:=d.num 0 (by simp);have z:w.cell? ⟨g,o,O⟩=some (p:υ):=k;clear k;generalize fO f=T at m |-;clear h d l j;rcases s with⟨rfl,rfl,rfl⟩|⟨rfl,rfl,rfl⟩|⟨rfl,rfl,rfl⟩
 all_goals
  go_enter func90,ntmps90;go_wp2_with (first|((first|go_at_call 48|go_at_call 50|go_at_call 60);refine(r.out _ (ja0 _ _)).mono ?_;rintro e x ⟨rfl,t,i⟩;have v:=ah i;clear t i)|(go_at_call 163;refine cHd (m.out _) λB q=>?_))
  go_ret;exact⟨rfl,v.out.oL q.out⟩
def Xg{c C m cap Z y a}(p q r s w)(h:au w c Z y)(E:YOk y C m)(U:m+7000<1000000000)(n:Beside w a [p,q,r,s] (fpZ c Z y)) :
  κ prog 90 #[c,.string (bytesOf [115,116,97,114,116]),.slice a 4 cap] w λe w'=>e=.returned (.string (bytesOf (fO (y.iE (gZ y p q r s)))))/\bY c Z y (y.start (gZ y p q r s)) w w':=by
 have F:=Gm y (gZ y p q r s);have j:=ah (nZ h n λW d=>(kaq p q r s W d E (by omega)).mono λe w' ⟨B,z⟩=>⟨B,z⟩);have t:=ah λW:ω=>oU (y.iE (gZ y p q r s)) W (by unfold Few at F;omega)
 have J:=dV [115,116,97,114,116];obtain⟨S,I⟩:∃ S,χ (S=bytesOf [115,116,97,114,116]):=⟨_,rfl⟩;rw[<- I.out] at J |-;obtain⟨g,o,rfl,N⟩:=n.num 0 (by simp)
 have u:χ (∀ W:ω,Nums W (some ⟨g,o,O⟩) [p,q,r,s]->W.cell? ⟨g,o,O⟩=some (p:υ)/\W.cell? ⟨g,o+1,O⟩=some (q:υ)/\W.cell? ⟨g,o+2,O⟩=some (r:υ)/\W.cell? ⟨g,o+3,O⟩=some (s:υ)):=λW d=>by
  have b:∀ i (x:i<4),W.cell? ⟨g,o+i,O⟩=some (.int .i64 ([p,q,r,s].getD i 0)):=λi x=>by
    obtain⟨M,R,e,G⟩:=d i x;cases e;exact G
  exact⟨b 0 (by omega),b 1 (by omega),b 2 (by omega),b 3 (by omega)⟩
 have D:=u.out w n.num;generalize fO (y.iE (gZ y p q r s))=T at t |-;generalize (y.start (gZ y p q r s))=X at j |-;generalize (y.iE (gZ y p q r s))=f at j t;go_enter func90,ntmps90;go_wp2
 go_region_held3 (λW=>W.cell? ⟨g,o,O⟩=some (p:υ)/\W.cell? ⟨g,o+1,O⟩=some (q:υ)/\W.cell? ⟨g,o+2,O⟩=some (r:υ)/\W.cell? ⟨g,o+3,O⟩=some (s:υ))
  (first|(exact D)|assumption)
  (first
    | (go_at_call 52;refine(j.out _ (ja0 _ _).drew).mono ?_;rintro e L ⟨rfl,k,v⟩;have P:=u.out _ k;have H:=ah k;have K:=ah v;clear k v)
    | (go_at_call 163;refine cEq (t.out _) λV l=>?_;have Q:=u.out _ (H.out.below l);have A:=ah (K.out.oL l);clear l))
 go_wp2;go_ret;exact⟨rfl,A.out⟩
def WZ{b C m cap Z y a}(p q w)(h:au w b Z y)(L:YOk y C m)(Q:m+7000<1000000000)(l:Beside w a [p,q] (fpZ b Z y)) :
  κ prog 90 #[b,.string (bytesOf [102,97,105,108]),.slice a 2 cap] w λe w'=>e=.returned (.string (bytesOf (fO (YV.jF p q))))/\bY b Z y (y.arm p q) w w':=by
 have B:=FY p q;have d:=ah (nZ h l λW c=>(kae p q W c).mono λe w' ⟨z,v⟩=>⟨z,v.out⟩);have n:=ah λW:ω=>oU (YV.jF p q) W (by unfold Few at B;omega)
 have G:=dV [102,97,105,108];obtain⟨S,F⟩:∃ S,χ (S=bytesOf [102,97,105,108]):=⟨_,rfl⟩;rw[<- F.out] at G |-;obtain⟨g,o,rfl,K⟩:=l.num 0 (by simp)
 have r:χ (∀ W:ω,Nums W (some ⟨g,o,O⟩) [p,q]->W.cell? ⟨g,o,O⟩=some (p:υ)/\W.cell? ⟨g,o+1,O⟩=some _):=λW c=>by
  have t:∀ i (u:i<2),W.cell? _=some _:=λi u=>by
    obtain⟨J,P,e,D⟩:=c i u;cases e;exact D
  exact⟨t 0 (by omega),t 1 (by omega)⟩
 have A:=r.out w l.num;generalize fO _=T at n |-;generalize (y.arm p q)=U at d |-;generalize (YV.jF p q)=f at d n;go_enter func90,ntmps90;go_wp2
 go_region_held3 (λW=>W.cell? ⟨g,o,O⟩=some (p:υ)/\W.cell? ⟨g,o+1,O⟩=some (q:υ))
  (first|(exact A)|assumption)
  (first
    | (go_at_call 62;refine(d.out _ (ja0 _ _).drew).mono ?_;rintro e I ⟨rfl,j,s⟩;have M:=r.out _ j;have E:=ah j;have H:=ah s;clear j s)
    | (go_at_call 163;refine cEq (n.out _) λR k=>?_;have N:=r.out _ (E.out.below k);have x:=ah (H.out.oL k);clear k))
 go_wp2;go_ret;exact⟨rfl,x.out⟩
def au.Az{w a Z y}(h:au w a Z y):w.cell? ⟨a,6,O⟩=S (Z.sp:υ)/\w.cell? ⟨a,12,O⟩=S (.slice Z.la y.l.length Z.lc):=by
 obtain⟨_,_,c,_,_,_,_,_,b,_⟩:=h.blk.cells;simp_all
def YOk.GL{y C m}(a:YOk y C m)(p q):(y.s.fG y.l p q).data.toList.length<=4096:=by
 have d:=a.c32;show(y.s.fG y.l p q).size<=4096
 unfold SV.fG;split
 .next c =>
  obtain⟨b,i,f,g⟩:=SV.mD a.ch.good c;rw[SV.BO a.ch.good a.s b _ (by omega)];omega
 .exact ja7 _
def Beside.two{w a p q S}(h:Beside w a [p,q] S):∃ g o,a=some ⟨g,o,O⟩/\∀ W,β w w W->W.cell? ⟨g,o,O⟩=some (p:υ)/\W.cell? ⟨g,o+1,O⟩=some (q:υ):=by
 obtain⟨g,o,rfl,k⟩:=h.num 0 (by simp);refine⟨g,o,rfl,λW c=>?_⟩;have b:=h.num.below c;obtain⟨g1,o1,i,j⟩:=b 0 (by simp);obtain⟨g2,o2,f,d⟩:=b 1 (by simp);simp_all
def Xa{b C m cap Z y a}(w)(h:au w b Z y)(l:YOk y C m)(o:m+7000<1000000000)(f:Beside w a [] (fpZ b Z y)) :
  κ prog 90 #[b,.string (bytesOf [102,108,117,115,104]),.slice a 0 cap] w λe w'=>e=.returned (.string (bytesOf ([111,107])))/\bY b Z y (y.flush) w w':=by
 have i:=dV [102,108,117,115,104];obtain⟨S,d⟩:∃ S,χ (S=bytesOf [102,108,117,115,104]):=⟨_,rfl⟩;rw[<- d.out] at i |-;go_enter func90,ntmps90;go_wp2_with fail;refine((nZ h f λW g=>(kai W g l).mono λe w' ⟨j,c⟩=>⟨j,c.out⟩) _ (ja0 _ _)).mono ?_;rintro e n ⟨rfl,_,k⟩;go_wp2;go_ret;exact⟨rfl,k⟩
def WY{b C m cap Z y a}(w)(h:au w b Z y)(f:YOk y C m)(s:m+7000<1000000000)(t:Beside w a [] (fpZ b Z y)) :
  κ prog 90 #[b,.string (bytesOf [99,104,97,105,110]),.slice a 0 cap] w λe w'=>e=.returned (.string (bytesOf (gY y.l)))/\bY b Z y (y) w w':=by
 have q:=dV [99,104,97,105,110];obtain⟨S,i⟩:∃ S,χ (S=bytesOf [99,104,97,105,110]):=⟨_,rfl⟩;rw[<- i.out] at q |-;have r:=f.ch.len
 have c:χ (∀ W:ω,β w w W->κ prog 165 #[.slice Z.la y.l.length Z.lc] W λe w'=>e=.returned _/\β W W w'):=λW d=>Ij y.l W (h.below d).list.1 (by omega) λx j=>by
  obtain⟨v,k,_⟩:=f.ch.good x j;have:=SV.eG k
  omega
 obtain⟨_,g⟩:=h.Az;generalize gY y.l=T at c |-;generalize y.l.length=n at c g;go_enter func90,ntmps90;go_wp2_with fail;refine cHd (c.out _ (ja0 _ _)) λW o=>?_
 go_wp2;go_ret;exact⟨rfl,(λW (d:β w w W)=>bY.of_below h d) _ o.out⟩
def Xi{c C m cap Z y a}(w)(h:au w c Z y)(r:YOk y C m)(v:m+7000<1000000000)(t:Beside w a [] (fpZ c Z y)) :
  κ prog 90 #[c,.string (bytesOf [115,116,101,112]),.slice a 0 cap] w λe w'=>e=.returned (.string (bytesOf (if y.bF=0 then (if y.eP=true then [109,111,118,101,100] else [115,116,105,108,108]) else iL y.bF)))/\bY c Z y (y.step) w w':=by
 have u:=dV [115,116,101,112];obtain⟨S,s⟩:∃ S,χ (S=bytesOf [115,116,101,112]):=⟨_,rfl⟩;rw[<- s.out] at u |-;have k:=Gn y;unfold Few at k;have b:=ah (nZ h t λW o=>(kas W o r (by omega)));have j:=ah λW:ω=>qy y.bF W (by omega) (by omega)
 generalize y.step=x at b |-;generalize y.bF=f at k b j |-;generalize y.eP=n at b |-;by_cases d:f=0
 .rw[if_pos d];rw[d] at b;cases n
  all_goals
   go_enter func90,ntmps90;go_wp2_with fail;refine(b.out _ (ja0 _ _)).mono ?_;rintro e l ⟨rfl,_,i⟩;go_wp2;go_ret;exact⟨rfl,i⟩
 .rw[if_neg d];have g  := decide_eq_true (by omega);go_enter func90,ntmps90;go_wp2_with fail;refine(b.out _ (ja0 _ _)).mono ?_;rintro e l ⟨rfl,_,i⟩;go_wp2_with fail;refine cHd (j.out _) λW q=>?_
  go_wp2;go_ret;exact⟨rfl,i.oL q.out⟩
def Xd{b C m cap Z y a}(p q w)(h:au w b Z y)(j:YOk y C m)(X:m+7000<1000000000)(N:Beside w a [p,q] (fpZ b Z y))(U : -1<=p/\p<=999999)(R : -1<=q/\q<=999999) :
  κ prog 90 #[b,.string (bytesOf [114,101,97,100]),.slice a 2 cap] w λe w'=>e=.returned (.string (bytesOf (if y.s.aT y.l p q=0 then hexT (y.s.fG y.l p q).data.toList else iL (y.s.aT y.l p q))))/\bY b Z y (y) w w':=by
 have P:=dV [114,101,97,100];obtain⟨S,M⟩:∃ S,χ (S=bytesOf [114,101,97,100]):=⟨_,rfl⟩;rw[<- M.out] at P |-;have Q:=j.c32;have V:=j.ch.len;have D:=yE y.s y.l p q;unfold Few at D;have i:χ (∀ W:ω,β w w W->κ prog 44 #[Z.sp,.slice Z.la y.l.length Z.lc,p,q] W λe w'=>e=.returned (.tuple #[.string (y.s.fG y.l p q),y.s.aT y.l p q])/\β W W w'):=λW d=>VX y.l p q W ((h.below d).shelf j.s) (h.below d).list.1 j.ch.good (by omega) (by omega) (by omega)
 have A:=ah λW:ω=>qy (y.s.aT y.l p q) W (by omega) (by omega)
 have x:χ (∀ W:ω,κ prog 162 #[.string (y.s.fG y.l p q)] W λe w'=>e=.returned (.string (bytesOf (hexT (y.s.fG y.l p q).data.toList)))/\β W W w'):=λW=>by
  have J:y.s.fG y.l p q=bytesOf (y.s.fG y.l p q).data.toList:=by simp[bytesOf]
  have E:=XI (y.s.fG y.l p q).data.toList W (by have:=j.GL p q;omega);rw[<- J] at E;exact E
 have r:=ah λW (d:β w w W)=>(h.below d).Az
 obtain⟨g,o,rfl,I⟩:=N.two;have t:=ah I;have F:=ah (λW (d:β w w W)=>bY.of_below h d);generalize hexT (y.s.fG y.l p q).data.toList=T at x |-;generalize y.s.fG y.l p q=G at i x;generalize y.s.aT y.l p q=f at i A D |-;generalize y.l.length=n at i r;have B:(w.drew.cell? ⟨b,6,O⟩=some (Z.sp:υ)/\w.drew.cell? ⟨b,12,O⟩=some (.slice Z.la n Z.lc))/\w.drew.cell? ⟨g,o,O⟩=some (p:υ)/\w.drew.cell? ⟨g,o+1,O⟩=some (q:υ):=⟨r.out w (ja0 _ _),t.out w (ja0 _ _)⟩;have L:f=0\/0<f:=by omega
 rcases L with z|z
 rotate_left
 .rw[if_neg (by omega)];go_enter func90,ntmps90;go_wp2
  go_region_held3 (λW=>(W.cell? ⟨b,6,O⟩=some (Z.sp:υ)/\W.cell? ⟨b,12,O⟩=some (.slice Z.la n Z.lc))/\W.cell? ⟨g,o,O⟩=some (p:υ)/\W.cell? ⟨g,o+1,O⟩=some (q:υ))
   (first|(exact B)|assumption)
   (first
     | (go_at_call 44;refine cEq (i.out _ (ja0 _ _).drew) λH k=>?_;have c:=(ja0 w.heap.size w).drew.trans k;have K:=And.intro (r.out _ c) (t.out _ c);have v:=ah c;clear k c))
  go_wp2_with fail;refine cBl (A.out _) v.out λW u=>?_
  go_wp2;go_ret;exact⟨rfl,F.out _ u.out⟩
 .subst z;rw[if_pos rfl];go_enter func90,ntmps90;go_wp2
  go_region_held3 (λW=>(W.cell? ⟨b,6,O⟩=some (Z.sp:υ)/\W.cell? ⟨b,12,O⟩=some (.slice Z.la n Z.lc))/\W.cell? ⟨g,o,O⟩=some (p:υ)/\W.cell? ⟨g,o+1,O⟩=some (q:υ))
   (first|(exact B)|assumption)
   (first
     | (go_at_call 44;refine cEq (i.out _ (ja0 _ _).drew) λH k=>?_;have c:=(ja0 w.heap.size w).drew.trans k;have K:=And.intro (r.out _ c) (t.out _ c);have v:=ah c;clear k c))
  go_wp2_with fail;refine cBl (x.out _) v.out λW u=>?_
  go_wp2;go_ret;exact⟨rfl,F.out _ u.out⟩
def Xk{b C m cap Z y a}(p q w)(h:au w b Z y)(j:YOk y C m)(hm:m+7000<1000000000)(R:Beside w a [p,q] (fpZ b Z y))(hp : -1<=p/\p<=999999)(hq : -1<=q/\q<=999999) :
  κ prog 90 #[b,.string (bytesOf [119,105,112,101]),.slice a 2 cap] w λe w'=>e=.returned (.string (bytesOf (fO (y.lU p q))))/\bY b Z y (y.wipe p q) w w':=by
 have hS:=dV [119,105,112,101];obtain⟨S,HS⟩:∃ S,χ (S=bytesOf [119,105,112,101]):=⟨_,rfl⟩;rw[<- HS.out] at hS |-;have hC:=j.c32;have r:χ (∀ W:ω,β w w W->κ prog 114 #[Z.sp,.slice Z.la y.l.length Z.lc,p,q] W λe w'=>e=.returned (y.s.aT y.l p q)/\β W W w'):=λW i=>vC y.l p q W ((h.below i).shelf j.s) (h.below i).list.1 j.ch.good (by omega) (by omega)
 have x:=ah λW (i:β w w W)=>(h.below i).Az
 obtain⟨g,o,ea,a1⟩:=R.two;subst ea;have u:=ah a1;have B:(w.drew.cell? ⟨b,6,O⟩=some (Z.sp:υ)/\w.drew.cell? ⟨b,12,O⟩=some (.slice Z.la y.l.length Z.lc))/\w.drew.cell? ⟨g,o,O⟩=some (p:υ)/\w.drew.cell? ⟨g,o+1,O⟩=some (q:υ):=⟨x.out w (ja0 _ _),u.out w (ja0 _ _)⟩;by_cases d:y.s.aT y.l p q=0
 .obtain⟨h0,n0,n1,n2⟩:=SV.mD j.ch.good d;obtain⟨k,rfl⟩:∃ k:Nat,q=(k:Int):=⟨q.toNat,by omega⟩;have N:=Gq y p k;unfold Few at N
  have L:χ (∀ W:ω,κ prog 164 #[(k:Int),(0:Int)] W λe w'=>e=.returned (.string (fA (k*16)))/\β W W w'):=λW=>by
   have:=Lc k 0 0 W (by omega) rfl
   rw[jbv 16 k] at this;exact this
  have A:=ah (nZ h R λW z=>(kaw (n:=k) p W z j (by omega) (by omega) (by omega) (by omega)).mono λe w' ⟨F,D⟩=>⟨F,D.out⟩);have I:=ah λW:ω=>oU (y.lU p k) W (by omega)
  have P:χ (∀ W:ω,Nums W (some ⟨g,o,O⟩) [p,(k:Int)]->W.cell? ⟨g,o,O⟩=some (p:υ)/\W.cell? ⟨g,o+1,O⟩=some (.int .i64 (k:Int))):=λW z=>by
   obtain⟨g1,o1,e1,F⟩:=z 0 (by simp);obtain⟨g2,o2,V,D⟩:=z 1 (by simp);cases e1;cases V;exact⟨F,D⟩
  rw[d] at r;generalize fO (y.lU p k)=T at I |-;generalize y.wipe p k=y2 at A |-;generalize y.lU p k=f at A I N;generalize fA (k*16)=X at L A;generalize y.l.length=n at r x B;go_enter func90,ntmps90;go_wp2
  go_region_held3 (λW=>(W.cell? ⟨b,6,O⟩=some (Z.sp:υ)/\W.cell? ⟨b,12,O⟩=some (.slice Z.la n Z.lc))/\W.cell? ⟨g,o,O⟩=some (p:υ)/\W.cell? ⟨g,o+1,O⟩=some (.int .i64 (k:Int)))
   (first|(exact B)|assumption)
   (first
     | (go_at_call 114;refine cEq (r.out _ (ja0 _ _).drew) λw1 v=>?_;have c:=(ja0 w.heap.size w).drew.trans v;have Y:=And.intro (x.out _ c) (u.out _ c);have t:=ah c;clear v c))
  have a0  := u.out _ t.out.drew;go_wp2
  go_region_held3 (λW=>W.cell? ⟨g,o,O⟩=some (p:υ)/\W.cell? ⟨g,o+1,O⟩=some (.int .i64 (k:Int)))
   (first|(exact a0)|assumption)
   (first
     | (go_at_call 164;refine cEq (L.out _) λw2 Q=>?_;have G:=t.out.drew.trans (Q.mono t.out.drew.size);have a7:=u.out _ G;have a5:=ah G;clear Q G)
     | (go_at_call 41;refine(A.out _ a5.out).mono ?_;rintro e w3 ⟨rfl,E,K⟩;have a6:=P.out _ E;have a4:=ah E;have a2:=ah K;clear E K)
     | (go_at_call 163;refine cEq (I.out _) λw4 H=>?_;have a8:=P.out _ (a4.out.below H);have a3:=ah (a2.out.oL H);clear H))
  go_wp2;go_ret;exact⟨rfl,a3.out⟩
 .have U:y.s.aT y.l p q=1:=by
   unfold SV.aT at d |-;rw[if_neg j.ch.ne] at d |-;split at d
   .rename_i hh;rw[if_pos hh]
   .exact absurd rfl d
  have J:y.lU p q=1/\y.wipe p q=y:=by
   unfold YV.lU YV.wipe;rw[if_neg d,if_neg d];exact⟨rfl,rfl⟩
  rw[J.1,J.2];rw[U] at r;have M:χ (∀ W:ω,κ prog 88 #[(1:Int)] W λe w'=>e=.returned (.string (bytesOf (fO 1)))/\β W W w'):=λW=>qy 1 W (by omega) (by omega)
  generalize fO 1=T at M |-;generalize y.l.length=n at r x B;go_enter func90,ntmps90;go_wp2
  go_region_held3 (λW=>(W.cell? ⟨b,6,O⟩=some (Z.sp:υ)/\W.cell? ⟨b,12,O⟩=some (.slice Z.la n Z.lc))/\W.cell? ⟨g,o,O⟩=some (p:υ)/\W.cell? ⟨g,o+1,O⟩=some (q:υ))
   (first|(exact B)|assumption)
   (first
     | (go_at_call 114;refine cEq (r.out _ (ja0 _ _).drew) λw1 v=>?_;have c:=(ja0 w.heap.size w).drew.trans v;have Y:=And.intro (x.out _ c) (u.out _ c);have t:=ah c;clear v c))
  go_wp2_with fail;refine cBl (M.out _) t.out λW HB=>?_
  go_wp2;go_ret;exact⟨rfl,(λW (i:β w w W)=>bY.of_below h i) _ HB.out⟩
def W9{i C m cap Z y a}(p q r w)(h:au w i Z y)(G:YOk y C m)(hm:m+7000<1000000000)(s:Beside w a [p,q,r] (fpZ i Z y))(hp : -1<=p/\p<=999999) :
  κ prog 90 #[i,.string (bytesOf [102,105,108,108]),.slice a 3 cap] w λe w'=>e=.returned (.string (bytesOf (fO (if 0<=q/\q<=128/\0<=r/\r<=255 then y.bQ p (bytesOf (gX q r)) else 1))))/\bY i Z y (if 0<=q/\q<=128/\0<=r/\r<=255 then y.write p (bytesOf (gX q r)) else y) w w':=by
 have hS:=dV [102,105,108,108];obtain⟨S,HS⟩:∃ S,χ (S=bytesOf [102,105,108,108]):=⟨_,rfl⟩;rw[<- HS.out] at hS |-;have hC:=G.c32;obtain⟨g,o,P,c0⟩:=s.num 0 (by simp);subst P
 have n:χ (∀ W:ω,Nums W (some ⟨g,o,O⟩) [p,q,r]->W.cell? ⟨g,o,O⟩=some (p:υ)/\W.cell? ⟨g,o+1,O⟩=some (q:υ)/\W.cell? ⟨g,o+2,O⟩=some (r:υ)):=λW d=>by
  obtain⟨g1,o1,N,b⟩:=d 0 (by simp);obtain⟨g2,o2,K,c⟩:=d 1 (by simp);obtain⟨g3,o3,e3,v⟩:=d 2 (by simp);cases N;cases K;cases e3;exact⟨b,c,v⟩
 obtain⟨M,V,J⟩:=n.out w s.num;by_cases l:0<=q/\q<=128/\0<=r/\r<=255
 .rw[if_pos l,if_pos l];obtain⟨k,rfl⟩:∃ k:Nat,q=(k:Int):=⟨q.toNat,by omega⟩;have B:gX (k:Int) r=List.replicate (16*k) (UInt8.ofNat r.toNat):=rfl;have H:=Gs y p (bytesOf (gX k r));unfold Few at H
  have E:χ (∀ W:ω,κ prog 164 #[(k:Int),r] W λe w'=>e=.returned (.string (bytesOf (gX k r)))/\β W W w'):=λW=>by
   rw[B];exact Lc k (UInt8.ofNat r.toNat) r W (by omega) (by simp;omega)
  have L:(bytesOf (gX k r)).size<=10000:=by
   rw[B];show(List.replicate (16*k) (UInt8.ofNat r.toNat)).toArray.size<=10000
   simp;omega
  have j:=ah (nZ h s λW d=>(kax p (bytesOf (gX k r)) W d G (by omega) (by omega) (by omega) L).mono λe w' ⟨b,c⟩=>⟨b,c.out⟩);have A:=ah λW:ω=>oU (y.bQ p (bytesOf (gX k r))) W (by omega)
  have g1:decide ((k:Int)<0)=false:=decide_eq_false (by omega);have g2:decide (128<(k:Int))=false:=decide_eq_false (by omega);have g3:decide (r<0)=false:=decide_eq_false (by omega);have g4:decide (255<r)=false:=decide_eq_false (by omega);generalize fO (y.bQ p (bytesOf (gX k r)))=T at A |-;generalize y.write p (bytesOf (gX k r))=y2 at j |-;generalize y.bQ p (bytesOf (gX k r))=f at j A H;generalize bytesOf (gX k r)=X at E j;go_enter func90,ntmps90;go_wp2
  go_region_held3 (λW=>W.cell? ⟨g,o,O⟩=some (p:υ)/\W.cell? ⟨g,o+1,O⟩=some (.int .i64 (k:Int))/\W.cell? ⟨g,o+2,O⟩=some (r:υ))
   (first|(exact⟨M,V,J⟩)|assumption)
   (first
     | (go_at_call 164;refine cEq (E.out _) λw2 I=>?_;have x:=(ja0 w.heap.size w).drew.trans I;have a3:=(λW (t:β w w W)=>n.out W (s.num.below t)) _ x;have a1:=ah x;clear I x)
     | (go_at_call 41;refine(j.out _ a1.out).mono ?_;rintro e w3 ⟨rfl,u,D⟩;have a2:=n.out _ u;have Y:=ah u;have Q:=ah D;clear u D)
     | (go_at_call 163;refine cEq (A.out _) λw4 z=>?_;have a4:=n.out _ (Y.out.below z);have U:=ah (Q.out.oL z);clear z))
  go_wp2;go_ret;exact⟨rfl,U.out⟩
 .rw[if_neg l,if_neg l];have F:χ (∀ W:ω,κ prog 88 #[(1:Int)] W λe w'=>e=.returned (.string (bytesOf (fO 1)))/\β W W w'):=λW=>qy 1 W (by omega) (by omega)
  generalize fO 1=T at F |-;have a0:q<0\/(¬q<0/\128<q)\/(¬q<0/\¬128<q/\r<0)\/(¬q<0/\¬128<q/\¬r<0/\255<r):=by omega
  rcases a0 with b|⟨b,c⟩|⟨b,c,v⟩|⟨b,c,v,h4⟩
  all_goals
   go_enter func90,ntmps90;go_wp2_with fail;refine cHd (F.out _) λW R=>?_
   go_wp2;go_ret;exact⟨rfl,(λW (t:β w w W)=>bY.of_below h t) _ R.out⟩
def Xh{b C m cap Z y a}(w)(h:au w b Z y)(E:YOk y C m)(G:m+7000<1000000000)(F:Beside w a [] (fpZ b Z y))(v:∀ x∈kR y,-1<=x/\x<=1000000000) :
  κ prog 90 #[b,.string (bytesOf [115,116,97,116,117,115]),.slice a 0 cap] w λe w'=>e=.returned (.string (bytesOf (gY (kR y))))/\bY b Z y (y) w w':=by
 have B:=dV [115,116,97,116,117,115];obtain⟨S,z⟩:∃ S,χ (S=bytesOf [115,116,97,116,117,115]):=⟨_,rfl⟩;rw[<- z.out] at B |-
 obtain⟨p,q,r,s,n,D⟩:∃ p q r s:Int,χ (kR y=[p,q,r,s])/\χ (∀ W:ω,β w w W->κ prog 68 #[b] W λe w'=>e=.returned (.agg #[p,q,r,s])/\β W W w'):=by
  have d:=λW (f:β w w W)=>kar W (h.below f)
  unfold kR
  cases o:y.j with
  | none=>rw[o] at d;exact⟨_,_,_,_,rfl,d⟩
  | some j=>rw[o] at d;exact⟨_,_,_,_,rfl,d⟩
 have l:χ (∀ W:ω,κ prog 165 #[.slice (some ⟨W,0,O⟩) 4 4] (W.alloc (.cells #[p,q,r,s] 3)) λe w'=>e=.returned (.string (bytesOf (gY (kR y))))/\β (W.alloc (.cells #[p,q,r,s] 3)).heap.size (W.alloc (.cells #[p,q,r,s] 3)) w'):=λW=>by
  rw[n.out];refine Ij (cap:=4) [p,q,r,s] _ (λk t=>⟨_,_,rfl,?_⟩) (by simp) (by rw[<- n.out];exact v);rw[cell_of_row _ _ _ _ _ _ (heap_alloc_new W _)]
  match k,t with
  | 0,_=>rfl
  | 1,_=>rfl
  | 2,_=>rfl
  | 3,_=>rfl
 generalize gY (kR y)=T at l |-;go_enter func90,ntmps90;go_wp2_with fail;refine cHd (D.out _ (ja0 _ _)) λc g=>?_
 go_wp2_with fail;have i:=l.out (c.alloc (.cells #[p,q,r,s] 120));rw[show(c.alloc _).heap.size=c.heap.size+1 by simp] at i;have A:χ (β w w ((c.alloc (.cells #[p,q,r,s] 120)).alloc (.cells #[p,q,r,s] 3))):=(g.out.alloc g.out.size _).alloc (by have:=g.out.size;simp;omega) _;refine cBl i A.out λW u=>?_
 go_wp2;go_ret;exact⟨rfl,(λW (f:β w w W)=>bY.of_below h f) _ u.out⟩
def Ee(l w)(m:l.length<=1000) :
  κ prog 86 #[.string (bytesOf l)] w λe b=>∃ g cap,e=.returned (.slice (S ⟨g,0,O⟩) (aG l).length cap)/\(∀ W,β b b W->∀ k x,(aG l)[k]?=S x->W.cell? ⟨g,k,O⟩=S (.string (bytesOf x)))/\β w w b:=by
 refine(Zk l w m).mono ?_;rintro e b ⟨a,cap,rfl,f,j⟩;obtain⟨g,c,q,_,_,_⟩:=kE f 0 (List.length_pos_iff.2 (uw l));injection q with e1 e2 e3;subst e1;subst e3;refine⟨g,cap,rfl,λW o k x d=>?_,j⟩;obtain⟨g2,c2,n,i,_,_⟩:=kE f k (List.getElem?_eq_some_iff.1 d).1;injection n with e4 e5 e6;injection e4 with e4;injection e4 with e4;subst e4;rw[o.cell (ja2 b _ (i.trans (by rw[fU,jaz,d];rfl))),i,fU,jaz,d];rfl
def pO(l:List Int):List Value:=l.map λx=>.int .i64 x
def Hl(l x):pO (l++[x])=pO l++[.int .i64 x]:=by simp[pO]
def Iy{f}:∀(l:List (List UInt8)) (x:List UInt8) (r:List Int),l.mapM f=S r->(l++[x]).mapM f=(f x).map λy=>r++[y]:=λl x r h=>by
 rw[List.mapM_append,h];cases a:f x<;>simp[a]
def mapM_none{f:List UInt8->Option Int}(l:List (List UInt8))(x)(b:x∈l)(d:f x=O):l.mapM f=none:=by
 induction l with
 | nil=>cases b
 | cons a r c =>
  rcases List.mem_cons.1 b with e|e
  .simp_all
  .simp_all
def len0{n:List Int}(h:(0:Int)=n.length):n=[]:=List.length_eq_zero_iff.1 (by omega)
def len1{n:List Int}(h:(1:Int)=n.length):∃ p,n=[p]:=List.length_eq_one_iff.1 (by omega)
def len2{n:List Int}(h:(2:Int)=n.length):∃ p q,n=[p,q]:=by
 match n,h with
 | [p,q],_=>exact⟨p,q,rfl⟩
 | [],h=>simp at h
 | [_],h=>simp at h
 | _::_::_::t,h=>simp at h;omega
def Ib{n:List Int}(h:(3:Int)=n.length):∃ p q r,n=[p,q,r]:=by
 match n,h with
 | [p,q,r],_=>exact⟨p,q,r,rfl⟩
 | [],h=>simp at h
 | [_],h=>simp at h
 | [_,_],h=>simp at h
 | _::_::_::_::t,h=>simp at h;omega
def Ic{n:List Int}(h:(4:Int)=n.length):∃ p q r s,n=[p,q,r,s]:=by
 match n,h with
 | [p,q,r,s],_=>exact⟨p,q,r,s,rfl⟩
 | [],h=>simp at h
 | [_],h=>simp at h
 | [_,_],h=>simp at h
 | [_,_,_],h=>simp at h
 | _::_::_::_::_::t,h=>simp at h;omega
def WV{o C m cap Z y a}(i n w)(h:au w o Z y)(b:YOk y C m)(g:m+7000<1000000000)(d:Beside w a n (fpZ o Z y))(z:∀ x∈kR y,-1<=x/\x<=1000000000)
  (l:∀ x∈n,-1<=x/\x<=999999) (c:jD i=n.length) (A:i≠[99,114,97,115,104]) :
  κ prog 90 #[o,.string (bytesOf i),.slice a n.length cap] w λe w'=>e=.returned (.string (bytesOf (nV y i (n.getD 0 0) (n.getD 1 0) (n.getD 2 0) (n.getD 3 0)).1))/\bY o Z y (nV y i (n.getD 0 0) (n.getD 1 0) (n.getD 2 0) (n.getD 3 0)).2 w w':=by
 have t:i∈cmds.map (·.1):=by
  apply jag;intro v
  have:jD i = -1:=by
   unfold jD;rw[List.lookup_eq_none_iff.2 λp u=>by simpa using λe:i=p.1=>v (e▸jbP u)];rfl
  omega
 have B:=b.c32;simp only[cmds,List.map,jb7,jb1,or_false] at t;rcases t with rfl|rfl|rfl|rfl|rfl|rfl|rfl|rfl|rfl|rfl|rfl|rfl|rfl|rfl|rfl|rfl|rfl
 .obtain⟨p,q,rfl⟩:=len2 c;exact Xd (cap:=cap) p q w h b g d (l p (by simp)) (l q (by simp))
 .obtain⟨p,q,r,rfl⟩:=Ib c;exact W9 (cap:=cap) p q r w h b g d (l p (by simp))
 .obtain⟨p,q,rfl⟩:=len2 c;exact Xk (cap:=cap) p q w h b g d (l p (by simp)) (l q (by simp))
 .obtain rfl:=len0 c;exact Xa (cap:=cap) w h b g d
 .obtain⟨p,rfl⟩:=len1 c;exact J7 (cap:=cap) p w h d (Bf y p (-1)) (.inl ⟨rfl,rfl,rfl⟩) λW f=>(MF p (-1) W f b (by omega) (by omega)).mono λe w' ⟨k,j⟩=>⟨k,j.out⟩
 .obtain⟨p,rfl⟩:=len1 c;exact J7 (cap:=cap) p w h d (Gl y p) (.inr (.inl ⟨rfl,rfl,rfl⟩)) λW f=>kap p W f b (by omega) (by omega)
 .obtain rfl:=len0 c;exact WY (cap:=cap)  w h b g d
 .obtain⟨p,q,r,s,rfl⟩:=Ic c;exact Xg (cap:=cap) p q r s w h b g d
 .obtain rfl:=len0 c;exact Xi (cap:=cap)  w h b g d
 .obtain rfl:=len0 c;exact J4 (cap:=cap) w h d (yF y true) (.inl ⟨rfl,rfl,rfl⟩) λW f=>(ML true W f b).mono λe w' ⟨k,j⟩=>⟨k,j.out⟩
 .obtain rfl:=len0 c;exact J4 (cap:=cap) w h d (yF y false) (.inr (.inl ⟨rfl,rfl,rfl⟩)) λW f=>(ML false W f b).mono λe w' ⟨k,j⟩=>⟨k,j.out⟩
 .obtain rfl:=len0 c;exact J4 (cap:=cap) w h d (FZ y) (.inr (.inr (.inl ⟨rfl,rfl,rfl⟩))) λW f=>kaf W f b (by omega)
 .obtain rfl:=len0 c;exact J4 (cap:=cap) w h d (Gg y) (.inr (.inr (.inr ⟨rfl,rfl,rfl⟩))) λW f=>kao W f b (by omega)
 .obtain⟨p,rfl⟩:=len1 c;exact J7 (cap:=cap) p w h d (Gp p) (.inr (.inr ⟨rfl,rfl,rfl⟩)) λW f=>(kat p W f b).mono λe w' ⟨k,j⟩=>⟨k,j.out⟩
 .obtain rfl:=len0 c;exact Xh (cap:=cap)  w h b g d z
 .obtain⟨p,q,rfl⟩:=len2 c;exact WZ (cap:=cap) p q w h b g d
 .exact absurd rfl A
def lV(w:ω)(d:Nat)(Z:Zh)(y:YV)(t:List UInt8)(c:YV)(e:Ending)(w':ω):Prop :=
 ∃(b:Nat) (Z':Zh),e=.returned (.tuple #[.string (bytesOf t),b])/\au w' b Z' c/\Moved (fpZ d Z y) w (fpZ b Z' c) w' /\
  (Z'.la=Z.la\/∀ g o,Z'.la=S ⟨g,o,O⟩->w.heap.size<=g/\g<w'.heap.size)/\(Z'.jb.a=Z.jb.a\/∀ g o,Z'.jb.a=S ⟨g,o,O⟩->w.heap.size<=g/\g<w'.heap.size)
def lV.of{w w' a Z y b t}(h:bY a Z y b w w'):lV w a Z y t b (.returned (.tuple #[.string (bytesOf t),a])) w':=by
 obtain⟨Z',f,c,g,d⟩:=h;exact⟨a,Z',rfl,g,d,f,c⟩
theorem xH:∀l c,(jM c l).length<=l.length+1
 | [],c=>by simp[jM]
 | b::r,c=>by
  unfold jM;split
  .have:=xH r [];simp;omega
  .have:=xH r (c++[b]);simp;omega
def Ef(l):(aG l)[0]?=S ((aG l).headD []):=by
 cases b:aG l with
 | nil=>exact absurd b (uw l)
 | cons a r=>rfl
def Xm{f Z y}(l w)(h:au w f Z y)(C:l.length<=1000)(b:¬(l.length<=200/\jD ((aG l).headD [])=((aG l).length:Int)-1)) :
  κ prog 22 #[f,.string (bytesOf l)] w λe w'=>lV w f Z y (iL 11) y e w':=by
 have d:=ah (Ee l w C);obtain⟨S,H,F⟩:∃ S,χ (S=bytesOf l)/\S.size=l.length:=⟨_,rfl,rfl⟩;rw[<- H.out] at d |-;have E  := List.length_pos_iff.2 (uw l);have B:(aG l).length<=1001:=ja4 (xH l []) (by omega);have A:=ah (Ef l);have a:=ah (λW:ω=>CG ((aG l).headD []) W);have m:=ah (λW:ω=>qy 11 W (by omega) (by omega));have i:=ah (λW (b:β w w W)=>lV.of (t:=iL 11) (bY.of_below h b));generalize M:(aG l).length=n at d E b B;generalize K:(aG l).headD []=x at a A b;obtain⟨X,s⟩:∃ X,χ (X=bytesOf x):=⟨_,rfl⟩;rw[<- s.out] at a;have u:χ (∀(g:Nat) (W:ω),(∀ k z,(aG l)[k]?=some z->W.cell? ⟨g,k,O⟩=some (.string (bytesOf z)))->W.cell? _=some (X:υ)):=λg W G=>by rw[s.out];exact G 0 x A.out
 generalize J:jD x=k at a b;generalize bytesOf (iL 11)=T at m i;have v:¬k=(n:Int)-1\/k=(n:Int)-1/\200<(l.length:Int):=by omega
 generalize L:l.length=len at v F;rcases v with q|⟨q,I⟩
 .have g1:(k != (n:Int)-1)=true:=by simpa using q
  go_enter func22,ntmps22;go_wp2_with fail;refine d.out.mono ?_;rintro e c ⟨g,cap,rfl,j,r⟩;have D:=u.out g c (j c (ja0 _ _));go_wp2_with fail;refine cSt (a.out _) ?_;go_wp2_with fail;refine cBl (m.out _) r λW o=>?_
  go_wp2;go_ret2;exact i.out _ o.out
 .have g1:(k != (n:Int)-1)=false:=by simpa using q
  go_enter func22,ntmps22;go_wp2_with fail;refine d.out.mono ?_;rintro e c ⟨g,cap,rfl,j,r⟩;have D:=u.out g c (j c (ja0 _ _));go_wp2_with fail;refine cSt (a.out _) ?_;go_wp2_with fail;refine cBl (m.out _) r λW o=>?_
  go_wp2;go_ret2;exact i.out _ o.out
def own_below{w:ω}{w' B e n v a}(h:w.ownsRow B e 1 v n a)(d:β w w w'):w'.ownsRow B e 1 v n a:=by
 obtain⟨c,b⟩:=h;refine⟨c,b.imp id ?_⟩;rintro⟨g,cap,cur,e1,e2,e3,r⟩;exact⟨g,cap,cur,e1,e2,(d.block g (lt_of_some e3)).trans e3,r⟩
def mapM_len{l:List (List UInt8)}{r}(h:l.mapM dK=S r):r.length=l.length:=by
 induction l generalizing r with
 | nil=>cases h;rfl
 | cons a t c =>
  rw[List.mapM_cons] at h
  cases d:dK a with
  | none=>simp_all
  | some x =>
   cases b:t.mapM dK with
   | none=>simp_all
   | some q=>rw[d,b] at h;cases h;simp[c b]
def CJ{l:List (List UInt8)}{r}(h:l.mapM dK=S r):∀ x∈r,-1<=x/\x<=999999:=by
 induction l generalizing r with
 | nil=>simp_all
 | cons a t f =>
  rw[List.mapM_cons] at h
  cases b:dK a with
  | none=>simp_all
  | some x =>
   cases c:t.mapM dK with
   | none=>simp_all
   | some q =>
    rw[b,c] at h;cases h;intro z d;rcases List.mem_cons.1 d with e|e
    .subst e;have:=IZ b;omega
    .simp_all
def Xo{f C m Z y}(l w)(h:au w f Z y)(hY:YOk y C m)(hm:m+7000<1000000000)(hK:∀ x∈kR y,-1<=x/\x<=1000000000)
  (hl:l.length<=200) (Q:jD ((aG l).headD [])=((aG l).length:Int)-1) (a4:(aG l).headD []≠[99,114,97,115,104]) :
  κ prog 22 #[f,.string (bytesOf l)] w λe w'=>lV w f Z y (dG y l).1 (dG y l).2 e w':=by
 have Y:=ah (Ee l w (by omega));obtain⟨S,hS,ar⟩:∃ S,χ (S=bytesOf l)/\S.size=l.length:=⟨_,rfl,rfl⟩;rw[<- hS.out] at Y |-;have h0:0<(aG l).length:=List.length_pos_iff.2 (uw l);have a7:(aG l).length<=1001:=ja4 (xH l []) (by omega);have HH:=ah (Ef l);have I:=ah (λW:ω=>CG ((aG l).headD []) W);have HF:=ah (λW:ω=>qy 11 W (by omega) (by omega));have HZ:=ah (λW (d:β w w W)=>lV.of (t:=iL 11) (bY.of_below h d));have HG:=ah (λ(x:List UInt8) (W:ω)=>Gt x W)
 have a0:dG y l=match (aG l).tail.mapM dK with
   | none=>(iL 11,y)
   | some n=>nV y ((aG l).headD []) (n.getD 0 0) (n.getD 1 0) (n.getD 2 0) (n.getD 3 0):=by
  unfold dG lM;rw[if_pos ⟨hl,Q⟩];cases (aG l).tail.mapM dK<;>rfl
 have K:χ (∀ x∈(aG l).tail,dK x=O->∀ W:ω,β w w W->lV w f Z y (dG y l).1 (dG y l).2 (.returned (.tuple #[.string (bytesOf (iL 11)),f])) W):=λx R A W d=>by
  rw[a0,mapM_none _ x R A];exact HZ.out W d
 have G:χ (∀(b:List Int) (a:Option Addr) (cap:Nat) (W:ω),(aG l).tail.mapM dK=some b->β w w W->W.ownsRow w.heap.size 3 1 (.slice a b.length cap) b.length (pO b)->κ prog 90 #[f,.string (bytesOf ((aG l).headD [])),.slice a b.length cap] W λe w'=>e=.returned (.string (bytesOf (dG y l).1))/\lV w f Z y (dG y l).1 (dG y l).2 (.returned (.tuple #[.string (bytesOf (dG y l).1),f])) w'):=λb a cap W A d D=>by
  have aw:Nums W a b:=λk U=>by
   obtain⟨g,c,T,F,_,_⟩:=kE D k U;injection T with e1 e2 e3;refine⟨g,0,e1,?_⟩;rw[jak,F,pO,jaz,ja5 U];simp[List.getD,U]
  have a8:Apart a (fpZ f Z y):=λg o e hf=>by
   have h1:=(D.lt g (by rw[e];rfl)).1;have B:=h.gG hf;omega
  have a9:jD ((aG l).headD [])=b.length:=by
   rw[Q,mapM_len A,List.length_tail];omega
  have hq:=WV (cap:=cap) ((aG l).headD []) b W (h.below d) hY hm ⟨aw,a8⟩ hK (λx R=>CJ A x R) a9 a4;rw[a0,A];exact hq.mono λe w' ⟨h1,B⟩=>⟨h1,lV.of (bY.from d B)⟩
 have HC:χ (∀(g:Nat) (W:ω),(∀ k z,(aG l)[k]?=some z->W.cell? ⟨g,k,O⟩=some (.string (bytesOf z)))->W.cell? ⟨g,0,O⟩=some (.string (bytesOf ((aG l).headD [])))):=λg W hh=>hh 0 _ HH.out
 have HX:χ (∀ j,j+1<(aG l).length->∃ x,(aG l)[j+1]?=some x/\x∈(aG l).tail/\(aG l).tail.take (j+1)=(aG l).tail.take j++[x]):=λj B=>by
  have ht:(aG l).tail[j]?=some (aG l)[j+1]:=by
   rw[List.getElem?_tail,ja5 B]
  refine⟨(aG l)[j+1],ja5 B,jbL ht,?_⟩;rw[jaC,ht];rfl
 have HT:χ ((aG l).tail.take ((aG l).length-1)=(aG l).tail):=jaf (by simp);have g1:(((aG l).length:Int)-1 != ((aG l).length:Int)-1)=false:=by simp
 have g2:¬200<(l.length:Int):=by omega
 have af:(bytesOf ((aG l).headD [])).toList=(aG l).headD []:=dV _;have g3:((bytesOf ((aG l).headD [])).toList==[99,114,97,115,104])=false:=by rw[af];simpa using a4
 rw[Q] at I;generalize (dG y l).1=T1 at G K |-;generalize (dG y l).2=Y2 at G K |-;generalize bytesOf ((aG l).headD [])=X at I G HC g3;generalize bytesOf (iL 11)=EE at HF K;generalize bytesOf T1=TT at G;generalize A:(aG l).length=n at Y h0 a7 I HX HT g1;generalize aD:l.length=len at ar g2 hl;go_enter func22,ntmps22;go_wp2_with fail;refine Y.out.mono ?_;rintro e r ⟨g,cap,rfl,F,a5⟩;have c0:=HC.out g r (F r (ja0 _ _));have ax:=ah F;have E:=ah a5;clear F a5;go_wp2_with fail;refine cSt (I.out _) ?_;go_wp2;go_loopw [7,8,9,10] (λu i _ _ wr=>∃(j:Nat) (b:List Int) (a:Option Addr) (J:Nat),j+1<=n/\i=.int .i64 (((j+1:Nat)):Int)/\u=.slice a b.length J/\b.length<=j/\((aG l).tail.take j).mapM dK=some b/\wr.ownsRow r.heap.size 3 1 (.slice a b.length J) b.length (pO b)/\β r r wr) (λ_ i _ _ _=>n-(intOf i).toNat)
 case atStart=>exact⟨0,[],O,0,by omega,rfl,rfl,by simp,rfl,jaa _ _ _ _,ja0 _ _⟩
 case round =>
  obtain⟨j,b,a,J,hj,rfl,rfl,az,V,D,d⟩:=hrel;by_cases ai:j+1<n
  .obtain⟨x,aq,a6,ag⟩:=HX.out j ai;have k0:((j+1:Nat):Int)<(n:Int):=by omega
   have cx:=ax.out wr d (j+1) x aq;have s:=ah (HG.out x wr);have a3:=ah d;have HO:=ah D;have a1:=ah d.size
   cases L:dK x with
   | none =>
    rw[L] at s;have am:=ah (K.out x a6 L);generalize bytesOf x=XX at cx s;go_wp2_with fail;refine s.out.mono ?_;rintro e H ⟨v,rfl,_,N⟩;have M:χ (β w w H):=E.out.trans ((a3.out.trans (N.mono a1.out)).mono E.out.size);go_wp2_with fail;refine cBl (HF.out _) M.out λW P=>?_
    go_wp2;go_ret2;exact am.out _ P.out
   | some q =>
    rw[L] at s
    have al:χ (((aG l).tail.take (j+1)).mapM dK=some (b++[q])):=by
     unfold χ;rw[ag,Iy _ x b V,L];rfl
    generalize bytesOf x=XX at cx s;go_wp2_with fail;refine s.out.mono ?_;rintro e H ⟨v,rfl,T,N⟩;obtain rfl:=T q rfl;have M:χ (β r r H):=a3.out.trans (N.mono a1.out);have ao:=ah (own_below HO.out N);have an:=ah M.out.size;go_wp2_with (at_builtin;refine app1 Aj (by rfl) _ _ (by rfl) r.heap.size H _ _ _ _ (by rfl) (by rfl) ao.out rfl (by omega) an.out λg3 ac w3 a2 ad=>?_)
    rw[<- Hl] at a2;have ap:=ah a2;have P:=ah (M.out.trans (ad.mono (ja1 _)));go_wp2;go_roundw
    case rel=>exact⟨j+1,b++[v],some ⟨g3,0,O⟩,ac,by omega,by go_num,by simp,by simp;omega,al.out,by simpa using ap.out,P.out⟩
    case measure=>simp[intOf];try omega
  .have aa:j=n-1:=by omega
   have k0:¬((j+1:Nat):Int)<(n:Int):=by omega
   rw[aa,HT.out] at V;have av:=E.out.trans (d.mono E.out.size);have ae:=ah (G.out b a J wr V av (ownsRow_base D E.out.size));have c1:wr.cell? ⟨g,0,O⟩=some (X:υ):=by rw[d.cell (ja2 r _ c0)];exact c0
   go_wp2_with fail;refine cHd ae.out λH ab=>?_
   go_wp2;go_ret2;exact ab.out
def COk(y:YV)(q:Nat):Prop:=(∃ C,YOk y C (20+3000*q))/\KOk y
def Pg{y q}(h:COk y q)(H:q<=100)(w a b c d)(G:b<=999999):COk (doV y w a b c d).2 (q+1):=by
 obtain⟨⟨C,f⟩,g⟩:=h;have ok:∀ {z:YV} {k:Nat},YOk z C (20+3000*q+k)->k<=3000->KOk z->COk z (q+1):=λi m j=>⟨⟨C,i.more (by omega)⟩,j⟩
 have same  := ok (k:=0) f (by omega) g;unfold doV;by_cases n:w=[102,105,108,108]
 .rw[if_pos n];split
  .have J:(bytesOf (gX b c)).size / 16<=128:=by
    show(List.replicate (16*b.toNat) (UInt8.ofNat c.toNat)).toArray.size / 16<=128
    simp;omega
   exact ok (k:=10*((bytesOf (gX b c)).size / 16)) (f.write _ _ (by omega)) (by omega) (g.write _ _)
  .exact same
 rw[if_neg n];by_cases i:w=[119,105,112,101]
 .rw[if_pos i];by_cases x:y.s.aT y.l a b=0
  .have F:=f.c32;obtain⟨n,I,K,L⟩:=SV.mD f.ch.good x;exact ok (k:=10*b.toNat) (f.wipe _ _ (by omega)) (by omega) (g.wipe _ _)
  .rw[show y.wipe a b=y from if_neg x];exact same
 rw[if_neg i];by_cases m:w=[102,108,117,115,104]
 .rw[if_pos m];exact ok (k:=0) f.flush (by omega) g
 rw[if_neg m];by_cases j:w=[98,108,97,110,107]
 .rw[if_pos j];exact ok (k:=15) (f.blank _ _ (by omega)) (by omega) (g.blank _ _)
 rw[if_neg j];by_cases r:w=[115,110,97,112]
 .rw[if_pos r];exact ok (k:=16) (f.snap _ (by omega)) (by omega) (g.snap _)
 rw[if_neg r];by_cases t:w=[115,116,97,114,116]
 .rw[if_pos t];exact ok (k:=1) (f.start rfl (by omega)) (by omega) (g.start _)
 rw[if_neg t];by_cases B:w=[112,97,117,115,101]
 .rw[if_pos B];exact ok (k:=0) (f.pause _) (by omega) (g.pause _)
 rw[if_neg B];by_cases u:w=[114,101,115,117,109,101]
 .rw[if_pos u];exact ok (k:=0) (f.pause _) (by omega) (g.pause _)
 rw[if_neg u];by_cases A:w=[99,97,110,99,101,108]
 .rw[if_pos A];exact ok (k:=1) (f.cancel (by omega)) (by omega) g.cancel
 rw[if_neg A];by_cases D:w=[112,105,118,111,116]
 .rw[if_pos D];exact ok (k:=11) (f.pivot (by omega)) (by omega) g.pivot
 rw[if_neg D];by_cases o:w=[116,105,99,107]
 .rw[if_pos o];exact ok (k:=0) (f.tick _) (by omega) (g.tick _)
 rw[if_neg o];by_cases v:w=[102,97,105,108]
 .rw[if_pos v];exact ok (k:=0) (f.arm _ _ (by omega)) (by omega) (g.arm _ _)
 rw[if_neg v];split
 .obtain⟨E,i⟩:=f.crash (aY y a) (by assumption);exact⟨⟨E,i.more (by omega)⟩,KOk.crash _ (by assumption)⟩
 .exact same
def YD{y q}(h:COk y q)(i:q<=100)(w a b c d)(m:b<=999999):COk (nV y w a b c d).2 (q+1):=by
 have same:COk y (q+1):=⟨h.1.imp λC f=>f.more (by omega),h.2⟩;unfold nV;by_cases k:w=[114,101,97,100]
 .simp_all
 rw[if_neg k];by_cases j:w=[99,104,97,105,110]
 .simp_all
 rw[if_neg j];by_cases g:w=[115,116,101,112]
 .rw[if_pos g];exact⟨h.1.imp λC f=>(f.step (by omega)).more (by omega),h.2.step⟩
 rw[if_neg g];by_cases l:w=[115,116,97,116,117,115]
 .simp_all
 rw[if_neg l];exact Pg h i _ _ _ _ _ m
def TK{n:List Int}(h:∀ x∈n,-1<=x/\x<=999999)(k):n.getD k 0<=999999:=by
 rw[ja6]
 cases a:n[k]? with
 | none=>simp
 | some x=>exact(h x (jbL a)).2
def Xp{y q}(h:COk y q)(d:q<=100)(l):COk (dG y l).2 (q+1):=by
 unfold dG;split
 .exact⟨h.1.imp λC c=>c.more (by omega),h.2⟩
 .next w n a =>
  refine YD h d w _ _ _ _ (TK (λx f=>?_) 1);unfold lM at a;split at a
  .cases b:(aG l).tail.mapM dK with
   | none=>simp_all
   | some r=>rw[b] at a;cases a;exact CJ b x f
  .cases a
def uH{t e z b}(I:qN t e z b){l y o a Q}(A:o.guard=O)(s x)
  (L:o.op=.call {callee:=.builtin .append,args := #[s,x],argTypes := #[t,t]}) (B) (w:ω) (v) (n) (d) (u) (N:a.eval s=v) (P:a.eval x=.slice (S ⟨w,0,O⟩) 1 1)
  (j:w.ownsRow B e 1 v n d) (R:u.oneCell'=true) (V:n<1000000) (f:B<=w)
  (k:∀ g cap w',w'.ownsRow B e 1 (.slice (S ⟨g,0,O⟩) (n+1) cap) (n+1) (d++[u])->β B w w'->(∀ i,i<w.heap.size->v.ownBlock≠S i->w'.heap[i]?=w.heap[i]?)->(v.ownBlock=S g\/w<=g)->wpList prog l Q y (a.put o.dst (.slice (S ⟨g,0,O⟩) (n+1) cap)) w') :
  wpList prog l Q (o::y) a (w.alloc (.cells #[u] e)):=by
 obtain⟨F,c,M,G⟩:=I;obtain⟨i,c,E,J,K⟩:=info_parts c;refine wpList_append_lies _ A s x t L B e i z 1 b F c E J K M (by decide) v n d N (j.alloc _) _ 1 1 [u] P rfl (cell_one_new _ _ _) (λT U=>by simp_all) (by decide) (by unfold maxLen;omega) (ja4 (Nat.mul_le_mul_left _ G) (by omega)) (ja4 f (by simp)) (w.heap.size+1) (by simp) ?_;intro g cap w' D m H _;refine k g cap w' D (((ja0 _ _).alloc f _).grown m (ja4 f (by simp)) λr e=>(j.lt r e).1) (λi c C=>?_) (H.imp id λe=>by omega);rw[m.block i (by simp;omega) (λq=>C q.symm),((ja0 _ _).alloc (ja1 _) _).block i c]
structure Keeps(wr:ω)(B:Nat)(a:Option Addr)(cp:Nat)(vs:List υ)(ks:List (List Bool)):Prop where
 own:wr.ownsRow B 34 1 (.slice a vs.length cp) vs.length vs
 len:vs.length=ks.length
 at_:∀ i,i<ks.length->∃(a2:Option Addr) (l c:Nat),vs[i]?=S (.slice a2 l c)/\Bools wr a2 l (ks.getD i [])/\l<=maxLen/\∀ g o,a2=S ⟨g,o,O⟩->g<wr.heap.size/\(Value.slice a vs.length cp).ownBlock≠S g
theorem Keeps.below{wr w' B k a f d}(h:Keeps wr B a k f d)(b:β wr wr w'):Keeps w' B a k f d :=
 ⟨own_below h.own b,h.len,λi q=>by
  obtain⟨r,l,c,s,m,n,j⟩:=h.at_ i q
  exact⟨r,l,c,s,m.below b,n,λg o e=>⟨ja8 (j g o e).1 b.size,(j g o e).2⟩⟩⟩
def Bools.keep{w w' a l d}(h:Bools w a l d)(f:∀ g o,a=S ⟨g,o,O⟩->w'.heap[g]?=w.heap[g]?):Bools w' a l d:=by
 refine⟨h.1,λj i=>?_⟩;obtain⟨b,c,e,k⟩:=h.2 j i;refine⟨b,c,e,?_⟩;rw[jab (f b c e)];exact k
def Keeps.snoc{d r:ω}{B n g3 v l c:Nat}{a j:Option Addr}{b:List υ}{s k}(h:Keeps d B a n b s)(G:Bools d j l k)(A:l<=maxLen)
  (f:∀ g o,j=S ⟨g,o,O⟩->g<d/\(Value.slice a b.length n).ownBlock≠S g) (z:r.ownsRow B 34 1 (.slice (S ⟨g3,0,O⟩) (b.length+1) v) (b.length+1) (b++[.slice j l c]))
  (u:∀ i,i<d.heap.size->(Value.slice a b.length n).ownBlock≠S i->r.heap[i]?=d.heap[i]?) (E:(Value.slice a b.length n).ownBlock=S g3\/d.heap.size<=g3) (x:d.heap.size<=r) :
  Keeps r B (S ⟨g3,0,O⟩) v (b++[.slice j l c]) (s++[k]):=by
 have w:∀ g,g<d.heap.size->(Value.slice a b.length n).ownBlock≠S g->g≠g3:=λg y t e=>by
  subst e;rcases E with q|q
  .exact t q
  .omega
 refine⟨by simpa using z,by simp[h.len],λi F=>?_⟩;rw[jah,List.length_singleton] at F;by_cases e:i<s.length
 .obtain⟨C,H,c2,y,t,D,m⟩:=h.at_ i e;refine⟨C,H,c2,?_,?_,D,λg o q=>⟨ja8 (m g o q).1 x,?_⟩⟩
  .rw[jaD (by rw[h.len];exact e)];exact y
  .rw[ja6,jaD e,<- ja6];exact t.keep λg o q=>u g (m g o q).1 (m g o q).2
  .intro q2;injection q2 with q2;exact w g (m g o q).1 (m g o q).2 q2.symm
 .have I:i=s.length:=by omega
  subst I;refine⟨j,l,c,?_,?_,A,λg o q=>⟨ja8 (f g o q).1 x,?_⟩⟩
  .rw[<- h.len,jaJ (ja1 _)];simp
  .rw[ja6,jaJ (ja1 _)];simp;exact G.keep λg o q=>u g (f g o q).1 (f g o q).2
  .intro q2;injection q2 with q2;exact w g (f g o q).1 (f g o q).2 q2.symm
def Keeps.Ht{wr B o a f b}(h:Keeps wr B a o f b):pG wr a f.length b:=by
 refine⟨h.len.symm,λi d=>?_⟩;obtain⟨n,l,c,q,j,k,_⟩:=h.at_ i (by rw[<- h.len];exact d);obtain⟨g,c3,m,r,_,_⟩:=kE h.own i d;injection m with e1 e2 e3;exact⟨g,0,n,l,c,e1,by simp_all,j,k⟩
def Hr{y n k}(a:k<5):(aY y n).take (k+1)=(aY y n).take k++[List.replicate (y.dev k).pend.length (n==1)]:=by
 rw[jaC];congr 1;simp[aY,jaz,List.getElem?_range a]
def UO{w B n c a b}(h:w.ownsRow B 4 1 (.slice a n c) n (List.replicate n (.bool b))):Bools w a n (List.replicate n b):=by
 refine⟨by simp,λj d=>?_⟩;obtain⟨g,c2,f,i,_,_⟩:=kE h j d;injection f with e1;refine⟨g,0,e1,?_⟩;simp_all
def Xn{r C m Z y}(l x w)(h:au w r Z y)(hY:YOk y C m)(hm:m<=400000)(hl:l.length<=200)(hw:aG l=[[99,114,97,115,104],x]) :
  κ prog 22 #[r,.string (bytesOf l)] w λe w'=>lV w r Z y (dG y l).1 (dG y l).2 e w':=by
 have HW:=ah (Ee l w (by omega));rw[hw] at HW;obtain⟨S,hS,bw⟩:∃ S,χ (S=bytesOf l)/\S.size=l.length:=⟨_,rfl,rfl⟩;rw[<- hS.out] at HW |-;have HM:=ah λW=>CG [99,114,97,115,104] W
 have HF:=ah (λW:ω=>qy 11 W (by omega) (by omega));have HZ:=ah (λW (d:β w w W)=>lV.of (t:=iL 11) (bY.of_below h d));have HG:=ah (λ(W:ω)=>Gt x W)
 have ab:dG y l=match dK x with
   | none=>(iL 11,y)
   | some n=>(fO (y.iR (aY y n)),if y.iR (aY y n)=0 then y.crash (aY y n) else y):=by
  unfold dG lM;rw[hw,if_pos ⟨hl,rfl⟩];show(match ((([x]:List (List UInt8)).mapM dK).map λn=>(([99,114,97,115,104]:List UInt8),n)) with|none=>_|some (w,n)=>_)=_
  rw[List.mapM_cons];cases dK x<;>rfl
 have b3:χ (∀(k:Nat) (W:ω),k<5->β w w W->W.cell? ⟨r,k,O⟩=some (Z.dp y.s k:υ)/\∃(b:Option Addr) (c:Nat),W.cell? ⟨Z.dp y.s k,1,O⟩=some (.slice b (y.dev k).pend.length c)):=λk W G d=>by
  obtain⟨Y,d2,_⟩:=(h.below d).lJ G;refine⟨(h.below d).blk.cells.1 k G,?_⟩
  have T:∃(b:Option Addr) (c:Nat),(Z.hd y.s k).v1=.slice b (y.dev k).pend.length c:=by
   rcases Y.o1.2 with⟨A,e2⟩|⟨g,c,bO,A,_⟩
   .rw[e2];exact⟨O,0,A⟩
   .exact⟨_,_,A⟩
  obtain⟨b,c,T⟩:=T;refine⟨b,c,?_⟩;rw[<- d2,cell_of_row _ _ _ _ _ _ Y.blk,<- T];rfl
 have b6:χ (∀ k,k<5->(y.dev k).pend.length<=400000):=λk G=>by
  have h1:=(hY.dev k).ok.few;have h2:=(hY.dev k).wr;omega
 have ae:χ (∀(n:Int) (a:Option Addr) (F B:Nat) (z:List υ) (W:ω),dK x=some n->β w w W->Keeps W B a F z (aY y n)->κ prog 13 #[r,.slice a z.length F] W λe w'=>∃(po:Option Addr) (f:Int),e=.returned (.tuple #[.pointer po,f])/\β w w w'/\(f=0->lV w r Z y (dG y l).1 (dG y l).2 (.returned (.tuple #[.string (bytesOf [111,107]),.pointer po])) w')/\(0<f->f<=12/\∀ W':ω,β w' w' W'->lV w r Z y (dG y l).1 (dG y l).2 (.returned (.tuple #[.string (bytesOf (iL f)),r])) W')/\(f=0\/0<f)):=λn a F B z W M d G=>by
  refine(kag W (h.below d) hY G.Ht).mono ?_;rintro e w' ⟨R,hO⟩;have H:=d.trans (R.mono d.size);have af:Few (y.iR (aY y n)):=Gf _ _;unfold Few at af;rcases hO with⟨aM,rfl⟩|⟨J,zq,Zq,rfl,hZ,hf,ag,ai⟩
  .refine⟨O,y.iR (aY y n),rfl,H,λe=>absurd e aM,λhp=>⟨af.2,λW' ba=>?_⟩,?_⟩
   .have hs:dG y l=(iL (y.iR (aY y n)),y):=by
     rw[ab,M];show(fO _,if _ then _ else _)=_
     rw[if_neg (by omega)];unfold fO;rw[if_pos hp]
    rw[hs];exact lV.of (bY.of_below h (H.trans (ba.mono H.size)))
   .show y.iR (aY y n)=0\/0<y.iR (aY y n)
    omega
  .refine⟨some ⟨zq,0,O⟩,0,rfl,H,λ_=>?_,λq=>by omega,.inl rfl⟩
   have hs:dG y l=([111,107],y.crash (aY y n)):=by
    rw[ab,M];show(fO (y.iR (aY y n)),if y.iR (aY y n)=0 then _ else _)=_
    have bt:y.iR (aY y n)=0:=J;rw[bt,if_pos rfl];rfl
   rw[hs];refine⟨zq,Zq,rfl,hZ,⟨(Moved.of_below (S:=fpZ r Z y) H).kept,λk b0=>.inr (ja4 d.size (hf k b0))⟩,.inr λg o e=>⟨ja4 d.size (ag g o e).1,(ag g o e).2⟩,.inr λg o e=>⟨ja4 d.size (ai g o e).1,(ai g o e).2⟩⟩
 have aR:=ah (λ(n:Int) (k:Nat) (G:k<5)=>Hr (y:=y) (n:=n) G);have bk:χ (∀ n:Int,(aY y n).take 5=aY y n):=λn=>jaf (by simp[aY])
 have a4:χ (dK x=O->∀ W:ω,β w w W->lV w r Z y (dG y l).1 (dG y l).2 (.returned (.tuple #[.string (bytesOf (iL 11)),r])) W):=λM W d=>by
  rw[ab,M];exact HZ.out W d
 have bE:=ah (λ(f:Int) (W:ω) (J:0<f) (h1:f<=12)=>qy f W (by omega) (by omega));have g2:¬200<(l.length:Int):=by omega
 have g3:((bytesOf [99,114,97,115,104]).toList==[99,114,97,115,104])=true:=by rw[dV];rfl
 generalize (dG y l).1=T1 at ae a4 |-;generalize (dG y l).2=Y2 at ae a4 |-;generalize bm:bytesOf [99,114,97,115,104]=X at HM g3;have av:=ah bm;generalize bytesOf (iL 11)=EE at HF a4;generalize bR:l.length=len at bw g2 hl;go_enter func22,ntmps22;go_wp2_with fail;refine HW.out.mono ?_;rintro e I ⟨g,cap,rfl,hc,bL⟩;have c0:I.cell? ⟨g,0,O⟩=some (X:υ):=by rw[<- av.out];exact hc I (ja0 _ _) 0 _ rfl
 have ap:χ (∀ W:ω,β I I W->W.cell? ⟨g,0,O⟩=some (X:υ)/\W.cell? ⟨g,1,O⟩=some (.string (bytesOf x))):=λW d=>⟨by rw[<- av.out];exact hc W d 0 _ rfl,hc W d 1 _ rfl⟩
 have a3:=ah bL;go_wp2_with fail;refine cSt (HM.out _) ?_;go_wp2;go_loopw [7,8,9,10] (λu i _ _ wr=>(i=.int .i64 1/\u=.slice O 0 0/\wr=I)\/(∃(n:Int) (g2 F:Nat),i=.int .i64 2/\u=.slice (some ⟨g2,0,O⟩) 1 F/\dK x=some n/\wr.cell? ⟨g2,0,O⟩=some (n:υ)/\g2<wr.heap.size/\β I I wr)) (λ_ i _ _ _=>2-(intOf i).toNat)
 case atStart=>exact .inl ⟨rfl,rfl,rfl⟩
 case round =>
  rcases hrel with⟨rfl,rfl,rfl⟩|⟨n,g2,F,rfl,rfl,M,cn,az,d⟩
  .obtain⟨_,cx⟩:=ap.out wr (ja0 _ _);have K:=ah (HG.out wr)
   cases a0:dK x with
   | none =>
    rw[a0] at K;have b1:=ah (a4.out a0);generalize bytesOf x=XX at cx K;go_wp2_with fail;refine K.out.mono ?_;rintro e w2 ⟨v,rfl,_,R⟩;have a1:χ (β w w w2):=a3.out.trans (R.mono a3.out.size);go_wp2_with fail;refine cBl (HF.out _) a1.out λW aa=>?_
    go_wp2;go_ret2;exact b1.out _ aa.out
   | some q =>
    rw[a0] at K;have bb:=ah a0;generalize bytesOf x=XX at cx K;go_wp2_with fail;refine K.out.mono ?_;rintro e w2 ⟨v,rfl,T,R⟩;obtain rfl:=T q rfl;have a1:=ah R;go_wp2_with (at_builtin;refine app1 Aj (by rfl) _ _ (by rfl) wr.heap.size w2 _ _ [] _ (by rfl) (by rfl) (jaa _ _ _ _) rfl (by omega) a1.out.size λg3 N Q U L=>?_)
    have b4:Q.cell? ⟨g3,0,O⟩=some (v:υ)/\g3<Q.heap.size:=by
     obtain⟨g4,c4,b2,b5,bq,_⟩:=kE U 0 (by omega);injection b2 with A;injection A with A;injection A with A;subst A;exact⟨b5,bq⟩
    have aD:=ah b4;have aa:=ah (a1.out.trans (L.mono (ja1 _)));go_wp2;go_roundw
    case rel=>exact .inr ⟨v,g3,N,rfl,rfl,by first|exact bb.out|rfl,aD.out.1,aD.out.2,aa.out⟩
    case measure=>simp[intOf]
  .obtain⟨c1,_⟩:=ap.out wr d;have HN:=ah M;have ao:=ah cn;have a5:=ah (a3.out.trans (d.mono a3.out.size));go_wp2;have a8:=ah a5.out.size;obtain⟨D,bl⟩:∃ D,wr=D:=⟨_,rfl⟩;rw[bl] at cn c1 az ao a5 a8 |-;go_loopw [11,12,13,14] (λu i _ _ ws=>∃(k:Nat) (a:Option Addr) (F:Nat) (z:List υ),k<=5/\i=.int .i64 (k:Int)/\u=.slice a k F/\z.length=k/\Keeps ws D.heap.size a F z ((aY y n).take k)/\β D D ws) (λ_ i _ _ _=>5-(intOf i).toNat)
   case atStart=>exact⟨0,O,0,[],by omega,rfl,rfl,rfl,⟨jaa _ _ _ _,rfl,λi hi=>by cases hi⟩,ja0 _ _⟩
   case round =>
    obtain⟨k,a,ax,z,G,rfl,rfl,ar,V,d⟩:=hrel;obtain⟨E,bB⟩:∃ E,wr=E:=⟨_,rfl⟩;rw[bB] at V d |-;by_cases a7:k<5
    .have H  := a5.out.trans (d.mono a8.out);have k0:(k:Int)<5:=by omega
     have k1:(0:Int)<=(k:Int):=by omega
     have a6:χ (∀ W:ω,β E E W->W.cell? ⟨r,k,O⟩=some (Z.dp y.s k:υ)/\(∃(b:Option Addr) (c:Nat),W.cell? ⟨Z.dp y.s k,1,O⟩=some (.slice b (y.dev k).pend.length c))/\W.cell? ⟨g2,0,O⟩=some (n:υ)):=λW an=>by
      have bu:=H.trans (an.mono H.size);obtain⟨Y,d2⟩:=b3.out k W a7 bu;refine⟨Y,d2,?_⟩;have h5:=d.trans (an.mono d.size);rw[h5.cell (p:=⟨g2,0,O⟩) az];exact ao.out
     have hP:=b6.out k a7;have al:=ah (aR.out n k a7);have aL:=ah V;have ad:=ah d;generalize (y.dev k).pend.length=P at a6 hP al;generalize Z.dp y.s k=dp at a6;go_wp2;go_loopw [13,14] (λv j wt=>∃(q:Nat) (a2:Option Addr) (c2:Nat),q<=P/\j=.int .i64 (q:Int)/\v=.slice a2 q c2/\wt.ownsRow E.heap.size 4 1 (.slice a2 q c2) q (List.replicate q (.bool (n==1)))/\β E E wt) (λ_ j _=>P-(intOf j).toNat)
     case atStart=>exact⟨0,O,0,by omega,rfl,rfl,jaa _ _ _ _,ja0 _ _⟩
     case round =>
      obtain⟨q,a2,c2,hq,rfl,rfl,ho,d⟩:=hrel;obtain⟨A,⟨b,c,e2⟩,e3⟩:=a6.out wr d;by_cases bN:q<P
      .have q0:(q:Int)<(P:Int):=by omega
       have HO:=ah ho;have ac:=ah d;have a9:=ah d.size;go_wp2_with (at_builtin;refine app1 Eu (by rfl) _ _ (by rfl) E.heap.size wr _ _ _ _ (by rfl) (by rfl) HO.out rfl (by omega) a9.out λg3 N Q U L=>?_)
       have bv:=ah U;have br:=ah (ac.out.trans (L.mono (ja1 _)));go_wp2;go_roundw
       case rel=>exact⟨q+1,some ⟨g3,0,O⟩,N,by omega,by go_num,rfl,by rw[jbj];exact bv.out,br.out⟩
       case measure=>simp[intOf];try omega
      .have bc:q=P:=by omega
       subst bc;have q0:¬(q:Int)<(q:Int):=by omega
       have HO:=ah ho;have ac:=ah d;have a9:=ah d.size;have aw:=ah (aL.out.below d);subst ar;have bd  := UO HO.out
       have bA:∀ g o,a2=some ⟨g,o,O⟩->g<wr.heap.size/\(Value.slice a z.length ax).ownBlock≠some g:=λg o e=>by
        have h1:=HO.out.lt g (by rw[e];rfl);refine⟨h1.2,λe2=>?_⟩;have h2:=(aL.out.own.lt g e2).2;omega
       have bi:=ah bd;have b9:=ah bA;have b7:χ (D.heap.size<=wr):=ja4 ad.out.size a9.out;go_wp2_with (at_builtin;refine uH Et (by rfl) _ _ (by rfl) D.heap.size wr _ _ _ _ (by rfl) (by rfl) aw.out.own rfl (by omega) b7.out λg3 N Q U L bp bj=>?_)
       have aE:=aw.out.snoc bi.out (by unfold maxLen;omega) b9.out U bp bj L.size;rw[<- al.out] at aE;have bh:=ah aE;have bo:χ (β D D Q):=(ad.out.trans (ac.out.mono ad.out.size)).trans (L.mono (ja1 _));go_wp2;go_roundw
       case rel=>exact⟨z.length+1,some ⟨g3,0,O⟩,N,_,by omega,by go_num,rfl,by simp,bh.out,bo.out⟩
       case measure=>simp[intOf];try omega
    .have be:k=5:=by omega
     subst be;have k0:¬((5:Nat):Int)<5:=by omega
     rw[bk.out n] at V;have hC:=ae.out n a ax D.heap.size z E HN.out (a5.out.trans (d.mono a8.out)) V;rw[ar] at hC;have HC:=ah hC;go_wp2_with fail;refine HC.out.mono ?_;rintro e w5 ⟨po,f,rfl,bS,hz,hp,b8⟩;rcases b8 with J|J
     .subst J;have bn:=ah (hz rfl);go_wp2;go_ret2;exact bn.out
     .obtain⟨bf,bs⟩:=hp J;have aq:=ah bs;have am:=ah (bE.out f w5 J bf);generalize bytesOf (iL f)=ET at am aq;go_wp2_with fail;refine cHd am.out λW HB=>?_
      go_wp2;go_ret2;exact aq.out _ HB.out
def Xl{g q Z y}(l w)(h:au w g Z y)(o:COk y q)(s:q<=100)(j:l.length<=1000) :
  κ prog 22 #[g,.string (bytesOf l)] w λe w'=>lV w g Z y (dG y l).1 (dG y l).2 e w':=by
 obtain⟨⟨C,i⟩,n⟩:=o;by_cases d:l.length<=200/\jD ((aG l).headD [])=((aG l).length:Int)-1
 .by_cases f:(aG l).headD []=[99,114,97,115,104]
  .have m:jD [99,114,97,115,104]=1:=rfl;rw[f,m] at d
   match hw:aG l with
   | []=>simp_all
   | [a]=>simp_all
   | [a,x] =>
    rw[hw] at f;subst f;exact Xn l x w h i (by omega) d.1 hw
   | a::b::c::r=>rw[hw] at d;simp at d;omega
  .exact Xo l w h i (by omega) (n.stat i) d.1 d.2 f
 .have k:dG y l=(iL 11,y):=by
   unfold dG lM;rw[if_neg d]
  rw[k];exact Xm l w h j d
