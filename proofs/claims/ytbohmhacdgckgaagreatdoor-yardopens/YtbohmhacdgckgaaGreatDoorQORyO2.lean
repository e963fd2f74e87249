/- The document's yard: an image is made in a file (J3): what the files are then. -/
import Derived.Test.YtbohmhacdgckgaaGreatDoorQORyP8
set_option linter.all false
set_option maxHeartbeats 4000000
set_option maxRecDepth 100000
namespace Go.Proofs.YtbohmhacdgckgaaGreatDoor
open Go.RowKit renaming Below->β
open Go renaming World->ω, Value->υ, Calls->κ
open Option renaming none->O, some->S
open Go.Proofs.Tryz Go.RowKit Go.Maps
attribute [local go_sem ↓] Go.wp_at_zero Go.wp_at_succ
def kG(a:Nat->Rh)(k:Nat)(h:Rh):Nat->Rh:=λi=>if i=k then h else a i
def Zh.hd(Z:Zh)(s:SV)(i:Nat):Rh:=match s i with
 | none=>Z.ds i
 | some _=>(Z.qs i).d
def aC.kP{w:ω}{c i:Nat}{Z:Zh}{y:YV}(h:aC w c Z y)(b:i<5):bZ Gd.no w (Z.hd y.s i) (y.dev i)/\(Z.hd y.s i).p=Z.dp y.s i/\∀ k,(Z.hd y.s i).fp k->Z.fpF y.s i k:=by
 unfold Zh.hd YV.dev Zh.dp Zh.fpF
 cases a:y.s i with
 | none=>exact⟨h.dev i b a,rfl,λk e=>e⟩
 | some v=>exact⟨(h.img i v b a).dev,rfl,λk e=>.inr (.inr (.inr e))⟩
def Ig{w:ω}{sp i:Nat}{qs qs':Nat->Qh}{s s':SV}(h:w.heap[sp]?=S (.cells #[bU (qs 0) (s 0),bU (qs 1) (s 1),bU (qs 2) (s 2),bU (qs 3) (s 3),bU (qs 4) (s 4)] 87 (0,0)))(a:i<5)(b:∀ j,j≠i->bU (qs' j) (s' j)=bU (qs j) (s j)) :
  (w.setCell ⟨sp,i,O⟩ (bU (qs' i) (s' i))).heap[sp]?=S (.cells #[bU (qs' 0) (s' 0),bU (qs' 1) (s' 1),bU (qs' 2) (s' 2),bU (qs' 3) (s' 3),bU (qs' 4) (s' 4)] 87 (0,0)):=by
 rw[heap_setCell_same w sp i _ _ _ h]
 match i,a with
 | 0,_=>simp_all
 | 1,_=>simp_all
 | 2,_=>simp_all
 | 3,_=>simp_all
 | 4,_=>simp_all
def aC.made{w a:ω}{f i:Nat}{Z:Zh}{y:YV}(h:aC w f Z y)(g:i<5){x:Qh}{v:IV}(l:Moved (Z.hd y.s i).fp w x.fp a)(E:aS Gd.no a x v)(C:x.d.p=(Z.hd y.s i).p) :
  aC (a.setCell ⟨Z.sp,i,O⟩ x.p) f {Z with qs:=iY Z.qs i x} {y with s:=y.s.upd i v}/\Moved (fpZ f Z y) w (fpZ f {Z with qs:=iY Z.qs i x} {y with s:=y.s.upd i v}) (a.setCell ⟨Z.sp,i,O⟩ x.p):=by
 obtain⟨G,A,B⟩:=h.kP g;have c:y.s.upd i v i=some v:=by unfold SV.upd;rw[if_pos rfl]
 have r:iY Z.qs i x i=x:=by unfold iY;rw[if_pos rfl]
 have t:Moved _ w (({Z with qs:=iY Z.qs i x}:Zh).fpF _ i) a:=⟨l.kept.mono λk _ e=>B k e,λk e=>by
  rw[Zh.dX c] at e;rcases l.new k (by simp_all) with n|n
  .simp_all
  .exact .inr n⟩
 have D:=h.oN.1 i g
 have z:∀ b,x.fp b->b≠Z.sp:=λb e n=>by
  rcases l.new b e with F|F
  .simp_all
  .have:=lt_of_some h.shf;omega
 have q:=Ig (qs':=iY Z.qs i x) (s':=y.s.upd i v) ((t.block (lt_of_some h.shf) D).trans h.shf) g λj m=>by unfold iY SV.upd;simp_all
 rw[c,r] at q;refine h.pF   g t (Kept.setCell (S:=λk=>k=Z.sp)  (Kept.refl _ a) (.inl rfl) _) q ?_ (λu o=>?_) (λo=>?_) (λj m=>⟨by show SV.upd _ _ _ _=_;unfold SV.upd;rw[if_neg m],rfl,by show iY Z.qs i x j=_;unfold iY;rw[if_neg m],rfl⟩) ⟨rfl,rfl,rfl,rfl,rfl⟩ ⟨rfl,rfl,rfl,rfl⟩
 .rw[Zh.kY c,<- A,<- C];simp_all
 .cases (c.symm.trans o)
  rw[show({Z with qs:=iY Z.qs i x}:Zh).qs i=x from r]
  exact E.jm λb e=>heap_setCell_other _ _ _ _ (z b e)
 .simp_all
def aC.yY{w a:ω}{f i:Nat}{Z:Zh}{y:YV}(h:aC w f Z y)(g:i<5){d:Rh}{D:DV}(m:Moved (Z.hd y.s i).fp w d.fp a)(hd:bZ Gd.no a d D)(x:d.p=(Z.hd y.s i).p) :
  aC (a.setCell ⟨Z.sp,i,O⟩ (.pointer O)) f {Z with ds:=kG Z.ds i d} {y with s:=y.s.gone i,dv:=λk=>if k=i then D else y.dv k}/\Moved (fpZ f Z y) w (fpZ f {Z with ds:=kG Z.ds i d} {y with s:=y.s.gone i,dv:=λk=>if k=i then D else y.dv k}) (a.setCell ⟨Z.sp,i,O⟩ (.pointer O)):=by
 obtain⟨E,t,v⟩:=h.kP g;have l:y.s.gone i i=none:=by unfold SV.gone;simp_all
 have C:kG Z.ds i d i=d:=by unfold kG;simp_all
 have o:Moved _ w (({Z with ds:=kG Z.ds i d}:Zh).fpF _ i) a:=⟨m.kept.mono λk _ e=>v k e,λk e=>by
  rw[Zh.dH l] at e;rcases m.new k (by simp_all) with q|q
  .simp_all
  omega⟩
 have A:=h.oN.1 i g
 have r:∀ b,d.fp b->b≠Z.sp:=λb e q=>by
  rcases m.new b e with B|B
  .simp_all
  .have:=lt_of_some h.shf;omega
 have n:=Ig  (s':=y.s.gone i) ((o.block (lt_of_some h.shf) A).trans h.shf) g λj c=>by unfold SV.gone;rw[if_neg c]
 rw[l] at n;refine h.pF   g o (Kept.setCell (S:=λk=>k=Z.sp)  (Kept.refl _ a) (.inl rfl) _) n ?_ (λu z=>?_) (λz=>?_) (λj c=>⟨by show SV.gone _ _ _=_;unfold SV.gone;rw[if_neg c],if_neg c,rfl,by show kG Z.ds i d j=_;unfold kG;rw[if_neg c]⟩) ⟨rfl,rfl,rfl,rfl,rfl⟩ ⟨rfl,rfl,rfl,rfl⟩
 .rw[Zh.dp_none l,<- t,<- x];simp_all
 .simp_all
 .rw[show({Z with ds:=kG Z.ds i d}:Zh).ds i=d from C]
  show bZ _ _ d (if i=i then D else y.dv i)
  rw[if_pos rfl];exact hd.keep λb e=>heap_setCell_other _ _ _ _ (r b e)
def bz(a b c:Int):Obj:=.cells #[a,b,c] 67 (0,0)
def zG{W:ω}{N:Nat}{a b c:Int}(h:W.heap[N]?=S (bz a b c)):W.cell? ⟨N,0,O⟩=S (a:υ)/\W.cell? ⟨N,1,O⟩=S (b:υ)/\W.cell? ⟨N,2,O⟩=S (c:υ):=by
 refine⟨?_,?_,?_⟩<;>(rw[cell_of_row _ _ _ _ _ _ h];rfl)
def aC.creates{w W:ω}{g i N m C:Nat}{Z:Zh}{y:YV}{back R:Int}(h:aC w g Z y)(B:YOk y C m)(f:i<5)(hm:m+20<1000000000)(L:y.used (i:Int)≠true)(hR:R=nO (y.dev i).fl.length (C:Int))(q:β w w W)(hN:w.heap.size<=N)(u:W.heap[N]?=some (bz (C:Int) R back)) :
  κ prog 37 #[Z.dp y.s i,.agg #[(C:Int),R,back]] W λe a=>∃ G:Option Addr,e=.returned (.tuple #[.pointer G,y.eX (i:Int) back]) /\
   (a.cell? ⟨g,i,none⟩=some (Z.dp y.s i:υ)/\a.cell? ⟨N,0,none⟩=some (.int .i64 (C:Int))/\a.cell? ⟨N,1,none⟩=some (R:υ)/\a.cell? ⟨N,2,none⟩=some (back:υ))/\a.cell? ⟨g,6,none⟩=some (Z.sp:υ)/\(∃ v,a.cell? ⟨Z.sp,i,none⟩=some v)/\a.frozen? ⟨Z.sp,i,none⟩=false /\
   aF g Z y (y.blank (i:Int) back) w (a.setCell ⟨Z.sp,i,none⟩ (.pointer G)):=by
 have b:=h.below q;obtain⟨X,n,o⟩:=b.kP f;have T:¬(Z.hd y.s i).fp N:=λe=>by have:=h.fF (.inr (.inr (.inl ⟨i,f,o N e⟩)));omega
 have F  := λe=>b.kH.2.1 i f (o g e)
 have J  := λe=>b.oN.1 i f (o _ e)
 have M:y.head (i:Int) back=⟨(C:Int),R,back⟩:=by
  unfold YV.head;rw[B.ch.gZ,show((i:Int)).toNat=i by omega,hR]
 have K:((i:Int)).toNat=i:=by omega
 have hF:y.eX (i:Int) back=crF (y.dev i) ⟨(C:Int),R,back⟩:=by
  unfold YV.eX;rw[if_pos ⟨by omega,by omega⟩,if_neg L,M,K]
 have U:y.blank (i:Int) back=if crF (y.dev i) ⟨(C:Int),R,back⟩=0 then {y with s:=y.s.upd i (crV (y.dev i) ⟨(C:Int),R,back⟩)} else {y with s:=y.s.gone i,dv:=λk=>if k=i then iQ (y.dev i) ⟨(C:Int),R,back⟩ else y.dv k}:=by
  unfold YV.blank;rw[if_pos ⟨by omega,by omega⟩,if_neg L,M,K]
 have I:∀ a:ω,a.heap[g]?=W.heap[g]?->a.heap[N]?=W.heap[N]?->a.heap[Z.sp]?=W.heap[Z.sp]? ->
   (a.cell? _=some _/\a.cell? _=some _/\a.cell? _=some _/\a.cell? _=some _)/\a.cell? _=some _/\(∃ v,a.cell? _=some v)/\a.frozen? _=false:=λa P e2 Q=>by
  obtain⟨Y,_,c6,_⟩:=b.blk.cells;exact⟨⟨(jad  P).trans (Y i f),zG (e2.trans u)⟩,(jad  P).trans c6,⟨_,(jad  Q).trans ((b.shelf B.s).cell f)⟩,(jaH  Q).trans (frozen_of_row W Z.sp i _ _ b.shf)⟩
 rw[<- n,hF];refine(DY (C:Int) R back W X.nG (B.dev i) hm (ja1 _)).mono ?_;rintro e a ⟨x,O,_,V,z|z⟩
 .obtain⟨j,rfl,H⟩:=z
  have c  := nH V (λ_ e=>e.1) H.out
  obtain⟨r,A⟩:=b.made f c (H.re λ_ _ e=>e) O
  obtain⟨l,D,t,E⟩:=I a (c.block b.blk.lt F) (c.block (lt_of_some u) T) (c.block (lt_of_some b.shf) J);rw[n];refine⟨some _,by rw[j],l,D,t,E,?_⟩
  rw[U,if_pos j];exact⟨{Z with qs:=iY Z.qs i x},⟨rfl,rfl,rfl,rfl,rfl⟩,r,(Moved.of_below q).trans A⟩
 .obtain⟨j,rfl,S⟩:=z
  have c  := nH V (λ_ e=>e.1) S.out
  obtain⟨r,A⟩:=b.yY f c S.noG O;obtain⟨l,D,t,E⟩:=I a (c.block b.blk.lt F) (c.block (lt_of_some u) T) (c.block (lt_of_some b.shf) J);rw[n];refine⟨none,rfl,l,D,t,E,?_⟩;rw[U,if_neg j];exact⟨{Z with ds:=kG Z.ds i x.d},⟨rfl,rfl,rfl,rfl,rfl⟩,r,(Moved.of_below q).trans A⟩
def qQ(y:YV)(f:Int)(k:Nat):Bool:=y.busy&&(y.kd.file==f)||(y.l.take k).contains f
def Vg(y:YV)(f:Int):qQ y f 0=(y.busy&&(y.kd.file==f)):=by unfold qQ;simp
def Vf{y:YV}{f:Int}{k:Nat}(a:k<y.l.length):qQ y f (k+1)=(qQ y f k||(y.l.getD k 0==f)):=by
 unfold qQ;rw[jay a,List.contains_append,Bool.or_assoc]
 congr 2
 rw[ja6,ja8 a];simp only[List.contains_cons,List.contains_nil,jbh,Option.getD_some];exact BEq.comm
def Ve(y:YV)(f:Int):qQ y f y.l.length=y.used f:=by
 unfold qQ YV.used;rw[jaR];rfl
def Jw{a C m:Nat}{Z:Zh}{y:YV}(f back:Int)(w:ω)(h:aC w a Z y)(t:YOk y C m)(hC:C<=40)(hm:m+20<1000000000) :
  κ prog 48 #[a,f,back] w λe w'=>e=.returned (y.eX f back)/\aF a Z y (y.blank f back) w w':=by
 have J:Hid (aF a Z y y w w):=aF.refl h;by_cases G:0<=f/\f<5
 .obtain⟨i,rfl⟩:∃ i:Nat,f=(i:Int):=⟨f.toNat,by omega⟩
  have D:i<5:=by omega
  have Y:=ah (qW w h);obtain⟨c0,_,c6,c7,_,c9,_,_,V,_,_⟩:=h.blk.cells
  obtain⟨g,o,a3⟩:∃ g o,Z.la=some ⟨g,o,none⟩:=by
   obtain⟨g,o,e,_⟩:=h.list.1 0 (List.length_pos_iff.2 t.ch.ne);exact⟨g,o,e⟩
  have ad:Hid (∀ k,k<y.l.length->w.cell? ⟨g,o+k,none⟩=some (.int .i64 (y.l.getD k 0))):=λk P=>by
   obtain⟨g',o',j,K⟩:=h.list.1 k P;rw[a3] at j;cases j
   exact K
  rw[a3] at V;have g0:decide ((i:Int)<0)=false:=decide_eq_false (by omega)
  have g5:decide (5<=(i:Int))=false:=decide_eq_false (by omega)
  have ai:=t.ch.len;obtain⟨U,Q⟩:∃ U:Nat->Bool,U=qQ y (i:Int):=⟨_,rfl⟩;have S:U 0=(y.busy&&(y.kd.file==(i:Int))):=by rw[Q];exact Vg y _
  have a2:Hid (∀ k,k<y.l.length->U (k+1)=(U k||(y.l.getD k 0==(i:Int)))):=λk P=>by rw[Q];exact Vf P
  have aa:Hid (U y.l.length=y.used (i:Int)):=by unfold Hid;rw[Q];exact Ve y _
  have x:Hid (y.used (i:Int)=true->y.eX (i:Int) back=5/\aF a Z y (y.blank (i:Int) back) w w):=λB=>⟨by unfold YV.eX;rw[if_pos G,if_pos B],by unfold YV.blank;rw[if_pos G,if_pos B];exact J.out⟩
  obtain⟨v,E,af⟩:=t.ch.root;obtain⟨r0,r5,_⟩:=SV.dS E;obtain⟨r,ax⟩:∃ r:Nat,y.kd.root=(r:Int):=⟨y.kd.root.toNat,by omega⟩
  rw[ax] at E c7;have ab:=h.shelf t.s;have M:=ab.jW E;obtain⟨a0,_⟩:=ab.gY E;have a8:=a0.cells;obtain⟨d1,d2,d3⟩:=h.kP D;have b:=d1.cells.1;rw[d2] at b;have d:=ah (λ(W:ω) (N:Nat) (R:Int) B hR c hN ar=>h.creates (W:=W) (N:=N) (back:=back) (R:=R) t D hm B hR c hN ar)
  rw[show((r:Int)).toNat=r by omega] at M a0 a8
  obtain⟨_,T,_⟩:=a8;rw[af] at T;have ao:=(t.dev i).ok.n2;have a4:=c0 i D;have a6:=ah λW=>pz C W (by omega)
  have ae:ay C<=5:=by unfold ay;omega
  have F:Int.tdiv (((y.dev i).fl.length:Int)-1-(ay C:Int)) 4=nO (y.dev i).fl.length (C:Int):=by unfold nO;rw[show((C:Int)).toNat=C by omega]
  have q:Hid (∀ W:ω,β w w W->W.cell? ⟨a,i,none⟩=some (Z.dp y.s i:υ)/\W.cell? ⟨Z.dp y.s i,0,none⟩=some (.slice (some ⟨(Z.hd y.s i).bf,0,none⟩) (y.dev i).fl.length (Z.hd y.s i).cf)):=λW c=>⟨(h.below c).blk.cells.1 i D,(c.cell (p:=⟨Z.dp y.s i,0,none⟩) (ja2 _ _ b)).trans b⟩
  have X:Hid (U y.l.length=false->y.used (i:Int)≠true):=λe=>by rw[<- aa.out,e];decide
  rw[<- aa.out] at x;generalize (Z.qs r).p=H at M T;generalize Z.dp y.s i=dp at a4 b d q;generalize (Z.hd y.s i).bf=bf at b q;generalize (Z.hd y.s i).cf=cf at b q;generalize aE:(y.dev i).fl.length=L at b ao F d q;generalize y.eX (i:Int) back=BF at x d |-;generalize y.blank (i:Int) back=y2 at x d |-;generalize y.l.length=ln at V ad a2 x ai X;generalize ay C=O at a6 ae F;generalize aw:nO L (C:Int)=R at F;have al:=ah aw;have aD : -300<=R/\R<=300:=by have:=Int.natAbs_tdiv_le_natAbs ((L:Int)-1-(O:Int)) 4;rw[F] at this;omega
  have a9:Hid (∀ W:ω,W=((w.alloc (bz (C:Int) R back)).drew.drew).drew->β w w W/\W.heap[w.heap.size]?=some (bz (C:Int) R back)):=λW e=>by subst e;exact⟨((ja0 _ _).alloc (ja1 _) _).drew.drew.drew,heap_alloc_new w _⟩
  unfold bz at d a9;cases c:y.busy
  all_goals
   rw[c] at Y S;simp only[jb1,Bool.false_and] at S;go_enter func48,ntmps48
   go_wp2_with fail
   refine cEq Y.out λw' hw=>?_
   have aq:=hw.symm;subst aq;go_wp2
   go_loop [8,9] (λu k=>∃ n:Nat,n<=ln/\u=.bool (U n)/\k=.int .i64 (n:Int)) (λ_ k=>ln-(intOf k).toNat)
   case atStart=>exact⟨0,ja5 _,by rw[S],rfl⟩
   case round =>
    obtain⟨n,hn,rfl,rfl⟩:=hrel;by_cases a7:n<ln
    .have ag:=ad.out n a7
     have z:=a2.out n a7;have n0:(0:Int)<=(n:Int):=by omega
     have n1:(n:Int)<(ln:Int):=by omega
     generalize y.l.getD n 0=en at ag z;cases A:U n
     .rw[A,jbz] at z
      go_wp2
      go_round
      case rel =>
       exact⟨n+1,by omega,by rw[z],by go_num⟩
      case measure=>simp[intOf];omega
     .rw[A,Bool.true_or] at z
      go_wp2
      go_round
      case rel =>
       exact⟨n+1,by omega,by rw[z],by go_num⟩
      case measure=>simp[intOf];omega
    .have j:n=ln:=by omega
     subst j;cases A:U n
     .have ap:=ah (X.out A)
      have n3:(r:Int)<5:=by omega
      have n4:(0:Int)<=(r:Int):=by omega
      have d6:w.drew.cell? ⟨a,6,none⟩=some (Z.sp:υ):=c6;have d7:w.drew.cell? ⟨a,7,none⟩=some (.int .i64 (r:Int)):=c7;have d8:w.drew.cell? ⟨Z.sp,r,none⟩=some (H:υ):=M;have d9:w.drew.cell? ⟨H,1,none⟩=some (.int .i64 (C:Int)):=T;go_wp2
      go_region_held3 (λW=>W.cell? ⟨a,6,none⟩=some (Z.sp:υ)/\W.cell? ⟨a,7,none⟩=some (.int .i64 (r:Int))/\W.cell? ⟨Z.sp,r,none⟩=some (H:υ)/\W.cell? ⟨H,1,none⟩=some (.int .i64 (C:Int)))
       (first|(exact⟨d6,d7,d8,d9⟩)|assumption)
       (fail)
      have k1:IntKind.i64.wrap ((L:Int)-1)=(L:Int)-1:=ja7 _ (by omega)
      have k2:IntKind.i64.wrap ((L:Int)-1-(O:Int))=(L:Int)-1-(O:Int):=ja7 _ (by omega)
      have k3:IntKind.i64.wrap R=R:=ja7 _ (by omega)
      go_wp2
      go_region_held3 (λW=>W.cell? ⟨a,i,none⟩=some (dp:υ)/\W.cell? ⟨dp,0,none⟩=some (.slice (some ⟨bf,0,none⟩) L cf))
       (first|(exact⟨a4,b⟩)|assumption|(exact q.out _ ((ja0 _ _).alloc (ja1 _) _).drew.drew))
       (first|(go_at_call 107;refine cSt (a6.out _) ?_))
      all_goals
       obtain⟨a5,ac⟩:=a9.out _ rfl;have av:=ah (d.out _ w.heap.size R ap.out al.out.symm a5 (ja1 _) ac);have am:=And.intro (q.out _ a5).1 (zG ac);go_wp2
       go_region_held3 (λW=>W.cell? ⟨a,i,none⟩=some (dp:υ)/\W.cell? ⟨w,0,none⟩=some (.int .i64 (C:Int))/\W.cell? ⟨w,1,none⟩=some (R:υ)/\W.cell? ⟨w,2,none⟩=some (back:υ))
        (first|(exact am)|assumption)
        (first|(go_at_call 37;refine av.out.mono ?_;rintro e w3 ⟨po,rfl,az,q6,⟨v3,q7⟩,q8,a1⟩;have I:=ah a1;clear a1))
       go_wp2
       go_ret
       exact⟨rfl,I.out⟩
     .obtain⟨e5,an⟩:=x.out A
      have I:=ah an;go_wp2
      go_ret
      first|exact⟨rfl,I.out⟩|exact⟨by rw[e5],I.out⟩
 .have j:y.eX f back=1:=by unfold YV.eX;rw[if_neg G]
  have K:y.blank f back=y:=by unfold YV.blank;rw[if_neg G]
  rw[j,K];by_cases h0:f<0
  .have g0:decide (f<0)=true:=decide_eq_true h0
   go_enter func48,ntmps48
   go_wp2
   go_ret
   exact⟨rfl,J.out⟩
  .have g0:decide (f<0)=false:=decide_eq_false h0
   have g1:decide (5<=f)=true:=decide_eq_true (by omega)
   go_enter func48,ntmps48
   go_wp2
   go_ret
   exact⟨rfl,J.out⟩
def zJ(y:YV)(f back:Int):0<=y.eX f back:=by
 unfold YV.eX;split
 .split
  .decide
  .exact KU _ _
 .decide
def Qn(w:ω)(n:Int):(w.alloc (.cells #[n] 3)).ownsRow w.heap.size 3 1 (.slice (S ⟨w,0,O⟩) 1 1) 1 [.int .i64 n] :=
 ⟨rfl,.inr ⟨w,1, #[n],rfl,ja1 _,heap_alloc_new w _,ja1 _,by decide,rfl,rfl⟩⟩
def Xb{d C m : Nat}{Z : Zh}{y : YV}(f : Int)(w : ω)(h : aC w d Z y)(J : YOk y C m)(hC : C <= 40)(hm : m + 40 < 1000000000) :
    κ prog 50 #[.pointer (some ⟨d, 0, none⟩), .int .i64 f] w λe Q => e = .returned (y.jP f) /\ jK d Z y (y.snap f) w Q := by
  have a7 : Hid (jK d Z y y w w) := (aF.refl h).out;have z := ah (qW w h);by_cases c : y.busy = true
  . have k : y.jP f = 8 := by unfold YV.jP; rw [if_pos c]
    have A : y.snap f = y := by unfold YV.snap; rw [if_pos (.inl c)]
    rw [c] at z;rw [k, A];go_enter func50, ntmps50
    go_wp2_with fail
    refine cSt z.out ?_;go_wp2
    go_ret
    exact ⟨rfl, a7.out⟩
  . rw [show y.busy = false by simpa using c] at z
    obtain ⟨_, _, _, c7, _, _, _, _, N, _, _⟩ := h.blk.cells;by_cases q : y.l.length = 4
    . have k : y.jP f = 6 := by unfold YV.jP; rw [if_neg c, if_pos q]
      have A : y.snap f = y := by unfold YV.snap; rw [if_pos (.inr q)]
      rw [k, A];rw [q] at N;go_enter func50, ntmps50
      go_wp2_with fail
      refine cSt z.out ?_;go_wp2
      go_ret
      exact ⟨rfl, a7.out⟩
    . have Y : ((y.l.length : Int) == 4) = false := by
        have : ¬ ((y.l.length : Int) = 4) := by omega
        simpa using this
      have x := ah (Jw f y.kd.root w h J hC (by omega))
      have hP := zJ y f y.kd.root;by_cases E : y.eX f y.kd.root = 0
      . obtain ⟨i0, i5, H, b0, _⟩ := zC E
        have an := J.blank f y.kd.root (by omega)
        obtain ⟨b1, b2, b3, b4⟩ := Dj y f y.kd.root;obtain ⟨s1, s2, s3, s4⟩ := ny (y.blank f y.kd.root) (aj f);have D := ah λW => wo f W
        have i : Hid (∀ W t : ω, aF d Z y (y.blank f y.kd.root) w W -> β W W t -> κ prog 38 #[.pointer (some ⟨d, 0, none⟩), kdG (aj f)] t λe Q => e = .returned (.int .i64 (y.blank f y.kd.root).aJ) /\ aF d Z y ((y.blank f y.kd.root).aA (aj f)) w Q) := λW t ⟨Z1, k, g1, g2⟩ c => by
          refine cEq (uG (m := m + 15) (aj f) t (g1.below c) an.top (kX i0 (by omega)) (by omega)) λQ q => ?_
          exact ⟨rfl, aF.trans k g2 (aF.from c q)⟩
        have T : y.jP f = (y.blank f y.kd.root).aJ := by unfold YV.jP; rw [if_neg c, if_neg q, if_pos E]
        have a3 : y.snap f = if (y.blank f y.kd.root).aJ = 0 then {(y.blank f y.kd.root).aA (aj f) with l := f :: y.l} else (y.blank f y.kd.root).aA (aj f) := by unfold YV.snap; rw [if_neg (by rintro (e | e); exact c e; exact q e), if_pos E]
        have hQ := rD (y.blank f y.kd.root);rw [E] at x;rw [T, a3];by_cases R : (y.blank f y.kd.root).aJ = 0
        . rw [if_pos R, R]
          rw [R] at i
          obtain ⟨g, o, a1⟩ : ∃ g o, Z.la = some ⟨g, o, none⟩ := by
            obtain ⟨g, o, e, _⟩ := h.list.1 0 (List.length_pos_iff.2 J.ch.ne);exact ⟨g, o, e⟩
          have L : Hid (∀ W : ω, aF d Z y ((y.blank f y.kd.root).aA (aj f)) w W -> W.cell? ⟨d, 12, none⟩ = some (.slice (some ⟨g, o, none⟩) y.l.length Z.lc) /\ (W.alloc (.cells #[f] 3)).cell? ⟨d, 12, none⟩ = some (.slice (some ⟨g, o, none⟩) y.l.length Z.lc) /\ (∀ j u, (iW y.l)[j]? = some u -> (W.alloc (.cells #[f] 3)).cell? ((⟨g, o, none⟩ : Addr).add j) = some u) /\
              ∀ (g3 s : Nat) (b : ω), b.ownsRow W.heap.size 3 1 (.slice (some ⟨g3, 0, none⟩) (1 + y.l.length) s) (1 + y.l.length) ([.int .i64 f] ++ iW y.l) -> (W.alloc (.cells #[f] 3)).grownBy b (some W.heap.size) -> g3 < b.heap.size -> W.heap.size <= g3 -> (∃ v, b.cell? ⟨d, 12, none⟩ = some v) /\ b.frozen? ⟨d, 12, none⟩ = false /\ jK d Z y {(y.blank f y.kd.root).aA (aj f) with l := f :: y.l} w (b.setCell ⟨d, 12, none⟩ (.slice (some ⟨g3, 0, none⟩) (1 + y.l.length) s))) := λW ⟨Z1, k, g1, g2⟩ => by
            have O : ((y.blank f y.kd.root).aA (aj f)).l = y.l := s3.trans b3;obtain ⟨_, _, _, _, _, _, _, _, ai, _, _⟩ := g1.blk.cells;rw [k.la, k.lc, a1, O] at ai;have af : β W W (W.alloc (.cells #[f] 3)) := (ja0 _ _).alloc (ja1 _) _;have gA := g1.below af;refine ⟨ai, ?_, λj u I => ?_, λg3 s b ho hg P aw => ?_⟩
            . obtain ⟨_, _, _, _, _, _, _, _, S, _, _⟩ := gA.blk.cells
              rw [k.la, k.lc, a1, O] at S;exact S
            . have V : j < y.l.length := by
                rcases jat j y.l.length with e | e
                . exact e
                . rw [jaj (by simpa [iW] using e)] at I; cases I
              obtain ⟨g', o', A, e3⟩ := gA.list.1 j (by rw [O]; exact V)
              rw [k.la, a1] at A;cases A
              rw [O] at e3
              have H : u = .int .i64 (y.l.getD j 0) := by
                unfold iW at I;rw [List.getElem?_map, ja8 V] at I;rw [ja6, ja8 V]
                simpa using I.symm
              have ea : (⟨g, o, none⟩ : Addr).add j = ⟨g, o + j, none⟩ := by unfold Addr.add; split <;> simp_all
              rw [H, ea]; exact e3
            . have am  := af.grown hg (by simp) (λr e => by cases e; exact ja1 _)
              have al := g1.below am;obtain ⟨_, _, _, _, _, _, _, _, S, _, kf⟩ := al.blk.cells;have aL  := Bc (l := f :: y.l) (B := W.heap.size) (n := 1 + y.l.length) (cap := s) ho (by simp; omega)
              obtain ⟨p1, p2⟩ := al.sD (lc := s) aL (by intro e; cases e) (λg' o' e hf => by
                cases e
                have := g1.fF hf
                omega)
              rw [show (f :: y.l).length = 1 + y.l.length by simp; omega] at p1 p2
              refine ⟨⟨_, S⟩, kf 12, {Z1 with la := some ⟨g3, 0, none⟩, lc := s}, .inr λg' o' e => ?_, .inl (by show Z1.jb.a = _; rw [k.jb]), p1, g2.trans ((Moved.of_below am).trans p2)⟩
              cases e
              exact ⟨ja4 g2.size aw, by simpa [World.setCell] using P⟩
          obtain ⟨i1, ax, ar, aE, ao⟩ := info_parts tN;have a9  := List.length_pos_iff.2 J.ch.ne;have az := J.ch.len;have X : Hid ((iW y.l).length = y.l.length * 1) := by unfold Hid iW; simp
          have ag : Hid (∀ u ∈ iW y.l, u.oneCell' = true) := λu H => by
            unfold iW at H;obtain ⟨a, _, rfl⟩ := List.mem_map.1 H;rfl
          have a5 : Hid (1 + y.l.length <= maxLen) := by unfold Hid maxLen; omega
          generalize ({(y.blank f y.kd.root).aA (aj f) with l := f :: y.l} : YV) = z3 at L |-
          generalize (y.blank f y.kd.root).aA (aj f) = z2 at L i;generalize y.blank f y.kd.root = z1 at i x;generalize iW y.l = nv at L X ag;generalize y.l.length = ln at L X a5 Y N a9 az;unfold kdG aj at D i;simp only at D i;go_enter func50, ntmps50
          go_wp2_with fail
          refine cSt z.out ?_;go_wp2_with fail
          refine cEq x.out λw1 G => ?_
          have a2 := ah (λt c => i.out _ t G c)
          go_wp2_with fail
          refine cEq (D.out _) λw2 a4 => ?_
          have a0 := ah (a2.out _ a4);go_wp2_with fail
          refine cEq a0.out λb U => ?_
          obtain ⟨aR, aM, ap, aq⟩ := L.out _ U;have a6 := ah ap;have aa := ah aq;have ab := ah (Qn b f);have HZ : Hid ((b.alloc (.cells #[f] 3)).heap.size = b.heap.size + 1) := by unfold Hid; simp
          have aD : Hid (b.heap.size <= (b.alloc (.cells #[f] 3)).heap.size) := by unfold Hid; simp
          go_wp2_with (at_builtin; refine wpList_append_lies _ (by rfl) _ _ 88 (by rfl) b.heap.size 3 i1 (.int .i64 0) 1 8 underlying88 ax ar aE ao rfl (by decide) (.slice (some ⟨b.heap.size, 0, none⟩) 1 1) 1 [f] (by rfl) ab.out ⟨g, o, none⟩ ln Z.lc nv (by rfl) X.out a6.out ag.out a9 a5.out (by omega) aD.out (b.heap.size + 1) HZ.out ?_; intro g3 s w4 ad a8 ae P
                       have av := aa.out g3 s w4 ad a8 P (by rcases ae with e | e; (have A : b.heap.size = g3 := by simpa [Value.ownBlock] using e); omega; omega)
                       obtain ⟨⟨v, u12⟩, uf, ac⟩ := av;have M := ah ac
                       clear ad a8 ae P ac aa a6 ab)
          go_ret
          exact ⟨rfl, M.out⟩
        . rw [if_neg R]
          have gF : decide (0 < (y.blank f y.kd.root).aJ) = true := decide_eq_true (by omega)
          have K := ah λW (hd : aF d Z y ((y.blank f y.kd.root).aA (aj f)) w W) => hd.out
          generalize (y.blank f y.kd.root).aA (aj f) = z2 at K i |-;generalize (y.blank f y.kd.root).aJ = F at i gF |-;generalize y.blank f y.kd.root = z1 at i x;generalize y.l.length = ln at Y N;unfold kdG aj at D i;simp only at D i;go_enter func50, ntmps50
          go_wp2_with fail
          refine cSt z.out ?_;go_wp2_with fail
          refine cEq x.out λw1 G => ?_
          have a2 := ah (λt c => i.out _ t G c)
          go_wp2_with fail
          refine cEq (D.out _) λw2 a4 => ?_
          have a0 := ah (a2.out _ a4);go_wp2_with fail
          refine cEq a0.out λb U => ?_
          have M := ah (K.out _ U);go_wp2
          go_ret
          exact ⟨rfl, M.out⟩
      . have T : y.jP f = y.eX f y.kd.root := by unfold YV.jP; rw [if_neg c, if_neg q, if_neg E]
        have a3 : y.snap f = y.blank f y.kd.root := by unfold YV.snap; rw [if_neg (by rintro (e | e); exact c e; exact q e), if_neg E]
        have gF : decide (0 < y.eX f y.kd.root) = true := decide_eq_true (by omega)
        have K := ah λW (hd : aF d Z y (y.blank f y.kd.root) w W) => hd.out
        rw [T, a3];generalize y.eX f y.kd.root = F at x gF |-;generalize y.blank f y.kd.root = z1 at x K |-;generalize y.l.length = ln at Y N;go_enter func50, ntmps50
        go_wp2_with fail
        refine cSt z.out ?_;go_wp2_with fail
        refine cEq x.out λw1 G => ?_
        have M := ah (K.out _ G);go_wp2
        go_ret
        exact ⟨rfl, M.out⟩
def aC.JO{w:ω}{a:Nat}{Z:Zh}{y:YV}{n:Int}(h:aC w a Z y)(d:0<=n):aF a Z y (y.arm (-1) n) w (w.setCell ⟨Z.tp.p,3,O⟩ n):=by
 obtain⟨f,c⟩:=h.pK    ⟨h.top.todA.failing n,λ_ _ e=>e⟩ rfl ⟨(Kept.refl _ _).setCell (.inl (.inl rfl)) _,λ_ b=>.inl b⟩
 unfold YV.arm;rw[if_pos ⟨by omega,by omega,d⟩]
 exact⟨_,⟨rfl,rfl,rfl,rfl,rfl⟩,f,c⟩
def aC.JM{w:ω}{z i:Nat}{Z:Zh}{y:YV}{n:Int}(h:aC w z Z y)(b:i<5)(E:0<=n):aF z Z y (y.arm (i:Int) n) w (w.setCell ⟨Z.dp y.s i,3,O⟩ n):=by
 have C:((i:Int)).toNat=i:=by omega
 have B:∀ {x:ω},(x.heap[Z.sp]?=w.heap[Z.sp]?)->x.heap[Z.sp]?=S (.cells #[bU (Z.qs 0) (y.s 0),bU (Z.qs 1) (y.s 1),bU (Z.qs 2) (y.s 2),bU (Z.qs 3) (y.s 3),bU (Z.qs 4) (y.s 4)] 87 (0,0)):=λe=>e.trans h.shf
 unfold YV.arm;rw[if_pos ⟨by omega,by omega,E⟩,if_neg (by omega),C]
 cases a:y.s i with
 | none =>
  have hd:=h.dev i b a;rw[Zh.dp_none a];have g:Kept (Z.ds i).fp w (w.setCell ⟨(Z.ds i).p,3,O⟩ n):=(Kept.refl _ _).setCell (.inl (.inl rfl)) _;have c:Moved (Z.fpF y.s i) w (Z.fpF y.s i) (w.setCell ⟨(Z.ds i).p,3,O⟩ n):=⟨g.mono λk _ e=>by rw[Zh.dH a];exact e,λ_ e=>.inl e⟩
  obtain⟨o,t⟩:=h.pF (Z':=Z) (y':={y with dv:=λk=>if k=i then (y.dv k).failing n else y.dv k}) b c (Kept.refl _ _) (B (c.block (lt_of_some h.shf) (h.oN.1 i b))) rfl (λv G=>by simp_all) (λ_=>by
   show bZ Gd.no _ (Z.ds i) (if i=i then (y.dv i).failing n else y.dv i)
   rw[if_pos rfl]
   exact⟨hd.todA.failing n,λ_ _ e=>e⟩) (λj q=>⟨rfl,if_neg q,rfl,rfl⟩) ⟨rfl,rfl,rfl,rfl,rfl⟩ ⟨rfl,rfl,rfl,rfl⟩
  exact⟨Z,.refl Z,o,t⟩
 | some v =>
  have m:=h.img i v b a;rw[Zh.kY a];have g:Kept (Z.qs i).d.fp w (w.setCell ⟨(Z.qs i).d.p,3,O⟩ n):=(Kept.refl _ _).setCell (.inl (.inl rfl)) _;have D:=Led.dev m    ⟨m.dev.todA.failing n,m.dev.out⟩ rfl g (λr e=>.inl e)
  have l:y.s.upd i {v with d:=v.d.failing n} i=S {v with d:=v.d.failing n}:=by unfold SV.upd;rw[if_pos rfl]
  have c:Moved (Z.fpF _ i) w (Z.fpF _ i) _:=⟨g.mono λk _ e=>by rw[Zh.dX a];exact .inr (.inr (.inr e)),λk e=>.inl (by rw[Zh.dX l] at e;rw[Zh.dX a];exact e)⟩
  have f:∀ j,bU (Z.qs j) (y.s.upd i {v with d:=v.d.failing n} j)=bU _ (y.s j):=λj=>by
   unfold SV.upd;by_cases e:j=i
   .rw[if_pos e,e,a];rfl
   .rw[if_neg e]
  obtain⟨o,t⟩:=h.pF  (y':={y with s:=y.s.upd i _}) b c (Kept.refl _ _) (by
   rw[f,f,f,f,f];exact B (c.block (lt_of_some h.shf) (h.oN.1 i b))) (by rw[Zh.kY l,Zh.kY a]) (λu A=>by
   have F  := l.symm.trans A;cases F
   exact D.rim) (λA=>by
   simp_all) (λj q=>⟨by show SV.upd _ _ _ _=_;unfold SV.upd;rw[if_neg q],rfl,rfl,rfl⟩) ⟨rfl,rfl,rfl,rfl,rfl⟩ ⟨rfl,rfl,rfl,rfl⟩
  exact⟨Z,.refl Z,o,t⟩
def WQ{d:Nat}{Z:Zh}{y:YV}(f n:Int)(w:ω)(h:aC w d Z y) :
  κ prog 62 #[d,f,n] w λe q=>e=.returned (YV.kW f n)/\aF d Z y (y.arm f n) w q:=by
 by_cases b : -1<=f/\f<5/\0<=n
 .have c:YV.kW f n=0:=by unfold YV.kW;rw[if_pos b]
  rw[c];obtain⟨m,v,_⟩:=h.blk.cells;by_cases u:f = -1
  .subst u
   obtain⟨_,_,_,t3,_,g⟩:=h.top.todA.cells;have a:=ah (h.JO b.2.2);generalize y.arm (-1) n=y1 at a |-;generalize y.top.fail=r at t3;go_enter func62,ntmps62
   go_wp2
   go_ret
   exact⟨rfl,a.out⟩
  .obtain⟨i,rfl⟩:∃ i:Nat,f=(i:Int):=⟨f.toNat,by omega⟩
   have j:i<5:=by omega
   obtain⟨l,k,_⟩:=h.kP j;obtain⟨_,_,_,t3,_,g⟩:=l.todA.cells;have o:=g 3;rw[k] at t3 o;have x:=m i j;have a:=ah (h.JM j b.2.2);clear h c m v g l k;generalize y.arm (i:Int) n=y1 at a |-;generalize (y.dev i).fail=r at t3;generalize Z.dp y.s i=dp at a t3 o x;go_enter func62,ntmps62
   go_wp2
   go_ret
   exact⟨rfl,a.out⟩
 .have c:YV.kW f n=1:=by unfold YV.kW;rw[if_neg b]
  have t:y.arm f n=y:=by unfold YV.arm;rw[if_neg b]
  have a:Hid _:=aF.refl h;rw[c,t];by_cases z:f < -1
  .go_enter func62,ntmps62
   go_wp2
   go_ret
   exact⟨rfl,a.out⟩
  .by_cases A:5<=f
   .go_enter func62,ntmps62
    go_wp2
    go_ret
    exact⟨rfl,a.out⟩
   .go_enter func62,ntmps62
    go_wp2
    go_ret
    exact⟨rfl,a.out⟩
def Gq(s:ByteArray)(h:s.size=16):∃(b:5<s.size) (c:6<s.size) (a:7<s.size) (d:8<s.size),((s[5]'b).toNat:Int)=bAt s 5/\((s[6]'c).toNat:Int)=bAt s 6/\((s[7]'a).toNat:Int)=bAt s 7/\((s[8]'d).toNat:Int)=bAt s 8 :=
 ⟨by omega,by omega,by omega,by omega,nT s 5 _,nT s 6 _,nT s 7 _,nT s 8 _⟩
def KV.MJ{d:KV}(h:d.fault≠0):0<d.fault:=by
 unfold KV.fault at h |-;omega
def QN(s:ByteArray)(w:ω)(a:bV s≠0) :
  κ prog 76 #[s] w λe i=>e=.returned (.tuple #[.agg (iy s).cells,erV (aJ s)])/\β w w i:=by
 have b:=wK s (w.alloc (.cells #[(0:Int),(0:Int),(0:Int),(0:Int),(0:Int)] 82));have g:aJ s=bV s:=by unfold aJ;rw[if_neg a]
 have k:iy s=KV.zero:=by unfold iy;rw[if_neg (λh=>a h.1)]
 have c:erV (bV s)=.iface 96 (.int .i64 (bV s)):=by unfold erV;rw[if_neg a]
 rw[g,k,c];rw[c] at b;generalize bV s=f at b;go_enter func76,ntmps76
 go_wp2_with fail
 refine cEq b λm d=>?_
 obtain⟨j,l⟩:=nU d;go_wp2
 exact bodyPost_ret (v:=.tuple #[.agg #[(0:Int),(0:Int),(0:Int),(0:Int),(0:Int)],.iface 96 _]) (by simp[results,results76,go_sem,j]) rfl ⟨rfl,((((((((ja0 _ _).alloc (ja1 _) _).trans (d.mono (by simp))).setCell (by simp) _).setCell (by simp) _).setCell (by simp) _).setCell (by simp) _).setCell (by simp) _)⟩
def tk{P:Program}{d:Region.Mode}{b:Array Oper}{Q:Exit->Act->ω->Prop}{f:Nat}{listed:Array Bool}{a:Act}{w:ω}{oi:Oper}{v:υ}(i:Nat)(n:b[i]?=S oi)(h:wpAnyH P d b Q (λ_=>True) f (listed.setIfInBounds i true) (a.put oi.dst v) w)
  (l:Region.noSelect b=true:=by kernel_rfl) (g:Region.free d b listed i=true:=by kernel_rfl) (k:(Region.ready d b listed).contains i=true:=by kernel_rfl) (m:∀ c a w,Q (.panic c) (a.put oi.dst v) w->Q (.panic c) a w:=by exact λ_ _ _ h=>h) (j:YieldsIf P b (λ_=>True) oi v a:=by exact Or.inl ⟨by rfl,by (intro w o;go_simp;try with_reducible rfl)⟩):wpAnyH P d b Q (λ_=>True) (f+1) listed a w :=
 wpAnyH_take n l g k m j trivial h
def r1{P:Program}{c:Region.Mode}{b:Array Oper}{Q:Exit->Act->ω->Prop}{S:ω->Prop}{f:Nat}{listed:Array Bool}{a:Act}{w:ω}(i:Nat){o:Oper}(g:b[i]?=some o)
  (h:∀ d:Act->ω->Prop,Shut (∀ a w,S w->(S w->wpAnyH P c b Q S f (listed.setIfInBounds i true) a w)->d a w)->if Region.wanted o (yielded b a.tmps)=true then Oper.wp P o a w d Q else d (a.put o.dst undef) w)
  (j:Region.ready c b listed=[i]:=by kernel_rfl):wpAnyH P c b Q S (f+1) listed a w:=wpAnyH_ready j (by simp) (jbx g h AllReadyH.nil)
def r2{P:Program}{f:Region.Mode}{b:Array Oper}{Q:Exit->Act->ω->Prop}{S:ω->Prop}{g:Nat}{listed:Array Bool}{a:Act}{w:ω}(i j:Nat){o d:Oper}(m:b[i]?=some o)(l:b[j]?=some d)
  (h:∀ c:Act->ω->Prop,Shut (∀ a w,S w->(S w->wpAnyH P f b Q S g (listed.setIfInBounds i true) a w)->c a w)->if Region.wanted o (yielded b a.tmps)=true then Oper.wp P o a w c Q else c (a.put o.dst undef) w)
  (k:∀ c:Act->ω->Prop,Shut (∀ a w,S w->(S w->wpAnyH P f b Q S g (listed.setIfInBounds j true) a w)->c a w)->if Region.wanted d (yielded b a.tmps)=true then Oper.wp P d a w c Q else c (a.put d.dst undef) w)
  (n:Region.ready f b listed=[i,j]:=by kernel_rfl):wpAnyH P f b Q S (g+1) listed a w:=wpAnyH_ready n (by simp) (jbx m h (jbx l k AllReadyH.nil))
def Lm(s:ByteArray)(d:bV s=0):∃ X E,(∀ W:ω,κ prog 104 #[.agg #[bAt s 2,bAt s 3,(bAt s 4-1:Int),(bAt s 5+bAt s 6*256:Int),(bAt s 7+bAt s 8*256:Int)]] W λe g=>e=.returned (.tuple #[.string X,E])/\β W W g) /\
  (((∃ fl,E=.iface 96 (.int .i64 fl))\/E=.nilIface/\(X.toList==s.toList)=false)/\(iy s).cells = #[.int .i64 0,.int .i64 0,.int .i64 0,.int .i64 0,.int .i64 0]/\erV (aJ s)=.iface 96 (.int .i64 2)\/E=.nilIface/\(X.toList==s.toList)=true/\(iy s).cells = #[.int .i64 (bAt s 2),.int .i64 (bAt s 3),.int .i64 (bAt s 4-1),.int .i64 (bAt s 5+bAt s 6*256),.int .i64 (bAt s 7+bAt s 8*256)]/\erV (aJ s)=.nilIface):=by
 have f:mP s=false->(iy s).cells = #[.int .i64 0,.int .i64 0,.int .i64 0,.int .i64 0,.int .i64 0]/\erV (aJ s)=.iface 96 (.int .i64 2):=λc=>by
  unfold aJ iy;rw[c,if_neg (λh=>by cases h.2),if_pos d,if_neg (by decide)];exact⟨rfl,xg⟩
 by_cases a:(pW s).fault=0
 .refine⟨_,_,λW=>D8 _ _ _ _ _ W a,?_⟩
  cases b:((fO (pW s).bytes).toList==s.toList) with
  | false=>exact .inl ⟨.inr ⟨rfl,b⟩,f (by unfold mP;rw[b,jbc])⟩
  | true =>
   have c:mP s=true:=by unfold mP;rw[b,decide_eq_true a];rfl
   refine .inr ⟨rfl,b,?_⟩;unfold aJ iy;rw[if_pos d,if_pos c,if_pos ⟨d,c⟩];exact⟨rfl,aN⟩
 .exact⟨_,_,λW=>Ll _ _ _ _ _ W a,.inl ⟨.inl ⟨_,rfl⟩,f (by unfold mP;rw[decide_eq_false a];rfl)⟩⟩
def QM(s:ByteArray)(w:ω)(i:bV s=0) :
  κ prog 76 #[s] w λe g=>e=.returned (.tuple #[.agg (iy s).cells,erV (aJ s)])/\β w w g:=by
 have k:=wK s (w.alloc (.cells #[(0:Int),(0:Int),(0:Int),(0:Int),(0:Int)] 82));obtain⟨X,E,m,l⟩:=Lm s i;have j:s.size=16:=yN i;obtain⟨h2,U,h4,N,o,O⟩:=yu s j;obtain⟨h5,h6,h7,h8,x,y,F,P⟩:=Gq s j;obtain⟨B,u2⟩:=iP s 2;obtain⟨r,u3⟩:=iP s 3;obtain⟨t,u4⟩:=iP s 4;obtain⟨z,u5⟩:=iP s 5;obtain⟨C,u6⟩:=iP s 6;obtain⟨u,u7⟩:=iP s 7;obtain⟨A,u8⟩:=iP s 8;have f:=ah m;have d:=ah l;rw[i,aN] at k;have L:=ah k;generalize (iy s).cells=D at d |-;generalize erV (aJ s)=V at d |-;clear k i m l j
 generalize bAt s 2=W at N B u2 f d;generalize bAt s 3=x3 at o r u3 f d;generalize bAt s 4=x4 at O t u4 f d;generalize bAt s 5=x5 at x z u5 f d;generalize bAt s 6=x6 at y C u6 f d;generalize bAt s 7=x7 at F u u7 f d;generalize bAt s 8=x8 at P A u8 f d;have i2:(2:Int)<(s.size:Int):=by omega
 have i3:(3:Int)<(s.size:Int):=by omega
 have T:(4:Int)<(s.size:Int):=by omega
 have i5:(5:Int)<(s.size:Int):=by omega
 have i6:(6:Int)<(s.size:Int):=by omega
 have i7:(7:Int)<(s.size:Int):=by omega
 have i8:(8:Int)<(s.size:Int):=by omega
 go_enter func76,ntmps76
 go_wp2_with fail
 refine L.out.mono ?_;rintro e G ⟨rfl,c⟩;obtain⟨hc,hf⟩:=nU c;have R:w.heap.size<G.heap.size:=by have:=c.size;simp at this;omega
 go_wp2
 refine wp_region_noPanic ?_;refine wp_region_held_drew (S:=λ_=>True) (by kernel_rfl) trivial (λhHeld=>?_)
 refine tk 0 rfl ?_;simp only[Act.put];refine tk 1 rfl ?_;simp only[Act.put];refine tk 2 rfl ?_;simp only[Act.put];refine tk 3 rfl ?_;simp only[Act.put];refine tk 4 rfl ?_;simp only[Act.put];refine tk 5 rfl ?_;simp only[Act.put];refine tk 6 rfl ?_;simp only[Act.put];refine tk 7 rfl ?_;simp only[Act.put];refine tk 8 rfl ?_;simp only[Act.put];refine tk 9 rfl ?_;simp only[Act.put];refine tk 10 rfl ?_;simp only[Act.put];refine tk 11 rfl ?_;simp only[Act.put];refine tk 12 rfl ?_;simp only[Act.put];refine tk 13 rfl ?_;simp only[Act.put];refine tk 15 rfl ?_;simp only[Act.put];refine tk 16 rfl ?_;simp only[Act.put]
 refine tk 17 rfl ?_;simp only[Act.put];refine tk 18 rfl ?_;simp only[Act.put];refine r2 14 21 rfl rfl (λK b=>?_) (λK b=>?_)
 all_goals (go_simp;(try (go_at_call 152;refine(xY _ _ _ (by assumption) (by assumption) (by assumption) (by assumption)).mono ?_;rintro e g ⟨rfl,rfl⟩;try go_wp2_with fail));refine b.out _ _ trivial (λ_=>?_);clear b K;try simp only[Act.put,jab])
 refine r2 19 21 rfl rfl (λK b=>?_) (λK b=>?_);rotate_left 2;refine r1 14 rfl λK b=>?_
 all_goals (go_simp;(try (go_at_call 152;refine(xY _ _ _ (by assumption) (by assumption) (by assumption) (by assumption)).mono ?_;rintro e g ⟨rfl,rfl⟩;try go_wp2_with fail));refine b.out _ _ trivial (λ_=>?_);clear b K;try simp only[Act.put,jab])
 refine r1 19 rfl λK b=>?_;rotate_left;refine tk 20 rfl ?_;simp only[Act.put];refine r1 21 rfl λK b=>?_;rotate_left;refine r1 19 rfl λK b=>?_;rotate_left
 all_goals (go_simp;(try (go_at_call 152;refine(xY _ _ _ (by assumption) (by assumption) (by assumption) (by assumption)).mono ?_;rintro e g ⟨rfl,rfl⟩;try go_wp2_with fail));refine b.out _ _ trivial (λ_=>?_);clear b K;try simp only[Act.put,jab])
 refine tk 20 rfl ?_;simp only[Act.put];rotate_left 2;refine tk 20 rfl ?_;simp only[Act.put]
 all_goals refine r1 22 rfl λK b=>?_
 all_goals (go_simp;(try (go_at_call 152;refine(xY _ _ _ (by assumption) (by assumption) (by assumption) (by assumption)).mono ?_;rintro e g ⟨rfl,rfl⟩;try go_wp2_with fail));refine b.out _ _ trivial (λ_=>?_);clear b K;try simp only[Act.put,jab])
 all_goals refine wpAnyH_done (by kernel_rfl) (NoPanic.normal ?_) _
 all_goals
  go_wp2_with fail
  refine(f.out _).mono ?_;rintro e w2 ⟨rfl,a⟩;have Q:=lS a 0 _ rfl;have H:=kQ c a 0 _ rfl;have f0:=lW c a 0;have r1:=lS a 1 _ rfl;have J:=kQ c a 1 _ rfl;have f1:=lW c a 1;have r2:=lS a 2 _ rfl;have q2:=kQ c a 2 _ rfl;have Y:=lW c a 2;have r3:=lS a 3 _ rfl;have q:=kQ c a 3 _ rfl;have f3:=lW c a 3;have r4:=lS a 4 _ rfl;have M:=kQ c a 4 _ rfl;have Z:=lW c a 4;have I:Hid (β w w _):=below3 c a;rcases d.out with⟨⟨fl,rfl⟩|⟨rfl,n⟩,rfl,rfl⟩|⟨rfl,n,rfl,rfl⟩
  all_goals
   go_wp2
   exact bodyPost_ret (v:=.tuple #[.agg _,_]) (by simp[results,results76,go_sem,H,J,q2,q,M]) rfl ⟨rfl,((((I.out.setCell (ja1 _) _).setCell (ja1 _) _).setCell (ja1 _) _).setCell (ja1 _) _).setCell (ja1 _) _⟩
def QL(s:ByteArray)(w:ω) :
  κ prog 76 #[s] w λe b=>e=.returned (.tuple #[.agg (iy s).cells,erV (aJ s)])/\β w w b:=by
 by_cases a:bV s=0
 .exact QM s w a
 .exact QN s w a
def Rt(s:ByteArray)(w:ω)(a:bV s≠0) :
  κ prog 80 #[s] w λe i=>e=.returned (.tuple #[.agg (iy s).cells,aJ s])/\β w w i:=by
 have c:=xW s (w.alloc (.cells #[(0:Int),(0:Int),(0:Int),(0:Int),(0:Int)] 82));have g:aJ s=bV s:=by unfold aJ;rw[if_neg a]
 have k:iy s=KV.zero:=by unfold iy;rw[if_neg (λh=>a h.1)]
 have d:=BP a;rw[g,k];generalize bV s=f at c d;go_enter func80,ntmps80
 go_wp2_with fail
 refine cEq c λm b=>?_
 obtain⟨j,l⟩:=nU b;go_wp2
 exact bodyPost_ret (v:=.tuple #[.agg #[(0:Int),(0:Int),(0:Int),(0:Int),(0:Int)],f]) (by simp[results,results80,go_sem,j]) rfl ⟨rfl,((((((((ja0 _ _).alloc (ja1 _) _).trans (b.mono (by simp))).setCell (by simp) _).setCell (by simp) _).setCell (by simp) _).setCell (by simp) _).setCell (by simp) _)⟩
def Ru(s:ByteArray)(d:bV s=0):∃ F X,(∀ W:ω,κ prog 127 #[.agg #[bAt s 2,bAt s 3,(bAt s 4-1:Int),(bAt s 5+256*bAt s 6:Int),(bAt s 7+256*bAt s 8:Int)]] W λe c=>e=.returned (.int .i64 F)/\β W W c) /\
  (0<F/\(iy s).cells = #[.int .i64 0,.int .i64 0,.int .i64 0,.int .i64 0,.int .i64 0]/\aJ s=2\/F=0/\(∀ W:ω,κ prog 112 #[.agg #[bAt s 2,bAt s 3,(bAt s 4-1:Int),(bAt s 5+256*bAt s 6:Int),(bAt s 7+256*bAt s 8:Int)]] W λe c=>e=.returned (.string X)/\β W W c)/\((X.toList==s.toList)=false/\(iy s).cells = #[.int .i64 0,.int .i64 0,.int .i64 0,.int .i64 0,.int .i64 0]/\aJ s=2\/(X.toList==s.toList)=true/\(iy s).cells = #[.int .i64 (bAt s 2),.int .i64 (bAt s 3),.int .i64 (bAt s 4-1),.int .i64 (bAt s 5+256*bAt s 6),.int .i64 (bAt s 7+256*bAt s 8)]/\aJ s=0)):=by
 have g:mP s=false->(iy s).cells = #[.int .i64 0,.int .i64 0,.int .i64 0,.int .i64 0,.int .i64 0]/\aJ s=2:=λb=>by
  unfold aJ iy;rw[b,if_neg (λh=>by cases h.2),if_pos d,if_neg (by decide)];exact⟨rfl,rfl⟩
 rw[show bAt s 5+256*bAt s 6=bAt s 5+bAt s 6*256 by omega,show bAt s 7+256*bAt s 8=bAt s 7+bAt s 8*256 by omega]
 refine⟨_,fO (pW s).bytes,λW=>D5 _ _ _ _ _ W,?_⟩
 by_cases a:(pW s).fault=0
 .refine .inr ⟨a,λW=>D6 _ _ _ _ _ W a,?_⟩
  cases f:((fO (pW s).bytes).toList==s.toList) with
  | false=>exact .inl ⟨rfl,g (by unfold mP;rw[f,jbc])⟩
  | true =>
   have b:mP s=true:=by unfold mP;rw[f,decide_eq_true a];rfl
   refine .inr ⟨rfl,?_⟩;unfold aJ iy;rw[if_pos d,if_pos b,if_pos ⟨d,b⟩];exact⟨rfl,rfl⟩
 .exact .inl ⟨KV.MJ a,g (by unfold mP;rw[decide_eq_false a];rfl)⟩
def Rq(s:ByteArray)(w:ω)(i:bV s=0) :
  κ prog 80 #[s] w λe P=>e=.returned (.tuple #[.agg (iy s).cells,aJ s])/\β w w P:=by
 have l:=xW s (w.alloc (.cells #[(0:Int),(0:Int),(0:Int),(0:Int),(0:Int)] 82));obtain⟨F,X,y,x⟩:=Ru s i;have k:s.size=16:=yN i;obtain⟨h2,h3,h4,Z,C,b4⟩:=yu s k;obtain⟨h5,h6,h7,h8,O,Q,H,b8⟩:=Gq s k;obtain⟨l2,u2⟩:=iP s 2;obtain⟨G,u3⟩:=iP s 3;obtain⟨I,u4⟩:=iP s 4;obtain⟨R,u5⟩:=iP s 5;obtain⟨l6,u6⟩:=iP s 6;obtain⟨J,u7⟩:=iP s 7;obtain⟨U,u8⟩:=iP s 8;have f:=ah y;have d:=ah x;rw[i] at l;have W:=ah l;generalize (iy s).cells=D at d |-;generalize aJ s=V at d |-;clear l i y x k
 generalize bAt s 2=x2 at Z l2 u2 f d;generalize bAt s 3=x3 at C G u3 f d;generalize bAt s 4=x4 at b4 I u4 f d;generalize bAt s 5=x5 at O R u5 f d;generalize bAt s 6=x6 at Q l6 u6 f d;generalize bAt s 7=x7 at H J u7 f d;generalize bAt s 8=x8 at b8 U u8 f d;have i2:(2:Int)<(s.size:Int):=by omega
 have i3:(3:Int)<(s.size:Int):=by omega
 have i4:(4:Int)<(s.size:Int):=by omega
 have i5:(5:Int)<(s.size:Int):=by omega
 have i6:(6:Int)<(s.size:Int):=by omega
 have i7:(7:Int)<(s.size:Int):=by omega
 have i8:(8:Int)<(s.size:Int):=by omega
 go_enter func80,ntmps80
 go_wp2_with fail
 refine W.out.mono ?_;rintro e N ⟨rfl,b⟩;obtain⟨hc,hf⟩:=nU b;have hz:w.heap.size<N.heap.size:=by have:=b.size;simp at this;omega
 go_wp2
 refine wp_region_noPanic ?_;refine wp_region_held_drew (S:=λ_=>True) (by kernel_rfl) trivial (λhHeld=>?_)
 refine tk 0 rfl ?_;simp only[Act.put];refine tk 1 rfl ?_;simp only[Act.put];refine tk 2 rfl ?_;simp only[Act.put];refine tk 3 rfl ?_;simp only[Act.put];refine tk 4 rfl ?_;simp only[Act.put];refine tk 5 rfl ?_;simp only[Act.put];refine tk 6 rfl ?_;simp only[Act.put];refine tk 7 rfl ?_;simp only[Act.put];refine tk 8 rfl ?_;simp only[Act.put];refine tk 9 rfl ?_;simp only[Act.put];refine tk 10 rfl ?_;simp only[Act.put];refine tk 11 rfl ?_;simp only[Act.put];refine tk 12 rfl ?_;simp only[Act.put];refine tk 13 rfl ?_;simp only[Act.put];refine tk 14 rfl ?_;simp only[Act.put];refine tk 15 rfl ?_;simp only[Act.put]
 refine tk 16 rfl ?_;simp only[Act.put];refine tk 17 rfl ?_;simp only[Act.put];refine tk 18 rfl ?_;simp only[Act.put];refine tk 19 rfl ?_;simp only[Act.put];refine tk 20 rfl ?_;simp only[Act.put];refine tk 21 rfl ?_;simp only[Act.put];refine tk 22 rfl ?_;simp only[Act.put];refine tk 23 rfl ?_;simp only[Act.put];refine tk 24 rfl ?_;simp only[Act.put];refine tk 25 rfl ?_;simp only[Act.put];refine tk 26 rfl ?_;simp only[Act.put];refine r1 27 rfl λK g=>?_
 (go_simp;refine g.out _ _ trivial (λ_=>?_);clear g K;try simp only[Act.put,jab])
 refine r1 28 rfl λK g=>?_
 (go_simp;refine g.out _ _ trivial (λ_=>?_);clear g K;try simp only[Act.put,jab])
 refine wpAnyH_done (by kernel_rfl) (NoPanic.normal ?_) _
 go_wp2_with fail
 refine(f.out _).mono ?_;rintro e w2 ⟨rfl,a⟩;have t:=lS a 0 _ rfl;have r1:=lS a 1 _ rfl;have r2:=lS a 2 _ rfl;have r:=lS a 3 _ rfl;have u:=lS a 4 _ rfl;rcases d.out with⟨Y,rfl,rfl⟩|⟨rfl,z,hd⟩
 .have hd:decide (0<F)=true:=by simpa using Y
  have m:=kQ b a 0 _ rfl;have T:=lW b a 0;have o:=kQ b a 1 _ rfl;have E:=lW b a 1;have q2:=kQ b a 2 _ rfl;have L:=lW b a 2;have j:=kQ b a 3 _ rfl;have f3:=lW b a 3;have q:=kQ b a 4 _ rfl;have M:=lW b a 4;have n:Hid (β w w _):=below3 b a;go_wp2
  exact bodyPost_ret (v:=.tuple #[.agg _,_]) (by simp[results,results80,go_sem,m,o,q2,j,q]) rfl ⟨rfl,((((n.out.setCell (ja1 _) _).setCell (ja1 _) _).setCell (ja1 _) _).setCell (ja1 _) _).setCell (ja1 _) _⟩
 .have A:=ah z
  have HD:=ah hd;clear z hd;go_wp2_with fail
  clear t r1 r2 r u;refine(A.out _).mono ?_;rintro e w3 ⟨rfl,c⟩;have t:=pV a c 0 _ rfl;have m:=qx b a c 0 _ rfl;have T:=qy b a c 0;have r1:=pV a c 1 _ rfl;have o:=qx b a c 1 _ rfl;have E:=qy b a c 1;have r2:=pV a c 2 _ rfl;have q2:=qx b a c 2 _ rfl;have L:=qy b a c 2;have r:=pV a c 3 _ rfl;have j:=qx b a c 3 _ rfl;have f3:=qy b a c 3;have u:=pV a c 4 _ rfl;have q:=qx b a c 4 _ rfl;have M:=qy b a c 4
  have n:Hid (β w w _):=Df b a c;rcases HD.out with⟨B,rfl,rfl⟩|⟨B,rfl,rfl⟩
  all_goals
   go_wp2
   exact bodyPost_ret (v:=.tuple #[.agg _,_]) (by simp[results,results80,go_sem,m,o,q2,j,q]) rfl ⟨rfl,((((n.out.setCell (ja1 _) _).setCell (ja1 _) _).setCell (ja1 _) _).setCell (ja1 _) _).setCell (ja1 _) _⟩
def Ro(s:ByteArray)(w:ω) :
  κ prog 80 #[s] w λe b=>e=.returned (.tuple #[.agg (iy s).cells,aJ s])/\β w w b:=by
 by_cases a:bV s=0
 .exact Rq s w a
 .exact Rt s w a
def jE(d:Nat->DV)(k:Nat):SV:=λi=>if i<k/\dF (d i)=0 then S (kF (d i)) else O
def PW(d:Nat->DV)(k:Nat):jE d k k=none:=by unfold jE;simp_all
def Bh{d:Nat->DV}{k:Nat}(h:dF (d k)=0):jE d (k+1)=(jE d k).upd k (kF (d k)):=by
 funext i
 unfold jE SV.upd;by_cases e:i=k
 .simp_all
 .rw[if_neg e]
  show _=if i<k/\dF _=0 then S _ else O
  by_cases a:i<k/\dF (d i)=0
  .rw[if_pos a,if_pos ⟨by omega,a.2⟩]
  .rw[if_neg a,if_neg (λq=>a ⟨by omega,q.2⟩)]
def Bg{d:Nat->DV}{k:Nat}(h:dF (d k)≠0):jE d (k+1)=(jE d k).gone k:=by
 funext i
 unfold jE SV.gone;by_cases e:i=k
 .simp_all
 .rw[if_neg e]
  show _=if i<k/\dF _=0 then S _ else O
  by_cases a:i<k/\dF (d i)=0
  .rw[if_pos a,if_pos ⟨by omega,a.2⟩]
  .rw[if_neg a,if_neg (λq=>a ⟨by omega,q.2⟩)]
def oyZ(d:Nat->DV)(t:DV)(k:Nat):YV:=⟨d,t,jE d k,⟨0,0,0,0,0⟩,[],O⟩
def ofZ(w:ω)(b:Nat->Rh)(a:Rh)(k:Nat):Prop:=(∃ i,i<5/\(b i).fp k)\/a.fp k\/w.heap.size<=k
structure ZO(w:ω)(hs:Nat->Rh)(th:Rh)(zp sp:Nat)(y:YV)(Z:Zh)(W:ω):Prop where
 dM:aC W zp Z y
 fsp:Z.sp=sp
 fla:Z.la=O
 fjb:Z.jb=⟨0,O,0⟩
 ftp:Z.tp=th
 fp:∀ k,fpZ zp Z y k->ofZ w hs th k
 dp:∀ i,i<5->Z.dp y.s i=(hs i).p
 bel:β w w W
 new:w.heap.size<=zp/\w.heap.size<=sp
theorem ZO.below{w W d:ω}{c:Nat->Rh}{a:Rh}{f sp:Nat}{y:YV}{Z:Zh}(h:ZO w c a f sp y Z W)(b:β W W d):ZO w c a f sp y Z d :=
 ⟨h.dM.below b,h.fsp,h.fla,h.fjb,h.ftp,h.fp,h.dp,h.bel.trans (b.mono h.bel.size),h.new⟩
def zu(p:Nat->Nat)(a sp:Nat):Obj:=.cells #[p 0,p 1,p 2,p 3,p 4,a,sp,(0:Int),(0:Int),(0:Int),(0:Int),(0:Int),.slice O 0 0,.pointer O] 92 (0,0)
def mF:Obj:=.cells #[.pointer O,.pointer O,.pointer O,.pointer O,.pointer O] 87 (0,0)
def ZO.start{w W:ω}{c:Nat->Rh}{f:Rh}{d:Nat->DV}{t:DV}(hd:∀ i,i<5->bZ Gd.no w (c i) (d i))(u:bZ Gd.no w f t)(E:∀ i j,i<5->j<5->i≠j->∀ k,(c i).fp k->¬(c j).fp k)(B:∀ i,i<5->∀ k,f.fp k->¬(c i).fp k)
  (n:β w w W):∃ Z,ZO w c f (W.heap.size+1) W.heap.size (oyZ d t 0) Z ((W.alloc mF).alloc (zu (λi=>(c i).p) f.p W.heap.size)):=by
 have A:β w w (W.alloc mF):=n.alloc n.size _;have r:(W.alloc mF).heap.size=W.heap.size+1:=by simp
 have x:β w w ((W.alloc mF).alloc (zu (λi=>(c i).p) f.p W.heap.size)):=A.alloc A.size _
 have y:=λk (e:k<w.heap.size)=>x.block k e
 have b:∀ i,(oyZ d t 0).s i=none:=λi=>by show jE d 0 i=O;unfold jE;rw[if_neg (λe=>Nat.not_lt_zero _ e.1)]
 have q:=n.size;refine⟨⟨c,f,λ_=>⟨0,f,.slice O 0 0,.slice O 0 0⟩,W.heap.size,O,0,⟨0,O,0⟩⟩,⟨⟨?_,?_,λi v a z=>(by rw[b] at z;cases z),λi a _=>(hd i a).keep λk e=>y k ((hd i a).lt k e).2,u.keep λk e=>y k (u.lt k e).2,λi j a D C k m l=>?_,λi a k m l=>?_,⟨Nums.nil _ _,λg o e=>(by cases e),λg o e=>(by cases e)⟩,λj e=>(by cases e)⟩,rfl,rfl,rfl,rfl,λk e=>?_,λi a=>?_,x,Nat.le_succ_of_le q,q⟩⟩
 .refine⟨_,by rw[<- r];exact heap_alloc_new _ _,λi a=>?_,rfl,rfl,rfl,rfl,rfl,rfl,rfl,rfl,rfl⟩
  rw[Zh.dp_none (b i)]
  match i,a with
  | 0,_=>rfl
  | 1,_=>rfl
  | 2,_=>rfl
  | 3,_=>rfl
  | 4,_=>rfl
 .rw[b 0,b 1,b 2,b 3,b 4]
  show((W.alloc mF).alloc _).heap[W.heap.size]?=_
  rw[jam _ _ _ (by rw[r];exact Nat.lt_succ_self _)]
  exact heap_alloc_new W _
 .rw[Zh.dH (b i)] at m
  rw[Zh.dH (b j)] at l;exact E i j a D C k m l
 .rw[Zh.dH (b i)] at l
  exact B i a k m l
 .rcases e with e|e|⟨i,a,e⟩|e|e
  .exact .inr (.inr (by rw[e];omega))
  .exact .inr (.inr (by rw[e];exact q))
  .rw[Zh.dH (b i)] at e
   exact .inl ⟨i,a,e⟩
  .exact .inr (.inl e)
  .exact absurd rfl e.1
 .rw[Zh.dp_none (b i)]
def Ii{w:ω}{sp k:Nat}{a b c d e:υ}{T:TypeId}(h:w.heap[sp]?=S (.cells #[a,b,c,d,e] T (0,0)))(f:k<5):∃ v,w.cell? ⟨sp,k,O⟩=S v:=by
 rw[cell_of_row w sp k _ _ _ h]
 simp_all
def ZO.step{w W:ω}{y:Nat->Rh}{I:Rh}{A sp k m:Nat}{d:Nat->DV}{t:DV}{Z:Zh}(h:ZO w y I A sp (oyZ d t k) Z W)(n:k<5)(N:(d k).fine (d k).fl.length m) :
  κ prog 79 #[(y k).p] W λe c=>∃(F:Option Addr) (f:Int),e=.returned (.tuple #[.pointer F,f])/\β w w c/\c.cell? ⟨A,6,none⟩=S (sp:υ)/\(∃ v,c.cell? ⟨sp,k,none⟩=S v)/\c.frozen? ⟨sp,k,none⟩=false/\∃ Z',ZO w y I A sp (oyZ d t (k+1)) Z' (c.setCell ⟨sp,k,none⟩ (.pointer F)):=by
 have Q:(oyZ d t k).s k=none:=PW d k;obtain⟨H,o,R⟩:=h.dM.kP n;have J:(oyZ d t k).dev k=d k:=by unfold YV.dev;rw[Q];rfl
 rw[J] at H;rw[h.dp k n] at o;rw[<- o];refine(Qm W H.nG N (ja1 _)).mono ?_;rintro e c ⟨E,O⟩;have g:=h.below E;obtain⟨_,_,C,_⟩:=g.dM.blk.cells;rw[h.fsp] at C;have u:=g.dM.shf;rw[h.fsp] at u;have L:=Ii u n;have G:=frozen_of_row c sp k _ _ u;rcases O with⟨l,rfl⟩|⟨l,r,M,_,rfl,K⟩
 .refine⟨none,_,rfl,g.bel,C,L,G,?_⟩
  have B:Moved (Z.hd (oyZ d t k).s k).fp c (Z.hd (oyZ d t k).s k).fp c:=Moved.refl _ _;obtain⟨g1,g2⟩:=g.dM.yY n (D:=d k) B (by rw[<- J];exact(g.dM.kP n).1) rfl
  have x:({oyZ d t k with s:=(oyZ d t k).s.gone k,dv:=λi=>if i=k then d k else (oyZ d t k).dv i}:YV)=oyZ d t (k+1):=by
   have a:(λi=>if i=k then d k else (oyZ d t k).dv i)=d:=by
    funext i
    by_cases e:i=k
    .rw[if_pos e,e]
    .rw[if_neg e];rfl
   rw[a];show(⟨d,t,(jE d k).gone k,_,_,_⟩:YV)=⟨d,t,jE d (k+1),_,_,_⟩
   rw[Bg l];rfl
  rw[x] at g1 g2;rw[h.fsp] at g1 g2;have P  := h.new.2;refine⟨_,g1,rfl,h.fla,h.fjb,h.ftp,λb e=>?_,λi z=>?_,g.bel.setCell P _,h.new⟩
  .rcases g2.new b e with a|a
   .exact h.fp b a
   .exact .inr (.inr (ja4 g.bel.size a))
  .have q:=h.dp i z
   by_cases e:i=k
   .rw[e]
    have j:(oyZ d t (k+1)).s k=none:=by show jE d (k+1) k=none;rw[Bg l];unfold SV.gone;rw[if_pos rfl]
    rw[Zh.dp_none j];show(kG Z.ds k (Z.hd (oyZ d t k).s k) k).p=_
    unfold kG;rw[if_pos rfl,o]
   .have j:(oyZ d t (k+1)).s i=(oyZ d t k).s i:=by show jE d (k+1) i=jE d k i;rw[Bg l];unfold SV.gone;rw[if_neg e]
    rw[<- q];unfold Zh.dp;rw[j];show(match (oyZ d t k).s i with|none=>(kG Z.ds k _ i).p|some _=>(Z.qs i).d.p)=_
    unfold kG;rw[if_neg e];cases (oyZ d t k).s i<;>rfl
 .refine⟨S ⟨r.p,0,none⟩,_,rfl,g.bel,C,L,G,?_⟩
  have B:Moved (Z.hd (oyZ d t k).s k).fp W r.fp c:=⟨Below.kept E,λb e=>by
   have:=K.out b e
   rcases jat b W.heap.size with q|q
   .exact .inl (jai λa=>this ⟨q,a⟩)
   .exact .inr q⟩
  obtain⟨g1,g2⟩:=h.dM.made n B (K.re λ_ _ e=>e) (by rw[M])
  have x:({oyZ d t k with s:=(oyZ d t k).s.upd k (kF (d k))}:YV)=oyZ d t (k+1):=by
   show(⟨d,t,(jE d k).upd k (kF (d k)),_,_,_⟩:YV)=⟨d,t,jE d (k+1),_,_,_⟩
   rw[Bh l];rfl
  rw[x] at g1 g2;rw[h.fsp] at g1 g2;refine⟨_,g1,rfl,h.fla,h.fjb,h.ftp,λb e=>?_,λi z=>?_,g.bel.setCell h.new.2 _,h.new⟩
  .rcases g2.new b e with a|a
   .exact h.fp b a
   .exact .inr (.inr (ja4 h.bel.size a))
  .have q:=h.dp i z
   by_cases e:i=k
   .rw[e]
    have j:(oyZ d t (k+1)).s k=S (kF (d k)):=by show jE d (k+1) k=_;rw[Bh l];unfold SV.upd;rw[if_pos rfl]
    rw[Zh.kY j];show(iY Z.qs k r k).d.p=_
    unfold iY;rw[if_pos rfl,M,o]
   .have j:(oyZ d t (k+1)).s i=(oyZ d t k).s i:=by show jE d (k+1) i=jE d k i;rw[Bh l];unfold SV.upd;rw[if_neg e]
    rw[<- q];unfold Zh.dp;rw[j];show(match (oyZ d t k).s i with|none=>(Z.ds i).p|some _=>(iY Z.qs k r i).d.p)=_
    unfold iY;rw[if_neg e];cases (oyZ d t k).s i<;>rfl
structure ZP(w:ω)(hs:Nat->Rh)(th:Rh)(zp sp:Nat)(y:YV)(Z:Zh)(W:ω):Prop where
 dM:aC W zp Z y
 fsp:Z.sp=sp
 fla:∀ g o,Z.la=S ⟨g,o,O⟩->w.heap.size<=g/\g<W.heap.size
 fja:∀ g o,Z.jb.a=S ⟨g,o,O⟩->w.heap.size<=g/\g<W.heap.size
 fp:∀ k,fpZ zp Z y k->ofZ w hs th k
 bel:β w w W
 new:w.heap.size<=zp/\w.heap.size<=sp
def ZO.p{w W:ω}{b:Nat->Rh}{a:Rh}{c sp:Nat}{y:YV}{Z:Zh}(h:ZO w b a c sp y Z W):ZP w b a c sp y Z W :=
 ⟨h.dM,h.fsp,λg o e=>(by rw[h.fla] at e;cases e),λg o e=>(by rw[h.fjb] at e;cases e),h.fp,h.bel,h.new⟩
theorem ZP.below{w W d:ω}{c:Nat->Rh}{b:Rh}{f sp:Nat}{y:YV}{Z:Zh}(h:ZP w c b f sp y Z W)(a:β W W d):ZP w c b f sp y Z d :=
 ⟨h.dM.below a,h.fsp,λg o e=>⟨(h.fla g o e).1,ja9 (h.fla g o e).2 a.size⟩,λg o e=>⟨(h.fja g o e).1,ja9 (h.fja g o e).2 a.size⟩,h.fp,h.bel.trans (a.mono h.bel.size),h.new⟩
theorem ZP.cells{w W:ω}{b:Nat->Rh}{c:Rh}{a sp:Nat}{y:YV}{Z:Zh}(h:ZP w b c a sp y Z W):W.cell? ⟨a,6,O⟩=S (sp:υ)/\(W.cell? ⟨a,7,O⟩=S (y.kd.root:υ)/\W.cell? ⟨a,8,O⟩=S (y.kd.kind:υ)/\W.cell? ⟨a,9,O⟩=S (y.kd.file:υ)/\W.cell? ⟨a,10,O⟩=S (y.kd.rate:υ)/\W.cell? ⟨a,11,O⟩=S (y.kd.burst:υ))/\(∃ v,W.cell? ⟨a,12,O⟩=S v)/\(∃ v,W.cell? ⟨a,13,O⟩=S v)/\∀ i,W.frozen? ⟨a,i,O⟩=false:=by
 obtain⟨_,_,d,o,j,m,g,n,f,k,l⟩:=h.dM.blk.cells;rw[h.fsp] at d
 simp_all
theorem ZP.qN{w W:ω}{c:Nat->Rh}{b:Rh}{a sp:Nat}{y:YV}{Z:Zh}(h:ZP w c b a sp y Z W)(K:aP):ZP w c b a sp {y with kd:=K} Z (W.setCells a 7 (kdV K)):=by
 obtain⟨g1,g2⟩:=h.dM.qN K;have d:=size_setCells a (kdV K) 7 W;refine⟨g1,h.fsp,λg o e=>⟨(h.fla g o e).1,by rw[d];exact(h.fla g o e).2⟩,λg o e=>⟨(h.fja g o e).1,by rw[d];exact(h.fja g o e).2⟩,λk e=>h.fp k e,?_,h.new⟩
 exact((((h.bel.setCell h.new.1 _).setCell h.new.1 _).setCell h.new.1 _).setCell h.new.1 _).setCell h.new.1 _
theorem ZP.sD{w W:ω}{f:Nat->Rh}{i:Rh}{b sp lc:Nat}{y:YV}{Z:Zh}{a:Option Addr}{l:List Int}(h:ZP w f i b sp y Z W)(d:Nums W a l)(c:l≠[])(m:∀ g o,a=S ⟨g,o,O⟩->w.heap.size<=g)(n:Apart a (fpZ b Z y)):ZP w f i b sp {y with l:=l} {Z with la:=a,lc:=lc} (W.setCell ⟨b,12,O⟩ (.slice a l.length lc)):=by
 obtain⟨g1,g2⟩:=h.dM.sD  d c n;have j:(W.setCell ⟨b,12,O⟩ (.slice a l.length lc)).heap.size=W.heap.size:=by simp_all
 exact⟨g1,h.fsp,λg o e=>⟨m g o e,by rw[j];exact d.lt c e⟩,λg o e=>⟨(h.fja g o e).1,by rw[j];exact(h.fja g o e).2⟩,λk e=>h.fp k e,h.bel.setCell h.new.1 _,h.new⟩
def ZP.vM{w W c:ω}{q:Nat->Rh}{t:Rh}{d sp m C:Nat}{y:YV}{Z:Zh}{b:Zj}{j:JV}(h:ZP w q t d sp y Z W)(l:β W W c)(f:RJ c sp b.xp b.a b.cap Z.qs y.s m C j j.state)(r:W.heap.size<=b.xp/\∀ g o,b.a=S ⟨g,o,O⟩->W.heap.size<=g):ZP w q t d sp {y with j:=S j} {Z with jb:=b} (c.setCell ⟨d,13,O⟩ b.xp):=by
 rw[<- h.fsp] at f;obtain⟨g1,g2⟩:=h.dM.started l f r (h.dM.below l) (.refl Z) (Moved.refl _ _);have u:(c.setCell ⟨d,13,O⟩ b.xp).heap.size=c.heap.size:=by simp_all
 have n:=h.below l;refine⟨g1,h.fsp,λg o e=>⟨(n.fla g o e).1,by rw[u];exact(n.fla g o e).2⟩,λg o e=>⟨ja4 h.bel.size (r.2 g o e),by rw[u];exact f.nums.lt f.ok.ne e⟩,λk e=>?_,n.bel.setCell h.new.1 _,h.new⟩
 rcases g2.new k e with i|i
 .exact h.fp k i
 .exact .inr (.inr (ja4 h.bel.size i))
def jV(w:ω)(f:Nat->Rh)(i:Rh)(d:Nat->DV)(t:DV)(e:Ending)(b:ω):Prop:=β w w b /\
 ((jo d t≠0/\e=.returned (.tuple #[.pointer O,jo d t]))\/(jo d t=0/\∃(c:Nat) (Z:Zh),e=.returned (.tuple #[c,(0:Int)])/\aC b c Z (jF d t)/\(∀ k,fpZ c Z (jF d t) k->ofZ w f i k)/\(∀ g o,Z.la=S ⟨g,o,O⟩->w.heap.size<=g/\g<b.heap.size)/\∀ g o,Z.jb.a=S ⟨g,o,O⟩->w.heap.size<=g/\g<b.heap.size))
def ZP.done{w W:ω}{c:Nat->Rh}{b:Rh}{a sp:Nat}{d:Nat->DV}{t:DV}{Z:Zh}(h:ZP w c b a sp (jF d t) Z W)(f:jo d t=0):jV w c b d t (.returned (.tuple #[a,(0:Int)])) W :=
 ⟨h.bel,.inr ⟨f,a,Z,rfl,h.dM,h.fp,h.fla,h.fja⟩⟩
def jV.from{w f W:ω}{i:Nat->Rh}{l:Rh}{d:Nat->DV}{t:DV}{e:Ending}(a:β w w f)(h:jV f i l d t e W):jV w i l d t e W:=by
 obtain⟨s,b⟩:=h;refine⟨a.trans (s.mono a.size),?_⟩;rcases b with b|⟨m,n,Z,r,u,q,j,c⟩
 .exact .inl b
 .refine .inr ⟨m,n,Z,r,u,λk e=>?_,λg o e=>⟨ja4 a.size (j g o e).1,(j g o e).2⟩,λg o e=>⟨ja4 a.size (c g o e).1,(c g o e).2⟩⟩
  rcases q k e with e|e|e
  .exact .inl e
  .exact .inr (.inl e)
  .exact .inr (.inr (ja4 a.size e))
def JZ{K:aP}(h:K.kv.fault=0)(c:K.kind=0):K=aj K.root:=by
 have b:=of_decide_eq_true (KV.qC h).2;obtain⟨r,k,f,a,u⟩:=K;simp only[aP.kv] at b;rcases b with⟨_,d,g,i⟩|⟨d,_⟩
 .subst c;unfold aj;simp_all
 .simp_all
def FY{d:Nat->DV}{t:DV}(h:lF (aK d) (ak t)≠true):jF d t=⟨d,t,aK d,aj (ak t).root,((aK d).walk (ak t).root).1,O⟩:=by unfold jF;simp_all
def FZ{d:Nat->DV}{t:DV}(h:lF (aK d) (ak t)=true):jF d t=⟨d,t,aK d,ak t,((aK d).walk (ak t).root).1,S (gI (aK d) (ak t))⟩:=by unfold jF;simp_all
