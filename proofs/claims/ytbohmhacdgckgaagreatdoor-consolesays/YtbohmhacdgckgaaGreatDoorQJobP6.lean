/- A part. -/
import Derived.Test.YtbohmhacdgckgaaGreatDoorQRyP8
set_option linter.all false
set_option maxHeartbeats 4000000
set_option maxRecDepth 100000
namespace Go.Proofs.YtbohmhacdgckgaaGreatDoor
open Go.RowKit renaming Below->β, Hid->χ
open Go renaming World->ω, Value->υ, Calls->κ
open Option renaming none->O, some->S
open Go.Proofs.Tryz Go.RowKit Go.Maps
attribute [local go_sem ↓] Go.wp_at_zero Go.wp_at_succ
def lg(a:Nat->Rh)(k:Nat)(h:Rh):Nat->Rh:=λi=>if i=k then h else a i
def Zh.hd(Z:Zh)(s:SV)(i:Nat):Rh:=match s i with
 | none=>Z.ds i
 | some _=>(Z.qs i).d
def au.lJ{w c i Z y}(h:au w c Z y)(b:i<5):dh Gd.no w (Z.hd y.s i) (y.dev i)/\(Z.hd y.s i).p=Z.dp y.s i/\∀ k,(Z.hd y.s i).fp k->Z.fpF y.s i k:=by
 unfold Zh.hd YV.dev Zh.dp Zh.fpF
 cases a:y.s i with
 | none=>exact⟨h.dev i b a,rfl,λk e=>e⟩
 | some v=>exact⟨(h.img i v b a).dev,rfl,λk e=>.inr (.inr (.inr e))⟩
def KF{w:ω}{sp i}{qs qs':Nat->Qh}{s s':SV}(h:w.heap[sp]?=S (.cells #[bZ (qs 0) (s 0),bZ (qs 1) (s 1),bZ (qs 2) (s 2),bZ (qs 3) (s 3),bZ (qs 4) (s 4)] 87 (0,0)))(a:i<5)(b:∀ j,j≠i->bZ (qs' j) (s' j)=bZ (qs j) (s j)) :
  (w.setCell ⟨sp,i,O⟩ (bZ (qs' i) (s' i))).heap[sp]?=S (.cells #[bZ (qs' 0) (s' 0),bZ (qs' 1) (s' 1),bZ (qs' 2) (s' 2),bZ (qs' 3) (s' 3),bZ (qs' 4) (s' 4)] 87 (0,0)):=by
 rw[heap_setCell_same w sp i _ _ _ h]
 match i,a with
 | 0,_=>simp_all
 | 1,_=>simp_all
 | 2,_=>simp_all
 | 3,_=>simp_all
 | 4,_=>simp_all
def au.made{w a f i Z y}(h:au w f Z y)(g:i<5){x v}(l:Moved (Z.hd y.s i).fp w x.fp a)(E:aU Gd.no a x v)(C:x.d.p=(Z.hd y.s i).p) :
  au (a.setCell ⟨Z.sp,i,O⟩ x.p) f {Z with qs:=jL Z.qs i x} {y with s:=y.s.upd i v}/\Moved (fpZ f Z y) w (fpZ f {Z with qs:=jL Z.qs i x} {y with s:=y.s.upd i v}) (a.setCell ⟨Z.sp,i,O⟩ x.p):=by
 obtain⟨G,A,B⟩:=h.lJ g;have c:y.s.upd i v i=some v:=by unfold SV.upd;rw[if_pos rfl]
 have r:jL Z.qs i x i=x:=by unfold jL;rw[if_pos rfl]
 have t:Moved _ w (({Z with qs:=jL Z.qs i x}:Zh).fpF _ i) a:=⟨l.kept.mono λk _ e=>B k e,λk e=>by
  rw[Zh.eY c] at e;rcases l.new k (by simp_all) with n|n
  .simp_all
  .exact .inr n⟩
 have D:=h.pY.1 i g
 have z:∀ b,x.fp b->b≠Z.sp:=λb e n=>by
  rcases l.new b e with F|F
  .simp_all
  .have:=lt_of_some h.shf;omega
 have q:=KF (qs':=jL Z.qs i x) (s':=y.s.upd i v) ((t.block (lt_of_some h.shf) D).trans h.shf) g λj m=>by unfold jL SV.upd;simp_all
 rw[c,r] at q;refine h.qH   g t (Kept.setCell (S:=λk=>k=Z.sp)  (Kept.refl _ a) (.inl rfl) _) q ?_ (λu o=>?_) (λo=>?_) (λj m=>⟨by show SV.upd _ _ _ _=_;unfold SV.upd;rw[if_neg m],rfl,by show jL Z.qs i x j=_;unfold jL;rw[if_neg m],rfl⟩) ⟨rfl,rfl,rfl,rfl,rfl⟩ ⟨rfl,rfl,rfl,rfl⟩
 .rw[Zh.lX c,<- A,<- C];simp_all
 .cases (c.symm.trans o);rw[show({Z with qs:=jL Z.qs i x}:Zh).qs i=x from r];exact E.aY λb e=>heap_setCell_other _ _ _ _ (z b e)
 .simp_all
def au.Ac{w a f i Z y}(h:au w f Z y)(g:i<5){d D}(m:Moved (Z.hd y.s i).fp w d.fp a)(hd:dh Gd.no a d D)(x:d.p=(Z.hd y.s i).p) :
  au (a.setCell ⟨Z.sp,i,O⟩ (.pointer O)) f {Z with ds:=lg Z.ds i d} {y with s:=y.s.gone i,dv:=λk=>if k=i then D else y.dv k}/\Moved (fpZ f Z y) w (fpZ f {Z with ds:=lg Z.ds i d} {y with s:=y.s.gone i,dv:=λk=>if k=i then D else y.dv k}) (a.setCell ⟨Z.sp,i,O⟩ (.pointer O)):=by
 obtain⟨E,t,v⟩:=h.lJ g;have l:y.s.gone i i=none:=by unfold SV.gone;simp_all
 have C:lg Z.ds i d i=d:=by unfold lg;simp_all
 have o:Moved _ w (({Z with ds:=lg Z.ds i d}:Zh).fpF _ i) a:=⟨m.kept.mono λk _ e=>v k e,λk e=>by
  rw[Zh.dN l] at e;rcases m.new k (by simp_all) with q|q
  .simp_all
  omega⟩
 have A:=h.pY.1 i g
 have r:∀ b,d.fp b->b≠Z.sp:=λb e q=>by
  rcases m.new b e with B|B
  .simp_all
  .have:=lt_of_some h.shf;omega
 have n:=KF  (s':=y.s.gone i) ((o.block (lt_of_some h.shf) A).trans h.shf) g λj c=>by unfold SV.gone;rw[if_neg c]
 rw[l] at n;refine h.qH   g o (Kept.setCell (S:=λk=>k=Z.sp)  (Kept.refl _ a) (.inl rfl) _) n ?_ (λu z=>?_) (λz=>?_) (λj c=>⟨by show SV.gone _ _ _=_;unfold SV.gone;rw[if_neg c],if_neg c,rfl,by show lg Z.ds i d j=_;unfold lg;rw[if_neg c]⟩) ⟨rfl,rfl,rfl,rfl,rfl⟩ ⟨rfl,rfl,rfl,rfl⟩
 .rw[Zh.dp_none l,<- t,<- x];simp_all
 .simp_all
 .rw[show({Z with ds:=lg Z.ds i d}:Zh).ds i=d from C];show dh _ _ d (if i=i then D else y.dv i)
  rw[if_pos rfl];exact hd.keep λb e=>heap_setCell_other _ _ _ _ (r b e)
def bz(a b c:Int):Obj:=.cells #[a,b,c] 67 (0,0)
def Aw{W:ω}{N a b c}(h:W.heap[N]?=S (bz a b c)):W.cell? ⟨N,0,O⟩=S (a:υ)/\W.cell? ⟨N,1,O⟩=S (b:υ)/\W.cell? ⟨N,2,O⟩=S (c:υ):=by
 refine⟨?_,?_,?_⟩<;>(rw[cell_of_row _ _ _ _ _ _ h];rfl)
def au.creates{w W f}{i N:Nat}{m C Z y back R}(h:au w f Z y)(A:YOk y C m)(c:i<5)(hm:m+20<1000000000)(K:y.used (i:Int)≠true)(hR:R=oI (y.dev i).fl.length (C:Int))(o:β w w W)(hN:w<=N)(t:W.heap[N]?=S (bz (C:Int) R back)) :
  κ prog 37 #[Z.dp y.s i,.agg #[(C:Int),R,back]] W λe w'=>∃ F,e=.returned (.tuple #[.pointer F,y.dP (i:Int) back]) /\
   (w'.cell? ⟨f,i,O⟩=S (Z.dp y.s i:υ)/\w'.cell? ⟨N,0,O⟩=S (.int .i64 (C:Int))/\w'.cell? ⟨N,1,O⟩=S (R:υ)/\w'.cell? ⟨N,2,O⟩=S (back:υ))/\w'.cell? ⟨f,6,O⟩=S (Z.sp:υ)/\(∃ v,w'.cell? ⟨Z.sp,i,O⟩=S v)/\w'.frozen? ⟨Z.sp,i,O⟩=false /\
   aF f Z y (y.blank (i:Int) back) w (w'.setCell ⟨Z.sp,i,O⟩ (.pointer F)):=by
 have a:=h.below o;obtain⟨Y,l,n⟩:=a.lJ c;have U:¬(Z.hd y.s i).fp N:=λe=>by have:=h.gG (.inr (.inr (.inl ⟨i,c,n N e⟩)));omega
 have E  := λe=>a.lC.2.1 i c (n f e)
 have I  := λe=>a.pY.1 i c (n _ e)
 have L:y.head (i:Int) back=⟨(C:Int),R,back⟩:=by
  unfold YV.head;rw[A.ch.iO,show((i:Int)).toNat=i by omega,hR]
 have J:((i:Int)).toNat=i:=by omega
 have hF:y.dP (i:Int) back=crF (y.dev i) ⟨(C:Int),R,back⟩:=by
  unfold YV.dP;rw[if_pos ⟨by omega,by omega⟩,if_neg K,L,J]
 have V:y.blank (i:Int) back=if crF (y.dev i) ⟨(C:Int),R,back⟩=0 then {y with s:=y.s.upd i (crV (y.dev i) ⟨(C:Int),R,back⟩)} else {y with s:=y.s.gone i,dv:=λk=>if k=i then jB (y.dev i) ⟨(C:Int),R,back⟩ else y.dv k}:=by
  unfold YV.blank;rw[if_pos ⟨by omega,by omega⟩,if_neg K,L,J]
 have H:∀ w':ω,w'.heap[f]?=W.heap[f]?->w'.heap[N]?=W.heap[N]?->w'.heap[Z.sp]?=W.heap[Z.sp]? ->
   (w'.cell? _=S _/\w'.cell? _=S _/\w'.cell? _=S _/\w'.cell? _=S _)/\w'.cell? _=S _/\(∃ v,w'.cell? _=S v)/\w'.frozen? _=false:=λw' P e2 Q=>by
  obtain⟨c0,_,c6,_⟩:=a.blk.cells;exact⟨⟨(jab  P).trans (c0 i c),Aw (e2.trans t)⟩,(jab  P).trans c6,⟨_,(jab  Q).trans ((a.shelf A.s).cell c)⟩,(jaI  Q).trans (frozen_of_row W Z.sp i _ _ a.shf)⟩
 rw[<- l,hF];refine(Fh (C:Int) R back W Y.ou (A.dev i) hm (ja1 _)).mono ?_;rintro e w' ⟨x,M,_,X,u|u⟩
 .obtain⟨g,rfl,G⟩:=u;have b  := oz X (λ_ e=>e.1) G.out;obtain⟨q,z⟩:=a.made c b (G.re λ_ _ e=>e) M;obtain⟨j,B,r,D⟩:=H w' (b.block a.blk.lt E) (b.block (lt_of_some t) U) (b.block (lt_of_some a.shf) I);rw[l];refine⟨S _,by rw[g],j,B,r,D,?_⟩;rw[V,if_pos g];exact⟨{Z with qs:=jL Z.qs i x},⟨rfl,rfl,rfl,rfl,rfl⟩,q,(Moved.of_below o).trans z⟩
 .obtain⟨g,rfl,T⟩:=u;have b  := oz X (λ_ e=>e.1) T.out;obtain⟨q,z⟩:=a.Ac c b T.noG M;obtain⟨j,B,r,D⟩:=H w' (b.block a.blk.lt E) (b.block (lt_of_some t) U) (b.block (lt_of_some a.shf) I);rw[l];refine⟨O,rfl,j,B,r,D,?_⟩;rw[V,if_neg g];exact⟨{Z with ds:=lg Z.ds i x.d},⟨rfl,rfl,rfl,rfl,rfl⟩,q,(Moved.of_below o).trans z⟩
def sG(y:YV)(f:Int)(k:Nat):Bool:=y.busy&&(y.kd.file==f)||(y.l.take k).contains f
def Y7(y f):sG y f 0=(y.busy&&(y.kd.file==f)):=by unfold sG;simp
def Y0{y f k}(a:k<y.l.length):sG y f (k+1)=(sG y f k||(y.l.getD k 0==f)):=by
 unfold sG;rw[jaK a,List.contains_append,Bool.or_assoc];congr 2;rw[ja6,ja5 a];simp only[List.contains_cons,List.contains_nil,jbB,Option.getD_some];exact BEq.comm
def YZ(y f):sG y f y.l.length=y.used f:=by
 unfold sG YV.used;rw[jaT];rfl
def MF{a C m Z y}(f back:Int)(w)(h:au w a Z y)(t:YOk y C m)(hC:C<=40)(hm:m+20<1000000000) :
  κ prog 48 #[a,f,back] w λe w'=>e=.returned (y.dP f back)/\aF a Z y (y.blank f back) w w':=by
 have J:χ (aF a Z y y w w):=aF.refl h;by_cases G:0<=f/\f<5
 .obtain⟨i,rfl⟩:∃ i:Nat,f=(i:Int):=⟨f.toNat,by omega⟩;have D:i<5:=by omega
  have HG:=ah (sN w h);obtain⟨c0,_,c6,c7,_,c9,_,_,Y,_⟩:=h.blk.cells
  obtain⟨g,o,a4⟩:∃ g o,Z.la=S ⟨g,o,O⟩:=by
   obtain⟨g,o,e,_⟩:=h.list.1 0 (List.length_pos_iff.2 t.ch.ne);exact⟨g,o,e⟩
  have ae:χ (∀ k,k<y.l.length->w.cell? ⟨g,o+k,O⟩=S (.int .i64 (y.l.getD k 0))):=λk Q=>by
   obtain⟨g',o',j,K⟩:=h.list.1 k Q;rw[a4] at j;cases j;exact K
  rw[a4] at Y;have g0:decide ((i:Int)<0)=false:=decide_eq_false (by omega);have g5:decide (5<=(i:Int))=false:=decide_eq_false (by omega);have al:=t.ch.len;obtain⟨U,T⟩:∃ U:Nat->Bool,U=sG y (i:Int):=⟨_,rfl⟩;have V:U 0=(y.busy&&(y.kd.file==(i:Int))):=by rw[T];exact Y7 y _
  have a3:χ (∀ k,k<y.l.length->U (k+1)=(U k||(y.l.getD k 0==(i:Int)))):=λk Q=>by rw[T];exact Y0 Q
  have ab:χ (U y.l.length=y.used (i:Int)):=by unfold χ;rw[T];exact YZ y _
  have x:χ (y.used (i:Int)=true->y.dP (i:Int) back=5/\aF a Z y (y.blank (i:Int) back) w w):=λB=>⟨by unfold YV.dP;rw[if_pos G,if_pos B],by unfold YV.blank;rw[if_pos G,if_pos B];exact J⟩
  obtain⟨v,E,ag⟩:=t.ch.root;obtain⟨r0,r5,_⟩:=SV.eG E;obtain⟨r,az⟩:∃ r:Nat,y.kd.root=(r:Int):=⟨y.kd.root.toNat,by omega⟩;rw[az] at E c7;have ac:=h.shelf t.s;have M:=ac.kU E;obtain⟨a1,_⟩:=ac.iM E;have a9:=a1.cells;obtain⟨d1,d2,d3⟩:=h.lJ D;have b:=d1.cells.1;rw[d2] at b;have d:=ah (λ(W:ω) (N:Nat) (R:Int) B hR c hN av=>h.creates (W:=W) (N:=N) (back:=back) (R:=R) t D hm B hR c hN av);rw[show((r:Int)).toNat=r by omega] at M a1 a9;obtain⟨_,X,_⟩:=a9;rw[ag] at X;have ap:=(t.dev i).ok.n2;have a5:=c0 i D;have a7:=ah λW=>qG C W (by omega)
  have af:aB C<=5:=by unfold aB;omega
  have F:Int.tdiv (((y.dev i).fl.length:Int)-1-(aB C:Int)) 4=oI (y.dev i).fl.length (C:Int):=by unfold oI;rw[show((C:Int)).toNat=C by omega]
  have q:χ (∀ W:ω,β w w W->W.cell? ⟨a,i,O⟩=S (Z.dp y.s i:υ)/\W.cell? ⟨Z.dp y.s i,0,O⟩=S (.slice (S ⟨(Z.hd y.s i).bf,0,O⟩) (y.dev i).fl.length (Z.hd y.s i).cf)):=λW c=>⟨(h.below c).blk.cells.1 i D,(c.cell (p:=⟨Z.dp y.s i,0,O⟩) (ja2 _ _ b)).trans b⟩
  have a0:χ (U y.l.length=false->y.used (i:Int)≠true):=λe=>by rw[<- ab.out,e];decide
  rw[<- ab.out] at x;generalize (Z.qs r).p=H at M X;generalize Z.dp y.s i=dp at a5 b d q;generalize (Z.hd y.s i).bf=bf at b q;generalize (Z.hd y.s i).cf=cf at b q;generalize aL:(y.dev i).fl.length=L at b ap F d q;generalize y.dP (i:Int) back=BF at x d |-;generalize y.blank (i:Int) back=y2 at x d |-;generalize y.l.length=ln at Y ae a3 x al a0;generalize aB C=P at a7 af F;generalize ax:oI L (C:Int)=R at F;have am:=ah ax;have aE : -300<=R/\R<=300:=by have:=Int.natAbs_tdiv_le_natAbs ((L:Int)-1-(P:Int)) 4;rw[F] at this;omega
  have aa:χ (∀ W:ω,W=((w.alloc (bz (C:Int) R back)).drew.drew).drew->β w w W/\W.heap[w.heap.size]?=S (bz (C:Int) R back)):=λW e=>by subst e;exact⟨((ja0 _ _).alloc (ja1 _) _).drew.drew.drew,heap_alloc_new w _⟩
  unfold bz at d aa;cases c:y.busy
  all_goals
   rw[c] at HG V;simp only[jbn,Bool.false_and] at V;go_enter func48,ntmps48;go_wp2_with fail;refine cEq HG λw' hw=>?_
   have ar:=hw.symm;subst ar;go_wp2;go_loop [8,9] (λu k=>∃ n:Nat,n<=ln/\u=.bool (U n)/\k=.int .i64 (n:Int)) (λ_ k=>ln-(intOf k).toNat)
   case atStart=>exact⟨0,ja7 _,by rw[V],rfl⟩
   case round =>
    obtain⟨n,hn,rfl,rfl⟩:=hrel;by_cases a8:n<ln
    .have ai:=ae n a8;have z:=a3 n a8;have n0:(0:Int)<=(n:Int):=by omega
     have n1:(n:Int)<(ln:Int):=by omega
     generalize y.l.getD n 0=en at ai z;cases A:U n
     .rw[A,jbT] at z;go_wp2;go_round
      case rel =>
       exact⟨n+1,by omega,by rw[z],by go_num⟩
      case measure=>simp[intOf];omega
     .rw[A,Bool.true_or] at z;go_wp2;go_round
      case rel =>
       exact⟨n+1,by omega,by rw[z],by go_num⟩
      case measure=>simp[intOf];omega
    .have j:n=ln:=by omega
     subst j;cases A:U n
     .have aq:=ah (a0 A);have n3:(r:Int)<5:=by omega
      have n4:(0:Int)<=(r:Int):=by omega
      have d6:w.drew.cell? ⟨a,6,O⟩=S (Z.sp:υ):=c6;have d7:w.drew.cell? ⟨a,7,O⟩=S (.int .i64 (r:Int)):=c7;have d8:w.drew.cell? ⟨Z.sp,r,O⟩=S (H:υ):=M;have d9:w.drew.cell? ⟨H,1,O⟩=S (.int .i64 (C:Int)):=X;go_wp2
      go_region_held3 (λW=>W.cell? ⟨a,6,O⟩=S (Z.sp:υ)/\W.cell? ⟨a,7,O⟩=S (.int .i64 (r:Int))/\W.cell? ⟨Z.sp,r,O⟩=S (H:υ)/\W.cell? ⟨H,1,O⟩=S (.int .i64 (C:Int)))
       (first|(exact⟨d6,d7,d8,d9⟩)|assumption)
       (fail)
      have k1:IntKind.i64.wrap ((L:Int)-1)=(L:Int)-1:=ja9 _ (by omega);have k2:IntKind.i64.wrap ((L:Int)-1-(P:Int))=(L:Int)-1-(P:Int):=ja9 _ (by omega);have k3:IntKind.i64.wrap R=R:=ja9 _ (by omega);go_wp2
      go_region_held3 (λW=>W.cell? ⟨a,i,O⟩=S (dp:υ)/\W.cell? ⟨dp,0,O⟩=S (.slice (S ⟨bf,0,O⟩) L cf))
       (first|(exact⟨a5,b⟩)|assumption|(exact q _ ((ja0 _ _).alloc (ja1 _) _).drew.drew))
       (first|(go_at_call 107;refine cSt (a7 _) ?_))
      all_goals
       obtain⟨a6,ad⟩:=aa _ rfl;have aw:=ah (d _ w.heap.size R aq am.symm a6 (ja1 _) ad);have an:=And.intro (q _ a6).1 (Aw ad);go_wp2
       go_region_held3 (λW=>W.cell? ⟨a,i,O⟩=S (dp:υ)/\W.cell? ⟨w,0,O⟩=S (.int .i64 (C:Int))/\W.cell? ⟨w,1,O⟩=S (R:υ)/\W.cell? ⟨w,2,O⟩=S (back:υ))
        (first|(exact an)|assumption)
        (first|(go_at_call 37;refine aw.mono ?_;rintro e w3 ⟨po,rfl,aD,q6,⟨v3,q7⟩,q8,a2⟩;have I:=ah a2;clear a2))
       go_wp2;go_ret;exact⟨rfl,I⟩
     .obtain⟨e5,ao⟩:=x A;have I:=ah ao;go_wp2;go_ret
      first|exact⟨rfl,I⟩|exact⟨by rw[e5],I⟩
 .have j:y.dP f back=1:=by unfold YV.dP;rw[if_neg G]
  have K:y.blank f back=y:=by unfold YV.blank;rw[if_neg G]
  rw[j,K];by_cases h0:f<0
  .have g0:decide (f<0)=true:=decide_eq_true h0;go_enter func48,ntmps48;go_wp2;go_ret;exact⟨rfl,J⟩
  .have g0:decide (f<0)=false:=decide_eq_false h0;have g1:decide (5<=f)=true:=decide_eq_true (by omega);go_enter func48,ntmps48;go_wp2;go_ret;exact⟨rfl,J⟩
def Ot(y:YV)(f back):0<=y.dP f back:=by
 unfold YV.dP;split
 .split
  .decide
  .exact Oq _ _
 .decide
def UQ(w:ω)(n:Int):(w.alloc (.cells #[n] 3)).ownsRow w 3 1 (.slice (S ⟨w,0,O⟩) 1 1) 1 [.int .i64 n] :=
 ⟨rfl,.inr ⟨w,1, #[n],rfl,ja1 _,heap_alloc_new w _,ja1 _,by decide,rfl,rfl⟩⟩
def kap{d C m Z y}(f:Int)(w)(h:au w d Z y)(G:YOk y C m)(hC:C<=40)(hm:m+40<1000000000) :
  κ prog 50 #[d,f] w λe w'=>e=.returned (y.iU f)/\bY d Z y (y.snap f) w w':=by
 have a4:χ (bY d Z y y w w):=(aF.refl h).out;have t:=ah (sN w h);by_cases c:y.busy=true
 .have i:y.iU f=8:=by unfold YV.iU;rw[if_pos c]
  have x:y.snap f=y:=by unfold YV.snap;rw[if_pos (.inl c)]
  rw[c] at t;rw[i,x];go_enter func50,ntmps50;go_wp2_with fail;refine cSt t ?_;go_wp2;go_ret;exact⟨rfl,a4⟩
 .rw[show y.busy=false by simpa using c] at t;obtain⟨_,_,_,c7,_,_,_,_,af,_⟩:=h.blk.cells;by_cases k:y.l.length=4
  .have i:y.iU f=6:=by unfold YV.iU;rw[if_neg c,if_pos k]
   have x:y.snap f=y:=by unfold YV.snap;rw[if_pos (.inr k)]
   rw[i,x];rw[k] at af;go_enter func50,ntmps50;go_wp2_with fail;refine cSt t ?_;go_wp2;go_ret;exact⟨rfl,a4⟩
  .have g4:((y.l.length:Int)==4)=false:=by
    have:¬((y.l.length:Int)=4):=by omega
    simpa using this
   have L:=ah (MF f y.kd.root w h G hC (by omega));have hP:=Ot y f y.kd.root;by_cases z:y.dP f y.kd.root=0
   .obtain⟨i0,i5,D,b0,_⟩:=Aq z;have ag:=G.blank f y.kd.root (by omega);obtain⟨b1,b2,b3,b4⟩:=EF y f y.kd.root;obtain⟨s1,s2,s3,s4⟩:=nY (y.blank f y.kd.root) (aj f);have a3:=ah λW=>xO f W
    have N:χ (∀ W s:ω,aF d Z y (y.blank f y.kd.root) w W->β W W s->κ prog 38 #[d,kdG (aj f)] s λe w'=>e=.returned (.int .i64 (y.blank f y.kd.root).aN)/\aF d Z y ((y.blank f y.kd.root).aA (aj f)) w w'):=λW s ⟨X,i,g1,g2⟩ c=>by
     refine cEq (vK (m:=m+15) (aj f) s (g1.below c) ag.top (lW i0 (by omega)) (by omega)) λw' k=>?_
     exact⟨rfl,aF.trans i g2 (aF.from c k)⟩
    have P:y.iU f=(y.blank f y.kd.root).aN:=by unfold YV.iU;rw[if_neg c,if_neg k,if_pos z]
    have Y:y.snap f=if (y.blank f y.kd.root).aN=0 then {(y.blank f y.kd.root).aA (aj f) with l:=f::y.l} else (y.blank f y.kd.root).aA (aj f):=by unfold YV.snap;rw[if_neg (by rintro(e|e);exact c e;exact k e),if_pos z]
    have hQ:=AV (y.blank f y.kd.root);rw[z] at L;rw[P,Y];by_cases K:(y.blank f y.kd.root).aN=0
    .rw[if_pos K,K];rw[K] at N
     obtain⟨g,o,U⟩:∃ g o,Z.la=S ⟨g,o,O⟩:=by
         obtain⟨g,o,e,_⟩:=h.list.1 0 (List.length_pos_iff.2 G.ch.ne);exact⟨g,o,e⟩
     have aL:χ (∀ W:ω,aF d Z y ((y.blank f y.kd.root).aA (aj f)) w W->W.cell? ⟨d,12,O⟩=S (.slice (S ⟨g,o,O⟩) y.l.length Z.lc)/\(W.alloc (.cells #[f] 3)).cell? ⟨d,12,O⟩=S (.slice (S ⟨g,o,O⟩) y.l.length Z.lc)/\(∀ j u,(jI y.l)[j]?=S u->(W.alloc (.cells #[f] 3)).cell? ((⟨g,o,O⟩:Addr).add j)=S u) /\
          ∀(g3 q:Nat) (b:ω),b.ownsRow W.heap.size 3 1 (.slice (S ⟨g3,0,O⟩) (1+y.l.length) q) (1+y.l.length) ([.int .i64 f]++jI y.l)->(W.alloc (.cells #[f] 3)).grownBy b (S W.heap.size)->g3<b.heap.size->W.heap.size<=g3->(∃ v,b.cell? ⟨d,12,O⟩=S v)/\b.frozen? ⟨d,12,O⟩=false/\bY d Z y {(y.blank f y.kd.root).aA (aj f) with l:=f::y.l} w (b.setCell ⟨d,12,O⟩ (.slice (S ⟨g3,0,O⟩) (1+y.l.length) q))):=λW ⟨X,i,g1,g2⟩=>by
         have I:((y.blank f y.kd.root).aA (aj f)).l=y.l:=s3.trans b3;obtain⟨_,_,_,_,_,_,_,_,ac,_⟩:=g1.blk.cells;rw[i.la,i.lc,U,I] at ac;have ab:β W W (W.alloc (.cells #[f] 3)):=(ja0 _ _).alloc (ja1 _) _;have gA:=g1.below ab;refine⟨ac,?_,λj u E=>?_,λg3 q b ho hg J av=>?_⟩
         .obtain⟨_,_,_,_,_,_,_,_,M,_⟩:=gA.blk.cells;rw[i.la,i.lc,U,I] at M;exact M
         .have R:j<y.l.length:=by
              rcases jav j y.l.length with e|e
              .exact e
              .rw[jaj (by simpa [jI] using e)] at E;cases E
          obtain⟨g',o',x,e3⟩:=gA.list.1 j (by rw[I];exact R);rw[i.la,U] at x;cases x;rw[I] at e3
          have D:u=.int .i64 (y.l.getD j 0):=by
              unfold jI at E;rw[jaz,ja5 R] at E;rw[ja6,ja5 R]
              simpa using E.symm
          have ea:(⟨g,o,O⟩:Addr).add j=⟨g,o+j,O⟩:=by unfold Addr.add;split<;>simp_all
          rw[D,ea];exact e3
         .have ae  := ab.grown hg (by simp) (λr e=>by cases e;exact ja1 _);have ad:=g1.below ae;obtain⟨_,_,_,_,_,_,_,_,M,_,kf⟩:=ad.blk.cells;have aD  := CY (l:=f::y.l) (B:=W.heap.size) (n:=1+y.l.length) (cap:=q) ho (by simp;omega)
          obtain⟨p1,p2⟩:=ad.um (lc:=q) aD (by intro e;cases e) (λg' o' e hf=>by
              cases e;have:=g1.gG hf
              omega)
          rw[show(f::y.l).length=1+y.l.length by simp;omega] at p1 p2;refine⟨⟨_,M⟩,kf 12,{X with la:=S ⟨g3,0,O⟩,lc:=q},.inr λg' o' e=>?_,.inl (by show X.jb.a=_;rw[i.jb]),p1,g2.trans ((Moved.of_below ae).trans p2)⟩;cases e;exact⟨ja4 g2.size av,by simpa [World.setCell] using J⟩
     obtain⟨i1,aw,aq,az,al⟩:=info_parts uS;have an  := List.length_pos_iff.2 G.ch.ne;have b5:=G.ch.len;have am:χ ((jI y.l).length=y.l.length*1):=by unfold χ jI;simp
     have aE:χ (∀ u∈jI y.l,u.oneCell'=true):=λu D=>by
         unfold jI at D;obtain⟨a,_,rfl⟩:=List.mem_map.1 D;rfl
     have ai:χ (1+y.l.length<=maxLen):=by unfold χ maxLen;omega
     generalize ({(y.blank f y.kd.root).aA (aj f) with l:=f::y.l}:YV)=z3 at *
     generalize (y.blank f y.kd.root).aA (aj f)=z2 at *
     generalize y.blank f y.kd.root=z1 at *
     generalize jI y.l=nv at *
     generalize y.l.length=ln at *
     unfold kdG aj at *
     simp only at *
     go_enter func50,ntmps50;go_wp2_with fail;refine cSt t ?_;go_wp2_with fail;refine cEq L λw1 A=>?_
     have V:=ah (λs c=>N _ s A c);go_wp2_with fail;refine cEq (a3 _) λw2 a0=>?_
     have T:=ah (V _ a0);go_wp2_with fail;refine cEq T λb Q=>?_
     obtain⟨aR,aM,ao,ap⟩:=aL _ Q;have a2:=ah ao;have a6:=ah ap;have a7:=ah (UQ b f);have HZ:χ ((b.alloc (.cells #[f] 3)).heap.size=b.heap.size+1):=by unfold χ;simp
     have ax:χ (b.heap.size<=(b.alloc (.cells #[f] 3)).heap.size):=by unfold χ;simp
     go_wp2_with (at_builtin;refine wpList_append_lies _ (by rfl) _ _ 88 (by rfl) b.heap.size 3 i1 (.int .i64 0) 1 8 underlying88 aw aq az al rfl (by decide) (.slice (S ⟨b,0,O⟩) 1 1) 1 [f] (by rfl) a7 ⟨g,o,O⟩ ln Z.lc nv (by rfl) am a2 aE an ai (by omega) ax (b.heap.size+1) HZ ?_;intro g3 q w4 a9 a5 aa J
                  have ar:=a6 g3 q w4 a9 a5 J (by rcases aa with e|e;(have x:b.heap.size=g3:=by simpa [Value.ownBlock] using e);omega;omega);obtain⟨⟨v,u12⟩,uf,a8⟩:=ar;have H:=ah a8
                  clear a9 a5 aa J a8 a6 a2 a7)
     go_ret;exact⟨rfl,H⟩
    .rw[if_neg K];have gF:decide (0<(y.blank f y.kd.root).aN)=true:=decide_eq_true (by omega);have a1:=ah λW (hd:aF d Z y ((y.blank f y.kd.root).aA (aj f)) w W)=>hd.out
     generalize (y.blank f y.kd.root).aA (aj f)=z2 at *
     generalize (y.blank f y.kd.root).aN=F at *
     generalize y.blank f y.kd.root=z1 at *
     generalize y.l.length=ln at *
     unfold kdG aj at *
     simp only at *
     go_enter func50,ntmps50;go_wp2_with fail;refine cSt t ?_;go_wp2_with fail;refine cEq L λw1 A=>?_
     have V:=ah (λs c=>N _ s A c);go_wp2_with fail;refine cEq (a3 _) λw2 a0=>?_
     have T:=ah (V _ a0);go_wp2_with fail;refine cEq T λb Q=>?_
     have H:=ah (a1 _ Q);go_wp2;go_ret;exact⟨rfl,H⟩
   .have P:y.iU f=y.dP f y.kd.root:=by unfold YV.iU;rw[if_neg c,if_neg k,if_neg z]
    have Y:y.snap f=y.blank f y.kd.root:=by unfold YV.snap;rw[if_neg (by rintro(e|e);exact c e;exact k e),if_neg z]
    have gF:decide (0<y.dP f y.kd.root)=true:=decide_eq_true (by omega);have a1:=ah λW (hd:aF d Z y (y.blank f y.kd.root) w W)=>hd.out
    rw[P,Y];generalize y.dP f y.kd.root=F at *
    generalize y.blank f y.kd.root=z1 at *
    generalize y.l.length=ln at *
    go_enter func50,ntmps50;go_wp2_with fail;refine cSt t ?_;go_wp2_with fail;refine cEq L λw1 A=>?_
    have H:=ah (a1 _ A);go_wp2;go_ret;exact⟨rfl,H⟩
def au.Nc{w a Z y n}(h:au w a Z y)(d:0<=n):aF a Z y (y.arm (-1) n) w (w.setCell ⟨Z.tp.p,3,O⟩ n):=by
 obtain⟨f,c⟩:=h.qL    ⟨h.top.todR.failing n,λ_ _ e=>e⟩ rfl ⟨(Kept.refl _ _).setCell (.inl (.inl rfl)) _,λ_ b=>.inl b⟩;unfold YV.arm;rw[if_pos ⟨by omega,by omega,d⟩];exact⟨_,⟨rfl,rfl,rfl,rfl,rfl⟩,f,c⟩
def au.Nb{w x}{i:Nat}{Z y n}(h:au w x Z y)(b:i<5)(D:0<=n):aF x Z y (y.arm (i:Int) n) w (w.setCell ⟨Z.dp y.s i,3,O⟩ n):=by
 have B:((i:Int)).toNat=i:=by omega
 have A:∀ {w':ω},(w'.heap[Z.sp]?=w.heap[Z.sp]?)->w'.heap[Z.sp]?=S (.cells #[bZ (Z.qs 0) (y.s 0),bZ (Z.qs 1) (y.s 1),bZ (Z.qs 2) (y.s 2),bZ (Z.qs 3) (y.s 3),bZ (Z.qs 4) (y.s 4)] 87 (0,0)):=λe=>e.trans h.shf
 unfold YV.arm;rw[if_pos ⟨by omega,by omega,D⟩,if_neg (by omega),B]
 cases a:y.s i with
 | none =>
  have hd:=h.dev i b a;rw[Zh.dp_none a];have g:Kept (Z.ds i).fp w (w.setCell ⟨(Z.ds i).p,3,O⟩ n):=(Kept.refl _ _).setCell (.inl (.inl rfl)) _;have c:Moved (Z.fpF y.s i) w (Z.fpF y.s i) (w.setCell ⟨(Z.ds i).p,3,O⟩ n):=⟨g.mono λk _ e=>by rw[Zh.dN a];exact e,λ_ e=>.inl e⟩
  obtain⟨o,t⟩:=h.qH (Z':=Z) (y':={y with dv:=λk=>if k=i then (y.dv k).failing n else y.dv k}) b c (Kept.refl _ _) (A (c.block (lt_of_some h.shf) (h.pY.1 i b))) rfl (λv F=>by simp_all) (λ_=>by
   show dh Gd.no _ (Z.ds i) (if i=i then (y.dv i).failing n else y.dv i)
   rw[if_pos rfl]
   exact⟨hd.todR.failing n,λ_ _ e=>e⟩) (λj q=>⟨rfl,if_neg q,rfl,rfl⟩) ⟨rfl,rfl,rfl,rfl,rfl⟩ ⟨rfl,rfl,rfl,rfl⟩
  exact⟨Z,.refl Z,o,t⟩
 | some v =>
  have m:=h.img i v b a;rw[Zh.lX a];have g:Kept (Z.qs i).d.fp w (w.setCell ⟨(Z.qs i).d.p,3,O⟩ n):=(Kept.refl _ _).setCell (.inl (.inl rfl)) _;have C:=Led.dev m    ⟨m.dev.todR.failing n,m.dev.out⟩ rfl g (λr e=>.inl e);have l:y.s.upd i {v with d:=v.d.failing n} i=S {v with d:=v.d.failing n}:=by unfold SV.upd;rw[if_pos rfl]
  have c:Moved (Z.fpF _ i) w (Z.fpF _ i) _:=⟨g.mono λk _ e=>by rw[Zh.eY a];exact .inr (.inr (.inr e)),λk e=>.inl (by rw[Zh.eY l] at e;rw[Zh.eY a];exact e)⟩
  have f:∀ j,bZ (Z.qs j) (y.s.upd i {v with d:=v.d.failing n} j)=bZ _ (y.s j):=λj=>by
   unfold SV.upd;by_cases e:j=i
   .rw[if_pos e,e,a];rfl
   .rw[if_neg e]
  obtain⟨o,t⟩:=h.qH  (y':={y with s:=y.s.upd i _}) b c (Kept.refl _ _) (by
   rw[f,f,f,f,f];exact A (c.block (lt_of_some h.shf) (h.pY.1 i b))) (by rw[Zh.lX l,Zh.lX a]) (λu z=>by
   have E  := l.symm.trans z;cases E;exact C.rim) (λz=>by
   simp_all) (λj q=>⟨by show SV.upd _ _ _ _=_;unfold SV.upd;rw[if_neg q],rfl,rfl,rfl⟩) ⟨rfl,rfl,rfl,rfl,rfl⟩ ⟨rfl,rfl,rfl,rfl⟩
  exact⟨Z,.refl Z,o,t⟩
def kae{d Z y}(f n:Int)(w)(h:au w d Z y) :
  κ prog 62 #[d,f,n] w λe w'=>e=.returned (YV.jF f n)/\aF d Z y (y.arm f n) w w':=by
 by_cases b : -1<=f/\f<5/\0<=n
 .have c:YV.jF f n=0:=by unfold YV.jF;rw[if_pos b]
  rw[c];obtain⟨m,t,_⟩:=h.blk.cells;by_cases r:f = -1
  .subst r;obtain⟨_,_,_,t3,_,g⟩:=h.top.todR.cells;have a:=ah (h.Nc b.2.2);generalize y.arm (-1) n=y1 at *
   generalize y.top.fail=o at *
   go_enter func62,ntmps62;go_wp2;go_ret;exact⟨rfl,a⟩
  .obtain⟨i,rfl⟩:∃ i:Nat,f=(i:Int):=⟨f.toNat,by omega⟩;have j:i<5:=by omega
   obtain⟨l,k,_⟩:=h.lJ j;obtain⟨_,_,_,t3,_,g⟩:=l.todR.cells;have z:=g 3;rw[k] at *
   have x:=m i j;have a:=ah (h.Nb j b.2.2);clear h c m t g l k;generalize y.arm (i:Int) n=y1 at *
   generalize (y.dev i).fail=o at *
   generalize Z.dp y.s i=dp at *
   go_enter func62,ntmps62;go_wp2;go_ret;exact⟨rfl,a⟩
 .have c:YV.jF f n=1:=by unfold YV.jF;rw[if_neg b]
  have q:y.arm f n=y:=by unfold YV.arm;rw[if_neg b]
  have a:χ _:=aF.refl h;rw[c,q];by_cases u:f < -1
  .go_enter func62,ntmps62;go_wp2;go_ret;exact⟨rfl,a⟩
  .by_cases v:5<=f
   .go_enter func62,ntmps62;go_wp2;go_ret;exact⟨rfl,a⟩
   .go_enter func62,ntmps62;go_wp2;go_ret;exact⟨rfl,a⟩
def Jq(s)(h:s.size=16):∃b c a d,((s[5]'b).toNat:Int)=bAt s 5/\((s[6]'c).toNat:Int)=bAt s 6/\((s[7]'a).toNat:Int)=bAt s 7/\((s[8]'d).toNat:Int)=bAt s 8 :=
 ⟨by omega,by omega,by omega,by omega,oP s 5 _,oP s 6 _,oP s 7 _,oP s 8 _⟩
def KV.Qa{d:KV}(h:d.fault≠0):0<d.fault:=by
 unfold KV.fault at *
 omega
def Vl(s w)(a:cZ s≠0) :
  κ prog 76 #[s] w λe w'=>e=.returned (.tuple #[.agg (iV s).cells,erV (aN s)])/\β w w w':=by
 have d:=xX s (w.alloc (.cells #[(0:Int),(0:Int),(0:Int),(0:Int),(0:Int)] 82));have g:aN s=cZ s:=by unfold aN;rw[if_neg a]
 have j:iV s=KV.zero:=by unfold iV;rw[if_neg (λh=>a h.1)]
 have b:erV (cZ s)=.iface 96 (.int .i64 (cZ s)):=by unfold erV;rw[if_neg a]
 rw[g,j,b];rw[b] at d;generalize cZ s=f at *
 go_enter func76,ntmps76;go_wp2_with fail;refine cEq d λl c=>?_
 obtain⟨i,k⟩:=oQ c;go_wp2;exact bodyPost_ret (v:=.tuple #[.agg #[(0:Int),(0:Int),(0:Int),(0:Int),(0:Int)],.iface 96 _]) (by simp[results,results76,go_sem,i]) rfl ⟨rfl,((((((((ja0 _ _).alloc (ja1 _) _).trans (c.mono (by simp))).setCell (by simp) _).setCell (by simp) _).setCell (by simp) _).setCell (by simp) _).setCell (by simp) _)⟩
def tk{P d b Q f listed a w oi v}(i)(n:b[i]?=S oi)(h:wpAnyH P d b Q (λ_=>True) f (listed.setIfInBounds i true) (a.put oi.dst v) w)
  (l:Region.noSelect b=true:=by kernel_rfl) (g:Region.free d b listed i=true:=by kernel_rfl) (k:(Region.ready d b listed).contains i=true:=by kernel_rfl) (m:∀ c a w,Q (.panic c) (a.put oi.dst v) w->Q (.panic c) a w:=by exact λ_ _ _ h=>h) (j:YieldsIf P b (λ_=>True) oi v a:=by exact Or.inl ⟨by rfl,by (intro w o;go_simp;try with_reducible rfl)⟩):wpAnyH P d b Q (λ_=>True) (f+1) listed a w :=
 wpAnyH_take n l g k m j trivial h
def r1{P c b Q S d listed a w}(i){o}(f:b[i]?=some o)
  (h:∀ K',Shut (∀ a w,S w->(S w->wpAnyH P c b Q S d (listed.setIfInBounds i true) a w)->K' a w)->if Region.wanted o (yielded b a.tmps)=true then Oper.wp P o a w K' Q else K' (a.put o.dst undef) w)
  (g:Region.ready c b listed=[i]:=by kernel_rfl):wpAnyH P c b Q S (d+1) listed a w:=wpAnyH_ready g (by simp) (jbQ f h AllReadyH.nil)
def r2{P d b Q S f listed a w}(i j){o c}(l:b[i]?=some o)(g:b[j]?=some c)
  (h:∀ K',Shut (∀ a w,S w->(S w->wpAnyH P d b Q S f (listed.setIfInBounds i true) a w)->K' a w)->if Region.wanted o (yielded b a.tmps)=true then Oper.wp P o a w K' Q else K' (a.put o.dst undef) w)
  (k:∀ K',Shut (∀ a w,S w->(S w->wpAnyH P d b Q S f (listed.setIfInBounds j true) a w)->K' a w)->if Region.wanted c (yielded b a.tmps)=true then Oper.wp P c a w K' Q else K' (a.put c.dst undef) w)
  (m:Region.ready d b listed=[i,j]:=by kernel_rfl):wpAnyH P d b Q S (f+1) listed a w:=wpAnyH_ready m (by simp) (jbQ l h (jbQ g k AllReadyH.nil))
def OM(s)(d:cZ s=0):∃ X E,(∀ W,κ prog 104 #[.agg #[bAt s 2,bAt s 3,(bAt s 4-1:Int),(bAt s 5+bAt s 6*256:Int),(bAt s 7+bAt s 8*256:Int)]] W λe w'=>e=.returned (.tuple #[.string X,E])/\β W W w') /\
  (((∃ fl,E=.iface 96 (.int .i64 fl))\/E=.nilIface/\(X.toList==s.toList)=false)/\(iV s).cells = #[.int .i64 0,.int .i64 0,.int .i64 0,.int .i64 0,.int .i64 0]/\erV (aN s)=.iface 96 (.int .i64 2)\/E=.nilIface/\(X.toList==s.toList)=true/\(iV s).cells = #[.int .i64 (bAt s 2),.int .i64 (bAt s 3),.int .i64 (bAt s 4-1),.int .i64 (bAt s 5+bAt s 6*256),.int .i64 (bAt s 7+bAt s 8*256)]/\erV (aN s)=.nilIface):=by
 have f:nN s=false->(iV s).cells = #[.int .i64 0,.int .i64 0,.int .i64 0,.int .i64 0,.int .i64 0]/\erV (aN s)=.iface 96 (.int .i64 2):=λc=>by
  unfold aN iV;rw[c,if_neg (λh=>by cases h.2),if_pos d,if_neg (by decide)];exact⟨rfl,yD⟩
 by_cases a:(qU s).fault=0
 .refine⟨_,_,λW=>FD _ _ _ _ _ W a,?_⟩
  cases b:((gK (qU s).bytes).toList==s.toList) with
  | false=>exact .inl ⟨.inr ⟨rfl,b⟩,f (by unfold nN;rw[b,jbw])⟩
  | true =>
   have c:nN s=true:=by unfold nN;rw[b,decide_eq_true a];rfl
   refine .inr ⟨rfl,b,?_⟩;unfold aN iV;rw[if_pos d,if_pos c,if_pos ⟨d,c⟩];exact⟨rfl,aJ⟩
 .exact⟨_,_,λW=>OL _ _ _ _ _ W a,.inl ⟨.inl ⟨_,rfl⟩,f (by unfold nN;rw[decide_eq_false a];rfl)⟩⟩
def Vk(s w)(d:cZ s=0) :
  κ prog 76 #[s] w λe w'=>e=.returned (.tuple #[.agg (iV s).cells,erV (aN s)])/\β w w w':=by
 have i:=xX s (w.alloc (.cells #[(0:Int),(0:Int),(0:Int),(0:Int),(0:Int)] 82));obtain⟨X,E,j,g⟩:=OM s d;have f:s.size=16:=zO d;obtain⟨h2,H,h4,b2,y,b4⟩:=zn s f;obtain⟨h5,h6,h7,h8,P,R,b7,b8⟩:=Jq s f;obtain⟨l2,u2⟩:=jA s 2;obtain⟨B,u3⟩:=jA s 3;obtain⟨C,u4⟩:=jA s 4;obtain⟨W,u5⟩:=jA s 5;obtain⟨l6,u6⟩:=jA s 6;obtain⟨G,u7⟩:=jA s 7;obtain⟨l8,u8⟩:=jA s 8;have n:=ah j;have m:=ah g;rw[d,aJ] at *
 have u:=ah i;generalize (iV s).cells=D at *
 generalize erV (aN s)=V at *
 clear i d j g f;generalize bAt s 2=I at *
 generalize bAt s 3=x3 at *
 generalize bAt s 4=Q at *
 generalize bAt s 5=x5 at *
 generalize bAt s 6=x6 at *
 generalize bAt s 7=U at *
 generalize bAt s 8=M at *
 have i2:(2:Int)<(s.size:Int):=by omega
 have i3:(3:Int)<(s.size:Int):=by omega
 have F:(4:Int)<(s.size:Int):=by omega
 have Y:(5:Int)<(s.size:Int):=by omega
 have i6:(6:Int)<(s.size:Int):=by omega
 have Z:(7:Int)<(s.size:Int):=by omega
 have T:(8:Int)<(s.size:Int):=by omega
 go_enter func76,ntmps76;go_wp2_with fail;refine u.mono ?_;rintro e o ⟨rfl,c⟩;obtain⟨N,hf⟩:=oQ c;have A:w.heap.size<o:=by have:=c.size;simp at *;omega
 go_wp2;refine wp_region_noPanic ?_;refine wp_region_held_drew (S:=λ_=>True) (by kernel_rfl) trivial (λhHeld=>?_);refine tk 0 rfl ?_;simp only[Act.put];refine tk 1 rfl ?_;simp only[Act.put];refine tk 2 rfl ?_;simp only[Act.put];refine tk 3 rfl ?_;simp only[Act.put];refine tk 4 rfl ?_;simp only[Act.put];refine tk 5 rfl ?_;simp only[Act.put];refine tk 6 rfl ?_;simp only[Act.put];refine tk 7 rfl ?_;simp only[Act.put];refine tk 8 rfl ?_;simp only[Act.put];refine tk 9 rfl ?_;simp only[Act.put];refine tk 10 rfl ?_;simp only[Act.put];refine tk 11 rfl ?_;simp only[Act.put];refine tk 12 rfl ?_;simp only[Act.put];refine tk 13 rfl ?_;simp only[Act.put];refine tk 15 rfl ?_;simp only[Act.put];refine tk 16 rfl ?_;simp only[Act.put];refine tk 17 rfl ?_;simp only[Act.put];refine tk 18 rfl ?_;simp only[Act.put];refine r2 14 21 rfl rfl (λK b=>?_) (λK b=>?_)
 all_goals (go_simp;(try (go_at_call 152;refine(yY _ _ _ (by assumption) (by assumption) (by assumption) (by assumption)).mono ?_;rintro e w' ⟨rfl,rfl⟩;try go_wp2_with fail));refine b _ _ trivial (λ_=>?_);clear b K;try simp only[Act.put,jae])
 refine r2 19 21 rfl rfl (λK b=>?_) (λK b=>?_);rotate_left 2;refine r1 14 rfl λK b=>?_
 all_goals (go_simp;(try (go_at_call 152;refine(yY _ _ _ (by assumption) (by assumption) (by assumption) (by assumption)).mono ?_;rintro e w' ⟨rfl,rfl⟩;try go_wp2_with fail));refine b _ _ trivial (λ_=>?_);clear b K;try simp only[Act.put,jae])
 refine r1 19 rfl λK b=>?_;rotate_left;refine tk 20 rfl ?_;simp only[Act.put];refine r1 21 rfl λK b=>?_;rotate_left;refine r1 19 rfl λK b=>?_;rotate_left
 all_goals (go_simp;(try (go_at_call 152;refine(yY _ _ _ (by assumption) (by assumption) (by assumption) (by assumption)).mono ?_;rintro e w' ⟨rfl,rfl⟩;try go_wp2_with fail));refine b _ _ trivial (λ_=>?_);clear b K;try simp only[Act.put,jae])
 refine tk 20 rfl ?_;simp only[Act.put];rotate_left 2;refine tk 20 rfl ?_;simp only[Act.put]
 all_goals refine r1 22 rfl λK b=>?_
 all_goals (go_simp;(try (go_at_call 152;refine(yY _ _ _ (by assumption) (by assumption) (by assumption) (by assumption)).mono ?_;rintro e w' ⟨rfl,rfl⟩;try go_wp2_with fail));refine b _ _ trivial (λ_=>?_);clear b K;try simp only[Act.put,jae])
 all_goals refine wpAnyH_done (by kernel_rfl) (NoPanic.normal ?_) _
 all_goals
  go_wp2_with fail;refine(n _).mono ?_;rintro e w2 ⟨rfl,a⟩;have z:=mX a 0 _ rfl;have q:=lK c a 0 _ rfl;have f0:=ni c a 0;have r1:=mX a 1 _ rfl;have t:=lK c a 1 _ rfl;have f1:=ni c a 1;have r2:=mX a 2 _ rfl;have q2:=lK c a 2 _ rfl;have J:=ni c a 2;have r3:=mX a 3 _ rfl;have l:=lK c a 3 _ rfl;have f3:=ni c a 3;have r4:=mX a 4 _ rfl;have x:=lK c a 4 _ rfl;have L:=ni c a 4;have r:χ (β w w _):=below3 c a;rcases m with⟨⟨fl,rfl⟩|⟨rfl,k⟩,rfl,rfl⟩|⟨rfl,k,rfl,rfl⟩
  all_goals
   go_wp2;exact bodyPost_ret (v:=.tuple #[.agg _,_]) (by simp[results,results76,go_sem,q,t,q2,l,x]) rfl ⟨rfl,((((r.setCell (ja1 _) _).setCell (ja1 _) _).setCell (ja1 _) _).setCell (ja1 _) _).setCell (ja1 _) _⟩
def Vj(s:ByteArray)(w) :
  κ prog 76 #[s] w λe w'=>e=.returned (.tuple #[.agg (iV s).cells,erV (aN s)])/\β w w w':=by
 by_cases a:cZ s=0
 .exact Vk s w a
 .exact Vl s w a
def VE(s w)(a:cZ s≠0) :
  κ prog 80 #[s] w λe w'=>e=.returned (.tuple #[.agg (iV s).cells,aN s])/\β w w w':=by
 have i:=yV s (w.alloc (.cells #[(0:Int),(0:Int),(0:Int),(0:Int),(0:Int)] 82));have c:aN s=cZ s:=by unfold aN;rw[if_neg a]
 have g:iV s=KV.zero:=by unfold iV;rw[if_neg (λh=>a h.1)]
 have j:=DL a;rw[c,g];generalize cZ s=f at *
 go_enter func80,ntmps80;go_wp2_with fail;refine cEq i λl b=>?_
 obtain⟨d,k⟩:=oQ b;go_wp2;exact bodyPost_ret (v:=.tuple #[.agg #[(0:Int),(0:Int),(0:Int),(0:Int),(0:Int)],f]) (by simp[results,results80,go_sem,d]) rfl ⟨rfl,((((((((ja0 _ _).alloc (ja1 _) _).trans (b.mono (by simp))).setCell (by simp) _).setCell (by simp) _).setCell (by simp) _).setCell (by simp) _).setCell (by simp) _)⟩
def VF(s)(c:cZ s=0):∃ F X,(∀ W,κ prog 127 #[.agg #[bAt s 2,bAt s 3,(bAt s 4-1:Int),(bAt s 5+256*bAt s 6:Int),(bAt s 7+256*bAt s 8:Int)]] W λe w'=>e=.returned (.int .i64 F)/\β W W w') /\
  (0<F/\(iV s).cells = #[.int .i64 0,.int .i64 0,.int .i64 0,.int .i64 0,.int .i64 0]/\aN s=2\/F=0/\(∀ W,κ prog 112 #[.agg #[bAt s 2,bAt s 3,(bAt s 4-1:Int),(bAt s 5+256*bAt s 6:Int),(bAt s 7+256*bAt s 8:Int)]] W λe w'=>e=.returned (.string X)/\β W W w')/\((X.toList==s.toList)=false/\(iV s).cells = #[.int .i64 0,.int .i64 0,.int .i64 0,.int .i64 0,.int .i64 0]/\aN s=2\/(X.toList==s.toList)=true/\(iV s).cells = #[.int .i64 (bAt s 2),.int .i64 (bAt s 3),.int .i64 (bAt s 4-1),.int .i64 (bAt s 5+256*bAt s 6),.int .i64 (bAt s 7+256*bAt s 8)]/\aN s=0)):=by
 have f:nN s=false->(iV s).cells = #[.int .i64 0,.int .i64 0,.int .i64 0,.int .i64 0,.int .i64 0]/\aN s=2:=λb=>by
  unfold aN iV;rw[b,if_neg (λh=>by cases h.2),if_pos c,if_neg (by decide)];exact⟨rfl,rfl⟩
 rw[show bAt s 5+256*bAt s 6=bAt s 5+bAt s 6*256 by omega,show bAt s 7+256*bAt s 8=bAt s 7+bAt s 8*256 by omega];refine⟨_,gK (qU s).bytes,λW=>Fv _ _ _ _ _ W,?_⟩;by_cases a:(qU s).fault=0
 .refine .inr ⟨a,λW=>Fz _ _ _ _ _ W a,?_⟩
  cases d:((gK (qU s).bytes).toList==s.toList) with
  | false=>exact .inl ⟨rfl,f (by unfold nN;rw[d,jbw])⟩
  | true =>
   have b:nN s=true:=by unfold nN;rw[d,decide_eq_true a];rfl
   refine .inr ⟨rfl,?_⟩;unfold aN iV;rw[if_pos c,if_pos b,if_pos ⟨c,b⟩];exact⟨rfl,rfl⟩
 .exact .inl ⟨KV.Qa a,f (by unfold nN;rw[decide_eq_false a];rfl)⟩
def VD(s w)(f:cZ s=0) :
  κ prog 80 #[s] w λe w'=>e=.returned (.tuple #[.agg (iV s).cells,aN s])/\β w w w':=by
 have q:=yV s (w.alloc (.cells #[(0:Int),(0:Int),(0:Int),(0:Int),(0:Int)] 82));obtain⟨F,X,u,t⟩:=VF s f;have i:s.size=16:=zO f;obtain⟨P,h3,U,b2,T,b4⟩:=zn s i;obtain⟨h5,h6,h7,h8,b5,b6,Z,b8⟩:=Jq s i;obtain⟨l2,u2⟩:=jA s 2;obtain⟨Y,u3⟩:=jA s 3;obtain⟨l4,u4⟩:=jA s 4;obtain⟨l5,u5⟩:=jA s 5;obtain⟨l6,u6⟩:=jA s 6;obtain⟨l7,u7⟩:=jA s 7;obtain⟨l8,u8⟩:=jA s 8;have B:=ah u;have L:=ah t;rw[f] at *
 have I:=ah q;generalize (iV s).cells=D at *
 generalize aN s=V at *
 clear q f u t i;generalize bAt s 2=x2 at *
 generalize bAt s 3=R at *
 generalize bAt s 4=x4 at *
 generalize bAt s 5=x5 at *
 generalize bAt s 6=x6 at *
 generalize bAt s 7=x7 at *
 generalize bAt s 8=x8 at *
 have Q:(2:Int)<(s.size:Int):=by omega
 have i3:(3:Int)<(s.size:Int):=by omega
 have i4:(4:Int)<(s.size:Int):=by omega
 have i5:(5:Int)<(s.size:Int):=by omega
 have i6:(6:Int)<(s.size:Int):=by omega
 have i7:(7:Int)<(s.size:Int):=by omega
 have i8:(8:Int)<(s.size:Int):=by omega
 go_enter func80,ntmps80;go_wp2_with fail;refine I.mono ?_;rintro e G ⟨rfl,b⟩;obtain⟨hc,hf⟩:=oQ b;have W:w.heap.size<G:=by have:=b.size;simp at *;omega
 go_wp2;refine wp_region_noPanic ?_;refine wp_region_held_drew (S:=λ_=>True) (by kernel_rfl) trivial (λhHeld=>?_);refine tk 0 rfl ?_;simp only[Act.put];refine tk 1 rfl ?_;simp only[Act.put];refine tk 2 rfl ?_;simp only[Act.put];refine tk 3 rfl ?_;simp only[Act.put];refine tk 4 rfl ?_;simp only[Act.put];refine tk 5 rfl ?_;simp only[Act.put];refine tk 6 rfl ?_;simp only[Act.put];refine tk 7 rfl ?_;simp only[Act.put];refine tk 8 rfl ?_;simp only[Act.put];refine tk 9 rfl ?_;simp only[Act.put];refine tk 10 rfl ?_;simp only[Act.put];refine tk 11 rfl ?_;simp only[Act.put];refine tk 12 rfl ?_;simp only[Act.put];refine tk 13 rfl ?_;simp only[Act.put];refine tk 14 rfl ?_;simp only[Act.put];refine tk 15 rfl ?_;simp only[Act.put];refine tk 16 rfl ?_;simp only[Act.put];refine tk 17 rfl ?_;simp only[Act.put];refine tk 18 rfl ?_;simp only[Act.put];refine tk 19 rfl ?_;simp only[Act.put];refine tk 20 rfl ?_;simp only[Act.put];refine tk 21 rfl ?_;simp only[Act.put];refine tk 22 rfl ?_;simp only[Act.put];refine tk 23 rfl ?_;simp only[Act.put];refine tk 24 rfl ?_;simp only[Act.put];refine tk 25 rfl ?_;simp only[Act.put];refine tk 26 rfl ?_;simp only[Act.put];refine r1 27 rfl λK d=>?_
 (go_simp;refine d _ _ trivial (λ_=>?_);clear d K;try simp only[Act.put,jae])
 refine r1 28 rfl λK d=>?_
 (go_simp;refine d _ _ trivial (λ_=>?_);clear d K;try simp only[Act.put,jae])
 refine wpAnyH_done (by kernel_rfl) (NoPanic.normal ?_) _;go_wp2_with fail;refine(B _).mono ?_;rintro e w2 ⟨rfl,a⟩;have o:=mX a 0 _ rfl;have r1:=mX a 1 _ rfl;have r2:=mX a 2 _ rfl;have n:=mX a 3 _ rfl;have r:=mX a 4 _ rfl;rcases L with⟨J,rfl,rfl⟩|⟨rfl,x,hd⟩
 .have hd:decide (0<F)=true:=by simpa using J
  have j:=lK b a 0 _ rfl;have H:=ni b a 0;have l:=lK b a 1 _ rfl;have A:=ni b a 1;have q2:=lK b a 2 _ rfl;have C:=ni b a 2;have g:=lK b a 3 _ rfl;have M:=ni b a 3;have m:=lK b a 4 _ rfl;have E:=ni b a 4;have k:χ (β w w _):=below3 b a;go_wp2;exact bodyPost_ret (v:=.tuple #[.agg _,_]) (by simp[results,results80,go_sem,j,l,q2,g,m]) rfl ⟨rfl,((((k.setCell (ja1 _) _).setCell (ja1 _) _).setCell (ja1 _) _).setCell (ja1 _) _).setCell (ja1 _) _⟩
 .have y:=ah x;have N:=ah hd;clear x hd;go_wp2_with fail;clear o r1 r2 n r;refine(y _).mono ?_;rintro e w3 ⟨rfl,c⟩;have o:=qR a c 0 _ rfl;have j:=rD b a c 0 _ rfl;have H:=rE b a c 0;have r1:=qR a c 1 _ rfl;have l:=rD b a c 1 _ rfl;have A:=rE b a c 1;have r2:=qR a c 2 _ rfl;have q2:=rD b a c 2 _ rfl;have C:=rE b a c 2;have n:=qR a c 3 _ rfl;have g:=rD b a c 3 _ rfl;have M:=rE b a c 3;have r:=qR a c 4 _ rfl;have m:=rD b a c 4 _ rfl;have E:=rE b a c 4;have k:χ (β w w _):=Ez b a c;rcases N with⟨z,rfl,rfl⟩|⟨z,rfl,rfl⟩
  all_goals
   go_wp2;exact bodyPost_ret (v:=.tuple #[.agg _,_]) (by simp[results,results80,go_sem,j,l,q2,g,m]) rfl ⟨rfl,((((k.setCell (ja1 _) _).setCell (ja1 _) _).setCell (ja1 _) _).setCell (ja1 _) _).setCell (ja1 _) _⟩
def VB(s:ByteArray)(w) :
  κ prog 80 #[s] w λe w'=>e=.returned (.tuple #[.agg (iV s).cells,aN s])/\β w w w':=by
 by_cases a:cZ s=0
 .exact VD s w a
 .exact VE s w a
def kD(d:Nat->DV)(k:Nat):SV:=λi=>if i<k/\dL (d i)=0 then S (kY (d i)) else O
def UA(d k):kD d k k=none:=by unfold kD;simp_all
def Dc{d k}(h:dL (d k)=0):kD d (k+1)=(kD d k).upd k (kY (d k)):=by
 funext i
 unfold kD SV.upd;by_cases e:i=k
 .simp_all
 .rw[if_neg e];show _=if i<k/\dL _=0 then S _ else O
  by_cases a:i<k/\dL (d i)=0
  .rw[if_pos a,if_pos ⟨by omega,a.2⟩]
  .rw[if_neg a,if_neg (λq=>a ⟨by omega,q.2⟩)]
def C9{d k}(h:dL (d k)≠0):kD d (k+1)=(kD d k).gone k:=by
 funext i
 unfold kD SV.gone;by_cases e:i=k
 .simp_all
 .rw[if_neg e];show _=if i<k/\dL _=0 then S _ else O
  by_cases a:i<k/\dL (d i)=0
  .rw[if_pos a,if_pos ⟨by omega,a.2⟩]
  .rw[if_neg a,if_neg (λq=>a ⟨by omega,q.2⟩)]
def oyZ(d:Nat->DV)(t:DV)(k:Nat):YV:=⟨d,t,kD d k,⟨0,0,0,0,0⟩,[],O⟩
def ofZ(w:ω)(b:Nat->Rh)(a:Rh)(k:Nat):Prop:=(∃ i,i<5/\(b i).fp k)\/a.fp k\/w.heap.size<=k
structure ZO(w:ω)(hs:Nat->Rh)(th:Rh)(zp sp:Nat)(y:YV)(Z:Zh)(W:ω):Prop where
 aZ:au W zp Z y
 fsp:Z.sp=sp
 fla:Z.la=O
 fjb:Z.jb=⟨0,O,0⟩
 ftp:Z.tp=th
 fp:∀ k,fpZ zp Z y k->ofZ w hs th k
 dp:∀ i,i<5->Z.dp y.s i=(hs i).p
 bel:β w w W
 new:w.heap.size<=zp/\w.heap.size<=sp
theorem ZO.below{w W d c a f sp y Z}(h:ZO w c a f sp y Z W)(b:β W W d):ZO w c a f sp y Z d :=
 ⟨h.aZ.below b,h.fsp,h.fla,h.fjb,h.ftp,h.fp,h.dp,h.bel.trans (b.mono h.bel.size),h.new⟩
def Ah(p:Nat->Nat)(a sp:Nat):Obj:=.cells #[p 0,p 1,p 2,p 3,p 4,a,sp,(0:Int),(0:Int),(0:Int),(0:Int),(0:Int),.slice O 0 0,.pointer O] 92 (0,0)
def nI:Obj:=.cells #[.pointer O,.pointer O,.pointer O,.pointer O,.pointer O] 87 (0,0)
def ZO.start{w W c f d t}(hd:∀ i,i<5->dh Gd.no w (c i) (d i))(u:dh Gd.no w f t)(E:∀ i j,i<5->j<5->i≠j->∀ k,(c i).fp k->¬(c j).fp k)(A:∀ i,i<5->∀ k,f.fp k->¬(c i).fp k)
  (l:β w w W):∃ Z,ZO w c f (W+1) W (oyZ d t 0) Z ((W.alloc nI).alloc (Ah (λi=>(c i).p) f.p W)):=by
 have z:β w w (W.alloc nI):=l.alloc l.size _;have r:(W.alloc nI).heap.size=W.heap.size+1:=by simp
 have x:β w w ((W.alloc nI).alloc (Ah (λi=>(c i).p) f.p W.heap.size)):=z.alloc z.size _;have y:=λk (e:k<w.heap.size)=>x.block k e
 have b:∀ i,(oyZ d t 0).s i=none:=λi=>by show kD d 0 i=O;unfold kD;rw[if_neg (λe=>jbt _ e.1)]
 have q:=l.size;refine⟨⟨c,f,λ_=>⟨0,f,.slice O 0 0,.slice O 0 0⟩,W.heap.size,O,0,⟨0,O,0⟩⟩,⟨⟨?_,?_,λi v a C=>(by rw[b] at *;cases C),λi a _=>(hd i a).keep λk e=>y k ((hd i a).lt k e).2,u.keep λk e=>y k (u.lt k e).2,λi j a D B k m n=>?_,λi a k m n=>?_,⟨Nums.nil _ _,λg o e=>(by cases e),λg o e=>(by cases e)⟩,λj e=>(by cases e)⟩,rfl,rfl,rfl,rfl,λk e=>?_,λi a=>?_,x,Nat.le_succ_of_le q,q⟩⟩
 .refine⟨_,by rw[<- r];exact heap_alloc_new _ _,λi a=>?_,rfl,rfl,rfl,rfl,rfl,rfl,rfl,rfl,rfl⟩;rw[Zh.dp_none (b i)]
  match i,a with
  | 0,_=>rfl
  | 1,_=>rfl
  | 2,_=>rfl
  | 3,_=>rfl
  | 4,_=>rfl
 .rw[b 0,b 1,b 2,b 3,b 4];show((W.alloc nI).alloc _).heap[W.heap.size]?=_
  rw[jap _ _ _ (by rw[r];exact Nat.lt_succ_self _)];exact heap_alloc_new W _
 .rw[Zh.dN (b i)] at *
  rw[Zh.dN (b j)] at *
  exact E i j a D B k m n
 .rw[Zh.dN (b i)] at *
  exact A i a k m n
 .rcases e with e|e|⟨i,a,e⟩|e|e
  .exact .inr (.inr (by rw[e];omega))
  .exact .inr (.inr (by rw[e];exact q))
  .rw[Zh.dN (b i)] at e;exact .inl ⟨i,a,e⟩
  .exact .inr (.inl e)
  .exact absurd rfl e.1
 .rw[Zh.dp_none (b i)]
def KG{w:ω}{sp k a b c d e T}(h:w.heap[sp]?=S (.cells #[a,b,c,d,e] T (0,0)))(f:k<5):∃ v,w.cell? ⟨sp,k,O⟩=S v:=by
 rw[cell_of_row w sp k _ _ _ h];simp_all
def ZO.step{w W u G y sp k m d t Z}(h:ZO w u G y sp (oyZ d t k) Z W)(l:k<5)(M:(d k).fine (d k).fl.length m) :
  κ prog 79 #[(u k).p] W λe w'=>∃(C:Option Addr) (f:Int),e=.returned (.tuple #[.pointer C,f])/\β w w w'/\w'.cell? ⟨y,6,O⟩=S (sp:υ)/\(∃ v,w'.cell? ⟨sp,k,O⟩=S v)/\w'.frozen? ⟨sp,k,O⟩=false/\∃ Z',ZO w u G y sp (oyZ d t (k+1)) Z' (w'.setCell ⟨sp,k,O⟩ (.pointer C)):=by
 have Q:(oyZ d t k).s k=none:=UA d k;obtain⟨F,n,R⟩:=h.aZ.lJ l;have H:(oyZ d t k).dev k=d k:=by unfold YV.dev;rw[Q];rfl
 rw[H] at F;rw[h.dp k l] at *
 rw[<- n];refine(UN W F.ou M (ja1 _)).mono ?_;rintro e w' ⟨A,N⟩;have c:=h.below A;obtain⟨_,_,K,_⟩:=c.aZ.blk.cells;rw[h.fsp] at *
 have B:=c.aZ.shf;rw[h.fsp] at *
 have J:=KG B l;have E:=frozen_of_row w' sp k _ _ B;rcases N with⟨j,rfl⟩|⟨j,r,L,_,rfl,I⟩
 .refine⟨O,_,rfl,c.bel,K,J,E,?_⟩;have z:Moved (Z.hd (oyZ d t k).s k).fp w' (Z.hd (oyZ d t k).s k).fp w':=Moved.refl _ _;obtain⟨g1,g2⟩:=c.aZ.Ac l (D:=d k) z (by rw[<- H];exact(c.aZ.lJ l).1) rfl
  have o:({oyZ d t k with s:=(oyZ d t k).s.gone k,dv:=λi=>if i=k then d k else (oyZ d t k).dv i}:YV)=oyZ d t (k+1):=by
   have a:(λi=>if i=k then d k else (oyZ d t k).dv i)=d:=by
    funext i
    by_cases e:i=k
    .rw[if_pos e,e]
    .rw[if_neg e];rfl
   rw[a];show(⟨d,t,(kD d k).gone k,_,_,_⟩:YV)=⟨d,t,kD d (k+1),_,_,_⟩
   rw[C9 j];rfl
  rw[o] at g1 g2;rw[h.fsp] at *
  have P  := h.new.2;refine⟨_,g1,rfl,h.fla,h.fjb,h.ftp,λb e=>?_,λi x=>?_,c.bel.setCell P _,h.new⟩
  .rcases g2.new b e with a|a
   .exact h.fp b a
   .exact .inr (.inr (ja4 c.bel.size a))
  .have q:=h.dp i x;by_cases e:i=k
   .rw[e];have g:(oyZ d t (k+1)).s k=none:=by show kD d (k+1) k=O;rw[C9 j];unfold SV.gone;rw[if_pos rfl]
    rw[Zh.dp_none g];show(lg Z.ds k (Z.hd (oyZ d t k).s k) k).p=_
    unfold lg;rw[if_pos rfl,n]
   .have g:(oyZ d t (k+1)).s i=(oyZ d t k).s i:=by show kD d (k+1) i=kD d k i;rw[C9 j];unfold SV.gone;rw[if_neg e]
    rw[<- q];unfold Zh.dp;rw[g];show(match (oyZ d t k).s i with|none=>(lg Z.ds k _ i).p|some _=>(Z.qs i).d.p)=_
    unfold lg;rw[if_neg e];cases (oyZ d t k).s i<;>rfl
 .refine⟨S ⟨r.p,0,O⟩,_,rfl,c.bel,K,J,E,?_⟩
  have z:Moved (Z.hd (oyZ d t k).s k).fp W r.fp w':=⟨Below.kept A,λb e=>by
   have:=I.out b e
   rcases jav b W.heap.size with q|q
   .exact .inl (jag λa=>this ⟨q,a⟩)
   .exact .inr q⟩
  obtain⟨g1,g2⟩:=h.aZ.made l z (I.re λ_ _ e=>e) (by rw[L])
  have o:({oyZ d t k with s:=(oyZ d t k).s.upd k (kY (d k))}:YV)=oyZ d t (k+1):=by
   show(⟨d,t,(kD d k).upd k (kY (d k)),_,_,_⟩:YV)=⟨d,t,kD d (k+1),_,_,_⟩
   rw[Dc j];rfl
  rw[o] at g1 g2;rw[h.fsp] at *
  refine⟨_,g1,rfl,h.fla,h.fjb,h.ftp,λb e=>?_,λi x=>?_,c.bel.setCell h.new.2 _,h.new⟩
  .rcases g2.new b e with a|a
   .exact h.fp b a
   .exact .inr (.inr (ja4 h.bel.size a))
  .have q:=h.dp i x;by_cases e:i=k
   .rw[e];have g:(oyZ d t (k+1)).s k=S (kY (d k)):=by show kD d (k+1) k=_;rw[Dc j];unfold SV.upd;rw[if_pos rfl]
    rw[Zh.lX g];show(jL Z.qs k r k).d.p=_
    unfold jL;rw[if_pos rfl,L,n]
   .have g:(oyZ d t (k+1)).s i=(oyZ d t k).s i:=by show kD d (k+1) i=kD d k i;rw[Dc j];unfold SV.upd;rw[if_neg e]
    rw[<- q];unfold Zh.dp;rw[g];show(match (oyZ d t k).s i with|none=>(Z.ds i).p|some _=>(jL Z.qs k r i).d.p)=_
    unfold jL;rw[if_neg e];cases (oyZ d t k).s i<;>rfl
structure ZP(w:ω)(hs:Nat->Rh)(th:Rh)(zp sp:Nat)(y:YV)(Z:Zh)(W:ω):Prop where
 aZ:au W zp Z y
 fsp:Z.sp=sp
 fla:∀ g o,Z.la=S ⟨g,o,O⟩->w.heap.size<=g/\g<W.heap.size
 fja:∀ g o,Z.jb.a=S ⟨g,o,O⟩->w.heap.size<=g/\g<W.heap.size
 fp:∀ k,fpZ zp Z y k->ofZ w hs th k
 bel:β w w W
 new:w.heap.size<=zp/\w.heap.size<=sp
def ZO.p{w W b a c sp y Z}(h:ZO w b a c sp y Z W):ZP w b a c sp y Z W :=
 ⟨h.aZ,h.fsp,λg o e=>(by rw[h.fla] at e;cases e),λg o e=>(by rw[h.fjb] at e;cases e),h.fp,h.bel,h.new⟩
theorem ZP.below{w W d c b f sp y Z}(h:ZP w c b f sp y Z W)(a:β W W d):ZP w c b f sp y Z d :=
 ⟨h.aZ.below a,h.fsp,λg o e=>⟨(h.fla g o e).1,ja8 (h.fla g o e).2 a.size⟩,λg o e=>⟨(h.fja g o e).1,ja8 (h.fja g o e).2 a.size⟩,h.fp,h.bel.trans (a.mono h.bel.size),h.new⟩
theorem ZP.cells{w W b c a sp y Z}(h:ZP w b c a sp y Z W):W.cell? ⟨a,6,O⟩=S (sp:υ)/\(W.cell? ⟨a,7,O⟩=S (y.kd.root:υ)/\W.cell? ⟨a,8,O⟩=S (y.kd.kind:υ)/\W.cell? ⟨a,9,O⟩=S (y.kd.file:υ)/\W.cell? ⟨a,10,O⟩=S (y.kd.rate:υ)/\W.cell? ⟨a,11,O⟩=S (y.kd.burst:υ))/\(∃ v,W.cell? ⟨a,12,O⟩=S v)/\(∃ v,W.cell? ⟨a,13,O⟩=S v)/\∀ i,W.frozen? ⟨a,i,O⟩=false:=by
 obtain⟨_,_,o,n,g,l,f,m,d,j,k⟩:=h.aZ.blk.cells;rw[h.fsp] at *
 simp_all
theorem ZP.rZ{w W c b a sp y Z}(h:ZP w c b a sp y Z W)(K):ZP w c b a sp {y with kd:=K} Z (W.setCells a 7 (kdV K)):=by
 obtain⟨g1,g2⟩:=h.aZ.rZ K;have d:=size_setCells a (kdV K) 7 W;refine⟨g1,h.fsp,λg o e=>⟨(h.fla g o e).1,by rw[d];exact(h.fla g o e).2⟩,λg o e=>⟨(h.fja g o e).1,by rw[d];exact(h.fja g o e).2⟩,λk e=>h.fp k e,?_,h.new⟩;exact((((h.bel.setCell h.new.1 _).setCell h.new.1 _).setCell h.new.1 _).setCell h.new.1 _).setCell h.new.1 _
theorem ZP.um{w W d f a sp lc y Z la l}(h:ZP w d f a sp y Z W)(c:Nums W la l)(b:l≠[])(j:∀ g o,la=S ⟨g,o,O⟩->w<=g)(m:Apart la (fpZ a Z y)):ZP w d f a sp {y with l:=l} {Z with la:=la,lc:=lc} (W.setCell ⟨a,12,O⟩ (.slice la l.length lc)):=by
 obtain⟨g1,g2⟩:=h.aZ.um  c b m;have i:(W.setCell ⟨a,12,O⟩ (.slice la l.length lc)).heap.size=W.heap.size:=by simp_all
 exact⟨g1,h.fsp,λg o e=>⟨j g o e,by rw[i];exact c.lt b e⟩,λg o e=>⟨(h.fja g o e).1,by rw[i];exact(h.fja g o e).2⟩,λk e=>h.fp k e,h.bel.setCell h.new.1 _,h.new⟩
def ZP.wZ{w W w' n r c sp m C y Z}{b:Zj}{j}(h:ZP w n r c sp y Z W)(f:β W W w')(i:RJ w' sp b.xp b.a b.cap Z.qs y.s m C j j.state)(q:W<=b.xp/\∀ g o,b.a=S ⟨g,o,O⟩->W<=g):ZP w n r c sp {y with j:=S j} {Z with jb:=b} (w'.setCell ⟨c,13,O⟩ b.xp):=by
 rw[<- h.fsp] at *
 obtain⟨g1,g2⟩:=h.aZ.started f i q (h.aZ.below f) (.refl Z) (Moved.refl _ _);have t:(w'.setCell ⟨c,13,O⟩ b.xp).heap.size=w'.heap.size:=by simp_all
 have l:=h.below f;refine⟨g1,h.fsp,λg o e=>⟨(l.fla g o e).1,by rw[t];exact(l.fla g o e).2⟩,λg o e=>⟨ja4 h.bel.size (q.2 g o e),by rw[t];exact i.nums.lt i.ok.ne e⟩,λk e=>?_,l.bel.setCell h.new.1 _,h.new⟩;rcases g2.new k e with d|d
 .exact h.fp k d
 .exact .inr (.inr (ja4 h.bel.size d))
def kT(w:ω)(c:Nat->Rh)(f:Rh)(d:Nat->DV)(t:DV)(e:Ending)(w':ω):Prop:=β w w w' /\
 ((jJ d t≠0/\e=.returned (.tuple #[.pointer O,jJ d t]))\/(jJ d t=0/\∃(b:Nat) (Z:Zh),e=.returned (.tuple #[b,(0:Int)])/\au w' b Z (jT d t)/\(∀ k,fpZ b Z (jT d t) k->ofZ w c f k)/\(∀ g o,Z.la=S ⟨g,o,O⟩->w.heap.size<=g/\g<w'.heap.size)/\∀ g o,Z.jb.a=S ⟨g,o,O⟩->w.heap.size<=g/\g<w'.heap.size))
def ZP.done{w W c b a sp d t Z}(h:ZP w c b a sp (jT d t) Z W)(f:jJ d t=0):kT w c b d t (.returned (.tuple #[a,(0:Int)])) W :=
 ⟨h.bel,.inr ⟨f,a,Z,rfl,h.aZ,h.fp,h.fla,h.fja⟩⟩
def kT.from{w:ω}{f W i l d t e}(a:β w w f)(h:kT f i l d t e W):kT w i l d t e W:=by
 obtain⟨s,b⟩:=h;refine⟨a.trans (s.mono a.size),?_⟩;rcases b with b|⟨m,n,Z,r,u,q,j,c⟩
 .exact .inl b
 .refine .inr ⟨m,n,Z,r,u,λk e=>?_,λg o e=>⟨ja4 a.size (j g o e).1,(j g o e).2⟩,λg o e=>⟨ja4 a.size (c g o e).1,(c g o e).2⟩⟩;rcases q k e with e|e|e
  .exact .inl e
  .exact .inr (.inl e)
  .exact .inr (.inr (ja4 a.size e))
def Np{K}(h:K.kv.fault=0)(c:K.kind=0):K=aj K.root:=by
 have b:=of_decide_eq_true (KV.qF h).2;obtain⟨r,k,f,a,u⟩:=K;simp only[aP.kv] at *
 rcases b with⟨_,d,g,i⟩|⟨d,_⟩
 .subst c;unfold aj;simp_all
 .simp_all
def I8{d t}(h:lZ (aO d) (ak t)≠true):jT d t=⟨d,t,aO d,aj (ak t).root,((aO d).walk (ak t).root).1,O⟩:=by unfold jT;simp_all
def I9{d t}(h:lZ (aO d) (ak t)=true):jT d t=⟨d,t,aO d,ak t,((aO d).walk (ak t).root).1,S (iw (aO d) (ak t))⟩:=by unfold jT;simp_all
def yx(p:Nat->Nat):Obj:=.cells #[p 0,p 1,p 2,p 3,p 4] 49 (0,0)
def OO{W:ω}{N p}(h:W.heap[N]?=S (yx p)){k}(a:k<5):W.cell? ⟨N,k,O⟩=S (p k:υ):=by
 rw[cell_of_row W N k _ _ _ h]
 match k,a with
 | 0,_=>rfl
 | 1,_=>rfl
 | 2,_=>rfl
 | 3,_=>rfl
 | 4,_=>rfl
theorem kT.drewN{w W b c d t e}(h:kT w b c d t e W)(n):kT w b c d t e (W.drewN n):=by
 obtain⟨l,a⟩:=h;refine⟨below_drewN l n,?_⟩;rcases a with a|⟨g,i,Z,k,o,j,m,f⟩
 .exact .inl a
 .exact .inr ⟨g,i,Z,k,o.below (below_drewN (ja0 _ _) n),j,m,f⟩
def kan{m s z d t}(w)(hd:∀ i,i<5->dh Gd.no w (s i) (d i))(ht:dh Gd.no w z t)(c5:∀ i j,i<5->j<5->i≠j->∀ k,(s i).fp k->¬(s j).fp k)(bv:∀ i,i<5->∀ k,z.fp k->¬(s i).fp k)
    (hf:∀ i,(d i).fine (d i).fl.length m) (ae:t.fine t.fl.length m) :
    κ prog 19 #[.agg #[(s 0).p,(s 1).p,(s 2).p,(s 3).p,(s 4).p],z.p] w λe w'=>kT w s z d t e w':=by
  obtain⟨x,ap⟩:∃ x,x=w.alloc (yx λi=>(s i).p):=⟨_,rfl⟩;have b4:β w w x:=by rw[ap];exact(ja0 _ _).alloc (ja1 _) _
  have ba:x.heap[w.heap.size]?=some (yx λi=>(s i).p):=by rw[ap];exact heap_alloc_new _ _
  have c0:∀ i,i<5->dh Gd.no x (s i) (d i):=λi hi=>(hd i hi).keep λk e=>b4.block k ((hd i hi).lt k e).2
  have ca:dh Gd.no x z t:=ht.keep λk e=>b4.block k (ht.lt k e).2
  have ax:χ (∃ Z,ZO x s z (x.heap.size+1) x.heap.size (oyZ d t 0) Z ((x.alloc nI).alloc (Ah (λi=>(s i).p) z.p x.heap.size))):=ZO.start c0 ca c5 bv (ja0 _ _);have cw:χ (∀(k:Nat) (W:ω),k<5->β x x W->W.cell? ⟨w.heap.size,k,O⟩=some ((s k).p:υ)):=λk W J F=>OO (p:=λi=>(s i).p) ((F.block _ (lt_of_some ba)).trans ba) J
  have bh:χ (∀(k l sp:Nat) (W:ω),k<5->(∃ Z,ZO x s z l sp (oyZ d t k) Z W)->W.cell? ⟨w.heap.size,k,O⟩=some ((s k).p:υ)/\κ prog 79 #[(s k).p] W λe w'=>∃(U:Option Addr) (f:Int),e=.returned (.tuple #[.pointer U,f])/\w'.cell? ⟨l,6,O⟩=some (sp:υ)/\(∃ v,w'.cell? ⟨sp,k,O⟩=some v)/\w'.frozen? ⟨sp,k,O⟩=false/\∃ Z',ZO x s z l sp (oyZ d t (k+1)) Z' (w'.setCell ⟨sp,k,O⟩ (.pointer U))):=λk l sp W J ⟨Z,y⟩=>⟨cw k W J y.bel,(y.step J (hf k)).mono λe w' ⟨U,f,D,_,T⟩=>⟨U,f,D,T⟩⟩
  have bd:χ (∀(l sp:Nat) (W:ω),(∃ Z,ZO x s z l sp (oyZ d t 5) Z W)->κ prog 81 #[z.p,(0:Int)] W λe w'=>e=.returned (.string (bytesOf (t.seen.getD 0 [])))/\w'=W):=λl sp W ⟨Z,y⟩=>by
    have D:dh Gd.no W z t:=by have:=y.aZ.top;rw[y.ftp] at this;exact this
    have cQ:=ae.ok.few;have cV:=ae.ok.few2;have bA:=wY 0 W D.todR ae.ok.n1 (by omega);rw[zJ ae 0 ae.ok.n1] at bA;exact bA
  have ao:χ (∀ W:ω,κ prog 80 #[.string (bytesOf (t.seen.getD 0 []))] W λe w'=>e=.returned (.tuple #[.agg #[.int .i64 (ak t).root,.int .i64 (ak t).kind,.int .i64 (ak t).file,.int .i64 (ak t).rate,.int .i64 (ak t).burst],aN (bytesOf (t.seen.getD 0 []))])/\β W W w'):=λW=>VB _ W
  have V:jJ d t=if aN (bytesOf (t.seen.getD 0 []))=0 then ((aO d).walk (ak t).root).2 else aN (bytesOf (t.seen.getD 0 [])):=rfl
  have aw:aN (bytesOf (t.seen.getD 0 []))=0->(ak t).kv.fault=0:=λe=>yw e
  have b2:(aO d).ok m:=yT hf
  have aq:χ (∀(l sp:Nat) (W W':ω),(∃ Z,ZO x s z l sp (oyZ d t 5) Z W)->β W W W'->(W'.cell? ⟨l,7,O⟩=some (.int .i64 0)/\W'.cell? ⟨l,8,O⟩=some (.int .i64 0)/\W'.cell? ⟨l,9,O⟩=some (.int .i64 0)/\W'.cell? ⟨l,10,O⟩=some (.int .i64 0)/\W'.cell? ⟨l,11,O⟩=some (.int .i64 0))/\(∀ i,W'.frozen? ⟨l,i,O⟩=false)/\∃ Z,ZP x s z l sp ⟨d,t,aO d,ak t,[],O⟩ Z (W'.setCells l 7 (kdV (ak t)))):=λl sp W W' ⟨Z,y⟩ F=>by
    have D:=(y.below F).p;obtain⟨_,c,_,_,fz⟩:=D.cells;exact⟨c,fz,Z,D.rZ (ak t)⟩
  have a0:χ (∀(l sp:Nat) (W:ω),(∃ Z,ZP x s z l sp ⟨d,t,aO d,ak t,[],O⟩ Z W)->W.cell? ⟨l,6,O⟩=some (sp:υ)/\κ prog 82 #[sp,.int .i64 (ak t).root] W.drew λe w'=>∃(b:Option Addr) (N:Nat),e=.returned (.tuple #[.slice b ((aO d).walk (ak t).root).1.length N,.int .i64 ((aO d).walk (ak t).root).2])/\β W W w'/\w'.cell? ⟨l,6,O⟩=some (sp:υ)/\(∃ v,w'.cell? ⟨l,12,O⟩=some v)/\w'.frozen? ⟨l,12,O⟩=false/\β x x (w'.setCell ⟨l,12,O⟩ (.slice b ((aO d).walk (ak t).root).1.length N)) /\
      (w'.setCell ⟨l,12,O⟩ (.slice b ((aO d).walk (ak t).root).1.length N)).cell? ⟨l,6,O⟩=some (sp:υ) /\
      (aN (bytesOf (t.seen.getD 0 []))=0->((aO d).walk (ak t).root).2=0->∃ Z,ZP x s z l sp ⟨d,t,aO d,ak t,((aO d).walk (ak t).root).1,O⟩ Z (w'.setCell ⟨l,12,O⟩ (.slice b ((aO d).walk (ak t).root).1.length N)))):=λl sp W ⟨Z,y⟩=>by
    obtain⟨c6,_⟩:=y.cells;refine⟨c6,?_⟩;have ag:β W W W.drew:=(ja0 _ _).drew;have aa:=(y.below ag).aZ.shelf b2;rw[y.fsp] at aa;refine(wW (ak t).root W.drew aa).mono ?_;rintro e w' ⟨b,N,rfl,hn,ha,F⟩;have al:β W W w':=ag.trans (F.mono ag.size);have D:=y.below al;obtain⟨k6,_,cL,_,kf⟩:=D.cells;refine⟨b,N,rfl,al,k6,cL,kf 12,D.bel.setCell y.new.1 _,?_,λJ Q=>?_⟩
    . rw[jan _ _ _ _ (by intro e;injection e with _ e;omega)];exact k6
    . have bi:=of_decide_eq_true (KV.qF (aw J)).1;have cD:0<=(ak t).root:=bi.1
      have az:((aO d).walk (ak t).root).1≠[]:=λe=>by
        have:=SV.sH Q
        rw[e] at this;have:(ak t).root = -1:=this
        omega
      refine⟨_,D.um (lc:=N) hn az (λg o e=>?_) λg o e hf=>?_⟩
      . have:=(ha g o e).1
        have:=y.bel.size
        have:W.heap.size<=g:=(ha g o e).1
        omega
      . have h3:W.heap.size<=g:=(ha g o e).1;have:=y.aZ.gG hf
        omega
  have I:χ (∀(l sp:Nat) (W:ω),(∃ Z,ZP x s z l sp ⟨d,t,aO d,ak t,((aO d).walk (ak t).root).1,O⟩ Z W)->W.cell? ⟨l,6,O⟩=some (sp:υ)/\κ prog 83 #[sp,.agg #[.int .i64 (ak t).root,.int .i64 (ak t).kind,.int .i64 (ak t).file,.int .i64 (ak t).rate,.int .i64 (ak t).burst]] W.drew λe w'=>∃ U:Option Addr,e=.returned (.tuple #[.pointer U,newF (aO d) (ak t)])/\β W W w'/\w'.cell? ⟨l,6,O⟩=some (sp:υ)/\(∃ Z,ZP x s z l sp ⟨d,t,aO d,ak t,((aO d).walk (ak t).root).1,O⟩ Z w') /\
      (lZ (aO d) (ak t)=true->jJ d t=0->(∃ v,w'.cell? ⟨l,13,O⟩=some v)/\w'.frozen? ⟨l,13,O⟩=false/\kT x s z d t (.returned (.tuple #[l,(0:Int)])) (w'.setCell ⟨l,13,O⟩ (.pointer U)))):=λl sp W ⟨Z,y⟩=>by
    obtain⟨c6,_⟩:=y.cells;refine⟨c6,?_⟩;have ag:β W W W.drew:=(ja0 _ _).drew;have aa:=(y.below ag).aZ.shelf b2;rw[y.fsp] at aa;refine(Dq (ak t) W.drew aa).mono ?_;rintro e w' ⟨cn,cv⟩;have al:β W W w':=ag.trans (cn.mono ag.size);have D:=y.below al;obtain⟨k6,_,_,cH,kf⟩:=D.cells;rcases cv with⟨hx,rfl⟩|⟨hx,xp,cap,a,rfl,q1,q2,q3⟩
    . refine⟨O,rfl,al,k6,⟨Z,D⟩,λE _=>absurd (of_decide_eq_true E).2.2 hx⟩
    . refine⟨some ⟨xp,0,O⟩,by rw[hx],al,k6,⟨Z,D⟩,λE Q=>⟨cH,kf 13,?_⟩⟩;obtain⟨C,bE⟩:=Ja hf ae Q;rw[I9 E] at bE;have hJ:=(bE.job _ rfl (show(2:Int)<4 by decide)).ok;have a9:=y.wZ (b:=⟨xp,a,cap⟩) al (q3 C hJ) ⟨q1,q2⟩;rw[<- I9 E] at a9;exact a9.done Q
  have P:χ (∀(l sp:Nat) (W:ω),((aO d).walk (ak t).root).2=0->((aO d).walk (ak t).root).1≠[]->(∃ Z,ZP x s z l sp ⟨d,t,aO d,ak t,((aO d).walk (ak t).root).1,O⟩ Z W)->∃ r ip:Nat,(ak t).root=(r:Int)/\r<5/\W.cell? ⟨sp,r,O⟩=some (ip:υ)/\W.cell? ⟨ip,3,O⟩=some (.int .i64 ((aO d).back (ak t).root))):=λl sp W Q az ⟨Z,y⟩=>by
    obtain⟨v,hv,_⟩:=(Chain.of Q az).root;obtain⟨r0,r5,_⟩:=SV.eG hv;have aa:=y.aZ.shelf b2;have c1:=aa.kU hv;obtain⟨cz,_⟩:=aa.iM hv;rw[y.fsp] at c1;refine⟨(ak t).root.toNat,_,by omega,by omega,c1,?_⟩;rw[cz.cells.2.2.2.1];unfold SV.back;rw[hv]
  have M:χ (∀(l sp:Nat) (W:ω),lZ (aO d) (ak t)≠true->jJ d t=0->(∃ Z,ZP x s z l sp ⟨d,t,aO d,ak t,((aO d).walk (ak t).root).1,O⟩ Z W)->((ak t).kv.fault=0->(ak t).kind=0->kT x s z d t (.returned (.tuple #[l,(0:Int)])) W)/\(W.cell? ⟨l,7,O⟩=some (.int .i64 (ak t).root)/\W.cell? ⟨l,8,O⟩=some (.int .i64 (ak t).kind)/\W.cell? ⟨l,9,O⟩=some (.int .i64 (ak t).file)/\W.cell? ⟨l,10,O⟩=some (.int .i64 (ak t).rate)/\W.cell? ⟨l,11,O⟩=some (.int .i64 (ak t).burst))/\(∀ i,W.frozen? ⟨l,i,O⟩=false)/\kT x s z d t (.returned (.tuple #[l,(0:Int)])) (W.setCells l 7 (kdV (aj (ak t).root)))):=λl sp W E Q ⟨Z,y⟩=>by
    obtain⟨_,c,_,_,fz⟩:=y.cells;refine⟨λbb a7=>?_,c,fz,?_⟩
    . have e:=Np bb a7;have a9:=y;rw[show(⟨d,t,aO d,ak t,((aO d).walk (ak t).root).1,O⟩:YV)=jT d t by rw[I8 E,<- e]] at a9;exact a9.done Q
    . have a9:=y.rZ (aj (ak t).root);rw[<- I8 E] at a9;exact a9.done Q
  have a8:χ (∀(f:Int) (W:ω),jJ d t=f->f≠0->β x x W->kT x s z d t (.returned (.tuple #[.pointer O,f])) W):=λf W hf hn F=>⟨F,.inl ⟨by rw[hf];exact hn,by rw[hf]⟩⟩
  have R:χ (∀(e:Ending) (W:ω),kT x s z d t e W->kT w s z d t e W):=λe W h=>kT.from b4 h
  have cF:0<=aN (bytesOf (t.seen.getD 0 [])):=by
    unfold aN cZ
    repeat' split
    all_goals omega
  have bo:0<=((aO d).walk (ak t).root).2:=((aO d).walk_good (ak t).root).2.2.1;have bn:=IJ (aO d) (ak t);have am:lZ (aO d) (ak t)=decide ((ak t).kind≠0/\¬((ak t).kind=2/\(aO d).back (ak t).root=(ak t).file)/\newF (aO d) (ak t)=0):=rfl
  have af:aN (bytesOf (t.seen.getD 0 []))=0->((aO d).walk (ak t).root).2=0->((aO d).walk (ak t).root).1≠[]:=λJ Q e=>by
    have bi:=of_decide_eq_true (KV.qF (aw J)).1;have cD:0<=(ak t).root:=bi.1;have:=SV.sH Q
    rw[e] at this;have:(ak t).root = -1:=this
    omega
  have cU:w.heap.size<x:=lt_of_some ba;clear hd ht c5 bv hf ae c0 ca ba b4 b2;generalize cM:ak t=K at ao V aw aq a0 I P M bo bn am af;generalize aO d=S at V aq a0 I P M bo bn am af;generalize aN (bytesOf (t.seen.getD 0 []))=DF at ao V aw a0 cF af;generalize bytesOf (t.seen.getD 0 [])=S0 at bd ao;generalize newF S K=NF at I bn am;generalize S.back K.root=BK at P am;generalize lZ S K=G at I M am;generalize (S.walk K.root).2=WF at V a0 P bo af;generalize (S.walk K.root).1=WL at a0 I P M af;generalize jJ d t=YF at V I M a8;have ci:=ah V;have ai:=ah am;have cG:=ah aw;have cB:=ah af;clear V am aw af cM;unfold yx at ap;unfold nI Ah at ax;have bk:x.heap.size=w.heap.size+1:=by rw[ap];simp
  rw[bk] at ax;go_enter func19,ntmps19;go_wp2;rw[<- ap];generalize w.heap.size+1+1=l at ax |-;generalize w.heap.size+1=sp at ax bk |-;go_loopw [7,8,9] (λi u v wr=>∃ k:Nat,k<=5/\i=.int .i64 (k:Int)/\∃ Z,ZO x s z l sp (oyZ d t k) Z wr) (λi _ _ _=>5-(intOf i).toNat)
  case atStart=>exact⟨0,by omega,rfl,ax⟩
  case round =>
    clear ax ap bk;obtain⟨k,J,rfl,y⟩:=hrel;by_cases cs:k<5
    . obtain⟨ck,cb⟩:=bh k l sp _ cs y;have bt:=ah cb;have k0:(0:Int)<=(k:Int):=by omega
      have k1:(k:Int)<5:=by omega
      have k2:decide ((k:Int)<5)=true:=decide_eq_true k1;clear y cb bh bd ao aq a0 I P M a8 R;go_wp2_with fail;refine bt.mono ?_;rintro e w1 ⟨U,f,rfl,q6,⟨v1,q1⟩,q2,cc⟩;have cK:=ah cc;clear cc bt;go_wp2;go_roundw
      case rel =>
        have fin:∃ k1:Nat,k1<=5/\Value.int .i64 ((k:Int)+1)=.int .i64 (k1:Int)/\∃ Z,ZO x s z l sp (oyZ d t k1) Z (w1.setCell ⟨sp,k,O⟩ (.pointer U)):=⟨k+1,by omega,by go_num,cK⟩
        first|exact fin|((repeat apply Exists.intro);exact⟨fin,rfl⟩)
      case measure=>simp[intOf];omega
    . have e5:k=5:=by omega
      subst e5;have k2:decide (((5:Nat):Int)<5)=false:=rfl;have aM:=ah y;have bO:=ah (bd l sp _ y);clear y bh bd;go_wp2_with fail;refine bO.mono ?_;rintro e w' ⟨rfl,hw⟩;have cq:=hw.symm;subst cq;clear hw bO;go_wp2_with fail;refine(ao _).mono ?_;rintro e A ⟨rfl,bR⟩;have b6:=ah bR;clear bR ao;by_cases an:DF=0
      . have V:YF=WF:=by rw[ci.out,if_pos an]
        rw[an];have bb:=cG an;obtain⟨⟨b7,b8,b9,cy,ct⟩,ar,cd⟩:=aq l sp _ A aM b6;have cr:=ar 7;have cu:=ar 8;have cm:=ar 9;have cp:=ar 10;have cP:=ar 11;have bp:=ah cd;have bu:=ah V;have cx:=ah bb
        have cR:l<A.heap.size:=by
          obtain⟨Z5,aL⟩:=aM;exact ja8 aL.aZ.blk.lt b6.size
        have ad:χ (∀ W:ω,W.heap[A.heap.size]?=some (bI K)->W.cell? ⟨A,0,O⟩=some (K.root:υ)/\W.cell? ⟨A,1,O⟩=some (K.kind:υ)/\W.cell? ⟨A,2,O⟩=some (K.file:υ)/\W.cell? ⟨A,3,O⟩=some (K.rate:υ)/\W.cell? ⟨A,4,O⟩=some (K.burst:υ)):=λW J=>by
          unfold bI at J;refine⟨?_,?_,?_,?_,?_⟩<;>(rw[cell_of_row _ _ _ _ _ _ J];rfl)
        clear cd aq aM ar V bb;go_wp2;generalize be:(((((A.setCell ⟨l,7,O⟩ K.root).setCell ⟨l,8,O⟩ K.kind).setCell ⟨l,9,O⟩ K.file).setCell ⟨l,10,O⟩ K.rate).setCell ⟨l,11,O⟩ K.burst).alloc (.cells #[K.root,K.kind,K.file,K.rate,K.burst] 82)=w4
        have cg:χ (∃ Z,ZP x s z l sp ⟨d,t,S,K,[],O⟩ Z w4):=by
          obtain⟨Z6,h6⟩:=bp;rw[<- be];exact⟨Z6,h6.below ((ja0 _ _).alloc (ja1 _) _)⟩
        have bf:w4.heap[A.heap.size]?=some (bI K):=by
          have h6:=heap_alloc_new (A.setCells l 7 (kdV K)) (bI K);rw[size_setCells] at h6;rw[<- be];exact h6
        clear bp be b7 b8 b9 cy ct cr cu cm cp cP;obtain⟨u6,bs⟩:=a0 l sp w4 cg;have HW:=ah bs;have d6:w4.drew.cell? ⟨l,6,O⟩=some (sp:υ):=u6;have d7:w4.drew.cell? ⟨A,0,O⟩=some (K.root:υ):=(ad _ bf).1
        have bm:χ (∀(W w':ω),W.heap[A.heap.size]?=some (bI K)->β W W w'->w'.heap[A.heap.size]?=some (bI K)/\∀(i:Nat) (v:υ),(w'.setCell ⟨l,i,O⟩ v).heap[A.heap.size]?=some (bI K)):=λW w' hx F=>by
          have D:=(F.block _ (lt_of_some hx)).trans hx;exact⟨D,λi v=>(heap_setCell_other _ _ _ _ (by show A.heap.size≠l;omega)).trans D⟩
        have c8:=ah bf;clear bs bf a0
        go_region_held3 (λW=>W.cell? ⟨l,6,O⟩=some (sp:υ)/\W.cell? ⟨A,0,O⟩=some (K.root:υ))
          (first|(exact⟨d6,d7⟩)|assumption)
          (first
            | (go_at_call 82;refine HW.mono ?_;rintro e w5 ⟨b,N,rfl,ce,v6,⟨cW,cS⟩,cT,bw,s6,bB⟩;have b1:=bm _ _ c8 ce;have co:=And.intro v6 (ad _ b1.1).1;have cJ:=And.intro s6 (ad _ (b1.2 12 (.slice b WL.length N))).1;have bj:=ah (b1.2 12 (.slice b WL.length N));have aE:=ah bB;have bN:=ah bw;clear ce b1 bB bw))
        clear HW co cJ d6 d7 c8 cg;generalize w5.setCell ⟨l,12,O⟩ (.slice b WL.length N)=Y at bj aE bN |-;by_cases av:WF=0
        . have aR:YF=0:=bu.trans av;have b0:=ah (aE an av);have az:=cB an av
          have L:χ (∀ kk:Int,K.kind=kk->(kk=0->G≠true)/\(kk=2->BK=K.file->G≠true)/\(NF≠0->G≠true)/\(kk≠0->¬(kk=2/\BK=K.file)->NF=0->G=true)):=λkk e=>by
            rw[ai.out,e];refine⟨λh=>?_,λD T=>?_,λh=>?_,λD T h3=>decide_eq_true ⟨D,T,h3⟩⟩
            . rw[decide_eq_false (λq=>q.1 h)];decide
            . rw[decide_eq_false (λq=>q.2.1 ⟨D,T⟩)];decide
            . rw[decide_eq_false (λq=>h q.2.2)];decide
          rw[av];obtain⟨x0,x1,x2,x3,x4⟩:=ad _ bj;by_cases a7:K.kind=0
          . have HE:=ah (R _ _ ((M l sp Y ((L _ rfl).1 a7) aR b0).1 cx a7));rw[a7] at x1;clear aE b0 I P M a8 R L ai;go_wp2;go_ret2;exact HE
          . have g0:(K.kind==0)=false:=by simpa using a7
            obtain⟨u6,cj⟩:=I l sp Y b0;have HN:=ah cj;have cf:Y.drew.cell? ⟨l,6,O⟩=some (sp:υ)/\Y.drew.cell? ⟨A,0,O⟩=some (K.root:υ)/\Y.drew.cell? ⟨A,1,O⟩=some (K.kind:υ)/\Y.drew.cell? ⟨A,2,O⟩=some (K.file:υ)/\Y.drew.cell? ⟨A,3,O⟩=some (K.rate:υ)/\Y.drew.cell? ⟨A,4,O⟩=some (K.burst:υ):=⟨u6,x0,x1,x2,x3,x4⟩;clear cj I aE;go_wp2
            go_region_held3 (λW=>W.cell? ⟨l,6,O⟩=some (sp:υ)/\W.cell? ⟨A,0,O⟩=some (K.root:υ)/\W.cell? ⟨A,1,O⟩=some (K.kind:υ)/\W.cell? ⟨A,2,O⟩=some (K.file:υ)/\W.cell? ⟨A,3,O⟩=some (K.rate:υ)/\W.cell? ⟨A,4,O⟩=some (K.burst:υ))
              (first|(exact cf)|assumption)
              (first
                | (go_at_call 83;refine HN.mono ?_;rintro e w7 ⟨U,rfl,ch,v6,bX,c7⟩;have bl:=(bm _ _ bj ch).1;have cI:=And.intro v6 (ad _ bl);have cC:=ah bl;have aD:=ah bX;have ac:=ah c7;clear ch bl bX c7))
            clear HN cf cI x0 x1 x2 x3 x4 u6;obtain⟨r,ip,hr,r5,c1,c2⟩:=P l sp w7 av az aD;obtain⟨y0,y1,y2,_,_⟩:=ad _ cC;obtain⟨z6,_⟩:=aD.choose_spec.cells;have er:r=K.root.toNat:=by omega
            subst er;have n0:(0:Int)<=K.root:=by omega
            have n5:K.root<5:=by omega
            have a5:χ (∀ W:ω,κ prog 35 #[K.root] W λe w'=>e=.returned (.agg #[K.root,(0:Int),(-1:Int),(0:Int),(0:Int)])/\β W W w'):=λW=>xO K.root W
            have ab:χ (G≠true->∀ W:ω,β w7 w7 W->(∃ a b c e:Int,W.cell? ⟨l,7,O⟩=some (K.root:υ)/\W.cell? ⟨l,8,O⟩=some (a:υ)/\W.cell? ⟨l,9,O⟩=some (b:υ)/\W.cell? ⟨l,10,O⟩=some (c:υ)/\W.cell? ⟨l,11,O⟩=some (e:υ))/\(∀ i,W.frozen? ⟨l,i,O⟩=false)/\kT w s z d t (.returned (.tuple #[l,(0:Int)])) (W.setCells l 7 [K.root,(0:Int),(-1:Int),(0:Int),(0:Int)])):=λE W F=>by
              obtain⟨Z9,h9⟩:=aD;obtain⟨_,⟨t7,t8,t9,b5,b3⟩,B,H⟩:=M l sp W E aR ⟨Z9,h9.below F⟩;exact⟨⟨_,_,_,_,t7,t8,t9,b5,b3⟩,B,R _ _ H⟩
            clear P M a8 hr ad bm;have cE:=aD;clear aD cE b0;by_cases T:K.kind=2
            . have g2:(K.kind==2)=true:=by simpa using T
              by_cases F:BK=K.file
              . have gB:(BK==K.file)=true:=by simpa using F
                have E:=(L _ rfl).2.1 T F;clear L ai;go_wp2;go_quiet (fail)
                go_wp2_with fail;refine(a5 _).mono ?_;rintro e w8 ⟨rfl,a6⟩;obtain⟨⟨a1,a2,a3,a4,t7,t8,t9,b5,b3⟩,B,H⟩:=ab E w8 ((below_drewN (ja0 _ _) _).trans a6);have bq:=B 7;have c9:=B 8;have bS:=B 9;have bL:=B 10;have br:=B 11;have X:=ah H;clear B H a6 a5 ab ac;go_wp2;go_ret2;exact X
              . have gB:(BK==K.file)=false:=by simpa using F
                by_cases hN:NF=0
                . have E:=(L _ rfl).2.2.2 a7 (λe=>F e.2) hN;have gN:decide (0<NF)=false:=decide_eq_false (by omega);clear L ai;obtain⟨⟨cl,cA⟩,cN,H⟩:=ac E aR;have X:=ah (λn=>(R _ _ H).drewN n);clear H a5 ab ac;go_wp2;go_quiet (fail)
                  go_wp2;go_ret2;exact X _
                . have E:=(L _ rfl).2.2.1 hN;have gN:decide (0<NF)=true:=decide_eq_true (by omega);clear L ai;go_wp2;go_quiet (fail)
                  go_wp2_with fail;refine(a5 _).mono ?_;rintro e w8 ⟨rfl,a6⟩;obtain⟨⟨a1,a2,a3,a4,t7,t8,t9,b5,b3⟩,B,H⟩:=ab E w8 ((below_drewN (ja0 _ _) _).trans a6);have bq:=B 7;have c9:=B 8;have bS:=B 9;have bL:=B 10;have br:=B 11;have X:=ah H;clear B H a6 a5 ab ac;go_wp2;go_ret2;exact X
            . have g2:(K.kind==2)=false:=by simpa using T
              by_cases hN:NF=0
              . have E:=(L _ rfl).2.2.2 a7 (λe=>T e.1) hN;have gN:decide (0<NF)=false:=decide_eq_false (by omega);clear L ai;obtain⟨⟨cl,cA⟩,cN,H⟩:=ac E aR;have X:=ah (λn=>(R _ _ H).drewN n);clear H a5 ab ac;go_wp2;go_quiet (fail)
                go_wp2;go_ret2;exact X _
              . have E:=(L _ rfl).2.2.1 hN;have gN:decide (0<NF)=true:=decide_eq_true (by omega);clear L ai;go_wp2;go_quiet (fail)
                go_wp2_with fail;refine(a5 _).mono ?_;rintro e w8 ⟨rfl,a6⟩;obtain⟨⟨a1,a2,a3,a4,t7,t8,t9,b5,b3⟩,B,H⟩:=ab E w8 ((below_drewN (ja0 _ _) _).trans a6);have bq:=B 7;have c9:=B 8;have bS:=B 9;have bL:=B 10;have br:=B 11;have X:=ah H;clear B H a6 a5 ab ac;go_wp2;go_ret2;exact X
        . have gW:decide (0<WF)=true:=decide_eq_true (by omega);have HE:=ah (R _ _ (a8 WF Y bu av bN));clear aE I P M a8 R;go_wp2;go_ret2;exact HE
      . have gD:decide (0<DF)=true:=decide_eq_true (by omega);obtain⟨Z5,aL⟩:=aM.out;have HE:=ah (R _ _ (a8 DF (A.alloc (.cells #[K.root,K.kind,K.file,K.rate,K.burst] 82)) (by rw[ci.out,if_neg an]) an (((aL.below b6).bel).alloc ((aL.below b6).bel).size _)));clear aL aM aq a0 I P M a8 R;go_wp2;go_ret2;exact HE
def nR(sp bp:Nat)(a:Option Addr)(ln cap:Nat)(kd fl:Int):Obj:=.cells #[.pointer (S ⟨sp,6,O⟩),.slice a ln cap,kd,fl,(2:Int),.pointer O,bp,(-1:Int)] 254 (0,0)
def RH{sp bp ln cap a kd fl}(w:ω):∀ W,β (w.alloc (nR sp bp a ln cap kd fl)).heap.size (w.alloc (nR sp bp a ln cap kd fl)) W->W.heap[w.heap.size]?=S (nR sp bp a ln cap kd fl):=λW c=>by
 have b:w.heap.size<(w.alloc (nR sp bp a ln cap kd fl)).heap.size:=by simp
 exact(c.block _ b).trans (heap_alloc_new w _)
def Ho{sp bp ln cap b a kd fl}{W:ω}(h:W.heap[b]?=S (nR sp bp a ln cap kd fl)):W.cell? ⟨b,0,O⟩=S (.pointer (S ⟨sp,6,O⟩))/\W.cell? ⟨b,1,O⟩=S (.slice a ln cap)/\W.cell? ⟨b,2,O⟩=S (kd:υ)/\W.cell? ⟨b,3,O⟩=S (fl:υ)/\W.cell? ⟨b,5,O⟩=S (.pointer O)/\W.frozen? ⟨b,5,O⟩=false:=by
 unfold nR at h;refine⟨?_,?_,?_,?_,?_,?_⟩<;>simp[World.cell?,World.frozen?,h]
def IQ{sp m Q s}(d w)(h:bH w sp Q s m)(hf:newF s d=0) :
    κ prog 125 #[.pointer (S ⟨sp,6,O⟩),.agg #[d.root,d.kind,d.file,d.rate,d.burst]] w λe w'=>∃(i j bp C:Nat) (a:Option Addr) (cap:Nat),e=.returned (.tuple #[i,.nilIface])/\PJ w' sp i j bp a cap Q s m C (iw s d)/\(w<=i/\w<=j/\w<=bp/\∀ g o,a=S ⟨g,o,O⟩->w<=g)/\β w w w'/\JOk s C (iw s d):=by
  have y:=CQ h.ok hf;obtain⟨C,hJ,bB,bN⟩:=y.jok;have K:χ (β w w (w.alloc (bI d))):=(ja0 _ _).alloc (ja1 _) _;have I:=ah (qw d w);have a7:=ah (uM d w);have HI:χ ((prog.info? 82).map (·.size)=S ([.int .i64 d.root,.int .i64 d.kind,.int .i64 d.file,.int .i64 d.rate,.int .i64 d.burst]:List υ).length):=vG
  have a2:χ (∀ W:ω,β w w W->κ prog 77 #[.pointer (S ⟨sp,6,O⟩),d.root] W λe w'=>∃(a:Option Addr) (cap:Nat),e=.returned (.tuple #[.slice a (s.walk d.root).1.length cap,.nilIface])/\Nums w' a (s.walk d.root).1/\(∀ g o,a=S ⟨g,o,O⟩->W.heap.size<=g/\g<w'.heap.size/\(s.walk d.root).1.length<=cap)/\β W W w'):=λW q=>by
    have:=vU d.root W (h.below q)
    rw[y.w0,aJ] at this;exact this
  have bm:=ah λW=>S4.EG d.rate d.burst W y.rt y.bu
  obtain⟨hg,b3,c7,_⟩:=s.walk_good d.root
  have Z:χ (∀(W:ω) (a:Option Addr) (cap:Nat),β w w W->Nums W a (s.walk d.root).1->(s.walk d.root).1.length<=cap->κ prog 192 #[.pointer (S ⟨sp,6,O⟩),.slice a (s.walk d.root).1.length cap,.agg #[d.root,d.kind,d.file,d.rate,d.burst]] W λe w'=>e=.returned .nilIface/\β W W w'):=λW a cap q hn hc=>by
    have:=EN (cap:=cap) _ d W (h.below q) hn hg y.ne (by omega) hc
    rw[y.ck,aJ] at this;exact this
  obtain⟨r,hl⟩:=SV.Lu y.w0 y.ne;obtain⟨v,hv,bX⟩:=hg d.root (by rw[hl];exact jai);obtain⟨r0,r5,_⟩:=SV.eG hv
  have bc:v.h.c=((cO s d).n:Int):=by
    have F:=hg.iF y.ne;have L:=hJ.n;omega
  have B:χ (∀ W:ω,β w w W->κ prog 95 #[(Q d.root.toNat).p] W λe w'=>e=.returned (.agg #[((cO s d).n:Int),v.h.p,v.h.b])/\β W W w'):=λW q=>by
    have:=tH W ((h.below q).iM hv).1
    rw[bc] at this;exact this
  have ad:=ah λW (q:β w w W)=>(h.below q).kU hv
  have E:=ah λW i cap a (q:β w w W) (hd:JHd W i sp a cap (cO s d)) (hn:Nums W a (cO s d).l)=>Zd W hd (h.below q) hn hJ
  have A:χ (∀(W:ω) (i j bp cap:Nat) (a:Option Addr),β w w W->W.heap[i]?=S (nR sp bp a (cO s d).l.length cap d.kind d.file)->w.heap.size<=i->S4.Three 280 W bp d.rate d.burst d.burst->w.heap.size<=bp->S4.iQ W j (cO s d).n (kN s (cO s d) (cO s d).n)->w.heap.size<=j->Nums W a (cO s d).l->(∀ g o,a=S ⟨g,o,O⟩->w.heap.size<=g/\g≠i/\g≠j/\g≠bp)->(cO s d).l.length<=cap ->
      PJ (W.setCell ⟨i,5,O⟩ j) sp i j bp a cap Q s m C (iw s d)/\β w w (W.setCell ⟨i,5,O⟩ j)):=λW i j bp cap a q F hj L a6 h3 a8 h4 P h6=>by
    have n1:j≠i:=λe=>by
      have b0:W.heap[j]?=_:=h3;rw[e,F] at b0;simp[nR] at b0
    have n2:bp≠i:=λe=>by
      have aR:W.heap[bp]?=_:=L;rw[e,F] at aR;simp[nR] at aR
    have bw:=(h.below q);have b2:∀ k,k<w.heap.size->k≠i:=λk u e=>by omega
    have ba:sp<w.heap.size:=h.lt;refine⟨⟨bw.keep (heap_setCell_other _ _ _ _ (b2 sp ba)) (λk u=>heap_setCell_other _ _ _ _ (b2 k (h.iH u))),⟨?_,(heap_setCell_other W ⟨i,5,O⟩ j _ n1).trans h3,(heap_setCell_other W ⟨i,5,O⟩ bp _ n2).trans L⟩,?_,?_,hJ.newX _,h6⟩,q.setCell (p:=⟨i,5,O⟩) hj _⟩
    . rw[heap_setCell_same W i 5 _ _ _ F];rfl
    . exact h4.keep λg o e=>heap_setCell_other _ _ _ _ (P g o e).2.1
    . rintro g o e (u|u|u|u)
      . have:=h.iH u;have:=(P g o e).1;omega
      . exact(P g o e).2.1 u
      . exact(P g o e).2.2.1 u
      . exact(P g o e).2.2.2 u
  have aq:(cO s d).l=(s.walk d.root).1:=rfl;have b1:χ (JOk s C (iw s d)):=hJ.newX _;have br:χ ((cO s d).kind=d.kind/\(cO s d).file=d.file):=⟨rfl,rfl⟩;have a9:=y.ne;rw[aq] at A
  have Y:χ (∀(W:ω) (i bp cap:Nat) (a:Option Addr),W.heap[i]?=S (nR sp bp a (s.walk d.root).1.length cap d.kind d.file)->(s.walk d.root).1.length<=cap->JHd W i sp a cap (cO s d)):=λW i bp cap a q hc=>by
    obtain⟨q0,q1,q2,q3,_⟩:=Ho q;exact⟨q0,q1,q2,q3,hc⟩
  rw[aq] at E;generalize iw s d=J at A b1 |-;generalize bL:cO s d=J0 at B E A br Y;generalize s.walk d.root=R at a2 Z E A Y b3 a9;obtain⟨l,f⟩:=R;simp only at a2 Z E A Y b3 a9;have a8:0<l.length:=List.length_pos_iff.2 a9;have bE:((l.length:Int)==0)=false:=by simp;omega
  have f1:=vY (J0.n:Int) v.h.p v.h.b;obtain⟨rk,b8⟩:∃ rk:Nat,d.root=(rk:Int):=⟨d.root.toNat,by omega⟩;have bd:d.root.toNat=rk:=by omega
  rw[bd] at B ad;have c6:(0:Int)<=(rk:Int):=by omega
  have c8:(rk:Int)<5:=by omega
  have bb:χ (sp<w.heap.size):=h.lt;generalize (Q rk).p=xr at B ad;generalize v.h.p=vp at B f1;generalize v.h.b=vb at B f1;generalize kN s J0 J0.n=X at E A;generalize J0.n=nn at B E A f1;unfold bI at K I a7;rw[b8] at a2 Z HI I K a7 |-;obtain⟨d0,d1,d2,d3,d4⟩:=I _ (ja0 _ _);go_enter func125,ntmps125;go_wp2_with fail;refine(a2 _ K).mono ?_;rintro e w1 ⟨a,cap,rfl,ar,b6,ap⟩;have an:=ah (K.trans (ap.mono K.size));have ax:=ah ap;obtain⟨g,o,rfl,_⟩:=ar 0 a8;have bj:=ah ar;obtain⟨bn,bR,aa⟩:=b6 g o rfl;have av:w.heap.size<=g:=ja4 K.size bn;obtain⟨q0,q1,q2,q3,q4⟩:=I _ ap;go_wp2_with fail;refine(bm _).mono ?_;rintro e w2 ⟨rfl,bq,af⟩;have aM:=ah bq;have ae:=ah (an.trans (af.mono an.size));have az:=ah (bj.below af);have bk:=ah (Z w2 (S ⟨g,o,O⟩) cap ae az aa);have ag:=ah (ax.trans (af.mono ax.size));have bh:=ah (a7 _ ag);have a6  := an.size;have b5:g≠w1.heap.size:=by omega
  generalize w1.heap.size=bp at aM a6 b5 |-;go_wp2_with (refine wpList_load_mid (by rfl) 82 (.tmp 3) (by rfl) w.heap.size 0 (by rfl) [(rk:Int),d.kind,d.file,d.rate,d.burst] _ bh underlying82 rfl HI ?_)
  refine cEq bk λt a3=>?_
  have ai:=ah (ae.trans (a3.mono ae.size));have al:=ah (ag.trans (a3.mono ag.size));have aD:=ah (az.below a3);have bs:=ah (aM.below a3);obtain⟨q0,q1,q2,q3,q4⟩:=I _ al
  have bS:g<t.heap.size:=by
    obtain⟨H,T,D,ec⟩:=aD 0 a8;cases D;exact ja2 _ _ ec
  have a5:χ (β w w (t.alloc (nR sp bp (S ⟨g,o,O⟩) l.length cap d.kind d.file))):=ai.alloc ai.size _;have M:χ (β t t (t.alloc (nR sp bp (S ⟨g,o,O⟩) l.length cap d.kind d.file))):=(ja0 _ _).alloc (ja1 _) _;have G:=ah (RH (sp:=sp) (bp:=bp) (ln:=l.length) (cap:=cap) (a:=S ⟨g,o,O⟩) (kd:=d.kind) (fl:=d.file) t);have am  := ai.size;unfold nR at a5 M G;go_wp2_with fail;generalize bi:t.alloc (.cells #[.pointer (S ⟨sp,6,O⟩),.slice (S ⟨g,o,O⟩) l.length cap,d.kind,d.file,(2:Int),.pointer O,bp,(-1:Int)] 254)=x at a5 M G |-;have ac:=ah (aD.below M);have bt:=ah (bs.below M);have aL:=ah (al.trans (M.mono al.size));have aw:g≠t.heap.size:=by omega
  have b7:t.heap.size<x:=by rw[<- bi];simp
  generalize t.heap.size=i at G am aw b7 |-;obtain⟨V,_⟩:=I _ aL.drew;have e1:=ad _ a5.drew;have ao:χ (β w w x.drew):=a5.drew;have aE:χ (β x x x.drew):=(ja0 _ _).drew;have c0:w.heap.size<x:=by have:=ja2 _ _ V;exact this
  have be:w.heap.size≠i:=λe=>by
    have F:=G x (ja0 _ _);have L:=(a7 _ aL) 0 _ rfl;rw[<- e] at F;have h3:x.cell? ⟨w,0,O⟩=S (.pointer (S ⟨sp,6,O⟩)):=by simp[World.cell?,F]
    rw[h3] at L;cases L
  have bA:sp≠i:=by have:=bb.out;omega
  go_region_held3 (λW=>W.cell? ⟨w,0,O⟩=S (.int .i64 (rk:Int))/\W.cell? ⟨sp,6+rk,O⟩=S (xr:υ))
    (first|(exact⟨V,e1⟩)|assumption|(exact bv))
    (first
      | (go_at_call 95;refine cEq (B _ ao) λw5 U=>?_;have ab:=ah (ao.trans (U.mono ao.size));have N:=ah (aE.trans (U.mono aE.size));have a0:w5.cell? ⟨w,0,O⟩=S (.int .i64 (rk:Int))/\w5.cell? ⟨sp,6+rk,O⟩=S (xr:υ):=⟨(U.cell (p:=⟨w.heap.size,0,O⟩) (ja2 _ _ V)).trans V,(U.cell (p:=⟨sp,6+rk,O⟩) (ja2 _ _ e1)).trans e1⟩;clear U)
      | (go_at_call 193;refine(E _ i cap (S ⟨g,o,O⟩) ab (Y _ i bp cap _ (G _ N) aa) (ac.below N)).mono ?_;rintro e z ⟨j,rfl,bf,b9,a4⟩;have b4:z.cell? ⟨w,0,O⟩=S (.int .i64 (rk:Int))/\z.cell? ⟨sp,6+rk,O⟩=S (xr:υ):=⟨(a4.cell (p:=⟨w.heap.size,0,O⟩) (ja2 _ _ a0.1)).trans a0.1,(a4.cell (p:=⟨sp,6+rk,O⟩) (ja2 _ _ a0.2)).trans a0.2⟩;have a1:=ah (N.trans (a4.mono N.size));obtain⟨_,_,_,_,c5,f5⟩:=Ho (G _ a1);have bv:χ ((z.setCell ⟨i,5,O⟩ j).cell? ⟨w,0,O⟩=S (.int .i64 (rk:Int))/\(z.setCell ⟨i,5,O⟩ j).cell? ⟨sp,6+rk,O⟩=S (xr:υ)):=⟨(jab (heap_setCell_other z ⟨i,5,O⟩ w.heap.size _ be)).trans b4.1,(jab (heap_setCell_other z ⟨i,5,O⟩ sp _ bA)).trans b4.2⟩))
  have bl:χ (β w w z):=ab.trans (a4.mono ab.size);have bO  := ja4 N.size b9;have c9:g<x.heap.size:=ja2 _ _ (show x.cell? ⟨g,o+0,O⟩=_ by obtain⟨H,T,D,ec⟩:=ac 0 a8;cases D;exact ec);obtain⟨hP,hB⟩:=A z i j bp cap (S ⟨g,o,O⟩) bl (G _ a1) am (bt.below a1) a6 bf (by omega) (ac.below a1) (λH T D=>by cases D;exact⟨av,aw,by omega,b5⟩) aa;have HP:=ah hP;have HB:=ah hB;have bo:χ (w.heap.size<=i/\w.heap.size<=j/\w.heap.size<=bp/\∀ H T,S (⟨g,o,O⟩:Addr)=S ⟨H,T,O⟩->w.heap.size<=H):=⟨am,by omega,a6,λH T D=>by cases D;exact av⟩;go_wp2;go_ret2;exact⟨i,j,bp,C,S ⟨g,o,O⟩,cap,rfl,HP,bo,HB,b1⟩
def RQ{sp d f bp cap m C a i s j}(w)(h:PJ w sp d f bp a cap i s m C j)(y:m+10<1000000000) :
  κ prog 130 #[d] w λe w'=>e=.returned (erV (dF s j))/\dw sp d f bp a cap i s (dQ s j) (m+10) C (dY s j) w w':=by
 have k:=ah (KT w h.job h.ok.set);have x:=ah (RD w h);have n:=ah (RF w h y);have v:χ (∀(W:ω) (z:SV),dw sp d f bp a cap i s z (m+10) C j w W->κ prog 131 #[d,false] W λe w'=>e=.returned (.tuple #[])/\dw sp d f bp a cap i s z (m+10) C (j.at 5) w w'):=λW z ⟨A,u,c⟩=>(AY false W u).mono λe w' ⟨b,t⟩=>⟨b,dw.after c t⟩
 have r:χ (dw sp d f bp a cap i s s (m+10) C j w w):=(dw.refl h).more (by omega);obtain⟨E,c1,c2,c3,_⟩:=h.job.cells;unfold dF dQ dY;by_cases b:j.state=3
 .rw[b] at k;by_cases c:j.kind=2
  .rw[if_pos b,if_pos b,if_pos c,if_pos c];generalize B:dO s (j.l.headD 0) j.file=R at *
   by_cases g:R.2=0
   .rw[if_neg (λe=>e.2.2 g)];rw[g,aJ] at n;rw[g,aJ];go_enter func130,ntmps130;go_wp2_with fail;refine cSt k ?_;go_wp2_with fail;refine cHd n λq o=>?_
    go_wp2;go_ret;exact⟨rfl,o⟩
   .rw[if_pos ⟨b,c,g⟩];rw[bC g] at *
    go_enter func130,ntmps130;go_wp2_with fail;refine cSt k ?_;go_wp2_with fail;refine cEq n λq hd=>?_
    go_wp2_with fail;refine cHd (v _ _ hd) λD o=>?_
    go_wp2;go_ret;exact⟨rfl,o⟩
  .rw[if_pos b,if_pos b,if_neg c,if_neg c,if_neg (λe=>c e.2.1)];generalize s.walk j.file=R at *
   go_enter func130,ntmps130;go_wp2_with fail;refine cSt k ?_;go_wp2_with fail;refine cEq x λq hd=>?_
   go_wp2;go_ret;exact⟨rfl,(hd.more (show m<=m+10 by omega))⟩
 .have g3:(j.state != 3)=true:=by simpa using b
  rw[if_neg b,if_neg b,if_neg (λe=>b e.1),bC (by decide)];generalize j.state=st at *
  go_enter func130,ntmps130;go_wp2_with fail;refine cSt k ?_;go_wp2;go_ret;exact⟨rfl,r⟩
def PJ.LG{w g f sp b d bp cap m C a q l s z}{j:JV}{k:Nat}(E:k<64)(h:PJ g sp b d bp a cap l z m C j.took)(y:Moved (fpP q s b d bp) w (fpP l z b d bp) g)(D:S4.iQ f d j.n (S4.fK j.n j.x (k:Int) false))(t:S4.Kept (λi=>i=d) g f) :
  f.cell? ⟨b,7,O⟩=S (j.last:υ)/\f.frozen? ⟨b,7,O⟩=false/\dw sp b d bp a cap q s z m C (j.went (k:Int)) w (f.setCell ⟨b,7,O⟩ (k:Int)):=by
 obtain⟨o,v⟩:=h.rM   D t;obtain⟨u,r⟩:=o.DR (c:=(k:Int)) ⟨by omega,by omega⟩;obtain⟨_,_,_,_,_,_,_,B,_,A⟩:=o.job.cells;exact⟨B,A,l,u,y.trans (v.trans r)⟩
def RX{sp b d bp cap m C a c s j}(w)(h:PJ w sp b d bp a cap c s m C j)(f:j.stage≠1) :
  κ prog 137 #[b] w λe w'=>e=.returned (.tuple #[false,erV 9])/\dw sp b d bp a cap c s s (m+10) C j w w':=by
 obtain⟨l,c1,c2,c3,c4,g,o,n,k,i⟩:=h.job.cells;have g1:(j.stage != 1)=true:=by simpa using f
 rw[bC (by decide)];go_enter func137,ntmps137;go_wp2;go_ret2;exact⟨rfl,((dw.refl h).more (show m<=m+10 by omega))⟩
def RV{sp b c bp cap m C a i s j}(w)(h:PJ w sp b c bp a cap i s m C j)(t:S4.Tab w)(u:j.stage=1)(D:j.some=false) :
  κ prog 137 #[b] w λe w'=>e=.returned (.tuple #[false,.nilIface])/\dw sp b c bp a cap i s s (m+10) C j w w':=by
 obtain⟨z,c1,c2,c3,c4,k,E,g,L,H⟩:=h.job.cells;rw[u] at *
 have f:χ (β w w w.drew):=(ja0 _ _).drew;have r:S4.jP j.x (S4.elems j.x):=⟨rfl⟩;have o:χ (κ prog 200 #[c,(j.last+1:Int)] w.drew λe w'=>e=.returned (.tuple #[j.pick,j.some])/\β w.drew.heap.size w.drew w'):=S4.DX (S4.elems j.x) r (j.last+1) w.drew (h.job.set.below f) h.ok.set t
 have A:χ (∀ W:ω,β w w W->W.cell? ⟨b,5,O⟩=S (c:υ)/\W.cell? ⟨b,7,O⟩=S (j.last:υ)):=λW d=>by
  obtain⟨z,c1,c2,c3,c4,k,E,g,_⟩:=(h.below d).job.cells;exact⟨k,g⟩
 have K:=h.ok.last;have J:IntKind.i64.wrap (j.last+1)=j.last+1:=ja9 _ (by omega);have B:w.drew.cell? ⟨b,5,O⟩=S (c:υ):=k;have y  := g;rw[D] at *
 have q:χ (∀ W:ω,β w w W->dw sp b c bp a cap i s s (m+10) C j w W):=λW d=>(dw.below h d).more (by omega)
 generalize j.pick=M at *
 generalize j.last=v at *
 go_enter func137,ntmps137;go_wp2
 go_region_held3 (λW=>W.cell? ⟨b,5,O⟩=S (c:υ)/\W.cell? ⟨b,7,O⟩=S (v:υ))
  (first|(exact⟨B,y⟩)|assumption)
  (first
    | (go_at_call 200;refine cEq o λG n=>?_;have l:=ah (f.trans (n.mono f.size));have I:=A _ l;clear n))
 have F:=ah (q _ l);go_wp2;go_ret2;exact⟨rfl,F⟩
def RY{sp b f bp cap m C a o s j}(w)(h:PJ w sp b f bp a cap o s m C j)(E:S4.Tab w)(d:j.stage=1)(G:j.some=true)(y:S4.inB 4 j.lv=false) :
  κ prog 137 #[b] w λe w'=>e=.returned (.tuple #[false,.nilIface])/\dw sp b f bp a cap o s s (m+10) C j w w':=by
 have r:=ah h;obtain⟨v,c1,c2,c3,c4,i,q,g,T,J⟩:=h.job.cells;rw[d] at *
 have t:χ (β w w w.drew):=(ja0 _ _).drew;have D:S4.jP j.x (S4.elems j.x):=⟨rfl⟩;have I:χ (κ prog 200 #[f,(j.last+1:Int)] w.drew λe w'=>e=.returned (.tuple #[j.pick,j.some])/\β w.drew.heap.size w.drew w'):=S4.DX (S4.elems j.x) D (j.last+1) w.drew (h.job.set.below t) h.ok.set E
 have F:χ (∀ W:ω,β w w W->W.cell? ⟨b,5,O⟩=S (f:υ)/\W.cell? ⟨b,7,O⟩=S (j.last:υ)):=λW c=>by
  obtain⟨v,c1,c2,c3,c4,i,q,g,_⟩:=(h.below c).job.cells;exact⟨i,g⟩
 have Y:=h.ok.last;have X:IntKind.i64.wrap (j.last+1)=j.last+1:=ja9 _ (by omega);have Q:w.drew.cell? ⟨b,5,O⟩=S (f:υ):=i;have M:w.drew.cell? ⟨b,7,O⟩=S (j.last:υ):=g;rw[G] at *
 have z:χ (∀ W:ω,β w w W->W.cell? ⟨b,6,O⟩=S (bp:υ)):=λW c=>by
  obtain⟨v,c1,c2,c3,c4,i,q,g,_⟩:=(h.below c).job.cells;exact q
 have u:χ (∀ W:ω,β w w W->κ prog 201 #[bp,(4:Int)] W λe w'=>e=.returned (.bool (S4.inB 4 j.lv))/\S4.Three 280 w' bp j.rate j.burst (S4.jU j.lv 4)/\S4.Kept (λk=>k=bp) W w'):=λW c=>S4.EH 4 W (h.job.bkt.below c) ⟨h.ok.lv.1,by have:=h.ok.lv;omega⟩
 have B:S4.jU j.lv 4=j.lv:=by unfold S4.jU;rw[y];rfl
 rw[y,B] at u
 have A:χ (∀ W w':ω,β w w W->S4.Three 280 w' bp j.rate j.burst j.lv->S4.Kept (λk=>k=bp) W w'->dw sp b f bp a cap o s s (m+10) C j w w'):=λW w' c d n=>by
  obtain⟨P,R⟩:=(r.below c).tZ d n ⟨r.ok.lv.1,r.ok.lv.2.1⟩;exact⟨o,P.more (by omega),(Moved.of_below c).trans R⟩
 clear h r E D G d v c1 c2 c3 i q g T J y B;generalize j.pick=Z at *
 generalize j.last=L at *
 go_enter func137,ntmps137;go_wp2
 go_region_held3 (λW=>W.cell? ⟨b,5,O⟩=S (f:υ)/\W.cell? ⟨b,7,O⟩=S (L:υ))
  (first|(exact⟨Q,M⟩)|assumption)
  (first
    | (go_at_call 200;refine I.mono ?_;rintro e V ⟨rfl,H⟩;have l:=ah (t.trans (H.mono t.size));have N:=F _ l;clear H))
 have K:=z _ l;clear N z F;go_wp2_with fail;refine(u _ l).mono ?_;rintro e w2 ⟨rfl,d,n⟩;have U:=ah (A _ _ l d n);clear d n K u A l;go_wp2;go_ret2;exact⟨rfl,U⟩
def Cb{sp b c bp cap m C a u s j B V S' P}(w)(h:PJ w sp b c bp a cap u s m C j)(hT:S4.Tab w)(hm:m+10<1000000000)(d:j.stage=1)(a0:j.some=true)(T:S4.inB 4 j.lv=true)
    (E:j.jr s j.pick=false/\B=true/\V=.nilIface/\S'=s/\P=j.went j.pick\/j.jr s j.pick=true/\S'=(j.moved s j.pick).1/\((j.moved s j.pick).2=0/\B=true/\V=.nilIface/\P=j.went j.pick\/(j.moved s j.pick).2≠0/\B=false/\V=.iface 96 (.int .i64 (j.moved s j.pick).2)/\P=j.fell)) :
    κ prog 137 #[b] w λe w'=>e=.returned (.tuple #[B,V])/\dw sp b c bp a cap u s S' (m+10) C P w w':=by
  have HP:=ah h;obtain⟨c0,c1,c2,c3,c4,H,Q,r,f4,X⟩:=h.job.cells;rw[d] at c4;have N:χ (β w w w.drew):=(ja0 _ _).drew;have a7:S4.jP j.x (S4.elems j.x):=⟨rfl⟩;have K:χ (κ prog 200 #[c,(j.last+1:Int)] w.drew λe w'=>e=.returned (.tuple #[j.pick,j.some])/\β w.drew.heap.size w.drew w'):=S4.DX (S4.elems j.x) a7 (j.last+1) w.drew (h.job.set.below N) h.ok.set hT
  have HC:χ (∀ W:ω,β w w W->W.cell? ⟨b,5,O⟩=S (c:υ)/\W.cell? ⟨b,7,O⟩=S (j.last:υ)):=λW l=>by
    obtain⟨c0,c1,c2,c3,c4,H,Q,r,_⟩:=(h.below l).job.cells;exact⟨H,r⟩
  have ag:=h.ok.last;have af:IntKind.i64.wrap (j.last+1)=j.last+1:=ja9 _ (by omega);have d5:w.drew.cell? ⟨b,5,O⟩=S (c:υ):=H;have d7:w.drew.cell? ⟨b,7,O⟩=S (j.last:υ):=r;rw[a0] at K
  have a4:χ (∀ W:ω,β w w W->W.cell? ⟨b,6,O⟩=S (bp:υ)):=λW l=>by
    obtain⟨c0,c1,c2,c3,c4,H,Q,r,_⟩:=(h.below l).job.cells;exact Q
  have Y:χ (∀ W:ω,β w w W->κ prog 201 #[bp,(4:Int)] W λe w'=>e=.returned (.bool (S4.inB 4 j.lv))/\S4.Three 280 w' bp j.rate j.burst (S4.jU j.lv 4)/\S4.Kept (λk=>k=bp) W w'):=λW l=>S4.EH 4 W (h.job.bkt.below l) ⟨h.ok.lv.1,by have:=h.ok.lv;omega⟩
  have Z:4<=j.lv:=by unfold S4.inB at T;simp at *;omega
  have a6:S4.jU j.lv 4=j.lv-4:=by unfold S4.jU;rw[T];rfl
  rw[T,a6] at Y
  have a5:χ (∀ W w':ω,β w w W->S4.Three 280 w' bp j.rate j.burst (j.lv-4)->S4.Kept (λk=>k=bp) W w'->PJ w' sp b c bp a cap u s m C j.took/\Moved (fpP u s b c bp) w (fpP u s b c bp) w'):=λW w' l d f=>by
    obtain⟨p1,m1⟩:=(HP.below l).tZ d f ⟨by omega,by have:=HP.ok.lv;omega⟩;exact⟨p1,(Moved.of_below l).trans m1⟩
  obtain⟨k,aa,ad,a3⟩:=h.ok.pick a0;rw[aa] at K E;clear h HP hT a7 a0 d c0 c1 c2 c3 H Q r f4 X T a6 aa Z;generalize ai:j.last=ac at *
  go_enter func137,ntmps137;go_wp2
  go_region_held3 (λW=>W.cell? ⟨b,5,O⟩=S (c:υ)/\W.cell? ⟨b,7,O⟩=S (ac:υ))
    (first|(exact⟨d5,d7⟩)|assumption)
    (first
      | (go_at_call 200;refine K.mono ?_;rintro e w1 ⟨rfl,ab⟩;have A:=ah (N.trans (ab.mono N.size));have ae:=HC _ A;clear ab))
  have e6:=a4 _ A;clear ae a4 HC d5 d7 K;go_wp2_with fail;refine(Y _ A).mono ?_;rintro e w2 ⟨rfl,d,f⟩;obtain⟨o,m2⟩:=a5 _ _ A d f;have M:=ah m2;have L:=ah o;have y:=ah (LD (k:Int) w2 (o.job.hd o.cap) o.shelf o.nums o.ok);rw[show j.took.jr s (k:Int)=j.jr s (k:Int) from rfl] at *
  clear d f o m2 e6 Y a5 A N;rcases E with⟨a1,rfl,rfl,rfl,rfl⟩|⟨a1,hS,E⟩
  . rw[a1] at y;go_wp2_with fail;refine y.mono ?_;rintro e q ⟨rfl,v⟩;have g:=ah (L.below v);have t:=ah (M.trans (Moved.of_below v));clear v y L M;have U:=g.job.cells.2.2.2.2.2.1;have I:χ (κ prog 204 #[c,(k:Int),false] q λe w'=>e=.returned (.bool (S4.gI j.n j.x (k:Int) false))/\S4.iQ w' c j.n (S4.fK j.n j.x (k:Int) false)/\S4.Kept (λi=>i=c) q w'):=S4.zQ (k:Int) false q g.job.set g.ok.set;generalize S4.gI j.n j.x (k:Int) false=pb at *
    go_wp2_with fail;refine I.mono ?_;rintro e w6 ⟨rfl,d,f⟩;obtain⟨r,X,hd⟩:=PJ.LG a3 g t d f;have J:=ah (hd.more (show m<=m+10 by omega));clear hd d f I U g t;go_wp2;go_ret2;exact⟨rfl,J⟩
  . rw[a1] at y;go_wp2_with fail;refine y.mono ?_;rintro e q ⟨rfl,v⟩;have g:=ah (L.below v);have t:=ah (M.trans (Moved.of_below v));clear v y L M;have z:χ (κ prog 203 #[b,(k:Int)] q λe w'=>e=.returned (erV (j.moved s (k:Int)).2)/\dw sp b c bp a cap u s (j.moved s (k:Int)).1 (m+10) C j.took q w'):=RG k q g ad hm;generalize a9:j.moved s (k:Int)=R at z E;rcases E with⟨hR,rfl,rfl,rfl⟩|⟨hR,rfl,rfl,rfl⟩
    . rw[hR,aJ] at z;go_wp2_with fail;refine z.mono ?_;rintro e w4 ⟨rfl,zs,F,D⟩;have G:=ah F;have a2:=ah (t.trans D);clear F D z g t;have U:=G.job.cells.2.2.2.2.2.1;have I:χ (κ prog 204 #[c,(k:Int),false] w4 λe w'=>e=.returned (.bool (S4.gI j.n j.x (k:Int) false))/\S4.iQ w' c j.n (S4.fK j.n j.x (k:Int) false)/\S4.Kept (λi=>i=c) w4 w'):=S4.zQ (k:Int) false w4 G.job.set G.ok.set;generalize S4.gI j.n j.x (k:Int) false=pb at *
      go_wp2_with fail;refine I.mono ?_;rintro e w6 ⟨rfl,d,f⟩;obtain⟨r,X,hd⟩:=PJ.LG a3 G a2 d f;have J:=ah (hd.more (show m+10<=m+10 by omega));clear hd d f I U G a2;go_wp2;go_ret2;exact⟨rfl,by rw[hS,a9];exact J⟩
    . rw[bC hR] at *
      go_wp2_with fail;refine z.mono ?_;rintro e w4 ⟨rfl,zs,F,D⟩;have a8:χ (κ prog 131 #[b,false] w4 λe w'=>e=.returned (.tuple #[])/\dw sp b c bp a cap u s R.1 (m+10) C j.fell w w'):=(AY false w4 F).mono λe w' ⟨h3,Z⟩=>⟨h3,dw.after (t.trans D) Z⟩
      clear F D z g t;go_wp2_with fail;refine a8.mono ?_;rintro e w5 ⟨rfl,hd⟩;have J:=ah hd;clear hd a8;go_wp2;go_ret2;exact⟨rfl,by rw[hS,a9];exact J⟩
def RU{sp k o bp cap m C a n s j}(w)(h:PJ w sp k o bp a cap n s m C j)(d:S4.Tab w)(l:m+10<1000000000) :
  κ prog 137 #[k] w λe w'=>e=.returned (.tuple #[.bool (eP s j),erV (bF s j)])/\dw sp k o bp a cap n s (stepS s j) (m+10) C (stepJ s j) w w':=by
 unfold eP bF stepS stepJ;by_cases b:j.stage=1
 .cases f:j.some with
  | false =>
   rw[decide_eq_false (λe=>absurd e.2.1 (by decide)),if_pos b,if_neg (λe=>absurd e.1 (by decide)),if_neg (λe=>absurd e.2.1 (by decide)),if_neg (λe=>absurd e.2.1 (by decide)),aJ];exact RV w h d b f
  | true =>
   cases g:S4.inB 4 j.lv with
   | false =>
    rw[decide_eq_false (λe=>absurd e.2.2.1 (by decide)),if_pos b,if_neg (λe=>absurd e.2.1 (by decide)),if_neg (λe=>absurd e.2.2.1 (by decide)),if_neg (λe=>absurd e.2.2 (by decide)),aJ];exact RY w h d b f g
   | true =>
    cases i:j.jr s j.pick with
    | false =>
     rw[decide_eq_true ⟨b,rfl,rfl,λe=>absurd e.1 (by decide)⟩,if_pos b,if_neg (λe=>absurd e.2.2 (by decide)),if_neg (λe=>absurd e.2.2.2 (by decide)),if_pos ⟨b,rfl,rfl⟩,if_neg (λe=>absurd e.1 (by decide)),aJ];exact Cb w h d l b f g (.inl ⟨i,rfl,rfl,rfl,rfl⟩)
    | true =>
     by_cases c:(j.moved s j.pick).2=0
     .rw[decide_eq_true ⟨b,rfl,rfl,λe=>e.2 c⟩,if_pos b,if_pos ⟨rfl,rfl,rfl⟩,if_pos ⟨b,rfl,rfl,rfl⟩,if_pos ⟨b,rfl,rfl⟩,if_neg (λe=>e.2 c),c,aJ];exact Cb w h d l b f g (.inr ⟨i,rfl,.inl ⟨c,rfl,rfl,rfl⟩⟩)
     .rw[decide_eq_false (λe=>e.2.2.2 ⟨rfl,c⟩),if_pos b,if_pos ⟨rfl,rfl,rfl⟩,if_pos ⟨b,rfl,rfl,rfl⟩,if_pos ⟨b,rfl,rfl⟩,if_pos ⟨rfl,c⟩,bC c];exact Cb w h d l b f g (.inr ⟨i,rfl,.inr ⟨c,rfl,rfl,rfl⟩⟩)
 .rw[decide_eq_false (λe=>b e.1),if_neg b,if_neg (λe=>b e.1),if_neg (λe=>b e.1)];exact RX w h b
