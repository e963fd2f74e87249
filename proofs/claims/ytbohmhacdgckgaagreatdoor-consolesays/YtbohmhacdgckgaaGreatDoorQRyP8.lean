/- A part. -/
import Derived.Test.YtbohmhacdgckgaaGreatDoorQRyMem4
set_option linter.all false
set_option maxHeartbeats 4000000
set_option maxRecDepth 100000
namespace Go.Proofs.YtbohmhacdgckgaaGreatDoor
open Go.RowKit renaming Below->β, Hid->χ
open Go renaming World->ω, Value->υ, Calls->κ
open Option renaming none->O, some->S
open Go.Proofs.Tryz Go.RowKit Go.Maps
attribute [local go_sem ↓] Go.wp_at_zero Go.wp_at_succ
def KV.FX(r k f a u):KV.fault ⟨r,k,f,a,u⟩=if (inB r 0 4&&inB k 0 3&&inB f (-1) 4&&inB a 0 1000&&inB u 0 1000)=true then (if ((k==0)&&(f == -1)&&(a==0)&&(u==0) || !(k==0) && !(f==r)&&(!(f == -1)||(k==2)))=true then 0 else 2) else 1:=by
 unfold KV.fault KV.bound KV.may inB;simp only[jb3,Bool.or_eq_true,decide_eq_true_eq,beq_iff_eq,Bool.not_eq_true',beq_eq_false_iff_ne,ne_eq,and_assoc]
def KV.P9(r k f a u):KV.fault ⟨r,k,f,a,u⟩=if (decide (r<0)||decide (4<r)||decide (k<0)||decide (3<k)||decide (f < -1)||decide (4<f)||decide (a<0)||decide (1000<a)||decide (u<0)||decide (1000<u))=true then 1 else if ((k==0)&&(f == -1)&&(a==0)&&(u==0) || !(k==0) && !(f==r)&&(!(f == -1)||(k==2)))=true then 0 else 2:=by
 rw[KV.FX];unfold inB;generalize ((k==0)&&(f == -1)&&(a==0)&&(u==0) || !(k==0) && !(f==r)&&(!(f == -1)||(k==2)))=b;simp only[jb3,Bool.or_eq_true,decide_eq_true_eq];split<;>split<;>first|rfl|omega
def AA(r k f a u:Int)(w) :
  κ prog 124 #[.agg #[r,k,f,a,u]] w λe w'=>e=.returned (erV (KV.fault ⟨r,k,f,a,u⟩))/\β w w w':=by
 have b:=ah (KV.FX r k f a u);have j:(k != 0) = !(k==0):=rfl;have n:(f != -1) = !(f == -1):=rfl;have o:(a != 0) = !(a==0):=rfl;have c:(u != 0) = !(u==0):=rfl;have d:(k != 2) = !(k==2):=rfl;cases y0:inB r 0 4;rotate_left;cases y1:inB k 0 3;rotate_left;cases q:inB f (-1) 4;rotate_left;cases g:inB a 0 1000;rotate_left;cases m:inB u 0 1000;rotate_left;cases i:(k==0);cases c1:(f==r);cases c2:(f == -1);rotate_left;cases c3:(k==2);rotate_left 3;cases c2:(f == -1);rotate_left;cases c4:(a==0);rotate_left;cases l:(u==0)
 all_goals
  go_enter func124,ntmps124;go_wp2_with (go_at_call 96;refine(mM _ _ _ _).mono ?_;rintro e w' ⟨rfl,rfl⟩)
  go_ret;exact⟨mg (by rw[b.out];simp[*];try rfl),(ja0 _ _).alloc (ja1 _) _⟩
def Fv(r k f a u:Int)(w) :
  κ prog 127 #[.agg #[r,k,f,a,u]] w λe w'=>e=.returned (KV.fault ⟨r,k,f,a,u⟩)/\β w w w':=by
 have b:=ah (KV.P9 r k f a u);have d:(k != 2) = !(k==2):=rfl;cases y0:decide (r<0);cases y1:decide (4<r);cases s:decide (k<0);cases g:decide (3<k);cases o:decide (f < -1);cases j:decide (4<f);cases l:decide (a<0);cases c:decide (1000<a);cases i:decide (u<0);cases n:decide (1000<u);cases q:(k==0);cases c1:(f==r);cases c2:(f == -1);rotate_left;cases c3:(k==2);rotate_left 3;cases c2:(f == -1);rotate_left;cases c4:(a==0);rotate_left;cases m:(u==0)
 all_goals
  go_enter func127,ntmps127;go_wp2;go_ret;exact⟨rP (by rw[b.out];simp[*]),(ja0 _ _).alloc (ja1 _) _⟩
def yY(x y w)(c:0<=x)(b:x<256)(a:0<=y)(d:y<256) :
  κ prog 152 #[.int .u8 x,.int .u8 y] w λe w'=>e=.returned (x+y*256:Int)/\w'=w:=by
 go_enter func152,ntmps152;go_wp2;go_ret;simp_all
def FD(r k f a u w)(d:KV.fault ⟨r,k,f,a,u⟩=0) :
  κ prog 104 #[.agg #[r,k,f,a,u]] w λe w'=>e=.returned (.tuple #[.string (gK [68,75,r,k,f+1,a % 256,a / 256,u % 256,u / 256]),.nilIface])/\β w w w':=by
 have g:=AA r k f a u (w.alloc (.cells #[r,k,f,a,u] 82));rw[d,aJ] at g;have n:=of_decide_eq_true (KV.qF d).1;simp only at *
 go_enter func104,ntmps104;go_wp2_with fail;refine cEq g λc b=>?_
 obtain⟨m,j⟩:=oQ b;have o:w.heap.size<c:=by have:=b.size;simp at *;omega
 go_wp2_with fail;refine(J8 [68,75,r,k,f+1,a % 256,a / 256,u % 256,u / 256] _ 9 _ (by simp) ?_ (EM c _ 5)).mono ?_
 .simp
 rintro e l ⟨rfl,i⟩;go_wp2;go_ret2;exact⟨rfl,((((ja0 _ _).alloc (ja1 _) _).trans (b.mono (by simp))).alloc (by omega) _).trans (i.mono (by simp;omega))⟩
def OL(r k f a u w)(d:KV.fault ⟨r,k,f,a,u⟩≠0) :
  κ prog 104 #[.agg #[r,k,f,a,u]] w λe w'=>e=.returned (.tuple #[.string ⟨#[]⟩,.iface 96 (.int .i64 (KV.fault ⟨r,k,f,a,u⟩))])/\β w w w':=by
 have b:=AA r k f a u (w.alloc (.cells #[r,k,f,a,u] 82));have c:erV (KV.fault ⟨r,k,f,a,u⟩)=.iface 96 (.int .i64 (KV.fault ⟨r,k,f,a,u⟩)):=by unfold erV;rw[if_neg d]
 rw[c] at b;generalize KV.fault _=F at *
 go_enter func104,ntmps104;go_wp2_with fail;refine cEq b λi g=>?_
 go_wp2;go_ret2;exact⟨rfl,((ja0 _ _).alloc (ja1 _) _).trans (g.mono (by simp))⟩
def Fz(r k f a u w)(b:KV.fault ⟨r,k,f,a,u⟩=0) :
  κ prog 112 #[.agg #[r,k,f,a,u]] w λe w'=>e=.returned (.string (gK [68,75,r,k,f+1,a % 256,a / 256,u % 256,u / 256]))/\β w w w':=by
 have g:=of_decide_eq_true (KV.qF b).1;simp only at *
 go_enter func112,ntmps112;go_wp2_with fail;refine(Ju [68,75,r,k,f+1,a % 256,a / 256,u % 256,u / 256] _ _ 9 _ (by simp) ?_ (Jg _ _ _ (by simp) (by simp))).mono ?_
 .simp
 rintro e d ⟨rfl,c⟩;go_wp2;go_ret;exact⟨rfl,(((ja0 _ _).alloc (ja1 _) _).alloc (by simp) _).trans (c.mono (by omega))⟩
def FB(d:aP):(gK d.kv.bytes).size=16:=zG _ (by show 9<=12;omega)
def aF.box{w W c b Z y z}(h:au w b Z y)(hd:aF b Z y z W c){n:Nat}{o}(f:w<=n)(a:W.heap[n]?=S o):c.heap[n]?=S o:=by
 obtain⟨Z',_,_,d⟩:=hd;rw[d.block (lt_of_some a) (λe=>by have:=h.gG e;omega)];exact a
def vK{a m Z y}(d w)(h:au w a Z y)(B:y.top.fine y.top.fl.length m)(hd:d.kv.fault=0)(hm:m<1000000000) :
  κ prog 38 #[a,.agg #[d.root,d.kind,d.file,d.rate,d.burst]] w λe w'=>e=.returned y.aN/\aF a Z y (y.aA d) w w':=by
 have u:χ (β w w (w.alloc (bI d))):=(ja0 _ _).alloc (ja1 _) _;have n:=h.below u;have G:=ah λW=>Fz d.root d.kind d.file d.rate d.burst W hd
 have r:χ (∀ W:ω,β (w.alloc (bI d)).heap.size (w.alloc (bI d)) W->κ prog 109 #[Z.tp.p,(0:Int),.string (gK d.kv.bytes)] W λe w'=>e=.returned y.top.aV/\aF a Z y {y with top:=y.top.put 0 (YV.ng d)} (w.alloc (bI d)) w'):=λW c =>
  (kav _ W (n.below c) B hm (FB d)).mono λe w' ⟨n,v⟩=>⟨n,aF.from c v⟩
 have D:χ (∀ W:ω,β (w.alloc (bI d)).heap.size (w.alloc (bI d)) W->W.cell? ⟨a,5,O⟩=S (Z.tp.p:υ)/\W.cell? ⟨w,0,O⟩=S (d.root:υ)/\W.cell? ⟨w,1,O⟩=S (d.kind:υ)/\W.cell? ⟨w,2,O⟩=S (d.file:υ)/\W.cell? ⟨w,3,O⟩=S (d.rate:υ)/\W.cell? ⟨w,4,O⟩=S (d.burst:υ)):=λW c =>
  ⟨(n.below c).blk.cells.2.1,qw d w W c⟩
 have E:=ah λz W (hd:aF a Z y z (w.alloc (bI d)) W)=>aF.box h hd (ja1 _) (heap_alloc_new w _)
 have A:χ (∀ W:ω,W.heap[w.heap.size]?=S (bI d)->W.cell? ⟨w,0,O⟩=S (d.root:υ)/\W.cell? ⟨w,1,O⟩=S (d.kind:υ)/\W.cell? ⟨w,2,O⟩=S (d.file:υ)/\W.cell? ⟨w,3,O⟩=S (d.rate:υ)/\W.cell? ⟨w,4,O⟩=S (d.burst:υ)):=λW T=>by
  unfold bI at *
  refine⟨?_,?_,?_,?_,?_⟩<;>(rw[cell_of_row _ _ _ _ _ _ T];rfl)
 have C:χ (∀ W:ω,aF a Z y {y with top:=y.top.put 0 (YV.ng d)} (w.alloc (bI d)) W->W.cell? ⟨a,5,O⟩=S (Z.tp.p:υ)/\κ prog 110 #[Z.tp.p] W λe w'=>e=.returned (.tuple #[])/\aF a Z y {y with top:=(y.top.put 0 (YV.ng d)).flushed} (w.alloc (bI d)) w'):=λW ⟨N,j,g1,g2⟩=>by
  have P:=g1.blk.cells.2.1;rw[j.tp] at *
  refine⟨P,?_⟩;rw[<- j.tp];have o:=B.put (i:=0) (s:=YV.ng d) B.ok.n1 (by show(gK d.kv.bytes).data.toList.length=16;have:=FB d;simpa using this) (by omega);refine cEq (kau (m:=m+1) W g1 (by show DV.fine _ (y.top.put 0 (YV.ng d)).fl.length _;rw[o.len];exact o)) λw' v=>?_
  exact⟨rfl,aF.trans j g2 v⟩
 have a1:χ (∀ W:ω,aF a Z y {y with top:=(y.top.put 0 (YV.ng d)).flushed} (w.alloc (bI d)) W->(W.cell? ⟨a,7,O⟩=S (y.kd.root:υ)/\W.cell? ⟨a,8,O⟩=S (y.kd.kind:υ)/\W.cell? ⟨a,9,O⟩=S (y.kd.file:υ)/\W.cell? ⟨a,10,O⟩=S (y.kd.rate:υ)/\W.cell? ⟨a,11,O⟩=S (y.kd.burst:υ))/\(∀ i,W.frozen? ⟨a,i,O⟩=false)/\aF a Z y {y with top:=(y.top.put 0 (YV.ng d)).flushed,kd:=d} w (W.setCells a 7 (kdV d))):=λW ⟨N,j,g1,g2⟩=>by
  obtain⟨g3,X⟩:=g1.rZ d;obtain⟨_,_,_,I,H,J,M,Q,_,_,U⟩:=g1.blk.cells;exact⟨⟨I,H,J,M,Q⟩,U,N,j,g3,(Moved.of_below u).trans (g2.trans X)⟩
 have R:=ah λz W (hd:aF a Z y z (w.alloc (bI d)) W)=>aF.from u hd
 unfold YV.aA YV.aN;have a3:0<=y.top.aV:=by rcases DV.oH y.top with h|h<;>omega
 generalize y.top.aV=F at *
 unfold bI at *
 have f:χ (β (w.alloc (.cells #[d.root,d.kind,d.file,d.rate,d.burst] 82)).heap.size (w.alloc (.cells #[d.root,d.kind,d.file,d.rate,d.burst] 82)) (w.alloc (.cells #[d.root,d.kind,d.file,d.rate,d.burst] 82)).drew):=(ja0 _ _).drew;have L:=D _ f;by_cases q:F=0
 .rw[if_pos q,q];rw[q] at r;go_enter func38,ntmps38;go_wp2
  go_region_held3 (λW=>W.cell? ⟨a,5,O⟩=S (Z.tp.p:υ)/\W.cell? ⟨w,0,O⟩=S (d.root:υ)/\W.cell? ⟨w,1,O⟩=S (d.kind:υ)/\W.cell? ⟨w,2,O⟩=S (d.file:υ)/\W.cell? ⟨w,3,O⟩=S (d.rate:υ)/\W.cell? ⟨w,4,O⟩=S (d.burst:υ))
   (first|(exact L)|assumption)
   (first
     | (go_at_call 112;refine cEq (G _) λt k=>?_;have g:=ah (f.trans (k.mono f.size));have V:=D t g;clear k)
     | (go_at_call 109;refine cEq (r _ g) λw2 b=>?_;have Y:=And.intro (C _ b).1 (A _ (E _ _ b));have x:=ah b;clear b))
  obtain⟨P,o⟩:=C _ x;go_wp2_with fail;refine cEq o λw3 K=>?_
  obtain⟨x0,x1,x2,x3,x4⟩:=(A _ (E _ _ K));obtain⟨⟨I,H,J,M,Q⟩,l,a0⟩:=a1 _ K;have z7:=l 7;have z8:=l 8;have z9:=l 9;have a2:=l 10;have a4:=l 11;go_wp2;go_ret;exact⟨rfl,a0⟩
 .rw[if_neg q];have gF  := decide_eq_true (by omega);go_enter func38,ntmps38;go_wp2
  go_region_held3 (λW=>W.cell? ⟨a,5,O⟩=S (Z.tp.p:υ)/\W.cell? ⟨w,0,O⟩=S (d.root:υ)/\W.cell? ⟨w,1,O⟩=S (d.kind:υ)/\W.cell? ⟨w,2,O⟩=S (d.file:υ)/\W.cell? ⟨w,3,O⟩=S (d.rate:υ)/\W.cell? ⟨w,4,O⟩=S (d.burst:υ))
   (first|(exact L)|assumption)
   (first
     | (go_at_call 112;refine cEq (G _) λt k=>?_;have g:=ah (f.trans (k.mono f.size));have V:=D t g;clear k)
     | (go_at_call 109;refine cEq (r _ g) λw2 b=>?_;have Y:=And.intro (C _ b).1 (A _ (E _ _ b));have x:=ah b;clear b))
  go_wp2;go_ret;exact⟨rfl,(R _ _ x)⟩
def kdG(d:aP):Value:=.agg #[d.root,d.kind,d.file,d.rate,d.burst]
def xO(r:Int)(w):κ prog 35 #[r] w λe w'=>e=.returned (kdG (aj r))/\β w w w':=by
 go_enter func35,ntmps35;go_wp2;exact bodyPost_ret (v:=.agg #[r,(0:Int),(-1:Int),(0:Int),(0:Int)]) (by simp[results,results35,go_sem]) rfl ⟨rfl,(ja0 _ _).alloc (ja1 _) _⟩
def XT{s j}(a:j.kind≠2)(l):bW l s (dQ s j):=by
 unfold dQ;split
 .exact .iG l _ _
 .exact .refl l _
def AV(y:YV):0<=y.aN:=by rcases DV.oH y.top with h|h<;>(unfold YV.aN;omega)
def au.walked{w W a m Z i y z l}(r)(f:oO Z i)(h:au W a i z)(t:Moved (fpZ a Z y) w (fpZ a i z) W)(E:z.s.ok m)(B:(z.s.walk r).1=l)(k:l≠[]) :
  W.cell? ⟨a,6,O⟩=S (Z.sp:υ)/\κ prog 82 #[Z.sp,r] W λe w'=>∃(b:Option Addr) (d:Nat),e=.returned (.tuple #[.slice b l.length d,.int .i64 (z.s.walk r).2])/\(∃ v,w'.cell? ⟨a,12,O⟩=S v)/\w'.frozen? ⟨a,12,O⟩=false/\∃ c:Zh,(∀ g o,c.la=S ⟨g,o,O⟩->w<=g/\g<w')/\c.jb=Z.jb/\c.tp.p=Z.tp.p/\c.sp=Z.sp/\au (w'.setCell ⟨a,12,O⟩ (.slice b l.length d)) a c {z with l:=l}/\Moved (fpZ a Z y) w (fpZ a c {z with l:=l}) (w'.setCell ⟨a,12,O⟩ (.slice b l.length d)):=by
 have D:=h.blk.cells.2.2.1;rw[f.sp] at *
 refine⟨D,?_⟩;rw[<- f.sp];refine(wW r W (h.shelf E)).mono ?_;rintro e w' ⟨b,d,rfl,q,u,n⟩;rw[B] at *
 have j:=h.below n;obtain⟨_,_,_,_,_,_,_,_,x,_,C⟩:=j.blk.cells
 obtain⟨g1,g2⟩:=j.um  q k λg o e A=>by
  have:=(u g o e).1
  have:=h.gG A
  omega
 refine⟨b,d,rfl,⟨_,x⟩,C 12,{i with la:=b,lc:=d},λg o e=>⟨ja4 t.size (u g o e).1,q.lt k e⟩,f.jb,f.tp,rfl,g1,t.trans ((Moved.of_below n).trans g2)⟩
def MK{a m Z y j}(root st:Int)(w)(h:au w a Z y)(hs:y.s.ok m)(N:y.top.fine y.top.fl.length m)(q:y.j=S j)(a0:st≠1)(H:0<=root/\root<=4)(K:(y.s.walk root).1≠[])(hm:m<1000000000) :
  κ prog 133 #[a,root,st] w λe w'=>e=.returned y.aN/\bY a Z y (y.over root st) w w':=by
 have B:=ah (xO root w);have r:χ (∀ W:ω,β w w W->κ prog 38 #[a,kdG (aj root)] W λe w'=>e=.returned y.aN/\aF a Z y (y.aA (aj root)) w w'):=λW A=>(vK (aj root) W (h.below A) N (lW H.1 H.2) hm).mono λe w' ⟨h1,L⟩=>⟨h1,aF.from A L⟩
 obtain⟨D,_,s3,J⟩:=nY y (aj root)
 have a2:χ (∀ W:ω,aF a Z y (y.aA (aj root)) w W->W.cell? ⟨a,13,O⟩=S (Z.jb.xp:υ)/\W.cell? ⟨Z.jb.xp,74,O⟩=S (j.state:υ)/\W.frozen? ⟨Z.jb.xp,74,O⟩=false/\aF a Z y {y.aA (aj root) with j:=S (j.at st)} w (W.setCell ⟨Z.jb.xp,74,O⟩ st)):=λW ⟨E,d,g1,g2⟩=>by
  have u:=J.trans q;obtain⟨_,_,_,_,_,_,_,_,_,I,_⟩:=g1.blk.cells;rw[u] at I;obtain⟨l,q2⟩:=g1.stage u a0;have C:=(g1.job j u).1;rw[<- d.jb];exact⟨I,C.cell (i:=74) (by omega),C.thaw 74,E,d,l,g2.trans q2⟩
 have a1:χ (∀ W:ω,y.aN=0->aF a Z y {y.aA (aj root) with j:=S (j.at st)} w W->W.cell? ⟨a,6,O⟩=S (Z.sp:υ)/\κ prog 82 #[Z.sp,root] W λe w'=>∃(b:Option Addr) (c ln:Nat) (f:Int),e=.returned (.tuple #[.slice b ln c,f])/\(∃ v,w'.cell? ⟨a,12,O⟩=S v)/\w'.frozen? ⟨a,12,O⟩=false/\bY a Z y (y.over root st) w (w'.setCell _ (.slice b ln c))):=λW k ⟨E,d,g1,g2⟩=>by
  obtain⟨l,q2⟩:=g1.walked (m:=m)  root d g2 (by show(y.aA _).s.ok m;rw[D];exact hs) (by show((y.aA _).s.walk root).1=_;rw[D]) K;refine⟨l,q2.mono ?_⟩;rintro e w' ⟨b,c,rfl,R,Q,V,G,M,_,_,T,X⟩;refine⟨b,c,_,_,rfl,R,Q,V,.inr (λg o e=>⟨(G g o e).1,by have:=(G g o e).2;simpa [World.setCell] using this⟩),.inl (by rw[M]),?_,?_⟩
  .unfold YV.over;rw[if_pos k,q];exact T
  .unfold YV.over;rw[if_pos k,q];exact X
 have Y:χ (∀ W:ω,y.aN≠0->aF a Z y _ w W->bY a Z y (y.over root st) w W):=λW k hd=>by unfold YV.over;rw[if_neg k];exact hd.out
 have hP:=AV y;generalize y.over root st=yo at *
 generalize ({y.aA _ with j:=S (j.at st)}:YV)=y2 at *
 generalize y.aA _=y1 at *
 generalize y.aN=F at *
 by_cases x:F=0
 .rw[x] at r |-;go_enter func133,ntmps133;go_wp2_with fail;refine cEq B λt z=>?_
  go_wp2_with fail;refine cEq (r t z) λw2 n=>?_
  obtain⟨l,q2,q3,P⟩:=a2 _ n;obtain⟨q4,hk⟩:=(λW hd=>a1 W x hd) _ P;go_wp2_with fail;refine hk.mono ?_;rintro e w3 ⟨b,c,ln,f,rfl,⟨v,q5⟩,q6,hd⟩;go_wp2;go_ret;exact⟨rfl,hd⟩
 .have gF  := decide_eq_true (by omega);have U:=ah (λW hd=>Y W x hd);go_enter func133,ntmps133;go_wp2_with fail;refine cEq B λt z=>?_
  go_wp2_with fail;refine cEq (r t z) λw2 n=>?_
  go_wp2;go_ret;exact⟨rfl,(U _ n)⟩
def MH{c m C Z y j}(a:Bool)(w)(h:au w c Z y)(g:y.s.ok m)(b:y.j=S j)(d:JOk y.s C j) :
  κ prog 128 #[Z.jb.xp,a] w λe w'=>e=.returned (fD j a)/\aF c Z y {y with j:=S (nG j a)} w w' :=
 (Wx a w (h.rj g b d)).mono λ_ _ ⟨i,f⟩=>⟨i,h.yu b (ja0 _ _) f (wL j a).1⟩
def MI{b m C Z y j}(w)(h:au w b Z y)(g:y.s.ok m)(a:y.j=S j)(c:JOk y.s C j)(d:m+10<1000000000) :
  κ prog 132 #[Z.jb.xp] w λe w'=>e=.returned (dF y.s j)/\aF b Z y (y.t0 j) w w' :=
 (WA w (h.rj g a c) d).mono λ_ _ ⟨i,f⟩=>⟨i,h.yu a (ja0 _ _) f (DU y.s j).1⟩
def kak{b m C Z y j}(w)(h:au w b Z y)(g:y.s.ok m)(a:y.j=S j)(c:JOk y.s C j)(d:m+10<1000000000) :
  κ prog 140 #[Z.jb.xp] w λe w'=>e=.returned (.tuple #[.bool (eP y.s j),bF y.s j])/\aF b Z y (y.t1 j) w w' :=
 (WE w (h.rj g a c) d).mono λ_ _ ⟨i,f⟩=>⟨i,h.yu a (ja0 _ _) f (uo y.s j).1⟩
def ML{f C m Z y}(a:Bool)(w)(h:au w f Z y)(l:YOk y C m) :
  κ prog 58 #[f,a] w λe w'=>e=.returned (y.fD a)/\aF f Z y (y.pause a) w w':=by
 have d:=ah (sN w h);have o:χ _:=aF.refl h;by_cases c:y.busy=true
 .obtain⟨j,b,n⟩:=mZ c;rw[c] at d;have g:y.fD a=fD j a:=by unfold YV.fD;rw[b];show(if 4<=j.stage then _ else _)=_;rw[if_neg (by omega)]
  have i:y.pause a={y with j:=S (nG j a)}:=by unfold YV.pause;rw[if_pos c,b];rfl
  obtain⟨_,_,_,_,_,_,_,_,_,k,_⟩:=h.blk.cells;rw[b] at k;have t  := k;rw[g,i];go_enter func58,ntmps58;go_wp2_with fail;refine cSt d ?_;go_wp2_with fail;refine cHd (MH a w h l.s b (l.job j b n).ok) λr q=>?_
  go_wp2;go_ret;exact⟨rfl,q⟩
 .have g:y.fD a=4:=by
   unfold YV.fD
   cases b:y.j with
   | none=>rfl
   | some j=>show(if 4<=j.stage then _ else _)=_;rw[if_pos (mY c j b)]
  have i:y.pause a=y:=by unfold YV.pause;rw[if_neg c]
  rw[show y.busy=false by simpa using c] at d;rw[g,i];go_enter func58,ntmps58;go_wp2_with fail;refine cSt d ?_;go_wp2;go_ret;exact⟨rfl,o⟩
def kaf{d C m Z y}(w)(h:au w d Z y)(b:YOk y C m)(i:m<1000000000) :
  κ prog 56 #[d] w λe w'=>e=.returned y.nM/\bY d Z y y.cancel w w':=by
 have c:=ah (sN w h);have g:χ _:=(aF.refl h).out;unfold YV.cancel YV.nM;by_cases a:y.busy=true
 .obtain⟨j,k,o⟩:=mZ a;rw[a] at c;rw[if_pos a,if_pos a];have f:=ah (MK y.kd.root 5 w h b.s b.top k (by decide) b.root (by rw[b.ch.walk];exact b.ch.ne) i);have r:=h.blk.cells.2.2.2.1;generalize y.over y.kd.root 5=q at *
  go_enter func56,ntmps56;go_wp2_with fail;refine cSt c ?_;go_wp2_with fail;refine cHd f λn l=>?_
  go_wp2;go_ret;exact⟨rfl,l⟩
 .rw[if_neg a,if_neg a];rw[show y.busy=false by simpa using a] at c;go_enter func56,ntmps56;go_wp2_with fail;refine cSt c ?_;go_wp2;go_ret;exact⟨rfl,g⟩
def kao{b C m Z y}(w)(h:au w b Z y)(r:YOk y C m)(hm:m+20<1000000000) :
  κ prog 54 #[b] w λe w'=>e=.returned y.jK/\bY b Z y y.pivot w w':=by
 have f:=ah (sN w h);have B:χ (bY b Z y y w w):=(aF.refl h).out;obtain⟨_,_,_,_,K,c9,_,_,_,G,_⟩:=h.blk.cells;by_cases l:y.busy=true
 .obtain⟨j,a,M⟩:=mZ l;have t:=r.job j a M;rw[l] at f;rw[a] at G;have a1  := G;by_cases c:y.kd.kind=2
  .have k:y.jK=9:=by unfold YV.jK;rw[a];show(if 4<=j.stage then _ else if y.kd.kind=2 then _ else _)=_;rw[if_neg (by omega),if_pos c]
   have x:y.pivot=y:=by unfold YV.pivot;rw[a];show(if 4<=j.stage\/y.kd.kind=2 then _ else _)=_;rw[if_pos (.inr c)]
   rw[k,x];rw[c] at K;go_enter func54,ntmps54;go_wp2_with fail;refine cSt f ?_;go_wp2;go_ret;exact⟨rfl,B⟩
  .have g2:(y.kd.kind==2)=false:=by simpa using c
   have A:=ah (MI w h r.s a t.ok (by omega));have N:y.jK=if dF y.s j≠0 then dF y.s j else y.aN:=by unfold YV.jK;rw[a];show(if 4<=j.stage then _ else if y.kd.kind=2 then _ else _)=_;rw[if_neg (by omega),if_neg c]
   have Q:y.pivot=if dF y.s j≠0 then (y.t0 j) else (y.t0 j).over y.kd.file 4:=by unfold YV.pivot;rw[a];show(if 4<=j.stage\/y.kd.kind=2 then _ else _)=_;rw[if_neg (by rintro(e|e);omega;exact c e)]
   obtain⟨q,u⟩:=t.chain r.ch c;have V:j.kind≠2:=by rw[show j.kind=y.kd.kind by rw[<- t.dsk];rfl];exact c
   have a0:0<=dF y.s j:=by
    unfold dF;split
    .rw[show j.file=y.kd.file by rw[<- t.dsk];rfl,u.walk];exact jby 0
    .decide
   have X:0<=y.kd.file/\y.kd.file<=4:=by
    obtain⟨v,U,_⟩:=u.root;have:=SV.eG U
    omega
   have D:χ (∀ W:ω,aF b Z y (y.t0 j) w W->W.cell? ⟨b,9,O⟩=S (y.kd.file:υ)/\κ prog 133 #[b,y.kd.file,(4:Int)] W λe w'=>e=.returned y.aN/\bY b Z y ((y.t0 j).over y.kd.file 4) w w'):=λW ⟨Z1,k,g1,g2⟩=>by
    refine⟨g1.blk.cells.2.2.2.2.2.1,?_⟩;have E  := u.over (XT V q);refine(MK (m:=m+10) (j:=dY y.s j) y.kd.file 4 W g1 (r.s.settle j (by omega)) (r.top.more (by omega)) rfl (by decide) X (by show((dQ y.s j).walk y.kd.file).1≠[];rw[E.walk];exact E.ne) (by omega)).mono ?_;rintro e w' ⟨rfl,L,i,d,H,I⟩;refine⟨rfl,L,?_,?_,H,g2.trans I⟩
    .rcases i with i|i
     .exact .inl (i.trans k.la)
     .exact .inr λg o e=>⟨ja4 g2.size (i g o e).1,(i g o e).2⟩
    .rcases d with d|d
     .exact .inl (d.trans (by rw[k.jb]))
     .exact .inr λg o e=>⟨ja4 g2.size (d g o e).1,(d g o e).2⟩
   have T:=ah λW (hd:aF b Z y (y.t0 j) w W)=>hd.out
   rw[N,Q];generalize (y.t0 j).over y.kd.file 4=z3 at D |-;generalize (y.t0 j)=z1 at *
   generalize dF y.s j=F at *
   generalize y.kd.kind=kk at *
   generalize y.kd.file=ff at *
   by_cases n:F=0
   .rw[if_neg (λe=>e n),if_neg (λe=>e n)];rw[n] at A;go_enter func54,ntmps54;go_wp2_with fail;refine cSt f ?_;go_wp2_with fail;refine cEq A λJ z=>?_
    obtain⟨Y,P⟩:=D _ z;go_wp2_with fail;refine cHd P λw2 R=>?_
    go_wp2;go_ret;exact⟨rfl,R⟩
   .rw[if_pos n,if_pos n];have gF  := decide_eq_true (by omega);go_enter func54,ntmps54;go_wp2_with fail;refine cSt f ?_;go_wp2_with fail;refine cEq A λJ z=>?_
    go_wp2;go_ret;exact⟨rfl,(T _ z)⟩
 .have k:y.jK=4:=by
   unfold YV.jK
   cases a:y.j with
   | none=>rfl
   | some j=>show(if 4<=j.stage then _ else _)=_;rw[if_pos (mY l j a)]
  have x:y.pivot=y:=by
   unfold YV.pivot
   cases a:y.j with
   | none=>rfl
   | some j=>show(if 4<=j.stage\/y.kd.kind=2 then _ else _)=_;rw[if_pos (.inl (mY l j a))]
  rw[show y.busy=false by simpa using l] at f;rw[k,x];go_enter func54,ntmps54;go_wp2_with fail;refine cSt f ?_;go_wp2;go_ret;exact⟨rfl,B⟩
def Td(s n b):0<=(dO s n b).2:=by
 unfold dO;split
 .omega
 .exact Tc _ _
def XV(s j):0<=Go.Proofs.YtbohmhacdgckgaaGreatDoor.bF s j:=by
 unfold bF;split
 .split
  .exact SV.IE _ _ _ _
  .decide
 .decide
def KQ{j:JV}:j.state=5↔j.stage=5:=by
 unfold JV.state;omega
def ZD4(a:Nat)(Z:Zh)(y y':YV)(w w':ω):Prop:=∃ Z':Zh,(∀ g o,Z'.la=S ⟨g,o,O⟩->w.heap.size<=g/\g<w'.heap.size)/\Z'.jb=Z.jb/\Z'.tp.p=Z.tp.p/\Z'.sp=Z.sp/\au w' a Z' y'/\Moved (fpZ a Z y) w (fpZ a Z' y') w'
def ZD4.and{w c w' b Z y y1 y'}(h:ZD4 b Z y y1 w c)(l:∀ a,a.jb=Z.jb->au c b a y1->aF b a y1 y' c w'):ZD4 b Z y y' w w':=by
 obtain⟨a,d,f,i,k,j,n⟩:=h;obtain⟨m,e,g1,g2⟩:=l a f j;exact⟨m,λg o q=>by rw[e.la] at q;exact⟨(d g o q).1,ja8 (d g o q).2 g2.size⟩,e.jb.trans f,e.tp.trans i,e.sp.trans k,g1,n.trans g2⟩
def MC{a m Z y z w W}(hd:aF a Z y z w W)(f:z.top.fine z.top.fl.length m)(c:0<=z.kd.root/\z.kd.root<=4)(g:m<1000000000) :
  W.cell? ⟨a,7,O⟩=S (z.kd.root:υ)/\∀ b,β W W b->κ prog 38 #[a,kdG (aj z.kd.root)] b λe w'=>e=.returned z.aN/\aF a Z y (z.aA (aj z.kd.root)) w w':=by
 obtain⟨k,i,g1,g2⟩:=hd;refine⟨g1.blk.cells.2.2.2.1,λb d=>?_⟩;refine cEq (vK _ b (g1.below d) f (lW c.1 c.2) g) λw' j=>?_
 exact⟨rfl,aF.trans i g2 (aF.from d j)⟩
def kal{a Z y z j w W}(hd:aF a Z y z w W)(b:z.j=S j) :
  W.cell? ⟨a,8,O⟩=S (z.kd.kind:υ)/\W.cell? ⟨a,13,O⟩=S (Z.jb.xp:υ)/\W.cell? ⟨Z.jb.xp,74,O⟩=S (j.state:υ):=by
 obtain⟨g,d,g1,g2⟩:=hd;obtain⟨_,_,_,_,f,_,_,_,_,c,_⟩:=g1.blk.cells;rw[b] at c;rw[<- d.jb];exact⟨f,c,(g1.job j b).1.cell  (by omega)⟩
def kas{k C m Z y}(w)(h:au w k Z y)(F:YOk y C m)(hm:m+30<1000000000) :
  κ prog 64 #[k] w λe w'=>e=.returned (.tuple #[y.eP,y.bF])/\bY k Z y y.step w w':=by
 have E:=ah (sN w h);by_cases A:y.busy=true
 .obtain⟨j,B,hg⟩:=mZ A;have a7:=F.job j B hg;rw[A] at E;have Y:=F.root;have n:=ah (kak w h F.s B a7.ok (by omega));have a8:(stepS y.s j).ok (m+10):=F.s.step j (by omega);have aa:JOk (stepS y.s j) C (stepJ y.s j):=a7.ok.step;have ab:(stepJ y.s j).kind=j.kind:=congrArg aP.kind (uo y.s j).2;have ek:y.kd.kind=j.kind:=by rw[<- a7.dsk];rfl
  have ad:=XV y.s j;obtain⟨_,_,_,_,_,_,_,_,_,a0,_⟩:=h.blk.cells;rw[B] at a0;have bk:w.cell? ⟨k,13,O⟩=S (Z.jb.xp:υ):=a0;have I:χ (∀ W:ω,κ prog 35 #[y.kd.root] W λe w'=>e=.returned (kdG (aj y.kd.root))/\β W W w'):=λW=>xO y.kd.root W
  have J:y.step=if bF y.s j≠0 then (if (stepJ y.s j).stage=5 then (y.t1 j).aA (aj y.kd.root) else (y.t1 j))
    else if y.kd.kind≠2\/(stepJ y.s j).state≠3 then (y.t1 j)
    else if dF (stepS y.s j) (stepJ y.s j)≠0 then (y.t2 j).aA (aj y.kd.root)
    else {(y.t4 j).aA (aj y.kd.root) with kd:=aj y.kd.root}:=by
   unfold YV.step;rw[B];show(if 4<=j.stage then _ else _)=_;rw[if_neg (by omega)]
  have Q:y.bF=if bF y.s j≠0 then bF y.s j else if y.kd.kind≠2\/(stepJ y.s j).state≠3 then 0 else dF (stepS y.s j) (stepJ y.s j):=by
   unfold YV.bF;rw[B];show(if 4<=j.stage then _ else _)=_;rw[if_neg (by omega)]
  have P:y.eP=if bF y.s j≠0 then false else if y.kd.kind≠2\/(stepJ y.s j).state≠3 then eP y.s j else decide (dF (stepS y.s j) (stepJ y.s j)=0):=by
   unfold YV.eP;rw[B];show(if 4<=j.stage then _ else _)=_;rw[if_neg (by omega)]
  have r:χ (∀ W:ω,aF k Z y (y.t1 j) w W->W.cell? ⟨k,8,O⟩=S (y.kd.kind:υ)/\W.cell? ⟨k,13,O⟩=S (Z.jb.xp:υ)/\W.cell? ⟨Z.jb.xp,74,O⟩=S (.int .i64 (stepJ y.s j).state)):=λW hd=>kal (z:=(y.t1 j)) hd rfl
  have U:χ (∀(z:YV) (W:ω),aF k Z y z w W->bY k Z y z w W):=λz W hd=>hd.out
  by_cases N:bF y.s j=0
  .rw[if_neg (λe=>e N)] at J Q P;by_cases G:y.kd.kind≠2\/(stepJ y.s j).state≠3
   .rw[J,Q,P,if_pos G,if_pos G,if_pos G];have D:=ah (λW=>U (y.t1 j) W);rw[N] at n;clear h F A B hg a7 Y a8 aa ab ek ad a0 I J Q P U N;generalize (y.t1 j)=z1 at n r D |-;generalize (stepJ y.s j).state=st at r G;generalize y.kd.kind=kk at r G;generalize eP y.s j=sb at n |-;by_cases V:kk=2
    .have h3:st≠3:=by rcases G with e|e;exact absurd V e;exact e
     have g2:(kk != 2)=false:=by simpa using V
     have g3:(st != 3)=true:=by simpa using h3
     go_enter func64,ntmps64;go_wp2_with fail;refine E.mono ?_;rintro e w' ⟨rfl,u⟩;have H:=u.symm;subst H;clear u E;go_wp2_with fail;refine n.mono ?_;rintro e w1 ⟨rfl,t⟩;obtain⟨K,q2,q3⟩:=r _ t;have M:=ah (D _ t);clear t n r D;go_wp2;go_ret2;exact⟨rfl,M⟩
    .have g2:(kk != 2)=true:=by simpa using V
     go_enter func64,ntmps64;go_wp2_with fail;refine E.mono ?_;rintro e w' ⟨rfl,u⟩;have H:=u.symm;subst H;clear u E;go_wp2_with fail;refine n.mono ?_;rintro e w1 ⟨rfl,t⟩;obtain⟨K,q2,q3⟩:=r _ t;have M:=ah (D _ t);clear t n r D;go_wp2;go_ret2;exact⟨rfl,M⟩
   .have V:y.kd.kind=2:=jag λe=>G (.inl e)
    have h3:(stepJ y.s j).state=3:=jag λe=>G (.inr e)
    rw[J,Q,P,if_neg G,if_neg G,if_neg G];have aq:(stepJ y.s j).kind=2:=ab.trans (ek.symm.trans V);obtain⟨az,ao⟩:=DW (s:=stepS y.s j) h3 aq;have aM:0<=dF (stepS y.s j) (stepJ y.s j):=by rw[ao];exact Td _ _ _
    have am:(dQ (stepS y.s j) (stepJ y.s j)).ok (m+20):=a8.settle _ (by omega)
    have R:χ (∀ W:ω,aF k Z y (y.t1 j) w W->κ prog 132 #[Z.jb.xp] W λe w'=>e=.returned (dF (stepS y.s j) (stepJ y.s j))/\aF k Z y (y.t2 j) w w'):=λW ⟨Z1,e1,g1,g2⟩=>by
     rw[<- e1.jb];refine(MI (m:=m+10) (C:=C) (j:=stepJ y.s j) W g1 a8 rfl aa (by omega)).mono ?_;rintro e w' ⟨rfl,hd⟩;exact⟨rfl,aF.trans e1 g2 hd⟩
    by_cases hS:dF (stepS y.s j) (stepJ y.s j)=0
    .rw[if_neg (λe=>e hS),decide_eq_true hS,hS]
     have ap:((dQ (stepS y.s j) (stepJ y.s j)).walk y.kd.root).1≠[]:=λe=>by
      have q:=(F.step hm).ch.ne;rw[J,if_neg G,if_neg (λe=>e hS)] at q;refine q ?_;show(YV.aA _ _).l=[]
      rw[(nY _ _).2.2.1];exact e
     have ae:χ (∀ W:ω,aF k Z y (y.t2 j) w W->W.cell? ⟨k,6,O⟩=S (Z.sp:υ)/\W.cell? ⟨k,7,O⟩=S (y.kd.root:υ)/\∀ W1:ω,β W W W1->κ prog 82 #[Z.sp,y.kd.root] W1 λe w'=>∃(b:Option Addr) (bc ln:Nat) (f:Int),e=.returned (.tuple #[.slice b ln bc,f])/\(w'.cell? ⟨k,6,O⟩=S (Z.sp:υ)/\w'.cell? ⟨k,7,O⟩=S (y.kd.root:υ)/\(∃ v,w'.cell? ⟨k,12,O⟩=S v)/\w'.frozen? ⟨k,12,O⟩=false)/\((w'.setCell ⟨k,12,O⟩ (.slice b ln bc)).cell? ⟨k,6,O⟩=S (Z.sp:υ)/\(w'.setCell ⟨k,12,O⟩ (.slice b ln bc)).cell? ⟨k,7,O⟩=S (y.kd.root:υ))/\ZD4 k Z y (y.t3 j) w (w'.setCell ⟨k,12,O⟩ (.slice b ln bc))):=λW ⟨Z1,e1,g1,g2⟩=>by
      obtain⟨K,_⟩:=g1.walked (m:=m+20) (l:=((dQ (stepS y.s j) (stepJ y.s j)).walk y.kd.root).1) y.kd.root e1 g2 am rfl ap;refine⟨K,g1.blk.cells.2.2.2.1,λW1 b5=>?_⟩;obtain⟨_,q2⟩:=(g1.below b5).walked (m:=m+20) (l:=((dQ (stepS y.s j) (stepJ y.s j)).walk y.kd.root).1) y.kd.root e1 (g2.trans (Moved.of_below b5)) am rfl ap;refine q2.mono ?_;rintro e w' ⟨b,bc,rfl,hv,hz,Z2,X,p2,p3,p4,L,p6⟩;obtain⟨_,_,u6,u7,_⟩:=L.blk.cells;rw[p4] at u6;have v6:=u6;have v7:=u7;have ar:∀ i:Nat,i≠12->∀ v:υ,(w'.setCell ⟨k,12,O⟩ v).cell? ⟨k,i,O⟩=w'.cell? ⟨k,i,O⟩:=λi hi v=>jan _ _ _ _ (λe=>hi (by cases e;rfl))
      rw[ar 6 (by decide)] at u6;rw[ar 7 (by decide)] at u7;exact⟨b,bc,_,_,rfl,⟨u6,u7,hv,hz⟩,⟨v6,v7⟩,Z2,λg o e=>⟨(X g o e).1,by have:=(X g o e).2;simpa [World.setCell] using this⟩,p2,p3,p4,L,p6⟩
     have an:χ (∀ W:ω,ZD4 k Z y (y.t3 j) w W->W.cell? ⟨k,13,O⟩=S (Z.jb.xp:υ)/\(∃ v,W.cell? ⟨Z.jb.xp,74,O⟩=S v)/\W.frozen? ⟨Z.jb.xp,74,O⟩=false/\ZD4 k Z y (y.t4 j) w (W.setCell ⟨Z.jb.xp,74,O⟩ (4:Int))):=λW hd=>by
      obtain⟨Z1,X,p2,p3,p4,L,p6⟩:=id hd;obtain⟨_,_,_,_,_,_,_,_,_,a0,_⟩:=L.blk.cells;have hJ:=(L.job _ rfl).1;rw[<- p2]
      exact⟨a0,⟨_,hJ.cell (i:=74) (by omega)⟩,hJ.thaw 74,by
        rw[p2]
        exact hd.and λZ2 e g=>by
         obtain⟨K,q2⟩:=g.stage rfl (show(4:Int)≠1 by decide);rw[e] at K q2
         exact⟨Z2,.refl Z2,K,q2⟩⟩
     have a5:χ (∀ W:ω,ZD4 k Z y (y.t4 j) w W->W.cell? ⟨k,7,O⟩=S (y.kd.root:υ)/\∀ x:ω,β W W x->κ prog 38 #[k,kdG (aj y.kd.root)] x λe w'=>e=.returned y.aN/\ZD4 k Z y ((y.t4 j).aA (aj y.kd.root)) w w'):=λW hd=>by
      obtain⟨Z1,X,p2,p3,p4,L,p6⟩:=id hd;refine⟨L.blk.cells.2.2.2.1,λx A=>?_⟩;refine(vK (aj y.kd.root) x (L.below A) F.top (lW Y.1 Y.2) (by omega)).mono ?_;rintro e w' ⟨rfl,Z2,e2,g1,g2⟩;have g3:=(Moved.of_below A).trans g2;exact⟨rfl,Z2,λg o q=>by rw[e2.la] at q;exact⟨(X g o q).1,ja8 (X g o q).2 g3.size⟩,e2.jb.trans p2,e2.tp.trans p3,e2.sp.trans p4,g1,p6.trans g3⟩
     have a9:χ (∀ W:ω,ZD4 k Z y ((y.t4 j).aA (aj y.kd.root)) w W->W.cell? ⟨k,7,O⟩=S (y.kd.root:υ)/\∀ x:ω,β W W x->(∃ a b c d:Int,x.cell? ⟨k,7,O⟩=S (y.kd.root:υ)/\x.cell? ⟨k,8,O⟩=S (a:υ)/\x.cell? ⟨k,9,O⟩=S (b:υ)/\x.cell? ⟨k,10,O⟩=S (c:υ)/\x.cell? ⟨k,11,O⟩=S (d:υ))/\(∀ i,x.frozen? ⟨k,i,O⟩=false)/\bY k Z y {(y.t4 j).aA (aj y.kd.root) with kd:=aj y.kd.root} w (x.setCells k 7 (kdV (aj y.kd.root)))):=λW hd=>by
      obtain⟨Z1,X,p2,p3,p4,L,p6⟩:=id hd
      have ax:∀ z:YV,z.kd=y.kd->(z.aA (aj y.kd.root)).kd.root=y.kd.root:=λz hz=>by
        by_cases h0:z.aN=0
        .rw[xJ h0];rfl
        .rw[xI h0,hz]
      have c7:=L.blk.cells.2.2.2.1;rw[ax (y.t4 j) rfl] at c7;refine⟨c7,λx A=>?_⟩;have g:=L.below A;obtain⟨_,_,_,k7,k8,k9,b8,ba,_,_,kf⟩:=g.blk.cells;rw[ax (y.t4 j) rfl] at k7;obtain⟨K,q2⟩:=g.rZ (aj y.kd.root);exact⟨⟨_,_,_,_,k7,k8,k9,b8,ba⟩,kf,Z1,.inr λg o e=>⟨(X g o e).1,ja8 (X g o e).2 (ja4 A.size q2.size)⟩,.inl (by rw[p2]),K,p6.trans ((Moved.of_below A).trans q2)⟩
     rw[N] at n;rw[hS] at R;rw[V,h3] at r;clear h F A B hg a7 Y a8 aa ab ek ad a0 J Q P U N G V h3 aq az ao aM am ap;generalize ({(y.t4 j).aA (aj y.kd.root) with kd:=aj y.kd.root}:YV)=z6 at a9 |-;generalize (y.t4 j).aA (aj y.kd.root)=z5 at a5 a9;generalize (y.t4 j)=z4 at an a5;generalize (y.t3 j)=z3 at ae an;generalize (y.t2 j)=z2 at R ae;generalize (y.t1 j)=z1 at n r R;generalize eP y.s j=sb at n;generalize y.aN=df at a5;generalize y.kd.root=rr at ae a5 a9 I;unfold kdG aj at I a5;unfold kdV aj at a9;simp only at I a5 a9;go_enter func64,ntmps64;go_wp2_with fail;refine E.mono ?_;rintro e w' ⟨rfl,u⟩;have H:=u.symm;subst H;clear u E;go_wp2_with fail;refine n.mono ?_;rintro e w1 ⟨rfl,t⟩;obtain⟨K,q2,q3⟩:=r _ t;have ac:=ah (R _ t);clear t n r R;go_wp2_with fail;refine ac.mono ?_;rintro e w2 ⟨rfl,ai⟩;obtain⟨u6,u7,aL⟩:=ae _ ai;have HW:=ah (aL w2.drew (ja0 _ _).drew);have d6:w2.drew.cell? ⟨k,6,O⟩=S (Z.sp:υ):=u6;have d7:w2.drew.cell? ⟨k,7,O⟩=S (rr:υ):=u7;clear ai aL ac ae;go_wp2
     go_region_held3 (λW=>W.cell? ⟨k,6,O⟩=S (Z.sp:υ)/\W.cell? ⟨k,7,O⟩=S (rr:υ))
      (first|(exact⟨d6,d7⟩)|assumption)
      (first
        | (go_at_call 82;refine HW.mono ?_;rintro e w3 ⟨b,bc,ln,f,rfl,⟨v6,v7,⟨v,bn⟩,bd⟩,b9,aD⟩;have bb:=And.intro v6 v7;have b7:=ah aD;clear aD))
     clear HW bb b9 d6 d7;obtain⟨bl,⟨bi,bj⟩,bm,a6⟩:=an _ b7;obtain⟨r7,aw⟩:=a5 _ a6;have av:=ah aw;clear a6 aw an a5;go_wp2_with fail;refine(I _).mono ?_;rintro e w5 ⟨rfl,b3⟩;have b0:=ah (av _ b3);clear b3 av;go_wp2_with fail;refine b0.mono ?_;rintro e w6 ⟨rfl,aE⟩;obtain⟨s7,aR⟩:=a9 _ aE;have b1:=ah aR;clear aE aR a9 b0;go_wp2_with fail;refine(I _).mono ?_;rintro e w7 ⟨rfl,b4⟩;obtain⟨⟨a1,a2,a3,a4,t7,t8,t9,bh,bf⟩,tf,b2⟩:=b1 _ b4;have f7:=tf 7;have f8:=tf 8;have f9:=tf 9;have bo:=tf 10;have be:=tf 11;have M:=ah b2;clear b4 b2 tf b1 I;go_wp2;go_ret2;exact⟨rfl,M⟩
    .rw[if_pos hS,decide_eq_false hS];have T:χ (∀ W:ω,aF k Z y (y.t2 j) w W->W.cell? ⟨k,7,O⟩=S (y.kd.root:υ)/\∀ x:ω,β W W x->κ prog 38 #[k,kdG (aj y.kd.root)] x λe w'=>e=.returned y.aN/\aF k Z y ((y.t2 j).aA (aj y.kd.root)) w w'):=λW hd=>MC (m:=m) hd F.top Y (by omega)
     have D:=ah (λW=>U ((y.t2 j).aA (aj y.kd.root)) W);have gS:decide (0<dF (stepS y.s j) (stepJ y.s j))=true:=decide_eq_true (by omega);rw[N] at n;rw[V,h3] at r;clear h F A B hg a7 Y a8 aa ab ek ad a0 J Q P U N G V h3 aq az ao aM am;generalize ((y.t2 j).aA (aj y.kd.root))=z3 at T D |-;generalize (y.t2 j)=z2 at R T;generalize (y.t1 j)=z1 at n r R;generalize dF (stepS y.s j) (stepJ y.s j)=SF at R gS |-;generalize eP y.s j=sb at n;go_enter func64,ntmps64;go_wp2_with fail;refine E.mono ?_;rintro e w' ⟨rfl,u⟩;have H:=u.symm;subst H;clear u E;go_wp2_with fail;refine n.mono ?_;rintro e w1 ⟨rfl,t⟩;obtain⟨K,q2,q3⟩:=r _ t;have ac:=ah (R _ t);clear t n r R;go_wp2_with fail;refine ac.mono ?_;rintro e w2 ⟨rfl,ai⟩;obtain⟨q4,af⟩:=T _ ai;have HW:=ah af;clear ai af ac T;go_wp2_with fail;refine(I _).mono ?_;rintro e w3 ⟨rfl,ag⟩;have al:=ah (HW _ ag);clear ag HW I;go_wp2_with fail;refine al.mono ?_;rintro e w4 ⟨rfl,a6⟩;have M:=ah (D _ a6);clear a6 al D;go_wp2;go_ret2;exact⟨rfl,M⟩
  .rw[if_pos N] at J Q P;rw[Q,P];have gF:decide (0<bF y.s j)=true:=decide_eq_true (by omega);by_cases h5:(stepJ y.s j).stage=5
   .rw[J,if_pos h5];have T:χ (∀ W:ω,aF k Z y (y.t1 j) w W->W.cell? ⟨k,7,O⟩=S (y.kd.root:υ)/\∀ x:ω,β W W x->κ prog 38 #[k,kdG (aj y.kd.root)] x λe w'=>e=.returned y.aN/\aF k Z y ((y.t1 j).aA (aj y.kd.root)) w w'):=λW hd=>MC (m:=m) hd F.top Y (by omega)
    have D:=ah (λW=>U ((y.t1 j).aA (aj y.kd.root)) W);rw[KQ.2 h5] at r;clear h F A B hg a7 Y a8 aa ab ek ad a0 J Q P U N h5;generalize ((y.t1 j).aA (aj y.kd.root))=z3 at T D |-;generalize (y.t1 j)=z1 at n r T;generalize bF y.s j=SF at n gF |-;generalize eP y.s j=sb at n;go_enter func64,ntmps64;go_wp2_with fail;refine E.mono ?_;rintro e w' ⟨rfl,u⟩;have H:=u.symm;subst H;clear u E;go_wp2_with fail;refine n.mono ?_;rintro e w1 ⟨rfl,t⟩;obtain⟨K,q2,q3⟩:=r _ t;obtain⟨q4,af⟩:=T _ t;have HW:=ah af;clear t af n r T;go_wp2_with fail;refine(I _).mono ?_;rintro e w3 ⟨rfl,ag⟩;have al:=ah (HW _ ag);clear ag HW I;go_wp2_with fail;refine al.mono ?_;rintro e w4 ⟨rfl,a6⟩;have M:=ah (D _ a6);clear a6 al D;go_wp2;go_ret2;exact⟨rfl,M⟩
   .rw[J,if_neg h5];have g5:((stepJ y.s j).state==5)=false:=by simpa using λe=>h5 (KQ.1 e)
    have D:=ah (λW=>U (y.t1 j) W);clear h F A B hg a7 Y a8 aa ab ek ad a0 J Q P U N h5 I;generalize (y.t1 j)=z1 at n r D |-;generalize bF y.s j=SF at n gF |-;generalize eP y.s j=sb at n;generalize (stepJ y.s j).state=st at r g5;go_enter func64,ntmps64;go_wp2_with fail;refine E.mono ?_;rintro e w' ⟨rfl,u⟩;have H:=u.symm;subst H;clear u E;go_wp2_with fail;refine n.mono ?_;rintro e w1 ⟨rfl,t⟩;obtain⟨K,q2,q3⟩:=r _ t;have M:=ah (D _ t);clear t n r D;go_wp2;go_ret2;exact⟨rfl,M⟩
 .have e1:y.bF=4:=by
   unfold YV.bF
   cases B:y.j with
   | none=>rfl
   | some j=>show(if 4<=j.stage then _ else _)=_;rw[if_pos (mY A j B)]
  have e2:y.step=y:=by
   unfold YV.step
   cases B:y.j with
   | none=>rfl
   | some j=>show(if 4<=j.stage then _ else _)=_;rw[if_pos (mY A j B)]
  have e3:y.eP=false:=by
   unfold YV.eP
   cases B:y.j with
   | none=>rfl
   | some j=>show(if 4<=j.stage then _ else _)=_;rw[if_pos (mY A j B)]
  have b6:χ (bY k Z y y w w):=(aF.refl h).out;rw[show y.busy=false by simpa using A] at E;rw[e1,e2,e3];clear h F A e1 e2 e3;go_enter func64,ntmps64;go_wp2_with fail;refine E.mono ?_;rintro e w' ⟨rfl,u⟩;have H:=u.symm;subst H;clear u E;go_wp2;go_ret2;exact⟨rfl,b6⟩
def Dq{b m qs s}(d w)(h:bJ w b qs s m) :
  κ prog 83 #[b,.agg #[d.root,d.kind,d.file,d.rate,d.burst]] w (og w b m qs s d):=by
 by_cases a:(s.walk d.root).2≠0\/(s.walk d.root).1=[]\/(S4.inB d.rate 1000&&S4.inB d.burst 1000)=false
 .refine(V8 d w h a).mono λe w' ⟨f,g⟩=>⟨g,.inl ⟨?_,f⟩⟩
  unfold newF;rcases a with a|a|a
  .omega
  .split
   .omega
   .omega
  .split
   .omega
   .omega
 .have c:(S4.inB d.rate 1000&&S4.inB d.burst 1000)=true:=by
   simp_all
  rw[jb3] at *
  exact V9 d w h (jag λe=>a (.inl e)) (λe=>a (.inr (.inl e))) c.1 c.2
def IJ(s d):0<=newF s d:=by
 unfold newF;split
 .exact(s.walk_good _).2.2.1
 .split
  .decide
  .split
   .decide
   .unfold kP oK;split
    .split
     .decide
     .omega
    .omega
def au.started{w x q d m C Z f y z}{b:Zj}{j}(h:au w d Z y)(F:β w w x)(l:RJ x Z.sp b.xp b.a b.cap Z.qs y.s m C j j.state)(G:w<=b.xp/\∀ g o,b.a=some ⟨g,o,O⟩->w<=g)
  (t:au q d f z) (B:oO Z f) (i:Moved (fpZ d Z y) x (fpZ d f z) q) :
  au (q.setCell ⟨d,13,O⟩ b.xp) d {f with jb:=b} {z with j:=some j}/\Moved (fpZ d Z y) w (fpZ d {f with jb:=b} {z with j:=some j}) (q.setCell ⟨d,13,O⟩ b.xp):=by
 obtain⟨H,r⟩:=G;have n:∀ k,w.heap.size<=k->¬fpZ d Z y k:=λk K e=>by have:=h.gG e;omega
 have A  := l.ok.ne;have E:bT q b.xp f.sp b.a b.cap j j.state:=by rw[B.sp];exact l.job.keep (i.block l.job.lt (n _ H))
 have I:Apart b.a (fpZ d {f with jb:=b} {z with j:=some j}):=λg o e c=>by
  have u:=l.nums.lt A e;rcases c with c|c|c|c|⟨_,c⟩
  .exact i.out u (n g (r g o e)) (.inl c)
  .exact i.out u (n g (r g o e)) (.inr (.inl c))
  .exact i.out u (n g (r g o e)) (.inr (.inr (.inl c)))
  .exact i.out u (n g (r g o e)) (.inr (.inr (.inr (.inl c))))
  .exact l.ap g o e (.inr c)
 have J:Apart _ (fpZ d {f with jb:=b} {z with j:=some j}):=λg o e c=>by
  rcases c with c|c|c|c|⟨_,c⟩
  .exact t.list.2.2 g o e (.inl c)
  .exact t.list.2.2 g o e (.inr (.inl c))
  .exact t.list.2.2 g o e (.inr (.inr (.inl c)))
  .exact t.list.2.2 g o e (.inr (.inr (.inr (.inl c))))
  .have L:g=b.xp:=c;have:=h.list.2.1 g o (B.la.symm.trans e)
   omega
 refine⟨t.wZ E (l.nums.moved i (λg o e=>n g (r g o e))) A l.cap I J,?_⟩;have v  := (Moved.of_below F).trans i;refine⟨v.kept.trans ((Kept.setCell (S:=λk=>k=d)  (Kept.refl _ q) (.inl rfl) _).mono ?_),λk D=>?_⟩
 .rintro k _ rfl;exact .inl rfl
 .rcases D with c|c|c|c|⟨_,c⟩
  .exact .inl (.inl c)
  .exact v.new k (.inr (.inl c))
  .exact v.new k (.inr (.inr (.inl c)))
  .exact v.new k (.inr (.inr (.inr (.inl c))))
  .simp_all
def kaq{n C m Z y}(kind file x t:Int)(w)(h:au w n Z y)(D:YOk y C m)(hm:m<1000000000) :
    κ prog 52 #[n,kind,file,x,t] w λe w'=>e=.returned (y.iE (gZ y kind file x t))/\bY n Z y (y.start (gZ y kind file x t)) w w':=by
  have l:=ah (sN w h);have P:=ah λW (k:β w w W)=>(aF.below h k).out
  by_cases k:y.busy=true
  . rw[k] at l;have N:y.lu (gZ y kind file x t)=8:=by unfold YV.lu;rw[if_pos k]
    have i:y.iE (gZ y kind file x t)=8:=by unfold YV.iE;rw[N];rfl
    have f:y.start (gZ y kind file x t)=y:=by unfold YV.start;rw[N];rfl
    have A:=ah (P w (ja0 _ _));rw[i,f];clear h D k N i f P;go_enter func52,ntmps52;go_wp2_with fail;refine cSt l ?_;clear l;go_wp2;go_ret;exact⟨rfl,A⟩
  . rw[show y.busy=false by simpa using k] at l;by_cases L:kind=0
    . have N:y.lu (gZ y kind file x t)=1:=by unfold YV.lu;rw[if_neg k,if_pos (show(gZ y kind file x t).kind=0 from L)]
      have i:y.iE (gZ y kind file x t)=1:=by unfold YV.iE;rw[N];rfl
      have f:y.start (gZ y kind file x t)=y:=by unfold YV.start;rw[N];rfl
      have A:=ah (P w (ja0 _ _));have g1:(kind==0)=true:=by simpa using L
      rw[i,f];clear h D k N i f P L;go_enter func52,ntmps52;go_wp2_with fail;refine cSt l ?_;clear l;go_wp2;go_ret;exact⟨rfl,A⟩
    . have g1:(kind==0)=false:=by simpa using L
      obtain⟨_,_,c6,c7,_⟩:=h.blk.cells;obtain⟨d,hd⟩:∃ d:aP,d=gZ y kind file x t:=⟨_,rfl⟩;have a4:d.root=y.kd.root:=by rw[hd];rfl
      have E:χ (β w w (w.alloc (bI d))):=(ja0 _ _).alloc (ja1 _) _;have V:=ah (uM d w);have H:χ (∀ W:ω,β (w.alloc (bI d)).heap.size (w.alloc (bI d)) W->W.cell? ⟨n,6,O⟩=S (Z.sp:υ)/\W.cell? ⟨w,0,O⟩=S (d.root:υ)/\W.cell? ⟨w,1,O⟩=S (d.kind:υ)/\W.cell? ⟨w,2,O⟩=S (d.file:υ)/\W.cell? ⟨w,3,O⟩=S (d.rate:υ)/\W.cell? ⟨w,4,O⟩=S (d.burst:υ)):=λW k=>⟨((h.below E).below k).blk.cells.2.2.1,qw d w W k⟩
      have HI:χ ((prog.info? 82).map (·.size)=S ([.int .i64 d.root,.int .i64 d.kind,.int .i64 d.file,.int .i64 d.rate,.int .i64 d.burst]:List υ).length):=vG;have G:χ (∀ W:ω,κ prog 127 #[.agg #[d.root,d.kind,d.file,d.rate,d.burst]] W λe w'=>e=.returned d.kv.fault/\β W W w'):=λW=>Fv d.root d.kind d.file d.rate d.burst W
      have r:y.lu d=if d.kv.fault=0 then newF y.s d else d.kv.fault:=by unfold YV.lu;rw[if_neg k,if_neg (by rw[hd];exact L)]
      have Y:kind=d.kind:=by rw[hd];rfl
      have e6:file=d.file:=by rw[hd];rfl
      have e7:x=d.rate:=by rw[hd];rfl
      have e8:t=d.burst:=by rw[hd];rfl
      rw[<- hd];rw[Y,e6,e7,e8];rw[Y] at g1;rw[<- a4] at c7;by_cases M:d.kv.fault=0
      . rw[if_pos M] at r;rw[M] at G;by_cases K:newF y.s d=0
        . have i:y.iE d=y.aN:=by unfold YV.iE;rw[if_pos (r.trans K)]
          have f:y.start d=if y.aN=0 then {y.aA d with j:=S ((iw y.s d).at 1)} else y.aA d:=by unfold YV.start;rw[if_pos (r.trans K)]
          have ae:JOk y.s C (iw y.s d):=(CU D a4 K (st:=2) (.inr (.inl rfl))).ok
          have U:χ (∀ W:ω,β w w W->κ prog 83 #[Z.sp,.agg #[d.root,d.kind,d.file,d.rate,d.burst]] W λe w'=>∃ b:Zj,e=.returned (.tuple #[b.xp,(0:Int)])/\RJ w' Z.sp b.xp b.a b.cap Z.qs y.s m C (iw y.s d) (iw y.s d).state/\(w.heap.size<=b.xp/\∀ g o,b.a=S ⟨g,o,O⟩->w.heap.size<=g)/\β W W w'):=λW c=>by
            refine(Dq d W ((h.shelf D.s).below c)).mono ?_;rintro e w' ⟨a9,⟨hx,_⟩|⟨_,xp,cap,a,rfl,h1,h2,h3⟩⟩
            . exact absurd K hx
            . have hs:=c.size;exact⟨⟨xp,a,cap⟩,rfl,h3 C ae,⟨ja4 hs h1,λg o e=>ja4 hs (h2 g o e)⟩,a9⟩
          have a2:=ah λW (c:β w w W)=>vK d W (h.below c) D.top M hm
          obtain⟨s1,s2,s3,s4⟩:=nY y d
          have aa:χ (∀(T I:ω) (b:Zj),β w w T->RJ T Z.sp b.xp b.a b.cap Z.qs y.s m C (iw y.s d) (iw y.s d).state->(w.heap.size<=b.xp/\∀ g o,b.a=S ⟨g,o,O⟩->w.heap.size<=g)->aF n Z y (y.aA d) T I ->
              (∃ v,I.cell? ⟨n,13,O⟩=S v)/\I.frozen? ⟨n,13,O⟩=false/\κ prog 128 #[b.xp,false] (I.setCell ⟨n,13,O⟩ b.xp) λe w'=>e=.returned (0:Int)/\bY n Z y {y.aA d with j:=S ((iw y.s d).at 1)} w w'):=λT I b ab B J ⟨Z1,i,h1,h3⟩=>by
            obtain⟨_,_,_,_,_,_,_,_,_,ad,qf⟩:=h1.blk.cells;obtain⟨h5,h6⟩:=h.started ab B J h1 i h3;refine⟨⟨_,ad⟩,qf 13,?_⟩;have ac:=MH (m:=m) (C:=C) false _ h5 (by show(y.aA d).s.ok m;rw[s1];exact D.s) rfl (by show JOk (y.aA d).s C _;rw[s1];exact B.ok);have ep:fD (iw y.s d) false=0:=rfl;rw[ep] at ac;refine ac.mono ?_;rintro e w' ⟨rfl,Z2,f,h7,h8⟩;refine⟨rfl,Z2,.inl (f.la.trans i.la),.inr (λg o e=>?_),h7,h6.trans h8⟩;have e3:b.a=S ⟨g,o,O⟩:=by rw[f.jb] at e;exact e
            have q1:=B.nums.lt B.ok.ne e3;have q2:=h3.size;have q3:=h8.size;have q4:(I.setCell ⟨n,13,O⟩ b.xp).heap.size=I.heap.size:=by simp[World.setCell]
            exact⟨J.2 g o e3,by omega⟩
          rw[i,f];unfold bI at *
          have a8:=ah λT I (ab:β w w T) (hd:aF n Z y (y.aA d) T I)=>(aF.from ab hd).out
          have af:=AV y;clear h D k i f r M hd L a4 Y e6 e7 e8 P s1 s2 s3 s4 K ae;generalize ({y.aA d with j:=S ((iw y.s d).at 1)}:YV)=z2 at *
          generalize y.aA d=z1 at *
          generalize y.aN=F at *
          by_cases hF:F=0
          . rw[if_pos hF,hF];rw[hF] at a2;go_enter func52,ntmps52;go_wp2_with fail;refine cSt l ?_;clear l;go_wp2_with fail;refine cEq (G _) λX c=>?_
            have a3:=ah (E.trans (c.mono E.size));have R:=ah (H _ c.drew);have u:=ah c.drew;clear c G;go_wp2;have z:χ (β w w X.drew):=a3.drew
            go_region_held3 (λW=>W.cell? ⟨n,6,O⟩=S (Z.sp:υ)/\W.cell? ⟨w,0,O⟩=S (d.root:υ)/\W.cell? ⟨w,1,O⟩=S (d.kind:υ)/\W.cell? ⟨w,2,O⟩=S (d.file:υ)/\W.cell? ⟨w,3,O⟩=S (d.rate:υ)/\W.cell? ⟨w,4,O⟩=S (d.burst:υ))
              (first|(exact R)|assumption)
              (first
                | (go_at_call 83;refine(U _ z).mono ?_;rintro e w3 ⟨b,rfl,B,J,q⟩;have Q:=ah (z.trans (q.mono z.size));have a0:=ah (V _ (u.trans (q.mono u.size)));have a5:=ah B;have a6:=ah J;have a7:=H _ (u.trans (q.mono u.size));clear q B J))
            have HK:=ah (a2 _ Q);clear a2 U V H R a7;go_wp2_with (refine wpList_load_mid (by rfl) 82 (.tmp 12) (by rfl) w.heap.size 0 (by rfl) [d.root,d.kind,d.file,d.rate,d.burst] _ a0 underlying82 rfl HI ?_)
            refine cEq HK λw4 a1=>?_
            obtain⟨⟨v,ad⟩,qf,hp⟩:=aa w3 w4 b Q a5 a6 a1;have HP:=ah hp;clear a1 hp HK aa a5 a6 a8 a0;go_wp2_with fail;refine cHd HP λw5 A=>?_
            clear HP;go_wp2;go_ret;exact⟨rfl,A⟩
          . rw[if_neg hF];have gF:decide (0<F)=true:=decide_eq_true (by omega);go_enter func52,ntmps52;go_wp2_with fail;refine cSt l ?_;clear l;go_wp2_with fail;refine cEq (G _) λX c=>?_
            have a3:=ah (E.trans (c.mono E.size));have R:=ah (H _ c.drew);have u:=ah c.drew;clear c G;go_wp2;have z:χ (β w w X.drew):=a3.drew
            go_region_held3 (λW=>W.cell? ⟨n,6,O⟩=S (Z.sp:υ)/\W.cell? ⟨w,0,O⟩=S (d.root:υ)/\W.cell? ⟨w,1,O⟩=S (d.kind:υ)/\W.cell? ⟨w,2,O⟩=S (d.file:υ)/\W.cell? ⟨w,3,O⟩=S (d.rate:υ)/\W.cell? ⟨w,4,O⟩=S (d.burst:υ))
              (first|(exact R)|assumption)
              (first
                | (go_at_call 83;refine(U _ z).mono ?_;rintro e w3 ⟨b,rfl,B,J,q⟩;have Q:=ah (z.trans (q.mono z.size));have a0:=ah (V _ (u.trans (q.mono u.size)));have a5:=ah B;have a6:=ah J;have a7:=H _ (u.trans (q.mono u.size));clear q B J))
            have HK:=ah (a2 _ Q);clear a2 U V H R a7;go_wp2_with (refine wpList_load_mid (by rfl) 82 (.tmp 12) (by rfl) w.heap.size 0 (by rfl) [d.root,d.kind,d.file,d.rate,d.burst] _ a0 underlying82 rfl HI ?_)
            refine cEq HK λw4 a1=>?_
            have A:=ah (a8 _ _ Q a1);clear a1 HK aa a5 a6 a8 a0;go_wp2;go_ret;exact⟨rfl,A⟩
        . have i:y.iE d=newF y.s d:=by unfold YV.iE;rw[if_neg (λe=>K (r.symm.trans e)),r]
          have f:y.start d=y:=by unfold YV.start;rw[if_neg (λe=>K (r.symm.trans e))]
          have U:χ (∀ W:ω,β w w W->κ prog 83 #[Z.sp,.agg #[d.root,d.kind,d.file,d.rate,d.burst]] W λe w'=>e=.returned (.tuple #[.pointer O,newF y.s d])/\β W W w'):=λW c=>by
            refine(Dq d W ((h.shelf D.s).below c)).mono ?_;rintro e w' ⟨a9,⟨_,rfl⟩|⟨hx,_⟩⟩
            . exact⟨rfl,a9⟩
            . exact absurd hx K
          rw[i,f];have gN:decide (0<newF y.s d)=true:=decide_eq_true (by have:=IJ y.s d;omega);unfold bI at *
          clear h D k i f r M hd L a4 Y e6 e7 e8;generalize newF y.s d=nf at *
          go_enter func52,ntmps52;go_wp2_with fail;refine cSt l ?_;clear l;go_wp2_with fail;refine cEq (G _) λX c=>?_
          have a3:=ah (E.trans (c.mono E.size));have R:=ah (H _ c.drew);have u:=ah c.drew;clear c G V HI;go_wp2;have z:χ (β w w X.drew):=a3.drew
          go_region_held3 (λW=>W.cell? ⟨n,6,O⟩=S (Z.sp:υ)/\W.cell? ⟨w,0,O⟩=S (d.root:υ)/\W.cell? ⟨w,1,O⟩=S (d.kind:υ)/\W.cell? ⟨w,2,O⟩=S (d.file:υ)/\W.cell? ⟨w,3,O⟩=S (d.rate:υ)/\W.cell? ⟨w,4,O⟩=S (d.burst:υ))
            (first|(exact R)|assumption)
            (first
              | (go_at_call 83;refine cEq (U _ z) λw3 q=>?_;have Q:=ah (z.trans (q.mono z.size));have a7:=H _ (u.trans (q.mono u.size));clear q))
          have A:=ah (P _ Q);go_wp2;go_ret;exact⟨rfl,A⟩
      . rw[if_neg M] at *
        have i:y.iE d=d.kv.fault:=by unfold YV.iE;rw[if_neg (λe=>M (r.symm.trans e)),r]
        have f:y.start d=y:=by unfold YV.start;rw[if_neg (λe=>M (r.symm.trans e))]
        have gf:decide (0<d.kv.fault)=true:=decide_eq_true (by
          have:d.kv.fault=0\/0<d.kv.fault:=by
            unfold KV.fault;split
            . split
              . exact .inl rfl
              . exact .inr (by decide)
            . exact .inr (by decide)
          omega)
        rw[i,f];unfold bI at *
        clear h D k i f r hd L a4 Y e6 e7 e8 HI V H;generalize d.kv.fault=ff at *
        go_enter func52,ntmps52;go_wp2_with fail;refine cSt l ?_;clear l;go_wp2_with fail;refine cEq (G _) λX c=>?_
        have A:=ah (P _ (E.trans (c.mono E.size)));clear c G;go_wp2;go_ret;exact⟨rfl,A⟩
def WU{sp m cap C n:Nat}{A s a}(l)(fr:Int)(w)(h:bJ w sp A s m)(hl:Nums w a l)(hg:s.good (C:Int) l)(h5:l.length<=100)(hC:C<=40)(ha:Apart a (fpQ A s))(hm:m+3000<1000000000)(b1 : -9223372036854775808<=fr/\fr<=9223372036854775807)(hn:n<=200) :
    κ prog 115 #[sp,.slice a l.length cap,fr,.string (fA (n*16)),true] w (bK w sp A s (m+2000) (s.wipe l fr (n:Int))):=by
  have aq:(fA (n*16)).size=n*16:=by show(List.replicate (n*16) (0:UInt8)).toArray.size=_;simp
  generalize fA (n*16)=t at aq |-;have b2:(t.size:Int) / 16=(n:Int):=by omega
  have Q:=ah (vC (cap:=cap) l fr (n:Int) w h hl hg (by omega) b1);by_cases V:s.aT l fr (n:Int)=0
  . obtain⟨J,n0,n1,n2⟩:=SV.mD hg V;obtain⟨f,rfl⟩:∃ f:Nat,fr=(f:Int):=⟨fr.toNat,by omega⟩;have HR:χ (s.wipe l (f:Int) (n:Int)=kC (SV.dM l) s (aW f n 0)):=by unfold χ SV.wipe;rw[if_pos V];rfl
    rw[V] at Q;generalize s.wipe l (f:Int) (n:Int)=R at HR |-;have az:χ (∀(s:SV) p,s.good (C:Int) l->(SV.dM l s p).1.good (C:Int) l):=λs p hg=>hg.dM l p
    have bi:χ (∀ b:ω,β w w b->mQ b sp A s m (C:Int) l (SV.dM l) f n R 0 A s b):=λb u=>⟨h.below u,hg,HR.out.symm,jX.refl _ _ _,ja7 _⟩
    have ar:0<l.length:=List.length_pos_iff.2 J
    have ao:χ (∀(b wr W:ω) (d:Nat->Qh) (z:SV) (k:Nat),k<n->β w w b->mQ b sp A s m (C:Int) l (SV.dM l) f n R k d z wr->β wr wr W ->
        κ prog 180 #[sp,.slice a l.length cap,((aH f n k).c:Int),((aH f n k).f:Int),.string (fA ((aH f n k).n*16))] W (bK W sp d z (m+10*k+10) (z.lay l (aH f n k).c (aH f n k).f (fA ((aH f n k).n*16))))):=λb wr W d z k D P j u=>by
      have a5:=yQ (C:=C) D (by omega:f+n<=4*C);have aa:Nums W a l:=((hl.below P).moved j.moved.toMoved (λg o e=>ha g o e)).below u;have b6:(fA ((aH f n k).n*16)).size=(aH f n k).n*16:=by show(List.replicate ((aH f n k).n*16) (0:UInt8)).toArray.size=_;simp
      exact JD l (aH f n k).c (aH f n k).f _ W (j.shelf.below u) aa j.good J h5 (by omega) (by rw[b6];have:=a5.n4;omega) (by have:=a5.c;omega)
    have be:χ (∀(b wr:ω) (d:Nat->Qh) (z:SV) (k:Nat),k<n->β w w b->mQ b sp A s m (C:Int) l (SV.dM l) f n R k d z wr ->
        ∃(g o x:Nat) (v:IV) (g2 a8:Nat),a=S ⟨g,o,O⟩/\x<5/\wr.cell? ⟨g,o,O⟩=S (.int .i64 (x:Int))/\wr.cell? ⟨sp,x,O⟩=S ((d x).p:υ)/\wr.cell? ⟨(d x).p,4,O⟩=S (.slice (S ⟨g2,0,O⟩) v.t.length a8)/\(aH f n k).c<v.t.length/\wr.cell? ⟨g2,(aH f n k).c*2,O⟩=S (.int .i64 (v.bG (aH f n k).c).1) /\
        (SV.dM l z (aH f n k)=if (aH f n k).n=4 then (z.upd x (v.clear (aH f n k).c),v.fF (aH f n k).c) else if (v.bG (aH f n k).c).1=1 then (z,0) else z.lay l (aH f n k).c (aH f n k).f (fA ((aH f n k).n*16))) /\
        (∀ W:ω,β wr wr W->κ prog 181 #[(d x).p,((aH f n k).c:Int)] W (bK W sp d z (m+10*k+10) (z.upd x (v.clear (aH f n k).c),v.fF (aH f n k).c)))/\¬fpQ d z g/\¬fpQ d z sp):=λb wr d z k D P j=>by
      have a5:=yQ (C:=C) D (by omega:f+n<=4*C);have aa:Nums wr a l:=(hl.below P).moved j.moved.toMoved (λg o e=>ha g o e);obtain⟨g,o,x,v,e1,hx,x5,hf,bo,af,a7,hi,ax⟩:=j.shelf.numAt aa j.good ar;have bc:((x:Int)).toNat=x:=by omega
      have a4:(aH f n k).c<v.t.length:=by have:=ax.len;have:=a5.c;omega
      obtain⟨g2,a8,aR,bq,e0,_⟩:=hi.jZ a4;have e4:=hi.cells.2.2.2.2.1;rw[aR] at e4;have bd:v.there ((aH f n k).c:Int)=true:=decide_eq_true ⟨by omega,by omega⟩;have b9:(v.bG (aH f n k).c).1=(v.t.getD (aH f n k).c (0,0)).1:=by unfold IV.bG;rw[bd,if_pos rfl];rfl
      refine⟨g,o,x,v,g2,a8,e1,x5,af,a7,e4,a4,by rw[b9];exact e0,?_,λW u=>?_,(Apart.moved ha (hl.below P) J j.moved.toMoved) g o e1,j.shelf.tX⟩
      . cases l with
        | nil=>exact absurd rfl J
        | cons y r =>
          have T:y=(x:Int):=hx;subst T;show(match z.file (x:Int) with|none=>(z,(4:Int))|some v=>_)=_
          rw[hf];rfl
      . have:=Jo ((aH f n k).c:Int) W (j.shelf.below u) hf (by omega)
        rw[bc] at this;exact this
    have b7:χ (∀(k:Nat) (W:ω),k<n->κ prog 43 #[(16*((aH f n k).n:Int):Int)] W λe w'=>e=.returned (.string (fA ((aH f n k).n*16)))/\β W W w'):=λk W D=>by
      have j:=oV (fr:=f) D;have:=yS ((aH f n k).n*16) W (by omega)
      rw[show((((aH f n k).n*16:Nat)):Int)=16*((aH f n k).n:Int) by omega] at this;exact this
    have b0:=ah λk (D:k<n)=>IC f n k D
    have b8:χ (∀ k,k<n->1<=(aH f n k).n/\(aH f n k).f+(aH f n k).n<=4/\k+(aH f n k).n<=n):=λk D=>oV D
    have ai:=ah λb w' R e (u:β w w b) (hd:bK b sp A s (m+2000) R e w')=>bK.from hd u
    have bb:(0:Int)<(l.length:Int):=by omega
    generalize hq:l.length=q at Q ao ar bb |-;go_enter func115,ntmps115;go_wp2_with fail;refine cEq Q.out λb P=>?_
    have a2:=ah P;have aw:=ah (bi.out b P);go_wp2;go_loopw [13] (λi wr=>∃(k:Nat) (d:Nat->Qh) (z:SV),i=.int .i64 (k:Int)/\mQ b sp A s m (C:Int) l (SV.dM l) f n R k d z wr) (λi _=>n-(intOf i).toNat)
    case atStart=>exact⟨0,A,s,rfl,aw.out⟩
    case round =>
      obtain⟨k,d,z,rfl,j⟩:=hrel;have bm:=j.le;by_cases G:k<n
      . have N:=ah (λW u=>ao.out b wr W d z k G a2.out j u);obtain⟨g,o,x,v,g2,a8,rfl,x5,af,a7,e4,a4,e0,bh,b4,b5,bf⟩:=be.out b wr d z k G a2.out j;have am:=ah b4;have ae:=ah (λW=>b7.out k W G);obtain⟨i1,i2,i3,_⟩:=b0.out k G;obtain⟨p1,p2,p3⟩:=b8.out k G;have av:=ah i3;have a0:=ah λW e E (u:β wr wr W) (hd:bK W sp d z (m+10*k+10) (SV.dM l z (aH f n k)) e E) (J:(SV.dM l z (aH f n k)).2=0)=>j.step u G az.out hd J
        have a9:χ (∀ W e E,β wr wr W->bK W sp d z (m+10*k+10) (SV.dM l z (aH f n k)) e E->(SV.dM l z (aH f n k)).2≠0->R=SV.dM l z (aH f n k)/\bK b sp A s (m+2000) R e E):=λW e E u hd J=>j.stop u G (by omega) hd J
        have a6:χ (∀ W:ω,β wr wr W->bK W sp d z (m+10*k+10) (z,0) (.returned (0:Int)) W):=λW u=>bK.same ((j.shelf.below u).more (by omega)) (ja0 _ _)
        have ag:=ah (Zg l z (aH f n k));have H:=ah bh;generalize SV.dM l z (aH f n k)=Z at a0 a9 ag H;generalize z.lay l (aH f n k).c (aH f n k).f (fA ((aH f n k).n*16))=ZL at N H;generalize fA ((aH f n k).n*16)=NB at N ae;generalize bl:(aH f n k).n=B at N a0 av p1 p2 p3 ae H;generalize bj:(aH f n k).f=pf at N i2 p2;generalize bp:(aH f n k).c=I at N i1 a4 e0 H am;have bn:(0:Int)<=(f:Int)+(k:Int):=by omega
        have k1:IntKind.i64.wrap ((f:Int)+(k:Int))=(f:Int)+(k:Int):=ja9 _ (by omega);have k2:(0:Int)<=((f:Int)+(k:Int)) % 4:=by omega
        have k4:min (4-(pf:Int)) ((n:Int)-(k:Int))=(B:Int):=by rw[i2];exact av.symm
        have j1:((f:Int)+(k:Int)) / 4=(I:Int):=i1.symm;have j2:((f:Int)+(k:Int)) % 4=(pf:Int):=i2.symm;have k5:IntKind.i64.wrap (16*(B:Int))=16*(B:Int):=ja9 _ (by omega);have k6:IntKind.i64.wrap ((k:Int)+(B:Int))=(k:Int)+(B:Int):=ja9 _ (by omega);have q0:(0:Int)<=(I:Int):=by omega
        have q1:(I:Int)<(v.t.length:Int):=by omega
        have q2:((I:Int)).toNat=I:=by omega
        have x0:(0:Int)<=(x:Int):=by omega
        have x1:(x:Int)<5:=by omega
        generalize (v.bG I).1=y at e0 H;generalize v.t.length=tl at e4 q1 a4;generalize (d x).p=xp at a7 e4 am;clear aq b2 i1 i2;have K:χ (β wr wr wr.drew):=(ja0 _ _).drew;have d1:wr.drew.cell? ⟨g,o,O⟩=S (.int .i64 (x:Int)):=af;have d2:wr.drew.cell? ⟨sp,x,O⟩=S (xp:υ):=a7;by_cases h4:B=4
        . have g4:((B:Int)==4)=true:=by simp;omega
          have U:χ (Z=(z.upd x (v.clear I),v.fF I)):=by unfold χ;rw[H.out,if_pos h4]
          have an:=ah (am _ K);rw[<- U.out] at an;go_wp2
          go_region_held3 (λW=>W.cell? ⟨g,o,O⟩=S (.int .i64 (x:Int))/\W.cell? ⟨sp,x,O⟩=S (xp:υ))
            (first|(exact⟨d1,d2⟩)|assumption)
            (first
              | (go_at_call 181;refine an.mono ?_;rintro e E hd;have ac:=hd;obtain⟨ba,rfl,_,h3⟩:=ac;have bk:E.cell? ⟨g,o,O⟩=S (.int .i64 (x:Int))/\E.cell? ⟨sp,x,O⟩=S (xp:υ):=⟨(h3.cell (p:=⟨g,o,O⟩) (ja2 _ _ d1) b5).trans d1,(h3.cell (p:=⟨sp,x,O⟩) (ja2 _ _ d2) bf).trans d2⟩;clear h3))
          rw[rQ];by_cases L:Z.2=0
          . obtain⟨Y,z2,a1⟩:=a0 _ _ _ K hd L;have X:=ah a1;rw[L];go_wp2;go_roundw
            case rel =>
              exact⟨k+B,Y,z2,by go_num,X⟩
            case measure=>simp[intOf];omega
          . obtain⟨b3,al⟩:=a9 _ _ _ K hd L;have a3:=ah (ai _ _ _ _ a2 al);have ad:0<Z.2:=by have:=ag.out;omega
            generalize Z.2=fz at ad a3 |-;go_wp2;go_ret;exact a3
        . have g4:((B:Int)==4)=false:=by simp;omega
          by_cases T:y=1
          . have gy:(y != 1)=false:=by simpa using T
            have U:χ (Z=(z,0)):=by unfold χ;rw[H.out,if_neg h4,if_pos T]
            have ap:=a6 _ K;rw[<- U.out] at ap;obtain⟨Y,z2,a1⟩:=a0 _ _ _ K ap (by rw[U.out]);have X:=ah a1;go_wp2;go_region;go_wp2;go_roundw
            case rel =>
              exact⟨k+B,Y,z2,by go_num,X⟩
            case measure=>simp[intOf];omega
          . have gy:(y != 1)=true:=by simpa using T
            have U:χ (Z=ZL):=by unfold χ;rw[H.out,if_neg h4,if_neg T]
            rw[<- U.out] at N;go_wp2;go_region;go_wp2_with fail;refine cEq (ae _) λE aL=>?_
            have ab:=ah (K.trans (aL.mono K.size));have aM:=ah (N _ ab);go_wp2_with fail;refine aM.mono ?_;rintro e w3 hd;have ac:=hd;obtain⟨ba,rfl,_,_⟩:=ac;rw[rQ];by_cases L:Z.2=0
            . obtain⟨Y,z2,a1⟩:=a0 _ _ _ ab hd L;have X:=ah a1;rw[L];go_wp2;go_roundw
              case rel =>
                exact⟨k+B,Y,z2,by go_num,X⟩
              case measure=>simp[intOf];omega
            . obtain⟨b3,al⟩:=a9 _ _ _ ab hd L;have a3:=ah (ai _ _ _ _ a2 al);have ad:0<Z.2:=by have:=ag.out;omega
              generalize Z.2=fz at ad a3 |-;go_wp2;go_ret;exact a3
      . have HD:=ah (ai _ _ _ _ a2 (j.fin G (M:=m+2000) (by omega)));go_wp2;go_ret;exact HD
  . have HR:χ (s.wipe l fr (n:Int)=(s,s.aT l fr (n:Int))):=by unfold χ SV.wipe;rw[if_neg V]
    have a6:χ (∀ W:ω,β w w W->bK w sp A s (m+2000) (s,s.aT l fr (n:Int)) (.returned (s.aT l fr (n:Int))) W):=λW u=>bK.same (h.more (by omega)) u
    have aE:=AB V;rw[HR.out];generalize s.aT l fr (n:Int)=F at Q a6 V aE |-;generalize l.length=q at Q |-;go_enter func115,ntmps115;go_wp2_with fail;refine cEq Q λwA aD=>?_
    have HD:=ah (a6 _ aD);go_wp2;go_ret;exact HD
def U9(n x i):S4.fK n (S4.fK n x i true) i true=S4.fK n x i true:=by
 refine jbG λj=>?_
 rw[S4.yZ,S4.yZ];simp_all
def OX(j c):eU (eU j c) c=eU j c:=by
 by_cases h:j.kind=2\/4<=j.stage
 .have e:eU j c=j:=by unfold eU;rw[if_pos h]
  rw[e,e]
 .have e:eU j c=j.put (S4.fK j.n j.x c true):=by unfold eU;rw[if_neg h]
  rw[e];unfold eU;rw[if_neg (show ¬((j.put (S4.fK _ _ c _)).kind=2\/4<=(j.put (S4.fK _ _ c _)).stage) from h)];show {j with x:=_}={j with x:=_}
  congr 1;exact U9 _ _ _
def lH(j:JV)(a:Nat):Nat->JV
 | 0=>j
 | k+1=>eU (lH j a k) ((a+k:Nat):Int)
def OY(j fr):∀ n,iW j fr (n+1)=lH j (fr / 4) ((fr+n) / 4-fr / 4+1):=by
 intro n
 induction n with
 | zero =>
  show eU j (((fr+0) / 4:Nat):Int)=_
  rw[jb0,Nat.sub_self];show _=eU j ((fr / 4+0:Nat):Int)
  simp_all
 | succ n a =>
  show eU _ (((fr+(n+1)) / 4:Nat):Int)=_
  rw[a];by_cases h:(fr+(n+1)) / 4=(fr+n) / 4
  .rw[h];show eU (eU _ ((fr / 4+((fr+n) / 4-fr / 4):Nat):Int)) _=eU _ ((fr / 4+((fr+n) / 4-fr / 4):Nat):Int)
   rw[show fr / 4+((fr+n) / 4-fr / 4)=(fr+n) / 4 by omega,OX]
  .have e:(fr+(n+1)) / 4=(fr+n) / 4+1:=by omega
   rw[e,show(fr+n) / 4+1-fr / 4=((fr+n) / 4-fr / 4)+1 by omega];show _=eU _ ((fr / 4+((fr+n) / 4-fr / 4+1):Nat):Int)
   rw[show fr / 4+((fr+n) / 4-fr / 4+1)=(fr+n) / 4+1 by omega]
def OZ{j}(h:4<=j.stage)(fr):∀ n,iW j fr n=j:=by
 intro n
 induction n with
 | zero=>rfl
 | succ n a =>
  show eU _ _=j
  unfold eU;simp_all
def Vh{xp b cap a j}(c:Int)(w)(h:bT w xp b a cap j j.state)(g:4<=j.stage) :
  κ prog 116 #[xp,c] w λe w'=>e=.returned (.tuple #[])/\w'=w:=by
 obtain⟨_,c2,_,_,_,_,f,_⟩:=h.cells;have d:decide (j.state<4)=false:=decide_eq_false (λe=>by have:=JV.KU.1 e;omega);generalize j.state=st at *
 go_enter func116,ntmps116;go_wp2;go_end0
 exact⟨rfl,rfl⟩
def kaj{b m C Z y j}(c:Int)(w)(h:au w b Z y)(i:y.s.ok m)(a:y.j=S j)(d:j.stage<4->JOk y.s C j) :
  κ prog 116 #[Z.jb.xp,c] w λe w'=>e=.returned (.tuple #[])/\aF b Z y {y with j:=S (eU j c)} w w':=by
 by_cases g:4<=j.stage
 .refine(Vh c w (h.job j a).1 g).mono ?_;rintro e w' ⟨rfl,rfl⟩;have e:eU j c=j:=by unfold eU;simp_all
  rw[e,<- a];exact⟨rfl,aF.refl h⟩
 .exact(Vg c w (h.rj i a (d (by omega)))).mono λ_ _ ⟨k,f⟩=>⟨k,h.yu a (ja0 _ _) f (by unfold eU;split<;>rfl)⟩
def au.listed{w b Z y}(h:au w b Z y):Nums w Z.la y.l/\Apart Z.la (fpQ Z.qs y.s) :=
 ⟨h.list.1,λg o e a=>h.list.2.2 g o e (.inr (.inr (.inl (h.inS a))))⟩
def MN{a C m Z y}(fr)(t:ByteArray)(wipe:Bool)(w)(h:au w a Z y)(f:YOk y C m)(H:C<=40)(r : -9223372036854775808<=fr/\fr<=9223372036854775807)(I:t.size<=10000)(D:¬(t.size % 16=0/\y.s.aT y.l fr ((t.size / 16:Nat):Int)=0)) :
  κ prog 41 #[a,fr,t,wipe] w λe w'=>e=.returned (1:Int)/\aF a Z y y w w':=by
 by_cases x:t.size % 16=0
 .have A  := decide_eq_false (by omega);have B:decide (0<(t.size:Int).tmod 16)=false:=decide_eq_false (by rw[jbp (by omega)];omega);obtain⟨n,M⟩:∃ n:Nat,t.size=n*16:=⟨t.size / 16,by omega⟩;have J:(t.size:Int) / 16=(n:Int):=by omega
  rw[show t.size / 16=n by omega] at *
  have z  := λe=>D ⟨x,e⟩
  have L  := decide_eq_true (AB z);have b:χ (β w w w.drew):=(ja0 _ _).drew;have u:=ah (vC (cap:=Z.lc) y.l fr (n:Int) w.drew ((h.shelf f.s).below b) (h.listed.1.below b) f.ch.good (by omega) r)
  have d:χ (∀ W:ω,β w w W->W.cell? ⟨a,6,O⟩=S (Z.sp:υ)/\W.cell? ⟨a,12,O⟩=S (.slice Z.la y.l.length Z.lc)):=λW c=>by
   obtain⟨_,_,E,_,_,_,_,_,j,_⟩:=(h.below c).blk.cells;exact⟨E,j⟩
  have G:=ah λW (c:β w w W)=>aF.below h c
  have v:=d _ b;generalize y.s.aT y.l fr (n:Int)=F at *
  generalize y.l.length=q at *
  go_enter func41,ntmps41;go_wp2
  go_region_held3 (λW=>W.cell? ⟨a,6,O⟩=S (Z.sp:υ)/\W.cell? ⟨a,12,O⟩=S (.slice Z.la q Z.lc))
   (first|(exact v)|assumption)
   (first
     | (go_at_call 114;refine cEq u λo i=>?_;have g:=ah (b.trans (i.mono b.size));have K:=d o g;clear i))
  go_wp2;go_ret;exact⟨rfl,(G _ g)⟩
 .have A:decide (0<(t.size:Int) % 16)=true:=decide_eq_true (by omega);have B:decide (0<(t.size:Int).tmod 16)=true:=decide_eq_true (by rw[jbp (by omega)];omega);go_enter func41,ntmps41;go_wp2;go_quiet (fail)
  go_wp2;go_ret;exact⟨rfl,(λk=>aF.below h (below_drewN (ja0 _ _) k)) _⟩
def MO{a C m M Z y R}(f n:Nat)(t:ByteArray)(wipe:Bool)(w)(h:au w a Z y)(Q:YOk y C m)(hC:C<=40)(ht:t.size=n*16)(a1:y.s.aT y.l (f:Int) (n:Int)=0)(af:f+n<=4*C)
    (a3:∀ W,β w w W->κ prog 115 #[Z.sp,.slice Z.la y.l.length Z.lc,(f:Int),t,wipe] W (bK W Z.sp Z.qs y.s M R)) (T:YOk {y with s:=R.1} C M) :
    κ prog 41 #[a,(f:Int),t,wipe] w λe w'=>e=.returned R.2/\aF a Z y (({y with s:=R.1}:YV).mark f n) w w':=by
  have al:decide (0<(t.size:Int) % 16)=false:=decide_eq_false (by omega);have ae:decide (0<(t.size:Int).tmod 16)=false:=decide_eq_false (by rw[jbp (by omega)];omega);have ai:(t.size:Int) / 16=(n:Int):=by omega
  have d:χ (β w w w.drew):=(ja0 _ _).drew;have K:=ah (vC (cap:=Z.lc) y.l (f:Int) (n:Int) w.drew ((h.shelf Q.s).below d) (h.listed.1.below d) Q.ch.good (by omega) (by omega));rw[a1] at *
  have g:χ (∀ W:ω,β w w W->W.cell? ⟨a,6,O⟩=S (Z.sp:υ)/\W.cell? ⟨a,12,O⟩=S (.slice Z.la y.l.length Z.lc)):=λW J=>by
    obtain⟨_,_,c6,_,_,_,_,_,U,_⟩:=(h.below J).blk.cells;exact⟨c6,U⟩
  have E:χ (∀ W:ω,β w w W->κ prog 115 #[Z.sp,.slice Z.la y.l.length Z.lc,(f:Int),t,wipe] W λe w'=>e=.returned R.2/\(w'.cell? ⟨a,6,O⟩=S (Z.sp:υ)/\w'.cell? ⟨a,12,O⟩=S (.slice Z.la y.l.length Z.lc))/\aF a Z y {y with s:=R.1} w w'):=λW J=>(a3 W J).mono λe w' hd=>by
    obtain⟨h1,P,b,g1,g2⟩:=h.zl J hd;obtain⟨_,_,c6,_,_,_,_,_,U,_⟩:=g1.blk.cells;rw[b.sp] at *
    rw[b.la,b.lc] at *
    exact⟨h1,⟨c6,U⟩,P,b,g1,g2⟩
  have N:=g _ d;have a0:∀ j,y.j=S j->j.stage<4->JOk R.1 C j:=λj c hg=>(T.job j c hg).ok
  have u:χ (∀(j:JV) (i:Nat) (W:ω),y.j=S j->i<n->aF a Z y {y with s:=R.1,j:=S (iW j f i)} w W->W.cell? ⟨a,13,O⟩=S (Z.jb.xp:υ)/\κ prog 116 #[Z.jb.xp,(((f:Int)+(i:Int)) / 4:Int)] W λe w'=>e=.returned (.tuple #[])/\aF a Z y {y with s:=R.1,j:=S (iW j f (i+1))} w w'):=λj i W c X ⟨P,b,g1,g2⟩=>by
    obtain⟨_,_,_,_,_,_,_,_,_,r,_⟩:=g1.blk.cells;rw[<- b.jb];refine⟨r,?_⟩;have ag:=(yA j f i).2.2.1;rw[show((f:Int)+(i:Int)) / 4=(((f+i) / 4:Nat):Int) by omega];refine(kaj (m:=M) (C:=C) (j:=iW j f i) (((f+i) / 4:Nat):Int) W g1 T.s rfl (λhg=>(a0 j c (by omega)).iW f i)).mono ?_;rintro e w' ⟨rfl,hd⟩;exact⟨rfl,aF.trans b g2 hd⟩
  have HJ:χ (∀(j:JV) (i:Nat) (W:ω),aF a Z y {y with s:=R.1,j:=S (iW j f i)} w W->W.cell? ⟨a,13,O⟩=S (Z.jb.xp:υ)):=λj i W ⟨P,b,g1,g2⟩=>by
    obtain⟨_,_,_,_,_,_,_,_,_,r,_⟩:=g1.blk.cells;rw[<- b.jb];exact r
  obtain⟨o,L⟩:∃ o,o=y.j:=⟨_,rfl⟩
  cases o with
  | none =>
    have c:=L.symm;have z:({y with s:=R.1}:YV).mark f n={y with s:=R.1}:=by unfold YV.mark;show({y with s:=R.1,j:=y.j.map _}:YV)=_;rw[c];rfl
    have a5:χ (∀ W:ω,aF a Z y {y with s:=R.1} w W->W.cell? ⟨a,13,O⟩=S (.pointer O)):=λW ⟨P,b,g1,g2⟩=>by
      obtain⟨_,_,_,_,_,_,_,_,_,r,_⟩:=g1.blk.cells;rw[show({y with s:=R.1}:YV).j=O from c] at *;exact r
    rw[z];clear h Q a1 a3 T a0 u HJ z c L;generalize ({y with s:=R.1}:YV)=y1 at *
    generalize R.2=F at *
    generalize y.l.length=q at *
    go_enter func41,ntmps41;go_wp2
    go_region_held3 (λW=>W.cell? ⟨a,6,O⟩=S (Z.sp:υ)/\W.cell? ⟨a,12,O⟩=S (.slice Z.la q Z.lc))
      (first|(exact N)|assumption)
      (first
        | (go_at_call 114;refine K.mono ?_;rintro e D ⟨rfl,H⟩;have B:=ah (d.trans (H.mono d.size));have a2:=g D B;clear H))
    have G:χ (β w w D.drew):=B.drew;have A:=g _ G;clear K N a2;go_wp2
    go_region_held3 (λW=>W.cell? ⟨a,6,O⟩=S (Z.sp:υ)/\W.cell? ⟨a,12,O⟩=S (.slice Z.la q Z.lc))
      (first|(exact A)|assumption)
      (first
        | (go_at_call 115;refine(E _ G).mono ?_;rintro e w2 ⟨rfl,V,v⟩;have I:=ah v;clear v))
    have r:=a5 _ I;clear E g a5 A V;go_wp2;go_loopw [11] (λi wr=>i=.int .i64 (f:Int)/\wr=w2) (λ_ _=>0)
    case atStart=>exact⟨rfl,rfl⟩
    case round =>
      obtain⟨rfl,hw⟩:=hrel;have a9:=hw.symm;subst a9;clear hw;go_wp2;go_ret;exact⟨rfl,I⟩
  | some j =>
    have c:=L.symm;have z:({y with s:=R.1}:YV).mark f n={y with s:=R.1,j:=S (iW j f n)}:=by unfold YV.mark;show({y with s:=R.1,j:=y.j.map _}:YV)=_;rw[c];rfl
    have e0:({y with s:=R.1}:YV)={y with s:=R.1,j:=S (iW j f 0)}:=by show _=({y with s:=R.1,j:=S j}:YV);rw[<- c]
    have a7:=ah (λi W X hd=>u j i W c X hd);have a6:=ah (λi W hd=>HJ j i W hd);rw[z];rw[e0] at E;obtain⟨y1,x⟩:∃ y1:Nat->YV,y1=λi=>{y with s:=R.1,j:=S (iW j f i)}:=⟨_,rfl⟩
    rw[show({y with s:=R.1,j:=S (iW j f 0)}:YV)=y1 0 by rw[x]] at *
    rw[show({y with s:=R.1,j:=S (iW j f n)}:YV)=y1 n by rw[x]];have ab:χ (∀(i:Nat) (W:ω),i<n->aF a Z y (y1 i) w W->W.cell? ⟨a,13,O⟩=S (Z.jb.xp:υ)/\κ prog 116 #[Z.jb.xp,(((f:Int)+(i:Int)) / 4:Int)] W λe w'=>e=.returned (.tuple #[])/\aF a Z y (y1 (i+1)) w w'):=by rw[x];exact a7
    have ac:χ (∀(i:Nat) (W:ω),aF a Z y (y1 i) w W->W.cell? ⟨a,13,O⟩=S (Z.jb.xp:υ)):=by rw[x];exact a6
    clear h Q a1 a3 T a0 u HJ z e0 c L a7 a6 x;generalize R.2=F at *
    generalize y.l.length=q at *
    go_enter func41,ntmps41;go_wp2
    go_region_held3 (λW=>W.cell? ⟨a,6,O⟩=S (Z.sp:υ)/\W.cell? ⟨a,12,O⟩=S (.slice Z.la q Z.lc))
      (first|(exact N)|assumption)
      (first
        | (go_at_call 114;refine K.mono ?_;rintro e D ⟨rfl,H⟩;have B:=ah (d.trans (H.mono d.size));have a2:=g D B;clear H))
    have G:χ (β w w D.drew):=B.drew;have A:=g _ G;clear K N a2;go_wp2
    go_region_held3 (λW=>W.cell? ⟨a,6,O⟩=S (Z.sp:υ)/\W.cell? ⟨a,12,O⟩=S (.slice Z.la q Z.lc))
      (first|(exact A)|assumption)
      (first
        | (go_at_call 115;refine(E _ G).mono ?_;rintro e w2 ⟨rfl,V,v⟩;have I:=ah v;clear v))
    clear E g A V;go_wp2;go_loopw [11] (λk wr=>∃ i:Nat,i<=n/\k=.int .i64 ((f:Int)+(i:Int))/\aF a Z y (y1 i) w wr) (λk _=>f+n-(intOf k).toNat)
    case atStart=>exact⟨0,ja7 _,by simp,I⟩
    case round =>
      obtain⟨i,X,rfl,hd⟩:=hrel;have r:=ac i _ hd;have HD:=ah hd;have ad:(0:Int)<=(f:Int)+(i:Int):=by omega
      have k1:IntKind.i64.wrap ((f:Int)+(n:Int))=(f:Int)+(n:Int):=ja9 _ (by omega);have k2:IntKind.i64.wrap ((f:Int)+(i:Int)+1)=(f:Int)+(i:Int)+1:=ja9 _ (by omega);by_cases aa:i<n
      . have u:=ah (ab i _ aa hd).2;clear hd;have g1:decide ((f:Int)+(i:Int)<(f:Int)+(n:Int))=true:=decide_eq_true (by omega);have g2:(i:Int)<(n:Int):=by omega
        go_wp2_with fail;refine u.mono ?_;rintro e w3 ⟨rfl,a4⟩;have a8:=ah a4;clear a4 u;go_wp2;go_roundw
        case rel =>
          have fin:∃ Y:Nat,Y<=n/\Value.int .i64 ((f:Int)+(i:Int)+1)=.int .i64 ((f:Int)+(Y:Int))/\aF a Z y (y1 Y) w w3:=⟨i+1,by omega,by congr 1,a8⟩
          first|exact fin|((repeat apply Exists.intro);exact⟨fin,rfl⟩)
        case measure=>simp[intOf];omega
      . have b:i=n:=by omega
        subst b;clear hd;have g1:decide ((f:Int)+(i:Int)<(f:Int)+(i:Int))=false:=decide_eq_false (by omega);go_wp2;go_ret;exact⟨rfl,HD⟩
def kax{d C m Z y}(fr:Int)(t:ByteArray)(w)(h:au w d Z y)(a:YOk y C m)(c:C<=40)(v:m+7000<1000000000)(n : -9223372036854775808<=fr/\fr<=9223372036854775807)(g:t.size<=10000) :
  κ prog 41 #[d,fr,t,false] w λe w'=>e=.returned (y.bQ fr t)/\aF d Z y (y.write fr t) w w':=by
 unfold YV.bQ YV.write;by_cases b:t.size % 16=0/\y.s.aT y.l fr ((t.size / 16:Nat):Int)=0
 .rw[if_pos b,if_pos b];obtain⟨q,j⟩:=b;obtain⟨_,u,r,o⟩:=SV.mD a.ch.good j;obtain⟨f,rfl⟩:∃ f:Nat,fr=(f:Int):=⟨fr.toNat,by omega⟩;rw[show((f:Int)).toNat=f by omega];have k:=a.files (z:=(y.s.put y.l (f:Int) t).1) (m':=m+2000) ((a.s.put _ _ _ (by omega)).more (by omega)) (λl=>.put l _ _ _ _) (by omega);exact MO f (t.size / 16) t false w h a c (by omega) j (by omega) (λW i=>Wy y.l (f:Int) t W ((h.shelf a.s).below i) (h.listed.1.below i) a.ch.good (by have:=a.ch.len;omega) c h.listed.2 (by omega) (by omega) g) k
 .rw[if_neg b,if_neg b];exact MN fr t false w h a c n g b
def kaw{d C m n Z y}(fr:Int)(w)(h:au w d Z y)(a:YOk y C m)(c:C<=40)(v:m+7000<1000000000)(k : -9223372036854775808<=fr/\fr<=9223372036854775807)(o:n<=200) :
  κ prog 41 #[d,fr,.string (fA (n*16)),true] w λe w'=>e=.returned (y.lU fr (n:Int))/\aF d Z y (y.wipe fr (n:Int)) w w':=by
 have g:(fA (n*16)).size=n*16:=by show(List.replicate (n*16) (0:UInt8)).toArray.size=_;simp
 unfold YV.lU YV.wipe;by_cases b:y.s.aT y.l fr (n:Int)=0
 .rw[if_pos b,if_pos b];obtain⟨_,t,u,r⟩:=SV.mD a.ch.good b;obtain⟨f,rfl⟩:∃ f:Nat,fr=(f:Int):=⟨fr.toNat,by omega⟩;rw[show((f:Int)).toNat=f by omega,show((n:Int)).toNat=n by omega];have j:=a.files (z:=(y.s.wipe y.l (f:Int) (n:Int)).1) (m':=m+2000) ((a.s.wipe _ _ _ (by omega)).more (by omega)) (λl=>.wipe l _ _ _ _) (by omega);exact MO f n (fA (n*16)) true w h a c g b (by omega) (λW i=>WU y.l (f:Int) W ((h.shelf a.s).below i) (h.listed.1.below i) a.ch.good (by have:=a.ch.len;omega) c h.listed.2 (by omega) (by omega) o) j
 .rw[if_neg b,if_neg b];refine MN fr (fA (n*16)) true w h a c k (by omega) (λe=>b ?_);have q:=e.2;rw[g,show n*16 / 16=n by omega] at *
  exact q
theorem Fls.ok{s l F m}(h:Fls s l F)(b:s.ok m):∀ k,k<=l.length->(F k).ok m:=by
 intro k
 induction k with
 | zero=>intro _;rw[h.zero];exact b
 | succ k a=>intro c;rw[h.next k (by omega)];exact(a (by omega)).ig _
def kai{a C m Z y}(w)(h:au w a Z y)(q:YOk y C m) :
  κ prog 46 #[a] w λe w'=>e=.returned (.tuple #[])/\aF a Z y y.flush w w':=by
 obtain⟨F,d⟩:=fls y.s y.l;have ac:=q.ch.len
 obtain⟨g,o,D⟩:∃ g o,Z.la=S ⟨g,o,O⟩:=by
  obtain⟨g,o,e,_⟩:=h.list.1 0 (List.length_pos_iff.2 q.ch.ne);exact⟨g,o,e⟩
 have V:y.flush={y with s:=F y.l.length}:=by unfold YV.flush;rw[<- d.all]
 have a3:χ (∀(k:Nat) (W:ω),aF a Z y {y with s:=F k} w W->W.cell? ⟨a,12,O⟩=S (.slice (S ⟨g,o,O⟩) y.l.length Z.lc)):=λk W ⟨G,c,g1,g2⟩=>by
  obtain⟨_,_,_,_,_,_,_,_,r,_⟩:=g1.blk.cells;rw[c.la,c.lc,D] at *;exact r
 have B:χ (∀(k:Nat) (W:ω),k<y.l.length->aF a Z y {y with s:=F k} w W->∃ n b:Nat,n<5/\(W.cell? ⟨a,6,O⟩=S (Z.sp:υ)/\W.cell? ⟨a,12,O⟩=S (.slice (S ⟨g,o,O⟩) y.l.length Z.lc)/\W.cell? ⟨g,o+k,O⟩=S (.int .i64 (n:Int))/\W.cell? ⟨Z.sp,n,O⟩=S (b:υ)) /\
   κ prog 120 #[b] W.drew λe w'=>e=.returned (.tuple #[])/\(w'.cell? ⟨a,6,O⟩=S (Z.sp:υ)/\w'.cell? ⟨a,12,O⟩=S (.slice (S ⟨g,o,O⟩) y.l.length Z.lc)/\w'.cell? ⟨g,o+k,O⟩=S (.int .i64 (n:Int))/\w'.cell? ⟨Z.sp,n,O⟩=S (b:υ))/\aF a Z y {y with s:=F (k+1)} w w'):=λk W A ⟨G,c,g1,g2⟩=>by
  obtain⟨v0,aa,_⟩:=q.ch.good (y.l.getD k 0) (by rw[ja6,ja5 A];exact jad A);obtain⟨v,f,_⟩:=(d.alike k).head _ _ aa;obtain⟨n0,n5,_⟩:=SV.eG f;obtain⟨n,N⟩:∃ n:Nat,y.l.getD k 0=(n:Int):=⟨(y.l.getD k 0).toNat,by omega⟩;have K:(F k).ok m:=d.ok q.s k (by omega)
  have Y:∀(j:ω) (E:Zh) (s:SV) (u:IV),oO Z E->au j a E {y with s:=s}->s.ok m->s.file (n:Int)=S u->j.cell? ⟨a,6,O⟩=S (Z.sp:υ)/\j.cell? ⟨a,12,O⟩=S (.slice (S ⟨g,o,O⟩) y.l.length Z.lc)/\j.cell? ⟨g,o+k,O⟩=S (.int .i64 (n:Int))/\j.cell? ⟨Z.sp,n,O⟩=S ((E.qs n).p:υ):=λj E s u x M hs J=>by
   obtain⟨_,_,c6,_,_,_,_,_,r,_⟩:=M.blk.cells;rw[x.la,x.lc,D] at r;rw[x.sp] at *
   obtain⟨g',o',Q,e4⟩:=M.list.1 k A;rw[x.la,D] at *
   cases Q;have a9:=(M.shelf hs).kU J;rw[x.sp] at *
   rw[show y.l.getD k 0=(n:Int) from N] at *
   exact⟨c6,r,e4,a9⟩
  rw[N] at f;refine⟨n,(G.qs n).p,by omega,Y W G (F k) v c g1 K f,?_⟩;have I:β W W W.drew:=(ja0 _ _).drew;have H:=JA (n:=(n:Int)) W.drew ((g1.below I).shelf K) f;refine H.mono ?_;rintro e w' ⟨rfl,ab,h1,T⟩;have hd:=g1.xq I h1 T;have X:F (k+1)=(F k).ig (n:Int):=by rw[d.next k A,N]
  rw[<- X] at hd h1;obtain⟨Z3,Q,g3,g4⟩:=id hd;obtain⟨u,J,_⟩:=(SV.alike.ig (F k) (n:Int)).head _ _ f;rw[<- X] at *
  have L:=Y w' Z3 (F (k+1)) u (c.trans Q) g3 (d.ok q.s (k+1) (by omega)) J;refine⟨rfl,⟨L.1,L.2.1,L.2.2.1,?_⟩,aF.trans c g2 hd⟩;have P:=(g1.below I).shelf K;have h5:=(T.toMoved.cell (p:=⟨G.sp,n,O⟩) (lt_of_some P.blk) P.tX).trans (P.kU f);rw[c.sp] at *;exact h5
 have U:χ (aF a Z y {y with s:=F 0} w w):=by unfold χ;rw[d.zero];exact aF.refl h
 rw[V];clear h q d V D;obtain⟨y1,t⟩:∃ y1:Nat->YV,y1=λk=>{y with s:=F k}:=⟨_,rfl⟩
 rw[show({y with s:=F y.l.length}:YV)=y1 y.l.length by rw[t]];have a2:χ (aF a Z y (y1 0) w w):=by rw[t];exact U
 have a5:χ (∀(k:Nat) (W:ω),aF a Z y (y1 k) w W->W.cell? ⟨a,12,O⟩=S (.slice (S ⟨g,o,O⟩) y.l.length Z.lc)):=by rw[t];exact a3
 have a7:χ (∀(k:Nat) (W:ω),k<y.l.length->aF a Z y (y1 k) w W->∃ n b:Nat,n<5/\(W.cell? ⟨a,6,O⟩=S (Z.sp:υ)/\W.cell? ⟨a,12,O⟩=S (.slice (S ⟨g,o,O⟩) y.l.length Z.lc)/\W.cell? ⟨g,o+k,O⟩=S (.int .i64 (n:Int))/\W.cell? ⟨Z.sp,n,O⟩=S (b:υ)) /\
   κ prog 120 #[b] W.drew λe w'=>e=.returned (.tuple #[])/\(w'.cell? ⟨a,6,O⟩=S (Z.sp:υ)/\w'.cell? ⟨a,12,O⟩=S (.slice (S ⟨g,o,O⟩) y.l.length Z.lc)/\w'.cell? ⟨g,o+k,O⟩=S (.int .i64 (n:Int))/\w'.cell? ⟨Z.sp,n,O⟩=S (b:υ))/\aF a Z y (y1 (k+1)) w w'):=by rw[t];exact B
 clear U a3 B t;generalize y.l.length=ln at *
 go_enter func46,ntmps46;go_wp2;go_loopw [2] (λi wr=>∃ k:Nat,k<=ln/\i=.int .i64 (k:Int)/\aF a Z y (y1 k) w wr) (λi _=>ln-(intOf i).toNat)
 case atStart=>exact⟨0,ja7 _,rfl,a2⟩
 case round =>
  clear a2;obtain⟨k,A,rfl,hd⟩:=hrel;have r:=a5 _ _ hd;have HD:=ah hd;by_cases a8:k<ln
  .obtain⟨n,b,n5,a0,H⟩:=a7 k _ a8 hd;have B:=ah H;have k0:(0:Int)<=(k:Int):=by omega
   have z:(k:Int)<(ln:Int):=by omega
   have k2:decide ((k:Int)<(ln:Int))=true:=decide_eq_true z;have n0:(0:Int)<=(n:Int):=by omega
   have n6:(n:Int)<5:=by omega
   have a1:wr.drew.cell? ⟨a,6,O⟩=S (Z.sp:υ)/\wr.drew.cell? ⟨a,12,O⟩=S (.slice (S ⟨g,o,O⟩) ln Z.lc)/\wr.drew.cell? ⟨g,o+k,O⟩=S (.int .i64 (n:Int))/\wr.drew.cell? ⟨Z.sp,n,O⟩=S (b:υ):=a0;clear H hd a0;go_wp2
   go_region_held3 (λW=>W.cell? ⟨a,6,O⟩=S (Z.sp:υ)/\W.cell? ⟨a,12,O⟩=S (.slice (S ⟨g,o,O⟩) ln Z.lc)/\W.cell? ⟨g,o+k,O⟩=S (.int .i64 (n:Int))/\W.cell? ⟨Z.sp,n,O⟩=S (b:υ))
    (first|(exact a1)|assumption)
    (first
      | (go_at_call 120;refine B.mono ?_;rintro e w2 ⟨rfl,a6,R⟩;have a4:=ah R;clear R))
   clear B a1 a6;go_wp2;go_roundw
   case rel =>
    have fin:∃ z:Nat,z<=ln/\Value.int .i64 ((k:Int)+1)=.int .i64 (z:Int)/\aF a Z y (y1 z) w w2:=⟨k+1,by omega,by go_num,a4⟩
    first|exact fin|((repeat apply Exists.intro);exact⟨fin,rfl⟩)
   case measure=>simp[intOf];omega
  .have c:k=ln:=by omega
   subst c;clear hd;have k2:decide ((k:Int)<(k:Int))=false:=decide_eq_false (by omega);go_wp2;go_end0
   exact⟨rfl,HD⟩
