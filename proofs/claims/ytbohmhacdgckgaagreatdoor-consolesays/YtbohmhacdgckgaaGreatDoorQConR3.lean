/- A part. -/
import Derived.Test.YtbohmhacdgckgaaGreatDoorQChainWalk
set_option linter.all false
set_option maxHeartbeats 4000000
set_option maxRecDepth 100000
namespace Go.Proofs.YtbohmhacdgckgaaGreatDoor
open Go.RowKit renaming Below->β, Hid->χ
open Go renaming World->ω, Value->υ, Calls->κ
open Option renaming none->O, some->S
open Go.Proofs.Tryz Go.RowKit Go.Maps
attribute [local go_sem ↓] Go.wp_at_zero Go.wp_at_succ
def XC(d i)(b:i<d.fl.length)(k)(c:k<=d.pend.length):(lS d.pend d.fl k).getD i []=lastTo d i k:=by
 induction k with
 | zero=>rfl
 | succ k a =>
  by_cases e:(d.pend.getD k (0,[])).1=i
  .rw[H8 e];show((lS _ _ k).set _ _).getD i []=_
   rw[e,ja6,List.getElem?_set_self (by rw[zN];exact b)];rfl
  .rw[H6 e,<- (a (by omega))];show((lS _ _ k).set _ _).getD i []=_
   simp_all
def Kq{d}(b:d.sn)(i)(a:i<d.fl.length):d.seen.getD i []=lastTo d i d.pend.length:=by
 rw[b];exact XC d i a _ (ja1 _)
def JY(f:Int)(w):κ prog 10 #[.nilIface,f] w λe w'=>e=.returned (.bool (f==0))/\w'=w:=by
 go_enter func10,ntmps10;go_wp2;go_ret;exact⟨rfl,rfl⟩
def JX(n w)(a:0<n):κ prog 10 #[.iface 96 (.int .i64 n),n] w λe w'=>e=.returned true/\w'=w:=by
 have b:∀ w:ω,(Instr.typeAssert (.iface 96 (.int .i64 n)) 27 96 true).run prog w=.ok (.tuple #[n,true]) w:=λ_=>by kernel_rfl
 go_enter func10,ntmps10;go_wp2;go_ret;exact⟨rfl,rfl⟩
def U3(d a k):bytesOf (kL d a k)++bytesOf (d.seen.getD (a+k) [])=bytesOf (kL d a (k+1)):=NC _ _
def Vz{B m q v}(c:Int)(w)(h:aU B w q v)(f:v.ok m) :
  κ prog 187 #[q.p,c] w λe w' =>
   e=.returned (.tuple #[.string (bytesOf (v.iy c)),v.ji c])/\β w w w':=by
 have z:=ah (uq c w h f.len)
 cases l:v.there c with
 | false =>
  have s:χ (v.iy c=[]):=by unfold χ IV.iy;rw[l];rfl
  have x:χ (v.ji c=1):=by unfold χ IV.ji;rw[l];rfl
  rw[l] at z;go_enter func187,ntmps187;go_wp2_with (go_at_call 185;refine cSt z ?_)
  go_ret2;exact⟨by rw[s.out,x.out];rfl,ja0 _ _⟩
 | true =>
  rw[l] at z;obtain⟨av,a7⟩:=IV.oM l;obtain⟨a,rfl⟩:∃ a:Nat,c=(a:Int):=⟨c.toNat,by omega⟩;obtain⟨g,cap,hv,aq,t0,t1⟩:=h.jZ (c:=a) (by omega);obtain⟨c0,_,_,_,c4,_⟩:=h.cells;rw[hv] at c4;have ac:χ (v.ent (a:Int)=v.t.getD a (0,0)):=rfl;rw[<- ac.out] at t0 t1;have an:=jS (f.ent l);by_cases G:(v.ent (a:Int)).1=0
  .have s:χ (v.iy (a:Int)=[]):=by unfold χ IV.iy;rw[l,if_pos rfl,if_neg (by omega),if_neg (by omega)]
   have x:χ (v.ji (a:Int)=4):=by unfold χ IV.ji;rw[l,if_pos rfl,if_pos G]
   rw[G] at t0;generalize v.t.length=n at c4 a7;go_enter func187,ntmps187;go_wp2_with (go_at_call 185;refine cSt z ?_)
   go_ret2;exact⟨by rw[s.out,x.out];rfl,ja0 _ _⟩
  .have x:χ (v.ji (a:Int)=0):=by unfold χ IV.ji;rw[l,if_pos rfl,if_neg G]
   by_cases M:(v.ent (a:Int)).1=1
   .have s:χ (bytesOf (v.iy (a:Int))=bytesOf (List.replicate 64 0)):=by unfold χ IV.iy;rw[l,if_pos rfl,if_neg (by omega),if_pos M];rfl
    have a9:=ah λW=>yS 64 W (by omega)
    rw[M] at t0;generalize bytesOf (List.replicate 64 0)=S at *
    generalize v.t.length=n at *
    go_enter func187,ntmps187;go_wp2_with (go_at_call 185;refine cSt z ?_)
    refine cEq (a9 _) λw1 al=>?_
    go_wp2;go_ret2;exact⟨by rw[s.out,x.out];rfl,al⟩
   .have F:(v.ent (a:Int)).1=2:=by omega
    obtain⟨p0,p1,p2⟩:=f.place l F;have aw:=HV.dS f.h;have az:=f.d.ok.n2;have ap:=f.d.ok.few;have ax:=f.d.ok.few2;have s:χ (bytesOf (v.iy (a:Int))=bytesOf (kL v.d (dJ v.h (v.ent (a:Int)).2.toNat) 4)):=by unfold χ IV.iy;rw[l,if_pos rfl,if_pos F]
    have a0:χ (∀ W:ω,W.heap=w.heap->κ prog 235 #[q.p,.int .i64 (v.ent (a:Int)).2] W λe w'=>e=.returned (dJ v.h (v.ent (a:Int)).2.toNat:Int)/\w'=W):=λW y=>by
     have:=Bz (v.ent (a:Int)).2.toNat W (h.keep (by rw[y]) (λ_ _=>by rw[y]) (λ_ _=>by rw[y]) λ_ _=>by rw[y]) f.h (by omega)
     rw[show(((v.ent (a:Int)).2.toNat:Nat):Int)=(v.ent (a:Int)).2 by omega] at *;exact this
    have ag:χ (∀(k:Nat) (W:ω),k<4->W.heap=w.heap->κ prog 81 #[q.d.p,((dJ v.h (v.ent (a:Int)).2.toNat:Int)+(k:Int):Int)] W λe w'=>e=.returned (.string (bytesOf (v.d.seen.getD (dJ v.h (v.ent (a:Int)).2.toNat+k) [])))/\w'=W):=λk W hk y=>by
     have:=wY (dJ v.h (v.ent (a:Int)).2.toNat+k) W (h.dev.keep λ_ _=>by rw[y]).todR (by omega) (by omega)
     rw[<- Kq f.d.sn _ (by omega),show(((dJ v.h (v.ent (a:Int)).2.toNat+k:Nat):Int))=(dJ v.h (v.ent (a:Int)).2.toNat:Int)+(k:Int) by omega] at *;exact this
    generalize dJ v.h (v.ent (a:Int)).2.toNat=b at *
    have ai:=ah λk=>U3 v.d b k
    have a3:χ (bytesOf (kL v.d b 0)=⟨#[]⟩):=rfl
    have aa:χ (∀ k,k<=4->(bytesOf (kL v.d b k)).size<=64):=λk D=>by
     have Z:∀ j,j<=4->(kL v.d b j).length=16*j:=λj hj=>by
      induction j with
      | zero=>rfl
      | succ j ih =>
       show(kL v.d b j++v.d.seen.getD (b+j) []).length=_
       rw[jah,ih (by omega)];have A:b+j<v.d.seen.length:=by have:=f.d.ok.same;omega
       have:(v.d.seen.getD (b+j) []).length=16:=by rw[ja6,ja5 A];exact f.d.ok.l2 _ (jad A)
       omega
     show(kL v.d b k).toArray.size<=64
     rw[jbf,Z k D];omega
    have a1:χ (∀ k,k<4->(bytesOf (v.d.seen.getD (b+k) [])).size=16):=λk D=>by
     have A:b+k<v.d.seen.length:=by have:=f.d.ok.same;omega
     have:(v.d.seen.getD (b+k) []).length=16:=by rw[ja6,ja5 A];exact f.d.ok.l2 _ (jad A)
     show(v.d.seen.getD (b+k) []).toArray.size=16
     simpa using this
    obtain⟨o,E⟩:∃ o:Nat->ByteArray,o=λk=>bytesOf (kL v.d b k):=⟨_,rfl⟩
    obtain⟨SS,I⟩:∃ SS:Nat->ByteArray,SS=λk=>bytesOf (v.d.seen.getD (b+k) []):=⟨_,rfl⟩
    have N:χ (∀ k,o k++SS k=o (k+1)):=by rw[E,I];exact ai
    have Y:χ (o 0=⟨#[]⟩):=by rw[E];exact a3
    have P:χ (∀ k,k<=4->(o k).size<=64):=by rw[E];exact aa
    have ae:χ (∀ k,k<4->(SS k).size=16):=by rw[I];exact a1
    have ab:χ (bytesOf (v.iy (a:Int))=o 4):=by rw[E];exact s
    have R:χ (∀(k:Nat) (W:ω),k<4->W.heap=w.heap->κ prog 81 #[q.d.p,((b:Int)+(k:Int):Int)] W λe w'=>e=.returned (.string (SS k))/\w'=W):=by rw[I];exact ag
    rw[F] at t0;generalize (v.ent (a:Int)).2=y1 at *
    generalize v.t.length=n at *
    have aD:b<=196:=by omega
    go_enter func187,ntmps187;go_wp2_with (go_at_call 185;refine cSt z ?_)
    go_loopw [6,7] (λu i wr=>∃(k:Nat) (r:ByteArray),k<=4/\i=.int .i64 k/\u=.string r/\χ (r=o k)/\β w w wr/\wr.heap=w.heap) (λ_ i _=>4-(intOf i).toNat)
    case atStart=>exact⟨0,⟨#[]⟩,ja7 _,rfl,rfl,Y.symm,ja0 _ _,rfl⟩
    case round =>
     obtain⟨k,r,D,rfl,rfl,H,J,C⟩:=hrel;have X:wr.cell? ⟨q.p,0,O⟩=some (q.d.p:υ):=by rw[jab (w:=w) (by rw[C])];exact c0
     have d4:wr.cell? ⟨q.p,4,O⟩=some (.slice (some ⟨g,0,O⟩) n cap):=by rw[jab (w:=w) (by rw[C])];exact c4
     have U:wr.cell? ⟨g,a*2+1,O⟩=some (y1:υ):=by rw[jab (w:=w) (by rw[C])];exact t1
     have a6:χ (wr.drew.heap=w.heap):=C;have ad:χ (β w w wr.drew):=J.drew;by_cases L:k<4
     .have Q:χ (r++SS k=o (k+1)):=by unfold χ;rw[H.out];exact N k
      have ao:r.size<=64:=by rw[H.out];exact P k D
      have V:=ae k L;have a5:=ah (R k);have kw:IntKind.i64.wrap ((b:Int)+(k:Int))=(b:Int)+(k:Int):=ja9 _ (by omega);generalize SS k=K at *
      have ar:¬9223372036854775807<r.size+K.size:=by omega
      clear V;go_wp2
      go_region_held3 (λW=>W.heap=w.heap/\β w w W/\W.cell? ⟨q.p,0,O⟩=some (q.d.p:υ)/\W.cell? ⟨q.p,4,O⟩=some (.slice (some ⟨g,0,O⟩) n cap)/\W.cell? ⟨g,a*2+1,O⟩=some (y1:υ))
       (first|(exact⟨a6,ad,X,d4,U⟩)|assumption)
       (first
         | (go_at_call 235;refine(a0 _ (by assumption:_/\β w w _/\_).1).mono ?_;rintro e w' ⟨rfl,rfl⟩)
         | (go_at_call 81;refine(a5 _ L (by assumption:_/\β w w _/\_).1).mono ?_;rintro e w' ⟨rfl,rfl⟩))
      all_goals
       obtain⟨a8,am,_⟩:=(by assumption:_/\β w w _/\_);have a2:=ah a8;have af:=ah am;go_wp2;go_roundw
       case rel =>
         exact⟨k+1,r++K,by omega,by go_num,rfl,Q,af,a2⟩
       case measure=>simp[intOf];omega
     .have T:k=4:=by omega
      subst T;have a4:=ah J;go_wp2;go_ret2;exact⟨by rw[ab.out,x.out,<- H.out];rfl,a4⟩
def below_drewN{B a w}(h:β B a w)(n):β B a (w.drewN n):=⟨h.os,h.tape,h.output,h.size,h.block⟩
def bJ.numAt{w sp m d s C a l}(h:bJ w sp d s m)(f:Nums w a l)(j:s.good C l){k}(q:k<l.length) :
  ∃(g o n:Nat) (v:IV),a=S ⟨g,o,O⟩/\l.getD k 0=(n:Int)/\n<5/\s.file (n:Int)=S v/\v.h.c=C/\w.cell? ⟨g,o+k,O⟩=S (.int .i64 (n:Int))/\w.cell? ⟨sp,n,O⟩=S ((d n).p:υ)/\aU Gd.no w (d n) v/\v.ok m:=by
 obtain⟨g,o,t,i⟩:=f k q;obtain⟨v,b,r⟩:=j (l.getD k 0) (by simp_all);obtain⟨x,u,_⟩:=SV.eG b;have e:l.getD k 0=((l.getD k 0).toNat:Int):=by omega
 refine⟨g,o,(l.getD k 0).toNat,v,t,e,by omega,by rw[<- e];exact b,r,by rw[i];congr 2,h.kU b,(h.iM b).1,(h.iM b).2⟩
def IV.ok.kind{v:IV}{m}(h:v.ok m){c}(b:v.there c=true):0<=(v.ent c).1:=by
 rcases jS (h.ent b) with a|a
 .omega
 .omega
def JB{sp m cap H s a C}(l)(c:Int)(w)(h:bJ w sp H s m)(hl:Nums w a l)(hg:s.good C l)(h5:l.length<=100) :
  κ prog 186 #[sp,.slice a l.length cap,c] w λe w'=>e=.returned (s.found l c)/\β w w w':=by
 have I:=ah λk W (j:β w w W) (E:k<l.length)=>(h.below j).numAt (hl.below j) hg E
 have B:χ (s.kK c (l.drop 0) 0=s.found l c):=rfl;have G:χ (∀ k,k<l.length->s.kK c (l.drop k) k=if tN (s.file (l.getD k 0)) c=0 then s.kK c (l.drop (k+1)) (k+1) else (k:Int)):=λk E=>by rw[drop_cons E];rfl
 have A:χ (s.kK c (l.drop l.length) l.length = -1):=by unfold χ;rw[jc1];rfl
 generalize s.found l c=R at B |-;generalize hn:l.length=n at I G A h5 |-;go_enter func186,ntmps186;go_wp2;go_loopw [7] (λi wr=>∃ k:Nat,k<=n/\i=.int .i64 (k:Int)/\s.kK c (l.drop k) k=R/\β w w wr) (λi _=>n-(intOf i).toNat)
 case atStart=>exact⟨0,ja7 _,rfl,B,ja0 _ _⟩
 case round =>
  obtain⟨k,a3,rfl,z,r⟩:=hrel;by_cases U:k<n
  .obtain⟨g,o,x,v,rfl,P,x5,Y,_,a2,a1,q,D⟩:=I k wr r U;have J:=G k U;rw[P,Y] at *
   have u:=ah λW (j:β wr wr W)=>uq c W (q.below j) D.len
   have F:=ah r;have k0:(0:Int)<=(k:Int):=by omega
   have k1:(k:Int)<(n:Int):=by omega
   have k2:((k:Int)).toNat=k:=by omega
   have k3:(0:Int)<=(x:Int):=by omega
   have k4:(x:Int)<5:=by omega
   have X  := a2;have K  := a1;have Q:χ (β wr wr wr.drew):=(ja0 _ _).drew
   cases f:v.there c with
   | false =>
    have d:χ (s.kK c (l.drop (k+1)) (k+1)=R):=by
     unfold χ;rw[<- z,J,if_pos (by show(v.bG c).1=0;unfold IV.bG;rw[f];rfl)]
    rw[f] at u;generalize (H x).p=xp at *
    go_wp2
    go_region_held3 (λW=>β wr wr W/\W.cell? ⟨g,o+k,O⟩=S (.int .i64 (x:Int))/\W.cell? ⟨sp,x,O⟩=S (xp:υ))
     (first|(exact⟨Q,X,K⟩)|assumption)
     (first
       | (go_at_call 185;refine cEq (u _ (by assumption:β wr wr _/\_).1) λw' rfl=>?_))
    go_wp2;go_quiet (fail)
    go_wp2;go_roundw
    case rel =>
     exact⟨k+1,by omega,by go_num,d,below_drewN F _⟩
    case measure=>simp[intOf];omega
   | true =>
    obtain⟨a6,T⟩:=IV.oM f;have a5:=D.kind f;obtain⟨b,rfl⟩:∃ b:Nat,c=(b:Int):=⟨c.toNat,by omega⟩;obtain⟨g2,a8,M,a7,L,_⟩:=q.jZ (c:=b) (by omega);have e4:=q.cells.2.2.2.2.1;rw[M] at *
    have N:s.kK (b:Int) (l.drop k) k=if (v.ent (b:Int)).1=0 then s.kK (b:Int) (l.drop (k+1)) (k+1) else (k:Int):=by
     rw[J];show(if (v.bG (b:Int)).1=0 then _ else _)=_
     unfold IV.bG;rw[f,if_pos rfl]
    have a4:wr.cell? ⟨g2,b*2,O⟩=S (.int .i64 (v.ent (b:Int)).1):=L;rw[z] at *
    have V:=ah N;rw[f] at u;have q1  := T;have q2:((b:Int)).toNat=b:=by omega
    clear z J N r G I q D Y P f B A M L T;generalize (v.ent (b:Int)).1=y at *
    generalize (H x).p=xp at *
    generalize v.t.length=tl at *
    go_wp2
    go_region_held3 (λW=>β wr wr W/\W.cell? ⟨g,o+k,O⟩=S (.int .i64 (x:Int))/\W.cell? ⟨sp,x,O⟩=S (xp:υ))
     (first|(exact⟨Q,X,K⟩)|assumption)
     (first
       | (go_at_call 185;refine cEq (u _ (by assumption:β wr wr _/\_).1) λw' rfl=>?_))
    by_cases Z:y=0
    .have d:χ (s.kK (b:Int) (l.drop (k+1)) (k+1)=R):=by unfold χ;rw[V.out,if_pos Z]
     go_wp2;go_quiet (fail)
     go_wp2;go_roundw
     case rel =>
       exact⟨k+1,by omega,by go_num,d,below_drewN F _⟩
     case measure=>simp[intOf];omega
    .have d:χ ((k:Int)=R):=by unfold χ;rw[V.out,if_neg Z]
     go_wp2;go_quiet (fail)
     go_wp2;go_ret;exact⟨nU d,below_drewN F.drew _⟩
  .have a0:k=n:=by omega
   subst a0;have d:χ (-1=R):=by unfold χ;rw[<- z,A.out]
   go_wp2;go_ret;exact⟨nU d,r⟩
def Dw{sp m cap d s a C}(l)(c:Int)(w)(h:bJ w sp d s m)(k:Nums w a l)(i:s.good C l)(h5:l.length<=100) :
  κ prog 118 #[sp,.slice a l.length cap,c] w λe w'=>e=.returned (.tuple #[.string (s.read l c).1,.int .i64 (s.read l c).2])/\β w w w':=by
 by_cases E:l=[]
 .subst E;have r:s.read [] c=(bytesOf [],4):=rfl;rw[r];clear h k i r;go_enter func118,ntmps118;go_wp2;go_ret2;exact⟨rfl,ja0 _ _⟩
 .have I:s.iF l=C:=i.iF E;have B:0<l.length:=List.length_pos_iff.2 E;have ae:((l.length:Int)==0)=false:=by simp;omega
  have a8:(0:Int)<(l.length:Int):=by omega
  have ad:0<l.length:=B;obtain⟨g,o,x,v,rfl,hx,x5,hf,M,V,a7,Q,F⟩:=h.numAt k i B
  have H:v.there c=decide (0<=c/\c<C):=by
   unfold IV.there;have:=F.len
   rw[<- M,<- this]
  have J:χ (∀ W:ω,β w w W->κ prog 185 #[(d x).p,c] W λe w'=>e=.returned (.bool (v.there c))/\w'=W):=λW b=>uq c W (Q.below b) F.len
  have a0:w.cell? ⟨g,o,O⟩=S (.int .i64 (x:Int)):=V;have d1:w.drew.cell? ⟨g,o,O⟩=S (.int .i64 (x:Int)):=a0;have L:w.drew.cell? ⟨sp,x,O⟩=S ((d x).p:υ):=a7;have f:χ (β w w w.drew):=(ja0 _ _).drew;have k3:(0:Int)<=(x:Int):=by omega
  have k4:(x:Int)<5:=by omega
  by_cases T:0<=c/\c<C
  .have t:χ (s.read l c=match s.seenAt c l with|none=>(bytesOf sO,0)|some v=>(bytesOf (v.iy c),v.ji c)):=by unfold χ SV.read;rw[if_neg E,I,if_pos T];rfl
   have D:χ (∀ W:ω,β w w W->κ prog 186 #[sp,.slice (S ⟨g,o,O⟩) l.length cap,c] W λe w'=>e=.returned (s.found l c)/\β W W w'):=λW b=>JB l c W (h.below b) (k.below b) i h5
   have a1:χ (∀ W:ω,κ prog 43 #[(64:Int)] W λe w'=>e=.returned (.string (bytesOf sO))/\β W W w'):=λW=>yS 64 W (by decide)
   rw[H,decide_eq_true T] at J;rcases SV.BG s c l 0 with⟨N,f2⟩|⟨j,n,u,j1,N,f3,f4,P,f6,f7⟩
   .have G:χ (s.found l c = -1):=N;rw[f2] at t;rw[G.out] at D;rw[t.out];clear h k i I t G Q F hf M H V a0 B;generalize l.length=q at ae a8 ad D |-;generalize bytesOf sO=z at a1 |-;generalize (d x).p=xp at J L a7;go_enter func118,ntmps118;go_wp2
    go_region_held3 (λW=>β w w W/\W.cell? ⟨g,o,O⟩=S (.int .i64 (x:Int))/\W.cell? ⟨sp,x,O⟩=S (xp:υ))
      (first|(exact⟨f,d1,L⟩)|assumption)
      (first
        | (go_at_call 185;refine(J _ (by assumption:β w w _/\_).1).mono ?_;rintro e w' ⟨rfl,rfl⟩))
    go_wp2_with fail;refine cBl (D _ f) f λA K=>?_
    go_wp2_with fail;refine cBl (a1 _) K λZ X=>?_
    go_wp2;go_ret2;exact⟨rfl,X⟩
   .have G:χ (s.found l c=(j:Int)):=by unfold χ SV.found;rw[N];congr 1;omega
    rw[f7] at t;simp only at *
    rw[G.out] at D;rw[t.out]
    have a4:χ (∀ W:ω,β w w W->∃(y:Nat),y<5/\W.cell? ⟨g,o+j,O⟩=S (.int .i64 (y:Int))/\W.cell? ⟨sp,y,O⟩=S ((d y).p:υ)/\s.file (y:Int)=S u):=λW b=>by
      obtain⟨g',o',y,u',h1,h2,h3,h4,_,h6,h7,_⟩:=(h.below b).numAt (k.below b) i j1;cases h1;rw[f3] at *
      rw[h2] at P;rw[P] at h4;cases h4;exact⟨y,h3,h6,h7,P⟩
    obtain⟨y,y5,a3,a6,a5⟩:=a4 w (ja0 _ _)
    have a9:χ (∀ W:ω,β w w W->κ prog 187 #[(d y).p,c] W λe w'=>e=.returned (.tuple #[.string (bytesOf (u.iy c)),u.ji c])/\β W W w'):=λW b=>by
      have:=(h.below b).iM a5
      exact Vz c W this.1 this.2
    have ab:g<w.heap.size:=ja2 _ _ a3;have ac:sp<w.heap.size:=ja2 _ _ a6;have k0:(0:Int)<=(j:Int):=by omega
    have k1:(j:Int)<(l.length:Int):=by omega
    have k2:((j:Int)).toNat=j:=by omega
    have k5:decide ((j:Int)<0)=false:=by simp
    have k6:(0:Int)<=(y:Int):=by omega
    have k7:(y:Int)<5:=by omega
    generalize bytesOf (u.iy c)=z at *
    generalize u.ji c=er at *
    clear h k i I t G Q F hf M H V a0 B N f3 f4 P f6 f7 a5 a4 a1;generalize l.length=q at *
    generalize (d y).p=R at *
    generalize (d x).p=xp at *
    go_enter func118,ntmps118;go_wp2
    go_region_held3 (λW=>β w w W/\W.cell? ⟨g,o,O⟩=S (.int .i64 (x:Int))/\W.cell? ⟨sp,x,O⟩=S (xp:υ))
      (first|(exact⟨f,d1,L⟩)|assumption)
      (first
        | (go_at_call 185;refine(J _ (by assumption:β w w _/\_).1).mono ?_;rintro e w' ⟨rfl,rfl⟩))
    go_wp2_with fail;refine cBl (D _ f) f λA K=>?_
    have r:A.cell? ⟨g,o+j,O⟩=S (.int .i64 (y:Int)):=(K.cell (p:=⟨g,o+j,O⟩) ab).trans a3;have e2:A.cell? ⟨sp,y,O⟩=S (R:υ):=(K.cell (p:=⟨sp,y,O⟩) ac).trans a6;have e3:A.drew.cell? ⟨g,o+j,O⟩=S (.int .i64 (y:Int)):=r;have Y:A.drew.cell? ⟨sp,y,O⟩=S (R:υ):=e2;have a2:χ (β w w A.drew):=K.drew;go_wp2
    go_region_held3 (λW=>W.cell? ⟨g,o+j,O⟩=S (.int .i64 (y:Int))/\W.cell? ⟨sp,y,O⟩=S (R:υ))
      (first|(exact⟨e3,Y⟩)|assumption)
      (first
        | (go_at_call 187;refine cEq (a9 _ a2) λZ U=>?_;have aa:Z.cell? ⟨g,o+j,O⟩=S (.int .i64 (y:Int))/\Z.cell? ⟨sp,y,O⟩=S (R:υ):=⟨(U.cell (ja2 _ _ e3)).trans e3,(U.cell (ja2 _ _ Y)).trans Y⟩))
    have X:=ah (a2.trans (U.mono a2.size));clear U aa;go_wp2;go_ret2;exact⟨rfl,X⟩
  .have r:s.read l c=(bytesOf [],1):=by unfold SV.read;rw[if_neg E,I,if_neg T]
   rw[r];rw[H,decide_eq_false T] at *
   clear h k i I r Q F hf M H V B;generalize l.length=q at *
   generalize (d x).p=xp at *
   go_enter func118,ntmps118;go_wp2
   go_region_held3 (λW=>β w w W/\W.cell? ⟨g,o,O⟩=S (.int .i64 (x:Int))/\W.cell? ⟨sp,x,O⟩=S (xp:υ))
    (first|(exact⟨f,d1,L⟩)|assumption)
    (first
      | (go_at_call 185;refine(J _ (by assumption:β w w _/\_).1).mono ?_;rintro e w' ⟨rfl,rfl⟩))
   go_wp2;go_ret2;exact⟨rfl,f⟩
def vC{sp m cap u s a C}(l)(fr n:Int)(w)(h:bJ w sp u s m)(D:Nums w a l)(t:s.good C l)(J:0<=C/\C<=1000)(K : -9223372036854775808<=fr/\fr<=9223372036854775807) :
  κ prog 114 #[sp,.slice a l.length cap,fr,n] w λe w'=>e=.returned (s.aT l fr n)/\β w w w':=by
 by_cases f:l=[]
 .subst f;have G:s.aT [] fr n=4:=rfl;rw[G];go_enter func114,ntmps114;go_wp2;go_ret;exact⟨rfl,ja0 _ _⟩
 .have A:s.iF l=C:=t.iF f;have r  := List.length_pos_iff.2 f;have X:((l.length:Int)==0)=false:=by simp;omega
  have M:(0:Int)<(l.length:Int):=by omega
  have R  := r;obtain⟨g,o,x,v,rfl,T,U,P,z,H,Q,E,V⟩:=h.numAt D t r;have L:w.cell? ⟨g,o,O⟩=S (.int .i64 (x:Int)):=H;have c1:=E.cells.2.1;rw[z] at *
  have d:χ (s.aT l fr n=if fr<0\/n<0\/4*C-fr<n then 1 else 0):=by unfold χ SV.aT;rw[if_neg f,A]
  generalize s.aT l fr n=F at *
  have I  := ja9 _ (by omega);have N:(0:Int)<=(x:Int):=by omega
  have Y:(x:Int)<5:=by omega
  generalize l.length=q at *
  generalize (u x).p=xp at *
  have c:χ (β w w w.drew):=(ja0 _ _).drew;by_cases i:fr<0
  .have B  := decide_eq_true i;have b:χ (F=1):=by unfold χ;rw[d.out,if_pos (.inl i)]
   go_enter func114,ntmps114;go_wp2;go_region;go_wp2;go_ret;exact⟨nU b.symm,c⟩
  .have B  := decide_eq_false i;by_cases j:n<0
   .have g1  := decide_eq_true j;have b:χ (F=1):=by unfold χ;rw[d.out,if_pos (.inr (.inl j))]
    go_enter func114,ntmps114;go_wp2;go_region;go_wp2;go_ret;exact⟨nU b.symm,c⟩
   .have g1  := decide_eq_false j;have W  := ja9 _ (by omega);by_cases y:4*C<fr
    .have g3  := decide_eq_true y;have b:χ (F=1):=by unfold χ;rw[d.out,if_pos (.inr (.inr (by omega)))]
     go_enter func114,ntmps114;go_wp2;go_region;go_wp2;go_ret;exact⟨nU b.symm,c⟩
    .have g3  := decide_eq_false y;by_cases k:4*C-fr<n
     .have g2  := decide_eq_true k;have b:χ (F=1):=by unfold χ;rw[d.out,if_pos (.inr (.inr (by omega)))]
      go_enter func114,ntmps114;go_wp2;go_region;go_wp2;go_ret;exact⟨nU b.symm,c⟩
     .have g2  := decide_eq_false k;have b:χ (F=0):=by unfold χ;rw[d.out,if_neg (by omega)]
      go_enter func114,ntmps114;go_wp2;go_region;go_wp2;go_ret;exact⟨nU b.symm,c⟩
def ptV(p:Pt):List Value:=[.int .i64 (p.c:Int),.int .i64 (p.f:Int),.int .i64 (p.n:Int),.int .i64 (p.a:Int)]
def lN(l:List Pt):List Value:=(l.map ptV).flatten
def U7(l p):lN (l++[p])=lN l++ptV p:=by simp[lN]
def Rz:(prog.info? 224).map (λi=>(i.zero,i.size,i.bytes))=S (S (.agg #[(0:Int),(0:Int),(0:Int),(0:Int)]),4,32):=by kernel_rfl
structure PartsAt(w:ω)(fr n:Nat)(l:List Pt)(k:Nat)(a:Option Addr)(cap:Nat)(wr:ω):Prop where
 own:wr.ownsRow w.heap.size 224 4 (.slice a l.length cap) l.length (lN l)
 go:l++aW fr n k=aW fr n 0
 le:k<=n
 len:l.length<=k
 bel:β w w wr
def Dj(fr:Nat)(n w)(ad:fr+n<=1000) :
    κ prog 167 #[(fr:Int),(n:Int)] w λe w' =>
      ∃(a:Option Addr) (cap:Nat),e=.returned (.slice a (aW fr n 0).length cap)/\w'.ownsRow w 224 4 (.slice a (aW fr n 0).length cap) (aW fr n 0).length (lN (aW fr n 0))/\β w w w':=by
  obtain⟨U,Y,X,a3,I⟩:=info_parts Rz;have a9:χ (PartsAt w fr n [] 0 O 0 w):=⟨jaa _ _ _ _,rfl,ja7 _,ja7 _,ja0 _ _⟩;have a5:χ (∀ k,¬k<n->aW fr n k=[]):=λk d=>tY d
  have W:χ (∀ k,k<n->aW fr n k=aH fr n k::aW fr n (k+(aH fr n k).n)):=λk d=>rH d
  have M:χ (∀ k,k<n->1<=(aH fr n k).n/\(aH fr n k).f+(aH fr n k).n<=4/\k+(aH fr n k).n<=n):=λk d=>oV d
  go_enter func167,ntmps167;go_wp2;go_loopw [5,6] (λu i wr=>∃(l:List Pt) (k:Nat) (a:Option Addr) (cap:Nat),u=.slice a l.length cap/\i=.int .i64 (k:Int)/\PartsAt w fr n l k a cap wr) (λ_ i _=>n-(intOf i).toNat)
  case atStart=>exact⟨[],0,O,0,rfl,rfl,a9⟩
  case round =>
    obtain⟨l,k,a,cap,rfl,rfl,b⟩:=hrel;have aa:=b.le;have ac:=b.len;by_cases s:k<n
    . have a0:χ ((l++[aH fr n k])++aW fr n (k+(aH fr n k).n)=aW fr n 0):=by
        unfold χ;rw[<- b.go,W.out k s];simp
      have B:=ah b.own;have o:=ah b.bel;have K:χ (l.length+1<=maxLen):=by unfold χ maxLen;omega
      obtain⟨m1,m2,J⟩:=M k s
      have Z:χ (ptV (aH fr n k)=[.int .i64 (((fr:Int)+(k:Int)) / 4),.int .i64 (((fr:Int)+(k:Int)) % 4),.int .i64 (min (4-((fr:Int)+(k:Int)) % 4) ((n:Int)-(k:Int))),.int .i64 (k:Int)]):=by
        unfold χ ptV;have m:((aH fr n k).c:Int)=((fr:Int)+(k:Int)) / 4:=by show(((fr+k) / 4:Nat):Int)=_;omega
        have P:((aH fr n k).f:Int)=((fr:Int)+(k:Int)) % 4:=by show(((fr+k) % 4:Nat):Int)=_;omega
        have e3:((aH fr n k).n:Int)=min (4-((fr:Int)+(k:Int)) % 4) ((n:Int)-(k:Int)):=by show((min (4-(fr+k) % 4) (n-k):Nat):Int)=_;omega
        rw[m,P,e3];rfl
      have x:χ (min (4-((fr:Int)+(k:Int)) % 4) ((n:Int)-(k:Int))=((aH fr n k).n:Int)):=by
        unfold χ;show _=((min (4-(fr+k) % 4) (n-k):Nat):Int)
        omega
      generalize hp:aH fr n k=p at *
      have ab:(0:Int)<=(fr:Int)+(k:Int):=by omega
      have k1:IntKind.i64.wrap ((fr:Int)+(k:Int))=(fr:Int)+(k:Int):=ja9 _ (by omega);have k2:(0:Int)<=((fr:Int)+(k:Int)) % 4:=by omega
      obtain⟨C,E⟩:∃ C:Array υ,C = #[.int .i64 (((fr:Int)+(k:Int)) / 4),.int .i64 (((fr:Int)+(k:Int)) % 4),.int .i64 (min (4-((fr:Int)+(k:Int)) % 4) ((n:Int)-(k:Int))),.int .i64 (k:Int)]:=⟨_,rfl⟩;have A:χ (((wr.alloc (.cells C 224)).alloc (.cells C 224)).ownsRow w.heap.size 224 4 (.slice a l.length cap) l.length (lN l)):=(B.alloc _).alloc _;have t:χ (((wr.alloc (.cells C 224)).alloc (.cells C 224)).heap.size=wr.heap.size+2):=by unfold χ;simp
      have z:χ (w.heap.size<=((wr.alloc (.cells C 224)).alloc (.cells C 224)).heap.size):=by unfold χ;have:=o.size;rw[t.out];omega
      have V:((wr.alloc (.cells C 224)).alloc (.cells C 224)).heap[wr.heap.size+1]?=S (.cells C 224 (0,0)):=by
        have:=heap_alloc_new (wr.alloc (.cells C 224)) (.cells C 224)
        rw[show(wr.alloc (.cells C 224)).heap.size=wr.heap.size+1 by simp] at *;exact this
      have a8:χ (((wr.alloc (.cells C 224)).alloc (.cells C 224)).heap[wr.heap.size]?=S (.cells C 224 (0,0))):=by unfold χ;rw[jap _ _ _ (by simp),heap_alloc_new]
      have a6:χ (∀ j y,([.int .i64 (((fr:Int)+(k:Int)) / 4),.int .i64 (((fr:Int)+(k:Int)) % 4),.int .i64 (min (4-((fr:Int)+(k:Int)) % 4) ((n:Int)-(k:Int))),.int .i64 (k:Int)]:List υ)[j]?=S y->((wr.alloc (.cells C 224)).alloc (.cells C 224)).cell? ((⟨wr.heap.size+1,0,O⟩:Addr).add j)=S y):=by
        have:=jbM V
        rw[E] at *
        exact this
      have L:χ (β w w ((wr.alloc (.cells C 224)).alloc (.cells C 224))):=(o.alloc o.size _).alloc (by have:=o.size;simp;omega) _;have Q:χ (S wr.heap.size≠(Value.slice a l.length cap).ownBlock):=λe=>by have:=(B.lt _ e.symm).2;omega
      rw[E] at *
      go_wp2_with (at_builtin;refine wpList_append_lies _ (by rfl) _ _ 221 (by rfl) w.heap.size 224 U (.agg #[(0:Int),(0:Int),(0:Int),(0:Int)]) 4 32 underlying221 Y X a3 I rfl (by decide) (.slice a l.length cap) l.length (lN l) (by rfl) A ⟨wr.heap.size+1,0,O⟩ 1 1 [(((fr:Int)+(k:Int)) / 4:Int),(((fr:Int)+(k:Int)) % 4:Int),(min (4-((fr:Int)+(k:Int)) % 4) ((n:Int)-(k:Int)):Int),(k:Int)] (by rfl) (by rfl) a6 (λu T=>by simp at *;rcases T with rfl|rfl|rfl|rfl<;>rfl) (by decide) K (by omega) z (wr.heap.size+2) t ?_
                   intro g H q D v a2 a1;have N:χ (β w w q):=L.grown v z (λr e=>(A.lt r e).1);have R:=ah D;have F  := (v.block _ (by rw[t.out];omega) Q).trans a8;have d2:q.cell? ⟨wr,2,O⟩=S (.int .i64 (min (4-((fr:Int)+(k:Int)) % 4) ((n:Int)-(k:Int)))):=by rw[cell_of_row _ _ _ _ _ _ F];rfl
                   clear D v a2 a1 F)
      have a7:χ (PartsAt w fr n (l++[p]) (k+p.n) (S ⟨g,0,O⟩) H q):=by
        have m:(l++[p]).length=l.length+1:=by simp
        refine⟨?_,a0,J,by rw[m];omega,N⟩;rw[m,U7,Z.out];exact R
      go_roundw
      case rel =>
        exact⟨l++[p],k+p.n,S ⟨g,0,O⟩,H,by simp,by rw[x.out];go_num,a7⟩
      case measure =>
        have:=x
        simp[intOf];omega
    . have a4:k=n:=by omega
      subst a4;have G:χ (l=aW fr k 0):=by unfold χ;rw[<- b.go,a5.out k s,List.append_nil]
      go_wp2;go_ret;exact⟨a,cap,by rw[<- G.out];rfl,by rw[<- G.out];exact b.own,b.bel⟩
def LX{sp m a s n v}(c f:Int)(t:ByteArray)(w)(h:bH w sp a s m)(b:s.file n=S v)(k:m+10<1000000000)(i:t.size<=1000)(g : -9223372036854775808<=f/\f<=9223372036854775807) :
  κ prog 223 #[(a n.toNat).p,c,f,t] w (dA w sp a s (m+10) (s.upd n.toNat (v.write c f t),v.bQ c f t)):=by
 obtain⟨j,d⟩:=h.iM b;exact(Zp c f t w j.but d k (ja1 _) i g).mono λe w' hd=>dA.of h b (by omega) (d.write c f t (by omega)) hd
def Gv{sp m a s n v}(c:Int)(t:ByteArray)(w)(h:bH w sp a s m)(b:s.file n=S v)(g:m+10<1000000000) :
  κ prog 224 #[(a n.toNat).p,c,t] w (dA w sp a s (m+10) (s.upd n.toNat (v.fill c t),v.dH c t)):=by
 obtain⟨f,d⟩:=h.iM b;exact(Qr c t w f.but d g (ja1 _)).mono λe w' hd=>dA.of h b (by omega) (d.fill c t (by omega)) hd
def ES{sp m a s n v}(c:Int)(w)(h:bH w sp a s m)(b:s.file n=S v)(g:m+10<1000000000) :
  κ prog 234 #[(a n.toNat).p,c] w (dA w sp a s (m+10) (s.upd n.toNat (v.clear c),v.fF c)):=by
 obtain⟨f,d⟩:=h.iM b;exact(NQ c w f.but d g (ja1 _)).mono λe w' hd=>dA.of h b (by omega) (d.clear c (by omega)) hd
def Uw{o t f n}(b:t.size=n*16)(a:f+n<=4):fH o 0 f++t++fH o (f+n) (4-(f+n))=o.extract 0 (f*16)++t++o.extract (f*16+t.size) 64:=by
 unfold fH;rw[show 0*16=0 by omega,show 0+f=f by omega,show(f+n)*16=f*16+t.size by omega,show(f+n+(4-(f+n)))*16=64 by omega]
def Ji{sp m cap A s a C}(x r)(c f n b:Nat)(t:ByteArray)(w)(h:bH w sp A s m)(hl:Nums w a (x::r))(Z:s.good C (x::r))(h5:(x::r).length<=100)(hm:m+10<1000000000)(hp:f+n<=4)(hc:(c:Int)<C)(ht:t.size=n*16) :
  κ prog 168 #[.pointer (S ⟨sp,6,O⟩),.slice a (x::r).length cap,.agg #[(c:Int),(f:Int),(n:Int),(b:Int)],t] w (dA w sp A s (m+10) (s.lay (x::r) c f t)):=by
 obtain⟨v,z,aq⟩:=Z x jai;obtain⟨x0,x5,_⟩:=SV.eG z;obtain⟨r1,r2⟩:=SV.l9 Z h.ok (by simp) (c:=(c:Int)) ⟨by omega,hc⟩
 have X:χ (s.lay (x::r) c f t=if (v.bG c).1=2 then (s.upd x.toNat (v.write c f t),v.bQ c f t) else
   (s.upd x.toNat (v.fill c ((s.read (x::r) c).1.extract 0 (f*16)++t++(s.read (x::r) c).1.extract (f*16+t.size) 64)),v.dH c ((s.read (x::r) c).1.extract 0 (f*16)++t++(s.read (x::r) c).1.extract (f*16+t.size) 64))):=by
  unfold χ;show(match s.file x with|none=>(s,(4:Int))|some v=>_)=_;rw[z]
 have a3:=ah λW (d:β w w W)=>yN (c:Int) W ((h.below d).iM z).1
 have a2:=ah λW (d:β w w W)=>(LX (c:Int) (f:Int) t W (h.below d) z hm (by omega) (by omega)).mono λe w' hd=>hd.from d
 have a1:=ah λT W (d:β w w W)=>Gv (c:Int) T W (h.below d) z hm
 have am:χ (∀ W:ω,β w w W->κ prog 171 #[.pointer (S ⟨sp,6,O⟩),.slice a (x::r).length cap,(c:Int)] W λe w'=>e=.returned (.tuple #[.string (s.read (x::r) c).1,.nilIface])/\β W W w'):=λW d=>by
  have:=AU (cap:=cap) (x::r) (c:Int) W (h.below d) (hl.below d) Z h5
  rw[r1,aJ] at *;exact this
 have ad:χ (∀ k,w.heap.size<=k->¬fpS A s k):=λk hk hs=>by have:=h.iH hs;omega
 have a9:=ah λW (d:β w w W)=>(h.below d).kU z
 obtain⟨g,o,ha,a4⟩:=hl 0 (by simp);subst ha;have ae:w.cell? ⟨g,o,O⟩=S (x:υ):=a4;have al:g<w.heap.size:=ja2 _ _ a4;obtain⟨k,rfl⟩:∃ k:Nat,x=(k:Int):=⟨x.toNat,by omega⟩;have hk:((k:Int)).toNat=k:=by omega
 rw[hk] at a3 a2 a1 a9 X;have ax:(0:Int)<(((k:Int)::r).length:Int):=by simp
 generalize ar:((k:Int)::r).length=q at *
 generalize s.lay ((k:Int)::r) c f t=R at *
 generalize (s.read ((k:Int)::r) c).1=l at *
 generalize (v.bG c).1=y at *
 generalize (A k).p=xp at *
 obtain⟨j,E⟩:∃ j:Int->Int->ByteArray,j=λx y=>fH l x.toNat y.toNat:=⟨_,rfl⟩
 obtain⟨i,aa⟩:∃ i:Int,i=(f:Int)+(n:Int):=⟨_,rfl⟩;obtain⟨rs,a8⟩:∃ rs:Int,rs=4-i:=⟨_,rfl⟩
 have ao:χ (∀(x y:Int) (W:ω),(x=0/\y=(f:Int))\/(x=i/\y=rs)->κ prog 169 #[l,x,y] W λe w'=>e=.returned (.string (j x y))/\w'=W):=λx y W aw=>by
  have H:((x.toNat:Nat):Int)=x:=by omega
  have F:((y.toNat:Nat):Int)=y:=by omega
  have:=DN l x.toNat y.toNat W (by omega) (by omega)
  rw[H,F] at *
  rw[E];exact this
 have ab:(fH l 0 f).size=f*16:=uh (by omega);have a6:(fH l (f+n) (4-(f+n))).size=(4-(f+n))*16:=uh (by omega);have a7:j 0 (f:Int)=fH l 0 f:=by rw[E];rfl
 have ac:j i rs=fH l (f+n) (4-(f+n)):=by rw[E];show fH l i.toNat rs.toNat=_;congr 1<;>omega
 have D:=ah (Uw (o:=l) ht hp);rw[<- a7] at ab D;rw[<- ac] at a6 D;clear a7 ac E;have P:χ (β w w (w.alloc (.cells #[(c:Int),(f:Int),(n:Int),(b:Int)] 224))):=(ja0 _ _).alloc (ja1 _) _;have HX:χ ((w.alloc (.cells #[(c:Int),(f:Int),(n:Int),(b:Int)] 224)).heap[w.heap.size]?=S (.cells #[(c:Int),(f:Int),(n:Int),(b:Int)] 224 (0,0))):=heap_alloc_new _ _;go_enter func168,ntmps168;go_wp2;generalize w.alloc (.cells #[(c:Int),(f:Int),(n:Int),(b:Int)] 224)=u at *
 have d1:u.cell? ⟨g,o,O⟩=S (.int .i64 (k:Int)):=(P.cell (p:=⟨g,o,O⟩) al).trans ae;have d2:=a9 u P;have y0:u.cell? ⟨w,0,O⟩=S (.int .i64 (c:Int)):=by rw[cell_of_row _ _ _ _ _ _ HX.out];rfl
 have y1:u.cell? ⟨w,1,O⟩=S (.int .i64 (f:Int)):=by rw[cell_of_row _ _ _ _ _ _ HX.out];rfl
 have y2:u.cell? ⟨w,2,O⟩=S (.int .i64 (n:Int)):=by rw[cell_of_row _ _ _ _ _ _ HX.out];rfl
 go_region;have a0:χ (β w w u.drew):=P.drew;have e0:u.drew.cell? ⟨w,0,O⟩=S (.int .i64 (c:Int)):=y0;have H:u.drew.cell? ⟨w,1,O⟩=S (.int .i64 (f:Int)):=y1;have F:u.drew.cell? ⟨w,2,O⟩=S (.int .i64 (n:Int)):=y2;have ag:=ah (a3 _ a0);go_wp2_with fail;refine cEq ag λw1 M=>?_
 have G:=ah (a0.trans (M.mono a0.size));have z0:=(M.cell (ja2 _ _ e0)).trans e0;have z1:=(M.cell (ja2 _ _ H)).trans H;have z2:=(M.cell (ja2 _ _ F)).trans F;by_cases K:y=2
 .have g1:(y==2)=true:=by simpa using K
  have J:χ (R=(s.upd k (v.write c f t),v.bQ c f t)):=by unfold χ;rw[X.out,if_pos K]
  have ai:=ah (a2 _ G);rw[<- J.out] at *
  go_wp2_with fail;refine ai.mono ?_;rintro e w2 ⟨N,rfl,Q,B⟩;have HD:χ (dA w sp A s (m+10) R (.returned (erV R.2)) w2):=⟨N,rfl,Q,B⟩;go_wp2;go_ret;exact HD
 .have g1:(y==2)=false:=by simpa using K
  have J:χ (R=(s.upd k (v.fill c (j 0 (f:Int)++t++j i rs)),v.dH c (j 0 (f:Int)++t++j i rs))):=by unfold χ;rw[D.out,X.out,if_neg K]
  have af:=ah (am _ G);go_wp2_with fail;refine cEq af λw2 L=>?_
  have ap:=ah (G.trans (L.mono G.size));have u0:=(L.cell (ja2 _ _ z0)).trans z0;have u1:=(L.cell (ja2 _ _ z1)).trans z1;have u2:=(L.cell (ja2 _ _ z2)).trans z2;have k5:IntKind.i64.wrap ((f:Int)+(n:Int))=i:=by rw[aa];exact ja9 _ (by omega)
  have k6:IntKind.i64.wrap (4-i)=rs:=by rw[a8];exact ja9 _ (by omega)
  have V  := u0;have U  := u1;have a5:χ (β w w w2.drew):=ap.drew;generalize hA:j 0 (f:Int)=I at *
  generalize hB:j i rs=Y at *
  have k7:¬9223372036854775807<I.size+t.size:=by omega
  have k8:¬9223372036854775807<I.size+t.size+Y.size:=by omega
  have k9:¬9223372036854775807<(I++t).size+Y.size:=by rw[jaN];omega
  have an:=ah (a1 (I++t++Y) _ a5);rw[<- J.out] at *
  rw[<- hA] at *
  rw[<- hB] at *
  clear hA hB a1 D ht ab a6 r2 aa a8 J;go_wp2
  go_region_held3 (λW=>W.cell? ⟨w,0,O⟩=S (.int .i64 (c:Int))/\W.cell? ⟨w,1,O⟩=S (.int .i64 (f:Int)))
   (first|(exact⟨V,U⟩)|assumption)
   (first
     | (go_at_call 169;refine(ao _ _ _ ?_).mono ?_;(· first|exact .inl ⟨rfl,rfl⟩|exact .inr ⟨rfl,rfl⟩);rintro e w' ⟨rfl,rfl⟩)
     | (go_at_call 224;refine an.mono ?_;rintro e w4 ⟨N,rfl,Q,B⟩;have av:w4.cell? ⟨w,0,O⟩=S (.int .i64 (c:Int))/\w4.cell? ⟨w,1,O⟩=S (.int .i64 (f:Int)):=⟨(B.cell (p:=⟨w.heap.size,0,O⟩) (ja2 _ _ V) (ad _ (ja1 _))).trans V,(B.cell (p:=⟨w.heap.size,1,O⟩) (ja2 _ _ U) (ad _ (ja1 _))).trans U⟩))
  have HD:χ (dA w sp A s (m+10) R (.returned (erV R.2)) w4):=dA.from ⟨N,rfl,Q,B⟩ a5;go_wp2;go_ret;exact HD
def Ze{sp m cap l s a C}(x r)(c f n b:Nat)(w)(h:bH w sp l s m)(hl:Nums w a (x::r))(Y:s.good C (x::r))(h5:(x::r).length<=100)(hm:m+10<1000000000)(hp:f+n<=4)(hc:(c:Int)<C) :
  κ prog 184 #[.pointer (S ⟨sp,6,O⟩),.slice a (x::r).length cap,.agg #[(c:Int),(f:Int),(n:Int),(b:Int)]] w (dA w sp l s (m+10) (SV.dM (x::r) s ⟨c,f,n,b⟩)):=by
 obtain⟨v,A,ad⟩:=Y x jai;obtain⟨x0,x5,_⟩:=SV.eG A
 have H:χ (SV.dM (x::r) s ⟨c,f,n,b⟩=if n=4 then (s.upd x.toNat (v.clear c),v.fF c) else if (v.bG c).1=1 then (s,0) else s.lay (x::r) c f (fA (n*16))):=by
  unfold χ;show(match s.file x with|none=>(s,(4:Int))|some v=>_)=_;rw[A]
 have a1:=ah λW (d:β w w W)=>yN (c:Int) W ((h.below d).iM A).1
 have a4:=ah λW (d:β w w W)=>(ES (c:Int) W (h.below d) A hm).mono λe w' hd=>hd.from d
 have a3:χ (∀ W:ω,β w w W->κ prog 168 #[.pointer (S ⟨sp,6,O⟩),.slice a (x::r).length cap,.agg #[(c:Int),(f:Int),(n:Int),(b:Int)],.string (fA (n*16))] W (dA W sp l s (m+10) (s.lay (x::r) c f (fA (n*16))))):=λW d =>
  Ji x r c f n b (fA (n*16)) W (h.below d) (hl.below d) Y h5 hm hp hc (by show(List.replicate (n*16) (0:UInt8)).toArray.size=_;simp)
 have a9:=ah λW=>EW n W (by omega)
 have a5:χ (∀ W:ω,β w w W->dA w sp l s (m+10) (s,0) (.returned .nilIface) W):=λW d=>by rw[<- aJ];exact dA.same (h.more (by omega)) d
 have L:χ (∀ k,w.heap.size<=k->¬fpS l s k):=λk Z hs=>by have:=h.iH hs;omega
 have a0:=ah λW (d:β w w W)=>(h.below d).kU A
 obtain⟨g,o,ha,V⟩:=hl 0 (by simp);subst ha;have aa:w.cell? ⟨g,o,O⟩=S (x:υ):=V;have a7:g<w.heap.size:=ja2 _ _ V;obtain⟨k,rfl⟩:∃ k:Nat,x=(k:Int):=⟨x.toNat,by omega⟩;have Z:((k:Int)).toNat=k:=by omega
 rw[Z] at a1 a4 a0 H;have ac:(0:Int)<(((k:Int)::r).length:Int):=by simp
 generalize ab:((k:Int)::r).length=q at *
 generalize SV.dM ((k:Int)::r) s ⟨c,f,n,b⟩=R at *
 generalize s.lay ((k:Int)::r) c f (fA (n*16))=RL at *
 generalize fA (n*16)=NB at *
 generalize (v.bG c).1=y at *
 generalize (l k).p=xp at *
 have P:χ (β w w (w.alloc (.cells #[(c:Int),(f:Int),(n:Int),(b:Int)] 224))):=(ja0 _ _).alloc (ja1 _) _;have M:χ ((w.alloc (.cells #[(c:Int),(f:Int),(n:Int),(b:Int)] 224)).heap[w.heap.size]?=S (.cells #[(c:Int),(f:Int),(n:Int),(b:Int)] 224 (0,0))):=heap_alloc_new _ _;go_enter func184,ntmps184;go_wp2;generalize w.alloc (.cells #[(c:Int),(f:Int),(n:Int),(b:Int)] 224)=i at *
 have d1:i.cell? ⟨g,o,O⟩=S (.int .i64 (k:Int)):=(P.cell (p:=⟨g,o,O⟩) a7).trans aa;have d2:=a0 i P;have y0:i.cell? ⟨w,0,O⟩=S (.int .i64 (c:Int)):=by rw[cell_of_row _ _ _ _ _ _ M.out];rfl
 have y1:i.cell? ⟨w,1,O⟩=S (.int .i64 (f:Int)):=by rw[cell_of_row _ _ _ _ _ _ M.out];rfl
 have y2:i.cell? ⟨w,2,O⟩=S (.int .i64 (n:Int)):=by rw[cell_of_row _ _ _ _ _ _ M.out];rfl
 have y3:i.cell? ⟨w,3,O⟩=S (.int .i64 (b:Int)):=by rw[cell_of_row _ _ _ _ _ _ M.out];rfl
 go_region;have I:χ (β w w i.drew):=P.drew;have U:i.drew.cell? ⟨w,0,O⟩=S (.int .i64 (c:Int)):=y0;have X:i.drew.cell? ⟨w,1,O⟩=S (.int .i64 (f:Int)):=y1;have e2:i.drew.cell? ⟨w,2,O⟩=S (.int .i64 (n:Int)):=y2;have e3:i.drew.cell? ⟨w,3,O⟩=S (.int .i64 (b:Int)):=y3;by_cases T:n=4
 .have g1:((n:Int)==4)=true:=by simp;omega
  have E:χ (R=(s.upd k (v.clear c),v.fF c)):=by unfold χ;rw[H.out,if_pos T]
  have a8:=ah (a4 _ I);rw[<- E.out] at *
  go_wp2_with fail;refine a8.mono ?_;rintro e w2 ⟨N,rfl,Q,u⟩;have B:χ (dA w sp l s (m+10) R (.returned (erV R.2)) w2):=⟨N,rfl,Q,u⟩;go_wp2;go_ret;exact B
 .have g1:((n:Int)==4)=false:=by simp;omega
  have a6:=ah (a1 _ I);go_wp2_with fail;refine cEq a6 λD F=>?_
  have a2:=ah (I.trans (F.mono I.size));have z0:=(F.cell (ja2 _ _ U)).trans U;have z1:=(F.cell (ja2 _ _ X)).trans X;have z2:=(F.cell (ja2 _ _ e2)).trans e2;have z3:=(F.cell (ja2 _ _ e3)).trans e3;by_cases J:y=1
  .have g2:(y==1)=true:=by simpa using J
   have E:χ (R=(s,0)):=by unfold χ;rw[H.out,if_neg T,if_pos J]
   have B:=ah (a5 _ a2);rw[<- E.out] at *
   go_wp2;go_ret;exact B
  .have g2:(y==1)=false:=by simpa using J
   have E:χ (R=RL):=by unfold χ;rw[H.out,if_neg T,if_neg J]
   rw[<- E.out] at a3;have u0:D.drew.cell? ⟨w,0,O⟩=S (.int .i64 (c:Int)):=z0;have u1:D.drew.cell? ⟨w,1,O⟩=S (.int .i64 (f:Int)):=z1;have u2:D.drew.cell? ⟨w,2,O⟩=S (.int .i64 (n:Int)):=z2;have u3:D.drew.cell? ⟨w,3,O⟩=S (.int .i64 (b:Int)):=z3;have K:χ (β w w D.drew):=a2.drew;have t  := ja2 _ _ u0;go_wp2
   go_region_held3 (λW=>W.cell? ⟨w,0,O⟩=S (.int .i64 (c:Int))/\W.cell? ⟨w,1,O⟩=S (.int .i64 (f:Int))/\W.cell? ⟨w,2,O⟩=S (.int .i64 (n:Int))/\W.cell? ⟨w,3,O⟩=S (.int .i64 (b:Int)))
    (first|(exact⟨u0,u1,u2,u3⟩)|assumption)
    (first
      | (go_at_call 227;refine cEq (a9 _) λz j=>?_;have G:z.cell? ⟨w,0,O⟩=S (.int .i64 (c:Int))/\z.cell? ⟨w,1,O⟩=S (.int .i64 (f:Int))/\z.cell? ⟨w,2,O⟩=S (.int .i64 (n:Int))/\z.cell? ⟨w,3,O⟩=S (.int .i64 (b:Int)):=⟨(j.cell (p:=⟨w.heap.size,0,O⟩) t).trans u0,(j.cell (p:=⟨w.heap.size,1,O⟩) t).trans u1,(j.cell (p:=⟨w.heap.size,2,O⟩) t).trans u2,(j.cell (p:=⟨w.heap.size,3,O⟩) t).trans u3⟩)
      | (go_at_call 168;refine(a3 z (K.trans (j.mono K.size))).mono ?_;rintro e w4 ⟨N,rfl,Q,u⟩;have ae:w4.cell? ⟨w,0,O⟩=S (.int .i64 (c:Int))/\w4.cell? ⟨w,1,O⟩=S (.int .i64 (f:Int))/\w4.cell? ⟨w,2,O⟩=S (.int .i64 (n:Int))/\w4.cell? ⟨w,3,O⟩=S (.int .i64 (b:Int)):=⟨(u.cell (p:=⟨w.heap.size,0,O⟩) (ja8 t j.size) (L _ (ja1 _))).trans G.1,(u.cell (p:=⟨w.heap.size,1,O⟩) (ja8 t j.size) (L _ (ja1 _))).trans G.2.1,(u.cell (p:=⟨w.heap.size,2,O⟩) (ja8 t j.size) (L _ (ja1 _))).trans G.2.2.1,(u.cell (p:=⟨w.heap.size,3,O⟩) (ja8 t j.size) (L _ (ja1 _))).trans G.2.2.2⟩))
   have B:χ (dA w sp l s (m+10) R (.returned (erV R.2)) w4):=dA.from ⟨N,rfl,Q,u⟩ (K.trans (j.mono K.size));go_wp2;go_ret;exact B
def dropWhile_nil{p}{l:List UInt8}:l.dropWhile p=[]↔∀ x∈l,p x=true:=by
 induction l with
 | nil=>simp
 | cons x l a =>
  rw[List.dropWhile_cons];split
  .simp_all
  .simp_all
def Lr{l c}:Lib.trimB l c=[]↔∀ x∈l,x=c:=by
 unfold Lib.trimB Lib.trimLeftB Lib.trimRightB;rw[dropWhile_nil];constructor
 .intro h x a
  have d:l.reverse.dropWhile (· == c)=[]:=by
   cases hd:l.reverse.dropWhile _ with
   | nil=>rfl
   | cons y r =>
    have f:¬(y==c)=true:=by
     have:=List.head?_dropWhile_not (· == c) l.reverse
     simp_all
    simp_all
  have:=dropWhile_nil.1 d x (by simpa using a)
  simp_all
 .intro h x a
  have:x∈l:=by
   have b:x∈l.reverse.dropWhile (· == c):=by simpa using a
   simpa using ((List.dropWhile_sublist _).subset b)
  simpa using h x this
def YS{t}(b:t.size=64):((Lib.trimB t.data.toList 0).toArray.toList==[])=decide (t=fA 64):=by
 have c:t.data.toList.length=64:=by simpa using b
 by_cases h:t=fA 64
 .rw[decide_eq_true h]
  have:Lib.trimB t.data.toList 0=[]:=Lr.2 λx d=>by
   rw[h] at *
   exact jaO (show x∈List.replicate 64 (0:UInt8) from by simpa [fA,bytesOf] using d)
  rw[this];rfl
 .rw[decide_eq_false h]
  have:Lib.trimB _ 0≠[]:=λe=>h (by
   have a:=Lr.1 e;unfold fA
   rw[<- (List.eq_replicate_iff.2 ⟨c,a⟩),xU])
  simpa using this
def NY{sp m g s v}(n c:Int)(t:ByteArray)(w)(h:bH w sp g s m)(f:s.file n=S v)(I:t.size=64)(D:m+10<1000000000) :
  κ prog 244 #[.pointer (S ⟨sp,6,O⟩),n,c,t] w (dA w sp g s (m+10) (s.move n c t)):=by
 have r:=ah (uO n w h);rw[f] at r;unfold jh at *
 have q:χ (s.move n c t=if t=fA 64 then (s.upd n.toNat (v.clear c),v.fF c) else if (v.bG c).1=2 then (s.upd n.toNat (v.write c 0 t),v.bQ c 0 t) else (s.upd n.toNat (v.fill c t),v.dH c t)):=by unfold χ SV.move;rw[f]
 have B:χ (κ prog 269 #[t,.string ⟨#[0]⟩] w λe w'=>e=.returned (.string ⟨(Lib.trimB t.data.toList 0).toArray⟩)/\β w w w'):=by
  refine(Tryz.strings_Trim_one t 0 (by decide) w (by omega)).mono ?_;rintro e w' ⟨rfl,rfl|rfl⟩
  .exact⟨rfl,ja0 _ _⟩
  .exact⟨rfl,(ja0 _ _).drew⟩
 have J:=YS I;have x:=ah λW (a:β w w W)=>yN c W ((h.below a).iM f).1
 have H:=ah λW (a:β w w W)=>(ES c W (h.below a) f D).mono λe w' hd=>hd.from a
 have u:=ah λW (a:β w w W)=>(LX c 0 t W (h.below a) f D (by omega) (by decide)).mono λe w' hd=>hd.from a
 have A:=ah λW (a:β w w W)=>(Gv c t W (h.below a) f D).mono λe w' hd=>hd.from a
 generalize s.move n c t=R at *
 generalize (v.bG c).1=y at *
 generalize (g n.toNat).p=xp at *
 generalize (Lib.trimB t.data.toList 0).toArray=L at *
 have M:((⟨L⟩:ByteArray).toList==[])=decide (t=fA 64):=by
  rw[<- J];congr 1;rw[jbO]
 by_cases d:t=fA 64
 .have k:χ (R=(s.upd n.toNat (v.clear c),v.fF c)):=by unfold χ;rw[q.out,if_pos d]
  rw[decide_eq_true d] at *
  rw[<- k.out] at H;clear d q x u A;go_enter func244,ntmps244;go_wp2_with fail;refine cSt r ?_;go_wp2_with fail;refine cEq B λF K=>?_
  go_wp2_with fail;refine(H _ K).mono ?_;rintro e E ⟨i,rfl,j,l⟩;have o:χ (dA w sp g s (m+10) R (.returned (erV R.2)) E):=⟨i,rfl,j,l⟩;go_wp2;go_ret;exact o
 .rw[decide_eq_false d] at *
  by_cases G:y=2
  .have k:χ (R=(s.upd n.toNat (v.write c 0 t),v.bQ c 0 t)):=by unfold χ;rw[q.out,if_neg d,if_pos G]
   rw[<- k.out] at u;go_enter func244,ntmps244;go_wp2_with fail;refine cSt r ?_;go_wp2_with fail;refine cHd B λF b=>?_
   go_wp2_with fail;refine cEq (x _ b) λE C=>?_
   go_wp2_with fail;refine(u _ (b.trans (C.mono b.size))).mono ?_;rintro e z ⟨i,rfl,j,l⟩;have o:χ (dA w sp g s (m+10) R (.returned (erV R.2)) z):=⟨i,rfl,j,l⟩;go_wp2;go_ret;exact o
  .have k:χ (R=(s.upd n.toNat (v.fill c t),v.dH c t)):=by unfold χ;rw[q.out,if_neg d,if_neg G]
   rw[<- k.out] at A;go_enter func244,ntmps244;go_wp2_with fail;refine cSt r ?_;go_wp2_with fail;refine cHd B λF b=>?_
   go_wp2_with fail;refine cEq (x _ b) λE C=>?_
   go_wp2_with fail;refine(A _ (b.trans (C.mono b.size))).mono ?_;rintro e z ⟨i,rfl,j,l⟩;have o:χ (dA w sp g s (m+10) R (.returned (erV R.2)) z):=⟨i,rfl,j,l⟩;go_wp2;go_ret;exact o
def JU{sp m a s n v}(c f:Int)(t:ByteArray)(w)(h:bJ w sp a s m)(b:s.file n=S v)(k:m+10<1000000000)(i:t.size<=1000)(g : -9223372036854775808<=f/\f<=9223372036854775807) :
  κ prog 230 #[(a n.toNat).p,c,f,t] w (bK w sp a s (m+10) (s.upd n.toNat (v.write c f t),v.bQ c f t)):=by
 obtain⟨j,d⟩:=h.iM b;exact(Zu c f t w j.but d k (ja1 _) i g).mono λe w' hd=>bK.of h b (by omega) (d.write c f t (by omega)) hd
def Jz{sp m a s n v}(c:Int)(t:ByteArray)(w)(h:bJ w sp a s m)(b:s.file n=S v)(g:m+10<1000000000) :
  κ prog 231 #[(a n.toNat).p,c,t] w (bK w sp a s (m+10) (s.upd n.toNat (v.fill c t),v.dH c t)):=by
 obtain⟨f,d⟩:=h.iM b;exact(Qu c t w f.but d g (ja1 _)).mono λe w' hd=>bK.of h b (by omega) (d.fill c t (by omega)) hd
def Jo{sp m a s n v}(c:Int)(w)(h:bJ w sp a s m)(b:s.file n=S v)(g:m+10<1000000000) :
  κ prog 181 #[(a n.toNat).p,c] w (bK w sp a s (m+10) (s.upd n.toNat (v.clear c),v.fF c)):=by
 obtain⟨f,d⟩:=h.iM b;exact(NR c w f.but d g (ja1 _)).mono λe w' hd=>bK.of h b (by omega) (d.clear c (by omega)) hd
def rQ(f):zA f=.int .i64 f:=rfl
def JD{sp m cap d s a C}(l)(c f:Nat)(t:ByteArray)(w)(h:bJ w sp d s m)(P:Nums w a l)(K:s.good C l)(J:l≠[])(h5:l.length<=100)(X:m+10<1000000000)(hp:f*16+t.size<=64)(hc:(c:Int)<C) :
  κ prog 180 #[sp,.slice a l.length cap,(c:Int),(f:Int),t] w (bK w sp d s (m+10) (s.lay l c f t)):=by
 have a0:0<l.length:=List.length_pos_iff.2 J;obtain⟨g,o,x,v,rfl,hx,x5,L,af,ae,ao,Q,H⟩:=h.numAt P K a0;have U:((x:Int)).toNat=x:=by omega
 obtain⟨r1,r2⟩:=SV.l9 K h.ok J (c:=(c:Int)) ⟨by omega,hc⟩;have a6:v.there (c:Int)=true:=by unfold IV.there;have:=H.len;exact decide_eq_true ⟨by omega,by omega⟩
 obtain⟨g2,a9,a2,an,D,_⟩:=Q.jZ (c:=c) (by have:=H.len;omega);have V:=Q.cells.2.2.2.2.1;rw[a2] at V;have a1:(v.bG c).1=(v.t.getD c (0,0)).1:=by unfold IV.bG;rw[a6,if_pos rfl];rfl
 have I:χ (s.lay l c f t=if (v.bG c).1=2 then (s.upd x (v.write c f t),v.bQ c f t) else
   (s.upd x (v.fill c ((s.read l c).1.extract 0 (f*16)++t++(s.read l c).1.extract (f*16+t.size) 64)),v.dH c ((s.read l c).1.extract 0 (f*16)++t++(s.read l c).1.extract (f*16+t.size) 64))):=by
  unfold χ
  cases l with
  | nil=>exact absurd rfl J
  | cons y r =>
   have n:y=(x:Int):=hx;subst n;show(match s.file (x:Int) with|none=>(s,(4:Int))|some v=>_)=_
   rw[L];rfl
 have Y:χ (∀ W:ω,β w w W->κ prog 230 #[(d x).p,(c:Int),(f:Int),t] W (bK w sp d s (m+10) (s.upd x (v.write c f t),v.bQ c f t))):=λW i=>by
  have:=(JU (c:Int) (f:Int) t W (h.below i) L X (by omega) (by omega)).mono λe w' hd=>bK.from hd i
  rw[U] at this;exact this
 have aa:χ (∀(T:ByteArray) (W:ω),β w w W->κ prog 231 #[(d x).p,(c:Int),T] W (bK w sp d s (m+10) (s.upd x (v.fill c T),v.dH c T))):=λT W i=>by
  have:=(Jz (c:Int) T W (h.below i) L X).mono λe w' hd=>bK.from hd i
  rw[U] at this;exact this
 have a8:χ (∀ W:ω,β w w W->κ prog 118 #[sp,.slice (S ⟨g,o,O⟩) l.length cap,(c:Int)] W λe w'=>e=.returned (.tuple #[.string (s.read l c).1,(0:Int)])/\β W W w'):=λW i=>by
  have:=Dw (cap:=cap) l (c:Int) W (h.below i) (P.below i) K h5
  rw[r1] at this;exact this
 have ai:w.cell? ⟨g,o,O⟩=S (.int .i64 (x:Int)):=ae;have k3:(0:Int)<=(x:Int):=by omega
 have k4:(x:Int)<5:=by omega
 have q0:(0:Int)<=(c:Int):=by omega
 have q1:(c:Int)<(v.t.length:Int):=by have:=H.len;omega
 have q2:((c:Int)).toNat=c:=by omega
 have ag:(0:Int)<(l.length:Int):=by omega
 rw[<- a1] at D;generalize s.lay l c f t=R at *
 generalize (s.read l c).1=b at *
 generalize (v.bG c).1=y at D I;generalize (d x).p=xp at *
 generalize v.t.length=tl at *
 generalize l.length=q at *
 have u:χ (β w w w.drew):=(ja0 _ _).drew;have m1:w.drew.cell? ⟨xp,4,O⟩=S (.slice (S ⟨g2,0,O⟩) tl a9):=V;have m2:w.drew.cell? ⟨g2,c*2,O⟩=S (y:υ):=D;by_cases n:y=2
 .have g1:(y==2)=true:=by simpa using n
  have A:χ (R=(s.upd x (v.write c f t),v.bQ c f t)):=by unfold χ;rw[I.out,if_pos n]
  have a4:=ah (Y _ u);rw[<- A.out] at *
  go_enter func180,ntmps180;go_wp2;go_region;go_wp2_with fail;refine a4.mono ?_;rintro e M ⟨E,rfl,F,G⟩;have N:χ (bK w sp d s (m+10) R (.returned R.2) M):=⟨E,rfl,F,G⟩;rw[rQ];go_wp2;go_ret;exact N
 .have g1:(y==2)=false:=by simpa using n
  have A:χ (R=(s.upd x (v.fill c (b.extract 0 (f*16)++t++b.extract (f*16+t.size) 64)),v.dH c (b.extract 0 (f*16)++t++b.extract (f*16+t.size) 64))):=by unfold χ;rw[I.out,if_neg n]
  have Z:=ah (a8 _ u);have j1:IntKind.i64.wrap (16*(f:Int))=16*(f:Int):=ja9 _ (by omega);have j2:IntKind.i64.wrap (16*(f:Int)+(t.size:Int))=16*(f:Int)+(t.size:Int):=ja9 _ (by omega);have j3:(0:Int)<=16*(f:Int):=by omega
  have j4:16*(f:Int)<=(b.size:Int):=by omega
  have j5:(16*(f:Int)).toNat=16*f:=by omega
  have j6:(0:Int)<=16*(f:Int)+(t.size:Int):=by omega
  have j7:16*(f:Int)+(t.size:Int)<=(b.size:Int):=by omega
  have j8:(16*(f:Int)+(t.size:Int)).toNat=16*f+t.size:=by omega
  obtain⟨j,B⟩:∃ j,j=b.extract 0 (16*f):=⟨_,rfl⟩;obtain⟨k,z⟩:∃ k,k=b.extract (16*f+t.size) b.size:=⟨_,rfl⟩;have a7:j.size=16*f:=by rw[B,jaB];omega
  have a3:k.size<=64:=by rw[z,jaB];omega
  have k7:¬9223372036854775807<j.size+t.size:=by omega
  have k8:¬9223372036854775807<j.size+t.size+k.size:=by omega
  have k9:¬9223372036854775807<(j++t).size+k.size:=by rw[jaN];omega
  have al:¬9223372036854775807<min (16*f) b.size+t.size:=by omega
  have am:¬9223372036854775807<min (16*f) b.size+t.size+(b.size-(16*f+t.size)):=by omega
  have a5:χ (R=(s.upd x (v.fill c (j++t++k)),v.dH c (j++t++k))):=by
   unfold χ;rw[B,z,A.out,r2,show 16*f=f*16 by omega]
  rw[B] at *
  rw[z] at *
  clear A a7 a3 r2 B z hp;go_enter func180,ntmps180;go_wp2;go_region;go_wp2_with fail;refine cEq Z λM ad=>?_
  have ac:χ (β w w M.drew):=(u.trans (ad.mono u.size)).drew;have ab:=ah (aa (b.extract 0 (16*f)++t++b.extract (16*f+t.size) b.size) _ ac);rw[<- a5.out] at *
  go_wp2
  go_region_held3 (λ_=>True)
   (first|trivial|assumption)
   (first
     | (go_at_call 231;refine ab.mono ?_;rintro e w4 ⟨E,rfl,F,G⟩))
  have N:χ (bK w sp d s (m+10) R (.returned R.2) w4):=⟨E,rfl,F,G⟩;rw[rQ];go_wp2;go_ret;exact N
def LQ(v:IV)(c fr s):0<=v.bQ c fr s:=by
 unfold IV.bQ IV.sJ;split
 .split
  .rcases DV.rO _ _ s _ with h|h<;>rw[h]<;>decide
  .decide
 .decide
def wQ(d:DV):0<=d.aV:=by
 rcases d.oH with⟨h,_⟩|⟨h,_⟩<;>rw[h]<;>decide
def ER(v:IV)(c):0<=v.fF c:=by
 unfold IV.fF;split
 .split
  .decide
  .exact wQ _
 .decide
def Tc(v:IV)(b):0<=v.jg b:=by
 unfold IV.jg;split
 .exact wQ _
 .decide
def Gu(v:IV)(c s):0<=v.dH c s:=by
 unfold IV.dH
 repeat' split
 all_goals first
  | decide
  | exact wQ _
  | omega
  | (unfold IV.fP;rcases DV.rO _ _ s 4 with g|g<;>rw[g]<;>decide)
structure mQ(w1:ω)(sp:Nat)(xs:Nat->Qh)(s:SV)(m:Nat)(C:Int)(l:List Int)(op:SV->Pt->SV × Int)(fr n:Nat)(R:SV × Int)(k:Nat)(ys:Nat->Qh)(z:SV)(wr:ω):Prop where
 shelf:bJ wr sp ys z (m+10*k)
 good:z.good C l
 go:kC op z (aW fr n k)=R
 moved:jX xs s w1 ys z wr
 le:k<=n
def mQ.step{c wr W i sp m k fr n d g s z C l a R e}(h:mQ c sp d s m C l a fr n R k g z wr)(t:β wr wr W)(f:k<n)(v:∀(s:SV) p,s.good C l->(a s p).1.good C l)(hd:bK W sp g z (m+10*k+10) (a z (aH fr n k)) e i)(q:(a z (aH fr n k)).2=0) :
  ∃ b u,mQ c sp d s m C l a fr n R (k+(aH fr n k).n) b u i:=by
 obtain⟨b,w,o,r⟩:=hd;have j:=oV (fr:=fr) f;refine⟨b,(a z _).1,⟨o.more (by omega),v _ _ h.good,?_,h.moved.trans ((jX.of_below t).trans r),j.2.2⟩⟩;have:=h.go
 rw[rH f,qW,if_pos q] at *
 exact this
def mQ.stop{b wr W f sp m k fr n M c d s z C l a R e}(h:mQ b sp c s m C l a fr n R k d z wr)(r:β wr wr W)(t:k<n)(j:m+10*k+10<=M)(hd:bK W sp d z (m+10*k+10) (a z (aH fr n k)) e f)(o:(a z (aH fr n k)).2≠0) :
  R=a z (aH fr n k)/\bK b sp c s M R e f:=by
 have u:R=a z (aH fr n k):=by
  have:=h.go
  rw[rH t,qW,if_neg o] at *
  simp_all
 obtain⟨g,v,i,q⟩:=hd;rw[u];exact⟨rfl,g,v,i.more j,h.moved.trans ((jX.of_below r).trans q)⟩
def mQ.fin{a wr sp m k fr n M b c s z C l f R}(h:mQ a sp b s m C l f fr n R k c z wr)(g:¬k<n)(d:m+10*k<=M):bK a sp b s M R (.returned (0:Int)) wr:=by
 have i:=h.go;rw[tY g] at *
 rw[i.symm];exact⟨c,rfl,h.shelf.more d,h.moved⟩
def IC(f n k)(b:k<n):((aH f n k).c:Int)=((f:Int)+(k:Int)) / 4/\((aH f n k).f:Int)=((f:Int)+(k:Int)) % 4/\((aH f n k).n:Int)=min (4-((f:Int)+(k:Int)) % 4) ((n:Int)-(k:Int))/\(aH f n k).a=k:=by
 refine⟨?_,?_,?_,rfl⟩
 .show(((f+k) / 4:Nat):Int)=_;omega
 .show(((f+k) % 4:Nat):Int)=_;omega
 .show((min _ (n-k):Nat):Int)=_;omega
def AB{s:SV}{l fr n}(a:s.aT l fr n≠0):0<s.aT l fr n:=by
 unfold SV.aT at *
 omega
def Ia(s:SV)(l c f t):0<=(s.lay l c f t).2:=by
 unfold SV.lay;split
 .simp
 .split
  .simp
  .split
   .exact LQ _ _ _ _
   .exact Gu _ _ _
def Zg(l s p):0<=(SV.dM l s p).2:=by
 unfold SV.dM;split
 .simp
 .split
  .simp
  .split
   .exact ER _ _
   .split
    .omega
    .exact Ia _ _ _ _ _
def Wy{sp m cap C:Nat}{j s a}(l)(fr:Int)(t:ByteArray)(w)(h:bJ w sp j s m)(T:Nums w a l)(D:s.good (C:Int) l)(h5:l.length<=100)(hC:C<=40)(ha:Apart a (fpQ j s))(hm:m+3000<1000000000)(ag : -9223372036854775808<=fr/\fr<=9223372036854775807)(ht:t.size<=10000) :
  κ prog 115 #[sp,.slice a l.length cap,fr,t,false] w (bK w sp j s (m+2000) (s.put l fr t)):=by
 by_cases L:t.size % 16=0
 .have am:decide (0<(t.size:Int) % 16)=false:=decide_eq_false (by omega);obtain⟨n,hn⟩:∃ n:Nat,t.size=n*16:=⟨t.size / 16,by omega⟩;have Y:t.size / 16=n:=by omega
  have K:=ah (vC (cap:=cap) l fr (n:Int) w h T D (by omega) ag);by_cases G:s.aT l fr (n:Int)=0
  .obtain⟨B,n0,n1,n2⟩:=SV.mD D G;obtain⟨f,rfl⟩:∃ f:Nat,fr=(f:Int):=⟨fr.toNat,by omega⟩;have E:χ (s.put l (f:Int) t=kC (SV.iI l t) s (aW f n 0)):=by unfold χ SV.put;rw[if_pos L,Y,if_pos G];rfl
   rw[G] at K;generalize s.put l (f:Int) t=R at *
   have ab:χ (∀(s:SV) p,s.good (C:Int) l->(SV.iI l t s p).1.good (C:Int) l):=λs p D=>D.iI l t p
   have an:χ (∀ b:ω,β w w b->mQ b sp j s m (C:Int) l (SV.iI l t) f n R 0 j s b):=λb A=>⟨h.below A,D,E.symm,jX.refl _ _ _,ja7 _⟩
   have a9:χ (∀(b wr:ω) (u:Nat->Qh) (z:SV) (k:Nat),k<n->β w w b->mQ b sp j s m (C:Int) l (SV.iI l t) f n R k u z wr ->
     κ prog 180 #[sp,.slice a l.length cap,((aH f n k).c:Int),((aH f n k).f:Int),.string (fH t k (aH f n k).n)] wr (bK wr sp u z (m+10*k+10) (SV.iI l t z (aH f n k)))):=λb wr u z k x I r=>by
    have U:=yQ (C:=C) x (by omega:f+n<=4*C);have ad:Nums wr a l:=(T.below I).moved r.moved.toMoved (λg o e=>ha g o e);have a7:(fH t k (aH f n k).n).size=(aH f n k).n*16:=uh (by have:=(oV (fr:=f) x).2.2;omega);exact JD l (aH f n k).c (aH f n k).f (fH t k (aH f n k).n) wr r.shelf ad r.good B h5 (by omega) (by rw[a7];have:=U.n4;omega) (by have:=U.c;omega)
   have a5:=ah λk (x:k<n)=>IC f n k x
   have a1:χ (∀ k,k<n->1<=(aH f n k).n/\(aH f n k).f+(aH f n k).n<=4/\k+(aH f n k).n<=n):=λk x=>oV x
   have X:=ah λb w' R e (A:β w w b) (hd:bK b sp j s (m+2000) R e w')=>bK.from hd A
   generalize hq:l.length=q at *
   go_enter func115,ntmps115;go_wp2_with fail;refine cEq K λb I=>?_
   have P:=ah I;have a3:=ah (an b I);go_wp2;go_loopw [13] (λi wr=>∃(k:Nat) (u:Nat->Qh) (z:SV),i=.int .i64 (k:Int)/\mQ b sp j s m (C:Int) l (SV.iI l t) f n R k u z wr) (λi _=>n-(intOf i).toNat)
   case atStart=>exact⟨0,j,s,rfl,a3⟩
   case round =>
    obtain⟨k,u,z,rfl,r⟩:=hrel;have ao:=r.le;by_cases v:k<n
    .have J:=ah (a9 b wr u z k v P r);obtain⟨i1,i2,i3,_⟩:=a5 k v;obtain⟨p1,p2,p3⟩:=a1 k v;rw[i1,i2] at *
     have Q:=ah i3;have V:=ah λe y (hd:bK wr sp u z (m+10*k+10) (SV.iI l t z (aH f n k)) e y) (B:(SV.iI l t z (aH f n k)).2=0)=>r.step (ja0 _ _) v ab hd B
     have a8:χ (∀ e y,bK wr sp u z (m+10*k+10) (SV.iI l t z (aH f n k)) e y->(SV.iI l t z (aH f n k)).2≠0->R=SV.iI l t z (aH f n k)/\bK b sp j s (m+2000) R e y):=λe y hd B=>r.stop (ja0 _ _) v (by omega) hd B
     have aa:χ (0<=(SV.iI l t z (aH f n k)).2):=Ia _ _ _ _ _;generalize SV.iI l t z (aH f n k)=Z at *
     generalize aE:(aH f n k).n=d at J V Q p1 p2 p3;have ar:(0:Int)<=(f:Int)+(k:Int):=by omega
     have k1:IntKind.i64.wrap ((f:Int)+(k:Int))=(f:Int)+(k:Int):=ja9 _ (by omega);have k4:min (4-((f:Int)+(k:Int)) % 4) ((n:Int)-(k:Int))=(d:Int):=Q.symm;have k5:IntKind.i64.wrap (16*(k:Int))=16*(k:Int):=ja9 _ (by omega);have k6:IntKind.i64.wrap ((k:Int)+(d:Int))=(k:Int)+(d:Int):=ja9 _ (by omega);have k7:IntKind.i64.wrap (16*((k:Int)+(d:Int)))=16*((k:Int)+(d:Int)):=ja9 _ (by omega);have k8:(0:Int)<=16*(k:Int):=by omega
     have av:(16*(k:Int)).toNat=16*k:=by omega
     have aD:(16*((k:Int)+(d:Int))).toNat=16*(k+d):=by omega
     have aw:(k:Int)<=(k:Int)+(d:Int):=by omega
     have a4:fH t k d=t.extract (16*k) (16*(k+d)):=by unfold fH;rw[show k*16=16*k by omega,show(k+d)*16=16*(k+d) by omega]
     rw[a4] at J;go_wp2_with fail;refine J.mono ?_;rintro e y hd;have a0:=hd;obtain⟨aq,rfl,_⟩:=a0;rw[rQ];by_cases N:Z.2=0
     .obtain⟨af,z2,a6⟩:=V _ _ hd N;have ac:=ah a6;rw[N];go_wp2;go_roundw
      case rel =>
       exact⟨k+d,af,z2,by go_num,ac⟩
      case measure=>simp[intOf];omega
     .obtain⟨ax,al⟩:=a8 _ _ hd N;have ae:=ah (X _ _ _ _ P al);have ap:0<Z.2:=by have:=aa.out;omega
      generalize Z.2=fz at *
      go_wp2;go_ret;exact ae
    .have H:=ah (X _ _ _ _ P (r.fin v (M:=m+2000) (by omega)));go_wp2;go_ret;exact H
  .have E:χ (s.put l fr t=(s,s.aT l fr (n:Int))):=by unfold χ SV.put;rw[if_pos L,Y,if_neg G]
   have a2:χ (∀ W:ω,β w w W->bK w sp j s (m+2000) (s,s.aT l fr (n:Int)) (.returned (s.aT l fr (n:Int))) W):=λW A=>bK.same (h.more (by omega)) A
   have az:=AB G;rw[E.out];generalize s.aT l fr (n:Int)=F at *
   generalize l.length=q at *
   go_enter func115,ntmps115;go_wp2_with fail;refine cEq K λwA ai=>?_
   have H:=ah (a2 _ ai);go_wp2;go_ret;exact H
 .have am:decide (0<(t.size:Int) % 16)=true:=decide_eq_true (by omega);have E:χ (s.put l fr t=(s,1)):=by unfold χ SV.put;rw[if_neg L]
  have H:χ (bK w sp j s (m+2000) (s,1) (.returned (1:Int)) w):=bK.same (h.more (by omega)) (ja0 _ _);rw[E.out];generalize l.length=q;go_enter func115,ntmps115;go_wp2;go_ret;exact H
def Few(x:Int):Prop:=0<=x/\x<=12
def qA(d:DV):Few d.aV:=by unfold Few DV.aV;omega
def Gh(d:DV)(q s n):Few (d.puts q s n).2:=by rcases DV.rO d q s n with h|h<;>rw[h]<;>(unfold Few;decide)
def gV{n}(h:decide (0<=n/\n<=12)=true):Few n:=(of_decide_eq_true h:0<=n/\n<=12)
def F8(v:IV)(c fr s):Few (v.bQ c fr s):=by
 unfold IV.bQ
 repeat' split
 all_goals first|exact gV rfl|exact Gh _ _ _ _
def F6(v:IV)(c):Few (v.fF c):=by
 unfold IV.fF
 repeat' split
 all_goals first|exact gV rfl|exact qA _
def F7(v:IV)(c s):Few (v.dH c s):=by
 unfold IV.dH
 repeat' split
 all_goals first|exact gV rfl|exact qA _|exact Gh _ _ _ _
def Qc(v:IV)(b):Few (v.jg b):=by
 unfold IV.jg
 repeat' split
 all_goals first|exact gV rfl|exact qA _
def F9(s:SV)(l c f t):Few (s.lay l c f t).2:=by
 unfold SV.lay
 repeat' split
 all_goals first|exact gV rfl|exact F8 _ _ _ _|exact F7 _ _ _
def Qm(l s p):Few (SV.dM l s p).2:=by
 unfold SV.dM
 repeat' split
 all_goals first|exact gV rfl|exact F6 _ _|exact F9 _ _ _ _ _
theorem Bh{a}(b:∀(s:SV) p,Few (a s p).2):∀P s,Few (kC a s P).2
 | [],s=>gV rfl
 | p::r,s=>by
  rw[qW];split
  .exact Bh b r _
  .exact b _ _
def yE(s:SV)(l fr n):Few (s.aT l fr n):=by
 unfold SV.aT
 repeat' split
 all_goals exact gV rfl
def Bj(s:SV)(r):Few (s.walk r).2:=by have:=(s.walk_good r).2.2;exact⟨this.1,by omega⟩
def Qe(s n b):Few (dO s n b).2:=by
 unfold dO;split
 .exact gV rfl
 .exact Qc _ _
def Qg(s:SV)(n c t):Few (s.move n c t).2:=by
 unfold SV.move
 repeat' split
 all_goals first|exact gV rfl|exact F6 _ _|exact F8 _ _ _ _|exact F7 _ _ _
def Qd(d:KV):Few d.fault:=by
 unfold KV.fault
 repeat' split
 all_goals exact gV rfl
def Qi(s d):Few (newF s d):=by
 unfold newF
 repeat' split
 all_goals first|exact gV rfl|exact Bj _ _|(unfold kP oK;repeat' split)
 all_goals exact gV rfl
theorem Gi(d:DV)(t):∀ k,Few (d.dI t k).2
 | 0=>gV rfl
 | k+1=>by
  unfold DV.dI;split
  .exact qA _
  .exact Gi d t k
def Qb(d h):Few (crF d h):=by
 unfold crF
 repeat' split
 all_goals first|exact gV rfl|exact qA _|exact Gi _ _ _
def Gs(y:YV)(fr t):Few (y.bQ fr t):=by
 unfold YV.bQ SV.put
 repeat' split
 all_goals first|exact gV rfl|omega|exact Bh (λs p=>F9 _ _ _ _ _) _ _
def Gq(y:YV)(fr n):Few (y.lU fr n):=by
 unfold YV.lU SV.wipe
 repeat' split
 all_goals first|exact gV rfl|omega|exact Bh (λs p=>Qm _ _ _) _ _
def Bf(y:YV)(f b):Few (y.dP f b):=by
 unfold YV.dP
 repeat' split
 all_goals first|exact gV rfl|exact Qb _ _
def Gl(y:YV)(f):Few (y.iU f):=by
 unfold YV.iU
 repeat' split
 all_goals first|exact gV rfl|exact qA _|exact Bf _ _ _
def Gm(y:YV)(d):Few (y.iE d):=by
 unfold YV.iE YV.lu
 repeat' split
 all_goals first|exact gV rfl|exact qA _|exact Qi _ _|exact Qd _
def Gj(s j):Few (dF s j):=by
 unfold dF
 repeat' split
 all_goals first|exact gV rfl|exact Qe _ _ _|exact Bj _ _
def Qk(s j):Few (Go.Proofs.YtbohmhacdgckgaaGreatDoor.bF s j):=by
 unfold Go.Proofs.YtbohmhacdgckgaaGreatDoor.bF JV.moved
 repeat' split
 all_goals first|exact gV rfl|exact Qg _ _ _ _
def Gn(y:YV):Few y.bF:=by
 unfold YV.bF
 repeat' split
 all_goals first|exact gV rfl|exact Qk _ _|exact Gj _ _
def Gg(y:YV):Few y.jK:=by
 unfold YV.jK
 repeat' split
 all_goals first|exact gV rfl|exact Gj _ _|exact qA _
def FZ(y:YV):Few y.nM:=by
 unfold YV.nM;split
 .exact qA _
 .exact gV rfl
def yF(y:YV)(a):Few (y.fD a):=by
 unfold YV.fD fD
 repeat' split
 all_goals exact gV rfl
def Gp(n):Few (YV.nX n):=by unfold YV.nX;split<;>exact gV rfl
def FY(f n):Few (YV.jF f n):=by unfold YV.jF;split<;>exact gV rfl
def Gf(d t):Few (jJ d t):=by
 unfold jJ Go.Proofs.YtbohmhacdgckgaaGreatDoor.aN cZ
 repeat' split
 all_goals first|exact gV rfl|exact Bj _ _
def qN(t e:TypeId)(z:υ)(b:Nat):Prop:=prog.underlying t=S (.slice e)/\(prog.info? e).map (λi=>(i.zero,i.size,i.bytes))=S (S z,1,b)/\z.cells.size=1/\b<=24
def vS:qN 44 9 (.string ⟨#[]⟩) 16:=⟨underlying44,by kernel_rfl,rfl,by omega⟩
def Aj:qN 88 3 (.int .i64 0) 8:=⟨underlying88,by kernel_rfl,rfl,by omega⟩
def Eu:qN 34 4 (.bool false) 1:=⟨underlying34,by kernel_rfl,rfl,by omega⟩
def Et:qN 37 34 (.slice O 0 0) 24:=⟨underlying37,by kernel_rfl,rfl,by omega⟩
def app1{t e z b}(I:qN t e z b){l m o a Q}(q:o.guard=O)(s x)
  (G:o.op=.call {callee:=.builtin .append,args := #[s,x],argTypes := #[t,t]}) (B) (w:ω) (v) (n) (c) (u) (K:a.eval s=v) (L:a.eval x=.slice (S ⟨w,0,O⟩) 1 1)
  (j:w.ownsRow B e 1 v n c) (M:u.oneCell'=true) (R:n<1000000) (f:B<=w)
  (k:∀ g cap w',w'.ownsRow B e 1 (.slice (S ⟨g,0,O⟩) (n+1) cap) (n+1) (c++[u])->β B w w'->wpList prog l Q m (a.put o.dst (.slice (S ⟨g,0,O⟩) (n+1) cap)) w') :
  wpList prog l Q (o::m) a (w.alloc (.cells #[u] e)):=by
 obtain⟨C,d,H,D⟩:=I;obtain⟨i,d,A,E,F⟩:=info_parts d;refine wpList_append_lies _ q s x t G B e i z 1 b C d A E F H (by decide) v n c K (j.alloc _) _ 1 1 [u] L rfl (cell_one_new _ _ _) (λN P=>by simp_all) (by decide) (by unfold maxLen;omega) (ja4 (Nat.mul_le_mul_left _ D) (by omega)) (ja4 f (by simp)) (w.heap.size+1) (by simp) ?_;intro g cap w' y J _ _;exact k g cap w' y (((ja0 _ _).alloc f _).grown J (ja4 f (by simp)) λr e=>(j.lt r e).1)
def jM:List UInt8->List UInt8->List (List UInt8)
 | c,[]=>[c]
 | c,b::r=>if b=32 then c::jM [] r else jM (c++[b]) r
def aG(l:List UInt8):List (List UInt8):=jM [] l
theorem LK:∀p c,(∀ x∈p,x≠32)->jM c p=[c++p]
 | [],c,_=>by simp[jM]
 | b::r,c,h=>by
  rw[jM,if_neg (h b (by simp)),LK r _ λx a=>h x (by simp[a])];simp
theorem LJ:∀p c r,(∀ x∈p,x≠32)->jM c (p++32::r)=(c++p)::aG r
 | [],c,r,_=>by simp[jM,aG]
 | b::q,c,r,h=>by
  rw[jaU,jM,if_neg (h b (by simp)),LJ q _ r λx a=>h x (by simp[a])];simp
def uw(l):aG l≠[]:=by
 unfold aG;generalize ([]:List _)=c
 induction l generalizing c with
 | nil=>simp[jM]
 | cons b r a=>unfold jM;split;simp;exact a _
theorem KO:∀k s,s.count 32=k->Lib.splitK [32] 0 k s=aG s
 | 0,s,h=>by
  rw[aG,LK s [] λx b e=>by have:=List.count_pos_iff.2 (e▸b);omega];rfl
 | k+1,s,h=>by
  have c:(32:UInt8)∈s:=List.count_pos_iff.1 (by omega);obtain⟨p,r,rfl,a⟩:=List.eq_append_cons_of_mem c;have a:∀ x∈p,x≠32:=λx b e=>a (e▸b)
  have d:r.count 32=k:=by
   rw[List.count_append,List.count_cons_self,List.count_eq_zero.2 (λe=>a 32 e rfl)] at h;omega
  have f:Lib.index (p++32::r) [32]=(p.length:Int):=by
   refine Lib.index_first (by simp) ?_ λj g=>?_
   .simp[Lib.occAt]
   .simp only[Lib.occAt];rw[List.drop_append_of_le_length (by omega)]
    cases hd:p.drop j with
    | nil=>have:=congrArg List.length hd;simp at this;omega
    | cons x t =>
     have b:x∈p:=jbm (hd▸jai);simp only[jaU,List.isPrefixOf,Bool.and_eq_false_iff];exact .inl (beq_eq_false_iff_ne.2 λe=>a x b e.symm)
  rw[aG,LJ p [] r a];unfold Lib.splitK;rw[f,if_neg (by simp)];simp[KO k r d]
def dK(s:List UInt8):Option Int:=match Lib.atoiAll s with
 | .ok n=>if -1<=n/\n<=999999/\Lib.itoa n=s then S n else O
 | _=>O
def IZ{s n}(h:dK s=S n) : -1<=n/\n<=999999/\Lib.itoa n=s:=by
 unfold dK at h;split at h
 .split at h
  .simp_all
  .cases h
 .cases h
theorem AX:∀k u,u<10 ^ (k+1)->(Lib.decDigits u).length<=k+1
 | 0,u,h=>by rw[Lib.decDigits_one (by omega)];simp
 | k+1,u,h=>by
  rw[Lib.decDigits];split
  .simp
  .have:=AX k (u / 10) (by rw[jbX] at h;omega)
   simp;omega
def FI{d}(h:d<10):Lib.digitVal (UInt8.ofNat (48+d))=S d:=by
 have e:(UInt8.ofNat (48+d)).toNat=48+d:=by simp;omega
 unfold Lib.digitVal;rw[e,if_pos (by omega)];congr 1;omega
theorem Fj:∀l a n d b,Lib.decFrom a l=S n->Lib.digitVal b=S d->Lib.decFrom a (l++[b])=S (n*10+d)
 | [],a,n,d,b,h,hb=>by cases h;simp[Lib.decFrom,hb]
 | x::r,a,n,d,b,h,hb=>by
  unfold Lib.decFrom at h;rw[jaU,Lib.decFrom]
  cases c:Lib.digitVal x with
  | none=>rw[c] at h;cases h
  | some v=>rw[c] at h;exact Fj r _ n d b h hb
def OG(u):Lib.decFrom 0 (Lib.decDigits u)=S u:=by
 induction u using Nat.strongRecOn with
 | _ u ih =>
  rw[Lib.decDigits];split
  .rw[Lib.decFrom,FI (by assumption:u<10)];simp[Lib.decFrom]
  .rw[Fj _ 0 _ _ _ (ih _ (by omega)) (FI (by omega))];congr 1;omega
theorem decFrom_lt:∀l a n,Lib.decFrom a l=S n->n<(a+1)*10 ^ l.length
 | [],a,n,h=>by cases h;simp
 | x::r,a,n,h=>by
  unfold Lib.decFrom at h
  cases b:Lib.digitVal x with
  | none=>rw[b] at h;cases h
  | some v =>
   rw[b] at h;have c:=decFrom_lt r _ n h;have d:v<=9:=by unfold Lib.digitVal at b;split at b;(cases b;omega);cases b
   rw[jau,jbX];have:(a*10+v+1)*10 ^ r.length<=((a+1)*10)*10 ^ r.length:=Nat.mul_le_mul_right _ (by omega)
   have e:(a+1)*(10 ^ r.length*10)=((a+1)*10)*10 ^ r.length:=by rw[jbv (10 ^ r.length) 10,jb9]
   omega
def Un:dK [45,49]=S (-1):=by kernel_rfl
def Ul{s n}(c:s.length<=6)(h:Lib.decFrom 0 s=S n):dK s=if Lib.itoa n=s then S (n:Int) else none:=by
 cases s with
 | nil =>
  cases h;rw[if_neg]
  .rfl
  .rw[Lib.itoa_nonneg,Lib.decDigits_one (by omega)];simp
 | cons b r =>
  have g:=decFrom_lt _ _ _ h;have d:10 ^ (b::r).length<=10 ^ 6:=jbH (by omega) c
  have f:b≠45/\b≠43:=by
   unfold Lib.decFrom at h;constructor<;>(rintro rfl;simp[Lib.digitVal] at h)
  have a:Lib.atoiAll (b::r)=.ok (n:Int):=by
   rw[Lib.atoiAll_short _ (by omega)];show Lib.NumEnd.ofOption (if (b==45)=true then (Lib.decNat r).map λ(m:Nat) => -(m:Int) else if (b==43)=true then (Lib.decNat r).map λ(m:Nat)=>(m:Int) else (if (b::r).isEmpty=true then O else Lib.decFrom 0 _).map λ(m:Nat)=>(m:Int))=_
   rw[if_neg (by simp_all),if_neg (by simp_all),if_neg (by simp),h];rfl
  unfold dK;rw[a];show(if -1<=(n:Int)/\(n:Int)<=999999/\Lib.itoa n=b::r then S (n:Int) else O)=_
  by_cases e:Lib.itoa n=b::r
  .rw[if_pos e,if_pos ⟨by omega,by omega,e⟩]
  .simp_all
def I4{s}(d:6<s.length\/Lib.decFrom 0 s=O)(f:s≠[45,49]):dK s=none:=by
 cases h:dK s with
 | none=>rfl
 | some n =>
  obtain⟨a,b,c⟩:=IZ h
  exfalso
  by_cases e:n = -1
  .subst e;exact f (c.symm.trans (by kernel_rfl))
  .unfold Lib.itoa at c;rw[if_neg (by omega)] at c;rw[<- c] at d;rcases d with d|d
   .have:=AX 5 n.toNat (by omega)
    omega
   .rw[OG] at d;cases d
def EX(b c)(w:ω)(a:c=(b.toNat:Int)):(convert 185 9 (.slice (S ⟨w,0,O⟩) 1 1)).run prog (w.alloc (.cells #[.int .u8 c] 5))=.ok (.string (bytesOf [b])) (w.alloc (.cells #[.int .u8 c] 5)):=by
 subst a;refine vT 1 1 rfl λj v h=>?_
 cases j with
 | zero=>cases h;simp_all
 | succ j=>simp[bM] at h
def qo(a l):bytesOf a++bytesOf l=bytesOf (a++l):=by
 apply jb8;simp[bytesOf]
def Fq(u:Nat)(w)(x:u<=1000000000) :
  κ prog 161 #[(u:Int)] w λe w'=>e=.returned (.string (bytesOf (Lib.decDigits u)))/\β w w w':=by
 have z:decide ((u:Int)<0)=false:=decide_eq_false (by omega);go_enter func161,ntmps161;go_wp2;go_loopw [0,3,5] (λn s _ wr=>∃(v:Nat) (l:List UInt8),v<=u/\n=.int .i64 (v:Int)/\s=.string (bytesOf l)/\Lib.decDigits u=Lib.decDigits v++l/\β w w wr) (λn _ _ _=>(intOf n).toNat)
 case atStart=>exact⟨u,[],ja1 _,rfl,rfl,by simp,ja0 _ _⟩
 case round =>
  obtain⟨v,l,y,rfl,rfl,hd,a⟩:=hrel;rw[Lib.decDigits.eq_def v] at hd;have g:=ah (a.alloc a.size (.cells #[.int .u8 (48+(v:Int) % 10)] 5));have m:=EX (UInt8.ofNat (48+v % 10)) (48+(v:Int) % 10) wr (by simp;omega);have g1:decide ((v:Int) % 10<0)=false:=decide_eq_false (by omega);have g2:(0:Int)<=(v:Int) % 10:=by omega
  have A:l.length<=10:=by
   have j:=congrArg List.length hd;have:=AX 9 u (by omega)
   rw[jah] at j;omega
  obtain⟨S,c,r⟩:∃ S,S=bytesOf [UInt8.ofNat (48+v % 10)]/\S.size=1:=⟨_,rfl,rfl⟩;obtain⟨L,d,o⟩:∃ L,L=bytesOf l/\L.size=l.length:=⟨_,rfl,rfl⟩;have f:χ (S++L=bytesOf ([UInt8.ofNat (48+v % 10)]++l)):=by rw[c,d];exact qo _ _
  have t:¬9223372036854775807<S.size+L.size:=by omega
  rw[<- d];rw[<- c] at m;clear a c d r o;by_cases b:v<10
  .rw[dif_pos b] at hd;have k:χ (Lib.decDigits u=[UInt8.ofNat (48+v % 10)]++l):=by unfold χ;rw[hd,jbY b]
   have q:(v:Int) / 10=0:=by omega
   have i:χ ((⟨#[]⟩:ByteArray)++(S++L)=S++L):=jb8 (by simp);go_wp2;go_ret;exact⟨by rw[k.out,i.out,f.out];rfl,g.out⟩
  .rw[dif_neg b,jaR] at hd;have q:((v:Int) / 10==0)=false:=by simpa using (by omega:¬(v:Int) / 10=0)
   go_wp2;go_roundw
   case rel=>exact⟨v / 10,_,by omega,by go_num,by rw[f.out],hd,g.out⟩
   case measure=>simp[intOf];omega
def OH(w):κ prog 161 #[(-1:Int)] w λe w'=>e=.returned (.string (bytesOf [45,49]))/\β w w w':=by
 have b:=EX 49 49 w rfl;have a:=ah ((ja0 w.heap.size w).alloc (ja1 _) (.cells #[.int .u8 49] 5));go_enter func161,ntmps161;go_wp2;go_loopw [0,3,5] (λn s _ wr=>n=.int .i64 (-1)/\s=.string _/\wr=w) (λ_ _ _ _=>0)
 case atStart=>exact⟨rfl,rfl,rfl⟩
 case round =>
  obtain⟨rfl,rfl,rfl⟩:=hrel;go_wp2;go_ret;exact⟨rfl,a.out⟩
def Fp(n:Int)(w)(b : -1<=n)(a:n<=1000000000) :
  κ prog 161 #[n] w λe w'=>e=.returned (.string (bytesOf (Lib.itoa n)))/\β w w w':=by
 by_cases h:n = -1
 .subst h;rw[show Lib.itoa (-1)=[45,49] by kernel_rfl];exact OH w
 .obtain⟨u,rfl⟩:∃ u:Nat,n=u:=⟨n.toNat,by omega⟩;exact Fq u w (by omega)
def iL(f:Int):List UInt8:=[101,114,114,111,114,32]++Lib.itoa f
def fO(f:Int):List UInt8:=if 0<f then iL f else [111,107]
def qy(f:Int)(w)(g : -1<=f)(j:f<=1000000000) :
  κ prog 88 #[f] w λe w'=>e=.returned (.string (bytesOf (iL f)))/\β w w w':=by
 have d:=jbb f (by omega) (by omega);obtain⟨L,a,k⟩:∃ L,L=bytesOf (Lib.itoa f)/\L.size=(Lib.itoa f).length:=⟨_,rfl,rfl⟩;have b:=ah (Fp f w g j);have c:χ (bytesOf [101,114,114,111,114,32]++L=bytesOf (iL f)):=by rw[a];exact qo _ _
 have l:¬9223372036854775807<6+L.size:=by omega
 rw[<- a] at b;unfold bytesOf at c;clear a d k;go_enter func88,ntmps88;go_wp2_with fail;refine cHd b.out λW i=>?_
 go_wp2;go_ret;exact⟨by rw[c.out];rfl,i.out⟩
def oU(f:Int)(w)(b:f<=1000000000) :
  κ prog 163 #[f] w λe w'=>e=.returned (.string (bytesOf (fO f)))/\β w w w':=by
 by_cases h:0<f
 .unfold fO;go_enter func163,ntmps163;go_wp2_with fail;refine cHd (qy f w (by omega) b) λW a=>?_
  go_wp2;go_ret;exact⟨rfl,a.out⟩
 .unfold fO;go_enter func163,ntmps163;go_wp2;go_ret;exact⟨rfl,ja0 _ _⟩
def fU(l:List (List UInt8)):List Value:=l.map λx=>.string (bytesOf x)
def xB(d c):fU (d++[c])=fU d++[.string (bytesOf c)]:=by simp[fU]
def bytes_at{l S k}(c:S=bytesOf l)(a:k<S.size):∃ b,l[k]?=some b/\S[k]=b:=by
 subst c;have h:k<l.length:=a;exact⟨l[k],ja5 h,by simp[bytesOf,ByteArray.getElem_eq_getElem_data]⟩
def Zk(l w)(M:l.length<=1000) :
  κ prog 86 #[.string (bytesOf l)] w λe w'=>∃a cap,e=.returned (.slice a (aG l).length cap)/\w'.ownsRow w 9 1 (.slice a (aG l).length cap) (aG l).length (fU (aG l))/\β w w w':=by
 obtain⟨S,y,K⟩:∃ S,χ (S=bytesOf l)/\S.size=l.length:=⟨_,rfl,rfl⟩;rw[<- y.out];have A:χ (∀ a b,S.extract a b=bytesOf ((l.drop a).take (b-a))):=λa b=>by rw[y.out,Lib.extract_eq];rfl
 generalize L:l.length=n at M K;go_enter func86,ntmps86;go_wp2;go_loopw [3,4,5] (λu f i wr=>∃(k fr:Nat) (a:Option Addr) (cap:Nat) (d:List (List UInt8)),k<=n+1/\i=.int .i64 (k:Int)/\f=.int .i64 (fr:Int)/\u=.slice a d.length cap/\d.length<=k/\fr<=k/\wr.ownsRow w.heap.size 9 1 (.slice a d.length cap) d.length (fU d)/\β w w wr/\(if k<=n then d++jM ((l.drop fr).take (k-fr)) (l.drop k) else d)=aG l) (λ_ _ i _=>n+1-(intOf i).toNat)
 case atStart=>exact⟨0,0,O,0,[],by omega,rfl,rfl,rfl,by simp,ja1 _,jaa _ _ _ _,ja0 _ _,by simp[aG]⟩
 case round =>
  obtain⟨k,fr,a,cap,d,Q,rfl,rfl,rfl,R,P,q,m,hd⟩:=hrel;by_cases B:k<=n
  .rw[if_pos B] at hd;have J:(k:Int)<=(n:Int):=by omega
   have r:=ah q;have o:=ah m;have C:=ah m.size;by_cases F:k=n
   .subst F;rw[List.drop_eq_nil_of_le (Nat.le_of_eq L),jM] at hd;go_wp2_with (at_builtin;refine app1 vS (by rfl) _ _ (by rfl) w.heap.size wr _ _ _ _ (by rfl) (by rfl) r.out rfl (by omega) C.out λg t H c x=>?_)
    rw[(A.out fr k),<- xB] at c;go_wp2;go_roundw
    case rel=>exact⟨k+1,k+1,some ⟨g,0,O⟩,t,d++[(l.drop fr).take (k-fr)],by omega,by go_num,by go_num,by simp,by simp;omega,ja1 _,by simpa using c,(o.out.trans (x.mono (ja1 _))),by rw[if_neg (by omega)];exact hd⟩
    case measure=>simp[intOf];try omega
   .have N:((k:Int)==(n:Int))=false:=by simpa using (by omega:¬(k:Int)=n)
    have T:k<n:=by omega
    obtain⟨b,z,v⟩:=bytes_at y.out (show k<S.size by omega);obtain⟨G,D⟩:=List.getElem?_eq_some_iff.1 z;rw[List.drop_eq_getElem_cons G,D] at hd
    have E:(l.drop fr).take (k+1-fr)=(l.drop fr).take (k-fr)++[b]:=by
     rw[show k+1-fr=k-fr+1 by omega,jaC,List.getElem?_drop,show fr+(k-fr)=k by omega,z];rfl
    by_cases j:b=32
    .have I:(((S[k]'(by omega)).toNat:Int)==32)=true:=by rw[v,j];rfl
     rw[jM,if_pos j] at hd;have s:χ (d++[(l.drop fr).take (k-fr)]++jM [] (l.drop (k+1))=aG l):=by unfold χ;rw[<- hd];simp
     go_wp2_with (at_builtin;refine app1 vS (by rfl) _ _ (by rfl) w.heap.size wr _ _ _ _ (by rfl) (by rfl) r.out rfl (by omega) C.out λg t H c x=>?_)
     rw[(A.out fr k),<- xB] at c;go_wp2;go_roundw
     case rel=>exact⟨k+1,k+1,some ⟨g,0,O⟩,t,d++[(l.drop fr).take (k-fr)],by omega,by go_num,by go_num,by simp,by simp;omega,ja1 _,by simpa using c,(o.out.trans (x.mono (ja1 _))),by rw[if_pos (by omega),Nat.sub_self];exact s.out⟩
     case measure=>simp[intOf];try omega
    .have I:(((S[k]'(by omega)).toNat:Int)==32)=false:=by
      rw[v]
      simpa using λe:(b.toNat:Int)=32=>j (UInt8.toNat_inj.1 (by show b.toNat=32;omega))
     rw[jM,if_neg j,<- E] at hd;have s:=ah hd;clear hd q m A z v D E j;go_wp2;go_roundw
     case rel=>exact⟨k+1,fr,a,cap,d,by omega,by go_num,rfl,rfl,by omega,by omega,r.out,o.out,by rw[if_pos (by omega)];exact s.out⟩
     case measure=>simp[intOf];try omega
  .rw[if_neg B] at hd;subst hd;have J:¬(k:Int)<=(n:Int):=by omega
   go_wp2;go_ret;exact⟨a,cap,rfl,q,m⟩
def dV(l):(bytesOf l).toList=l:=by rw[Lib.toList_data];rfl
def OV{b}(a:48<=b.toNat)(c:b.toNat<=57):Lib.digitVal b=S (b.toNat-48):=by unfold Lib.digitVal;simp_all
theorem decFrom_none:∀l (k a:Nat) b,l[k]?=S b->Lib.digitVal b=O->Lib.decFrom a l=O
 | [],k,a,b,h,_=>by simp at h
 | x::r,k,a,b,h,hb=>by
  unfold Lib.decFrom
  cases k with
  | zero=>simp at h;subst h;rw[hb]
  | succ k =>
   cases c:Lib.digitVal x with
   | none=>rfl
   | some d=>exact decFrom_none r k _ b (by simpa using h) hb
def Gt(l w) :
  κ prog 89 #[.string (bytesOf l)] w λe w'=>∃ v,e=.returned (.tuple #[.int .i64 v,.bool (dK l).isSome])/\(∀ n,dK l=some n->v=n)/\β w w w':=by
 by_cases g:l=[45,49]
 .subst g;rw[Un];obtain⟨S,a⟩:∃ S,χ (S=bytesOf [45,49]):=⟨_,rfl⟩;rw[<- a.out];have g1:(S.toList==[45,49])=true:=by rw[a.out,dV];rfl
  go_enter func89,ntmps89;go_wp2;go_ret2;exact⟨-1,rfl,λn e=>by cases e;rfl,ja0 _ _⟩
 .obtain⟨S,a,G⟩:∃ S,χ (S=bytesOf l)/\S.size=l.length:=⟨_,rfl,rfl⟩;rw[<- a.out];have g1:(S.toList==[45,49])=false:=by rw[a.out,dV];simpa using g
  by_cases B:6<l.length
  .have j:=I4 (.inl B) g;have g2  := decide_eq_true (by omega);rw[j];go_enter func89,ntmps89;go_wp2;go_ret2;exact⟨0,rfl,λn e=>(by cases e),ja0 _ _⟩
  .have g2  := decide_eq_false (by omega);generalize A:l.length=n at G g2 B;have z:=ah A;clear A;go_enter func89,ntmps89;go_wp2;go_loopw [4,5] (λu i wr=>∃(k v:Nat),k<=n/\i=.int .i64 (k:Int)/\u=.int .i64 (v:Int)/\Lib.decFrom 0 (l.take k)=some v/\wr=w) (λ_ i _=>n-(intOf i).toNat)
   case atStart=>exact⟨0,0,by omega,rfl,rfl,rfl,rfl⟩
   case round =>
    obtain⟨k,v,R,rfl,rfl,hd,rfl⟩:=hrel
    have U:v<1000000:=by
     have P:=decFrom_lt _ _ _ hd;have J:(l.take k).length<=6:=by rw[jay];omega
     have T:10 ^ (l.take k).length<=10 ^ 6:=jbH (by omega) J;omega
    by_cases N:k<n
    .obtain⟨b,m,x⟩:=bytes_at a.out (show k<S.size by omega);have D:(k:Int)<(n:Int):=by omega
     have y:=b.toNat_lt;obtain⟨c,E⟩:∃ c:Int,((S[k]'(by omega)).toNat:Int)=c:=⟨_,rfl⟩;have o:c=(b.toNat:Int):=by rw[<- E,x]
     by_cases f:48<=b.toNat/\b.toNat<=57
     .have M:¬c<48:=by omega
      have K:¬57<c:=by omega
      have d:χ (Lib.decFrom 0 (l.take (k+1))=some (v*10+(b.toNat-48))):=Lib.decFrom_take l k 0 v b _ hd m (OV f.1 f.2);have F:=ah o;clear hd m x o f y;go_wp2;exact⟨⟨k+1,v*10+(b.toNat-48),by omega,by go_num,by have:=F.out;congr 1;omega,d.out,trivial⟩,by simp[intOf];omega⟩
     .have I:Lib.digitVal b=none:=by unfold Lib.digitVal;rw[if_neg f]
      have j:=ah (I4 (.inr (decFrom_none l k 0 b m I)) g);by_cases Q:c<48
      .clear hd m x o f y;go_wp2;go_ret2;rw[j.out];exact⟨0,rfl,λn e=>(by cases e),ja0 _ _⟩
      .have K:57<c:=by omega
       go_wp2;go_ret2;rw[j.out];exact⟨0,rfl,λn e=>(by cases e),ja0 _ _⟩
    .have D:¬(k:Int)<(n:Int):=by omega
     have H:k=n:=by omega
     subst H;rw[jaf (Nat.le_of_eq z.out)] at hd;have d:=Ul (by rw[z.out];omega) hd;rw[Lib.itoa_nonneg] at d;have r:=ah (Fq v wr (by omega));obtain⟨L,t⟩:∃ L,χ (L=bytesOf (Lib.decDigits v)):=⟨_,rfl⟩;rw[<- t.out] at r;by_cases e:Lib.decDigits v=l
     .rw[if_pos e] at d;have q:=ah d;have C:(L.toList==S.toList)=true:=by rw[t.out,a.out,e];simp
      go_wp2_with fail;refine cHd r.out λW s=>?_
      go_wp2;go_ret2;rw[q.out];exact⟨v,rfl,λn e=>by cases e;rfl,s.out⟩
     .rw[if_neg e] at d;have q:=ah d;have C:(L.toList==S.toList)=false:=by rw[t.out,a.out,dV,dV];simpa using e
      go_wp2_with fail;refine cHd r.out λW s=>?_
      go_wp2;go_ret2;rw[q.out];exact⟨v,rfl,λn e=>(by cases e),s.out⟩
