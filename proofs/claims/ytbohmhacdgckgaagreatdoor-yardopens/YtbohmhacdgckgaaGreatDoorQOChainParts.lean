/- The document's shelf: the place that has something, a cluster that is read, a range's fault. -/
import Derived.Test.YtbohmhacdgckgaaGreatDoorQOChainWalk
set_option linter.all false
set_option maxHeartbeats 2000000
set_option maxRecDepth 100000
namespace Go.Proofs.YtbohmhacdgckgaaGreatDoor
open Go.RowKit renaming Below->β
open Go renaming World->ω, Value->υ, Calls->κ
open Option renaming none->O, some->S
open Go.Proofs.Tryz Go.RowKit Go.Maps
attribute [local go_sem ↓] Go.wp_at_zero Go.wp_at_succ
def below_drewN{B:Nat}{a w:ω}(h:β B a w)(n:Nat):β B a (w.drewN n):=⟨h.os,h.tape,h.output,h.size,h.block⟩
def bG.numAt{w:ω}{sp m:Nat}{d:Nat->Qh}{s:SV}{C:Int}{a:Option Addr}{l:List Int}(h:bG w sp d s m)(f:Nums w a l)(j:s.good C l){k:Nat}(q:k<l.length) :
  ∃(g o n:Nat) (v:IV),a=S ⟨g,o,O⟩/\l.getD k 0=(n:Int)/\n<5/\s.file (n:Int)=S v/\v.h.c=C/\w.cell? ⟨g,o+k,O⟩=S (.int .i64 (n:Int))/\w.cell? ⟨sp,n,O⟩=S ((d n).p:υ)/\aS Gd.no w (d n) v/\v.ok m:=by
 obtain⟨g,o,t,i⟩:=f k q;obtain⟨v,b,r⟩:=j (l.getD k 0) (by simp_all)
 obtain⟨x,u,_⟩:=SV.dS b;have e:l.getD k 0=((l.getD k 0).toNat:Int):=by omega
 refine⟨g,o,(l.getD k 0).toNat,v,t,e,by omega,by rw[<- e];exact b,r,by rw[i];congr 2,h.jW b,(h.gY b).1,(h.gY b).2⟩
def IV.ok.kind{v:IV}{m:Nat}(h:v.ok m){c:Int}(b:v.there c=true):0<=(v.ent c).1:=by
 rcases jh (h.ent b) with a|a
 .omega
 .omega
def GK{sp m cap:Nat}{O:Nat->Qh}{s:SV}{a:Option Addr}{C:Int}(l:List Int)(c:Int)(w:ω)(h:bG w sp O s m)(hl:Nums w a l)(hg:s.good C l)(h5:l.length<=100) :
    κ prog 186 #[sp,.slice a l.length cap,c] w λe I=>e=.returned (s.found l c)/\β w w I:=by
  have P:=ah λk W (r:β w w W) (J:k<l.length)=>(h.below r).numAt (hl.below r) hg J
  have E:Hid (s.jM c (l.drop 0) 0=s.found l c):=rfl;have M:Hid (∀ k,k<l.length->s.jM c (l.drop k) k=if rM (s.file (l.getD k 0)) c=0 then s.jM c (l.drop (k+1)) (k+1) else (k:Int)):=λk J=>by rw[drop_cons J];rfl
  have D:Hid (s.jM c (l.drop l.length) l.length = -1):=by unfold Hid;rw[jbG];rfl
  generalize s.found l c=R at E |-;generalize hn:l.length=n at P M D h5 |-;go_enter func186,ntmps186
  go_wp2
  go_loopw [7] (λi wr=>∃ k:Nat,k<=n/\i=.int .i64 (k:Int)/\s.jM c (l.drop k) k=R/\β w w wr) (λi _=>n-(intOf i).toNat)
  case atStart=>exact⟨0,ja5 _,rfl,E.out,ja0 _ _⟩
  case round =>
    obtain⟨k,a4,rfl,B,z⟩:=hrel;by_cases X:k<n
    . obtain⟨g,o,x,v,rfl,T,x5,Z,_,a3,N,u,G⟩:=P.out k wr z X
      have A:=M.out k X;rw[T,Z] at A;have j:=ah λW (r:β wr wr W)=>sF c W (u.below r) G.len
      have L:=ah z;have k0:(0:Int)<=(k:Int):=by omega
      have k1:(k:Int)<(n:Int):=by omega
      have k2:((k:Int)).toNat=k:=by omega
      have k3:(0:Int)<=(x:Int):=by omega
      have k4:(x:Int)<5:=by omega
      have Y  := a3;have q  := N;have U:Hid (β wr wr wr.drew):=(ja0 _ _).drew
      cases f:v.there c with
      | false =>
        have d:Hid (s.jM c (l.drop (k+1)) (k+1)=R):=by
          unfold Hid;rw[<- B,A,if_pos (by show(v.bC c).1=0;unfold IV.bC;rw[f];rfl)]
        rw[f] at j;generalize (O x).p=xp at N q j;go_wp2
        go_region_held3 (λW=>β wr wr W/\W.cell? ⟨g,o+k,none⟩=some (.int .i64 (x:Int))/\W.cell? ⟨sp,x,none⟩=some (xp:υ))
          (first|(exact⟨U.out,Y,q⟩)|assumption)
          (first
            | (go_at_call 185;refine cEq (j.out _ (by assumption:β wr wr _/\_).1) λI rfl=>?_))
        go_wp2
        go_quiet (fail)
        go_wp2
        go_roundw
        case rel =>
          exact⟨k+1,by omega,by go_num,d.out,below_drewN L.out _⟩
        case measure=>simp[intOf];omega
      | true =>
        obtain⟨a5,V⟩:=IV.nP f;have a1:=G.kind f;obtain⟨b,rfl⟩:∃ b:Nat,c=(b:Int):=⟨c.toNat,by omega⟩
        obtain⟨g2,a7,S,a6,Q,_⟩:=u.jA (c:=b) (by omega)
        have H:=u.cells.2.2.2.2.1;rw[S] at H
        have F:s.jM (b:Int) (l.drop k) k=if (v.ent (b:Int)).1=0 then s.jM (b:Int) (l.drop (k+1)) (k+1) else (k:Int):=by
          rw[A];show(if (v.bC (b:Int)).1=0 then _ else _)=_
          unfold IV.bC;rw[f,if_pos rfl]
        have a0:wr.cell? ⟨g2,b*2,none⟩=some (.int .i64 (v.ent (b:Int)).1):=Q;rw[B] at F;have K:=ah F;rw[f] at j;have q1  := V;have q2:((b:Int)).toNat=b:=by omega
        clear B A F z M P u G Z T f E D S Q V;generalize (v.ent (b:Int)).1=y at a0 K a1;generalize (O x).p=xp at N q j H;generalize v.t.length=tl at H q1;go_wp2
        go_region_held3 (λW=>β wr wr W/\W.cell? ⟨g,o+k,none⟩=some (.int .i64 (x:Int))/\W.cell? ⟨sp,x,none⟩=some (xp:υ))
          (first|(exact⟨U.out,Y,q⟩)|assumption)
          (first
            | (go_at_call 185;refine cEq (j.out _ (by assumption:β wr wr _/\_).1) λI rfl=>?_))
        by_cases hy:y=0
        . have d:Hid (s.jM (b:Int) (l.drop (k+1)) (k+1)=R):=by unfold Hid;rw[K.out,if_pos hy]
          go_wp2
          go_quiet (fail)
          go_wp2
          go_roundw
          case rel =>
            exact⟨k+1,by omega,by go_num,d.out,below_drewN L.out _⟩
          case measure=>simp[intOf];omega
        . have d:Hid ((k:Int)=R):=by unfold Hid;rw[K.out,if_neg hy]
          go_wp2
          go_quiet (fail)
          go_wp2
          go_ret
          exact⟨mg d.out,below_drewN L.out.drew _⟩
    . have a2:k=n:=by omega
      subst a2;have d:Hid (-1=R):=by unfold Hid;rw[<- B,D.out]
      go_wp2
      go_ret
      exact⟨mg d.out,z⟩
structure JHd(w:ω)(jp sp:Nat)(a:Option Addr)(cap:Nat)(j:JV):Prop where
 c0:w.cell? ⟨jp,0,O⟩=S (.pointer (S ⟨sp,6,O⟩))
 c1:w.cell? ⟨jp,1,O⟩=S (.slice a j.l.length cap)
 c2:w.cell? ⟨jp,2,O⟩=S (j.kind:υ)
 c3:w.cell? ⟨jp,3,O⟩=S (j.file:υ)
 cap:j.l.length<=cap
def iG.hd{w:ω}{b sp c bp cap:Nat}{a:Option Addr}{j:JV}(h:iG w b sp c bp a cap j)(f:j.l.length<=cap):JHd w b sp a cap j:=by
 obtain⟨d,c1,c2,c3,_⟩:=h.cells;exact⟨d,c1,c2,c3,f⟩
def JHd.below{w f:ω}{b sp cap:Nat}{a:Option Addr}{j:JV}(h:JHd w b sp a cap j)(d:β w w f):JHd f b sp a cap j:=by
 have c:=ja2 _ _ h.c0;exact⟨(d.cell  c).trans h.c0,(d.cell (p:=⟨b,1,O⟩) c).trans h.c1,(d.cell (p:=⟨b,2,O⟩) c).trans h.c2,(d.cell (p:=⟨b,3,O⟩) c).trans h.c3,h.cap⟩
theorem Nums.take{w:ω}{a:Option Addr}{l:List Int}(h:Nums w a l)(d:Nat):Nums w a (l.take d):=λk b=>by
 have f:k<d/\k<l.length:=by rw[jaE] at b;omega
 obtain⟨g,o,c,i⟩:=h k f.2;refine⟨g,o,c,?_⟩
 simp_all
def NR{g o n cap:Nat}(l:List Int)(x:Int)(w:ω)(h:Nums w (S ⟨g,o,O⟩) l)(c:l.length=n)(i:n<=100) :
  κ prog 266 #[.slice (S ⟨g,o,O⟩) n cap,x] w λe b=>e=.returned (Lib.idxOf l x)/\b=w:=by
 subst c
 have:=Tryz.slices_Index_int g o _ cap l x w (ja1 _) (by omega) (λj a=>by
  obtain⟨m,f,d,k⟩:=h j a
  simp_all)
 simp_all
def zI{g o n cap:Nat}(l:List Int)(x:Int)(w:ω)(h:Nums w (S ⟨g,o,O⟩) l)(c:l.length=n)(i:n<=100) :
  κ prog 236 #[.slice (S ⟨g,o,O⟩) n cap,x] w λe b=>e=.returned (.bool (l.contains x))/\b=w:=by
 subst c
 have:=Tryz.slices_Contains_int g o _ cap l x w (ja1 _) (by omega) (λj a=>by
  obtain⟨m,f,d,k⟩:=h j a
  simp_all)
 simp_all
def JF{b sp cap C:Nat}{a:Option Addr}{s:SV}{j:JV}(w:ω)(hd:JHd w b sp a cap j)(t:Nums w a j.l)(ok:JOk s C j)(y:j.kind≠1) :
    κ prog 243 #[b] w λe d=>e=.returned (.slice a j.above.length cap)/\β w w d:=by
  obtain⟨D,c1,c2,c3,z⟩:=hd;obtain⟨g,o,rfl,_⟩:=t 0 (by have:=ok.ne;exact List.length_pos_iff.2 this)
  have f:Hid (∀ W:ω,β w w W->κ prog 266 #[.slice _ j.l.length cap,j.file] W λe d=>e=.returned _/\d=W):=λW v=>NR j.l j.file W (t.below v) rfl (by have:=ok.len;omega)
  have x:=ok.len;have u:j.above.length=j.deep:=by unfold JV.above;rw[jaE];have:=ok.deep;omega
  have c:=ok.idx y;rw[u];have i:Hid (β w w w.drew):=(ja0 _ _).drew;have m  := c1;have k  := c3;generalize j.file=fl at f c3 k c;generalize Lib.idxOf j.l fl=E at f c;generalize j.l.length=n at f c1 m x c z;generalize j.deep=dp at c |-;rcases c with⟨q,r⟩|⟨q,r⟩
  . subst q
    have A:(0:Int)<=(dp:Int):=by omega
    have B:dp<=cap:=by omega
    go_enter func243,ntmps243
    go_wp2
    go_region_held3 (λW=>W.cell? ⟨b,1,O⟩=S (.slice (S ⟨g,o,O⟩) n cap)/\W.cell? ⟨b,3,O⟩=S (fl:υ))
      (first|(exact⟨m,k⟩)|assumption)
      (first
        | (go_at_call 266;refine(f.out _ i.out).mono ?_;rintro e d ⟨rfl,rfl⟩))
    go_wp2
    go_ret
    exact⟨rfl,i.out⟩
  . subst q
    subst r;go_enter func243,ntmps243
    go_wp2
    go_region_held3 (λW=>W.cell? ⟨b,1,O⟩=S (.slice (S ⟨g,o,O⟩) dp cap)/\W.cell? ⟨b,3,O⟩=S (fl:υ))
      (first|(exact⟨m,k⟩)|assumption)
      (first
        | (go_at_call 266;refine(f.out _ i.out).mono ?_;rintro e d ⟨rfl,rfl⟩))
    go_wp2
    go_ret
    exact⟨rfl,i.out⟩
def IX{g sp cap C m:Nat}{a:Option Addr}{F:Nat->Ih}{s:SV}{j:JV}(c:Int)(w:ω)(hd:JHd w g sp a cap j)(G:bD w sp F s m)(y:Nums w a j.l)(ok:JOk s C j) :
    κ prog 202 #[g,c] w λe t=>e=.returned (.bool (j.iL s c))/\β w w t:=by
  have q:=ah λ(A:j.kind≠1) W (d:β w w W)=>JF W (hd.below d) (y.below d) ok A
  have o:Hid (∀ W:ω,β w w W->κ prog 225 #[.pointer (S ⟨sp,6,O⟩),.slice a j.above.length cap,c] W λe t=>e=.returned (s.found j.above c)/\β W W t):=λW d=>Eu j.above c W (G.below d) ((y.below d).take _) (by
    show(j.l.take j.deep).length<=100
    rw[jaE];have:=ok.len;omega)
  have v:=ok.kind;obtain⟨u,c1,c2,c3,J⟩:=hd;have B:=ja2 _ _ u;have x  := u;have f:Hid (β w w w.drew):=(ja0 _ _).drew;have r:=ah λW (d:β w w W)=>(d.cell (p:=⟨g,0,O⟩) B).trans u
  unfold JV.iL;generalize j.above.length=K at q o;generalize s.found j.above c=L at o |-;generalize j.kind=kd at q v c2 |-;rcases v with rfl|rfl|rfl
  . go_enter func202,ntmps202
    go_wp2
    go_ret
    exact⟨rfl,ja0 _ _⟩
  . have D:=ah (q.out (by decide))
    go_enter func202,ntmps202
    go_wp2
    go_region_held3 (λW=>W.cell? ⟨g,0,O⟩=S (.pointer (S ⟨sp,6,O⟩)))
      (first|(exact x)|assumption)
      (first
        | (go_at_call 243;refine cEq (D.out _ f.out) λz n=>?_;have b:=ah (f.out.trans (n.mono f.out.size));have H:=r.out _ b.out;clear n)
        | (go_at_call 225;refine cEq (o.out _ b.out) λI k=>?_;have i:=ah (b.out.trans (k.mono b.out.size));have E:=r.out _ i.out;clear k))
    go_wp2
    go_ret
    exact⟨rfl,i.out⟩
  . go_enter func202,ntmps202
    go_wp2
    go_region_held3 (λW=>W.cell? ⟨g,0,O⟩=S (.pointer (S ⟨sp,6,O⟩)))
      (first|(exact x)|assumption)
      (first
        | (go_at_call 243;refine cEq ((q.out (by decide)) _ f.out) λz n=>?_;have b:=ah (f.out.trans (n.mono f.out.size));have H:=r.out _ b.out;clear n)
        | (go_at_call 225;refine cEq (o.out _ b.out) λI k=>?_;have i:=ah (b.out.trans (k.mono b.out.size));have E:=r.out _ i.out;clear k))
    go_wp2
    go_ret
    exact⟨rfl,i.out⟩
def Ap{b sp d bp cap:Nat}{a:Option Addr}{j:JV}(w:ω)(h:iG w b sp d bp a cap j) :
  κ prog 139 #[b] w λe c=>e=.returned (.bool (decide (j.stage<4)))/\c=w:=by
 obtain⟨k,c1,c2,c3,c4,f,m,l,i,g⟩:=h.cells;go_enter func139,ntmps139
 go_wp2
 go_ret
 simp_all
def Ip{c sp k bp cap:Nat}{a:Option Addr}{j:JV}(w:ω)(h:iG w c sp k bp a cap j)(i:S4.jw j.n j.x) :
  κ prog 194 #[c] w λe f=>e=.returned j.state/\f=w:=by
 obtain⟨r,c1,c2,c3,c4,m,t,s,q,o⟩:=h.cells;have b:=ah (S4.Hf w h.set i);unfold JV.state;generalize S4.cnt j.x 64=l at b |-;generalize j.stage=st at c4 |-;by_cases d:st=1
 .subst d
  by_cases g:l=0
  .subst g
   rw[if_pos _];go_enter func194,ntmps194
   go_wp2_with fail
   refine cSt b.out ?_;go_wp2
   go_ret
   exact⟨rfl,rfl⟩
  .rw[if_neg _]
   go_enter func194,ntmps194
   go_wp2_with fail
   refine cSt b.out ?_;go_wp2
   go_ret
   exact⟨rfl,rfl⟩
 .rw[if_neg (λe=>d e.1)]
  go_enter func194,ntmps194
  go_wp2
  go_ret
  exact⟨rfl,rfl⟩
def yQ{b sp k bp cap:Nat}{a:Option Addr}{j:JV}(w:ω)(h:iG w b sp k bp a cap j)(o:S4.jw j.n j.x) :
    κ prog 129 #[b] w λe f=>e=.returned (.agg #[j.kind,j.file,j.state,.int .i64 (S4.cnt j.x 64:Nat)])/\β w w f:=by
  have q:Hid (∀ W:ω,β w w W->κ prog 194 #[b] W λe f=>e=.returned j.state/\f=W):=λW c=>by
    obtain⟨s,t,u⟩:=h.lts;exact Ip W (h.keep (c.block _ s) (c.block _ t) (c.block _ u)) o
  have m:=ah λW (c:β w w W)=>S4.Hf W (h.set.below c) o
  obtain⟨B,c1,c2,c3,c4,l,A,z,y,v⟩:=h.cells;have d:=h.lts.1;generalize S4.cnt j.x 64=i at m |-;generalize j.state=st at q |-;generalize j.kind=kd at c2 |-;generalize j.file=fl at c3 |-;have g:Hid (β w w (w.alloc (.cells #[(0:Int),(0:Int),(0:Int),(0:Int)] 120)).drew):=((ja0 _ _).alloc (ja1 _) _).drew
  have r:Hid ((w.alloc (.cells #[kd,fl,st,(i:Int)] 120)).drew.cell? ⟨b,2,O⟩=S (kd:υ)/\(w.alloc (.cells #[kd,fl,st,(i:Int)] 120)).drew.cell? ⟨b,3,O⟩=S (fl:υ)/\(w.alloc (.cells #[kd,fl,st,(i:Int)] 120)).drew.cell? ⟨b,5,O⟩=S (k:υ)):=by
    have c:β w w (w.alloc (.cells #[kd,fl,st,(i:Int)] 120)).drew:=((ja0 _ _).alloc (ja1 _) _).drew;exact⟨(c.cell (p:=⟨b,2,O⟩) d).trans c2,(c.cell (p:=⟨b,3,O⟩) d).trans c3,(c.cell (p:=⟨b,5,O⟩) d).trans l⟩
  go_enter func129,ntmps129
  go_wp2_with fail
  go_region_held3 (λW=>W.cell? ⟨b,2,O⟩=S (kd:υ)/\W.cell? ⟨b,3,O⟩=S (fl:υ)/\W.cell? ⟨b,5,O⟩=S (k:υ))
    (first|(exact⟨((g.out.cell  d).trans c2),((g.out.cell  d).trans c3),((g.out.cell  d).trans l)⟩)|(exact r.out)|assumption)
    (first
      | (go_at_call 194;refine(q.out _ g.out).mono ?_;rintro e f ⟨rfl,rfl⟩)
      | (go_at_call 195;refine(m.out _ g.out).mono ?_;rintro e f ⟨rfl,rfl⟩))
  go_wp2
  exact bodyPost_ret  (by simp[results,results129,go_sem]) rfl ⟨rfl,(by first|exact((ja0 _ _).alloc (ja1 _) _).drew|exact((ja0 _ _).alloc _ _))⟩
def JOk.n64{s:SV}{C:Nat}{j:JV}(h:JOk s C j):j.n<=64:=by have:=h.n;have:=h.c40;omega
def RV{xp c cap:Nat}{a:Option Addr}{j:JV}{is:Int}(w:ω)(h:bK w xp c a cap j is) :
  κ prog 190 #[xp] w λe b=>e=.returned (.bool (decide (is<4)))/\b=w:=by
 obtain⟨f,c2,c3,i,g,l,d,k,m⟩:=h.cells;go_enter func190,ntmps190
 go_wp2
 go_ret
 simp_all
def pO(is:Int)(n:Nat):Int:=if is=1/\n=0 then 3 else if is=3/\n≠0 then 1 else is
def BM{xp c cap m C:Nat}{a:Option Addr}{qs:Nat->Qh}{s:SV}{j:JV}{is:Int}(w:ω)(h:RJ w c xp a cap qs s m C j is) :
  κ prog 183 #[xp] w λe n=>e=.returned (.tuple #[])/\RJ n c xp a cap qs s m C j (pO is (S4.cnt j.x 64))/\dZ qs s xp w qs s n:=by
 obtain⟨t,c2,c3,v,u,z,r,y,A⟩:=h.job.cells;have b:=ah (S4.Gj w h.job.qM);have f:Hid (RJ w c xp a cap qs s m C j is):=h;have l:Hid (RJ (w.setCell ⟨xp,74,O⟩ (1:Int)) c xp a cap qs s m C j 1/\dZ qs s xp w qs s (w.setCell ⟨xp,74,O⟩ (1:Int))):=h.og 1;have o:Hid (RJ (w.setCell ⟨xp,74,O⟩ (3:Int)) c xp a cap qs s m C j 3/\dZ qs s xp w qs s (w.setCell ⟨xp,74,O⟩ (3:Int))):=h.og 3;have g:Hid (dZ qs s xp w qs s w):=dZ.refl _ _ _ _;unfold pO;generalize S4.cnt j.x 64=q at b |-;by_cases k:is=1
 .subst k
  by_cases d:q=0
  .subst d
   rw[if_pos ⟨rfl,rfl⟩];go_enter func183,ntmps183
   go_wp2_with fail
   refine cSt b.out ?_;go_wp2
   go_end0
   exact⟨rfl,o.out.1,o.out.2⟩
  .rw[if_neg (λe=>d e.2),if_neg (λe=>absurd e.1 (by decide))]
   go_enter func183,ntmps183
   go_wp2_with fail
   refine cSt b.out ?_;go_wp2
   go_end0
   exact⟨rfl,f.out,g.out⟩
 .have g1:(is==1)=false:=by simpa using k
  rw[if_neg (λe=>k e.1)]
  by_cases i:is=3
  .subst i
   by_cases d:q=0
   .subst d
    rw[if_neg _];go_enter func183,ntmps183
    go_wp2_with fail
    refine cSt b.out ?_;go_wp2
    go_end0
    exact⟨rfl,f.out,g.out⟩
   .rw[if_pos _]
    go_enter func183,ntmps183
    go_wp2_with fail
    refine cSt b.out ?_;go_wp2
    go_end0
    exact⟨rfl,l.out.1,l.out.2⟩
  .have g3:(is==3)=false:=by simpa using i
   rw[if_neg (λe=>i e.1)]
   go_enter func183,ntmps183
   go_wp2_with fail
   refine cSt b.out ?_;go_wp2
   go_end0
   exact⟨rfl,f.out,g.out⟩
def JOk.st3{s:SV}{C:Nat}{j:JV}(h:JOk s C j):j.stage≠3:=by have:=h.stage;omega
def JV.yP(j:JV):(j.stage=1/\(j.state=1\/j.state=3))\/(j.stage≠1/\j.state=j.stage):=by
 unfold JV.state;omega
def U9{j:JV}{x:Nat}(d:j.stage≠3):pO j.state (S4.cnt x 64)=(j.put x).state:=by
 have c:(j.put x).state=if j.stage=1/\S4.cnt x 64=0 then 3 else j.stage:=rfl
 unfold pO;rcases j.yP with⟨b,a|a⟩|⟨b,a⟩
 .omega
 .omega
 .omega
def JV.wC(j:JV){st:Int}(h:st≠1):(j.at st).state=st:=by
 have a:(j.at st).state=if st=1/\S4.cnt j.x 64=0 then 3 else st:=rfl
 omega
def G8{xp q cap m C:Nat}{a:Option Addr}{qs:Nat->Qh}{s:SV}{j:JV}{is:Int}(c:Int)(w:ω)(h:RJ w q xp a cap qs s m C j is) :
    κ prog 157 #[xp,c] w λe z=>e=.returned (.bool (j.iL s c))/\β w w z:=by
  obtain⟨A,c2,c3,y,x,S,O,R,T⟩:=h.job.cells;have D:j.above.length=j.deep:=by unfold JV.above;rw[jaE];have:=h.ok.deep;omega
  have u:Hid (∀ W:ω,β w w W->κ prog 186 #[q,.slice a j.deep cap,c] W λe z=>e=.returned (s.found j.above c)/\β W W z):=λW v=>by
    have:=GK (cap:=cap) j.above c W (h.shelf.below v) ((h.nums.below v).take _) (λn M=>h.ok.good n (jbm M)) (by rw[D];have:=h.ok.deep;have:=h.ok.len;omega)
    rw[D] at this;exact this
  have B:=h.ok.deep;have J:=h.cap;have E:=h.ok.kind;obtain⟨g,o,N,_⟩:=h.nums 0 (List.length_pos_iff.2 h.ok.ne);subst N
  have d:Hid (∀ W:ω,β w w W->W.cell? ⟨xp,0,none⟩=some (q:υ)/\W.cell? ⟨xp,2,none⟩=some (j.kind:υ)/\W.cell? ⟨xp,6,none⟩=some (.slice (some ⟨g,o,none⟩) j.l.length cap)/\W.cell? ⟨xp,7,none⟩=some (.int .i64 (j.deep:Int))):=λW v=>by
    obtain⟨A,c2,c3,y,x,_⟩:=(h.below v).job.cells;exact⟨A,c2,y,x⟩
  unfold JV.iL;have r:Hid (β w w w.drew):=(ja0 _ _).drew;generalize s.found j.above c=I at u |-;generalize j.deep=dp at u B x d;generalize j.l.length=ln at B y J d;generalize j.kind=kd at c2 E d |-;have H  := A;have G  := y;have F  := x;have P:(0:Int)<=(dp:Int):=by omega
  have Q:(dp:Int)<=(cap:Int):=by omega
  rcases E with rfl|rfl|rfl
  . go_enter func157,ntmps157
    go_wp2
    go_ret
    exact⟨rfl,ja0 _ _⟩
  . go_enter func157,ntmps157
    go_wp2
    go_region_held3 (λW=>W.cell? ⟨xp,0,none⟩=some (q:υ)/\W.cell? ⟨xp,6,none⟩=some (.slice (some ⟨g,o,none⟩) ln cap)/\W.cell? ⟨xp,7,none⟩=some (.int .i64 (dp:Int)))
      (first|(exact⟨H,G,F⟩)|assumption)
      (first
        | (go_at_call 186;refine cEq (u.out _ r.out) λi t=>?_;have b:=ah (r.out.trans (t.mono r.out.size));have L:i.cell? ⟨xp,0,none⟩=some (q:υ)/\i.cell? ⟨xp,6,none⟩=some (.slice (some ⟨g,o,none⟩) ln cap)/\i.cell? ⟨xp,7,none⟩=some (.int .i64 (dp:Int)):=⟨(d.out _ b.out).1,(d.out _ b.out).2.2.1,(d.out _ b.out).2.2.2⟩;clear t))
    obtain⟨_,K,_,_⟩:=d.out _ b.out;by_cases f:0<I
    . have k  := decide_eq_true f
      go_wp2
      go_ret
      exact⟨by first|rfl|simp[k,f],b.out⟩
    . have k  := decide_eq_false f
      go_wp2
      go_ret
      exact⟨by first|rfl|simp[k,f],b.out⟩
  . go_enter func157,ntmps157
    go_wp2
    go_region_held3 (λW=>W.cell? ⟨xp,0,none⟩=some (q:υ)/\W.cell? ⟨xp,6,none⟩=some (.slice (some ⟨g,o,none⟩) ln cap)/\W.cell? ⟨xp,7,none⟩=some (.int .i64 (dp:Int)))
      (first|(exact⟨H,G,F⟩)|assumption)
      (first
        | (go_at_call 186;refine cEq (u.out _ r.out) λi t=>?_;have b:=ah (r.out.trans (t.mono r.out.size));have L:i.cell? ⟨xp,0,none⟩=some (q:υ)/\i.cell? ⟨xp,6,none⟩=some (.slice (some ⟨g,o,none⟩) ln cap)/\i.cell? ⟨xp,7,none⟩=some (.int .i64 (dp:Int)):=⟨(d.out _ b.out).1,(d.out _ b.out).2.2.1,(d.out _ b.out).2.2.2⟩;clear t))
    obtain⟨_,K,_,_⟩:=d.out _ b.out;by_cases f:0<=I
    . have k  := decide_eq_true f
      go_wp2
      go_ret
      exact⟨by first|rfl|simp[k,f],b.out⟩
    . have k  := decide_eq_false f
      go_wp2
      go_ret
      exact⟨by first|rfl|simp[k,f],b.out⟩
def Td{xp m cap:Nat}{a:Option Addr}{j:JV}{is:Int}(w:ω)(h:bK w xp m a cap j is) :
    κ prog 141 #[xp] w λe i=>e=.returned (.agg #[j.kind,j.file,is,.int .i64 (S4.cnt j.x 64:Nat)])/\β w w i:=by
  have k:=ah λW (c:β w w W)=>S4.Gj W (h.keep (c.block _ h.lt)).qM
  obtain⟨q,c2,c3,r,n,s,g,o,t⟩:=h.cells;have b:=h.lt;generalize S4.cnt j.x 64=d at k |-;generalize j.kind=kd at c2 |-;generalize j.file=fl at c3 |-;have f:Hid (β w w (w.alloc (.cells #[(0:Int),(0:Int),(0:Int),(0:Int)] 120)).drew):=((ja0 _ _).alloc (ja1 _) _).drew
  have l:Hid ((w.alloc (.cells #[kd,fl,is,(d:Int)] 120)).drew.cell? ⟨xp,2,O⟩=S (kd:υ)/\(w.alloc (.cells #[kd,fl,is,(d:Int)] 120)).drew.cell? ⟨xp,3,O⟩=S (fl:υ)/\(w.alloc (.cells #[kd,fl,is,(d:Int)] 120)).drew.cell? ⟨xp,74,O⟩=S (is:υ)):=by
    have c:β w w (w.alloc (.cells #[kd,fl,is,(d:Int)] 120)).drew:=((ja0 _ _).alloc (ja1 _) _).drew;exact⟨(c.cell (p:=⟨xp,2,O⟩) b).trans c2,(c.cell (p:=⟨xp,3,O⟩) b).trans c3,(c.cell (p:=⟨xp,74,O⟩) b).trans g⟩
  go_enter func141,ntmps141
  go_wp2_with fail
  go_region_held3 (λW=>W.cell? ⟨xp,2,O⟩=S (kd:υ)/\W.cell? ⟨xp,3,O⟩=S (fl:υ)/\W.cell? ⟨xp,74,O⟩=S (is:υ))
    (first|(exact⟨((f.out.cell (p:=⟨xp,2,O⟩) b).trans c2),((f.out.cell (p:=⟨xp,3,O⟩) b).trans c3),((f.out.cell (p:=⟨xp,74,O⟩) b).trans g)⟩)|(exact l.out)|assumption)
    (first
      | (go_at_call 208;refine(k.out _ f.out).mono ?_;rintro e i ⟨rfl,rfl⟩))
  go_wp2
  exact bodyPost_ret (v:=.agg #[kd,fl,is,(d:Int)]) (by simp[results,results141,go_sem]) rfl ⟨rfl,(by first|exact((ja0 _ _).alloc (ja1 _) _).drew|exact((ja0 _ _).alloc _ _))⟩
def dP.of{w b:ω}{c xp cap m C:Nat}{a:Option Addr}{qs:Nat->Qh}{s:SV}{j':JV}{is:Int}(h:RJ b c xp a cap qs s m C j' is)(f:is=j'.state)(d:dZ qs s xp w qs s b):dP c xp a cap qs s s m C j' w b:=by subst f;exact⟨qs,h,d⟩
def SX{xp g cap m C:Nat}{a:Option Addr}{qs:Nat->Qh}{s:SV}{j:JV}(i:Bool)(w:ω)(h:RJ w g xp a cap qs s m C j j.state) :
  κ prog 128 #[xp,i] w λe k=>e=.returned (iH j i)/\dP g xp a cap qs s s m C (l9 j i) w k:=by
 obtain⟨G,c2,c3,H,E,I,f,F,J⟩:=h.job.cells;have y:=h.ok.st3;have o:Hid (dP g xp a cap qs s s m C j w w):=dP.below h (ja0 _ _);have n:Hid (dP g xp a cap qs s s m C (j.at 2) w (w.setCell ⟨xp,74,O⟩ (2:Int))):=dP.of ((h.og 2).1.staged (st:=2) (.inr (.inl rfl))) (j.wC (by decide)).symm (h.og 2).2
 have D:=(h.og 1).1.staged (st:=1) (.inl rfl);have q:=ah (BM (w.setCell ⟨xp,74,O⟩ (1:Int)) D)
 have r:Hid (pO 1 (S4.cnt j.x 64)=(j.at 1).state):=by
  have u:(j.at 1).state=if (1:Int)=1/\S4.cnt j.x 64=0 then 3 else 1:=rfl
  unfold Hid pO;rw[u];by_cases z:S4.cnt j.x 64=0<;>simp[z]
 rw[show(j.at 1).x=j.x from rfl,r.out] at q
 have l:=JV.yP j;unfold iH l9
 cases i with
 | true =>
  rw[if_pos rfl,if_pos rfl];rcases l with⟨c,b⟩|⟨c,b⟩
  .rw[if_pos c,if_pos c]
   rcases b with b|b
   .rw[b] at f
    go_enter func128,ntmps128
    go_wp2
    go_ret
    exact⟨rfl,n.out⟩
   .rw[b] at f
    go_enter func128,ntmps128
    go_wp2
    go_ret
    exact⟨rfl,n.out⟩
  .rw[if_neg c,if_neg c]
   have g1:(j.state==1)=false:=by rw[b];simpa using c
   have g3:(j.state==3)=false:=by rw[b];simpa using y
   generalize j.state=st at f g1 g3;go_enter func128,ntmps128
   go_wp2
   go_ret
   exact⟨rfl,o.out⟩
 | false =>
  rw[if_neg (show ¬(false=true) by decide),if_neg (show ¬(false=true) by decide)]
  by_cases d:j.stage=2
  .rw[if_pos d,if_pos d]
   have t:j.state=2:=by
    rcases l with⟨c,_⟩|⟨c,b⟩
    .omega
    .rw[b,d]
   rw[t] at f;go_enter func128,ntmps128
   go_wp2_with fail
   refine q.out.mono ?_;rintro e k ⟨rfl,v,A⟩;have B:Hid (dP g xp a cap qs s s m C (j.at 1) w k):=dP.of v rfl (((h.og 1).2).trans A);go_wp2
   go_ret
   exact⟨rfl,B.out⟩
  .rw[if_neg d,if_neg d]
   have g2:(j.state==2)=false:=by
    rcases l with⟨c,b|b⟩|⟨c,b⟩
    .rw[b];rfl
    .rw[b];rfl
    .rw[b];simpa using d
   generalize j.state=st at f g2;go_enter func128,ntmps128
   go_wp2
   go_ret
   exact⟨rfl,o.out⟩
def QJ{xp f cap m C:Nat}{a:Option Addr}{qs:Nat->Qh}{s:SV}{j:JV}(c:Int)(w:ω)(h:RJ w f xp a cap qs s m C j j.state) :
  κ prog 116 #[xp,c] w λe g=>e=.returned (.tuple #[])/\dP f xp a cap qs s s m C (dW j c) w g:=by
 obtain⟨H,c2,c3,J,F,L,l,G,M⟩:=h.job.cells;have v:=JV.yP j;have t:Hid (dP f xp a cap qs s s m C j w w):=dP.below h (ja0 _ _);have o:=ah (S4.BA c true w h.job.qM h.ok.n64);have q:=ah (h.qG c true);have y:Hid (pO j.state (S4.cnt (S4.eY j.n j.x c true) 64)=(j.put (S4.eY j.n j.x c true)).state):=U9 h.ok.st3;have D:Hid (∀ W:ω,RJ W f xp a cap qs s m C (j.put _) j.state->dZ qs s xp w qs s W->κ prog 183 _ W λe g=>e=.returned _/\dP f xp a cap qs s s m C _ w g):=λW A B=>(BM W A).mono λe g ⟨d,z,i⟩=>⟨d,dP.of z y.out (B.trans i)⟩
 unfold dW;by_cases i:4<=j.stage
 .rw[if_pos (.inr i)]
  have k:decide (j.state<4)=false:=by
   rcases v with⟨d,_⟩|⟨d,b⟩
   .omega
   .rw[b];exact decide_eq_false (by omega)
  generalize j.state=st at l k;go_enter func116,ntmps116
  go_wp2
  go_end0
  exact⟨rfl,t.out⟩
 .have k:decide (j.state<4)=true:=by
   rcases v with⟨d,b|b⟩|⟨d,b⟩
   .rw[b];rfl
   .rw[b];rfl
   .rw[b];exact decide_eq_true (by omega)
  by_cases u:j.kind=2
  .rw[if_pos (.inl u)]
   generalize j.state=st at l k;go_enter func116,ntmps116
   go_wp2
   go_end0
   exact⟨rfl,t.out⟩
  .rw[if_neg (by rintro(e|e);exact u e;exact i e)]
   have r:=ah (D.out _ q.out.1 q.out.2);generalize (if S4.fK j.n j.x c true=true then w.setCell _ _ else w)=W1 at o r
   generalize S4.fK j.n j.x c true=I at o;generalize j.state=st at l k;go_enter func116,ntmps116
   go_wp2_with fail
   refine cSt o.out ?_;go_wp2_with fail
   refine cHd r.out λK E=>?_
   go_wp2
   go_end0
   exact⟨rfl,E.out⟩
def ptV(p:Pt):List Value:=[.int .i64 (p.c:Int),.int .i64 (p.f:Int),.int .i64 (p.n:Int),.int .i64 (p.a:Int)]
def kR(l:List Pt):List Value:=(l.map ptV).flatten
def QB(l:List Pt)(p:Pt):kR (l++[p])=kR l++ptV p:=by simp[kR]
def N7:(prog.info? 224).map (λi=>(i.zero,i.size,i.bytes))=S (S (.agg #[(0:Int),(0:Int),(0:Int),(0:Int)]),4,32):=by kernel_rfl
structure PartsAt(w:ω)(fr n:Nat)(l:List Pt)(k:Nat)(a:Option Addr)(cap:Nat)(wr:ω):Prop where
 own:wr.ownsRow w.heap.size 224 4 (.slice a l.length cap) l.length (kR l)
 go:l++aV fr n k=aV fr n 0
 le:k<=n
 len:l.length<=k
 bel:β w w wr
def Bl(fr n:Nat)(w:ω)(ac:fr+n<=1000) :
    κ prog 167 #[(fr:Int),(n:Int)] w λe F =>
      ∃(a:Option Addr) (cap:Nat),e=.returned (.slice a (aV fr n 0).length cap)/\F.ownsRow w.heap.size 224 4 (.slice a (aV fr n 0).length cap) (aV fr n 0).length (kR (aV fr n 0))/\β w w F:=by
  obtain⟨i1,Q,a7,Z,R⟩:=info_parts N7;have a8:Hid (PartsAt w fr n [] 0 none 0 w):=⟨jae _ _ _ _,rfl,ja5 _,ja5 _,ja0 _ _⟩;have a1:Hid (∀ k,¬k<n->aV fr n k=[]):=λk d=>rQ d
  have a6:Hid (∀ k,k<n->aV fr n k=aG fr n k::aV fr n (k+(aG fr n k).n)):=λk d=>qE d
  have W:Hid (∀ k,k<n->1<=(aG fr n k).n/\(aG fr n k).f+(aG fr n k).n<=4/\k+(aG fr n k).n<=n):=λk d=>nV d
  go_enter func167,ntmps167
  go_wp2
  go_loopw [5,6] (λu i wr=>∃(l:List Pt) (k:Nat) (a:Option Addr) (cap:Nat),u=.slice a l.length cap/\i=.int .i64 (k:Int)/\PartsAt w fr n l k a cap wr) (λ_ i _=>n-(intOf i).toNat)
  case atStart=>exact⟨[],0,none,0,rfl,rfl,a8.out⟩
  case round =>
    obtain⟨l,k,a,cap,rfl,rfl,b⟩:=hrel;have a9:=b.le;have ab:=b.len;by_cases t:k<n
    . have G:Hid ((l++[aG fr n k])++aV fr n (k+(aG fr n k).n)=aV fr n 0):=by
        unfold Hid;rw[<- b.go,a6.out k t];simp
      have O:=ah b.own;have m:=ah b.bel;have T:Hid (l.length+1<=maxLen):=by unfold Hid maxLen;omega
      obtain⟨m1,S,H⟩:=W.out k t
      have D:Hid (ptV (aG fr n k)=[.int .i64 (((fr:Int)+(k:Int)) / 4),.int .i64 (((fr:Int)+(k:Int)) % 4),.int .i64 (min (4-((fr:Int)+(k:Int)) % 4) ((n:Int)-(k:Int))),.int .i64 (k:Int)]):=by
        unfold Hid ptV;have q:((aG fr n k).c:Int)=((fr:Int)+(k:Int)) / 4:=by show(((fr+k) / 4:Nat):Int)=_;omega
        have Y:((aG fr n k).f:Int)=((fr:Int)+(k:Int)) % 4:=by show(((fr+k) % 4:Nat):Int)=_;omega
        have e3:((aG fr n k).n:Int)=min (4-((fr:Int)+(k:Int)) % 4) ((n:Int)-(k:Int)):=by show((min (4-(fr+k) % 4) (n-k):Nat):Int)=_;omega
        rw[q,Y,e3];rfl
      have v:Hid (min (4-((fr:Int)+(k:Int)) % 4) ((n:Int)-(k:Int))=((aG fr n k).n:Int)):=by
        unfold Hid;show _=((min (4-(fr+k) % 4) (n-k):Nat):Int)
        omega
      generalize hp:aG fr n k=p at G m1 S H D v;have aa:(0:Int)<=(fr:Int)+(k:Int):=by omega
      have k1:IntKind.i64.wrap ((fr:Int)+(k:Int))=(fr:Int)+(k:Int):=ja7 _ (by omega)
      have k2:(0:Int)<=((fr:Int)+(k:Int)) % 4:=by omega
      obtain⟨C,E⟩:∃ C:Array υ,C = #[.int .i64 (((fr:Int)+(k:Int)) / 4),.int .i64 (((fr:Int)+(k:Int)) % 4),.int .i64 (min (4-((fr:Int)+(k:Int)) % 4) ((n:Int)-(k:Int))),.int .i64 (k:Int)]:=⟨_,rfl⟩;have z:Hid (((wr.alloc (.cells C 224)).alloc (.cells C 224)).ownsRow w.heap.size 224 4 (.slice a l.length cap) l.length (kR l)):=(O.out.alloc _).alloc _;have o:Hid (((wr.alloc (.cells C 224)).alloc (.cells C 224)).heap.size=wr.heap.size+2):=by unfold Hid;simp
      have x:Hid (w.heap.size<=((wr.alloc (.cells C 224)).alloc (.cells C 224)).heap.size):=by unfold Hid;have:=m.out.size;rw[o.out];omega
      have a5:((wr.alloc (.cells C 224)).alloc (.cells C 224)).heap[wr.heap.size+1]?=some (.cells C 224 (0,0)):=by
        have:=heap_alloc_new (wr.alloc (.cells C 224)) (.cells C 224)
        rw[show(wr.alloc (.cells C 224)).heap.size=wr.heap.size+1 by simp] at this;exact this
      have P:Hid (((wr.alloc (.cells C 224)).alloc (.cells C 224)).heap[wr.heap.size]?=some (.cells C 224 (0,0))):=by unfold Hid;rw[jam _ _ _ (by simp),heap_alloc_new]
      have L:Hid (∀ j y,([.int .i64 (((fr:Int)+(k:Int)) / 4),.int .i64 (((fr:Int)+(k:Int)) % 4),.int .i64 (min (4-((fr:Int)+(k:Int)) % 4) ((n:Int)-(k:Int))),.int .i64 (k:Int)]:List υ)[j]?=some y->((wr.alloc (.cells C 224)).alloc (.cells C 224)).cell? ((⟨wr.heap.size+1,0,none⟩:Addr).add j)=some y):=by
        have:=jbt a5
        rw[E] at this |-;exact this
      have I:Hid (β w w ((wr.alloc (.cells C 224)).alloc (.cells C 224))):=(m.out.alloc m.out.size _).alloc (by have:=m.out.size;simp;omega) _
      have a2:Hid (some wr.heap.size≠(Value.slice a l.length cap).ownBlock):=λe=>by have:=(O.out.lt _ e.symm).2;omega
      rw[E] at z o x P L I
      go_wp2_with (at_builtin;refine wpList_append_lies _ (by rfl) _ _ 221 (by rfl) w.heap.size 224 i1 (.agg #[(0:Int),(0:Int),(0:Int),(0:Int)]) 4 32 underlying221 Q a7 Z R rfl (by decide) (.slice a l.length cap) l.length (kR l) (by rfl) z.out ⟨wr.heap.size+1,0,none⟩ 1 1 [(((fr:Int)+(k:Int)) / 4:Int),(((fr:Int)+(k:Int)) % 4:Int),(min (4-((fr:Int)+(k:Int)) % 4) ((n:Int)-(k:Int)):Int),(k:Int)] (by rfl) (by rfl) L.out (λu M=>by simp at M;rcases M with rfl|rfl|rfl|rfl<;>rfl) (by decide) T.out (by omega) x.out (wr.heap.size+2) o.out ?_
                   intro g N s B A V U;have X:Hid (β w w s):=I.out.grown A x.out (λr e=>(z.out.lt r e).1)
                   have a3:=ah B;have J  := (A.block _ (by rw[o.out];omega) a2.out).trans P.out
                   have d2:s.cell? ⟨wr,2,none⟩=some (.int .i64 (min (4-((fr:Int)+(k:Int)) % 4) ((n:Int)-(k:Int)))):=by rw[cell_of_row _ _ _ _ _ _ J];rfl
                   clear B A V U J)
      have a4:Hid (PartsAt w fr n (l++[p]) (k+p.n) (some ⟨g,0,none⟩) N s):=by
        have q:(l++[p]).length=l.length+1:=by simp
        refine⟨?_,G.out,H,by rw[q];omega,X.out⟩
        rw[q,QB,D.out];exact a3.out
      go_roundw
      case rel =>
        exact⟨l++[p],k+p.n,some ⟨g,0,none⟩,N,by simp,by rw[v.out];go_num,a4.out⟩
      case measure =>
        have:=v.out
        simp[intOf]
        omega
    . have a0:k=n:=by omega
      subst a0;have K:Hid (l=aV fr k 0):=by unfold Hid;rw[<- b.go,a1.out k t,List.append_nil]
      go_wp2
      go_ret
      exact⟨a,cap,by rw[<- K.out];rfl,by rw[<- K.out];exact b.own,b.bel⟩
