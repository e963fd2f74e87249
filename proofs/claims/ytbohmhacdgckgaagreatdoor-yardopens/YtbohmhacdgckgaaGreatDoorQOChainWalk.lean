/- An image made anew, of whatever head: the program's, and the document's. -/
import Derived.Test.YtbohmhacdgckgaaGreatDoorQORimCreate2
set_option linter.all false
set_option maxHeartbeats 2000000
set_option maxRecDepth 100000
namespace Go.Proofs.YtbohmhacdgckgaaGreatDoor
open Go.RowKit renaming Below->β
open Go renaming World->ω, Value->υ, Calls->κ
open Option renaming none->O, some->S
open Go.Proofs.Tryz Go.RowKit Go.Maps
attribute [local go_sem ↓] Go.wp_at_zero Go.wp_at_succ
def DL{d:DV}{h:HV}(a:¬(h.ok=true/\aQ h<=d.fl.length)):crF d h=1:=by
 unfold crF
 simp_all
def KU(d:DV)(h:HV):0<=crF d h:=by
 unfold crF;split
 .split
  .decide
  .split
   .exact vC _
   .next b =>
    have:∀ k,0<=(d.dG _ k).2:=λk=>by
     induction k with
     | zero=>exact jb4 0
     | succ k a =>
      by_cases e:(d.dG (crT h) k).2=0
      .rw[DV.qK e];exact vC _
      .rw[DV.vH e _ (by omega)];exact a
    exact this _
 .decide
def DX{B:Gd}{m:Nat}{h:Hd}{d:DV}(c p b:Int)(w:ω)(hd:bQ B w h d)(i:d.fine d.fl.length m)(l:m+20<1000000000)(n:B.top<=w.heap.size) :
  κ prog 30 #[h.p,.agg #[c,p,b]] w λe f =>
   ∃ x:Ih,x.h.p=h.p/\w.heap.size<=x.tb/\aX B x.tb w f/\((crF d ⟨c,p,b⟩=0/\e=.returned (.tuple #[x.p,.nilIface])/\aH B f x (crV d ⟨c,p,b⟩)/\HV.ok ⟨c,p,b⟩=true/\aQ ⟨c,p,b⟩<=d.fl.length) \/
    (crF d ⟨c,p,b⟩≠0/\e=.returned (.tuple #[.pointer O,erV (crF d ⟨c,p,b⟩)])/\bQ B f x.h (iQ d ⟨c,p,b⟩))):=by
 by_cases a:HV.ok ⟨c,p,b⟩=true/\aQ ⟨c,p,b⟩<=d.fl.length
 .have g:=HV.dK a.1
  simp only at g;obtain⟨j,rfl⟩:∃ j:Nat,c=(j:Int):=⟨c.toNat,by omega⟩
  refine(KZ j p b w hd i l n a.1 a.2).mono ?_
  simp_all
 .refine cEq (KY c p b w hd a) λf g=>?_
  rw[DL a];refine⟨⟨0,h,w.heap.size,0,0⟩,rfl,ja1 _,aX.of_below g,.inr ⟨by decide,by rw[eu],?_⟩⟩
  unfold iQ;rw[if_neg a];exact hd.keep λk i=>g.block k (hd.lt k i).2
def DY{B:Gd}{m:Nat}{q:Rh}{d:DV}(c p b:Int)(w:ω)(hd:bZ B w q d)(h:d.fine d.fl.length m)(j:m+20<1000000000)(l:B.top<=w.heap.size) :
  κ prog 37 #[q.p,.agg #[c,p,b]] w λe f =>
   ∃ r:Qh,r.d.p=q.p/\(∀ k,r.vt.ownBlock=S k->w.heap.size<=k)/\fA B w f/\((crF d ⟨c,p,b⟩=0/\e=.returned (.tuple #[r.p,(0:Int)])/\aS B f r (crV d ⟨c,p,b⟩)) \/
    (crF d ⟨c,p,b⟩≠0/\e=.returned (.tuple #[.pointer O,crF d ⟨c,p,b⟩])/\bZ B f r.d (iQ d ⟨c,p,b⟩))):=by
 by_cases a:HV.ok ⟨c,p,b⟩=true/\aQ ⟨c,p,b⟩<=d.fl.length
 .have g:=HV.dK a.1
  simp only at g;obtain⟨i,rfl⟩:∃ i:Nat,c=(i:Int):=⟨c.toNat,by omega⟩
  refine(Lc i p b w hd h j l a.1 a.2).mono ?_
  simp_all
 .refine cEq (La c p b w hd a) λf g=>?_
  rw[DL a];exact⟨⟨0,q,.slice O 0 0,.slice O 0 0⟩,rfl,λk e=>(by cases e),fA.of_below g,.inr ⟨by decide,rfl,by unfold iQ;rw[if_neg a];exact hd.keep λk h=>g.block k (hd.lt k h).2⟩⟩
def Qx(d:DV)(a k:Nat):bytesOf (jO d a k)++bytesOf (d.seen.getD (a+k) [])=bytesOf (jO d a (k+1)):=Dn _ _
def Rj{B:Gd}{m:Nat}{q:Qh}{v:IV}(c:Int)(w:ω)(h:aS B w q v)(f:v.ok m) :
    κ prog 187 #[q.p,c] w λe o =>
      e=.returned (.tuple #[.string (bytesOf (v.fZ c)),v.iI c])/\β w w o:=by
  have C:=ah (sF c w h f.len)
  cases l:v.there c with
  | false =>
    have s:Hid (v.fZ c=[]):=by unfold Hid IV.fZ;rw[l];rfl
    have z:Hid (v.iI c=1):=by unfold Hid IV.iI;rw[l];rfl
    rw[l] at C;go_enter func187,ntmps187
    go_wp2_with (go_at_call 185;refine cSt C.out ?_)
    go_ret2
    exact⟨by rw[s.out,z.out];rfl,ja0 _ _⟩
  | true =>
    rw[l] at C;obtain⟨ar,L⟩:=IV.nP l;obtain⟨a,rfl⟩:∃ a:Nat,c=(a:Int):=⟨c.toNat,by omega⟩
    obtain⟨g,cap,hv,ap,t0,t1⟩:=h.jA (c:=a) (by omega)
    obtain⟨c0,_,_,_,c4,_,_⟩:=h.cells;rw[hv] at c4;have ac:Hid (v.ent (a:Int)=v.t.getD a (0,0)):=rfl;rw[<- ac.out] at t0 t1;have am:=jh (f.ent l);by_cases I:(v.ent (a:Int)).1=0
    . have s:Hid (v.fZ (a:Int)=[]):=by unfold Hid IV.fZ;rw[l,if_pos rfl,if_neg (by omega),if_neg (by omega)]
      have z:Hid (v.iI (a:Int)=4):=by unfold Hid IV.iI;rw[l,if_pos rfl,if_pos I]
      rw[I] at t0;generalize v.t.length=n at c4 L;go_enter func187,ntmps187
      go_wp2_with (go_at_call 185;refine cSt C.out ?_)
      go_ret2
      exact⟨by rw[s.out,z.out];rfl,ja0 _ _⟩
    . have z:Hid (v.iI (a:Int)=0):=by unfold Hid IV.iI;rw[l,if_pos rfl,if_neg I]
      by_cases V:(v.ent (a:Int)).1=1
      . have s:Hid (bytesOf (v.fZ (a:Int))=bytesOf (List.replicate 64 0)):=by unfold Hid IV.fZ;rw[l,if_pos rfl,if_neg (by omega),if_pos V];rfl
        have U:=ah λW=>xQ 64 W (by omega)
        rw[V] at t0;generalize bytesOf (List.replicate 64 0)=S at s U;generalize v.t.length=n at c4 L;go_enter func187,ntmps187
        go_wp2_with (go_at_call 185;refine cSt C.out ?_)
        refine cEq (U.out _) λw1 ai=>?_
        go_wp2
        go_ret2
        exact⟨by rw[s.out,z.out];rfl,ai⟩
      . have H:(v.ent (a:Int)).1=2:=by omega
        obtain⟨p0,p1,Y⟩:=f.place l H;have av:=HV.dK f.h;have ax:=f.d.ok.n2;have ao:=f.d.ok.few;have aw:=f.d.ok.few2;have s:Hid (bytesOf (v.fZ (a:Int))=bytesOf (jO v.d (dw v.h (v.ent (a:Int)).2.toNat) 4)):=by unfold Hid IV.fZ;rw[l,if_pos rfl,if_pos H]
        have K:Hid (∀ W:ω,W.heap=w.heap->κ prog 235 #[q.p,.int .i64 (v.ent (a:Int)).2] W λe o=>e=.returned (dw v.h (v.ent (a:Int)).2.toNat:Int)/\o=W):=λW A=>by
          have:=Ad (v.ent (a:Int)).2.toNat W (h.keep (by rw[A]) (λ_ _=>by rw[A]) (λ_ _=>by rw[A]) λ_ _=>by rw[A]) f.h (by omega)
          rw[show(((v.ent (a:Int)).2.toNat:Nat):Int)=(v.ent (a:Int)).2 by omega] at this;exact this
        have X:Hid (∀(k:Nat) (W:ω),k<4->W.heap=w.heap->κ prog 81 #[q.d.p,((dw v.h (v.ent (a:Int)).2.toNat:Int)+(k:Int):Int)] W λe o=>e=.returned (.string (bytesOf (v.d.seen.getD (dw v.h (v.ent (a:Int)).2.toNat+k) [])))/\o=W):=λk W hk A=>by
          have:=uo (dw v.h (v.ent (a:Int)).2.toNat+k) W (h.dev.keep λ_ _=>by rw[A]).todA (by omega) (by omega)
          rw[<- BR f.d.sn _ (by omega),show(((dw v.h (v.ent (a:Int)).2.toNat+k:Nat):Int))=(dw v.h (v.ent (a:Int)).2.toNat:Int)+(k:Int) by omega] at this;exact this
        generalize dw v.h (v.ent (a:Int)).2.toNat=b at s K X Y;have ag:=ah λk=>Qx v.d b k
        have a6:Hid (bytesOf (jO v.d b 0)=⟨#[]⟩):=rfl
        have aa:Hid (∀ k,k<=4->(bytesOf (jO v.d b k)).size<=64):=λk F=>by
          have hl:∀ j,j<=4->(jO v.d b j).length=16*j:=λj hj=>by
            induction j with
            | zero=>rfl
            | succ j ih =>
              show(jO v.d b j++v.d.seen.getD (b+j) []).length=_
              rw[jak,ih (by omega)]
              have D:b+j<v.d.seen.length:=by have:=f.d.ok.same;omega
              have:(v.d.seen.getD (b+j) []).length=16:=by rw[ja6,ja8 D];exact f.d.ok.l2 _ (jac D)
              omega
          show(jO v.d b k).toArray.size<=64
          rw[jaO,hl k F];omega
        have a4:Hid (∀ k,k<4->(bytesOf (v.d.seen.getD (b+k) [])).size=16):=λk F=>by
          have D:b+k<v.d.seen.length:=by have:=f.d.ok.same;omega
          have:(v.d.seen.getD (b+k) []).length=16:=by rw[ja6,ja8 D];exact f.d.ok.l2 _ (jac D)
          show(v.d.seen.getD (b+k) []).toArray.size=16
          simpa using this
        obtain⟨r,G⟩:∃ r:Nat->ByteArray,r=λk=>bytesOf (jO v.d b k):=⟨_,rfl⟩
        obtain⟨y,M⟩:∃ y:Nat->ByteArray,y=λk=>bytesOf (v.d.seen.getD (b+k) []):=⟨_,rfl⟩
        have Z:Hid (∀ k,r k++y k=r (k+1)):=by rw[G,M];exact ag
        have a3:Hid (r 0=⟨#[]⟩):=by rw[G];exact a6
        have a0:Hid (∀ k,k<=4->(r k).size<=64):=by rw[G];exact aa
        have ae:Hid (∀ k,k<4->(y k).size=16):=by rw[M];exact a4
        have ab:Hid (bytesOf (v.fZ (a:Int))=r 4):=by rw[G];exact s
        have a1:Hid (∀(k:Nat) (W:ω),k<4->W.heap=w.heap->κ prog 81 #[q.d.p,((b:Int)+(k:Int):Int)] W λe o=>e=.returned (.string (y k))/\o=W):=by rw[M];exact X
        rw[H] at t0;generalize (v.ent (a:Int)).2=y1 at t1 K;generalize v.t.length=n at c4 L;have az:b<=196:=by omega
        go_enter func187,ntmps187
        go_wp2_with (go_at_call 185;refine cSt C.out ?_)
        go_loopw [6,7] (λu i wr=>∃(k:Nat) (x:ByteArray),k<=4/\i=.int .i64 k/\u=.string x/\Hid (x=r k)/\β w w wr/\wr.heap=w.heap) (λ_ i _=>4-(intOf i).toNat)
        case atStart=>exact⟨0,⟨#[]⟩,ja5 _,rfl,rfl,a3.out.symm,ja0 _ _,rfl⟩
        case round =>
          obtain⟨k,x,F,rfl,rfl,J,Q,E⟩:=hrel;have d0:wr.cell? ⟨q.p,0,none⟩=some (q.d.p:υ):=by rw[jad (w:=w) (by rw[E])];exact c0
          have d4:wr.cell? ⟨q.p,4,none⟩=some (.slice (some ⟨g,0,none⟩) n cap):=by rw[jad (w:=w) (by rw[E])];exact c4
          have dt:wr.cell? ⟨g,a*2+1,none⟩=some (y1:υ):=by rw[jad (w:=w) (by rw[E])];exact t1
          have a8:Hid (wr.drew.heap=w.heap):=E;have ad:Hid (β w w wr.drew):=Q.drew;by_cases T:k<4
          . have N:Hid (x++y k=r (k+1)):=by unfold Hid;rw[J.out];exact Z.out k
            have an:x.size<=64:=by rw[J.out];exact a0.out k F
            have O:=ae.out k T;have P:=ah (a1.out k);have kw:IntKind.i64.wrap ((b:Int)+(k:Int))=(b:Int)+(k:Int):=ja7 _ (by omega)
            generalize y k=R at N O P;have aq:¬9223372036854775807<x.size+R.size:=by omega
            clear O;go_wp2
            go_region_held3 (λW=>W.heap=w.heap/\β w w W/\W.cell? ⟨q.p,0,none⟩=some (q.d.p:υ)/\W.cell? ⟨q.p,4,none⟩=some (.slice (some ⟨g,0,none⟩) n cap)/\W.cell? ⟨g,a*2+1,none⟩=some (y1:υ))
              (first|(exact⟨a8.out,ad.out,d0,d4,dt⟩)|assumption)
              (first
                | (go_at_call 235;refine(K.out _ (by assumption:_/\β w w _/\_).1).mono ?_;rintro e o ⟨rfl,rfl⟩)
                | (go_at_call 81;refine(P.out _ T (by assumption:_/\β w w _/\_).1).mono ?_;rintro e o ⟨rfl,rfl⟩))
            all_goals
              obtain⟨a9,al,_⟩:=(by assumption:_/\β w w _/\_)
              have a5:=ah a9;have af:=ah al;go_wp2
              go_roundw
              case rel =>
                exact⟨k+1,x++R,by omega,by go_num,rfl,N.out,af.out,a5.out⟩
              case measure=>simp[intOf];omega
          . have a2:k=4:=by omega
            subst a2;have a7:=ah Q;go_wp2
            go_ret2
            exact⟨by rw[ab.out,z.out,<- J.out];rfl,a7.out⟩
def Kept.of4{S:Nat->Prop}{w a:ω}(h:S4.Kept S w a):Kept S w a:=⟨h.os,h.tape,h.output,h.size,h.block⟩
structure iG(w:ω)(jp sp lp bp:Nat)(a:Option Addr)(cap:Nat)(j:JV):Prop where
 blk:w.heap[jp]?=S (.cells #[.pointer (S ⟨sp,6,O⟩),.slice a j.l.length cap,j.kind,j.file,j.stage,lp,bp,j.last] 254 (0,0))
 set:S4.iq w lp j.n j.x
 bkt:S4.Three 280 w bp j.rate j.burst j.lv
def iG.cells{w:ω}{b sp c bp cap:Nat}{a:Option Addr}{j:JV}(h:iG w b sp c bp a cap j) :
  w.cell? ⟨b,0,O⟩=S (.pointer (S ⟨sp,6,O⟩))/\w.cell? ⟨b,1,O⟩=S (.slice a j.l.length cap)/\w.cell? ⟨b,2,O⟩=S (j.kind:υ)/\w.cell? ⟨b,3,O⟩=S (j.file:υ)/\w.cell? ⟨b,4,O⟩=S (j.stage:υ)/\w.cell? ⟨b,5,O⟩=S (c:υ)/\w.cell? ⟨b,6,O⟩=S (bp:υ)/\w.cell? ⟨b,7,O⟩=S (j.last:υ)/\w.frozen? ⟨b,4,O⟩=false/\w.frozen? ⟨b,7,O⟩=false:=by
 refine⟨?_,?_,?_,?_,?_,?_,?_,?_,?_,?_⟩<;>simp[World.cell?,World.frozen?,h.blk]
def iG.ne{w:ω}{c sp b bp cap:Nat}{a:Option Addr}{j:JV}(h:iG w c sp b bp a cap j):c≠b/\c≠bp/\b≠bp:=by
 have f  := h.blk;have d:w.heap[b]?=_:=h.set;have g  := h.bkt;refine⟨λe=>?_,λe=>?_,λe=>?_⟩
 .simp_all
 .rw[e,g] at f;simp at f
 .rw[e,g] at d;simp at d
def iG.lts{w:ω}{b sp c bp cap:Nat}{a:Option Addr}{j:JV}(h:iG w b sp c bp a cap j):b<w.heap.size/\c<w.heap.size/\bp<w.heap.size:=⟨lt_of_some h.blk,lt_of_some h.set,lt_of_some h.bkt⟩
def iG.keep{w b:ω}{c sp d bp cap:Nat}{a:Option Addr}{j:JV}(h:iG w c sp d bp a cap j)(g:b.heap[c]?=w.heap[c]?)(f:b.heap[d]?=w.heap[d]?)(i:b.heap[bp]?=w.heap[bp]?):iG b c sp d bp a cap j:=⟨g.trans h.blk,f.trans h.set,i.trans h.bkt⟩
def fpP(b:Nat->Ih)(s:SV)(c a bp:Nat)(k:Nat):Prop:=fpS b s k\/k=c\/k=a\/k=bp
structure PJ(w:ω)(sp jp lp bp:Nat)(a:Option Addr)(cap:Nat)(xs:Nat->Ih)(s:SV)(m C:Nat)(j:JV):Prop where
 shelf:bD w sp xs s m
 job:iG w jp sp lp bp a cap j
 nums:Nums w a j.l
 ap:Apart a (fpP xs s jp lp bp)
 ok:JOk s C j
 cap:j.l.length<=cap
theorem PJ.gQ{w:ω}{sp c f bp cap m C:Nat}{a:Option Addr}{d:Nat->Ih}{s:SV}{j:JV}(h:PJ w sp c f bp a cap d s m C j){k:Nat}(b:fpP d s c f bp k):k<w.heap.size:=by
 obtain⟨g,i,l⟩:=h.job.lts;rcases b with b|rfl|rfl|rfl
 .exact h.shelf.gQ b
 .exact g
 .exact i
 .exact l
def PJ.not{w:ω}{sp d f bp cap m C:Nat}{a:Option Addr}{b:Nat->Ih}{s:SV}{j:JV}(h:PJ w sp d f bp a cap b s m C j):¬fpS b s d/\¬fpS b s f/\¬fpS b s bp/\¬fpP b s d f bp sp :=
 ⟨h.shelf.rO h.job.blk (by decide),h.shelf.rO h.job.set (by decide),h.shelf.rO h.job.bkt (by decide),by
  obtain⟨i,c⟩:=h.shelf.is;have g:=h.job.blk;rintro(e|e|e|e)
  .exact h.shelf.rP e
  .simp_all
  .rw[e,h.job.set] at c;simp at c
  .rw[e,h.job.bkt] at c;simp at c⟩
theorem PJ.beside{S n:Nat->Prop}{w i:ω}{sp d g bp cap m C:Nat}{a:Option Addr}{f:Nat->Ih}{s:SV}{j:JV}(h:PJ w sp d g bp a cap f s m C j)(b:Moved S w n i)(l:¬S sp)(c:∀ k,fpP f s d g bp k->¬S k)(t:Apart a S):PJ i sp d g bp a cap f s m C j:=by
 obtain⟨q,r,u⟩:=h.job.lts;exact⟨h.shelf.beside b l (λk o=>c k (.inl o)),h.job.keep (b.block q (c _ (.inr (.inl rfl)))) (b.block r (c _ (.inr (.inr (.inl rfl))))) (b.block u (c _ (.inr (.inr (.inr rfl))))),h.nums.moved b t,h.ap,h.ok,h.cap⟩
def PJ.below{w b:ω}{sp c d bp cap m C:Nat}{a:Option Addr}{f:Nat->Ih}{s:SV}{j:JV}(h:PJ w sp c d bp a cap f s m C j)(g:β w w b):PJ b sp c d bp a cap f s m C j :=
 h.beside (Moved.of_below  g) (λe=>e) (λ_ _ e=>e) (λ_ _ _ e=>e)
theorem PJ.more{w:ω}{sp b c bp cap m m' C:Nat}{a:Option Addr}{d:Nat->Ih}{s:SV}{j:JV}(h:PJ w sp b c bp a cap d s m C j)(f:m<=m'):PJ w sp b c bp a cap d s m' C j :=
 ⟨h.shelf.more f,h.job,h.nums,h.ap,h.ok,h.cap⟩
def PJ.kL{w l:ω}{sp c f bp cap m m' C:Nat}{a:Option Addr}{n i:Nat->Ih}{s z:SV}{j:JV}(h:PJ w sp c f bp a cap n s m C j)(B:bD l sp i z m')(d:Moved (fpS n s) w (fpS i z) l)(A:s.alike z) :
  PJ l sp c f bp a cap i z m' C j/\Moved (fpP n s c f bp) w (fpP i z c f bp) l:=by
 obtain⟨y,D,u,_⟩:=h.not;obtain⟨v,x,E⟩:=h.job.lts
 have r:Moved (fpP n s c f bp) w (fpP i z c f bp) l:=⟨d.kept.mono λk _ b=>.inl b,λk b=>by
  rcases b with b|b
  .rcases d.new k b with q|q
   .exact .inl (.inl q)
   omega
  .exact .inl (.inr b)⟩
 exact⟨⟨B,h.job.keep (d.block v y) (d.block x D) (d.block E u),h.nums.moved d (λg o e t=>h.ap g o e (.inl t)),h.ap.moved h.nums h.ok.ne r,h.ok.over A,h.cap⟩,r⟩
def PJ.own{w f:ω}{sp b c bp cap m C:Nat}{a:Option Addr}{g:Nat->Ih}{s:SV}{j j':JV}(h:PJ w sp b c bp a cap g s m C j)(d:Kept (λk=>k=b\/k=c\/k=bp) w f)(u:iG f b sp c bp a cap j')(o:j'.l=j.l)(t:JOk s C j') :
  PJ f sp b c bp a cap g s m C j'/\Moved (fpP g s b c bp) w (fpP g s b c bp) f:=by
 obtain⟨v,x,q,r⟩:=h.not;have n:Moved (fpP g s b c bp) w _ f:=⟨d.mono λk _ d=>.inr d,λk d=>.inl d⟩
 refine⟨⟨h.shelf.keep (n.block (h.shelf.lt) r) (λk i=>d.block k (h.shelf.gQ i) (λe=>?_)),u,by rw[o];exact h.nums.moved n h.ap,h.ap,t,by rw[o];exact h.cap⟩,n⟩
 rcases e with rfl|rfl|rfl
 .exact v i
 .exact x i
 .exact q i
def iG.oL{w:ω}{b sp c bp cap:Nat}{a:Option Addr}{j:JV}(h:iG w b sp c bp a cap j)(st:Int):iG (w.setCell ⟨b,4,O⟩ st) b sp c bp a cap (j.at st):=by
 obtain⟨f,d,g⟩:=h.ne;exact⟨by rw[heap_setCell_same w b 4 _ _ _ h.blk];rfl,(heap_setCell_other w _ c _ (jaF f)).trans h.set,(heap_setCell_other w _ bp _ (jaF d)).trans h.bkt⟩
theorem PJ.oL{w:ω}{sp b c bp cap m C:Nat}{a:Option Addr}{d:Nat->Ih}{s:SV}{j:JV}(h:PJ w sp b c bp a cap d s m C j){st:Int}(f:st=1\/st=2\/st=4\/st=5) :
  PJ (w.setCell ⟨b,4,O⟩ st) sp b c bp a cap d s m C (j.at st)/\Moved (fpP d s b c bp) w (fpP d s b c bp) (w.setCell ⟨b,4,O⟩ st) :=
 h.own (Kept.setCell (Kept.refl _ w) (.inl (.inl rfl)) _) (h.job.oL st) rfl (h.ok.at f)
def PJ.qG{w g:ω}{sp f d bp cap m C:Nat}{a:Option Addr}{i:Nat->Ih}{s:SV}{j:JV}(h:PJ w sp f d bp a cap i s m C j){c:Int}{b:Bool}(t:S4.iq g d j.n (S4.eY j.n j.x c b))(l:S4.Kept (λk=>k=d) w g) :
  PJ g sp f d bp a cap i s m C (j.put (S4.eY j.n j.x c b))/\Moved (fpP i s f d bp) w (fpP i s f d bp) g:=by
 obtain⟨r,y,o⟩:=h.job.ne;obtain⟨q,v,u⟩:=h.job.lts;exact h.own ((Kept.of4 l).mono λk _ e=>.inr (.inl e)) ⟨(l.block f q r).trans h.job.blk,t,(l.block bp u (jaF o)).trans h.job.bkt⟩ rfl (h.ok.put c b)
def PJ.rU{w f:ω}{sp c d bp cap m C:Nat}{a:Option Addr}{g:Nat->Ih}{s:SV}{j:JV}(h:PJ w sp c d bp a cap g s m C j){b:Int}(r:S4.Three 280 f bp j.rate j.burst b)(i:S4.Kept (λk=>k=bp) w f)(l:0<=b/\b<=j.burst) :
  PJ f sp c d bp a cap g s m C {j with lv:=b}/\Moved (fpP g s c d bp) w (fpP g s c d bp) f:=by
 obtain⟨u,t,n⟩:=h.job.ne;obtain⟨o,q,v⟩:=h.job.lts;exact h.own ((Kept.of4 i).mono λk _ e=>.inr (.inr e)) ⟨(i.block c o t).trans h.job.blk,(i.block d q n).trans h.job.set,r⟩ rfl {h.ok with lv:=⟨l.1,l.2,h.ok.lv.2.2⟩}
def iG.BU{w:ω}{b sp d bp cap:Nat}{a:Option Addr}{j:JV}(h:iG w b sp d bp a cap j)(c:Int):iG (w.setCell ⟨b,7,O⟩ c) b sp d bp a cap {j with last:=c}:=by
 obtain⟨g,f,i⟩:=h.ne;exact⟨by rw[heap_setCell_same w b 7 _ _ _ h.blk];rfl,(heap_setCell_other w _ d _ (jaF g)).trans h.set,(heap_setCell_other w _ bp _ (jaF f)).trans h.bkt⟩
theorem PJ.BU{w:ω}{sp b d bp cap m C:Nat}{a:Option Addr}{f:Nat->Ih}{s:SV}{j:JV}(h:PJ w sp b d bp a cap f s m C j){c:Int}(g : -1<=c/\c<64) :
  PJ (w.setCell ⟨b,7,O⟩ c) sp b d bp a cap f s m C {j with last:=c}/\Moved (fpP f s b d bp) w (fpP f s b d bp) (w.setCell ⟨b,7,O⟩ c) :=
 h.own (Kept.setCell (Kept.refl _ w) (.inl (.inl rfl)) _) (h.job.BU c) rfl {h.ok with last:=g}
def cO(sp b c bp:Nat)(a:Option Addr)(cap:Nat)(g:Nat->Ih)(s z:SV)(m C:Nat)(j:JV)(w f:ω):Prop:=∃ d,PJ f sp b c bp a cap d z m C j/\Moved (fpP g s b c bp) w (fpP d z b c bp) f
theorem cO.refl{w:ω}{sp c d bp cap m C:Nat}{a:Option Addr}{b:Nat->Ih}{s:SV}{j:JV}(h:PJ w sp c d bp a cap b s m C j):cO sp c d bp a cap b s s m C j w w:=⟨b,h,Moved.refl _ _⟩
theorem cO.below{w c:ω}{sp d f bp cap m C:Nat}{a:Option Addr}{b:Nat->Ih}{s:SV}{j:JV}(h:PJ w sp d f bp a cap b s m C j)(g:β w w c):cO sp d f bp a cap b s s m C j w c:=⟨b,h.below g,Moved.of_below g⟩
def cO.after{w d f:ω}{sp b c bp cap m C:Nat}{a:Option Addr}{i g:Nat->Ih}{s k z:SV}{j:JV}(o:Moved (fpP i s b c bp) w (fpP g k b c bp) d)(h:cO sp b c bp a cap g k z m C j d f):cO sp b c bp a cap i s z m C j w f:=by
 obtain⟨l,q,n⟩:=h;exact⟨l,q,o.trans n⟩
def rjC(b:Nat)(a:Option Addr)(cap:Nat)(j:JV)(is:Int)(i:Nat):Value :=
 if i=0 then .pointer (S ⟨b,0,O⟩) else if i=1 then .int .i64 j.rt else if i=2 then .int .i64 j.kind else if i=3 then .int .i64 j.file else if i=4 then .int .i64 j.rate else if i=5 then .int .i64 j.burst else if i=6 then .slice a j.l.length cap else if i=7 then .int .i64 (j.deep:Int) else if i=8 then .int .i64 (j.n:Int) else if i<73 then .bool (j.x.testBit (i-9)) else if i=73 then .int .i64 j.last else if i=74 then .int .i64 is else if i=75 then .int .i64 j.rate else if i=76 then .int .i64 j.burst else if i=77 then .int .i64 j.lv else .bool false
structure bK(w:ω)(xp mp:Nat)(a:Option Addr)(cap:Nat)(j:JV)(is:Int):Prop where
 blk:∃ cur:Array υ,w.heap[xp]?=S (.cells cur 198 (0,0))/\cur.size=78/\∀ i,i<78->cur[i]?=S (rjC mp a cap j is i)
def bK.lt{w:ω}{xp c cap:Nat}{a:Option Addr}{j:JV}{is:Int}(h:bK w xp c a cap j is):xp<w.heap.size:=by
 obtain⟨d,b,_⟩:=h.blk;exact lt_of_some b
def bK.keep{w b:ω}{xp c cap:Nat}{a:Option Addr}{j:JV}{is:Int}(h:bK w xp c a cap j is)(f:b.heap[xp]?=w.heap[xp]?):bK b xp c a cap j is:=by
 obtain⟨d,i,g⟩:=h.blk;exact⟨d,f.trans i,g⟩
def bK.cell{w:ω}{xp b cap:Nat}{a:Option Addr}{j:JV}{is:Int}(h:bK w xp b a cap j is){i:Nat}(d:i<78):w.cell? ⟨xp,i,O⟩=S (rjC b a cap j is i):=by
 obtain⟨g,c,k,f⟩:=h.blk;simp[World.cell?,c,f i d]
def bK.thaw{w:ω}{xp c cap:Nat}{a:Option Addr}{j:JV}{is:Int}(h:bK w xp c a cap j is)(i:Nat):w.frozen? ⟨xp,i,O⟩=false:=by
 obtain⟨d,b,f,g⟩:=h.blk;simp[World.frozen?,b]
def vF{b cap:Nat}{a:Option Addr}{j:JV}{is:Int}{k:Nat}(h:k<64):rjC b a cap j is (9+k)=.bool (j.x.testBit k):=by
 unfold rjC;rw[if_neg (by omega),if_neg (by omega),if_neg (by omega),if_neg (by omega),if_neg (by omega),if_neg (by omega),if_neg (by omega),if_neg (by omega),if_neg (by omega),if_pos (by omega),Nat.add_sub_cancel_left]
def bK.cells{w:ω}{xp b cap:Nat}{a:Option Addr}{j:JV}{is:Int}(h:bK w xp b a cap j is) :
  w.cell? ⟨xp,0,O⟩=S (b:υ)/\w.cell? ⟨xp,2,O⟩=S (j.kind:υ)/\w.cell? ⟨xp,3,O⟩=S (j.file:υ)/\w.cell? ⟨xp,6,O⟩=S (.slice a j.l.length cap)/\w.cell? ⟨xp,7,O⟩=S (.int .i64 (j.deep:Int))/\w.cell? ⟨xp,73,O⟩=S (j.last:υ)/\w.cell? ⟨xp,74,O⟩=S (is:υ)/\w.frozen? ⟨xp,73,O⟩=false/\w.frozen? ⟨xp,74,O⟩=false :=
 ⟨h.cell  (by omega),h.cell  (by omega),h.cell  (by omega),h.cell  (by omega),h.cell  (by omega),h.cell  (by omega),h.cell  (by omega),h.thaw _,h.thaw _⟩
def bK.qM{w:ω}{xp c cap:Nat}{a:Option Addr}{j:JV}{is:Int}(h:bK w xp c a cap j is):S4.uJ w xp j.n j.x :=
 ⟨h.cell  (by omega),λk b=>⟨by rw[h.cell  (by omega),vF b],h.thaw _⟩⟩
def bK.bkt{w:ω}{xp d cap:Nat}{a:Option Addr}{j:JV}{is:Int}(h:bK w xp d a cap j is):∃ b:Array υ,S4.jU 198 b w xp j.rate j.burst j.lv/\∀ i,i<78->b[i]?=S (rjC d a cap j is i):=by
 obtain⟨b,g,f,c⟩:=h.blk;refine⟨b,⟨?_,f,c 75 (by omega),c 76 (by omega)⟩,c⟩
 have e:b.setIfInBounds 77 (.int .i64 j.lv)=b:=by
  apply Array.ext_getElem?
  intro i;by_cases e:i=77
  .subst e
   rw[jaa (by omega),(c 77 (by omega))];rfl
  .rw[ja3 (by omega)]
 simp_all
def bK.ofB{w:ω}{xp d cap:Nat}{a:Option Addr}{j:JV}{is:Int}{c:Array υ}{b:Int}(h:S4.jU 198 c w xp j.rate j.burst b)(l:∀ i,i<78->c[i]?=S (rjC d a cap j is i)):bK w xp d a cap {j with lv:=b} is:=by
 obtain⟨g,f,n,m⟩:=h;refine⟨_,g,by simp[f],λi k=>?_⟩
 by_cases e:i=77
 .subst e
  rw[jaa (by omega)];rfl
 .rw[ja3 (by omega),l i k]
  unfold rjC;simp only[if_neg e]
def bK.set{w:ω}{xp b cap:Nat}{a:Option Addr}{j j':JV}{is d:Int}(h:bK w xp b a cap j is)(i:Nat)(o:i<78)(v:υ)(l:∀ k,k<78->rjC b a cap j' d k=if k=i then v else rjC b a cap j is k):bK (w.setCell ⟨xp,i,O⟩ v) xp b a cap j' d:=by
 obtain⟨n,m,f,g⟩:=h.blk;refine⟨_,heap_setCell_same w xp i _ _ _ m,by simp[f],λk c=>?_⟩
 rw[l k c];by_cases e:k=i
 .simp_all
 .rw[if_neg e,ja3 (by omega)];exact g k c
def bK.og{w:ω}{xp b cap:Nat}{a:Option Addr}{j:JV}{is:Int}(h:bK w xp b a cap j is)(c:Int):bK (w.setCell ⟨xp,74,O⟩ c) xp b a cap j c :=
 h.set 74 (by omega) _ λk d=>by
  by_cases e:k=74
  .subst e;rfl
  .unfold rjC;simp only[if_neg e]
def bK.staged{w:ω}{xp b cap:Nat}{a:Option Addr}{j:JV}{is:Int}(h:bK w xp b a cap j is)(st:Int):bK w xp b a cap (j.at st) is:=⟨h.blk⟩
def bK.BX{w:ω}{xp b cap:Nat}{a:Option Addr}{j:JV}{is:Int}(h:bK w xp b a cap j is)(c:Int):bK (w.setCell ⟨xp,73,O⟩ c) xp b a cap {j with last:=c} is :=
 h.set 73 (by omega) _ λk d=>by
  by_cases e:k=73
  .subst e;rfl
  .unfold rjC;simp only[if_neg e]
def bK.yJ{w:ω}{xp c cap:Nat}{a:Option Addr}{j:JV}{is:Int}(h:bK w xp c a cap j is){i y:Nat}{b:Bool}(l:i<64)(f:∀ k,k<64->y.testBit k=if k=i then b else j.x.testBit k):bK (w.setCell ⟨xp,9+i,O⟩ b) xp c a cap (j.put y) is :=
 h.set _ (by omega) _ λk m=>by
  by_cases n:9<=k/\k<73
  .obtain⟨q,rfl⟩:∃ q,k=9+q:=⟨k-9,by omega⟩
   rw[vF (by omega),vF (by omega)]
   show Value.bool (y.testBit q)=_
   rw[f q (by omega)]
   simp_all
  .rw[if_neg (by omega)]
   unfold rjC;by_cases g:k<73
   .have d:k<9:=by omega
    match k,d with
    | 0,_=>rfl
    | 1,_=>rfl
    | 2,_=>rfl
    | 3,_=>rfl
    | 4,_=>rfl
    | 5,_=>rfl
    | 6,_=>rfl
    | 7,_=>rfl
    | 8,_=>rfl
   .simp only[if_neg g];rfl
def bK.qG{w:ω}{xp f cap:Nat}{a:Option Addr}{j:JV}{is:Int}(h:bK w xp f a cap j is)(o:j.n<=64)(c:Int)(b:Bool):bK (if S4.fK j.n j.x c b=true then w.setCell ⟨xp,9+c.toNat,O⟩ b else w) xp f a cap (j.put (S4.eY j.n j.x c b)) is:=by
 by_cases d:S4.fK j.n j.x c b=true
 .rw[if_pos d]
  have g:S4.gG j.n c=true:=by unfold S4.fK at d;simp_all
  obtain⟨k,rfl,l⟩:=S4.AQ g;refine h.yJ (i:=k) (by omega) λq m=>?_
  rw[S4.yc];by_cases e:q=k
  .simp_all
  .rw[if_neg e,if_neg (λq=>e (by omega))]
 .rw[if_neg d]
  have e:S4.eY j.n j.x c b=j.x:=by unfold S4.eY;rw[if_neg d]
  rw[e];exact h
def fpR(qs:Nat->Qh)(s:SV)(xp:Nat)(k:Nat):Prop:=fpQ qs s k\/k=xp
structure dZ(qs:Nat->Qh)(s:SV)(xp:Nat)(w:ω)(qs':Nat->Qh)(z:SV)(w':ω):Prop extends Moved (fpR qs s xp) w (fpR qs' z xp) w' where
 dp:∀ i,i<5->s i≠O->z i≠O/\(qs' i).d.p=(qs i).d.p
theorem dZ.of_below{qs:Nat->Qh}{s:SV}{xp:Nat}{w a:ω}(h:β w w a):dZ qs s xp w qs s a:=⟨Moved.of_below h,λ_ _ h=>⟨h,rfl⟩⟩
theorem dZ.refl(qs:Nat->Qh)(s:SV)(xp:Nat)(w:ω):dZ qs s xp w qs s w:=⟨Moved.refl _ _,λ_ _ h=>⟨h,rfl⟩⟩
theorem dZ.trans{g f d:Nat->Qh}{s j l:SV}{xp:Nat}{w c m:ω}(a:dZ g s xp w f j c)(b:dZ f j xp c d l m):dZ g s xp w d l m :=
 ⟨a.toMoved.trans b.toMoved,λi k h=>by
  obtain⟨n,o⟩:=a.dp i k h;obtain⟨q,r⟩:=b.dp i k n
  simp_all⟩
structure RJ(w:ω)(mp xp:Nat)(a:Option Addr)(cap:Nat)(qs:Nat->Qh)(s:SV)(m C:Nat)(j:JV)(is:Int):Prop where
 shelf:bG w mp qs s m
 job:bK w xp mp a cap j is
 nums:Nums w a j.l
 ap:Apart a (fpR qs s xp)
 ok:JOk s C j
 cap:j.l.length<=cap
theorem RJ.gQ{w:ω}{c xp cap m C:Nat}{a:Option Addr}{qs:Nat->Qh}{s:SV}{j:JV}{is:Int}(h:RJ w c xp a cap qs s m C j is){k:Nat}(b:fpR qs s xp k):k<w.heap.size:=by
 rcases b with b|rfl
 .exact h.shelf.gQ b
 .exact h.job.lt
def RJ.not{w:ω}{b xp cap m C:Nat}{a:Option Addr}{qs:Nat->Qh}{s:SV}{j:JV}{is:Int}(h:RJ w b xp a cap qs s m C j is):¬fpQ qs s xp/\¬fpR qs s xp b:=by
 obtain⟨d,c,_⟩:=h.job.blk;refine⟨h.shelf.rO c (by decide),?_⟩
 have f:=h.shelf.blk;rintro(e|e)
 .exact h.shelf.rP e
 .simp_all
theorem RJ.beside{S i:Nat->Prop}{w d:ω}{c xp cap m C:Nat}{a:Option Addr}{qs:Nat->Qh}{s:SV}{j:JV}{is:Int}(h:RJ w c xp a cap qs s m C j is)(b:Moved S w i d)(g:¬S c)(f:∀ k,fpR qs s xp k->¬S k)(n:Apart a S):RJ d c xp a cap qs s m C j is :=
 ⟨h.shelf.beside b g (λk l=>f k (.inl l)),h.job.keep (b.block h.job.lt (f _ (.inr rfl))),h.nums.moved b n,h.ap,h.ok,h.cap⟩
def RJ.below{w b:ω}{c xp cap m C:Nat}{a:Option Addr}{qs:Nat->Qh}{s:SV}{j:JV}{is:Int}(h:RJ w c xp a cap qs s m C j is)(d:β w w b):RJ b c xp a cap qs s m C j is :=
 h.beside (Moved.of_below  d) (λe=>e) (λ_ _ e=>e) (λ_ _ _ e=>e)
theorem RJ.more{w:ω}{b xp cap m m' C:Nat}{a:Option Addr}{qs:Nat->Qh}{s:SV}{j:JV}{is:Int}(h:RJ w b xp a cap qs s m C j is)(c:m<=m'):RJ w b xp a cap qs s m' C j is :=
 ⟨h.shelf.more c,h.job,h.nums,h.ap,h.ok,h.cap⟩
def RJ.kL{w c:ω}{f xp cap m m' C:Nat}{a:Option Addr}{qs qs':Nat->Qh}{s z:SV}{j:JV}{is:Int}(h:RJ w f xp a cap qs s m C j is)(q:bG c f qs' z m')(d:jr qs s w qs' z c)(r:s.alike z) :
  RJ c f xp a cap qs' z m' C j is/\dZ qs s xp w qs' z c:=by
 have l:dZ qs s xp w qs' z c:=⟨⟨d.kept.mono λk _ b=>.inl b,λk b=>by
  rcases b with b|b
  .rcases d.new k b with i|i
   .exact .inl (.inl i)
   omega
  .exact .inl (.inr b)⟩,d.dp⟩
 exact⟨⟨q,h.job.keep (d.block h.job.lt h.not.1),h.nums.moved d.toMoved (λg o e n=>h.ap g o e (.inl n)),h.ap.moved h.nums h.ok.ne l.toMoved,h.ok.over r,h.cap⟩,l⟩
def RJ.own{w c:ω}{f xp cap m C:Nat}{a:Option Addr}{qs:Nat->Qh}{s:SV}{j j':JV}{is i:Int}(h:RJ w f xp a cap qs s m C j is)(b:Kept (λk=>k=xp) w c)(q:bK c xp f a cap j' i)(g:j'.l=j.l)(o:JOk s C j') :
  RJ c f xp a cap qs s m C j' i/\dZ qs s xp w qs s c:=by
 have d:dZ qs s xp w qs s c:=⟨⟨b.mono λk _ b=>.inr b,λk b=>.inl b⟩,λ_ _ h=>⟨h,rfl⟩⟩
 exact⟨⟨h.shelf.keep (d.block (lt_of_some h.shelf.blk) h.not.2) (λk n=>b.block k (h.shelf.gQ n) (λe=>h.not.1 (by simp_all))),q,by rw[g];exact h.nums.moved d.toMoved h.ap,h.ap,o,by rw[g];exact h.cap⟩,d⟩
theorem RJ.og{w:ω}{c xp cap m C:Nat}{a:Option Addr}{qs:Nat->Qh}{s:SV}{j:JV}{is:Int}(h:RJ w c xp a cap qs s m C j is)(b:Int) :
  RJ (w.setCell ⟨xp,74,O⟩ b) c xp a cap qs s m C j b/\dZ qs s xp w qs s (w.setCell ⟨xp,74,O⟩ b) :=
 h.own (Kept.setCell (S:=λk=>k=xp) (Kept.refl _ w)  (.inl rfl) _) (h.job.og b) rfl h.ok
theorem RJ.BX{w:ω}{b xp cap m C:Nat}{a:Option Addr}{qs:Nat->Qh}{s:SV}{j:JV}{is:Int}(h:RJ w b xp a cap qs s m C j is){c:Int}(d : -1<=c/\c<64) :
  RJ (w.setCell ⟨xp,73,O⟩ c) b xp a cap qs s m C {j with last:=c} is/\dZ qs s xp w qs s (w.setCell ⟨xp,73,O⟩ c) :=
 h.own (Kept.setCell (S:=λk=>k=xp) (Kept.refl _ w)  (.inl rfl) _) (h.job.BX c) rfl {h.ok with last:=d}
theorem RJ.staged{w:ω}{b xp cap m C:Nat}{a:Option Addr}{qs:Nat->Qh}{s:SV}{j:JV}{is:Int}(h:RJ w b xp a cap qs s m C j is){st:Int}(c:st=1\/st=2\/st=4\/st=5):RJ w b xp a cap qs s m C (j.at st) is :=
 ⟨h.shelf,h.job.staged st,h.nums,h.ap,h.ok.at c,h.cap⟩
theorem RJ.qG{w:ω}{d xp cap m C:Nat}{a:Option Addr}{qs:Nat->Qh}{s:SV}{j:JV}{is:Int}(h:RJ w d xp a cap qs s m C j is)(c:Int)(b:Bool) :
  RJ (if S4.fK j.n j.x c b=true then w.setCell ⟨xp,9+c.toNat,O⟩ b else w) d xp a cap qs s m C (j.put (S4.eY j.n j.x c b)) is/\dZ qs s xp w qs s (if S4.fK j.n j.x c b=true then w.setCell ⟨xp,9+c.toNat,O⟩ b else w) :=
 h.own (by split;exact Kept.setCell (S:=λk=>k=xp) (Kept.refl _ w)  (.inl rfl) _;exact Kept.refl _ w) (h.job.qG (by have:=h.ok.n;have:=h.ok.c40;omega) c b) rfl (h.ok.put c b)
def RJ.rU{w c:ω}{d xp cap m C:Nat}{a:Option Addr}{qs:Nat->Qh}{s:SV}{j:JV}{is:Int}(h:RJ w d xp a cap qs s m C j is){f:Array υ}{b:Int}(o:∀ i,i<78->f[i]?=S (rjC d a cap j is i))(n:S4.jU 198 f c xp j.rate j.burst b)(l:S4.Kept (λk=>k=xp) w c)(g:0<=b/\b<=j.burst) :
  RJ c d xp a cap qs s m C {j with lv:=b} is/\dZ qs s xp w qs s c :=
 h.own (Kept.of4 l) (bK.ofB n o) rfl {h.ok with lv:=⟨g.1,g.2,h.ok.lv.2.2⟩}
def dP(c xp:Nat)(a:Option Addr)(cap:Nat)(qs:Nat->Qh)(s z:SV)(m C:Nat)(j:JV)(w b:ω):Prop:=∃ qs',RJ b c xp a cap qs' z m C j j.state/\dZ qs s xp w qs' z b
theorem dP.below{w b:ω}{d xp cap m C:Nat}{a:Option Addr}{qs:Nat->Qh}{s:SV}{j:JV}(h:RJ w d xp a cap qs s m C j j.state)(c:β w w b):dP d xp a cap qs s s m C j w b:=⟨qs,h.below c,dZ.of_below c⟩
def tH{sp m:Nat}{b:Nat->Ih}{s:SV}(n:Int)(w:ω)(h:bD w sp b s m) :
  κ prog 153 #[.pointer (S ⟨sp,6,O⟩),n] w λe c=>e=.returned (iE (b n.toNat) (s.file n))/\c=w:=by
 by_cases l:n<0
 .have a:s.file n=none:=by unfold SV.file;rw[if_neg (by omega)]
  rw[a];go_enter func153,ntmps153
  go_wp2
  go_ret
  exact⟨rfl,rfl⟩
 .by_cases j:5<=n
  .have a:s.file n=none:=by unfold SV.file;rw[if_neg (by omega)]
   rw[a];go_enter func153,ntmps153
   go_wp2
   go_ret
   exact⟨rfl,rfl⟩
  .obtain⟨k,rfl⟩:∃ k:Nat,n=(k:Int):=⟨n.toNat,by omega⟩
   have f:=h.cell (i:=k) (by omega)
   rw[(SV.zZ (by omega))]
   have g:(0:Int)<=(k:Int):=by omega
   have o:(k:Int)<5:=by omega
   have d:((k:Int)).toNat=k:=by omega
   rw[d];generalize iE (b k) (s k)=q at f |-;go_enter func153,ntmps153
   go_wp2
   go_ret
   exact⟨rfl,rfl⟩
def Oz(c:Int)(w:ω) :
  κ prog 222 #[.pointer O,c] w λe a=>e=.returned (0:Int)/\a=w:=by
 go_enter func222,ntmps222
 go_wp2
 go_ret
 simp_all
def xJ{B:Gd}{x:Ih}{v:IV}(c:Int)(w:ω)(h:aH B w x v) :
  κ prog 222 #[x.p,c] w λe g=>e=.returned (.int .i64 (v.bC c).1)/\β w w g:=by
 have a:=ah (OA c w h)
 have b:Hid (v.iw c=0\/v.iw c=1/\(v.bC c).1=0):=by
  unfold Hid IV.iw IV.bC;cases v.there c<;>simp
 generalize v.iw c=f at a b;generalize (v.bC c).1=y at a b |-;go_enter func222,ntmps222
 go_wp2_with fail
 refine cEq a.out λj d=>?_
 rcases b.out with h|⟨h,i⟩
 .rw[h,aN]
  go_wp2
  go_ret
  exact⟨rfl,d⟩
 .rw[h,eu]
  go_wp2
  go_ret
  exact⟨mg i.symm,d⟩
def Oy{sp m:Nat}{b:Nat->Ih}{s:SV}(n c:Int)(w:ω)(h:bD w sp b s m) :
  κ prog 222 #[iE (b n.toNat) (s.file n),c] w λe a=>e=.returned (rM (s.file n) c)/\β w w a:=by
 cases d:s.file n with
 | none =>
  refine(Oz c w).mono ?_;rintro e a ⟨rfl,rfl⟩;exact⟨rfl,ja0 _ _⟩
 | some v=>exact xJ c w (h.gY d).1
def tC(c p b:Int)(w:ω):(Instr.field 67 (.agg #[c,p,b]) 0).run prog w=.ok (.int .i64 c) w:=by kernel_rfl
def ML(c p b:Int)(w:ω):(Instr.field 67 (.agg #[c,p,b]) 2).run prog w=.ok (.int .i64 b) w:=by kernel_rfl
def drop_cons{l:List Int}{k:Nat}(h:k<l.length):l.drop k=l.getD k 0::l.drop (k+1):=by
 simp_all
def Eu{sp m cap:Nat}{L:Nat->Ih}{s:SV}{a:Option Addr}(l:List Int)(c:Int)(w:ω)(h:bD w sp L s m)(G:Nums w a l)(K:l.length<=100) :
  κ prog 225 #[.pointer (some ⟨sp,6,none⟩),.slice a l.length cap,c] w λe I=>e=.returned (s.found l c)/\β w w I:=by
 have E:=ah λk W (b:β w w W) (t:k<l.length)=>(G.below b) k t
 have v:Hid (s.jM c (l.drop 0) 0=s.found l c):=rfl;have B:Hid (∀ k,k<l.length->s.jM c (l.drop k) k=if rM _ c=0 then s.jM c _ (k+1) else (k:Int)):=λk t=>by rw[drop_cons t];rfl
 have u:Hid (s.jM c (l.drop l.length) l.length = -1):=by unfold Hid;rw[jbG];rfl
 generalize s.found l c=R at v |-;generalize T:l.length=n at E B u K |-;go_enter func225,ntmps225
 go_wp2
 go_loopw [11] (λi wr=>∃ k:Nat,k<=n/\i=.int .i64 k/\s.jM c (l.drop k) k=R/\β w w wr) (λi _=>n-(intOf i).toNat)
 case atStart=>exact⟨0,ja5 _,rfl,v.out,ja0 _ _⟩
 case round =>
  obtain⟨k,M,rfl,F,f⟩:=hrel;by_cases z:k<n
  .obtain⟨g,o,rfl,H⟩:=E.out k wr f z
   have j:=ah (B.out k z);have A:=ah F;have r:=ah ((λn W (b:β w w W)=>tH n W (h.below b)) (l.getD k 0) wr f)
   have q:=ah ((λn W (b:β w w W)=>Oy n c W (h.below b)) (l.getD k 0) wr f)
   generalize O:l.getD k 0=x at H j r q;generalize iE _ (s.file x)=N at r q;generalize rM (s.file x) c=y at j q;have S:(0:Int)<=(k:Int):=by omega
   have Q:(k:Int)<(n:Int):=by omega
   have P:((k:Int)).toNat=k:=by omega
   go_wp2_with fail
   refine cSt r.out ?_;go_wp2_with fail
   refine cBl q.out f λU D=>?_
   by_cases C:y=0
   .have d:Hid (s.jM c (l.drop (k+1)) (k+1)=R):=by unfold Hid;rw[<- A.out,j.out,if_pos C]
    go_wp2
    go_roundw
    case rel =>
     exact⟨k+1,by omega,by go_num,d.out,D.out⟩
    case measure=>simp[intOf];omega
   .have d:Hid ((k:Int)=R):=by unfold Hid;rw[<- A.out,j.out,if_neg C]
    go_wp2
    go_ret
    exact⟨mg d.out,D.out⟩
  .have J:k=n:=by omega
   subst J;have d:Hid (-1=R):=by unfold Hid;rw[<- F,u.out]
   go_wp2
   go_ret
   exact⟨mg d.out,f⟩
def DJ{sp m n cap:Nat}{k:Nat->Ih}{s:SV}{a:Option Addr}(x:Int)(r:List Int)(w:ω)(h:bD w sp k s m)(j:Nums w a (x::r))(l:(x::r).length=n) :
  κ prog 221 #[.pointer (S ⟨sp,6,O⟩),.slice a n cap] w λe i=>e=.returned (s.gJ (x::r))/\β w w i:=by
 have d:=ah (tH x w h);obtain⟨g,o,rfl,t⟩:=j 0 (by simp)
 have y:w.cell? ⟨g,o,O⟩=S _:=t;have z:0<n:=by rw[<- l];simp
 show κ _ _ _ _ λe i=>e=.returned (s.gZ x)/\_
 unfold SV.gZ
 cases f:s.file x with
 | none =>
  rw[f] at d;go_enter func221,ntmps221
  go_wp2_with fail
  refine cSt d.out ?_;unfold iE;go_wp2
  go_ret
  exact⟨rfl,ja0 _ _⟩
 | some v =>
  have A:=tC v.h.c v.h.p v.h.b;rw[f] at d;go_enter func221,ntmps221
  go_wp2_with fail
  refine cSt d.out ?_;unfold iE;go_wp2_with fail
  refine cEq (qo w (h.gY f).1) λu q=>?_
  go_wp2
  go_ret
  exact⟨rfl,q⟩
def RQ(k:Nat):Lib.repeatL [0] k=List.replicate k 0:=by
 have:=Lib.repeatL_replicate 0 1 k
 simp_all
def DK(n:Nat)(w:ω)(g:n<=1000) :
  κ prog 227 #[(n:Int)] w λe a=>e=.returned (.string (dY (n*16)))/\β w w a:=by
 have b:Hid (κ prog 262 #[.string ⟨#[0]⟩,((n:Int)*16:Int)] w λe a=>e=.returned (.string (dY (n*16)))/\β w w a):=by
  have:=Tryz.strings_Repeat ⟨#[0]⟩ (n*16) w (by omega) (by show 1*(n*16)<=_;omega)
  rw[show(⟨#[0]⟩:ByteArray).data.toList=[0] from rfl,RQ,show(((n*16:Nat)):Int)=(n:Int)*16 by omega] at this
  exact this
 have c:IntKind.i64.wrap _=(n:Int)*16:=ja7 _ (by omega)
 go_enter func227,ntmps227
 go_wp2_with fail
 refine cEq b.out λd f=>?_
 go_wp2
 go_ret
 simp_all
def BQ(t:ByteArray)(f n:Nat)(w:ω)(h:(f+n)*16<=t.size)(k:t.size<=100000) :
  κ prog 169 #[t,(f:Int),(n:Int)] w λe b=>e=.returned (.string (eU t f n))/\b=w:=by
 have a:Hid (t.extract (f*16) _=eU t f n):=rfl;have i:(0:Int)<=(f:Int)*16:=by omega
 have d:((f:Int)+(n:Int))*16<=(t.size:Int):=by omega
 have g:((f:Int)*16).toNat=f*16:=by omega
 have l:(((f:Int)+(n:Int))*16).toNat=(f+n)*16:=by omega
 have j:IntKind.i64.wrap _=(f:Int)*16:=ja7 _ (by omega)
 have o:IntKind.i64.wrap _=(f:Int)+(n:Int):=ja7 _ (by omega)
 have m:IntKind.i64.wrap _=((f:Int)+(n:Int))*16:=ja7 _ (by omega)
 have c:(f:Int)<=(f:Int)+(n:Int):=by omega
 generalize eU t f n=R at a |-;go_enter func169,ntmps169
 go_wp2
 go_ret
 exact⟨by rw[a.out];rfl,rfl⟩
def check_any{sp m cap:Nat}{v:Nat->Ih}{s:SV}{a:Option Addr}{C:Int}(l:List Int)(fr n:Int)(w:ω)(h:bD w sp v s m)(u:Nums w a l)(t:s.good C l)(B:0<=C/\C<=1000)(D : -9223372036854775808<=fr/\fr<=9223372036854775807) :
  κ prog 166 #[.pointer (S ⟨sp,6,O⟩),.slice a l.length cap,fr,n] w λe o=>e=.returned (erV (s.aW l fr n))/\β w w o:=by
 cases l with
 | nil =>
  have y:s.aW [] fr n=4:=rfl;rw[y,bJ (by decide)]
  go_enter func166,ntmps166
  go_wp2
  go_ret
  exact⟨rfl,ja0 _ _⟩
 | cons x r =>
  have d:=ah (DJ (cap:=cap) x r w h u rfl);have j  := t.gJ (by simp)
  have f:Hid (s.aW (x::r) fr n=if fr<0\/n<0\/4*C-fr<n then 1 else 0):=by unfold Hid SV.aW;rw[if_neg (by simp),j]
  rw[j] at d;generalize s.aW (x::r) fr n=F at f |-;have z:(((x::r).length:Int)==0)=false:=by simp;omega
  generalize (x::r).length=q at d z |-;have A  := ja7 _ (by omega)
  by_cases i:fr<0
  .have c:Hid (F=1):=by unfold Hid;rw[f.out,if_pos (.inl i)]
   go_enter func166,ntmps166
   go_wp2_with fail
   refine cEq d.out λg b=>?_
   go_wp2
   go_ret
   exact⟨by rw[c.out,eu];rfl,b⟩
  .have G  := decide_eq_false i
   by_cases k:n<0
   .have c:Hid (F=1):=by unfold Hid;rw[f.out,if_pos (.inr (.inl k))]
    go_enter func166,ntmps166
    go_wp2_with fail
    refine cEq d.out λg b=>?_
    go_wp2
    go_ret
    exact⟨by rw[c.out,eu];rfl,b⟩
   .have g1  := decide_eq_false k
    have H  := ja7 _ (by omega)
    by_cases E:C*4-fr<n
    .have c:Hid (F=1):=by unfold Hid;rw[f.out,if_pos (.inr (.inr (by omega)))]
     go_enter func166,ntmps166
     go_wp2_with fail
     refine cEq d.out λg b=>?_
     go_wp2
     go_ret
     exact⟨by rw[c.out,eu];rfl,b⟩
    .have c:Hid (F=0):=by unfold Hid;rw[f.out,if_neg (by omega)]
     go_enter func166,ntmps166
     go_wp2_with fail
     refine cEq d.out λg b=>?_
     go_wp2
     go_ret
     exact⟨by rw[c.out,aN];rfl,b⟩
def zN{sp m cap:Nat}{Q:Nat->Ih}{s:SV}{a:Option Addr}{C:Int}(l:List Int)(c:Int)(w:ω)(h:bD w sp Q s m)(E:Nums w a l)(hg:s.good C l)(h5:l.length<=100) :
    κ prog 171 #[.pointer (some ⟨sp,6,none⟩),.slice a l.length cap,c] w λe b=>e=.returned (.tuple #[.string (s.read l c).1,erV (s.read l c).2])/\β w w b:=by
  by_cases f:l=[]
  . subst f
    have A:s.read [] c=(bytesOf [],4):=rfl;rw[A,bJ (by decide)]
    go_enter func171,ntmps171
    go_wp2
    go_ret2
    exact⟨rfl,ja0 _ _⟩
  . have O:s.gJ l=C:=hg.gJ f
    have i:Hid (κ prog 221 #[.pointer (some ⟨sp,6,none⟩),.slice a l.length cap] w λe b=>e=.returned C/\β w w b):=by
      cases l with
      | nil=>exact absurd rfl f
      | cons x r=>rw[<- O];exact DJ x r w h E rfl
    have F:((l.length:Int)==0)=false:=by
      cases l with
      | nil=>exact absurd rfl f
      | cons x r=>simp;omega
    by_cases h0:c<0
    . have A:s.read l c=(bytesOf [],1):=by unfold SV.read;rw[if_neg f,if_neg (by omega)]
      rw[A,eu];generalize l.length=q at i F |-;go_enter func171,ntmps171
      go_wp2
      go_ret2
      exact⟨rfl,ja0 _ _⟩
    . by_cases X:C<=c
      . have g1:decide (C<=c)=true:=decide_eq_true X
        have A:s.read l c=(bytesOf [],1):=by unfold SV.read;rw[if_neg f,O,if_neg (by omega)]
        rw[A,eu];generalize l.length=q at i F |-;go_enter func171,ntmps171
        go_wp2_with fail
        refine cEq i.out λU a1=>?_
        go_wp2
        go_ret2
        exact⟨rfl,a1⟩
      . have g1:decide (C<=c)=false:=decide_eq_false X
        have t:Hid (∀ W:ω,β w w W->κ prog 225 #[.pointer (some ⟨sp,6,none⟩),.slice a l.length cap,c] W λe b=>e=.returned (s.found l c)/\β W W b):=λW d=>Eu l c W (h.below d) (E.below d) h5
        have B:Hid (s.read l c=match s.seenAt c l with|none=>(bytesOf qX,0)|some v=>(bytesOf (v.fZ c),v.iI c)):=by unfold Hid SV.read;rw[if_neg f,O,if_pos (by omega)];rfl
        have V:Hid (∀ W:ω,κ prog 227 #[(4:Int)] W λe b=>e=.returned (.string (bytesOf qX))/\β W W b):=λW=>DK 4 W (by decide)
        rcases SV.Af s c l 0 with⟨I,f2⟩|⟨j,n,v,Z,I,f3,f4,J,f6,f7⟩
        . have K:Hid (s.found l c = -1):=I
          rw[f2] at B;rw[K.out] at t;rw[B.out,aN];generalize l.length=q at i F t |-;generalize bytesOf qX=z at V |-;go_enter func171,ntmps171
          go_wp2_with fail
          refine cHd i.out λU y=>?_
          go_wp2_with fail
          refine cBl (t.out _ y.out) y.out λS D=>?_
          go_wp2_with fail
          refine cBl (V.out _) D.out λM H=>?_
          go_wp2
          go_ret2
          exact⟨rfl,H.out⟩
        . have K:Hid (s.found l c=(j:Int)):=by unfold Hid SV.found;rw[I];congr 1;omega
          rw[f7] at B;simp only at B;rw[K.out] at t;rw[B.out];obtain⟨n0,n5,hs⟩:=SV.dS J
          have u:Hid (∀ W:ω,β w w W->κ prog 226 #[(Q n.toNat).p,c] W λe b=>e=.returned (.tuple #[.string (bytesOf (v.fZ c)),erV (v.iI c)])/\β W W b):=λW d=>by
            obtain⟨i1,i2⟩:=(h.below d).gY J;exact Ri c W i1 i2
          have P:=ah λW (d:β w w W)=>(h.below d).jW J
          have a3:=ah λW (d:β w w W)=>E.below d
          obtain⟨g,o,ha,G⟩:=E j Z;subst ha;rw[f3] at G;have a0  := ja2 _ _ G;obtain⟨k,rfl⟩:∃ k:Nat,n=(k:Int):=⟨n.toNat,by omega⟩
          have hk:((k:Int)).toNat=k:=by omega
          rw[hk] at u P;have k0:(0:Int)<=(j:Int):=by omega
          have k1:(j:Int)<(l.length:Int):=by omega
          have k2:((j:Int)).toNat=j:=by omega
          generalize bytesOf (v.fZ c)=z at u |-;generalize erV (v.iI c)=er at u |-;generalize (Q k).p=xp at u P;generalize l.length=q at i F t k1 |-;go_enter func171,ntmps171
          go_wp2_with fail
          refine cHd i.out λU y=>?_
          go_wp2_with fail
          refine cBl (t.out _ y.out) y.out λS D=>?_
          have d1  := (D.out.cell (p:=⟨g,o+j,none⟩) a0).trans G;have Y:=P.out S D.out;have L  := d1;have R  := Y;have N:Hid (β w w S.drew):=D.out.drew;go_wp2
          go_region_held3 (λW=>W.cell? ⟨g,o+j,none⟩=some (.int .i64 (k:Int))/\W.cell? ⟨sp,6+k,none⟩=some (xp:υ))
            (first|(exact⟨L,R⟩)|assumption)
            (first
              | (go_at_call 226;refine cEq (u.out _ N.out) λM T=>?_;have a2:M.cell? ⟨g,o+j,none⟩=some (.int .i64 (k:Int))/\M.cell? ⟨sp,6+k,none⟩=some (xp:υ):=⟨(T.cell (ja2 _ _ L)).trans L,(T.cell (ja2 _ _ R)).trans R⟩))
          have H:=ah (N.out.trans (T.mono N.out.size));go_wp2
          go_ret2
          exact⟨rfl,H.out⟩
def iW(l:List Int):List Value:=l.map λn=>.int .i64 n
def sliceLen:υ->Nat
 | .slice _ n _=>n
 | _=>0
def Bc{w:ω}{B n cap:Nat}{a:Option Addr}{l:List Int}(c:w.ownsRow B 3 1 (.slice a n cap) n (iW l))(h:l.length=n):Nums w a l:=λk b=>by
 obtain⟨g,i,d,f,_,_⟩:=nJ c k (by omega)
 injection d with hv1 hv2 hv3
 refine⟨g,0,hv1,?_⟩;rw[jaq,f];simp[iW,ja8 b,List.getD]
def Gf{w:ω}{B n cap:Nat}{a:Option Addr}{d:List υ}(b:w.ownsRow B 3 1 (.slice a n cap) n d):n<=cap:=by
 rcases b.2 with⟨h,j⟩|⟨g,c,f,i,_,_,k,_⟩
 .omega
 .simp_all
structure Walks(w:ω)(s:SV)(root:Int)(R:List Int × Int)(l:List Int)(n:Int)(a:Option Addr)(cap:Nat)(wr:ω):Prop where
 own:wr.ownsRow w.heap.size 3 1 (.slice a l.length cap) l.length (iW l)
 go:s.iK (s.gZ root) (6-l.length) l n=R
 len:l.length<=5
 root:n=root\/∃ v,s.file root=S v
 bel:β w w wr
def uN{sp m:Nat}{H:Nat->Ih}{s:SV}(root:Int)(w:ω)(h:bD w sp H s m) :
    κ prog 77 #[.pointer (some ⟨sp,6,none⟩),root] w λe X =>
      ∃(a:Option Addr) (cap:Nat),e=.returned (.tuple #[.slice a (s.walk root).1.length cap,erV (s.walk root).2])/\Nums X a (s.walk root).1/\(∀ g o,a=some ⟨g,o,none⟩->w.heap.size<=g/\g<X.heap.size/\(s.walk root).1.length<=cap)/\β w w X:=by
  obtain⟨i1,ao,am,av,ag⟩:=info_parts tN;have a5:=ah λn W (f:β w w W)=>tH n W (h.below f)
  have T:=ah λn v W (x:s.file n=some v) (f:β w w W)=>qo W ((h.below f).gY x).1
  have N:Hid (∀(n:Int) (v:IV) (W:ω),s.file n=some v->β w w W->W.cell? ⟨sp,6+n.toNat,none⟩=some ((H n.toNat).p:υ)/\0<=n/\n<5):=λn v W x f=>⟨(h.below f).jW x,(SV.dS x).1,(SV.dS x).2.1⟩
  have a1:Hid (Walks w s root (s.walk root) [] root none 0 w):=⟨jae _ _ _ _,rfl,ja5 _,.inl rfl,ja0 _ _⟩;generalize s.walk root=R at a1 |-;go_enter func77,ntmps77
  go_wp2
  go_loopw [6,7] (λu i wr=>∃(l:List Int) (n:Int) (a:Option Addr) (cap:Nat),u=.slice a l.length cap/\i=.int .i64 n/\Walks w s root R l n a cap wr) (λu _ _=>6-sliceLen u)
  case atStart=>exact⟨[],root,none,0,rfl,rfl,a1.out⟩
  case round =>
    obtain⟨l,n,a,cap,rfl,rfl,t⟩:=hrel;have HW:=ah t;have aD:=t.len;obtain⟨q,Y⟩:∃ q,6-l.length=q+1:=⟨5-l.length,by omega⟩
    have B:=t.go;rw[Y] at B;by_cases I:n = -1
    . have g0:(n != -1)=false:=by simpa using I
      rw[I,SV.vT] at B;have A:=ah B
      have HN:Hid (Nums wr a l/\∀ g o,a=some ⟨g,o,none⟩->w.heap.size<=g/\g<wr.heap.size/\l.length<=cap):=⟨Bc t.own rfl,λg o e=>by
        subst e
        exact⟨(t.own.lt g rfl).1,(t.own.lt g rfl).2,Gf t.own⟩⟩
      have F:=ah t.bel;go_wp2
      go_ret2
      exact⟨a,cap,by rw[<- A.out,aN];rfl,by rw[<- A.out];exact HN.out.1,by rw[<- A.out];exact HN.out.2,F.out⟩
    . have g0:(n != -1)=true:=by simpa using I
      have E:=ah (a5.out n wr t.bel)
      cases x:s.file n with
      | none =>
        rw[SV.vV I x] at B;have A:=ah B;have F:=ah t.bel;rw[x] at E;go_wp2_with fail
        refine cSt E.out ?_;unfold iE;go_wp2
        go_ret2
        exact⟨none,0,by rw[<- A.out,bJ (by decide)];rfl,by rw[<- A.out];exact Nums.nil _ _,(λg o e=>by cases e),F.out⟩
      | some v =>
        rw[x] at E;by_cases h5:l.length=5
        . have g1:((l.length:Int)==5)=true:=by simp;omega
          rw[SV.vU I x h5] at B;have A:=ah B;have F:=ah t.bel;go_wp2_with fail
          refine cSt E.out ?_;unfold iE;go_wp2
          go_ret2
          exact⟨none,0,by rw[<- A.out,bJ (by decide)];rfl,by rw[<- A.out];exact Nums.nil _ _,(λg o e=>by cases e),F.out⟩
        . have g1:((l.length:Int)==5)=false:=by simp;omega
          obtain⟨vr,J⟩:∃ vr,s.file root=some vr:=by
            rcases t.root with e|e
            . rw[<- e];exact⟨v,x⟩
            . exact e
          have a2:s.gZ root=vr.h.c:=by unfold SV.gZ;rw[J]
          have F:=ah t.bel;have L:=ah (λW f=>T.out n v W x f)
          have Q:=ah (λW f=>T.out root vr W J f)
          obtain⟨Z,r0,r5⟩:=N.out root vr wr J t.bel;have f1:=tC v.h.c v.h.p v.h.b;have f2:=tC vr.h.c vr.h.p vr.h.b;have f3:=ML v.h.c v.h.p v.h.b;obtain⟨rk,rfl⟩:∃ rk:Nat,root=(rk:Int):=⟨root.toNat,by omega⟩
          have a3:((rk:Int)).toNat=rk:=by omega
          rw[a3] at Z Q;have S:wr.drew.cell? ⟨sp,6+rk,none⟩=some ((H rk).p:υ):=Z;obtain⟨_,n0,n5⟩:=N.out n v wr x t.bel;obtain⟨d,rfl⟩:∃ d:Nat,n=(d:Int):=⟨n.toNat,by omega⟩
          have a8:((d:Int)).toNat=d:=by omega
          have ac:Hid (∀ W:ω,β w w W->W.cell? ⟨sp,6+d,none⟩=some ((H d).p:υ)):=λW f=>by have:=(N.out (d:Int) v W x f).1;rw[a8] at this;exact this
          have U:Hid (∀ W:ω,β w w W->W.cell? ⟨sp,6+rk,none⟩=some ((H rk).p:υ)):=λW f=>by have:=(N.out (rk:Int) vr W J f).1;rw[a3] at this;exact this
          rw[a8] at E L;unfold iE at E;generalize (H rk).p=xr at Q Z S U;generalize (H d).p=xn at E L ac;have D:=ah λW (f:β wr wr W)=>F.out.trans (f.mono F.out.size)
          have P:=ah λW (f:β wr wr W)=>U.out W (D.out W f)
          have aa:Hid (β wr wr wr.drew):=(ja0 _ _).drew;by_cases M:v.h.c=vr.h.c
          . have an:(v.h.c != vr.h.c)=false:=by simpa using M
            rw[SV.uD I x h5 (by rw[a2];exact M)] at B
            have aq:=ah B;have a9:=ah t.own;have al:Hid (∃ v,s.file (rk:Int)=some v):=⟨vr,J⟩;have az:l.length<=4:=by omega
            have HQ:=ah Y;have HM:Hid (l.length+1<=maxLen):=by unfold Hid maxLen;omega
            clear t B x J T N M a5 a1 U Y;go_wp2_with fail
            refine cSt E.out ?_;go_wp2
            go_region_held3 (λW=>β wr wr W/\W.cell? ⟨sp,6+rk,none⟩=some (xr:υ))
              (first|(exact⟨aa.out,S⟩)|assumption)
              (first
                | (go_at_call 95;refine(L.out _ (D.out _ (by assumption:β wr wr _/\_).1)).mono ?_;rintro e C ⟨rfl,G⟩;have z:=(by assumption:β wr wr _/\_).1.trans (G.mono (by assumption:β wr wr _/\_).1.size);have a0:=And.intro z (P.out _ z))
                | (go_at_call 95;refine cEq (Q.out _ (D.out _ (by assumption:β wr wr _/\_).1)) λC G=>?_;have z:=(by assumption:β wr wr _/\_).1.trans (G.mono (by assumption:β wr wr _/\_).1.size);have a0:=And.intro z (P.out _ z)))
            all_goals
              have K:=ah z;have a7:Hid ((C.alloc (.cells #[(d:Int)] 3)).ownsRow w.heap.size 3 1 (.slice a l.length cap) l.length (iW l)):=(aZ a9.out λk e=>K.out.block k (a9.out.lt k e).2).alloc _
              have ae:Hid ((C.alloc (.cells #[(d:Int)] 3)).heap.size=C.heap.size+1):=by unfold Hid;simp
              have a6:Hid (w.heap.size<=(C.alloc (.cells #[(d:Int)] 3)).heap.size):=by unfold Hid;have:=(D.out _ K.out).size;rw[ae.out];omega
              have aw:Hid (∀ j y,([.int .i64 (d:Int)]:List υ)[j]?=some y->(C.alloc (.cells #[(d:Int)] 3)).cell? ((⟨C.heap.size,0,none⟩:Addr).add j)=some y):=cell_one_new _ _ _;have ai:Hid (β w w (C.alloc (.cells #[(d:Int)] 3))):=(D.out _ K.out).alloc (D.out _ K.out).size _
              go_wp2_with (at_builtin;refine wpList_append_lies _ (by rfl) _ _ 88 (by rfl) w.heap.size 3 i1 (.int .i64 0) 1 8 underlying88 ao am av ag rfl (by decide) (.slice a l.length cap) l.length (iW l) (by rfl) a7.out ⟨C,0,none⟩ 1 1 [(d:Int)] (by rfl) (by rfl) aw.out (λu hu=>by simp at hu;subst hu;rfl) (by decide) HM.out (by omega) a6.out (C.heap.size+1) ae.out ?_
                           intro g k w1 ab af ar ap;have O:Hid (β w w w1):=ai.out.grown af a6.out (λr e=>(a7.out.lt r e).1)
                           have a4:=ah ab;have d3:=ac.out w1 O.out
                           clear ab af ar ap)
              refine cEq (L.out _ O.out) λw2 ad=>?_
              have ax:Hid (Walks w s (rk:Int) R (l++[(d:Int)]) v.h.b (some ⟨g,0,none⟩) k w2):=by
                have V:(l++[(d:Int)]).length=l.length+1:=by simp
                have e2:iW (l++[(d:Int)])=iW l++[.int .i64 (d:Int)]:=by simp[iW]
                refine⟨?_,?_,by rw[V];omega,.inr al.out,O.out.trans (ad.mono O.out.size)⟩
                . rw[V,e2];exact aZ a4.out λk e=>ad.block k (a4.out.lt k e).2
                . have:=HQ.out
                  rw[V,show 6-(l.length+1)=q by omega];exact aq.out
              go_wp2
              go_roundw
              case rel =>
                exact⟨l++[(d:Int)],v.h.b,some ⟨g,0,none⟩,k,by simp,rfl,ax.out⟩
              case measure=>simp[sliceLen];omega
          . have an:(v.h.c != vr.h.c)=true:=by simpa using M
            rw[SV.walk_other I x h5 (by rw[a2];exact M)] at B
            have A:=ah B;go_wp2_with fail
            refine cSt E.out ?_;go_wp2
            go_region_held3 (λW=>β wr wr W/\W.cell? ⟨sp,6+rk,none⟩=some (xr:υ))
              (first|(exact⟨aa.out,S⟩)|assumption)
              (first
                | (go_at_call 95;refine(L.out _ (D.out _ (by assumption:β wr wr _/\_).1)).mono ?_;rintro e C ⟨rfl,G⟩;have z:=(by assumption:β wr wr _/\_).1.trans (G.mono (by assumption:β wr wr _/\_).1.size);have a0:=And.intro z (P.out _ z))
                | (go_at_call 95;refine cEq (Q.out _ (D.out _ (by assumption:β wr wr _/\_).1)) λC G=>?_;have z:=(by assumption:β wr wr _/\_).1.trans (G.mono (by assumption:β wr wr _/\_).1.size);have a0:=And.intro z (P.out _ z)))
            all_goals
              have K:=ah (D.out _ z);go_wp2
              go_ret2
              exact⟨none,0,by rw[<- A.out,bJ (by decide)];rfl,by rw[<- A.out];exact Nums.nil _ _,(λg o e=>by cases e),K.out⟩
