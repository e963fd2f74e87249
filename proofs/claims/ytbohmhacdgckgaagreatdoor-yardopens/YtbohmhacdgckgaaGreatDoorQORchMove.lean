/- The document's own image: Link, and what is read. -/
import Derived.Test.YtbohmhacdgckgaaGreatDoorQORchPut
set_option linter.all false
set_option maxHeartbeats 4000000
set_option maxRecDepth 100000
namespace Go.Proofs.YtbohmhacdgckgaaGreatDoor
open Go.RowKit renaming Below->β
open Go renaming World->ω, Value->υ, Calls->κ
open Option renaming none->O, some->S
open Go.Proofs.Tryz Go.RowKit Go.Maps
attribute [local go_sem ↓] Go.wp_at_zero Go.wp_at_succ
def aS.headed{B:Gd}{w:ω}{q:Qh}{v:IV}(h:aS B w q v)(g:HV) :
  aS B (((w.setCell ⟨q.p,1,O⟩ g.c).setCell ⟨q.p,2,O⟩ g.p).setCell ⟨q.p,3,O⟩ g.b) q {v with h:=g} /\
  fA B w (((w.setCell ⟨q.p,1,O⟩ g.c).setCell ⟨q.p,2,O⟩ g.p).setCell ⟨q.p,3,O⟩ g.b):=by
 obtain⟨d,f⟩:=h.oM 1 _  (v2:={v with h:=⟨g.c,v.h.p,v.h.b⟩}) rfl rfl rfl rfl h.own h.held h.ne h.tB h.hB
 obtain⟨a,i⟩:=d.oM 2 _  (v2:={v with h:=⟨g.c,g.p,v.h.b⟩}) rfl rfl rfl rfl d.own d.held d.ne d.tB d.hB
 obtain⟨k,j⟩:=a.oM 3 _  (v2:={v with h:=g}) rfl rfl rfl rfl a.own a.held a.ne a.tB a.hB
 exact⟨k,fA.trans (fA.trans f i) j⟩
def OI{B:Gd}{m:Nat}{q:Qh}{v:IV}(back:Int)(w:ω)(h:aS B w q v)(H:v.ok m)(hm:m+10<1000000000)(hB:B.top<=w.heap.size) :
    κ prog 198 #[q.p,back] w (iF B w q (v.link back) (v.iV back)):=by
  obtain⟨c0,c1,c2,c3,c4,c5,o⟩:=h.cells;have lp:q.p<w.heap.size:=lt_of_some h.blk;have M:=ah h;have a:=ah (o8 v.h.c v.h.p back)
  cases k:(v.oJ back).ok with
  | false =>
    have I:v.link back=v:=by unfold IV.link;rw[if_neg (by rw[k];decide)]
    have G:v.iV back=1:=by unfold IV.iV;rw[if_neg (by rw[k];decide)]
    have K:HV.fault ⟨v.h.c,v.h.p,back⟩=1:=by unfold HV.fault;rw[if_neg (by rw[show HV.ok ⟨v.h.c,v.h.p,back⟩=false from k];decide)]
    rw[I,G];rw[K] at a;clear h H k I G K c0 c4 c5 o;generalize v.h.c=c at c1 a;generalize v.h.p=p at c2 a;generalize v.h.b=b at c3;have aa:β w w (w.alloc (.cells #[c,p,back] 67)):=(ja0 _ _).alloc (ja1 _) _;have D:β w w ((w.alloc (.cells #[c,p,b] 67)).setCell ⟨w,2,none⟩ back):=((ja0 _ _).alloc (ja1 _) _).setCell (ja1 _) _;go_enter func198,ntmps198
    go_wp2_with fail
    refine cEq (a.out _) λS x=>?_
    have HD:Hid (iF B w q v 1 (.returned (1:Int)) S):=tu M.out (by first|exact D.trans (x.mono D.size)|exact aa.trans (x.mono aa.size))
    clear x D aa;go_wp2
    go_ret
    exact HD.out
  | true =>
    have I:v.link back=v.jZ (v.oJ back):=by unfold IV.link;rw[if_pos k]
    have G:v.iV back=v.flush.d.aU:=by unfold IV.iV;rw[if_pos k]
    have Z:HV.ok ⟨v.h.c,v.h.p,back⟩=true:=k;have K:HV.fault ⟨v.h.c,v.h.p,back⟩=0:=by unfold HV.fault;rw[Z];rfl
    rw[I,G];rw[K] at a;obtain⟨X,L⟩:∃ X:ByteArray,X=fO [83,89,v.h.c,v.h.p,back+1]:=⟨_,rfl⟩;have a9:X.size=16:=by rw[L];exact HV.wJ ⟨v.h.c,v.h.p,back⟩
    have R:Hid (∀ W:ω,κ prog 111 #[.agg #[v.h.c,v.h.p,back]] W λe T=>e=.returned X/\β W W T):=λW=>by rw[L];exact Ar v.h.c v.h.p back W Z
    have g:Hid (v.jZ (v.oJ back)=if v.flush.d.aU=0 then {(({v.flush with d:=v.flush.d.put 0 X.data.toList}:IV).flush) with h:=⟨v.h.c,v.h.p,back⟩} else {v.flush with d:=v.flush.d.put 0 X.data.toList}):=by rw[L];rfl
    have ac:=H.d.flushed;have h0:0<v.d.fl.length:=H.d.ok.n1
    have N:Hid (v.flush.d.aU=0\/v.flush.d.aU=7):=by
      rcases DV.nN v.flush.d with u|u
      . exact .inl u.1
      . exact .inr u.1
    have al:=ah (λ(W:ω) (A:aS B W q v)=>xB W A H.d)
    have U:Hid (∀(W:ω) (r:Qh),aS B W r v.flush->B.top<=W.heap.size->κ prog 109 #[r.d.p,(0:Int),X] W λe T =>
        ∃ q':Qh,e=.returned v.flush.d.aU/\Led B W r q' {v.flush with d:=v.flush.d.put 0 X.data.toList} T):=λW r A hb=>by
      refine(um 0 X W A.dev ac (by omega) hb a9 h0).mono ?_
      rintro e T ⟨q2,rfl,av,ap,aE,ar⟩;exact⟨{r with d:=q2},rfl,Led.dev A ap av aE ar⟩
    have ab:=ah (λ(W:ω) (r:Qh) (A:aS B W r {v.flush with d:=v.flush.d.put 0 X.data.toList})=>xB W A (ac.put (i:=0) (s:=X.data.toList) h0 (by simpa using a9) (by omega)))
    clear h H k Z I G K c0 c4 c5 o L a9 ac;generalize v.jZ (v.oJ back)=V at g |-;generalize v.flush.d.aU=pf at g N U |-;generalize v.h.c=c at c1 a R g;generalize v.h.p=p at c2 a R g;generalize v.h.b=b at c3
    have D:∀ W:ω,W=(w.alloc (.cells #[c,p,b] 67)).setCell ⟨w,2,none⟩ back\/W=w.alloc (.cells #[c,p,back] 67)->β w w W/\W.heap[w.heap.size]?=some (.cells #[c,p,back] 67 (0,0)):=λW hW=>by
      rcases hW with rfl|rfl
      . refine⟨((ja0 _ _).alloc (ja1 _) _).setCell (ja1 _) _,?_⟩
        rw[heap_setCell_same _ _ _ _ _ _ (heap_alloc_new w _)];rfl
      . exact⟨(ja0 _ _).alloc (ja1 _) _,heap_alloc_new w _⟩
    have ae:=ah D;clear D;go_enter func198,ntmps198
    go_wp2_with fail
    refine cEq (a.out _) λS x=>?_
    obtain⟨a7,a2⟩:=ae.out _ (.inr rfl);have ai:S.heap[w.heap.size]?=some (.cells #[c,p,back] 67 (0,0)):=by rw[x.block _ (lt_of_some a2)];exact a2
    have a4:=ah (a7.trans (x.mono a7.size));have ao:=ah ai;have ag:=M.out.below a4.out;have an:=ah (Led.below M.out a4.out);have af:=ah (al.out S ag);clear x a7 a2 ai ag a ae al M;go_wp2_with fail
    refine af.out.mono ?_;rintro e f ⟨q2,rfl,F⟩;have t:=ah (F.kept.box ao.out (by decide))
    have z:=ah (an.out.trans F);have d0:f.cell? ⟨q.p,0,none⟩=some (q2.d.p:υ):=by have:=F.rim.cells.1;rw[F.p] at this;exact this
    have x0:f.cell? ⟨w,0,none⟩=some (c:υ):=by rw[cell_of_row _ _ _ _ _ _ t.out];rfl
    have x1:f.cell? ⟨w,1,none⟩=some (p:υ):=by rw[cell_of_row _ _ _ _ _ _ t.out];rfl
    have x2:f.cell? ⟨w,2,none⟩=some (back:υ):=by rw[cell_of_row _ _ _ _ _ _ t.out];rfl
    have a5:w.heap.size<f.heap.size:=lt_of_some t.out;have aD:q.p<f.heap.size:=by omega
    clear F af an ao a4;go_wp2
    go_region_held3 (λW=>W.cell? ⟨q.p,0,none⟩=some (q2.d.p:υ)/\W.cell? ⟨w,0,none⟩=some (c:υ)/\W.cell? ⟨w,1,none⟩=some (p:υ)/\W.cell? ⟨w,2,none⟩=some (back:υ))
      (first|(exact⟨d0,x0,x1,x2⟩)|assumption)
      (first
        | (go_at_call 111;refine cEq (R.out _) λE ad=>?_;have l:β f f E:=((ja0 _ _).drew).trans ad;have aq:E.cell? ⟨q.p,0,none⟩=some (q2.d.p:υ)/\E.cell? ⟨w,0,none⟩=some (c:υ)/\E.cell? ⟨w,1,none⟩=some (p:υ)/\E.cell? ⟨w,2,none⟩=some (back:υ):=⟨(l.cell (p:=⟨q.p,0,none⟩) aD).trans d0,(l.cell (p:=⟨w.heap.size,0,none⟩) a5).trans x0,(l.cell (p:=⟨w.heap.size,1,none⟩) a5).trans x1,(l.cell (p:=⟨w.heap.size,2,none⟩) a5).trans x2⟩)
        | (go_at_call 109;refine(U.out E q2 (z.out.rim.below l) (ja4 hB (ja4 z.out.kept.size l.size))).mono ?_;rintro e C ⟨O,rfl,am⟩;have y:Led B f q2 O _ C:=(Led.below z.out.rim l).trans am;have ax:C.cell? ⟨q.p,0,none⟩=some (q2.d.p:υ)/\C.cell? ⟨w,0,none⟩=some (c:υ)/\C.cell? ⟨w,1,none⟩=some (p:υ)/\C.cell? ⟨w,2,none⟩=some (back:υ):=by
             have a6:=y.kept.box t.out (by decide)
             refine⟨?_,?_,?_,?_⟩
             . have:=y.rim.cells.1
               rw[y.p,y.dp,z.out.p] at this;exact this
             . rw[cell_of_row _ _ _ _ _ _ a6];rfl
             . rw[cell_of_row _ _ _ _ _ _ a6];rfl
             . rw[cell_of_row _ _ _ _ _ _ a6];rfl))
    have Y:=ah (y.kept.box t.out (by decide))
    have J:=ah (z.out.trans y);clear am y aq ax ad l d0 x0 x1 x2 t z U R;by_cases n:pf=0
    . have HV:Hid (V={(({v.flush with d:=v.flush.d.put 0 X.data.toList}:IV).flush) with h:=⟨c,p,back⟩}):=by unfold Hid;rw[g.out,if_pos n]
      have az:=ah n;have a1:=ah (ab.out C O J.out.rim);rw[show O.p=q.p from J.out.p] at a1
      rw[n];clear g N n ab;go_wp2_with fail
      refine a1.out.mono ?_;rintro e w4 ⟨q4,rfl,a3⟩;have P:=a3.kept.box Y.out (by decide)
      have j:=ah (J.out.trans a3);have y0:w4.cell? ⟨w,0,none⟩=some (c:υ):=by rw[cell_of_row _ _ _ _ _ _ P];rfl
      have y1:w4.cell? ⟨w,1,none⟩=some (p:υ):=by rw[cell_of_row _ _ _ _ _ _ P];rfl
      have y2:w4.cell? ⟨w,2,none⟩=some (back:υ):=by rw[cell_of_row _ _ _ _ _ _ P];rfl
      have Q:q4.p=q.p:=j.out.p;obtain⟨_,aL,aM,aR,_,_,o⟩:=j.out.rim.cells;rw[Q] at aL aM aR;have f1:=o 1;have f2:=o 2;have f3:=o 3;rw[Q] at f1 f2 f3;obtain⟨a8,a0⟩:=j.out.rim.headed ⟨c,p,back⟩
      have aw:Hid (Led B w q q4 V (((w4.setCell ⟨q.p,1,none⟩ c).setCell ⟨q.p,2,none⟩ p).setCell ⟨q.p,3,none⟩ back)):=by
        rw[Q] at a8 a0;exact⟨j.out.p,j.out.dp,j.out.vt,by rw[HV.out];exact a8,fA.trans j.out.kept a0⟩
      clear a8 a0 a3 P Y J j a1 o Q;go_wp2
      go_ret
      exact⟨q4,by rw[az.out];rfl,aw.out⟩
    . have HV:Hid (V={v.flush with d:=v.flush.d.put 0 X.data.toList}):=by unfold Hid;rw[g.out,if_neg n]
      have u:pf=7:=by rcases N.out with h|h;exact absurd h n;exact h
      have H7:=ah u;rw[u];clear g n u N Y ab;go_wp2
      go_ret
      exact⟨O,by rw[H7.out];rfl,by rw[HV.out];exact J.out⟩
def OJ{sp m:Nat}{c:Nat->Ih}{s:SV}{n:Int}{v:IV}(b:Int)(w:ω)(h:bD w sp c s m)(a:s.file n=S v)(g:m+10<1000000000) :
  κ prog 241 #[(c n.toNat).p,b] w (cZ w sp c s (m+10) (dL s n b)):=by
 obtain⟨f,d⟩:=h.gY a;have e:dL s n b=(s.upd n.toNat (v.link b),v.iV b):=by unfold dL;rw[a]
 rw[e];exact(OH b w f.but d g (ja1 _)).mono λe i hd=>cZ.of h a (by omega) (d.link b (by omega)) hd
def Sj{sp m:Nat}{c:Nat->Qh}{s:SV}{n:Int}{v:IV}(b:Int)(w:ω)(h:bG w sp c s m)(a:s.file n=S v)(g:m+10<1000000000) :
  κ prog 198 #[(c n.toNat).p,b] w (bH w sp c s (m+10) (dL s n b)):=by
 obtain⟨f,d⟩:=h.gY a;have e:dL s n b=(s.upd n.toNat (v.link b),v.iV b):=by unfold dL;rw[a]
 rw[e];exact(OI b w f.but d g (ja1 _)).mono λe i hd=>bH.of h a (by omega) (d.link b (by omega)) hd
def Es{s:SV}{n:Int}{v:IV}(a:s.file n=S v):s.fU n=s.upd n.toNat v.flush:=by unfold SV.fU;rw[a]
def Et{sp m:Nat}{a:Nat->Ih}{s:SV}{n:Int}{v:IV}(w:ω)(h:bD w sp a s m)(b:s.file n=S v) :
  κ prog 119 #[(a n.toNat).p] w λe c=>e=.returned (.tuple #[])/\∃ d,bD c sp d (s.fU n) m/\Moved (fpS a s) w (fpS d (s.fU n)) c:=by
 obtain⟨j,g⟩:=h.gY b;rw[Es b];refine(xA w j.but).mono ?_;rintro e c ⟨l,rfl,q,f,i⟩;obtain⟨k,o⟩:=h.kL b (ja1 m) g.flush (x':={(a _) with h:=l}) rfl q (f.re λ_ _ h=>h) (nH i (λ_ h=>h.1) f.out)
 exact⟨rfl,_,k,o⟩
def GI{sp m:Nat}{f:Nat->Qh}{s:SV}{n:Int}{v:IV}(w:ω)(h:bG w sp f s m)(b:s.file n=S v) :
  κ prog 120 #[(f n.toNat).p] w λe c=>e=.returned (.tuple #[])/\∃ g,bG c sp g (s.fU n) m/\jr f s w g (s.fU n) c:=by
 obtain⟨j,i⟩:=h.gY b;rw[Es b];refine(xB w j.but i.d).mono ?_;rintro e c ⟨o,rfl,a⟩;obtain⟨k,l⟩:=h.kL b (ja1 m) i.flush  a.p a.dp (a.rim.re λ_ _ h=>h) (nH a.kept (λ_ h=>h.1) a.rim.out)
 exact⟨rfl,_,k,l⟩
def Nc{s:SV}{C:Int}{l:List Int}(b:s.good C l)(t:List Int):(s.gK t).good C l:=λn c=>by
 obtain⟨v,a,d⟩:=b n c;obtain⟨u,g,f⟩:=(SV.alike.gK t s).head n v a
 simp_all
theorem cO.oL{w:ω}{sp b f bp cap m C:Nat}{a:Option Addr}{c:Nat->Ih}{s:SV}{j:JV}(h:PJ w sp b f bp a cap c s m C j){st:Int}(d:st=1\/st=2\/st=4\/st=5):cO sp b f bp a cap c s s m C (j.at st) w (w.setCell ⟨b,4,O⟩ st):=⟨c,(h.oL d).1,(h.oL d).2⟩
def zQ{sp b g bp cap m C:Nat}{a:Option Addr}{f:Nat->Ih}{s:SV}{j:JV}(c:Bool)(w:ω)(h:PJ w sp b g bp a cap f s m C j) :
  κ prog 131 #[b,c] w λe i=>e=.returned (.tuple #[])/\cO sp b g bp a cap f s s m C (lD j c) w i:=by
 obtain⟨t,c1,c2,c3,c4,o,v,u,r,q⟩:=h.job.cells;have d:=h.oL (st:=5) (.inr (.inr (.inr rfl)));have n:=d.1.job.cells;have l:Hid _:=cO.oL h (.inr (.inr (.inr rfl)));have k:Hid _:=cO.after d.2 (cO.oL  d.1 (.inr (.inr (.inl rfl))));unfold lD
 cases c with
 | false =>
  rw[if_neg (by decide)]
  go_enter func131,ntmps131
  go_wp2
  go_end0
  exact⟨rfl,l.out⟩
 | true =>
  rw[if_pos rfl];go_enter func131,ntmps131
  go_wp2
  go_end0
  exact⟨rfl,k.out⟩
def Qu{sp d k bp cap m C:Nat}{a:Option Addr}{f:Nat->Ih}{s:SV}{j:JV}(c:Bool)(w:ω)(h:PJ w sp d k bp a cap f s m C j) :
  κ prog 126 #[d,c] w λe l=>e=.returned (erV (iH j c))/\cO sp d k bp a cap f s s m C (l9 j c) w l:=by
 obtain⟨u,c1,c2,c3,c4,q,x,v,t,r⟩:=h.job.cells;have g:Hid _:=cO.refl h;have o:Hid _:=cO.oL h (.inl rfl);have n:Hid _:=cO.oL h (.inr (.inl rfl));unfold iH l9;have i:erV 9=.iface 96 _:=bJ (by decide)
 cases c with
 | true =>
  rw[if_pos rfl,if_pos rfl];by_cases b:j.stage=1
  .rw[if_pos b,if_pos b,aN]
   rw[b] at c4;go_enter func126,ntmps126
   go_wp2
   go_ret
   exact⟨rfl,n.out⟩
  .rw[if_neg b,if_neg b,i]
   go_enter func126,ntmps126
   go_wp2
   go_ret
   exact⟨rfl,g.out⟩
 | false =>
  rw[if_neg (show ¬(false=true) by decide),if_neg (show ¬(false=true) by decide)]
  by_cases b:j.stage=2
  .rw[if_pos b,if_pos b,aN]
   rw[b] at c4;go_enter func126,ntmps126
   go_wp2
   go_ret
   exact⟨rfl,o.out⟩
  .rw[if_neg b,if_neg b,i]
   go_enter func126,ntmps126
   go_wp2
   go_ret
   exact⟨rfl,g.out⟩
def Oj{sp d k bp cap m C:Nat}{a:Option Addr}{f:Nat->Ih}{s:SV}{j:JV}(n:Int)(w:ω)(h:PJ w sp d k bp a cap f s m C j) :
  κ prog 134 #[d,n] w λe c=>e=.returned (erV (if S4.inB n 100000=true then 0 else 1))/\cO sp d k bp a cap f s s m C (jQ j n) w c:=by
 obtain⟨D,c1,c2,c3,c4,v,B,z,y,x⟩:=h.job.cells;unfold jQ
 cases g:S4.inB n 100000 with
 | false =>
  have t:Hid _:=cO.refl h;rw[if_neg (by decide),if_neg (by decide),eu]
  go_enter func134,ntmps134
  go_wp2_with fail
  refine cSt (S4.U2 (p:=bp) n w g) ?_;go_wp2
  go_ret
  exact⟨rfl,t.out⟩
 | true =>
  have u:0<=n:=by unfold S4.inB at g;simp at g;omega
  have A:=h.ok.lv;have l:=S4.CB  (b:=j.burst)  (n:=n) h.ok.rate.1 h.ok.lv.1 (by omega) u
  have r:Hid (∀ c:ω,S4.Three 280 c bp j.rate j.burst _->S4.Kept _ w c->cO sp d k bp a cap f s s m C _ w c):=λc i o=>⟨f,(h.rU i o l).1,(h.rU i o l).2⟩
  rw[if_pos rfl,if_pos rfl,aN];go_enter func134,ntmps134
  go_wp2_with fail
  refine(S4.U3 n w h.job.bkt g h.ok.rate ⟨h.ok.lv.1,by omega⟩).mono ?_
  rintro e c ⟨rfl,i,q⟩;go_wp2
  go_ret
  exact⟨rfl,(r.out c i q)⟩
def LK{sp g l bp cap m C:Nat}{a:Option Addr}{i:Nat->Ih}{s:SV}{j:JV}(c:Int)(w:ω)(h:PJ w sp g l bp a cap i s m C j) :
  κ prog 170 #[g,c] w λe b=>e=.returned (.tuple #[])/\cO sp g l bp a cap i s s m C (dW j c) w b:=by
 obtain⟨A,c1,c2,c3,c4,v,D,B,z,y⟩:=h.job.cells;have o:Hid _:=cO.refl h;have f:=ah (Ap w h.job);have q:=ah (S4.yO c true w h.job.set h.ok.set);have u:Hid (∀ b:ω,S4.iq b l j.n (S4.eY j.n j.x c true)->S4.Kept _ w b->cO sp g l bp a cap i s s m C _ w b):=λb k d=>⟨i,(h.qG k d).1,(h.qG k d).2⟩
 unfold dW;generalize S4.fK j.n j.x c true=E at q;by_cases d:j.kind=2
 .rw[if_pos (.inl d)]
  go_enter func170,ntmps170
  go_wp2
  go_end0
  exact⟨rfl,o.out⟩
 .by_cases r:4<=j.stage
  .rw[if_pos (.inr r)]
   rw[decide_eq_false _] at f;go_enter func170,ntmps170
   go_wp2_with fail
   refine cSt f.out ?_;go_wp2
   go_end0
   exact⟨rfl,o.out⟩
  .rw[if_neg (by rintro(e|e);exact d e;exact r e)]
   rw[decide_eq_true _] at f;go_enter func170,ntmps170
   go_wp2_with fail
   refine cSt f.out ?_;go_wp2_with fail
   refine q.out.mono ?_;rintro e b ⟨rfl,k,t⟩;go_wp2
   go_end0
   exact⟨rfl,(u.out b k t)⟩
theorem cO.more{w b:ω}{sp c f bp cap m m' C:Nat}{a:Option Addr}{d:Nat->Ih}{s z:SV}{j:JV}(h:cO sp c f bp a cap d s z m C j w b)(k:m<=m'):cO sp c f bp a cap d s z m' C j w b:=by
 obtain⟨g,l,i⟩:=h;exact⟨g,l.more k,i⟩
def PJ.vK{w c d:ω}{sp f i bp cap m m' C:Nat}{a:Option Addr}{b:Nat->Ih}{s:SV}{j:JV}{R:SV × Int}{e:Ending}(h:PJ w sp f i bp a cap b s m C j)(g:β w w c)(hd:cZ c sp b s m' R e d)(t:s.alike R.1):e=.returned (erV R.2)/\cO sp f i bp a cap b s R.1 m' C j w d:=by
 obtain⟨k,q,l,n⟩:=hd;obtain⟨o,r⟩:=(h.below g).kL l n t;exact⟨q,k,o,(Moved.of_below g).trans r⟩
def PJ.reads{w:ω}{sp b x bp cap m C:Nat}{a:Option Addr}{q:Nat->Ih}{s:SV}{j:JV}(h:PJ w sp b x bp a cap q s m C j):∃(g o:Nat) (n:Int) (r:List Int) (v:IV),a=S ⟨g,o,O⟩/\j.l=n::r/\s.file n=S v/\v.h.c=C /\
  ∀ W:ω,β w w W->W.cell? ⟨b,0,O⟩=S (.pointer (S ⟨sp,6,O⟩))/\W.cell? ⟨b,1,O⟩=S (.slice a j.l.length cap)/\W.cell? ⟨b,2,O⟩=S (j.kind:υ)/\W.cell? ⟨b,3,O⟩=S (j.file:υ)/\W.cell? ⟨g,o,O⟩=S (n:υ):=by
 obtain⟨n,r,v,d,k,t⟩:=h.ok.root;obtain⟨g,o,u,f⟩:=h.nums 0 (by rw[d];simp)
 refine⟨g,o,n,r,v,u,d,k,t,λW i=>?_⟩
 obtain⟨y,c1,c2,c3,_⟩:=(h.below i).job.cells;refine⟨y,c1,c2,c3,?_⟩;rw[d,jaI] at f;exact(i.cell  (ja2 _ _ f)).trans f
def Oa{sp b B bp cap m C:Nat}{a:Option Addr}{F:Nat->Ih}{s:SV}{j:JV}(k:Nat)(w:ω)(h:PJ w sp b B bp a cap F s m C j)(K:k<C)(S:m+10<1000000000) :
    κ prog 203 #[b,(k:Int)] w λe q=>e=.returned (erV (j.moved s (k:Int)).2)/\cO sp b B bp a cap F s (j.moved s (k:Int)).1 (m+10) C j w q:=by
  obtain⟨v,U⟩:=h.ok.into;obtain⟨r1,r2⟩:=h.ok.read h.shelf.ok K
  have z:Hid (∀ W:ω,β w w W->κ prog 171 #[.pointer (some ⟨sp,6,none⟩),.slice a j.l.length cap,(k:Int)] W λe q=>e=.returned (.tuple #[.string (s.read j.l (k:Int)).1,.nilIface])/\β W W q):=λW u=>by
    have:=zN (cap:=cap) j.l (k:Int) W (h.shelf.below u) (h.nums.below u) h.ok.good (by have:=h.ok.len;omega)
    rw[r1,aN] at this;exact this
  have f:Hid (∀ W:ω,β w w W->κ prog 244 #[.pointer (some ⟨sp,6,none⟩),j.into,(k:Int),.string (s.read j.l (k:Int)).1] W λe q=>e=.returned (erV (j.moved s (k:Int)).2)/\cO sp b B bp a cap F s (j.moved s (k:Int)).1 (m+10) C j w q):=λW u =>
    (KI j.into (k:Int) _ W (h.shelf.below u) U r2 S).mono λe q hd=>h.vK u hd (SV.alike.move _ _ _ _)
  obtain⟨g,o,n,r,v',V,I,_,_,Z⟩:=h.reads;have c:=ah Z;have D:Hid (j.into=if j.kind=2 then n else j.file):=by unfold Hid JV.into;rw[I];rfl
  have P:0<j.l.length:=by rw[I];simp
  have N:(0:Int)<(j.l.length:Int):=by omega
  subst V;generalize (s.read j.l (k:Int)).1=T at z f;generalize j.moved s (k:Int)=R at f |-;generalize j.into=into at f D;generalize j.l.length=ln at z c N P;obtain⟨Y,c1,c2,c3,c4⟩:=c.out w (ja0 _ _);have H  := Y;have G  := c1;have t:Hid (β w w w.drew):=(ja0 _ _).drew;by_cases y:j.kind=2
  . have g1:(j.kind==2)=true:=by simpa using y
    have A:Hid (into=n):=by unfold Hid;rw[D.out,if_pos y]
    rw[A.out] at f;generalize j.kind=kd at g1 c2 c;generalize j.file=fl at c3 c;go_enter func203,ntmps203
    go_wp2
    go_region_held3 (λW=>W.cell? ⟨b,0,none⟩=some (.pointer (some ⟨sp,6,none⟩))/\W.cell? ⟨b,1,none⟩=some (.slice (some ⟨g,o,none⟩) ln cap))
      (first|(exact⟨H,G⟩)|assumption)
      (first
        | (go_at_call 171;refine cEq (z.out _ t.out) λi x=>?_;have d:=ah (t.out.trans (x.mono t.out.size));have O:i.cell? ⟨b,0,none⟩=some (.pointer (some ⟨sp,6,none⟩))/\i.cell? ⟨b,1,none⟩=some (.slice (some ⟨g,o,none⟩) ln cap):=⟨(c.out _ d.out).1,(c.out _ d.out).2.1⟩;clear x))
    obtain⟨J,L,q2,M,Q⟩:=c.out i d.out;go_wp2_with fail
    refine cHd (f.out _ d.out) λX E=>?_
    go_wp2
    go_ret
    exact⟨rfl,E.out⟩
  . have g1:(j.kind==2)=false:=by simpa using y
    have A:Hid (into=j.file):=by unfold Hid;rw[D.out,if_neg y]
    rw[A.out] at f;generalize j.kind=kd at g1 c2 c;generalize j.file=fl at c3 c f;go_enter func203,ntmps203
    go_wp2
    go_region_held3 (λW=>W.cell? ⟨b,0,none⟩=some (.pointer (some ⟨sp,6,none⟩))/\W.cell? ⟨b,1,none⟩=some (.slice (some ⟨g,o,none⟩) ln cap))
      (first|(exact⟨H,G⟩)|assumption)
      (first
        | (go_at_call 171;refine cEq (z.out _ t.out) λi x=>?_;have d:=ah (t.out.trans (x.mono t.out.size));have O:i.cell? ⟨b,0,none⟩=some (.pointer (some ⟨sp,6,none⟩))/\i.cell? ⟨b,1,none⟩=some (.slice (some ⟨g,o,none⟩) ln cap):=⟨(c.out _ d.out).1,(c.out _ d.out).2.1⟩;clear x))
    obtain⟨J,L,q2,M,Q⟩:=c.out i d.out;go_wp2_with fail
    refine cHd (f.out _ d.out) λX E=>?_
    go_wp2
    go_ret
    exact⟨rfl,E.out⟩
def N9{sp c t bp cap m C:Nat}{a:Option Addr}{k:Nat->Ih}{s:SV}{j:JV}(w:ω)(h:PJ w sp c t bp a cap k s m C j)(F:m+10<1000000000) :
    κ prog 197 #[c] w λe b=>e=.returned (erV (dL s (j.l.headD 0) j.file).2)/\cO sp c t bp a cap k s (dL s (j.l.headD 0) j.file).1 (m+10) C j w b:=by
  obtain⟨g,o,n,r,v,G,u,y,_,z⟩:=h.reads;have E:j.l.headD 0=n:=by rw[u];rfl
  rw[E]
  have x:Hid (∀ W:ω,β w w W->κ prog 153 #[.pointer (S ⟨sp,6,O⟩),n] W λe b=>e=.returned (.pointer _)/\b=W):=λW d=>by
    have:=tH n W (h.shelf.below d)
    rw[y] at this;exact this
  have f:=ah λW (d:β w w W)=>(OJ j.file W (h.shelf.below d) y F).mono λe b hd=>h.vK d hd (SV.alike.link _ _ _)
  have i:=ah z;have D:0<j.l.length:=by rw[u];simp
  have B:(0:Int)<(j.l.length:Int):=by omega
  subst G;generalize dL s n j.file=R at f |-;generalize (k n.toNat).p=xp at x f;generalize j.l.length=ln at i B D;generalize j.kind=kd at i;generalize j.file=fl at i f;obtain⟨A,c1,c2,c3,c4⟩:=i.out w (ja0 _ _);have I  := c3;have q:Hid (β w w w.drew):=(ja0 _ _).drew;go_enter func197,ntmps197
  go_wp2
  go_region_held3 (λW=>W.cell? ⟨c,0,O⟩=S (.pointer (S ⟨sp,6,O⟩))/\W.cell? ⟨c,1,O⟩=S (.slice (S ⟨g,o,O⟩) ln cap)/\W.cell? ⟨g,o,O⟩=S (n:υ))
    (first|(exact⟨A,c1,c4⟩)|assumption)
    (first
      | (go_at_call 153;refine(x.out _ q.out).mono ?_;rintro e b ⟨rfl,rfl⟩))
  go_wp2_with fail
  refine cHd (f.out _ q.out) λJ H=>?_
  go_wp2
  go_ret
  exact⟨rfl,H.out⟩
def SV.Vh{s:SV}{f:Int}:∀(k:Nat) (l:List Int) (n:Int),(s.iK f k l n).2≠0->(s.iK f k l n).1=[]:=by
 intro k
 induction k with
 | zero=>intro l n _;rfl
 | succ k i =>
  intro l n h;by_cases a:n = -1
  .subst a;exact absurd rfl h
  .cases b:s.file n with
   | none=>rw[SV.vV a b]
   | some v =>
    by_cases d:l.length=5
    .rw[SV.vU a b d]
    .by_cases g:v.h.c=f
     .rw[SV.uD a b d g] at h |-;exact i _ _ h
     .rw[SV.walk_other a b d g]
structure Fl(w:ω)(sp jp lp bp:Nat)(a:Option Addr)(cap:Nat)(xs:Nat->Ih)(s:SV)(m C:Nat)(j:JV)(b:Option Addr)(l:List Int)(z:SV)(wr:ω)(ys:Nat->Ih):Prop where
 p:PJ wr sp jp lp bp a cap ys z m C j
 m:Moved (fpP xs s jp lp bp) w (fpP ys z jp lp bp) wr
 n:Nums wr b l
 ap:Apart b (fpP ys z jp lp bp)
def Cj{l:List Int}{k:Nat}(h:k<l.length):l.take (k+1)=l.take k++[l.getD k 0]:=by
 simp_all
structure Fls(s:SV)(l:List Int)(F:Nat->SV):Prop where
 zero:F 0=s
 next:∀ k,k<l.length->F (k+1)=(F k).fU (l.getD k 0)
 all:F l.length=s.gK l
 alike:∀ k,s.alike (F k)
def fls(s:SV)(l:List Int):∃ F,Fls s l F :=
 ⟨λk=>s.gK (l.take k),rfl,λk a=>by rw[Cj a,SV.Ae],by simp_all,λk=>SV.alike.gK _ s⟩
def N8{sp c t bp cap m C:Nat}{a:Option Addr}{q:Nat->Ih}{s:SV}{j:JV}(w:ω)(h:PJ w sp c t bp a cap q s m C j) :
    κ prog 196 #[c] w λe w'=>e=.returned (erV (s.walk j.file).2)/\cO sp c t bp a cap q s (s.gK (s.walk j.file).1) m C j w w':=by
  have Y:=ah h;obtain⟨S,c1,c2,c3,_⟩:=h.job.cells;have d0  := S;have M  := c3;have A:Hid (β w w w.drew):=(ja0 _ _).drew
  have U:Hid (∀ W:ω,β w w W->W.cell? ⟨c,0,none⟩=some (.pointer (some ⟨sp,6,none⟩))/\W.cell? ⟨c,3,none⟩=some (j.file:υ)):=λW y=>by
    obtain⟨S,c1,c2,c3,_⟩:=(h.below y).job.cells;exact⟨S,c3⟩
  have r:=ah (uN j.file w.drew (h.shelf.below A.out));obtain⟨hg,T,a4,_⟩:=s.walk_good j.file;have J:=ah hg;have O:Hid ((s.walk j.file).2≠0->(s.walk j.file).1=[]):=SV.Vh _ _ _;generalize s.gZ j.file=rc at J;generalize s.walk j.file=R at r J O T a4 |-;obtain⟨l,f⟩:=R;simp only at r J O T a4 |-;obtain⟨F,d⟩:=fls s l;have V:=ah d;have a5:Hid (f≠0->s.gK l=s):=λe=>by rw[O.out e];rfl
  rw[<- d.all] at a5 |-;generalize j.file=fl at c3 M U r;by_cases B:f=0
  . subst B
    rw[aN] at r |-;generalize a2:l.length=ln at r T |-;go_enter func196,ntmps196
    go_wp2
    go_region_held3 (λW=>W.cell? ⟨c,0,none⟩=some (.pointer (some ⟨sp,6,none⟩))/\W.cell? ⟨c,3,none⟩=some (fl:υ))
      (first|(exact⟨d0,M⟩)|assumption)
      (first
        | (go_at_call 77;refine r.out.mono ?_;rintro e w1 ⟨b,bc,rfl,a0,Z,X⟩;have x:=ah (A.out.trans (X.mono A.out.size));have ac:=U.out _ x.out))
    have aa:Hid (Fl w sp c t bp a cap q s m C j b l (F 0) w1 q):=by
      unfold Hid;rw[V.out.zero]
      exact⟨Y.out.below x.out,Moved.of_below x.out,a0,λg o e B=>by
        have E:=Y.out.gQ B;have h3:w.heap.size<=g:=(Z g o e).1
        omega⟩
    go_wp2
    go_loopw [24] (λi wr=>∃(k:Nat) (L:Nat->Ih),k<=ln/\i=.int .i64 (k:Int)/\Fl w sp c t bp a cap q s m C j b l (F k) wr L) (λi _=>ln-(intOf i).toNat)
    case atStart=>exact⟨0,q,ja5 _,rfl,aa.out⟩
    case round =>
      obtain⟨k,L,hk,rfl,d⟩:=hrel;have u:=ah d;by_cases ae:k<ln
      . have K:k<l.length:=by omega
        obtain⟨g,o,y,a7⟩:=d.n k K;subst y;obtain⟨v0,ad,_⟩:=J.out (l.getD k 0) (by rw[ja6,ja8 K];exact jac K)
        obtain⟨v,Q,_⟩:=(V.out.alike k).head _ _ ad;have N:=d.p.shelf.jW Q;obtain⟨n0,n5,_⟩:=SV.dS Q;have G:=ah (Et wr d.p.shelf Q);have I:Hid (F (k+1)=(F k).fU (l.getD k 0)):=V.out.next k K;obtain⟨e0,_⟩:=d.p.job.cells;have a3:Hid ((F k).alike ((F k).fU (l.getD k 0))):=SV.alike.fU _ _;generalize l.getD k 0=n at a7 N G I n0 n5 a3;obtain⟨D,rfl⟩:∃ D:Nat,n=(D:Int):=⟨n.toNat,by omega⟩
        have ab:((D:Int)).toNat=D:=by omega
        rw[ab] at N G;generalize (L D).p=xp at N G;have k1:(k:Int)<(ln:Int):=by omega
        go_wp2_with fail
        refine G.out.mono ?_;rintro e w2 ⟨rfl,zs,E,H⟩
        have a8:Hid (Fl w sp c t bp a cap q s m C j (some ⟨g,o,none⟩) l (F (k+1)) w2 zs):=by
          obtain⟨h3,P⟩:=u.out.p.kL E H a3.out;have a6:l≠[]:=by intro e;subst e;simp at a2;omega
          refine⟨by rw[I.out];exact h3,by rw[I.out];exact u.out.m.trans P,u.out.n.moved P u.out.ap,by rw[I.out];exact u.out.ap.moved u.out.n a6 P⟩
        go_wp2
        go_roundw
        case rel =>
          exact⟨k+1,zs,by omega,by go_num,a8.out⟩
        case measure=>simp[intOf];omega
      . have a9:k=l.length:=by omega
        have HD:Hid (cO sp c t bp a cap q s (F ln) m C j w wr):=by
          have E:=d.p;have H:=d.m;rw[a9,a2] at E H;exact⟨L,E,H⟩
        go_wp2
        go_ret
        exact⟨rfl,HD.out⟩
  . have a1:Hid (∀ W:ω,β w w W->cO sp c t bp a cap q s (F l.length) m C j w W):=λW y=>by
      rw[a5.out B];exact cO.below Y.out y
    rw[bJ B] at r |-;generalize F l.length=z at a1 |-;generalize l.length=ln at r;go_enter func196,ntmps196
    go_wp2
    go_region_held3 (λW=>W.cell? ⟨c,0,none⟩=some (.pointer (some ⟨sp,6,none⟩))/\W.cell? ⟨c,3,none⟩=some (fl:υ))
      (first|(exact⟨d0,M⟩)|assumption)
      (first
        | (go_at_call 77;refine r.out.mono ?_;rintro e w1 ⟨b,bc,rfl,a0,Z,X⟩;have x:=ah (A.out.trans (X.mono A.out.size));have ac:=U.out _ x.out))
    go_wp2
    go_ret
    exact⟨rfl,(a1.out _ x.out)⟩
structure lN(w1:ω)(sp:Nat)(xs:Nat->Qh)(s:SV)(m:Nat)(C:Int)(l:List Int)(op:SV->Pt->SV × Int)(fr n:Nat)(R:SV × Int)(k:Nat)(ys:Nat->Qh)(z:SV)(wr:ω):Prop where
 shelf:bG wr sp ys z (m+10*k)
 good:z.good C l
 go:jC op z (aV fr n k)=R
 moved:jr xs s w1 ys z wr
 le:k<=n
def lN.step{c wr W i:ω}{sp m k fr n:Nat}{d g:Nat->Qh}{s z:SV}{C:Int}{l:List Int}{a:SV->Pt->SV × Int}{R:SV × Int}{e:Ending}(h:lN c sp d s m C l a fr n R k g z wr)(t:β wr wr W)(f:k<n)(v:∀(s:SV) p,s.good C l->(a s p).1.good C l)(hd:bH W sp g z (m+10*k+10) (a z (aG fr n k)) e i)(q:(a z (aG fr n k)).2=0) :
  ∃ b u,lN c sp d s m C l a fr n R (k+(aG fr n k).n) b u i:=by
 obtain⟨b,w,o,r⟩:=hd;have j:=nV (fr:=fr) f;refine⟨b,(a z _).1,⟨o.more (by omega),v _ _ h.good,?_,h.moved.trans ((jr.of_below t).trans r),j.2.2⟩⟩
 have:=h.go
 rw[qE f,pY,if_pos q] at this;exact this
def lN.stop{b wr W f:ω}{sp m k fr n M:Nat}{c d:Nat->Qh}{s z:SV}{C:Int}{l:List Int}{a:SV->Pt->SV × Int}{R:SV × Int}{e:Ending}(h:lN b sp c s m C l a fr n R k d z wr)(r:β wr wr W)(t:k<n)(j:m+10*k+10<=M)(hd:bH W sp d z (m+10*k+10) (a z (aG fr n k)) e f)(o:(a z (aG fr n k)).2≠0) :
  R=a z (aG fr n k)/\bH b sp c s M R e f:=by
 have u:R=a z (aG fr n k):=by
  have:=h.go
  rw[qE t,pY,if_neg o] at this
  simp_all
 obtain⟨g,v,i,q⟩:=hd;rw[u];exact⟨rfl,g,v,i.more j,h.moved.trans ((jr.of_below r).trans q)⟩
def lN.fin{a wr:ω}{sp m k fr n M:Nat}{b c:Nat->Qh}{s z:SV}{C:Int}{l:List Int}{g:SV->Pt->SV × Int}{R:SV × Int}(h:lN a sp b s m C l g fr n R k c z wr)(i:¬k<n)(f:m+10*k<=M):bH a sp b s M R (.returned (0:Int)) wr:=by
 have d:=h.go;rw[rQ i] at d;rw[d.symm];exact⟨c,rfl,h.shelf.more f,h.moved⟩
def FC(f n k:Nat)(b:k<n):((aG f n k).c:Int)=((f:Int)+(k:Int)) / 4/\((aG f n k).f:Int)=((f:Int)+(k:Int)) % 4/\((aG f n k).n:Int)=min (4-((f:Int)+(k:Int)) % 4) ((n:Int)-(k:Int))/\(aG f n k).a=k:=by
 refine⟨?_,?_,?_,rfl⟩
 .show(((f+k) / 4:Nat):Int)=_;omega
 .show(((f+k) % 4:Nat):Int)=_;omega
 .show((min _ (n-k):Nat):Int)=_;omega
def wL{s:SV}{l:List Int}{fr n:Int}(a:s.aW l fr n≠0):0<s.aW l fr n:=by
 unfold SV.aW at *
 omega
def AA(s:SV)(l:List Int)(c f:Nat)(t:ByteArray):0<=(s.lay l c f t).2:=by
 unfold SV.lay;split
 .simp
 .split
  .simp
  .split
   .exact I7 _ _ _ _
   .exact Eo _ _ _
def I4(l:List Int)(s:SV)(p:Pt):0<=(SV.dI l s p).2:=by
 unfold SV.dI;split
 .simp
 .split
  .simp
  .split
   .exact DC _ _
   .split
    .omega
    .exact AA _ _ _ _ _
def SY{sp m cap C:Nat}{j:Nat->Qh}{s:SV}{a:Option Addr}(l:List Int)(fr:Int)(t:ByteArray)(w:ω)(h:bG w sp j s m)(U:Nums w a l)(I:s.good (C:Int) l)(h5:l.length<=100)(hC:C<=40)(ha:Apart a (fpQ j s))(hm:m+3000<1000000000)(af : -9223372036854775808<=fr/\fr<=9223372036854775807)(ht:t.size<=10000) :
  κ prog 115 #[sp,.slice a l.length cap,fr,t,false] w (bH w sp j s (m+2000) (s.put l fr t)):=by
 by_cases L:t.size % 16=0
 .have am:decide (0<(t.size:Int) % 16)=false:=decide_eq_false (by omega)
  obtain⟨n,hn⟩:∃ n:Nat,t.size=n*16:=⟨t.size / 16,by omega⟩
  have a2:t.size / 16=n:=by omega
  have v:=ah (vJ (cap:=cap) l fr (n:Int) w h U I (by omega) af)
  by_cases B:s.aW l fr (n:Int)=0
  .obtain⟨H,n0,n1,n2⟩:=SV.mO I B
   obtain⟨f,rfl⟩:∃ f:Nat,fr=(f:Int):=⟨fr.toNat,by omega⟩
   have A:Hid (s.put l (f:Int) t=jC (SV.gU l t) s (aV f n 0)):=by unfold Hid SV.put;rw[if_pos L,a2,if_pos B];rfl
   rw[B] at v;generalize s.put l (f:Int) t=R at A |-;have ab:Hid (∀(s:SV) p,s.good (C:Int) l->(SV.gU l t s p).1.good (C:Int) l):=λs p I=>I.gU l t p
   have an:Hid (∀ b:ω,β w w b->lN b sp j s m (C:Int) l (SV.gU l t) f n R 0 j s b):=λb E=>⟨h.below E,I,A.out.symm,jr.refl _ _ _,ja5 _⟩
   have V:Hid (∀(b wr:ω) (u:Nat->Qh) (z:SV) (k:Nat),k<n->β w w b->lN b sp j s m (C:Int) l (SV.gU l t) f n R k u z wr ->
     κ prog 180 #[sp,.slice a l.length cap,((aG f n k).c:Int),((aG f n k).f:Int),.string (eU t k (aG f n k).n)] wr (bH wr sp u z (m+10*k+10) (SV.gU l t z (aG f n k)))):=λb wr u z k y K r=>by
    have Y:=xO (C:=C) y (by omega:f+n<=4*C)
    have ad:Nums wr a l:=(U.below K).moved r.moved.toMoved (λg o e=>ha g o e)
    have aa:(eU t k (aG f n k).n).size=(aG f n k).n*16:=rX (by have:=(nV (fr:=f) y).2.2;omega)
    exact GR l (aG f n k).c (aG f n k).f (eU t k (aG f n k).n) wr r.shelf ad r.good H h5 (by omega) (by rw[aa];have:=Y.n4;omega) (by have:=Y.c;omega)
   have a8:=ah λk (y:k<n)=>FC f n k y
   have a4:Hid (∀ k,k<n->1<=(aG f n k).n/\(aG f n k).f+(aG f n k).n<=4/\k+(aG f n k).n<=n):=λk y=>nV y
   have a1:=ah λb w' R e (E:β w w b) (hd:bH b sp j s (m+2000) R e w')=>bH.from hd E
   generalize hq:l.length=q at v V |-;go_enter func115,ntmps115
   go_wp2_with fail
   refine cEq v.out λb K=>?_
   have O:=ah K;have a6:=ah (an.out b K);go_wp2
   go_loopw [13] (λi wr=>∃(k:Nat) (u:Nat->Qh) (z:SV),i=.int .i64 (k:Int)/\lN b sp j s m (C:Int) l (SV.gU l t) f n R k u z wr) (λi _=>n-(intOf i).toNat)
   case atStart=>exact⟨0,j,s,rfl,a6.out⟩
   case round =>
    obtain⟨k,u,z,rfl,r⟩:=hrel;have ao:=r.le;by_cases x:k<n
    .have G:=ah (V.out b wr u z k x O.out r)
     obtain⟨i1,i2,i3,_⟩:=a8.out k x;obtain⟨p1,p2,p3⟩:=a4.out k x;rw[i1,i2] at G;have S:=ah i3;have P:=ah λe D (hd:bH wr sp u z (m+10*k+10) (SV.gU l t z (aG f n k)) e D) (H:(SV.gU l t z (aG f n k)).2=0)=>r.step (ja0 _ _) x ab.out hd H
     have T:Hid (∀ e D,bH wr sp u z (m+10*k+10) (SV.gU l t z (aG f n k)) e D->(SV.gU l t z (aG f n k)).2≠0->R=SV.gU l t z (aG f n k)/\bH b sp j s (m+2000) R e D):=λe D hd H=>r.stop (ja0 _ _) x (by omega) hd H
     have X:Hid (0<=(SV.gU l t z (aG f n k)).2):=AA _ _ _ _ _;generalize SV.gU l t z (aG f n k)=Z at G P T X;generalize az:(aG f n k).n=d at G P S p1 p2 p3;have aq:(0:Int)<=(f:Int)+(k:Int):=by omega
     have k1:IntKind.i64.wrap ((f:Int)+(k:Int))=(f:Int)+(k:Int):=ja7 _ (by omega)
     have k4:min (4-((f:Int)+(k:Int)) % 4) ((n:Int)-(k:Int))=(d:Int):=S.out.symm;have k5:IntKind.i64.wrap (16*(k:Int))=16*(k:Int):=ja7 _ (by omega)
     have k6:IntKind.i64.wrap ((k:Int)+(d:Int))=(k:Int)+(d:Int):=ja7 _ (by omega)
     have k7:IntKind.i64.wrap (16*((k:Int)+(d:Int)))=16*((k:Int)+(d:Int)):=ja7 _ (by omega)
     have k8:(0:Int)<=16*(k:Int):=by omega
     have ar:(16*(k:Int)).toNat=16*k:=by omega
     have ax:(16*((k:Int)+(d:Int))).toNat=16*(k+d):=by omega
     have av:(k:Int)<=(k:Int)+(d:Int):=by omega
     have a7:eU t k d=t.extract (16*k) (16*(k+d)):=by unfold eU;rw[show k*16=16*k by omega,show(k+d)*16=16*(k+d) by omega]
     rw[a7] at G;go_wp2_with fail
     refine G.out.mono ?_;rintro e D hd;have a3:=hd;obtain⟨ap,rfl,_,_⟩:=a3;rw[qI];by_cases N:Z.2=0
     .obtain⟨ae,z2,a9⟩:=P.out _ _ hd N
      have ac:=ah a9;rw[N];go_wp2
      go_roundw
      case rel =>
       exact⟨k+d,ae,z2,by go_num,ac.out⟩
      case measure=>simp[intOf];omega
     .obtain⟨aw,al⟩:=T.out _ _ hd N
      have a0:=ah (a1.out _ _ _ _ O.out al);have a5:0<Z.2:=by have:=X.out;omega
      generalize Z.2=fz at a5 a0 |-;go_wp2
      go_ret
      exact a0.out
    .have J:=ah (a1.out _ _ _ _ O.out (r.fin x (M:=m+2000) (by omega)))
     go_wp2
     go_ret
     exact J.out
  .have A:Hid (s.put l fr t=(s,s.aW l fr (n:Int))):=by unfold Hid SV.put;rw[if_pos L,a2,if_neg B]
   have Q:Hid (∀ W:ω,β w w W->bH w sp j s (m+2000) (s,s.aW l fr (n:Int)) (.returned (s.aW l fr (n:Int))) W):=λW E=>bH.same (h.more (by omega)) E
   have ai:=wL B;rw[A.out];generalize s.aW l fr (n:Int)=F at v Q B ai |-;generalize l.length=q at v |-;go_enter func115,ntmps115
   go_wp2_with fail
   refine cEq v.out λwA ag=>?_
   have J:=ah (Q.out _ ag);go_wp2
   go_ret
   exact J.out
 .have am:decide (0<(t.size:Int) % 16)=true:=decide_eq_true (by omega)
  have A:Hid (s.put l fr t=(s,1)):=by unfold Hid SV.put;rw[if_neg L]
  have J:Hid (bH w sp j s (m+2000) (s,1) (.returned (1:Int)) w):=bH.same (h.more (by omega)) (ja0 _ _)
  rw[A.out];generalize l.length=q;go_enter func115,ntmps115
  go_wp2
  go_ret
  exact J.out
def text_eq(t u:ByteArray):(t.toList==u.toList)=decide (t=u):=by
 by_cases h:t=u
 .simp_all
 .have:t.toList≠u.toList:=λe=>h (by
   rw[jbw,jbw] at e
   rw[<- wG t,e,wG])
  simp_all
def Sl{sp m:Nat}{d:Nat->Qh}{s:SV}{v:IV}(n c:Int)(t:ByteArray)(w:ω)(h:bG w sp d s m)(f:s.file n=some v)(ht:t.size=64)(Y:m+10<1000000000) :
  κ prog 207 #[sp,n,c,t] w (bH w sp d s (m+10) (s.move n c t)):=by
 obtain⟨n0,n5,_⟩:=SV.dS f;obtain⟨k,rfl⟩:∃ k:Nat,n=(k:Int):=⟨n.toNat,by omega⟩
 have F:((k:Int)).toNat=k:=by omega
 obtain⟨D,a0⟩:=h.gY f;have a1:=h.jW f;rw[F] at D a1;have J:Hid (s.move (k:Int) c t=if t=dY 64 then (s.upd k (v.clear c),v.fB c) else if (v.bC c).1=2 then (s.upd k (v.write c 0 t),v.dJ c 0 t) else (s.upd k (v.fill c t),v.dD c t)):=by unfold Hid SV.move;rw[f];rfl
 have u:Hid (κ prog 43 #[(64:Int)] w λe K=>e=.returned (.string (dY 64))/\β w w K):=xQ 64 w (by decide)
 have l:=ah λW (b:β w w W)=>sF c W (D.below b) a0.len
 have X:Hid (∀ W:ω,β w w W->κ prog 181 #[(d k).p,c] W (bH w sp d s (m+10) (s.upd k (v.clear c),v.fB c))):=λW b=>by
  have:=(Gn c W (h.below b) f Y).mono λe K hd=>bH.from hd b
  rw[F] at this;exact this
 have G:Hid (∀ W:ω,β w w W->κ prog 230 #[(d k).p,c,(0:Int),t] W (bH w sp d s (m+10) (s.upd k (v.write c 0 t),v.dJ c 0 t))):=λW b=>by
  have:=(G9 c 0 t W (h.below b) f Y (by omega) (by decide)).mono λe K hd=>bH.from hd b
  rw[F] at this;exact this
 have M:Hid (∀ W:ω,β w w W->κ prog 231 #[(d k).p,c,t] W (bH w sp d s (m+10) (s.upd k (v.fill c t),v.dD c t))):=λW b=>by
  have:=(GH c t W (h.below b) f Y).mono λe K hd=>bH.from hd b
  rw[F] at this;exact this
 have I:Hid (∀ W:ω,β w w W->bH w sp d s (m+10) (s,1) (.returned (1:Int)) W):=λW b=>bH.same (h.more (by omega)) b
 have T:Hid (v.there c=false->(s.upd k (v.fill c t),v.dD c t)=(s,1)):=λi=>by
  have e1:v.fill c t=v:=by unfold IV.fill;rw[i,if_neg (by simp)]
  have e2:v.dD c t=1:=by unfold IV.dD;rw[i,if_neg (by simp)]
  have e3:s k=some v:=by have:=(SV.dS f).2.2;rw[F] at this;exact this
  rw[e1,e2]
  congr 1
  funext j
  unfold SV.upd;split
  .next hj=>rw[hj,e3]
  .rfl
 have P:Hid (v.there c=true->∃(a g2 N:Nat),c=(a:Int)/\a<v.t.length/\∀ W:ω,β w w W->W.cell? ⟨(d k).p,4,none⟩=some (.slice (some ⟨g2,0,none⟩) v.t.length N)/\W.cell? ⟨g2,a*2,none⟩=some (.int .i64 (v.bC c).1)):=λi=>by
  obtain⟨t0,t1⟩:=IV.nP i;obtain⟨a,rfl⟩:∃ a:Nat,c=(a:Int):=⟨c.toNat,by omega⟩
  obtain⟨g2,N,a3,a5,e0,_⟩:=D.jA (c:=a) (by omega)
  refine⟨a,g2,N,rfl,by omega,λW b=>?_⟩
  have e4:=(D.below b).cells.2.2.2.2.1;rw[a3] at e4;refine⟨e4,?_⟩;have a2:(v.bC (a:Int)).1=(v.t.getD a (0,0)).1:=by unfold IV.bC;rw[i,if_pos rfl];rfl
  rw[a2,b.cell (p:=⟨g2,a*2,none⟩) a5];exact e0
 have V:Hid (v.there c=false->(v.bC c).1=0):=λi=>by unfold IV.bC;rw[i];rfl
 have k0:(0:Int)<=(k:Int):=by omega
 have k1:(k:Int)<5:=by omega
 have H:=text_eq t (dY 64);generalize s.move (k:Int) c t=R at J |-;clear h f D a0 ht;generalize (d k).p=xp at a1 l X G M P;by_cases B:t=dY 64
 .have o:Hid (R=(s.upd k (v.clear c),v.fB c)):=by unfold Hid;rw[J.out,if_pos B]
  rw[decide_eq_true B] at H;rw[<- o.out] at X;generalize dY 64=NB at H u;clear B J l G M I T P V;go_enter func207,ntmps207
  go_wp2_with fail
  refine cEq u.out λE q=>?_
  have a4:=ah (X.out _ q);go_wp2_with fail
  refine a4.out.mono ?_;rintro e w2 ⟨z,rfl,A,C⟩;have r:Hid (bH w sp d s (m+10) R (.returned R.2) w2):=⟨z,rfl,A,C⟩;rw[qI];go_wp2
  go_ret
  exact r.out
 .rw[decide_eq_false B] at H
  have L:Hid (R=if (v.bC c).1=2 then (s.upd k (v.write c 0 t),v.dJ c 0 t) else (s.upd k (v.fill c t),v.dD c t)):=by unfold Hid;rw[J.out,if_neg B]
  generalize dY 64=NB at H u
  cases x:v.there c with
  | false =>
   have o:Hid (R=(s,1)):=by
    unfold Hid;rw[L.out,if_neg (by rw[V.out x];decide),T.out x]
   rw[x] at l;rw[<- o.out] at I;go_enter func207,ntmps207
   go_wp2_with fail
   refine cHd u.out λE g=>?_
   go_wp2_with fail
   refine cSt (l.out _ g.out) ?_;have r:=ah (I.out _ g.out);go_wp2
   go_ret
   exact r.out
  | true =>
   obtain⟨a,g2,N,rfl,a6,Z⟩:=P.out x;have Q:=ah Z;rw[x] at l;have q0:(0:Int)<=(a:Int):=by omega
   have q1:(a:Int)<(v.t.length:Int):=by omega
   have q2:((a:Int)).toNat=a:=by omega
   clear x T P V Z I;generalize (v.bC (a:Int)).1=y at L Q;generalize v.t.length=tl at q1 Q a6;by_cases O:y=2
   .have o:Hid (R=(s.upd k (v.write (a:Int) 0 t),v.dJ (a:Int) 0 t)):=by unfold Hid;rw[L.out,if_pos O]
    have g1:(y==2)=true:=by simpa using O
    rw[<- o.out] at G;go_enter func207,ntmps207
    go_wp2_with fail
    refine cEq u.out λE q=>?_
    have g:=ah q;obtain⟨d1,d2⟩:=Q.out E q;go_wp2_with fail
    refine cSt (l.out _ g.out) ?_;have S:=ah (G.out _ g.out);go_wp2_with fail
    refine S.out.mono ?_;rintro e U ⟨z,rfl,A,C⟩;have r:Hid (bH w sp d s (m+10) R (.returned R.2) U):=⟨z,rfl,A,C⟩;rw[qI];go_wp2
    go_ret
    exact r.out
   .have o:Hid (R=(s.upd k (v.fill (a:Int) t),v.dD (a:Int) t)):=by unfold Hid;rw[L.out,if_neg O]
    have g1:(y==2)=false:=by simpa using O
    rw[<- o.out] at M;go_enter func207,ntmps207
    go_wp2_with fail
    refine cEq u.out λE q=>?_
    have g:=ah q;obtain⟨d1,d2⟩:=Q.out E q;go_wp2_with fail
    refine cSt (l.out _ g.out) ?_;have S:=ah (M.out _ g.out);go_wp2_with fail
    refine S.out.mono ?_;rintro e U ⟨z,rfl,A,C⟩;have r:Hid (bH w sp d s (m+10) R (.returned R.2) U):=⟨z,rfl,A,C⟩;rw[qI];go_wp2
    go_ret
    exact r.out
