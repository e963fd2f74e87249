/- Create, of a head that may be, on a device with as many sectors as it needs. -/
import Derived.Test.YtbohmhacdgckgaaGreatDoorQImgCreate
set_option linter.all false
set_option maxHeartbeats 8000000
set_option maxRecDepth 100000
namespace Go.Proofs.YtbohmhacdgckgaaGreatDoor
open Go.RowKit renaming Below->β
open Go renaming World->ω, Value->υ, Calls->κ
open Option renaming none->O, some->S
open Go.Proofs.Tryz Go.RowKit Go.Maps
attribute [local go_sem ↓] Go.wp_at_zero Go.wp_at_succ
def DN{d:DV}{h:HV}(a:h.ok=true)(b:aQ h<=d.fl.length):crF d h=if (crD d h).2=0 then (gu d h).flush.d.aU else (crD d h).2:=by
 unfold crF;rw[if_pos a,if_neg (by omega)]
def KZ{B:Gd}{m:Nat}{h:Hd}{d:DV}(a:Nat)(p b:Int)(w:ω)(hd:bQ B w h d)(hf:d.fine d.fl.length m)(hm:m+20<1000000000)(hB:B.top<=w.heap.size)(g:HV.ok ⟨(a:Int),p,b⟩=true)(s:aQ ⟨(a:Int),p,b⟩<=d.fl.length) :
    κ prog 30 #[h.p,.agg #[(a:Int),p,b]] w λe j =>
      ∃ x:Ih,x.h.p=h.p/\w.heap.size<=x.tb/\aX B x.tb w j/\((crF d ⟨(a:Int),p,b⟩=0/\e=.returned (.tuple #[x.p,.nilIface])/\aH B j x (crV d ⟨(a:Int),p,b⟩)) \/
        (crF d ⟨(a:Int),p,b⟩≠0/\e=.returned (.tuple #[.pointer none,erV (crF d ⟨(a:Int),p,b⟩)])/\bQ B j x.h (iQ d ⟨(a:Int),p,b⟩))):=by
  have ag:=ah (oW (a:Int) p b);have e1:HV.fault ⟨(a:Int),p,b⟩=0:=by unfold HV.fault;rw[g];rfl
  rw[e1,aN] at ag;have ae:=ah (λW=>uU (a:Int) p b W g)
  have af:=ah λW (n:β w w W)=>hd.keep λk g=>n.block k (hd.lt k g).2
  have b3:=ah λW (n:β w w W)=>size_any W (af.out W n).toaO
  have b8:=HV.dK g;simp only at b8;have HR:=ah λW=>qL a W (by omega)
  have aL:ay a<=5:=by unfold ay;omega
  have bO:ay a<d.fl.length:=(mM g s).1;obtain⟨i0,bp,b7,bA,bl⟩:=info_parts tK;have aa:Hid ((crT ⟨(a:Int),p,b⟩).length=a):=by unfold Hid crT;rw[jaw];rfl
  have H:Hid (∀(k:Nat) (W X:ω) (x:Ih) (y:Hd),k<ay a->B.top<=X.heap.size->(d.dG (crT ⟨(a:Int),p,b⟩) k).2=0->oz B x.tb X x ⟨d,⟨(a:Int),p,b⟩,crT ⟨(a:Int),p,b⟩,[]⟩ (d.dG (crT ⟨(a:Int),p,b⟩) k).1 y W ->
      κ prog 102 #[x.p,(k:Int)] W λe j =>
      ∃ u:Hd,e=.returned (erV (d.dG (crT ⟨(a:Int),p,b⟩) (k+1)).2)/\u.p=y.p/\oz B x.tb X x ⟨d,⟨(a:Int),p,b⟩,crT ⟨(a:Int),p,b⟩,[]⟩ (d.dG (crT ⟨(a:Int),p,b⟩) (k+1)).1 u j):=λk W X x y q bm R l=>by
    have a8:=wR hf g s (by omega) k (jb0 q)
    obtain⟨b2,aR⟩:=wU ⟨(a:Int),p,b⟩ g k q;have h1:=I9 k W l.img (m:=m+k) (by show(d.dG (crT ⟨(a:Int),p,b⟩) k).1.fine (d.dG (crT ⟨(a:Int),p,b⟩) k).1.fl.length (m+k);rw[a8.len];exact a8) (by omega) (ja4 bm l.kept.size) (by show(crT ⟨(a:Int),p,b⟩).length<=32;rw[aa.out];omega) (by show k+1<(d.dG (crT ⟨(a:Int),p,b⟩) k).1.fl.length;rw[a8.len];omega) b2 aR
    refine h1.mono ?_;rintro e j ⟨u,rfl,b9,b0,b6⟩;refine⟨u,?_,b9,⟨?_,aX.trans l.kept b6⟩⟩
    . rw[DV.qK R]
    . rw[DV.qK R];exact b0
  have E:Hid (∀ k,(d.dG (crT ⟨(a:Int),p,b⟩) k).2≠0->k<=ay a->crD d ⟨(a:Int),p,b⟩=d.dG (crT ⟨(a:Int),p,b⟩) k):=λk J q=>DV.vH J _ q
  have K:Hid (∀ k,(d.dG (crT ⟨(a:Int),p,b⟩) k).2≠0->k<=ay a->iQ d ⟨(a:Int),p,b⟩=(d.dG (crT ⟨(a:Int),p,b⟩) k).1):=λk J q=>by unfold iQ;rw[if_pos ⟨g,s⟩,E.out k J q,if_neg J]
  have L:Hid ((crD d ⟨(a:Int),p,b⟩).2=0->iQ d ⟨(a:Int),p,b⟩=(crV d ⟨(a:Int),p,b⟩).d):=λR=>by unfold iQ;rw[if_pos ⟨g,s⟩,if_pos R]
  have z:Hid (d.dG (crT ⟨(a:Int),p,b⟩) (ay a)=crD d ⟨(a:Int),p,b⟩):=rfl;have a9:Hid (d.dG (crT ⟨(a:Int),p,b⟩) 0=(d,0)):=rfl;have C:=ah (DN g s)
  have M:Hid (∀(W:ω) (x:Ih),aH B W x (gu d ⟨(a:Int),p,b⟩)->B.top<=W.heap.size->κ prog 103 #[x.p,.agg #[(a:Int),p,b]] W λe j =>
      ∃ h':Hd,e=.returned (erV (gu d ⟨(a:Int),p,b⟩).flush.d.aU)/\h'.p=x.h.p/\aH B j {x with h:=h'} (crV d ⟨(a:Int),p,b⟩)/\aX B x.tb W j):=λW x hi n =>
    Hz (a:Int) p b W hi (zL hf g s (by omega)).d (by omega) n g
  have O:Hid (∀ y:DV,y=(crD d ⟨(a:Int),p,b⟩).1->(⟨y,⟨(a:Int),p,b⟩,crT ⟨(a:Int),p,b⟩,[]⟩:IV)=gu d ⟨(a:Int),p,b⟩):=λy hy=>by rw[hy];rfl
  have az:Hid (∀(W:ω) (tb tc:Nat),β w w W->W.ownsRow 0 168 2 (.slice (some ⟨tb,0,none⟩) a tc) a (jB (crT ⟨(a:Int),p,b⟩))->w.heap.size<=tb ->
      κ prog 100 #[h.p,.agg #[(a:Int),p,b],.slice (some ⟨tb,0,none⟩) a tc] W λe j =>
      ∃ x:Ih,x.h=h/\x.tb=tb/\x.tc=tc/\e=.returned x.p/\aH B j x ⟨d,⟨(a:Int),p,b⟩,crT ⟨(a:Int),p,b⟩,[]⟩/\β W W j):=λW tb tc n ho bE=>by
    have:=Fe (tb:=tb) (tc:=tc) (a:Int) p b (crT ⟨(a:Int),p,b⟩) W (af.out W n) (ja4 hB n.size) (by rw[aa.out];exact ho) (B.fresh hB bE)
    rw[aa.out] at this;exact this
  have ap:Hid ((madeCells (Value.agg #[(0:Int),(0:Int)]).cells (a*2)).toList=jB (crT ⟨(a:Int),p,b⟩)):=OX a;have b1:aQ ⟨(a:Int),p,b⟩<=d.fl.length:=s;generalize aQ ⟨(a:Int),p,b⟩=nn at ae b1;generalize crF d ⟨(a:Int),p,b⟩=F at C |-;generalize iQ d ⟨(a:Int),p,b⟩=CL at K L |-;generalize (gu d ⟨(a:Int),p,b⟩).flush.d.aU=pf at C M;generalize crV d ⟨(a:Int),p,b⟩=V at M L |-;generalize d.dG (crT ⟨(a:Int),p,b⟩)=t at H E z a9 K;generalize crD d ⟨(a:Int),p,b⟩=CD at E z C O L;generalize gu d ⟨(a:Int),p,b⟩=V0 at M O;generalize crT ⟨(a:Int),p,b⟩=T at H az ap O
  generalize c0:ay a=I at HR aL H E z K;go_enter func30,ntmps30
  go_wp2_with fail
  refine cEq (ag.out _) λc aE=>?_
  have N:Hid (β w w c):=((ja0 _ _).alloc (ja1 _) _).trans (aE.mono (by simp))
  have G:Hid (c.heap[w.heap.size]?=some (.cells #[(a:Int),p,b] 67 (0,0))):=by unfold Hid;rw[aE.block _ (by simp),heap_alloc_new]
  have U:w.heap.size<c.heap.size:=lt_of_some G.out;have y0:c.cell? ⟨w,0,none⟩=some (.int .i64 (a:Int)):=by rw[cell_of_row _ _ _ _ _ _ G.out];rfl
  have y1:c.cell? ⟨w,1,none⟩=some (p:υ):=by rw[cell_of_row _ _ _ _ _ _ G.out];rfl
  have u:c.cell? ⟨w,2,none⟩=some (b:υ):=by rw[cell_of_row _ _ _ _ _ _ G.out];rfl
  go_wp2
  go_region_held3 (λW=>β c c W/\W.cell? ⟨w,0,none⟩=some (.int .i64 (a:Int))/\W.cell? ⟨w,1,none⟩=some (p:υ)/\W.cell? ⟨w,2,none⟩=some (b:υ))
    (first|(exact⟨jaQ (ja0 _ _),y0,y1,u⟩)|assumption|(exact⟨by assumption,(jav (by assumption) U).trans y0,(jav (by assumption) U).trans y1,(jav (by assumption) U).trans u⟩))
    (first
      | (go_at_call 99;refine cSt (b3.out _ (N.out.trans (Below.mono (by assumption:β c c _/\_).1 N.out.size))) ?_)
      | (go_at_call 29;refine cEq (ae.out _) λo bh=>?_;have bX:=jaA (by assumption:β c c _/\_).1 (bh.mono (by assumption:β c c _/\_).1.size)))
  all_goals
    obtain⟨ai,z0,z1,z2⟩:=(by assumption:β c c o/\_)
    have ax:=ah (N.out.trans (ai.mono N.out.size));have ar:Hid (o.heap[w.heap.size]?=some (.cells #[(a:Int),p,b] 67 (0,0))):=by unfold Hid;rw[ai.block _ U];exact G.out
    have g2:¬d.fl.length<nn:=by omega
    obtain⟨S,bR,bs,bN⟩:=run_make_full (P:=prog) o.drew 0 144 168 i0 (.agg #[(0:Int),(0:Int)]) 2 underlying144 bp b7 bA .i64 .i64 a (by rw[bl];omega) (by unfold maxLen;omega) (ja6 _)
    have D:β o o S:=((ja0 _ _).drew).grown bN (ja1 _) (λk e=>by cases e)
    have a0:=ah (ax.out.trans (D.mono ax.out.size));have aM:Hid (S.ownsRow 0 168 2 (.slice (some ⟨o,0,none⟩) a a) a (jB T)):=by unfold Hid;rw[<- ap.out];exact bs
    have v:w.heap.size<o.heap.size:=lt_of_some ar.out;have bd:=ah (az.out S o.heap.size a a0.out aM.out (jb0 v));have a1:=(D.cell (p:=⟨w.heap.size,0,none⟩) v).trans z0;have ac:=(D.cell (p:=⟨w.heap.size,1,none⟩) v).trans z1;have a2:=(D.cell (p:=⟨w.heap.size,2,none⟩) v).trans z2;have aD:Hid (S.heap[w.heap.size]?=some (.cells #[(a:Int),p,b] 67 (0,0))):=by unfold Hid;rw[D.block _ v];exact ar.out
    go_wp2
    go_region_held3 (λW=>W.cell? ⟨w,0,none⟩=some (.int .i64 (a:Int))/\W.cell? ⟨w,1,none⟩=some (p:υ)/\W.cell? ⟨w,2,none⟩=some (b:υ))
      (first|(exact⟨z0,z1,z2⟩)|(exact⟨a1,ac,a2⟩)|assumption)
      (first
        | (go_at_call 100;refine bd.out.mono ?_;rintro e r ⟨x,bL,bn,c5,rfl,bw,A⟩;have bS:r.cell? ⟨w,0,none⟩=some (.int .i64 (a:Int))/\r.cell? ⟨w,1,none⟩=some (p:υ)/\r.cell? ⟨w,2,none⟩=some (b:υ):=⟨(A.cell (ja2 _ _ a1)).trans a1,(A.cell (ja2 _ _ ac)).trans ac,(A.cell (ja2 _ _ a2)).trans a2⟩))
    have a4:=ah (a0.out.trans (A.mono a0.out.size));have br:Hid (r.heap[w.heap.size]?=some (.cells #[(a:Int),p,b] 67 (0,0))):=by unfold Hid;rw[A.block _ (lt_of_some aD.out)];exact aD.out
    have bo:Hid (x.h.p=h.p):=by unfold Hid;rw[bL]
    have Q:Hid (w.heap.size<x.tb):=by unfold Hid;rw[bn];exact v
    have ad:B.top<=r.heap.size:=ja4 hB a4.out.size;have be:=ah bw;go_wp2_with (go_at_call 101;refine cSt (HR.out _) ?_)
    go_loopw [31] (λi wr=>∃(k:Nat) (y:Hd),k<=I/\i=.int .i64 k/\(t k).2=0/\y.p=h.p/\oz B x.tb r x ⟨d,⟨(a:Int),p,b⟩,T,[]⟩ (t k).1 y wr) (λi _=>I-(intOf i).toNat)
    case atStart=>exact⟨0,x.h,ja6 _,rfl,by rw[a9.out],bo.out,⟨by rw[a9.out];exact be.out,aX.refl _ _ _⟩⟩
    case round =>
      obtain⟨k,y,q,rfl,ab,aq,l⟩:=hrel;by_cases b5:k<I
      . have bf:=ah (H.out k wr r x y b5 ad ab l)
        have a3:=ah aq;go_wp2_with fail
        refine bf.out.mono ?_;rintro e w3 ⟨Y,rfl,bq,bj⟩;have ao:Hid (Y.p=h.p):=bq.trans a3.out;have a6:=ah bj;by_cases f:(t (k+1)).2=0
        . have HZ:=ah f
          have e0:erV (t (k+1)).2=.nilIface:=by rw[f,aN]
          rw[e0];go_wp2
          go_roundw
          case rel =>
            exact⟨k+1,Y,by omega,by go_num,HZ.out,ao.out,a6.out⟩
          case measure=>simp[intOf];omega
        . have HE:=E.out (k+1) f (by omega)
          have aw:Hid (F=(t (k+1)).2):=by unfold Hid;rw[C.out,HE,if_neg f]
          have h7  := rH f;have H7:=ah h7;have a5:=ah f;have ba:Hid (CL=(t (k+1)).1):=K.out (k+1) f (by omega)
          rw[h7];go_wp2
          go_ret2
          refine⟨{x with h:=Y},ao.out,jb0 Q.out,aX.trans (aX.of_below a4.out) a6.out.kept,.inr ⟨?_,?_,?_⟩⟩
          . rw[aw.out];exact a5.out
          . rw[aw.out,H7.out];rfl
          . rw[ba.out];exact a6.out.img.dev
      . have bc:k=I:=by omega
        subst bc;have al:=l.img;have bB:=O.out (t k).1 (by rw[z.out])
        rw[bB] at al;have bb  := ja4 ad l.kept.size;have bi:=ah (M.out wr {x with h:=y} al bb)
        have Z:=l.kept.box br.out (by decide) (by have:=Q.out;omega)
        have z0:wr.cell? ⟨w,0,none⟩=some (.int .i64 (a:Int)):=by rw[cell_of_row _ _ _ _ _ _ Z];rfl
        have z1:wr.cell? ⟨w,1,none⟩=some (p:υ):=by rw[cell_of_row _ _ _ _ _ _ Z];rfl
        have z2:wr.cell? ⟨w,2,none⟩=some (b:υ):=by rw[cell_of_row _ _ _ _ _ _ Z];rfl
        have bu:=ah (aX.trans (aX.of_below a4.out) l.kept);have a3:=ah aq;have a7:Hid (F=pf):=by unfold Hid;rw[C.out,<- z.out,if_pos ab]
        have b4:Hid (CL=V.d):=L.out (by rw[<- z.out];exact ab)
        go_wp2_with fail
        refine bi.out.mono ?_;rintro e w5 ⟨h5,rfl,bt,bv,bk⟩;have an:Hid (h5.p=h.p):=bt.trans a3.out;have av:=ah bv;have am:=ah (aX.trans bu.out bk);by_cases f:pf=0
        . have HZ:=ah f
          rw[f,aN];go_wp2
          go_ret2
          exact⟨{x with h:=h5},an.out,jb0 Q.out,am.out,.inl ⟨a7.out.trans HZ.out,rfl,av.out⟩⟩
        . have a5:=ah f
          have H7:=ah (rH f);rw[rH f];go_wp2
          go_ret2
          refine⟨{x with h:=h5},an.out,jb0 Q.out,am.out,.inr ⟨?_,?_,?_⟩⟩
          . rw[a7.out];exact a5.out
          . rw[a7.out,H7.out];rfl
          . rw[b4.out];exact av.out.dev
def La{B:Gd}{q:Rh}{d:DV}(c p b:Int)(w:ω)(hd:bZ B w q d)(P:¬(HV.ok ⟨c,p,b⟩=true/\aQ ⟨c,p,b⟩<=d.fl.length)) :
    κ prog 37 #[q.p,.agg #[c,p,b]] w λe I=>e=.returned (.tuple #[.pointer none,(1:Int)])/\β w w I:=by
  obtain⟨F,_,_,_,_,_⟩:=hd.cells;have D  := (hd.lt q.p (.inl rfl)).2;have s:=ah (o8 c p b);have k:Hid (β w w (w.alloc (.cells #[c,p,b] 67))):=(ja0 _ _).alloc (ja1 _) _;have j:Hid ((w.alloc (.cells #[c,p,b] 67)).heap[w.heap.size]?=some (.cells #[c,p,b] 67 (0,0))):=heap_alloc_new _ _
  cases t:HV.ok ⟨c,p,b⟩ with
  | false =>
    have u:HV.fault ⟨c,p,b⟩=1:=by unfold HV.fault;rw[t];rfl
    have N:decide (0<HV.fault ⟨c,p,b⟩)=true:=by rw[u];decide
    generalize HV.fault ⟨c,p,b⟩=f at s N;go_enter func37,ntmps37
    go_wp2
    generalize w.alloc (.cells #[c,p,b] 67)=a at k j |-;have l  := lt_of_some j.out;have y0:a.cell? ⟨w,0,none⟩=some (c:υ):=by rw[cell_of_row _ _ _ _ _ _ j.out];rfl
    have y1:a.cell? ⟨w,1,none⟩=some (p:υ):=by rw[cell_of_row _ _ _ _ _ _ j.out];rfl
    have n:a.cell? ⟨w,2,none⟩=some (b:υ):=by rw[cell_of_row _ _ _ _ _ _ j.out];rfl
    have C:β a a a.drew/\a.drew.cell? ⟨w,0,none⟩=some (c:υ)/\a.drew.cell? ⟨w,1,none⟩=some (p:υ)/\a.drew.cell? ⟨w,2,none⟩=some (b:υ):=⟨jaQ (ja0 _ _),y0,y1,n⟩;refine wp_region_noPanic ?_;refine wp_region_held_drew (S:=λW=>β a a W/\W.cell? ⟨w,0,none⟩=some (c:υ)/\W.cell? ⟨w,1,none⟩=some (p:υ)/\W.cell? ⟨w,2,none⟩=some (b:υ)) (by kernel_rfl) C (λhHeld=>?_)
    refine wpAnyH_take (i:=0) (oi:=_) (v:=?_) rfl (by kernel_rfl) (by kernel_rfl) (by kernel_rfl) (λ_ _ _ h=>h) (Or.inl ⟨by rfl,?_⟩) C ?_
    rotate_left
    . (intro w x;go_simp;try with_reducible rfl)
    (try simp only[Act.put,jat,jam,jac,jau,jap])
    refine wpAnyH_ready (rs:=[1]) (by kernel_rfl) (by simp) ?_
    refine jby (o:=_) rfl (λK O=>?_) ?_
    . go_simp
      refine cEq (s.out _) λr y=>?_
      have m  := (jaQ (ja0 _ _)).trans y;have g:β a a r/\r.cell? ⟨w,0,none⟩=some (c:υ)/\r.cell? ⟨w,1,none⟩=some (p:υ)/\r.cell? ⟨w,2,none⟩=some (b:υ):=⟨m,(m.cell (p:=⟨w.heap.size,0,none⟩) l).trans y0,(m.cell (p:=⟨w.heap.size,1,none⟩) l).trans y1,(m.cell (p:=⟨w.heap.size,2,none⟩) l).trans n⟩
      try go_wp2_with fail
      refine O.out _ _ g (λ_=>?_)
      (try simp only[Act.put,jat,jao,jam,jac,jau,jap])
      refine wpAnyH_take (i:=2) (oi:=_) (v:=?_) rfl (by kernel_rfl) (by kernel_rfl) (by kernel_rfl) (λ_ _ _ h=>h) (Or.inl ⟨by rfl,?_⟩) g ?_
      rotate_left
      . (intro w x;go_simp;try with_reducible rfl)
      (try simp only[Act.put,jat,jao,jam,jac,jau,jap])
      refine wpAnyH_take (i:=3) (oi:=_) (v:=?_) rfl (by kernel_rfl) (by kernel_rfl) (by kernel_rfl) (λ_ _ _ h=>h) (Or.inl ⟨by rfl,?_⟩) g ?_
      rotate_left
      . (intro w x;go_simp;try with_reducible rfl)
      (try simp only[Act.put,jat,jao,jam,jac,jau,jap])
      refine wpAnyH_take (i:=4) (oi:=_) (v:=undef) rfl (by kernel_rfl) (by kernel_rfl) (by kernel_rfl) (λ_ _ _ h=>h) (Or.inr ⟨by kernel_rfl,rfl⟩) g ?_
      (try simp only[Act.put,jat,jao,jam,jac,jau,jap])
      refine wpAnyH_take (i:=5) (oi:=_) (v:=undef) rfl (by kernel_rfl) (by kernel_rfl) (by kernel_rfl) (λ_ _ _ h=>h) (Or.inr ⟨by kernel_rfl,rfl⟩) g ?_
      (try simp only[Act.put,jat,jao,jam,jac,jau,jap])
      refine wpAnyH_take (i:=6) (oi:=_) (v:=undef) rfl (by kernel_rfl) (by kernel_rfl) (by kernel_rfl) (λ_ _ _ h=>h) (Or.inr ⟨by kernel_rfl,rfl⟩) g ?_
      (try simp only[Act.put,jat,jao,jam,jac,jau,jap])
      refine wpAnyH_take (i:=7) (oi:=_) (v:=undef) rfl (by kernel_rfl) (by kernel_rfl) (by kernel_rfl) (λ_ _ _ h=>h) (Or.inr ⟨by kernel_rfl,rfl⟩) g ?_
      (try simp only[Act.put,jat,jao,jam,jac,jau,jap])
      refine wpAnyH_take (i:=8) (oi:=_) (v:=undef) rfl (by kernel_rfl) (by kernel_rfl) (by kernel_rfl) (λ_ _ _ h=>h) (Or.inr ⟨by kernel_rfl,rfl⟩) g ?_
      (try simp only[Act.put,jat,jao,jam,jac,jau,jap])
      refine wpAnyH_take (i:=9) (oi:=_) (v:=undef) rfl (by kernel_rfl) (by kernel_rfl) (by kernel_rfl) (λ_ _ _ h=>h) (Or.inr ⟨by kernel_rfl,rfl⟩) g ?_
      (try simp only[Act.put,jat,jao,jam,jac,jau,jap])
      refine wpAnyH_take (i:=10) (oi:=_) (v:=undef) rfl (by kernel_rfl) (by kernel_rfl) (by kernel_rfl) (λ_ _ _ h=>h) (Or.inr ⟨by kernel_rfl,rfl⟩) g ?_
      (try simp only[Act.put,jat,jao,jam,jac,jau,jap])
      refine wpAnyH_take (i:=11) (oi:=_) (v:=undef) rfl (by kernel_rfl) (by kernel_rfl) (by kernel_rfl) (λ_ _ _ h=>h) (Or.inr ⟨by kernel_rfl,rfl⟩) g ?_
      (try simp only[Act.put,jat,jao,jam,jac,jau,jap])
      refine wpAnyH_take (i:=12) (oi:=_) (v:=?_) rfl (by kernel_rfl) (by kernel_rfl) (by kernel_rfl) (λ_ _ _ h=>h) (Or.inl ⟨by rfl,?_⟩) g ?_
      rotate_left
      . (intro w x;go_simp;try with_reducible rfl)
      (try simp only[Act.put,jat,jao,jam,jac,jau,jap])
      refine wpAnyH_done (by kernel_rfl) ?_ _
      refine NoPanic.normal ?_;go_wp2
      go_ret2
      exact⟨rfl,(k.out.trans (m.mono k.out.size))⟩
    . exact AllReadyH.nil
  | true =>
    have u:HV.fault ⟨c,p,b⟩=0:=by unfold HV.fault;rw[t];rfl
    rw[u] at s
    have H:d.fl.length<aQ ⟨c,p,b⟩:=by
      by_cases E:aQ ⟨c,p,b⟩<=d.fl.length
      . exact absurd ⟨t,E⟩ P
      . omega
    have A:=ah (λW=>yx c p b W t)
    generalize aQ ⟨c,p,b⟩=R at A H;go_enter func37,ntmps37
    go_wp2
    generalize w.alloc (.cells #[c,p,b] 67)=a at k j |-;have l  := lt_of_some j.out;have G:q.p<a.heap.size:=by omega
    have y0:a.cell? ⟨w,0,none⟩=some (c:υ):=by rw[cell_of_row _ _ _ _ _ _ j.out];rfl
    have y1:a.cell? ⟨w,1,none⟩=some (p:υ):=by rw[cell_of_row _ _ _ _ _ _ j.out];rfl
    have n:a.cell? ⟨w,2,none⟩=some (b:υ):=by rw[cell_of_row _ _ _ _ _ _ j.out];rfl
    have z  := (k.out.cell (p:=⟨q.p,0,none⟩) D).trans F
    go_region_held3 (λW=>β a a W/\W.cell? ⟨w,0,none⟩=some (c:υ)/\W.cell? ⟨w,1,none⟩=some (p:υ)/\W.cell? ⟨w,2,none⟩=some (b:υ)/\W.cell? ⟨q.p,0,none⟩=some (.slice (some ⟨q.bf,0,none⟩) d.fl.length q.cf))
      (first|(exact⟨jaQ (ja0 _ _),y0,y1,n,z⟩)|assumption|(exact⟨by assumption,(jav (by assumption) l).trans y0,(jav (by assumption) l).trans y1,(jav (by assumption) l).trans n,(jav (by assumption) G).trans z⟩))
      (first
        | (go_at_call 33;refine cEq (s.out _) λr y=>?_;have m:=jaA (by assumption:β a a _/\_).1 (y.mono (by assumption:β a a _/\_).1.size))
        | (go_at_call 34;refine cEq (A.out _) λJ M=>?_;have V:=jaA (by assumption:β a a _/\_).1 (M.mono (by assumption:β a a _/\_).1.size)))
    all_goals
      obtain⟨L,T,Q,U,X⟩:=(by assumption:β a a J/\_)
      go_wp2
      go_ret2
      exact⟨rfl,(k.out.trans (L.mono k.out.size))⟩
def WS(k:Nat):jB (List.replicate (k+1) (0,0))=jB (List.replicate k (0,0))++[.int .i64 0,.int .i64 0]:=by
 rw[jbo];simp[jB]
structure oU(w:ω)(NI:Nat)(ptr:υ)(c p b:Int)(k:Nat)(v:υ)(wr:ω):Prop where
 blk:wr.heap[NI]?=S (.cells #[ptr,c,p,b,v,.slice O 0 0] 146 (0,0))
 own:wr.ownsRow (NI+1) 168 2 v k (jB (List.replicate k (0,0)))
 bel:β NI w wr
def oU.push{w wr d:ω}{a:Nat}{l:υ}{c p b:Int}{k:Nat}{v:υ}(h:oU w a l c p b k v wr)(C:Obj)(g cap:Nat)
  (i:d.ownsRow (a+1) 168 2 (.slice (S ⟨g,0,O⟩) (k+1) cap) (k+1) (jB (List.replicate k (0,0))++[.int .i64 0,.int .i64 0])) (j:(wr.alloc C).grownBy d v.ownBlock) :
  oU w a l c p b (k+1) (.slice (S ⟨g,0,O⟩) (k+1) cap) (d.setCell ⟨a,4,O⟩ (.slice (S ⟨g,0,O⟩) (k+1) cap))/\d.cell? ⟨a,4,O⟩=S v/\d.frozen? ⟨a,4,O⟩=false:=by
 have m:=lt_of_some h.blk;have f  := (j.block a (by simp;omega) (λe=>by have:=(h.own.lt a e.symm).1;omega)).trans ((jal _ _ _ m).trans h.blk)
 refine⟨⟨?_,?_,((h.bel.alloc (by omega) C).grown j (by simp;omega) (λr e=>by have:=(h.own.lt r e).1;omega)).setCell (ja1 _) _⟩,?_,frozen_of_row _ _ _ _ _ f⟩
 .rw[heap_setCell_same _ _ _ _ _ _ f];rfl
 .rw[WS]
  refine aZ i λr e=>heap_setCell_other _ _ _ _ (λn=>?_)
  have:=(i.lt r e).1
  have o:r=a:=n;omega
 .rw[cell_of_row _ _ _ _ _ _ f];rfl
def oU.rim{B:Gd}{c a:Nat}{w wr:ω}{q:Rh}{d:DV}{p b:Int}{v:υ}(hd:bZ B w q d)(f:B.top<=w.heap.size)(g:w.heap.size<=c)(h:oU w c (.pointer (S ⟨q.p,0,O⟩)) (a:Int) p b a v wr) :
  aS B wr ⟨c,q,v,.slice O 0 0⟩ ⟨d,⟨(a:Int),p,b⟩,List.replicate a (0,0),[]⟩:=by
 refine⟨h.blk,B.fresh f g,hd.keep λk i=>h.bel.block k (ja9 (hd.lt k i).2 g),?_,jae _ _ _ _,(λk e=>by cases e),(λk e=>B.fresh f (by have:=(h.own.lt k e).1;omega)),λk e=>by cases e⟩
 rw[jaw];exact ownsRow_base h.own (ja6 _)
def Lc{B:Gd}{m:Nat}{q:Rh}{d:DV}(c:Nat)(p b:Int)(w:ω)(hd:bZ B w q d)(hf:d.fine d.fl.length m)(hm:m+20<1000000000)(hB:B.top<=w.heap.size)(z:HV.ok ⟨(c:Int),p,b⟩=true)(M:aQ ⟨(c:Int),p,b⟩<=d.fl.length) :
    κ prog 37 #[q.p,.agg #[(c:Int),p,b]] w λe f =>
      ∃ r:Qh,r.d.p=q.p/\(∀ k,r.vt.ownBlock=some k->w.heap.size<=k)/\fA B w f/\((crF d ⟨(c:Int),p,b⟩=0/\e=.returned (.tuple #[r.p,(0:Int)])/\aS B f r (crV d ⟨(c:Int),p,b⟩)) \/
        (crF d ⟨(c:Int),p,b⟩≠0/\e=.returned (.tuple #[.pointer none,crF d ⟨(c:Int),p,b⟩])/\bZ B f r.d (iQ d ⟨(c:Int),p,b⟩))):=by
  obtain⟨c0,_,_,_,_,_⟩:=hd.cells;have lq:q.p<w.heap.size:=(hd.lt q.p (.inl rfl)).2;have b4:=ah (o8 (c:Int) p b);have e1:HV.fault ⟨(c:Int),p,b⟩=0:=by unfold HV.fault;rw[z];rfl
  rw[e1] at b4;have b0:=ah (λW=>yx (c:Int) p b W z)
  have cj:=HV.dK z;simp only at cj;have HR:Hid (∀ W:ω,κ prog 107 #[(c:Int)] W λe f=>e=.returned (ay c:Int)/\f=W):=λW=>pz c W (by omega)
  have c9:ay c<=5:=by unfold ay;omega
  have cd:ay c<d.fl.length:=(mM z M).1;obtain⟨i0,cz,ci,cD,cv⟩:=info_parts tK;have aw:Hid ((crT ⟨(c:Int),p,b⟩).length=c):=by unfold Hid crT;rw[jaw];rfl
  have bt:Hid (crT ⟨(c:Int),p,b⟩=List.replicate c (0,0)):=rfl
  have a8:Hid (∀(k:Nat) (W:ω) (g cap:Nat) (B0:Nat),k<ay c->W.ownsRow B0 168 2 (.slice (some ⟨g,0,none⟩) c cap) c (jB (crT ⟨(c:Int),p,b⟩))->κ prog 108 #[.slice (some ⟨g,0,none⟩) c cap,(k:Int)] W λe f =>
      e=.returned (.tuple #[.string (eP (crT ⟨(c:Int),p,b⟩) (k:Int)),(0:Int)])/\β W W f):=λk W g cap B0 K ho=>by
    have:=GV (some ⟨g,0,none⟩) c cap (crT ⟨(c:Int),p,b⟩) (k:Int) W (uQ ho _ (by rw[jar (by rw[pX,aw.out];exact ja1 _)]) (ja1 _) aw.out) (by omega)
    rw[(wU ⟨(c:Int),p,b⟩ z k K).1] at this;exact this
  have U:Hid (∀(k:Nat) (W:ω) (r:Qh),k<ay c->B.top<=W.heap.size->(d.dG (crT ⟨(c:Int),p,b⟩) k).2=0->aS B W r ⟨(d.dG (crT ⟨(c:Int),p,b⟩) k).1,⟨(c:Int),p,b⟩,crT ⟨(c:Int),p,b⟩,[]⟩->r.d.p=q.p ->
      κ prog 109 #[q.p,(1+(k:Int):Int),.string (eP (crT ⟨(c:Int),p,b⟩) (k:Int))] W λe f =>
      ∃ r2:Qh,e=.returned (.int .i64 (d.dG (crT ⟨(c:Int),p,b⟩) (k+1)).2)/\Led B W r r2 ⟨(d.dG (crT ⟨(c:Int),p,b⟩) (k+1)).1,⟨(c:Int),p,b⟩,crT ⟨(c:Int),p,b⟩,[]⟩ f/\r2.vt=r.vt):=λk W r K cx h0 E H=>by
    have cy:=wR hf z M (by omega) k (jb0 K)
    obtain⟨cI,cb⟩:=wU ⟨(c:Int),p,b⟩ z k K;have h1:=um (1+k) (eP (crT ⟨(c:Int),p,b⟩) (k:Int)) W E.dev cy (by omega) cx cb (by omega)
    rw[show(((1+k:Nat):Int))=1+(k:Int) by omega,H] at h1
    refine h1.mono ?_;rintro e f ⟨q2,rfl,bd,Q,N,ba⟩;refine⟨{r with d:=q2},by rw[DV.qK h0],?_,rfl⟩
    rw[DV.qK h0];exact Led.dev E Q (bd.trans H.symm) N ba
  have a0:Hid (∀ k,(d.dG (crT ⟨(c:Int),p,b⟩) k).2≠0->k<=ay c->crD d ⟨(c:Int),p,b⟩=d.dG (crT ⟨(c:Int),p,b⟩) k):=λk an K=>DV.vH an _ K
  have ao:Hid (∀ k,(d.dG (crT ⟨(c:Int),p,b⟩) k).2≠0->k<=ay c->iQ d ⟨(c:Int),p,b⟩=(d.dG (crT ⟨(c:Int),p,b⟩) k).1):=λk an K=>by unfold iQ;rw[if_pos ⟨z,M⟩,a0.out k an K,if_neg an]
  have ar:Hid ((crD d ⟨(c:Int),p,b⟩).2=0->iQ d ⟨(c:Int),p,b⟩=(crV d ⟨(c:Int),p,b⟩).d):=λh0=>by unfold iQ;rw[if_pos ⟨z,M⟩,if_pos h0]
  have b1:Hid (∀ k,(d.dG (crT ⟨(c:Int),p,b⟩) k).2=0\/0<(d.dG (crT ⟨(c:Int),p,b⟩) k).2):=λk=>by
    induction k with
    | zero=>exact .inl rfl
    | succ k ih =>
      rcases ih with h|h
      . rw[DV.qK h]
        rcases DV.nN (d.dG (crT ⟨(c:Int),p,b⟩) k).1 with h2|h2
        . exact .inl h2.1
        . exact .inr (by rw[h2.1];show(0:Int)<7;decide)
      . right
        rw[DV.vH (k:=k) (by omega) (k+1) (by omega)];exact h
  have O:Hid (d.dG (crT ⟨(c:Int),p,b⟩) (ay c)=crD d ⟨(c:Int),p,b⟩):=rfl;have be:Hid (d.dG (crT ⟨(c:Int),p,b⟩) 0=(d,0)):=rfl;have HF:=ah (DN z M);obtain⟨X,hX⟩:∃ X:ByteArray,X=fO [83,89,(c:Int),p,b+1]:=⟨_,rfl⟩;have b7:X.size=16:=by rw[hX];exact HV.wJ ⟨(c:Int),p,b⟩
  have bE:Hid (∀ W:ω,κ prog 111 #[.agg #[(c:Int),p,b]] W λe f=>e=.returned X/\β W W f):=λW=>by rw[hX];exact Ar (c:Int) p b W z
  have a4:=zL hf z M (by omega)
  have b6:=a4.d.flushed;have bc:0<(gu d ⟨(c:Int),p,b⟩).d.fl.length:=a4.d.ok.n1;have HV:Hid (crV d ⟨(c:Int),p,b⟩=if (gu d ⟨(c:Int),p,b⟩).flush.d.aU=0 then {(({(gu d ⟨(c:Int),p,b⟩).flush with d:=(gu d ⟨(c:Int),p,b⟩).flush.d.put 0 X.data.toList}:IV).flush) with h:=⟨(c:Int),p,b⟩} else {(gu d ⟨(c:Int),p,b⟩).flush with d:=(gu d ⟨(c:Int),p,b⟩).flush.d.put 0 X.data.toList}):=by rw[hX];rfl
  have al:Hid ((gu d ⟨(c:Int),p,b⟩).flush.d.aU=0\/(gu d ⟨(c:Int),p,b⟩).flush.d.aU=7):=by
    rcases DV.nN (gu d ⟨(c:Int),p,b⟩).flush.d with S|S
    . exact .inl S.1
    . exact .inr S.1
  have aR:Hid (∀(W:ω) (r:Qh),aS B W r (gu d ⟨(c:Int),p,b⟩)->r.d.p=q.p->κ prog 110 #[q.p] W λe f=>∃ r2:Qh,e=.returned (.tuple #[])/\Led B W r r2 (gu d ⟨(c:Int),p,b⟩).flush f/\r2.vt=r.vt):=λW r E H=>by
    rw[<- H];refine(yw W E.dev.todA a4.d.ok a4.d.sn).mono ?_;rintro e f ⟨rfl,Q,N⟩;exact⟨_,rfl,Led.dev E (E.dev.nilled Q) rfl N (λr e=>by cases e),rfl⟩
  have ag:Hid (∀(W:ω) (r:Qh),aS B W r (gu d ⟨(c:Int),p,b⟩).flush->B.top<=W.heap.size->r.d.p=q.p->κ prog 109 #[q.p,(0:Int),X] W λe f =>
      ∃ r2:Qh,e=.returned (.int .i64 (gu d ⟨(c:Int),p,b⟩).flush.d.aU)/\Led B W r r2 {(gu d ⟨(c:Int),p,b⟩).flush with d:=(gu d ⟨(c:Int),p,b⟩).flush.d.put 0 X.data.toList} f/\r2.vt=r.vt):=λW r E Y H=>by
    rw[<- H];refine(um 0 X W E.dev b6 (by omega) Y b7 bc).mono ?_
    rintro e f ⟨q2,rfl,bd,Q,N,ba⟩;exact⟨{r with d:=q2},rfl,Led.dev E Q bd N ba,rfl⟩
  have af:Hid (∀(W:ω) (r:Qh),aS B W r {(gu d ⟨(c:Int),p,b⟩).flush with d:=(gu d ⟨(c:Int),p,b⟩).flush.d.put 0 X.data.toList}->r.d.p=q.p->κ prog 110 #[q.p] W λe f=>∃ r2:Qh,e=.returned (.tuple #[])/\Led B W r r2 {(({(gu d ⟨(c:Int),p,b⟩).flush with d:=(gu d ⟨(c:Int),p,b⟩).flush.d.put 0 X.data.toList}:IV).flush) with h:=⟨(c:Int),p,b⟩} f/\r2.vt=r.vt):=λW r E H=>by
    rw[<- H];have bu:=b6.put (i:=0) (s:=X.data.toList) bc (by simpa using b7) (by omega)
    refine(yw W E.dev.todA bu.ok bu.sn).mono ?_;rintro e f ⟨rfl,Q,N⟩;exact⟨_,rfl,Led.dev E (E.dev.nilled Q) rfl N (λr e=>by cases e),rfl⟩
  have ch:Hid (∀ W:ω,β w w W->bZ B W q d):=λW Y=>hd.keep λk z=>Y.block k (hd.lt k z).2
  have cc:aQ ⟨(c:Int),p,b⟩<=d.fl.length:=M;generalize aQ ⟨(c:Int),p,b⟩=nn at b0 cc;have aa:Hid (∀ y:DV,y=(crD d ⟨(c:Int),p,b⟩).1->(⟨y,⟨(c:Int),p,b⟩,crT ⟨(c:Int),p,b⟩,[]⟩:IV)=gu d ⟨(c:Int),p,b⟩):=λy hy=>by rw[hy];rfl
  clear M z e1 hf cd hd a4 b6 bc hX b7;generalize crF d ⟨(c:Int),p,b⟩=F at HF |-;generalize iQ d ⟨(c:Int),p,b⟩=CL at ao ar |-;generalize crV d ⟨(c:Int),p,b⟩=V at HV ar |-;generalize (gu d ⟨(c:Int),p,b⟩).flush.d.aU=pf at HF HV al ag;generalize d.dG (crT ⟨(c:Int),p,b⟩)=D at U a0 O be b1 ao;generalize crD d ⟨(c:Int),p,b⟩=CD at a0 O HF aa ar;generalize gu d ⟨(c:Int),p,b⟩=V0 at HV aa aR af ag;obtain⟨T,hT⟩:∃ T,T=crT ⟨(c:Int),p,b⟩:=⟨_,rfl⟩;rw[<- hT] at a8 U aw bt aa;clear hT;generalize cF:ay c=rn at HR c9 U a0 O a8 ao;clear cF;have a9:Hid (β w w (w.alloc (.cells #[(c:Int),p,b] 67))):=(ja0 _ _).alloc (ja1 _) _
  have P:Hid ((w.alloc (.cells #[(c:Int),p,b] 67)).heap[w.heap.size]?=some (.cells #[(c:Int),p,b] 67 (0,0))):=heap_alloc_new _ _;go_enter func37,ntmps37
  go_wp2
  generalize w.alloc (.cells #[(c:Int),p,b] 67)=o at a9 P |-;have ac:w.heap.size<o.heap.size:=lt_of_some P.out;have bL:q.p<o.heap.size:=by omega
  have y0:o.cell? ⟨w,0,none⟩=some (.int .i64 (c:Int)):=by rw[cell_of_row _ _ _ _ _ _ P.out];rfl
  have y1:o.cell? ⟨w,1,none⟩=some (p:υ):=by rw[cell_of_row _ _ _ _ _ _ P.out];rfl
  have y2:o.cell? ⟨w,2,none⟩=some (b:υ):=by rw[cell_of_row _ _ _ _ _ _ P.out];rfl
  have y3:o.cell? ⟨q.p,0,none⟩=some (.slice (some ⟨q.bf,0,none⟩) d.fl.length q.cf):=(a9.out.cell (p:=⟨q.p,0,none⟩) lq).trans c0
  go_region_held3 (λW=>β o o W/\W.cell? ⟨w,0,none⟩=some (.int .i64 (c:Int))/\W.cell? ⟨w,1,none⟩=some (p:υ)/\W.cell? ⟨w,2,none⟩=some (b:υ)/\W.cell? ⟨q.p,0,none⟩=some (.slice (some ⟨q.bf,0,none⟩) d.fl.length q.cf))
    (first|(exact⟨jaQ (ja0 _ _),y0,y1,y2,y3⟩)|assumption|(exact⟨by assumption,(jav (by assumption) ac).trans y0,(jav (by assumption) ac).trans y1,(jav (by assumption) ac).trans y2,(jav (by assumption) bL).trans y3⟩))
    (first
      | (go_at_call 33;refine(b4.out _).mono ?_;rintro e wN ⟨rfl,cs⟩;have cN:=jaA (by assumption:β o o _/\_).1 (cs.mono (by assumption:β o o _/\_).1.size))
      | (go_at_call 34;refine(b0.out _).mono ?_;rintro e l ⟨rfl,cC⟩;have cL:=jaA (by assumption:β o o _/\_).1 (cC.mono (by assumption:β o o _/\_).1.size)))
  all_goals
    obtain⟨b5,z0,z1,z2,z3⟩:=(by assumption:β o o l/\_)
    have az:=ah (a9.out.trans (b5.mono a9.out.size));have bi:Hid (l.heap[w.heap.size]?=some (.cells #[(c:Int),p,b] 67 (0,0))):=by unfold Hid;rw[b5.block _ ac];exact P.out
    have a7:w.heap.size<l.heap.size:=lt_of_some bi.out;have g1:decide ((d.fl.length:Int)<(nn:Int))=false:=decide_eq_false (by omega)
    have g2:¬d.fl.length<nn:=by omega
    clear b5 y0 y1 y2 y3 ac bL P a9 b4 b0;have ck:Hid (oU l l.heap.size (.pointer (some ⟨q.p,0,none⟩)) (c:Int) p b 0 (.slice none 0 0) (l.alloc (.cells #[q.p,(c:Int),p,b,.slice none 0 0,.slice none 0 0] 146))):=⟨heap_alloc_new _ _,jae _ _ _ _,(ja0 _ _).alloc (ja1 _) _⟩;go_wp2
    generalize decide (d.fl.length<nn)=db;clear g1 g2 z3;go_loopw [7] (λi wr=>∃(k:Nat) (v:υ),k<=c/\i=.int .i64 k/\oU l l.heap.size (.pointer (some ⟨q.p,0,none⟩)) (c:Int) p b k v wr) (λi _=>c-(intOf i).toNat)
    case atStart=>exact⟨0,.slice none 0 0,ja6 _,rfl,ck.out⟩
    case round =>
      obtain⟨k,v,K,rfl,C⟩:=hrel;have x0:wr.cell? ⟨w,0,none⟩=some (.int .i64 (c:Int)):=(C.bel.cell (p:=⟨w.heap.size,0,none⟩) a7).trans z0;have x1:wr.cell? ⟨w,1,none⟩=some (p:υ):=(C.bel.cell (p:=⟨w.heap.size,1,none⟩) a7).trans z1;have x2:wr.cell? ⟨w,2,none⟩=some (b:υ):=(C.bel.cell (p:=⟨w.heap.size,2,none⟩) a7).trans z2;have c4:wr.cell? ⟨l,4,none⟩=some v:=by rw[cell_of_row _ _ _ _ _ _ C.blk];rfl
      have co:l.heap.size<wr.heap.size:=lt_of_some C.blk;obtain⟨a,cap,hv⟩:=ownsRow_shape C.own;by_cases cJ:k<c
      . subst hv
        have HG:=ah C;have cp:Hid ((wr.alloc (.cells #[(0:Int),(0:Int)] 168)).ownsRow (l.heap.size+1) 168 2 (.slice a k cap) k (jB (List.replicate k (0,0)))):=C.own.alloc _;have cu:Hid (l.heap.size+1<=(wr.alloc (.cells #[(0:Int),(0:Int)] 168)).heap.size):=by unfold Hid;simp;omega
        have cm:Hid ((wr.alloc (.cells #[(0:Int),(0:Int)] 168)).heap.size=wr.heap.size+1):=by unfold Hid;simp
        clear C
        go_wp2_with (at_builtin;refine wpList_append_lies _ (by rfl) _ _ 144 (by rfl) (l.heap.size+1) 168 i0 (.agg #[(0:Int),(0:Int)]) 2 16 underlying144 cz ci cD cv rfl (by decide) (.slice a k cap) k (jB (List.replicate k (0,0))) (by rfl) cp.out ⟨wr,0,none⟩ 1 1 [(0:Int),(0:Int)] (by rfl) (by rfl) (uz _ _ _ _) (λu hu=>by simp at hu;subst hu;rfl) (by decide) (by unfold maxLen;omega) (by omega) cu.out (wr.heap.size+1) cm.out ?_;intro g3 ai w3 bN bv cB cA
                     have aD:=HG.out.push _ g3 ai bN bv;have d4:=aD.2.1;have f4:=aD.2.2;have cE:Hid (oU l l.heap.size (.pointer (some ⟨q.p,0,none⟩)) (c:Int) p b (k+1) (.slice (some ⟨g3,0,none⟩) (k+1) ai) (w3.setCell ⟨l,4,none⟩ (.slice (some ⟨g3,0,none⟩) (k+1) ai))):=aD.1
                     clear aD bN bv cB cA)
        go_roundw
        case rel =>
          have fin:∃(k1:Nat) (v1:υ),k1<=c/\Value.int .i64 ((k:Int)+1)=.int .i64 k1/\oU l l.heap.size (.pointer (some ⟨q.p,0,none⟩)) (c:Int) p b k1 v1 (w3.setCell ⟨l,4,none⟩ (.slice (some ⟨g3,0,none⟩) (k+1) ai)):=⟨k+1,_,by omega,by go_num,cE.out⟩
          first|exact fin|((repeat apply Exists.intro);exact⟨fin,rfl⟩)
        case measure=>simp[intOf];omega
      . have cr:k=c:=by omega
        subst cr;have b2:=C.rim (ch.out l az.out) (ja4 hB az.out.size) (ja1 _);rw[<- bt.out] at b2;obtain⟨g,A,c6,cG,_⟩:=C.own.form (by omega)
        have bw:=ah (az.out.trans (C.bel.mono az.out.size));have aq:=ah b2;have bB:Hid (wr.heap[w.heap.size]?=some (.cells #[(k:Int),p,b] 67 (0,0))):=by unfold Hid;rw[C.bel.block _ a7];exact bi.out
        have b8:Hid (w.heap.size<=g):=by unfold Hid;omega
        obtain⟨J,aE⟩:∃ J,J=l.heap.size:=⟨_,rfl⟩;have cM:Hid (w.heap.size<J):=by unfold Hid;rw[aE];exact a7
        rw[c6] at aq;rw[<- aE] at aq;clear b2 C hv c6 cG c4 x1 x2 co z0 z1 z2 bi;go_wp2
        clear x0;rw[<- aE];clear aE;obtain⟨L,aM⟩:∃ L,L=wr:=⟨wr,rfl⟩;have ct:Hid (Led B L ⟨J,q,.slice (some ⟨g,0,none⟩) k A,.slice none 0 0⟩ ⟨J,q,.slice (some ⟨g,0,none⟩) k A,.slice none 0 0⟩ ⟨(D 0).1,⟨(k:Int),p,b⟩,T,[]⟩ wr):=by rw[aM,be.out];exact Led.refl aq.out
        have ad:Hid (β w w L):=by rw[aM];exact bw
        have bo:Hid (L.heap[w.heap.size]?=some (.cells #[(k:Int),p,b] 67 (0,0))):=by rw[aM];exact bB
        clear aM bw bB aq;go_loopw [8] (λi wr=>∃(j:Nat) (r:Qh),j<=rn/\i=.int .i64 j/\(D j).2=0/\r.vt=.slice (some ⟨g,0,none⟩) k A/\Led B L ⟨J,q,.slice (some ⟨g,0,none⟩) k A,.slice none 0 0⟩ r ⟨(D j).1,⟨(k:Int),p,b⟩,T,[]⟩ wr) (λi _=>rn-(intOf i).toNat)
        case atStart=>exact⟨0,_,ja6 _,rfl,by rw[be.out],rfl,ct.out⟩
        case round =>
          obtain⟨I,cq⟩:∃ I,I=wr:=⟨wr,rfl⟩;subst cq;obtain⟨j,r,cH,rfl,ab,a5,x⟩:=hrel;have a3:=x.kept.box bo.out (by decide)
          have x0:I.cell? ⟨w,0,none⟩=some (.int .i64 (k:Int)):=by rw[cell_of_row _ _ _ _ _ _ a3];rfl
          have x1:I.cell? ⟨w,1,none⟩=some (p:υ):=by rw[cell_of_row _ _ _ _ _ _ a3];rfl
          have x2:I.cell? ⟨w,2,none⟩=some (b:υ):=by rw[cell_of_row _ _ _ _ _ _ a3];rfl
          have H:r.p=J:=x.p;have c4:I.cell? ⟨J,4,none⟩=some (.slice (some ⟨g,0,none⟩) k A):=by have:=x.rim.cells.2.2.2.2.1;rw[H,a5] at this;exact this
          have HL:=ah x;have bp:=ah a5;by_cases c5:j<rn
          . have c7:I.ownsRow 0 168 2 (.slice (some ⟨g,0,none⟩) k A) k (jB T):=by have:=x.rim.own;rw[a5,show(⟨(D j).1,⟨(k:Int),p,b⟩,T,[]⟩:IV).t.length=k from aw.out] at this;exact this
            have b9:=ah (a8.out j I g A 0 c5 c7)
            have bh:Hid (∀ W:ω,β I I W->κ prog 109 #[q.p,(1+(j:Int):Int),.string (eP T (j:Int))] W λe f =>
                ∃ r2:Qh,e=.returned (.int .i64 (D (j+1)).2)/\Led B W r r2 ⟨(D (j+1)).1,⟨(k:Int),p,b⟩,T,[]⟩ f/\r2.vt=r.vt):=λW Y=>U.out j W r c5 (ja4 hB (ja4 ad.out.size (ja4 x.kept.size Y.size))) ab (x.rim.below Y) x.dp
            clear x a5 a3 H c7 x1 x2 ab U a8;have cK:IntKind.i64.wrap (1+(j:Int))=1+(j:Int):=ja8 _ (by omega)
            generalize eP T (j:Int)=RS at b9 bh;go_wp2_with (go_at_call 107;refine(HR.out _).mono ?_;rintro e f ⟨rfl,hw⟩;have b3:=hw.symm;subst b3;clear hw)
            refine b9.out.mono ?_;rintro e w5 ⟨rfl,bj⟩;have bO:=ah (bh.out w5 bj);have a1:=ah (HL.out.trans (Led.below HL.out.rim bj));clear bj bh b9 HL;go_wp2_with fail
            refine bO.out.mono ?_;rintro e w6 ⟨Z,rfl,a2,a6⟩;have G:=ah (a1.out.trans a2);have ae:Hid (Z.vt=.slice (some ⟨g,0,none⟩) k A):=a6.trans bp.out;clear a2 a6 bO a1;by_cases n:(D (j+1)).2=0
            . have HZ:=ah n
              rw[n];clear n;go_wp2
              go_roundw
              case rel =>
                have fin:∃(j1:Nat) (r1:Qh),j1<=rn/\Value.int .i64 ((j:Int)+1)=.int .i64 j1/\(D j1).2=0/\r1.vt=.slice (some ⟨g,0,none⟩) k A/\Led B L ⟨J,q,.slice (some ⟨g,0,none⟩) k A,.slice none 0 0⟩ r1 ⟨(D j1).1,⟨(k:Int),p,b⟩,T,[]⟩ w6:=⟨j+1,Z,by omega,by go_num,HZ.out,ae.out,G.out⟩
                first|exact fin|((repeat apply Exists.intro);exact⟨fin,rfl⟩)
              case measure=>simp[intOf];omega
            . have HE:=a0.out (j+1) n (by omega)
              have cn:Hid (CL=(D (j+1)).1):=ao.out (j+1) n (by omega)
              have bk:Hid (F=(D (j+1)).2):=by unfold Hid;rw[HF.out,HE,if_neg n]
              have ap:=ah n;have bq:0<(D (j+1)).2:=by rcases b1.out (j+1) with h|h;exact absurd h n;exact h
              generalize (D (j+1)).2=fj at bq bk ap |-;have g5:decide (0<fj)=true:=decide_eq_true bq;clear n HE;go_wp2
              go_ret2
              refine⟨Z,G.out.dp,λr e=>?_,fA.trans (fA.of_below ad.out) G.out.kept,.inr ⟨?_,?_,by rw[cn.out];exact G.out.rim.dev⟩⟩
              . rw[ae.out] at e
                have:g=r:=by simpa [Value.ownBlock] using e
                rw[<- this];exact b8.out
              . rw[bk.out];exact ap.out
              . rw[bk.out];rfl
          . have cw:j=rn:=by omega
            subst cw;have ax:=x.rim;rw[aa.out (D j).1 (by rw[O.out])] at ax
            have bn:=ah (aR.out I r ax x.dp);have cg:Hid (CL=V.d):=ar.out (by rw[<- O.out];exact ab)
            have bb:Hid (F=pf):=by unfold Hid;rw[HF.out,<- O.out,if_pos ab]
            have a1:Hid (Led B L ⟨J,q,.slice (some ⟨g,0,none⟩) k A,.slice none 0 0⟩ r V0 I):=⟨x.p,x.dp,x.vt,ax,x.kept⟩;clear x ax ab a5 H c4 U a8 HL aR a0 O HF aa b1 a3;go_wp2_with (go_at_call 107;refine(HR.out _).mono ?_;rintro e f ⟨rfl,hw⟩;have b3:=hw.symm;subst b3;clear hw)
            refine bn.out.mono ?_;rintro e w6 ⟨Z,rfl,a2,a6⟩;have G:=ah (a1.out.trans a2);have ae:Hid (Z.vt=.slice (some ⟨g,0,none⟩) k A):=a6.trans bp.out;have av:=(a1.out.trans a2).kept.box bo.out (by decide)
            have u0:w6.cell? ⟨w,0,none⟩=some (.int .i64 (k:Int)):=by rw[cell_of_row _ _ _ _ _ _ av];rfl
            have u1:w6.cell? ⟨w,1,none⟩=some (p:υ):=by rw[cell_of_row _ _ _ _ _ _ av];rfl
            have u2:w6.cell? ⟨w,2,none⟩=some (b:υ):=by rw[cell_of_row _ _ _ _ _ _ av];rfl
            clear a2 a6 av a1 bn x0 x1 x2;go_wp2_with fail
            refine(bE.out _).mono ?_;rintro e w7 ⟨rfl,aL⟩;have bR:=ah (G.out.trans (Led.below G.out.rim aL));have bm:=ah (ag.out w7 Z (G.out.rim.below aL) (ja4 hB (ja4 ad.out.size (G.out.trans (Led.below G.out.rim aL)).kept.size)) G.out.dp);clear aL G u0 u1 u2 bE ag;go_wp2_with fail
            refine bm.out.mono ?_;rintro e w8 ⟨r8,rfl,bl,br⟩;have R:=ah (bR.out.trans bl);have c8:Hid (r8.vt=.slice (some ⟨g,0,none⟩) k A):=br.trans ae.out;clear bl br bm bR;by_cases n:pf=0
            . have HZ:=ah n
              have ce:Hid (V={(({V0.flush with d:=V0.flush.d.put 0 X.data.toList}:IV).flush) with h:=⟨(k:Int),p,b⟩}):=by unfold Hid;rw[HV.out,if_pos n]
              have bA:=ah (af.out w8 r8 R.out.rim R.out.dp);rw[n];clear n HV af al;go_wp2_with fail
              refine bA.out.mono ?_;rintro e w9 ⟨r9,rfl,bS,bX⟩;have am:=ah (R.out.trans bS);have cl:Hid (r9.vt=.slice (some ⟨g,0,none⟩) k A):=bX.trans c8.out;clear bS bX bA R;go_wp2
              go_ret2
              refine⟨r9,am.out.dp,λr e=>?_,fA.trans (fA.of_below ad.out) am.out.kept,.inl ⟨bb.out.trans HZ.out,?_,?_⟩⟩
              . rw[cl.out] at e
                have:g=r:=by simpa [Value.ownBlock] using e
                rw[<- this];exact b8.out
              . rw[show r9.p=J from am.out.p];rfl
              . rw[ce.out];exact am.out.rim
            . have ap:=ah n
              have ca:Hid (V={V0.flush with d:=V0.flush.d.put 0 X.data.toList}):=by unfold Hid;rw[HV.out,if_neg n]
              have S:pf=7:=by rcases al.out with h|h;exact absurd h n;exact h
              have bs:Hid (F=7):=bb.out.trans S;rw[S];clear n S al af bb ap;go_wp2
              go_ret2
              refine⟨r8,R.out.dp,λr e=>?_,fA.trans (fA.of_below ad.out) R.out.kept,.inr ⟨?_,?_,by rw[cg.out,ca.out];exact R.out.rim.dev⟩⟩
              . rw[c8.out] at e
                have:g=r:=by simpa [Value.ownBlock] using e
                rw[<- this];exact b8.out
              . rw[bs.out];decide
              . rw[bs.out];rfl
