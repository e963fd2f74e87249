/- A part. -/
import Derived.Test.YtbohmhacdgckgaaGreatDoorQRimOpen
set_option linter.all false
set_option maxHeartbeats 8000000
set_option maxRecDepth 100000
namespace Go.Proofs.YtbohmhacdgckgaaGreatDoor
open Go.RowKit renaming Below->β, Hid->χ
open Go renaming World->ω, Value->υ, Calls->κ
open Option renaming none->O, some->S
open Go.Proofs.Tryz Go.RowKit Go.Maps
attribute [local go_sem ↓] Go.wp_at_zero Go.wp_at_succ
def EZ{d h}(a:h.ok=true)(b:aQ h<=d.fl.length):crF d h=if (crD d h).2=0 then (iC d h).flush.d.aV else (crD d h).2:=by
 unfold crF;rw[if_pos a,if_neg (by omega)]
def OA{B m h d}(a:Nat)(p b w)(hd:bV B w h d)(hf:d.fine d.fl.length m)(hm:m+20<1000000000)(hB:B.top<=w)(g:HV.ok ⟨(a:Int),p,b⟩=true)(r:aQ ⟨(a:Int),p,b⟩<=d.fl.length) :
    κ prog 30 #[h.p,.agg #[(a:Int),p,b]] w λe w' =>
      ∃ x:Ih,x.h.p=h.p/\w<=x.tb/\aX B x.tb w w'/\((crF d ⟨(a:Int),p,b⟩=0/\e=.returned (.tuple #[x.p,.nilIface])/\aI B w' x (crV d ⟨(a:Int),p,b⟩)) \/
        (crF d ⟨(a:Int),p,b⟩≠0/\e=.returned (.tuple #[.pointer O,erV (crF d ⟨(a:Int),p,b⟩)])/\bV B w' x.h (jB d ⟨(a:Int),p,b⟩))):=by
  have ac:=ah (qp (a:Int) p b);have e1:HV.fault ⟨(a:Int),p,b⟩=0:=by unfold HV.fault;rw[g];rfl
  rw[e1,aJ] at ac;have aL:=ah (λW=>wC (a:Int) p b W g);have ab:=ah λW (l:β w w W)=>hd.keep λk g=>l.block k (hd.lt k g).2
  have aR:=ah λW (l:β w w W)=>size_any W (ab W l).toaS
  have c0:=HV.dS g;simp only at *
  have HR:=ah λW=>rX a W (by omega)
  have bR:aB a<=5:=by unfold aB;omega
  have bX:aB a<d.fl.length:=(nK g r).1;obtain⟨i0,bo,b3,bA,bj⟩:=info_parts uQ;have a7:χ ((crT ⟨(a:Int),p,b⟩).length=a):=by unfold χ crT;rw[jam];rfl
  have ax:χ (∀(k:Nat) (W K:ω) (x:Ih) (y:Hd),k<aB a->B.top<=K.heap.size->(d.dI (crT ⟨(a:Int),p,b⟩) k).2=0->pz B x.tb K x ⟨d,⟨(a:Int),p,b⟩,crT ⟨(a:Int),p,b⟩,[]⟩ (d.dI (crT ⟨(a:Int),p,b⟩) k).1 y W ->
      κ prog 102 #[x.p,(k:Int)] W λe w' =>
      ∃ t:Hd,e=.returned (erV (d.dI (crT ⟨(a:Int),p,b⟩) (k+1)).2)/\t.p=y.p/\pz B x.tb K x ⟨d,⟨(a:Int),p,b⟩,crT ⟨(a:Int),p,b⟩,[]⟩ (d.dI (crT ⟨(a:Int),p,b⟩) (k+1)).1 t w'):=λk W K x y o bk H j=>by
    have a6:=yg hf g r (by omega) k (jbh o);obtain⟨aM,aD⟩:=yh ⟨(a:Int),p,b⟩ g k o;have h1:=LV k W j.img (m:=m+k) (by show(d.dI (crT ⟨(a:Int),p,b⟩) k).1.fine (d.dI (crT ⟨(a:Int),p,b⟩) k).1.fl.length (m+k);rw[a6.len];exact a6) (by omega) (ja4 bk j.kept.size) (by show(crT ⟨(a:Int),p,b⟩).length<=32;rw[a7.out];omega) (by show k+1<(d.dI (crT ⟨(a:Int),p,b⟩) k).1.fl.length;rw[a6.len];omega) aM aD;refine h1.mono ?_;rintro e w' ⟨t,rfl,b4,aE,b2⟩;refine⟨t,?_,b4,⟨?_,aX.trans j.kept b2⟩⟩
    . rw[DV.rW H]
    . rw[DV.rW H];exact aE
  have ae:χ (∀ k,(d.dI (crT ⟨(a:Int),p,b⟩) k).2≠0->k<=aB a->crD d ⟨(a:Int),p,b⟩=d.dI (crT ⟨(a:Int),p,b⟩) k):=λk D o=>DV.wV D _ o
  have ba:χ (∀ k,(d.dI (crT ⟨(a:Int),p,b⟩) k).2≠0->k<=aB a->jB d ⟨(a:Int),p,b⟩=(d.dI (crT ⟨(a:Int),p,b⟩) k).1):=λk D o=>by unfold jB;rw[if_pos ⟨g,r⟩,ae.out k D o,if_neg D]
  have bf:χ ((crD d ⟨(a:Int),p,b⟩).2=0->jB d ⟨(a:Int),p,b⟩=(crV d ⟨(a:Int),p,b⟩).d):=λH=>by unfold jB;rw[if_pos ⟨g,r⟩,if_pos H]
  have X:χ (d.dI (crT ⟨(a:Int),p,b⟩) (aB a)=crD d ⟨(a:Int),p,b⟩):=rfl;have ai:χ (d.dI (crT ⟨(a:Int),p,b⟩) 0=(d,0)):=rfl;have HF:=ah (EZ g r)
  have bi:χ (∀(W:ω) (x:Ih),aI B W x (iC d ⟨(a:Int),p,b⟩)->B.top<=W.heap.size->κ prog 103 #[x.p,.agg #[(a:Int),p,b]] W λe w' =>
      ∃ h':Hd,e=.returned (erV (iC d ⟨(a:Int),p,b⟩).flush.d.aV)/\h'.p=x.h.p/\aI B w' {x with h:=h'} (crV d ⟨(a:Int),p,b⟩)/\aX B x.tb W w'):=λW x hi l =>
    Kw (a:Int) p b W hi (AP hf g r (by omega)).d (by omega) l g
  have bl:χ (∀ y:DV,y=(crD d ⟨(a:Int),p,b⟩).1->(⟨y,⟨(a:Int),p,b⟩,crT ⟨(a:Int),p,b⟩,[]⟩:IV)=iC d ⟨(a:Int),p,b⟩):=λy hy=>by rw[hy];rfl
  have bO:χ (∀(W:ω) (tb tc:Nat),β w w W->W.ownsRow 0 168 2 (.slice (S ⟨tb,0,O⟩) a tc) a (bD (crT ⟨(a:Int),p,b⟩))->w.heap.size<=tb ->
      κ prog 100 #[h.p,.agg #[(a:Int),p,b],.slice (S ⟨tb,0,O⟩) a tc] W λe w' =>
      ∃ x:Ih,x.h=h/\x.tb=tb/\x.tc=tc/\e=.returned x.p/\aI B w' x ⟨d,⟨(a:Int),p,b⟩,crT ⟨(a:Int),p,b⟩,[]⟩/\β W W w'):=λW tb tc l ho bE=>by
    have:=Il (tb:=tb) (tc:=tc) (a:Int) p b (crT ⟨(a:Int),p,b⟩) W (ab W l) (ja4 hB l.size) (by rw[a7.out];exact ho) (B.fresh hB bE)
    rw[a7.out] at *;exact this
  have bq:χ ((madeCells (Value.agg #[(0:Int),(0:Int)]).cells (a*2)).toList=bD (crT ⟨(a:Int),p,b⟩)):=TJ a;have bS:aQ ⟨(a:Int),p,b⟩<=d.fl.length:=r;generalize aQ ⟨(a:Int),p,b⟩=nn at *
  generalize crF d ⟨(a:Int),p,b⟩=F at *
  generalize jB d ⟨(a:Int),p,b⟩=CL at *
  generalize (iC d ⟨(a:Int),p,b⟩).flush.d.aV=pf at *
  generalize crV d ⟨(a:Int),p,b⟩=V at *
  generalize d.dI (crT ⟨(a:Int),p,b⟩)=s at *
  generalize crD d ⟨(a:Int),p,b⟩=CD at *
  generalize iC d ⟨(a:Int),p,b⟩=V0 at *
  generalize crT ⟨(a:Int),p,b⟩=T at *
  generalize c8:aB a=C at *
  go_enter func30,ntmps30;go_wp2_with fail;refine cEq (ac _) λc aw=>?_
  have E:χ (β w w c):=((ja0 _ _).alloc (ja1 _) _).trans (aw.mono (by simp));have A:χ (c.heap[w.heap.size]?=S (.cells #[(a:Int),p,b] 67 (0,0))):=by unfold χ;rw[aw.block _ (by simp),heap_alloc_new]
  have J:w.heap.size<c:=lt_of_some A;have y0:c.cell? ⟨w,0,O⟩=S (.int .i64 (a:Int)):=by rw[cell_of_row _ _ _ _ _ _ A.out];rfl
  have y1:c.cell? ⟨w,1,O⟩=S (p:υ):=by rw[cell_of_row _ _ _ _ _ _ A.out];rfl
  have t:c.cell? ⟨w,2,O⟩=S (b:υ):=by rw[cell_of_row _ _ _ _ _ _ A.out];rfl
  go_wp2
  go_region_held3 (λW=>β c c W/\W.cell? ⟨w,0,O⟩=S (.int .i64 (a:Int))/\W.cell? ⟨w,1,O⟩=S (p:υ)/\W.cell? ⟨w,2,O⟩=S (b:υ))
    (first|(exact⟨jba (ja0 _ _),y0,y1,t⟩)|assumption|(exact⟨by assumption,(jax (by assumption) J).trans y0,(jax (by assumption) J).trans y1,(jax (by assumption) J).trans t⟩))
    (first
      | (go_at_call 99;refine cSt (aR _ (E.trans (Below.mono (by assumption:β c c _/\_).1 E.size))) ?_)
      | (go_at_call 29;refine cEq (aL _) λn bc=>?_;have c7:=jaF (by assumption:β c c _/\_).1 (bc.mono (by assumption:β c c _/\_).1.size)))
  all_goals
    obtain⟨ad,Q,z1,z2⟩:=(by assumption:β c c n/\_);have ar:=ah (E.trans (ad.mono E.size));have ao:χ (n.heap[w.heap.size]?=S (.cells #[(a:Int),p,b] 67 (0,0))):=by unfold χ;rw[ad.block _ J];exact A
    have g2:¬d.fl.length<nn:=by omega
    obtain⟨I,c5,bs,bN⟩:=run_make_full (P:=prog) n.drew 0 144 168 i0 (.agg #[(0:Int),(0:Int)]) 2 underlying144 bo b3 bA .i64 .i64 a (by rw[bj];omega) (by unfold maxLen;omega) (ja7 _);have z:β n n I:=((ja0 _ _).drew).grown bN (ja1 _) (λk e=>by cases e);have N:=ah (ar.trans (z.mono ar.size));have az:χ (I.ownsRow 0 168 2 (.slice (S ⟨n,0,O⟩) a a) a (bD T)):=by unfold χ;rw[<- bq.out];exact bs
    have u:w.heap.size<n:=lt_of_some ao;have b8:=ah (bO I n.heap.size a N az (jbh u));have Z:=(z.cell (p:=⟨w.heap.size,0,O⟩) u).trans Q;have a9:=(z.cell (p:=⟨w.heap.size,1,O⟩) u).trans z1;have a0:=(z.cell (p:=⟨w.heap.size,2,O⟩) u).trans z2;have av:χ (I.heap[w.heap.size]?=S (.cells #[(a:Int),p,b] 67 (0,0))):=by unfold χ;rw[z.block _ u];exact ao
    go_wp2
    go_region_held3 (λW=>W.cell? ⟨w,0,O⟩=S (.int .i64 (a:Int))/\W.cell? ⟨w,1,O⟩=S (p:υ)/\W.cell? ⟨w,2,O⟩=S (b:υ))
      (first|(exact⟨Q,z1,z2⟩)|(exact⟨Z,a9,a0⟩)|assumption)
      (first
        | (go_at_call 100;refine b8.mono ?_;rintro e q ⟨x,bL,bm,c9,rfl,bw,v⟩;have c6:q.cell? ⟨w,0,O⟩=S (.int .i64 (a:Int))/\q.cell? ⟨w,1,O⟩=S (p:υ)/\q.cell? ⟨w,2,O⟩=S (b:υ):=⟨(v.cell (ja2 _ _ Z)).trans Z,(v.cell (ja2 _ _ a9)).trans a9,(v.cell (ja2 _ _ a0)).trans a0⟩))
    have a2:=ah (N.trans (v.mono N.size));have br:χ (q.heap[w.heap.size]?=S (.cells #[(a:Int),p,b] 67 (0,0))):=by unfold χ;rw[v.block _ (lt_of_some av.out)];exact av
    have bn:χ (x.h.p=h.p):=by unfold χ;rw[bL]
    have G:χ (w.heap.size<x.tb):=by unfold χ;rw[bm];exact u
    have aa:B.top<=q.heap.size:=ja4 hB a2.size;have b9:=ah bw;go_wp2_with (go_at_call 101;refine cSt (HR _) ?_)
    go_loopw [31] (λi wr=>∃(k:Nat) (y:Hd),k<=C/\i=.int .i64 k/\(s k).2=0/\y.p=h.p/\pz B x.tb q x ⟨d,⟨(a:Int),p,b⟩,T,[]⟩ (s k).1 y wr) (λi _=>C-(intOf i).toNat)
    case atStart=>exact⟨0,x.h,ja7 _,rfl,by rw[ai.out],bn,⟨by rw[ai.out];exact b9,aX.refl _ _ _⟩⟩
    case round =>
      obtain⟨k,y,o,rfl,a8,an,j⟩:=hrel;by_cases b1:k<C
      . have bb:=ah (ax k wr q x y b1 aa a8 j);have a1:=ah an;go_wp2_with fail;refine bb.mono ?_;rintro e w3 ⟨L,rfl,bp,be⟩;have am:χ (L.p=h.p):=bp.trans a1;have a4:=ah be;by_cases f:(s (k+1)).2=0
        . have R:=ah f;have e0:erV (s (k+1)).2=.nilIface:=by rw[f,aJ]
          rw[e0];go_wp2;go_roundw
          case rel =>
            exact⟨k+1,L,by omega,by go_num,R,am,a4⟩
          case measure=>simp[intOf];omega
        . have HE:=ae (k+1) f (by omega);have aq:χ (F=(s (k+1)).2):=by unfold χ;rw[HF.out,HE,if_neg f]
          have h7  := tC f;have U:=ah h7;have a3:=ah f;have b5:χ (CL=(s (k+1)).1):=ba (k+1) f (by omega);rw[h7];go_wp2;go_ret2;refine⟨{x with h:=L},am,jbh G,aX.trans (aX.of_below a2) a4.kept,.inr ⟨?_,?_,?_⟩⟩
          . rw[aq.out];exact a3
          . rw[aq.out,U.out];rfl
          . rw[b5.out];exact a4.img.dev
      . have b7:k=C:=by omega
        subst b7;have af:=j.img;have bB:=bl (s k).1 (by rw[X.out]);rw[bB] at af;have b6  := ja4 aa j.kept.size;have bd:=ah (bi wr {x with h:=y} af b6);have M:=j.kept.box br (by decide) (by have:=G;omega);have Q:wr.cell? ⟨w,0,O⟩=S (.int .i64 (a:Int)):=by rw[cell_of_row _ _ _ _ _ _ M];rfl
        have z1:wr.cell? ⟨w,1,O⟩=S (p:υ):=by rw[cell_of_row _ _ _ _ _ _ M];rfl
        have z2:wr.cell? ⟨w,2,O⟩=S (b:υ):=by rw[cell_of_row _ _ _ _ _ _ M];rfl
        have bu:=ah (aX.trans (aX.of_below a2) j.kept);have a1:=ah an;have a5:χ (F=pf):=by unfold χ;rw[HF.out,<- X.out,if_pos a8]
        have b0:χ (CL=V.d):=bf (by rw[<- X.out];exact a8);go_wp2_with fail;refine bd.mono ?_;rintro e w5 ⟨Y,rfl,bt,bv,bh⟩;have al:χ (Y.p=h.p):=bt.trans a1;have ap:=ah bv;have ag:=ah (aX.trans bu bh);by_cases f:pf=0
        . have R:=ah f;rw[f,aJ];go_wp2;go_ret2;exact⟨{x with h:=Y},al,jbh G,ag,.inl ⟨a5.trans R,rfl,ap⟩⟩
        . have a3:=ah f;have U:=ah (tC f);rw[tC f];go_wp2;go_ret2;refine⟨{x with h:=Y},al,jbh G,ag,.inr ⟨?_,?_,?_⟩⟩
          . rw[a5.out];exact a3
          . rw[a5.out,U.out];rfl
          . rw[b0.out];exact ap.dev
def OB{B q d}(c p b w)(hd:dh B w q d)(M:¬(HV.ok ⟨c,p,b⟩=true/\aQ ⟨c,p,b⟩<=d.fl.length)) :
  κ prog 37 #[q.p,.agg #[c,p,b]] w λe w'=>e=.returned (.tuple #[.pointer O,(1:Int)])/\β w w w':=by
 obtain⟨F,_⟩:=hd.cells;have C  := (hd.lt q.p (.inl rfl)).2;have x:=ah (qB c p b);have m:χ (β w w (w.alloc (.cells #[c,p,b] 67))):=(ja0 _ _).alloc (ja1 _) _;have j:χ ((w.alloc (.cells #[c,p,b] 67)).heap[w.heap.size]?=some (.cells #[c,p,b] 67 (0,0))):=heap_alloc_new _ _
 cases s:HV.ok ⟨c,p,b⟩ with
 | false =>
  have t:HV.fault ⟨c,p,b⟩=1:=by unfold HV.fault;rw[s];rfl
  have U:decide (0<HV.fault ⟨c,p,b⟩)=true:=by rw[t];decide
  generalize HV.fault ⟨c,p,b⟩=f at *
  go_enter func37,ntmps37;go_wp2;generalize w.alloc (.cells #[c,p,b] 67)=a at *
  have k  := lt_of_some j;have y0:a.cell? ⟨w,0,O⟩=some (c:υ):=by rw[cell_of_row _ _ _ _ _ _ j.out];rfl
  have y1:a.cell? ⟨w,1,O⟩=some (p:υ):=by rw[cell_of_row _ _ _ _ _ _ j.out];rfl
  have n:a.cell? ⟨w,2,O⟩=some (b:υ):=by rw[cell_of_row _ _ _ _ _ _ j.out];rfl
  have A:β a a a.drew/\a.drew.cell? ⟨w,0,O⟩=some (c:υ)/\a.drew.cell? ⟨w,1,O⟩=some (p:υ)/\a.drew.cell? ⟨w,2,O⟩=some (b:υ):=⟨jba (ja0 _ _),y0,y1,n⟩;refine wp_region_noPanic ?_;refine wp_region_held_drew (S:=λW=>β a a W/\W.cell? ⟨w,0,O⟩=some (c:υ)/\W.cell? ⟨w,1,O⟩=some (p:υ)/\W.cell? ⟨w,2,O⟩=some (b:υ)) (by kernel_rfl) A (λhHeld=>?_);refine wpAnyH_take (i:=0) (oi:=_) (v:=?_) rfl (by kernel_rfl) (by kernel_rfl) (by kernel_rfl) (λ_ _ _ h=>h) (Or.inl ⟨by rfl,?_⟩) A ?_
  rotate_left
  . (intro w u;go_simp;try with_reducible rfl)
  (try simp only[Act.put,jat,jao,jae,jaw,jar])
  refine wpAnyH_ready (rs:=[1]) (by kernel_rfl) (by simp) ?_;refine jbQ (o:=_) rfl (λK L=>?_) ?_
  .go_simp
   refine cEq (x _) λr y=>?_
   have l  := (jba (ja0 _ _)).trans y;have g:β a a r/\r.cell? ⟨w,0,O⟩=some (c:υ)/\r.cell? ⟨w,1,O⟩=some (p:υ)/\r.cell? ⟨w,2,O⟩=some (b:υ):=⟨l,(l.cell (p:=⟨w.heap.size,0,O⟩) k).trans y0,(l.cell (p:=⟨w.heap.size,1,O⟩) k).trans y1,(l.cell (p:=⟨w.heap.size,2,O⟩) k).trans n⟩
   try go_wp2_with fail
   refine L _ _ g (λ_=>?_)
   (try simp only[Act.put,jat,jaq,jao,jae,jaw,jar])
   refine wpAnyH_take (i:=2) (oi:=_) (v:=?_) rfl (by kernel_rfl) (by kernel_rfl) (by kernel_rfl) (λ_ _ _ h=>h) (Or.inl ⟨by rfl,?_⟩) g ?_
   rotate_left
   . (intro w u;go_simp;try with_reducible rfl)
   (try simp only[Act.put,jat,jaq,jao,jae,jaw,jar])
   refine wpAnyH_take (i:=3) (oi:=_) (v:=?_) rfl (by kernel_rfl) (by kernel_rfl) (by kernel_rfl) (λ_ _ _ h=>h) (Or.inl ⟨by rfl,?_⟩) g ?_
   rotate_left
   . (intro w u;go_simp;try with_reducible rfl)
   (try simp only[Act.put,jat,jaq,jao,jae,jaw,jar])
   refine wpAnyH_take (i:=4) (oi:=_) (v:=undef) rfl (by kernel_rfl) (by kernel_rfl) (by kernel_rfl) (λ_ _ _ h=>h) (Or.inr ⟨by kernel_rfl,rfl⟩) g ?_
   (try simp only[Act.put,jat,jaq,jao,jae,jaw,jar])
   refine wpAnyH_take (i:=5) (oi:=_) (v:=undef) rfl (by kernel_rfl) (by kernel_rfl) (by kernel_rfl) (λ_ _ _ h=>h) (Or.inr ⟨by kernel_rfl,rfl⟩) g ?_
   (try simp only[Act.put,jat,jaq,jao,jae,jaw,jar])
   refine wpAnyH_take (i:=6) (oi:=_) (v:=undef) rfl (by kernel_rfl) (by kernel_rfl) (by kernel_rfl) (λ_ _ _ h=>h) (Or.inr ⟨by kernel_rfl,rfl⟩) g ?_
   (try simp only[Act.put,jat,jaq,jao,jae,jaw,jar])
   refine wpAnyH_take (i:=7) (oi:=_) (v:=undef) rfl (by kernel_rfl) (by kernel_rfl) (by kernel_rfl) (λ_ _ _ h=>h) (Or.inr ⟨by kernel_rfl,rfl⟩) g ?_
   (try simp only[Act.put,jat,jaq,jao,jae,jaw,jar])
   refine wpAnyH_take (i:=8) (oi:=_) (v:=undef) rfl (by kernel_rfl) (by kernel_rfl) (by kernel_rfl) (λ_ _ _ h=>h) (Or.inr ⟨by kernel_rfl,rfl⟩) g ?_
   (try simp only[Act.put,jat,jaq,jao,jae,jaw,jar])
   refine wpAnyH_take (i:=9) (oi:=_) (v:=undef) rfl (by kernel_rfl) (by kernel_rfl) (by kernel_rfl) (λ_ _ _ h=>h) (Or.inr ⟨by kernel_rfl,rfl⟩) g ?_
   (try simp only[Act.put,jat,jaq,jao,jae,jaw,jar])
   refine wpAnyH_take (i:=10) (oi:=_) (v:=undef) rfl (by kernel_rfl) (by kernel_rfl) (by kernel_rfl) (λ_ _ _ h=>h) (Or.inr ⟨by kernel_rfl,rfl⟩) g ?_
   (try simp only[Act.put,jat,jaq,jao,jae,jaw,jar])
   refine wpAnyH_take (i:=11) (oi:=_) (v:=undef) rfl (by kernel_rfl) (by kernel_rfl) (by kernel_rfl) (λ_ _ _ h=>h) (Or.inr ⟨by kernel_rfl,rfl⟩) g ?_
   (try simp only[Act.put,jat,jaq,jao,jae,jaw,jar])
   refine wpAnyH_take (i:=12) (oi:=_) (v:=?_) rfl (by kernel_rfl) (by kernel_rfl) (by kernel_rfl) (λ_ _ _ h=>h) (Or.inl ⟨by rfl,?_⟩) g ?_
   rotate_left
   . (intro w u;go_simp;try with_reducible rfl)
   (try simp only[Act.put,jat,jaq,jao,jae,jaw,jar])
   refine wpAnyH_done (by kernel_rfl) ?_ _;refine NoPanic.normal ?_;go_wp2;go_ret2;exact⟨rfl,(m.trans (l.mono m.size))⟩
  .exact AllReadyH.nil
 | true =>
  have t:HV.fault ⟨c,p,b⟩=0:=by unfold HV.fault;rw[s];rfl
  rw[t] at x
  have R:d.fl.length<aQ ⟨c,p,b⟩:=by
   by_cases E:aQ ⟨c,p,b⟩<=d.fl.length
   .exact absurd ⟨s,E⟩ M
   .omega
  have D:=ah (λW=>zu c p b W s);generalize aQ ⟨c,p,b⟩=P at *
  go_enter func37,ntmps37;go_wp2;generalize w.alloc (.cells #[c,p,b] 67)=a at *
  have k  := lt_of_some j;have G:q.p<a.heap.size:=by omega
  have y0:a.cell? ⟨w,0,O⟩=some (c:υ):=by rw[cell_of_row _ _ _ _ _ _ j.out];rfl
  have y1:a.cell? ⟨w,1,O⟩=some (p:υ):=by rw[cell_of_row _ _ _ _ _ _ j.out];rfl
  have n:a.cell? ⟨w,2,O⟩=some (b:υ):=by rw[cell_of_row _ _ _ _ _ _ j.out];rfl
  have z  := (m.cell (p:=⟨q.p,0,O⟩) C).trans F
  go_region_held3 (λW=>β a a W/\W.cell? ⟨w,0,O⟩=some (c:υ)/\W.cell? ⟨w,1,O⟩=some (p:υ)/\W.cell? ⟨w,2,O⟩=some (b:υ)/\W.cell? ⟨q.p,0,O⟩=some (.slice (some ⟨q.bf,0,O⟩) d.fl.length q.cf))
   (first|(exact⟨jba (ja0 _ _),y0,y1,n,z⟩)|assumption|(exact⟨by assumption,(jax (by assumption) k).trans y0,(jax (by assumption) k).trans y1,(jax (by assumption) k).trans n,(jax (by assumption) G).trans z⟩))
   (first
     | (go_at_call 33;refine cEq (x _) λr y=>?_;have l:=jaF (by assumption:β a a _/\_).1 (y.mono (by assumption:β a a _/\_).1.size))
     | (go_at_call 34;refine cEq (D _) λH J=>?_;have V:=jaF (by assumption:β a a _/\_).1 (J.mono (by assumption:β a a _/\_).1.size)))
  all_goals
   obtain⟨I,Q,N,T,X⟩:=(by assumption:β a a H/\_);go_wp2;go_ret2;exact⟨rfl,(m.trans (I.mono m.size))⟩
def kah(k):bD (List.replicate (k+1) (0,0))=bD (List.replicate k (0,0))++[.int .i64 0,.int .i64 0]:=by
 rw[jbj];simp[bD]
structure ql(w:ω)(NI:Nat)(ptr:υ)(c p b:Int)(k:Nat)(v:υ)(wr:ω):Prop where
 blk:wr.heap[NI]?=S (.cells #[ptr,c,p,b,v,.slice O 0 0] 146 (0,0))
 own:wr.ownsRow (NI+1) 168 2 v k (bD (List.replicate k (0,0)))
 bel:β NI w wr
def ql.push{w wr d a l c p b k v}(h:ql w a l c p b k v wr)(C)(g cap)
  (i:d.ownsRow (a+1) 168 2 (.slice (S ⟨g,0,O⟩) (k+1) cap) (k+1) (bD (List.replicate k (0,0))++[.int .i64 0,.int .i64 0])) (j:(wr.alloc C).grownBy d v.ownBlock) :
  ql w a l c p b (k+1) (.slice (S ⟨g,0,O⟩) (k+1) cap) (d.setCell ⟨a,4,O⟩ (.slice (S ⟨g,0,O⟩) (k+1) cap))/\d.cell? ⟨a,4,O⟩=S v/\d.frozen? ⟨a,4,O⟩=false:=by
 have m:=lt_of_some h.blk;have f  := (j.block a (by simp;omega) (λe=>by have:=(h.own.lt a e.symm).1;omega)).trans ((jap _ _ _ m).trans h.blk);refine⟨⟨?_,?_,((h.bel.alloc (by omega) C).grown j (by simp;omega) (λr e=>by have:=(h.own.lt r e).1;omega)).setCell (ja1 _) _⟩,?_,frozen_of_row _ _ _ _ _ f⟩
 .rw[heap_setCell_same _ _ _ _ _ _ f];rfl
 .rw[kah];refine bg i λr e=>heap_setCell_other _ _ _ _ (λn=>?_)
  have:=(i.lt r e).1
  have o:r=a:=n;omega
 .rw[cell_of_row _ _ _ _ _ _ f];rfl
def ql.rim{B}{c a:Nat}{w wr q d p b v}(hd:dh B w q d)(f:B.top<=w)(g:w<=c)(h:ql w c (.pointer (S ⟨q.p,0,O⟩)) (a:Int) p b a v wr) :
  aU B wr ⟨c,q,v,.slice O 0 0⟩ ⟨d,⟨(a:Int),p,b⟩,List.replicate a (0,0),[]⟩:=by
 refine⟨h.blk,B.fresh f g,hd.keep λk i=>h.bel.block k (ja8 (hd.lt k i).2 g),?_,jaa _ _ _ _,(λk e=>by cases e),(λk e=>B.fresh f (by have:=(h.own.lt k e).1;omega)),λk e=>by cases e⟩;rw[jam];exact ownsRow_base h.own (ja7 _)
def OC{B m q d}(c:Nat)(p b w)(hd:dh B w q d)(hf:d.fine d.fl.length m)(hm:m+20<1000000000)(hB:B.top<=w)(x:HV.ok ⟨(c:Int),p,b⟩=true)(L:aQ ⟨(c:Int),p,b⟩<=d.fl.length) :
    κ prog 37 #[q.p,.agg #[(c:Int),p,b]] w λe w' =>
      ∃ r:Qh,r.d.p=q.p/\(∀ k,r.vt.ownBlock=S k->w<=k)/\fM B w w'/\((crF d ⟨(c:Int),p,b⟩=0/\e=.returned (.tuple #[r.p,(0:Int)])/\aU B w' r (crV d ⟨(c:Int),p,b⟩)) \/
        (crF d ⟨(c:Int),p,b⟩≠0/\e=.returned (.tuple #[.pointer O,crF d ⟨(c:Int),p,b⟩])/\dh B w' r.d (jB d ⟨(c:Int),p,b⟩))):=by
  obtain⟨c0,_⟩:=hd.cells;have lq:q.p<w.heap.size:=(hd.lt q.p (.inl rfl)).2;have az:=ah (qB (c:Int) p b);have e1:HV.fault ⟨(c:Int),p,b⟩=0:=by unfold HV.fault;rw[x];rfl
  rw[e1] at az;have av:=ah (λW=>zu (c:Int) p b W x);have cg:=HV.dS x;simp only at cg;have HR:χ (∀ W:ω,κ prog 107 #[(c:Int)] W λe w'=>e=.returned (aB c:Int)/\w'=W):=λW=>qG c W (by omega)
  have cH:aB c<=5:=by unfold aB;omega
  have ca:aB c<d.fl.length:=(nK x L).1;obtain⟨i0,cz,ce,cD,cv⟩:=info_parts uQ;have al:χ ((crT ⟨(c:Int),p,b⟩).length=c):=by unfold χ crT;rw[jam];rfl
  have bo:χ (crT ⟨(c:Int),p,b⟩=List.replicate c (0,0)):=rfl
  have ag:χ (∀(k:Nat) (W:ω) (g cap:Nat) (B0:Nat),k<aB c->W.ownsRow B0 168 2 (.slice (S ⟨g,0,O⟩) c cap) c (bD (crT ⟨(c:Int),p,b⟩))->κ prog 108 #[.slice (S ⟨g,0,O⟩) c cap,(k:Int)] W λe w' =>
      e=.returned (.tuple #[.string (eH (crT ⟨(c:Int),p,b⟩) (k:Int)),(0:Int)])/\β W W w'):=λk W g cap B0 J ho=>by
    have:=JF (S ⟨g,0,O⟩) c cap (crT ⟨(c:Int),p,b⟩) (k:Int) W (vX ho _ (by rw[jaf (by rw[qV,al.out];exact ja1 _)]) (ja1 _) al) (by omega)
    rw[(yh ⟨(c:Int),p,b⟩ x k J).1] at this;exact this
  have a9:χ (∀(k:Nat) (W:ω) (r:Qh),k<aB c->B.top<=W.heap.size->(d.dI (crT ⟨(c:Int),p,b⟩) k).2=0->aU B W r ⟨(d.dI (crT ⟨(c:Int),p,b⟩) k).1,⟨(c:Int),p,b⟩,crT ⟨(c:Int),p,b⟩,[]⟩->r.d.p=q.p ->
      κ prog 109 #[q.p,(1+(k:Int):Int),.string (eH (crT ⟨(c:Int),p,b⟩) (k:Int))] W λe w' =>
      ∃ r2:Qh,e=.returned (.int .i64 (d.dI (crT ⟨(c:Int),p,b⟩) (k+1)).2)/\Led B W r r2 ⟨(d.dI (crT ⟨(c:Int),p,b⟩) (k+1)).1,⟨(c:Int),p,b⟩,crT ⟨(c:Int),p,b⟩,[]⟩ w'/\r2.vt=r.vt):=λk W r J cx h0 D G=>by
    have cy:=yg hf x L (by omega) k (jbh J);obtain⟨cJ,c8⟩:=yh ⟨(c:Int),p,b⟩ x k J;have h1:=vw (1+k) (eH (crT ⟨(c:Int),p,b⟩) (k:Int)) W D.dev cy (by omega) cx c8 (by omega);rw[show(((1+k:Nat):Int))=1+(k:Int) by omega,G] at h1;refine h1.mono ?_;rintro e w' ⟨q2,rfl,b5,N,M,b2⟩;refine⟨{r with d:=q2},by rw[DV.rW h0],?_,rfl⟩;rw[DV.rW h0];exact Led.dev D N (b5.trans G.symm) M b2
  have aL:χ (∀ k,(d.dI (crT ⟨(c:Int),p,b⟩) k).2≠0->k<=aB c->crD d ⟨(c:Int),p,b⟩=d.dI (crT ⟨(c:Int),p,b⟩) k):=λk ae J=>DV.wV ae _ J
  have cq:χ (∀ k,(d.dI (crT ⟨(c:Int),p,b⟩) k).2≠0->k<=aB c->jB d ⟨(c:Int),p,b⟩=(d.dI (crT ⟨(c:Int),p,b⟩) k).1):=λk ae J=>by unfold jB;rw[if_pos ⟨x,L⟩,aL.out k ae J,if_neg ae]
  have cu:χ ((crD d ⟨(c:Int),p,b⟩).2=0->jB d ⟨(c:Int),p,b⟩=(crV d ⟨(c:Int),p,b⟩).d):=λh0=>by unfold jB;rw[if_pos ⟨x,L⟩,if_pos h0]
  have be:χ (∀ k,(d.dI (crT ⟨(c:Int),p,b⟩) k).2=0\/0<(d.dI (crT ⟨(c:Int),p,b⟩) k).2):=λk=>by
    induction k with
    | zero=>exact .inl rfl
    | succ k ih =>
      rcases ih with h|h
      . rw[DV.rW h];rcases DV.oH (d.dI (crT ⟨(c:Int),p,b⟩) k).1 with h2|h2
        . exact .inl h2.1
        . exact .inr (by rw[h2.1];show(0:Int)<7;decide)
      . right
        rw[DV.wV (k:=k) (by omega) (k+1) (by omega)];exact h
  have ad:χ (d.dI (crT ⟨(c:Int),p,b⟩) (aB c)=crD d ⟨(c:Int),p,b⟩):=rfl;have bv:χ (d.dI (crT ⟨(c:Int),p,b⟩) 0=(d,0)):=rfl;have HF:=ah (EZ x L);obtain⟨X,hX⟩:∃ X:ByteArray,X=gK [83,89,(c:Int),p,b+1]:=⟨_,rfl⟩;have aM:X.size=16:=by rw[hX];exact HV.xW ⟨(c:Int),p,b⟩
  have bu:χ (∀ W:ω,κ prog 111 #[.agg #[(c:Int),p,b]] W λe w'=>e=.returned X/\β W W w'):=λW=>by rw[hX];exact BU (c:Int) p b W x
  have a2:=AP hf x L (by omega);have aE:=a2.d.flushed;have b4:0<(iC d ⟨(c:Int),p,b⟩).d.fl.length:=a2.d.ok.n1;have HV:χ (crV d ⟨(c:Int),p,b⟩=if (iC d ⟨(c:Int),p,b⟩).flush.d.aV=0 then {(({(iC d ⟨(c:Int),p,b⟩).flush with d:=(iC d ⟨(c:Int),p,b⟩).flush.d.put 0 X.data.toList}:IV).flush) with h:=⟨(c:Int),p,b⟩} else {(iC d ⟨(c:Int),p,b⟩).flush with d:=(iC d ⟨(c:Int),p,b⟩).flush.d.put 0 X.data.toList}):=by rw[hX];rfl
  have aw:χ ((iC d ⟨(c:Int),p,b⟩).flush.d.aV=0\/(iC d ⟨(c:Int),p,b⟩).flush.d.aV=7):=by
    rcases DV.oH (iC d ⟨(c:Int),p,b⟩).flush.d with Q|Q
    . exact .inl Q.1
    . exact .inr Q.1
  have bb:χ (∀(W:ω) (r:Qh),aU B W r (iC d ⟨(c:Int),p,b⟩)->r.d.p=q.p->κ prog 110 #[q.p] W λe w'=>∃ r2:Qh,e=.returned (.tuple #[])/\Led B W r r2 (iC d ⟨(c:Int),p,b⟩).flush w'/\r2.vt=r.vt):=λW r D G=>by
    rw[<- G];refine(zo W D.dev.todR a2.d.ok a2.d.sn).mono ?_;rintro e w' ⟨rfl,N,M⟩;exact⟨_,rfl,Led.dev D (D.dev.nilled N) rfl M (λr e=>by cases e),rfl⟩
  have bd:χ (∀(W:ω) (r:Qh),aU B W r (iC d ⟨(c:Int),p,b⟩).flush->B.top<=W.heap.size->r.d.p=q.p->κ prog 109 #[q.p,(0:Int),X] W λe w' =>
      ∃ r2:Qh,e=.returned (.int .i64 (iC d ⟨(c:Int),p,b⟩).flush.d.aV)/\Led B W r r2 {(iC d ⟨(c:Int),p,b⟩).flush with d:=(iC d ⟨(c:Int),p,b⟩).flush.d.put 0 X.data.toList} w'/\r2.vt=r.vt):=λW r D R G=>by
    rw[<- G];refine(vw 0 X W D.dev aE (by omega) R aM b4).mono ?_;rintro e w' ⟨q2,rfl,b5,N,M,b2⟩;exact⟨{r with d:=q2},rfl,Led.dev D N b5 M b2,rfl⟩
  have ar:χ (∀(W:ω) (r:Qh),aU B W r {(iC d ⟨(c:Int),p,b⟩).flush with d:=(iC d ⟨(c:Int),p,b⟩).flush.d.put 0 X.data.toList}->r.d.p=q.p->κ prog 110 #[q.p] W λe w'=>∃ r2:Qh,e=.returned (.tuple #[])/\Led B W r r2 {(({(iC d ⟨(c:Int),p,b⟩).flush with d:=(iC d ⟨(c:Int),p,b⟩).flush.d.put 0 X.data.toList}:IV).flush) with h:=⟨(c:Int),p,b⟩} w'/\r2.vt=r.vt):=λW r D G=>by
    rw[<- G];have bp:=aE.put (i:=0) (s:=X.data.toList) b4 (by simpa using aM) (by omega);refine(zo W D.dev.todR bp.ok bp.sn).mono ?_;rintro e w' ⟨rfl,N,M⟩;exact⟨_,rfl,Led.dev D (D.dev.nilled N) rfl M (λr e=>by cases e),rfl⟩
  have cd:χ (∀ W:ω,β w w W->dh B W q d):=λW R=>hd.keep λk x=>R.block k (hd.lt k x).2
  have c9:aQ ⟨(c:Int),p,b⟩<=d.fl.length:=L;generalize aQ ⟨(c:Int),p,b⟩=nn at av c9;have b6:χ (∀ y:DV,y=(crD d ⟨(c:Int),p,b⟩).1->(⟨y,⟨(c:Int),p,b⟩,crT ⟨(c:Int),p,b⟩,[]⟩:IV)=iC d ⟨(c:Int),p,b⟩):=λy hy=>by rw[hy];rfl
  clear L x e1 hf ca hd a2 aE b4 hX aM;generalize crF d ⟨(c:Int),p,b⟩=F at HF |-;generalize jB d ⟨(c:Int),p,b⟩=CL at *
  generalize crV d ⟨(c:Int),p,b⟩=V at *
  generalize (iC d ⟨(c:Int),p,b⟩).flush.d.aV=pf at *
  generalize d.dI (crT ⟨(c:Int),p,b⟩)=C at *
  generalize crD d ⟨(c:Int),p,b⟩=CD at *
  generalize iC d ⟨(c:Int),p,b⟩=V0 at *
  obtain⟨T,hT⟩:∃ T,T=crT ⟨(c:Int),p,b⟩:=⟨_,rfl⟩;rw[<- hT] at ag a9 al bo b6;clear hT;generalize cF:aB c=rn at *
  clear cF;have ai:χ (β w w (w.alloc (.cells #[(c:Int),p,b] 67))):=(ja0 _ _).alloc (ja1 _) _;have Y:χ ((w.alloc (.cells #[(c:Int),p,b] 67)).heap[w.heap.size]?=S (.cells #[(c:Int),p,b] 67 (0,0))):=heap_alloc_new _ _;go_enter func37,ntmps37;go_wp2;generalize w.alloc (.cells #[(c:Int),p,b] 67)=n at *
  have a7:w.heap.size<n:=lt_of_some Y;have bA:q.p<n.heap.size:=by omega
  have y0:n.cell? ⟨w,0,O⟩=S (.int .i64 (c:Int)):=by rw[cell_of_row _ _ _ _ _ _ Y.out];rfl
  have y1:n.cell? ⟨w,1,O⟩=S (p:υ):=by rw[cell_of_row _ _ _ _ _ _ Y.out];rfl
  have y2:n.cell? ⟨w,2,O⟩=S (b:υ):=by rw[cell_of_row _ _ _ _ _ _ Y.out];rfl
  have y3:n.cell? ⟨q.p,0,O⟩=S (.slice (S ⟨q.bf,0,O⟩) d.fl.length q.cf):=(ai.cell (p:=⟨q.p,0,O⟩) lq).trans c0
  go_region_held3 (λW=>β n n W/\W.cell? ⟨w,0,O⟩=S (.int .i64 (c:Int))/\W.cell? ⟨w,1,O⟩=S (p:υ)/\W.cell? ⟨w,2,O⟩=S (b:υ)/\W.cell? ⟨q.p,0,O⟩=S (.slice (S ⟨q.bf,0,O⟩) d.fl.length q.cf))
    (first|(exact⟨jba (ja0 _ _),y0,y1,y2,y3⟩)|assumption|(exact⟨by assumption,(jax (by assumption) a7).trans y0,(jax (by assumption) a7).trans y1,(jax (by assumption) a7).trans y2,(jax (by assumption) bA).trans y3⟩))
    (first
      | (go_at_call 33;refine(az _).mono ?_;rintro e wN ⟨rfl,cr⟩;have cP:=jaF (by assumption:β n n _/\_).1 (cr.mono (by assumption:β n n _/\_).1.size))
      | (go_at_call 34;refine(av _).mono ?_;rintro e f ⟨rfl,cC⟩;have cM:=jaF (by assumption:β n n _/\_).1 (cC.mono (by assumption:β n n _/\_).1.size)))
  all_goals
    obtain⟨aD,z0,z1,z2,z3⟩:=(by assumption:β n n f/\_);have am:=ah (ai.trans (aD.mono ai.size));have b7:χ (f.heap[w.heap.size]?=S (.cells #[(c:Int),p,b] 67 (0,0))):=by unfold χ;rw[aD.block _ a7];exact Y
    have a5:w.heap.size<f:=lt_of_some b7;have g1:decide ((d.fl.length:Int)<(nn:Int))=false:=decide_eq_false (by omega);have g2:¬d.fl.length<nn:=by omega
    clear aD y0 y1 y2 y3 a7 bA Y ai az av;have ch:χ (ql f f.heap.size (.pointer (S ⟨q.p,0,O⟩)) (c:Int) p b 0 (.slice O 0 0) (f.alloc (.cells #[q.p,(c:Int),p,b,.slice O 0 0,.slice O 0 0] 146))):=⟨heap_alloc_new _ _,jaa _ _ _ _,(ja0 _ _).alloc (ja1 _) _⟩;go_wp2;generalize decide (d.fl.length<nn)=db;clear g1 g2 z3;go_loopw [7] (λi wr=>∃(k:Nat) (v:υ),k<=c/\i=.int .i64 k/\ql f f.heap.size (.pointer (S ⟨q.p,0,O⟩)) (c:Int) p b k v wr) (λi _=>c-(intOf i).toNat)
    case atStart=>exact⟨0,.slice O 0 0,ja7 _,rfl,ch⟩
    case round =>
      obtain⟨k,v,J,rfl,A⟩:=hrel;have x0:wr.cell? ⟨w,0,O⟩=S (.int .i64 (c:Int)):=(A.bel.cell (p:=⟨w.heap.size,0,O⟩) a5).trans z0;have x1:wr.cell? ⟨w,1,O⟩=S (p:υ):=(A.bel.cell (p:=⟨w.heap.size,1,O⟩) a5).trans z1;have x2:wr.cell? ⟨w,2,O⟩=S (b:υ):=(A.bel.cell (p:=⟨w.heap.size,2,O⟩) a5).trans z2;have c4:wr.cell? ⟨f,4,O⟩=S v:=by rw[cell_of_row _ _ _ _ _ _ A.blk];rfl
      have cl:f.heap.size<wr:=lt_of_some A.blk;obtain⟨a,cap,hv⟩:=ownsRow_shape A.own;by_cases cK:k<c
      . subst hv;have HG:=ah A;have cn:χ ((wr.alloc (.cells #[(0:Int),(0:Int)] 168)).ownsRow (f.heap.size+1) 168 2 (.slice a k cap) k (bD (List.replicate k (0,0)))):=A.own.alloc _;have ct:χ (f.heap.size+1<=(wr.alloc (.cells #[(0:Int),(0:Int)] 168)).heap.size):=by unfold χ;simp;omega
        have cj:χ ((wr.alloc (.cells #[(0:Int),(0:Int)] 168)).heap.size=wr.heap.size+1):=by unfold χ;simp
        clear A
        go_wp2_with (at_builtin;refine wpList_append_lies _ (by rfl) _ _ 144 (by rfl) (f.heap.size+1) 168 i0 (.agg #[(0:Int),(0:Int)]) 2 16 underlying144 cz ce cD cv rfl (by decide) (.slice a k cap) k (bD (List.replicate k (0,0))) (by rfl) cn ⟨wr,0,O⟩ 1 1 [(0:Int),(0:Int)] (by rfl) (by rfl) (vH _ _ _ _) (λu hu=>by simp at *;subst hu;rfl) (by decide) (by unfold maxLen;omega) (by omega) ct (wr.heap.size+1) cj ?_;intro g3 ab w3 bB bq cB cA
                     have an:=HG.push _ g3 ab bB bq;have d4:=an.2.1;have f4:=an.2.2;have cE:χ (ql f f.heap.size (.pointer (S ⟨q.p,0,O⟩)) (c:Int) p b (k+1) (.slice (S ⟨g3,0,O⟩) (k+1) ab) (w3.setCell ⟨f,4,O⟩ (.slice (S ⟨g3,0,O⟩) (k+1) ab))):=an.1
                     clear an bB bq cB cA)
        go_roundw
        case rel =>
          have fin:∃(k1:Nat) (v1:υ),k1<=c/\Value.int .i64 ((k:Int)+1)=.int .i64 k1/\ql f f.heap.size (.pointer (S ⟨q.p,0,O⟩)) (c:Int) p b k1 v1 (w3.setCell ⟨f,4,O⟩ (.slice (S ⟨g3,0,O⟩) (k+1) ab)):=⟨k+1,_,by omega,by go_num,cE⟩
          first|exact fin|((repeat apply Exists.intro);exact⟨fin,rfl⟩)
        case measure=>simp[intOf];omega
      . have cp:k=c:=by omega
        subst cp;have bi:=A.rim (cd f am) (ja4 hB am.size) (ja1 _);rw[<- bo.out] at *
        obtain⟨g,z,bX,cG,_⟩:=A.own.form (by omega);have br:=ah (am.trans (A.bel.mono am.size));have b1:=ah bi;have bt:χ (wr.heap[w.heap.size]?=S (.cells #[(k:Int),p,b] 67 (0,0))):=by unfold χ;rw[A.bel.block _ a5];exact b7
        have aR:χ (w.heap.size<=g):=by unfold χ;omega
        obtain⟨I,ao⟩:∃ I,I=f.heap.size:=⟨_,rfl⟩;have cN:χ (w.heap.size<I):=by unfold χ;rw[ao];exact a5
        rw[bX] at *
        rw[<- ao] at b1;clear bi A hv bX cG c4 x1 x2 cl z0 z1 z2 b7;go_wp2;clear x0;rw[<- ao];clear ao;obtain⟨K,aq⟩:∃ K,K=wr:=⟨wr,rfl⟩;have cs:χ (Led B K ⟨I,q,.slice (S ⟨g,0,O⟩) k z,.slice O 0 0⟩ ⟨I,q,.slice (S ⟨g,0,O⟩) k z,.slice O 0 0⟩ ⟨(C 0).1,⟨(k:Int),p,b⟩,T,[]⟩ wr):=by rw[aq,bv.out];exact Led.refl b1
        have a8:χ (β w w K):=by rw[aq];exact br
        have bj:χ (K.heap[w.heap.size]?=S (.cells #[(k:Int),p,b] 67 (0,0))):=by rw[aq];exact bt
        clear aq br bt b1;go_loopw [8] (λi wr=>∃(j:Nat) (r:Qh),j<=rn/\i=.int .i64 j/\(C j).2=0/\r.vt=.slice (S ⟨g,0,O⟩) k z/\Led B K ⟨I,q,.slice (S ⟨g,0,O⟩) k z,.slice O 0 0⟩ r ⟨(C j).1,⟨(k:Int),p,b⟩,T,[]⟩ wr) (λi _=>rn-(intOf i).toNat)
        case atStart=>exact⟨0,_,ja7 _,rfl,by rw[bv.out],rfl,cs⟩
        case round =>
          obtain⟨H,co⟩:∃ H,H=wr:=⟨wr,rfl⟩;subst co;obtain⟨j,r,cI,rfl,a6,a3,o⟩:=hrel;have a1:=o.kept.box bj (by decide);have x0:H.cell? ⟨w,0,O⟩=S (.int .i64 (k:Int)):=by rw[cell_of_row _ _ _ _ _ _ a1];rfl
          have x1:H.cell? ⟨w,1,O⟩=S (p:υ):=by rw[cell_of_row _ _ _ _ _ _ a1];rfl
          have x2:H.cell? ⟨w,2,O⟩=S (b:υ):=by rw[cell_of_row _ _ _ _ _ _ a1];rfl
          have G:r.p=I:=o.p;have c4:H.cell? ⟨I,4,O⟩=S (.slice (S ⟨g,0,O⟩) k z):=by have:=o.rim.cells.2.2.2.2.1;rw[G,a3] at *;exact this
          have HL:=ah o;have bk:=ah a3;by_cases bS:j<rn
          . have c5:H.ownsRow 0 168 2 (.slice (S ⟨g,0,O⟩) k z) k (bD T):=by have:=o.rim.own;rw[a3,show(⟨(C j).1,⟨(k:Int),p,b⟩,T,[]⟩:IV).t.length=k from al.out] at *;exact this
            have bm:=ah (ag j H g z 0 bS c5)
            have bw:χ (∀ W:ω,β H H W->κ prog 109 #[q.p,(1+(j:Int):Int),.string (eH T (j:Int))] W λe w' =>
                ∃ r2:Qh,e=.returned (.int .i64 (C (j+1)).2)/\Led B W r r2 ⟨(C (j+1)).1,⟨(k:Int),p,b⟩,T,[]⟩ w'/\r2.vt=r.vt):=λW R=>a9 j W r bS (ja4 hB (ja4 a8.size (ja4 o.kept.size R.size))) a6 (o.rim.below R) o.dp
            clear o a3 a1 G c5 x1 x2 a6 a9 ag;have cL:IntKind.i64.wrap (1+(j:Int))=1+(j:Int):=ja9 _ (by omega);generalize eH T (j:Int)=RS at *
            go_wp2_with (go_at_call 107;refine(HR _).mono ?_;rintro e w' ⟨rfl,hw⟩;have ax:=hw.symm;subst ax;clear hw)
            refine bm.mono ?_;rintro e w5 ⟨rfl,b9⟩;have bE:=ah (bw w5 b9);have Z:=ah (HL.trans (Led.below HL.rim b9));clear b9 bw bm HL;go_wp2_with fail;refine bE.mono ?_;rintro e w6 ⟨U,rfl,a0,a4⟩;have E:=ah (Z.trans a0);have aa:χ (U.vt=.slice (S ⟨g,0,O⟩) k z):=a4.trans bk;clear a0 a4 bE Z;by_cases l:(C (j+1)).2=0
            . have HZ:=ah l;rw[l];clear l;go_wp2;go_roundw
              case rel =>
                have fin:∃(j1:Nat) (r1:Qh),j1<=rn/\Value.int .i64 ((j:Int)+1)=.int .i64 j1/\(C j1).2=0/\r1.vt=.slice (S ⟨g,0,O⟩) k z/\Led B K ⟨I,q,.slice (S ⟨g,0,O⟩) k z,.slice O 0 0⟩ r1 ⟨(C j1).1,⟨(k:Int),p,b⟩,T,[]⟩ w6:=⟨j+1,U,by omega,by go_num,HZ,aa,E⟩
                first|exact fin|((repeat apply Exists.intro);exact⟨fin,rfl⟩)
              case measure=>simp[intOf];omega
            . have HE:=aL (j+1) l (by omega);have ck:χ (CL=(C (j+1)).1):=cq (j+1) l (by omega);have bN:χ (F=(C (j+1)).2):=by unfold χ;rw[HF.out,HE,if_neg l]
              have b0:=ah l;have cm:0<(C (j+1)).2:=by rcases be (j+1) with h|h;exact absurd h l;exact h
              generalize (C (j+1)).2=fj at *
              have g5:decide (0<fj)=true:=decide_eq_true cm;clear l HE;go_wp2;go_ret2;refine⟨U,E.dp,λr e=>?_,fM.trans (fM.of_below a8) E.kept,.inr ⟨?_,?_,by rw[ck.out];exact E.rim.dev⟩⟩
              . rw[aa.out] at e;have:g=r:=by simpa [Value.ownBlock] using e
                rw[<- this];exact aR
              . rw[bN.out];exact b0
              . rw[bN.out];rfl
          . have cw:j=rn:=by omega
            subst cw;have b8:=o.rim;rw[b6.out (C j).1 (by rw[ad.out])] at *
            have bh:=ah (bb H r b8 o.dp);have cc:χ (CL=V.d):=cu (by rw[<- ad.out];exact a6);have b3:χ (F=pf):=by unfold χ;rw[HF.out,<- ad.out,if_pos a6]
            have Z:χ (Led B K ⟨I,q,.slice (S ⟨g,0,O⟩) k z,.slice O 0 0⟩ r V0 H):=⟨o.p,o.dp,o.vt,b8,o.kept⟩;clear o b8 a6 a3 G c4 a9 ag HL bb aL ad HF b6 be a1;go_wp2_with (go_at_call 107;refine(HR _).mono ?_;rintro e w' ⟨rfl,hw⟩;have ax:=hw.symm;subst ax;clear hw)
            refine bh.mono ?_;rintro e w6 ⟨U,rfl,a0,a4⟩;have E:=ah (Z.trans a0);have aa:χ (U.vt=.slice (S ⟨g,0,O⟩) k z):=a4.trans bk;have af:=(Z.trans a0).kept.box bj (by decide);have u0:w6.cell? ⟨w,0,O⟩=S (.int .i64 (k:Int)):=by rw[cell_of_row _ _ _ _ _ _ af];rfl
            have u1:w6.cell? ⟨w,1,O⟩=S (p:υ):=by rw[cell_of_row _ _ _ _ _ _ af];rfl
            have u2:w6.cell? ⟨w,2,O⟩=S (b:υ):=by rw[cell_of_row _ _ _ _ _ _ af];rfl
            clear a0 a4 af Z bh x0 x1 x2;go_wp2_with fail;refine(bu _).mono ?_;rintro e w7 ⟨rfl,ap⟩;have bL:=ah (E.trans (Led.below E.rim ap));have bc:=ah (bd w7 U (E.rim.below ap) (ja4 hB (ja4 a8.size (E.trans (Led.below E.rim ap)).kept.size)) E.dp);clear ap E u0 u1 u2 bu bd;go_wp2_with fail;refine bc.mono ?_;rintro e w8 ⟨r8,rfl,ba,bl⟩;have P:=ah (bL.trans ba);have c6:χ (r8.vt=.slice (S ⟨g,0,O⟩) k z):=bl.trans aa;clear ba bl bc bL;by_cases l:pf=0
            . have HZ:=ah l;have cb:χ (V={(({V0.flush with d:=V0.flush.d.put 0 X.data.toList}:IV).flush) with h:=⟨(k:Int),p,b⟩}):=by unfold χ;rw[HV.out,if_pos l]
              have bs:=ah (ar w8 r8 P.rim P.dp);rw[l];clear l HV ar aw;go_wp2_with fail;refine bs.mono ?_;rintro e w9 ⟨r9,rfl,bO,bR⟩;have ac:=ah (P.trans bO);have ci:χ (r9.vt=.slice (S ⟨g,0,O⟩) k z):=bR.trans c6;clear bO bR bs P;go_wp2;go_ret2;refine⟨r9,ac.dp,λr e=>?_,fM.trans (fM.of_below a8) ac.kept,.inl ⟨b3.trans HZ,?_,?_⟩⟩
              . rw[ci.out] at e;have:g=r:=by simpa [Value.ownBlock] using e
                rw[<- this];exact aR
              . rw[show r9.p=I from ac.out.p];rfl
              . rw[cb.out];exact ac.rim
            . have b0:=ah l;have c7:χ (V={V0.flush with d:=V0.flush.d.put 0 X.data.toList}):=by unfold χ;rw[HV.out,if_neg l]
              have Q:pf=7:=by rcases aw with h|h;exact absurd h l;exact h
              have bn:χ (F=7):=b3.trans Q;rw[Q];clear l Q aw ar b3 b0;go_wp2;go_ret2;refine⟨r8,P.dp,λr e=>?_,fM.trans (fM.of_below a8) P.kept,.inr ⟨?_,?_,by rw[cc.out,c7.out];exact P.rim.dev⟩⟩
              . rw[c6.out] at e;have:g=r:=by simpa [Value.ownBlock] using e
                rw[<- this];exact aR
              . rw[bn.out];decide
              . rw[bn.out];rfl
def EY{d h}(a:¬(h.ok=true/\aQ h<=d.fl.length)):crF d h=1:=by
 unfold crF;simp_all
def Oq(d h):0<=crF d h:=by
 unfold crF;split
 .split
  .decide
  .split
   .exact wQ _
   .next b =>
    have:∀ k,0<=(d.dI _ k).2:=λk=>by
     induction k with
     | zero=>exact jby 0
     | succ k a =>
      by_cases e:(d.dI (crT h) k).2=0
      .rw[DV.rW e];exact wQ _
      .rw[DV.wV e _ (by omega)];exact a
    exact this _
 .decide
def Fg{B m h d}(c p b:Int)(w)(hd:bV B w h d)(f:d.fine d.fl.length m)(j:m+20<1000000000)(l:B.top<=w) :
  κ prog 30 #[h.p,.agg #[c,p,b]] w λe w' =>
   ∃ x:Ih,x.h.p=h.p/\w<=x.tb/\aX B x.tb w w'/\((crF d ⟨c,p,b⟩=0/\e=.returned (.tuple #[x.p,.nilIface])/\aI B w' x (crV d ⟨c,p,b⟩)/\HV.ok ⟨c,p,b⟩=true/\aQ ⟨c,p,b⟩<=d.fl.length) \/
    (crF d ⟨c,p,b⟩≠0/\e=.returned (.tuple #[.pointer O,erV (crF d ⟨c,p,b⟩)])/\bV B w' x.h (jB d ⟨c,p,b⟩))):=by
 by_cases a:HV.ok ⟨c,p,b⟩=true/\aQ ⟨c,p,b⟩<=d.fl.length
 .have g:=HV.dS a.1;simp only at *
  obtain⟨i,rfl⟩:∃ i:Nat,c=(i:Int):=⟨c.toNat,by omega⟩;refine(OA i p b w hd f j l a.1 a.2).mono ?_;simp_all
 .refine cEq (Oz c p b w hd a) λw' g=>?_
  rw[EY a];refine⟨⟨0,h,w.heap.size,0,0⟩,rfl,ja1 _,aX.of_below g,.inr ⟨by decide,by rw[eX],?_⟩⟩;unfold jB;rw[if_neg a];exact hd.keep λk f=>g.block k (hd.lt k f).2
def Fh{B m q d}(c p b:Int)(w)(hd:dh B w q d)(f:d.fine d.fl.length m)(j:m+20<1000000000)(l:B.top<=w) :
  κ prog 37 #[q.p,.agg #[c,p,b]] w λe w' =>
   ∃ r:Qh,r.d.p=q.p/\(∀ k,r.vt.ownBlock=S k->w<=k)/\fM B w w'/\((crF d ⟨c,p,b⟩=0/\e=.returned (.tuple #[r.p,(0:Int)])/\aU B w' r (crV d ⟨c,p,b⟩)) \/
    (crF d ⟨c,p,b⟩≠0/\e=.returned (.tuple #[.pointer O,crF d ⟨c,p,b⟩])/\dh B w' r.d (jB d ⟨c,p,b⟩))):=by
 by_cases a:HV.ok ⟨c,p,b⟩=true/\aQ ⟨c,p,b⟩<=d.fl.length
 .have g:=HV.dS a.1;simp only at *
  obtain⟨i,rfl⟩:∃ i:Nat,c=(i:Int):=⟨c.toNat,by omega⟩;refine(OC i p b w hd f j l a.1 a.2).mono ?_;simp_all
 .refine cEq (OB c p b w hd a) λw' g=>?_
  rw[EY a];exact⟨⟨0,q,.slice O 0 0,.slice O 0 0⟩,rfl,λk e=>(by cases e),fM.of_below g,.inr ⟨by decide,rfl,by unfold jB;rw[if_neg a];exact hd.keep λk f=>g.block k (hd.lt k f).2⟩⟩
def Kept.of4{S w w'}(h:S4.Kept S w w'):Kept S w w':=⟨h.os,h.tape,h.output,h.size,h.block⟩
structure jd(w:ω)(jp sp lp bp:Nat)(a:Option Addr)(cap:Nat)(j:JV):Prop where
 blk:w.heap[jp]?=S (.cells #[.pointer (S ⟨sp,6,O⟩),.slice a j.l.length cap,j.kind,j.file,j.stage,lp,bp,j.last] 254 (0,0))
 set:S4.iQ w lp j.n j.x
 bkt:S4.Three 280 w bp j.rate j.burst j.lv
def jd.cells{w b sp c bp cap a j}(h:jd w b sp c bp a cap j) :
  w.cell? ⟨b,0,O⟩=S (.pointer (S ⟨sp,6,O⟩))/\w.cell? ⟨b,1,O⟩=S (.slice a j.l.length cap)/\w.cell? ⟨b,2,O⟩=S (j.kind:υ)/\w.cell? ⟨b,3,O⟩=S (j.file:υ)/\w.cell? ⟨b,4,O⟩=S (j.stage:υ)/\w.cell? ⟨b,5,O⟩=S (c:υ)/\w.cell? ⟨b,6,O⟩=S (bp:υ)/\w.cell? ⟨b,7,O⟩=S (j.last:υ)/\w.frozen? ⟨b,4,O⟩=false/\w.frozen? ⟨b,7,O⟩=false:=by
 refine⟨?_,?_,?_,?_,?_,?_,?_,?_,?_,?_⟩<;>simp[World.cell?,World.frozen?,h.blk]
def jd.ne{w c sp b bp cap a j}(h:jd w c sp b bp a cap j):c≠b/\c≠bp/\b≠bp:=by
 have g  := h.blk;have f:w.heap[b]?=_:=h.set;have d  := h.bkt;refine⟨λe=>?_,λe=>?_,λe=>?_⟩
 .simp_all
 .rw[e,d] at g;simp at *
 .rw[e,d] at f;simp at *
def jd.lts{w b sp c bp cap a j}(h:jd w b sp c bp a cap j):b<w/\c<w/\bp<w:=⟨lt_of_some h.blk,lt_of_some h.set,lt_of_some h.bkt⟩
def jd.keep{w w' b sp c bp cap a j}(h:jd w b sp c bp a cap j)(f:w'.heap[b]?=w.heap[b]?)(d:w'.heap[c]?=w.heap[c]?)(g:w'.heap[bp]?=w.heap[bp]?):jd w' b sp c bp a cap j:=⟨f.trans h.blk,d.trans h.set,g.trans h.bkt⟩
def fpP(b:Nat->Ih)(s:SV)(c a bp:Nat)(k:Nat):Prop:=fpS b s k\/k=c\/k=a\/k=bp
structure PJ(w:ω)(sp jp lp bp:Nat)(a:Option Addr)(cap:Nat)(xs:Nat->Ih)(s:SV)(m C:Nat)(j:JV):Prop where
 shelf:bH w sp xs s m
 job:jd w jp sp lp bp a cap j
 nums:Nums w a j.l
 ap:Apart a (fpP xs s jp lp bp)
 ok:JOk s C j
 cap:j.l.length<=cap
theorem PJ.iH{w sp c f bp cap m C a d s j}(h:PJ w sp c f bp a cap d s m C j){k}(b:fpP d s c f bp k):k<w:=by
 obtain⟨g,i,l⟩:=h.job.lts;rcases b with b|rfl|rfl|rfl
 .exact h.shelf.iH b
 .exact g
 .exact i
 .exact l
def PJ.not{w sp c d bp cap m C a b s j}(h:PJ w sp c d bp a cap b s m C j):¬fpS b s c/\¬fpS b s d/\¬fpS b s bp/\¬fpP b s c d bp sp :=
 ⟨h.shelf.tV h.job.blk (by decide),h.shelf.tV h.job.set (by decide),h.shelf.tV h.job.bkt (by decide),by
  obtain⟨i,f⟩:=h.shelf.is;have g:=h.job.blk;rintro(e|e|e|e)
  .exact h.shelf.tX e
  .simp_all
  .rw[e,h.job.set] at f;simp at *
  .rw[e,h.job.bkt] at f;simp at *⟩
theorem PJ.beside{S l w w' sp d g bp cap m C a f s j}(h:PJ w sp d g bp a cap f s m C j)(b:Moved S w l w')(i:¬S sp)(c:∀ k,fpP f s d g bp k->¬S k)(r:Apart a S):PJ w' sp d g bp a cap f s m C j:=by
 obtain⟨o,q,t⟩:=h.job.lts;exact⟨h.shelf.beside b i (λk n=>c k (.inl n)),h.job.keep (b.block o (c _ (.inr (.inl rfl)))) (b.block q (c _ (.inr (.inr (.inl rfl))))) (b.block t (c _ (.inr (.inr (.inr rfl))))),h.nums.moved b r,h.ap,h.ok,h.cap⟩
def PJ.below{w w' sp b c bp cap m C a d s j}(h:PJ w sp b c bp a cap d s m C j)(f:β w w w'):PJ w' sp b c bp a cap d s m C j :=
 h.beside (Moved.of_below  f) (λe=>e) (λ_ _ e=>e) (λ_ _ _ e=>e)
theorem PJ.more{w sp b c bp cap m m' C a d s j}(h:PJ w sp b c bp a cap d s m C j)(f:m<=m'):PJ w sp b c bp a cap d s m' C j :=
 ⟨h.shelf.more f,h.job,h.nums,h.ap,h.ok,h.cap⟩
def PJ.lG{w w' sp c f bp cap m m' C a l i s z j}(h:PJ w sp c f bp a cap l s m C j)(A:bH w' sp i z m')(d:Moved (fpS l s) w (fpS i z) w')(y:s.alike z) :
  PJ w' sp c f bp a cap i z m' C j/\Moved (fpP l s c f bp) w (fpP i z c f bp) w':=by
 obtain⟨x,B,t,_⟩:=h.not;obtain⟨u,v,D⟩:=h.job.lts
 have q:Moved (fpP l s c f bp) w (fpP i z c f bp) w':=⟨d.kept.mono λk _ b=>.inl b,λk b=>by
  rcases b with b|b
  .rcases d.new k b with n|n
   .exact .inl (.inl n)
   omega
  .exact .inl (.inr b)⟩
 exact⟨⟨A,h.job.keep (d.block u x) (d.block v B) (d.block D t),h.nums.moved d (λg o e r=>h.ap g o e (.inl r)),h.ap.moved h.nums h.ok.ne q,h.ok.over y,h.cap⟩,q⟩
def PJ.own{w w' sp b c bp cap m C a f s j j'}(h:PJ w sp b c bp a cap f s m C j)(d:Kept (λk=>k=b\/k=c\/k=bp) w w')(t:jd w' b sp c bp a cap j')(n:j'.l=j.l)(r:JOk s C j') :
  PJ w' sp b c bp a cap f s m C j'/\Moved (fpP f s b c bp) w (fpP f s b c bp) w':=by
 obtain⟨u,v,o,q⟩:=h.not;have i:Moved (fpP f s b c bp) w _ w':=⟨d.mono λk _ d=>.inr d,λk d=>.inl d⟩;refine⟨⟨h.shelf.keep (i.block (h.shelf.lt) q) (λk g=>d.block k (h.shelf.iH g) (λe=>?_)),t,by rw[n];exact h.nums.moved i h.ap,h.ap,r,by rw[n];exact h.cap⟩,i⟩;rcases e with rfl|rfl|rfl
 .exact u g
 .exact v g
 .exact o g
def jd.pW{w b sp c bp cap a j}(h:jd w b sp c bp a cap j)(st:Int):jd (w.setCell ⟨b,4,O⟩ st) b sp c bp a cap (j.at st):=by
 obtain⟨f,d,g⟩:=h.ne;exact⟨by rw[heap_setCell_same w b 4 _ _ _ h.blk];rfl,(heap_setCell_other w _ c _ (jaM f)).trans h.set,(heap_setCell_other w _ bp _ (jaM d)).trans h.bkt⟩
theorem PJ.pW{w sp b c bp cap m C a d s j}(h:PJ w sp b c bp a cap d s m C j){st:Int}(f:st=1\/st=2\/st=4\/st=5) :
  PJ (w.setCell ⟨b,4,O⟩ st) sp b c bp a cap d s m C (j.at st)/\Moved (fpP d s b c bp) w (fpP d s b c bp) (w.setCell ⟨b,4,O⟩ st) :=
 h.own (Kept.setCell (Kept.refl _ w) (.inl (.inl rfl)) _) (h.job.pW st) rfl (h.ok.at f)
def PJ.rM{w w' sp f d bp cap m C a g s j}(h:PJ w sp f d bp a cap g s m C j){c b}(r:S4.iQ w' d j.n (S4.fK j.n j.x c b))(i:S4.Kept (λk=>k=d) w w') :
  PJ w' sp f d bp a cap g s m C (j.put (S4.fK j.n j.x c b))/\Moved (fpP g s f d bp) w (fpP g s f d bp) w':=by
 obtain⟨q,v,l⟩:=h.job.ne;obtain⟨o,u,t⟩:=h.job.lts;exact h.own ((Kept.of4 i).mono λk _ e=>.inr (.inl e)) ⟨(i.block f o q).trans h.job.blk,r,(i.block bp t (jaM l)).trans h.job.bkt⟩ rfl (h.ok.put c b)
def PJ.tZ{w w' sp c d bp cap m C a f s j}(h:PJ w sp c d bp a cap f s m C j){b}(q:S4.Three 280 w' bp j.rate j.burst b)(g:S4.Kept (λk=>k=bp) w w')(i:0<=b/\b<=j.burst) :
  PJ w' sp c d bp a cap f s m C {j with lv:=b}/\Moved (fpP f s c d bp) w (fpP f s c d bp) w':=by
 obtain⟨t,r,l⟩:=h.job.ne;obtain⟨n,o,u⟩:=h.job.lts;exact h.own ((Kept.of4 g).mono λk _ e=>.inr (.inr e)) ⟨(g.block c n r).trans h.job.blk,(g.block d o l).trans h.job.set,q⟩ rfl {h.ok with lv:=⟨i.1,i.2,h.ok.lv.2.2⟩}
def jd.DR{w b sp d bp cap a j}(h:jd w b sp d bp a cap j)(c:Int):jd (w.setCell ⟨b,7,O⟩ c) b sp d bp a cap {j with last:=c}:=by
 obtain⟨g,f,i⟩:=h.ne;exact⟨by rw[heap_setCell_same w b 7 _ _ _ h.blk];rfl,(heap_setCell_other w _ d _ (jaM g)).trans h.set,(heap_setCell_other w _ bp _ (jaM f)).trans h.bkt⟩
theorem PJ.DR{w sp b d bp cap m C a f s j}(h:PJ w sp b d bp a cap f s m C j){c:Int}(g : -1<=c/\c<64) :
  PJ (w.setCell ⟨b,7,O⟩ c) sp b d bp a cap f s m C {j with last:=c}/\Moved (fpP f s b d bp) w (fpP f s b d bp) (w.setCell ⟨b,7,O⟩ c) :=
 h.own (Kept.setCell (Kept.refl _ w) (.inl (.inl rfl)) _) (h.job.DR c) rfl {h.ok with last:=g}
def dw(sp b c bp:Nat)(a:Option Addr)(cap:Nat)(f:Nat->Ih)(s z:SV)(m C:Nat)(j:JV)(w w':ω):Prop:=∃ d,PJ w' sp b c bp a cap d z m C j/\Moved (fpP f s b c bp) w (fpP d z b c bp) w'
theorem dw.refl{w sp c d bp cap m C a b s j}(h:PJ w sp c d bp a cap b s m C j):dw sp c d bp a cap b s s m C j w w:=⟨b,h,Moved.refl _ _⟩
theorem dw.below{w w' sp c d bp cap m C a b s j}(h:PJ w sp c d bp a cap b s m C j)(f:β w w w'):dw sp c d bp a cap b s s m C j w w':=⟨b,h.below f,Moved.of_below f⟩
def dw.after{w d w' sp b c bp cap m C a g f s i z j}(n:Moved (fpP g s b c bp) w (fpP f i b c bp) d)(h:dw sp b c bp a cap f i z m C j d w'):dw sp b c bp a cap g s z m C j w w':=by
 obtain⟨k,o,l⟩:=h;exact⟨k,o,n.trans l⟩
def rjC(b:Nat)(a:Option Addr)(cap:Nat)(j:JV)(is:Int)(i:Nat):Value :=
 if i=0 then .pointer (S ⟨b,0,O⟩) else if i=1 then .int .i64 j.rt else if i=2 then .int .i64 j.kind else if i=3 then .int .i64 j.file else if i=4 then .int .i64 j.rate else if i=5 then .int .i64 j.burst else if i=6 then .slice a j.l.length cap else if i=7 then .int .i64 (j.deep:Int) else if i=8 then .int .i64 (j.n:Int) else if i<73 then .bool (j.x.testBit (i-9)) else if i=73 then .int .i64 j.last else if i=74 then .int .i64 is else if i=75 then .int .i64 j.rate else if i=76 then .int .i64 j.burst else if i=77 then .int .i64 j.lv else .bool false
structure bT(w:ω)(xp mp:Nat)(a:Option Addr)(cap:Nat)(j:JV)(is:Int):Prop where
 blk:∃ cur:Array υ,w.heap[xp]?=S (.cells cur 198 (0,0))/\cur.size=78/\∀ i,i<78->cur[i]?=S (rjC mp a cap j is i)
def bT.lt{w xp c cap a j is}(h:bT w xp c a cap j is):xp<w:=by
 obtain⟨d,b,_⟩:=h.blk;exact lt_of_some b
def bT.keep{w w' xp b cap a j is}(h:bT w xp b a cap j is)(d:w'.heap[xp]?=w.heap[xp]?):bT w' xp b a cap j is:=by
 obtain⟨c,g,f⟩:=h.blk;exact⟨c,d.trans g,f⟩
def bT.cell{w xp b cap a j is}(h:bT w xp b a cap j is){i}(d:i<78):w.cell? ⟨xp,i,O⟩=S (rjC b a cap j is i):=by
 obtain⟨g,c,k,f⟩:=h.blk;simp[World.cell?,c,f i d]
def bT.thaw{w xp c cap a j is}(h:bT w xp c a cap j is)(i):w.frozen? ⟨xp,i,O⟩=false:=by
 obtain⟨d,b,f,g⟩:=h.blk;simp[World.frozen?,b]
def wR{b cap a j is k}(h:k<64):rjC b a cap j is (9+k)=.bool (j.x.testBit k):=by
 unfold rjC;rw[if_neg (by omega),if_neg (by omega),if_neg (by omega),if_neg (by omega),if_neg (by omega),if_neg (by omega),if_neg (by omega),if_neg (by omega),if_neg (by omega),if_pos (by omega),Nat.add_sub_cancel_left]
def bT.cells{w xp b cap a j is}(h:bT w xp b a cap j is) :
  w.cell? ⟨xp,0,O⟩=S (b:υ)/\w.cell? ⟨xp,2,O⟩=S (j.kind:υ)/\w.cell? ⟨xp,3,O⟩=S (j.file:υ)/\w.cell? ⟨xp,6,O⟩=S (.slice a j.l.length cap)/\w.cell? ⟨xp,7,O⟩=S (.int .i64 (j.deep:Int))/\w.cell? ⟨xp,73,O⟩=S (j.last:υ)/\w.cell? ⟨xp,74,O⟩=S (is:υ)/\w.frozen? ⟨xp,73,O⟩=false/\w.frozen? ⟨xp,74,O⟩=false :=
 ⟨h.cell  (by omega),h.cell  (by omega),h.cell  (by omega),h.cell  (by omega),h.cell  (by omega),h.cell  (by omega),h.cell  (by omega),h.thaw _,h.thaw _⟩
def bT.rY{w xp c cap a j is}(h:bT w xp c a cap j is):S4.vO w xp j.n j.x :=
 ⟨h.cell  (by omega),λk b=>⟨by rw[h.cell  (by omega),wR b],h.thaw _⟩⟩
def bT.bkt{w xp d cap a j is}(h:bT w xp d a cap j is):∃ b,S4.jW 198 b w xp j.rate j.burst j.lv/\∀ i,i<78->b[i]?=S (rjC d a cap j is i):=by
 obtain⟨b,g,f,c⟩:=h.blk;refine⟨b,⟨?_,f,c 75 (by omega),c 76 (by omega)⟩,c⟩
 have e:b.setIfInBounds 77 (.int .i64 j.lv)=b:=by
  apply Array.ext_getElem?;intro i;by_cases e:i=77
  .subst e;rw[jac (by omega),(c 77 (by omega))];rfl
  .rw[ja3 (by omega)]
 simp_all
def bT.ofB{w xp d cap a j is c b}(h:S4.jW 198 c w xp j.rate j.burst b)(l:∀ i,i<78->c[i]?=S (rjC d a cap j is i)):bT w xp d a cap {j with lv:=b} is:=by
 obtain⟨g,f,n,m⟩:=h;refine⟨_,g,by simp[f],λi k=>?_⟩;by_cases e:i=77
 .subst e;rw[jac (by omega)];rfl
 .rw[ja3 (by omega),l i k];unfold rjC;simp only[if_neg e]
def bT.set{w xp b cap a j j' is d}(h:bT w xp b a cap j is)(i)(o:i<78)(v)(l:∀ k,k<78->rjC b a cap j' d k=if k=i then v else rjC b a cap j is k):bT (w.setCell ⟨xp,i,O⟩ v) xp b a cap j' d:=by
 obtain⟨n,m,f,g⟩:=h.blk;refine⟨_,heap_setCell_same w xp i _ _ _ m,by simp[f],λk c=>?_⟩;rw[l k c];by_cases e:k=i
 .simp_all
 .rw[if_neg e,ja3 (by omega)];exact g k c
def bT.o8{w xp b cap a j is}(h:bT w xp b a cap j is)(c:Int):bT (w.setCell ⟨xp,74,O⟩ c) xp b a cap j c :=
 h.set 74 (by omega) _ λk d=>by
  by_cases e:k=74
  .subst e;rfl
  .unfold rjC;simp only[if_neg e]
def bT.staged{w xp b cap a j is}(h:bT w xp b a cap j is)(st):bT w xp b a cap (j.at st) is:=⟨h.blk⟩
def bT.DT{w xp b cap a j is}(h:bT w xp b a cap j is)(c:Int):bT (w.setCell ⟨xp,73,O⟩ c) xp b a cap {j with last:=c} is :=
 h.set 73 (by omega) _ λk d=>by
  by_cases e:k=73
  .subst e;rfl
  .unfold rjC;simp only[if_neg e]
def bT.zK{w xp c cap a j is}(h:bT w xp c a cap j is){i y b}(l:i<64)(f:∀ k,k<64->y.testBit k=if k=i then b else j.x.testBit k):bT (w.setCell ⟨xp,9+i,O⟩ b) xp c a cap (j.put y) is :=
 h.set _ (by omega) _ λk m=>by
  by_cases n:9<=k/\k<73
  .obtain⟨q,rfl⟩:∃ q,k=9+q:=⟨k-9,by omega⟩;rw[wR (by omega),wR (by omega)];show Value.bool (y.testBit q)=_
   rw[f q (by omega)];simp_all
  .rw[if_neg (by omega)];unfold rjC;by_cases g:k<73
   .have d:k<9:=by omega
    match k,d with
    | 0,_=>rfl
    | 1,_=>rfl
    | 2,_=>rfl
    | 3,_=>rfl
    | 4,_=>rfl
    | 5,_=>rfl
    | 6,_=>rfl
    | 7,_=>rfl
    | 8,_=>rfl
   .simp only[if_neg g];rfl
def bT.rM{w xp f cap a j is}(h:bT w xp f a cap j is)(o:j.n<=64)(c b):bT (if S4.gI j.n j.x c b=true then w.setCell ⟨xp,9+c.toNat,O⟩ b else w) xp f a cap (j.put (S4.fK j.n j.x c b)) is:=by
 by_cases d:S4.gI j.n j.x c b=true
 .rw[if_pos d];have g:S4.iD j.n c=true:=by unfold S4.gI at *;simp_all
  obtain⟨k,rfl,l⟩:=S4.CO g;refine h.zK (i:=k) (by omega) λq m=>?_
  rw[S4.yZ];by_cases e:q=k
  .simp_all
  .rw[if_neg e,if_neg (λq=>e (by omega))]
 .rw[if_neg d];have e:S4.fK j.n j.x c b=j.x:=by unfold S4.fK;rw[if_neg d]
  rw[e];exact h
def fpR(qs:Nat->Qh)(s:SV)(xp:Nat)(k:Nat):Prop:=fpQ qs s k\/k=xp
structure fC(qs:Nat->Qh)(s:SV)(xp:Nat)(w:ω)(qs':Nat->Qh)(z:SV)(w':ω):Prop extends Moved (fpR qs s xp) w (fpR qs' z xp) w' where
 dp:∀ i,i<5->s i≠O->z i≠O/\(qs' i).d.p=(qs i).d.p
theorem fC.of_below{qs s xp}{w w':ω}(h:β w w w'):fC qs s xp w qs s w':=⟨Moved.of_below h,λ_ _ h=>⟨h,rfl⟩⟩
theorem fC.refl(qs s xp w):fC qs s xp w qs s w:=⟨Moved.refl _ _,λ_ _ h=>⟨h,rfl⟩⟩
theorem fC.trans{g f d s j l xp w c m}(a:fC g s xp w f j c)(b:fC f j xp c d l m):fC g s xp w d l m :=
 ⟨a.toMoved.trans b.toMoved,λi k h=>by
  obtain⟨n,o⟩:=a.dp i k h;obtain⟨q,r⟩:=b.dp i k n
  simp_all⟩
structure RJ(w:ω)(mp xp:Nat)(a:Option Addr)(cap:Nat)(qs:Nat->Qh)(s:SV)(m C:Nat)(j:JV)(is:Int):Prop where
 shelf:bJ w mp qs s m
 job:bT w xp mp a cap j is
 nums:Nums w a j.l
 ap:Apart a (fpR qs s xp)
 ok:JOk s C j
 cap:j.l.length<=cap
theorem RJ.iH{w c xp cap m C a qs s j is}(h:RJ w c xp a cap qs s m C j is){k}(b:fpR qs s xp k):k<w:=by
 rcases b with b|rfl
 .exact h.shelf.iH b
 .exact h.job.lt
def RJ.not{w b xp cap m C a qs s j is}(h:RJ w b xp a cap qs s m C j is):¬fpQ qs s xp/\¬fpR qs s xp b:=by
 obtain⟨d,c,_⟩:=h.job.blk;refine⟨h.shelf.tV c (by decide),?_⟩;have f:=h.shelf.blk;rintro(e|e)
 .exact h.shelf.tX e
 .simp_all
theorem RJ.beside{S g w w' c xp cap m C a qs s j is}(h:RJ w c xp a cap qs s m C j is)(b:Moved S w g w')(f:¬S c)(d:∀ k,fpR qs s xp k->¬S k)(l:Apart a S):RJ w' c xp a cap qs s m C j is :=
 ⟨h.shelf.beside b f (λk i=>d k (.inl i)),h.job.keep (b.block h.job.lt (d _ (.inr rfl))),h.nums.moved b l,h.ap,h.ok,h.cap⟩
def RJ.below{w w' b xp cap m C a qs s j is}(h:RJ w b xp a cap qs s m C j is)(c:β w w w'):RJ w' b xp a cap qs s m C j is :=
 h.beside (Moved.of_below  c) (λe=>e) (λ_ _ e=>e) (λ_ _ _ e=>e)
theorem RJ.more{w b xp cap m m' C a qs s j is}(h:RJ w b xp a cap qs s m C j is)(c:m<=m'):RJ w b xp a cap qs s m' C j is :=
 ⟨h.shelf.more c,h.job,h.nums,h.ap,h.ok,h.cap⟩
def RJ.lG{w w' d xp cap m m' C a qs qs' s z j is}(h:RJ w d xp a cap qs s m C j is)(n:bJ w' d qs' z m')(c:jX qs s w qs' z w')(q:s.alike z) :
  RJ w' d xp a cap qs' z m' C j is/\fC qs s xp w qs' z w':=by
 have i:fC qs s xp w qs' z w':=⟨⟨c.kept.mono λk _ b=>.inl b,λk b=>by
  rcases b with b|b
  .rcases c.new k b with f|f
   .exact .inl (.inl f)
   omega
  .exact .inl (.inr b)⟩,c.dp⟩
 exact⟨⟨n,h.job.keep (c.block h.job.lt h.not.1),h.nums.moved c.toMoved (λg o e l=>h.ap g o e (.inl l)),h.ap.moved h.nums h.ok.ne i.toMoved,h.ok.over q,h.cap⟩,i⟩
def RJ.own{w w' d xp cap m C a qs s j j' is g}(h:RJ w d xp a cap qs s m C j is)(b:Kept (λk=>k=xp) w w')(o:bT w' xp d a cap j' g)(f:j'.l=j.l)(n:JOk s C j') :
  RJ w' d xp a cap qs s m C j' g/\fC qs s xp w qs s w':=by
 have c:fC qs s xp w qs s w':=⟨⟨b.mono λk _ b=>.inr b,λk b=>.inl b⟩,λ_ _ h=>⟨h,rfl⟩⟩;exact⟨⟨h.shelf.keep (c.block (lt_of_some h.shelf.blk) h.not.2) (λk i=>b.block k (h.shelf.iH i) (λe=>h.not.1 (by simp_all))),o,by rw[f];exact h.nums.moved c.toMoved h.ap,h.ap,n,by rw[f];exact h.cap⟩,c⟩
theorem RJ.o8{w c xp cap m C a qs s j is}(h:RJ w c xp a cap qs s m C j is)(b:Int) :
  RJ (w.setCell ⟨xp,74,O⟩ b) c xp a cap qs s m C j b/\fC qs s xp w qs s (w.setCell ⟨xp,74,O⟩ b) :=
 h.own (Kept.setCell (S:=λk=>k=xp) (Kept.refl _ w)  (.inl rfl) _) (h.job.o8 b) rfl h.ok
theorem RJ.DT{w b xp cap m C a qs s j is}(h:RJ w b xp a cap qs s m C j is){c:Int}(d : -1<=c/\c<64) :
  RJ (w.setCell ⟨xp,73,O⟩ c) b xp a cap qs s m C {j with last:=c} is/\fC qs s xp w qs s (w.setCell ⟨xp,73,O⟩ c) :=
 h.own (Kept.setCell (S:=λk=>k=xp) (Kept.refl _ w)  (.inl rfl) _) (h.job.DT c) rfl {h.ok with last:=d}
theorem RJ.staged{w b xp cap m C a qs s j is}(h:RJ w b xp a cap qs s m C j is){st}(c:st=1\/st=2\/st=4\/st=5):RJ w b xp a cap qs s m C (j.at st) is :=
 ⟨h.shelf,h.job.staged st,h.nums,h.ap,h.ok.at c,h.cap⟩
theorem RJ.rM{w d xp cap m C a qs s j is}(h:RJ w d xp a cap qs s m C j is)(c b) :
  RJ (if S4.gI j.n j.x c b=true then w.setCell ⟨xp,9+c.toNat,O⟩ b else w) d xp a cap qs s m C (j.put (S4.fK j.n j.x c b)) is/\fC qs s xp w qs s (if S4.gI j.n j.x c b=true then w.setCell ⟨xp,9+c.toNat,O⟩ b else w) :=
 h.own (by split;exact Kept.setCell (S:=λk=>k=xp) (Kept.refl _ w)  (.inl rfl) _;exact Kept.refl _ w) (h.job.rM (by have:=h.ok.n;have:=h.ok.c40;omega) c b) rfl (h.ok.put c b)
def RJ.tZ{w w' c xp cap m C a qs s j is}(h:RJ w c xp a cap qs s m C j is){d b}(n:∀ i,i<78->d[i]?=S (rjC c a cap j is i))(l:S4.jW 198 d w' xp j.rate j.burst b)(g:S4.Kept (λk=>k=xp) w w')(f:0<=b/\b<=j.burst) :
  RJ w' c xp a cap qs s m C {j with lv:=b} is/\fC qs s xp w qs s w' :=
 h.own (Kept.of4 g) (bT.ofB l n) rfl {h.ok with lv:=⟨f.1,f.2,h.ok.lv.2.2⟩}
def eu(b xp:Nat)(a:Option Addr)(cap:Nat)(qs:Nat->Qh)(s z:SV)(m C:Nat)(j:JV)(w w':ω):Prop:=∃ qs',RJ w' b xp a cap qs' z m C j j.state/\fC qs s xp w qs' z w'
theorem eu.below{w w' c xp cap m C a qs s j}(h:RJ w c xp a cap qs s m C j j.state)(b:β w w w'):eu c xp a cap qs s s m C j w w':=⟨qs,h.below b,fC.of_below b⟩
structure JHd(w:ω)(jp sp:Nat)(a:Option Addr)(cap:Nat)(j:JV):Prop where
 c0:w.cell? ⟨jp,0,O⟩=S (.pointer (S ⟨sp,6,O⟩))
 c1:w.cell? ⟨jp,1,O⟩=S (.slice a j.l.length cap)
 c2:w.cell? ⟨jp,2,O⟩=S (j.kind:υ)
 c3:w.cell? ⟨jp,3,O⟩=S (j.file:υ)
 cap:j.l.length<=cap
def jd.hd{w b sp c bp cap a j}(h:jd w b sp c bp a cap j)(f:j.l.length<=cap):JHd w b sp a cap j:=by
 obtain⟨d,c1,c2,c3,_⟩:=h.cells;exact⟨d,c1,c2,c3,f⟩
def JHd.below{w w' b sp cap a j}(h:JHd w b sp a cap j)(d:β w w w'):JHd w' b sp a cap j:=by
 have c:=ja2 _ _ h.c0;exact⟨(d.cell  c).trans h.c0,(d.cell (p:=⟨b,1,O⟩) c).trans h.c1,(d.cell (p:=⟨b,2,O⟩) c).trans h.c2,(d.cell (p:=⟨b,3,O⟩) c).trans h.c3,h.cap⟩
theorem Nums.take{w a l}(h:Nums w a l)(d):Nums w a (l.take d):=λk f=>by
 have c:k<d/\k<l.length:=by rw[jay] at *;omega
 obtain⟨g,o,b,i⟩:=h k c.2;refine⟨g,o,b,?_⟩;simp_all
def Rq{g o n cap}(l)(x:Int)(w)(h:Nums w (S ⟨g,o,O⟩) l)(b:l.length=n)(f:n<=100) :
  κ prog 266 #[.slice (S ⟨g,o,O⟩) n cap,x] w λe w'=>e=.returned (Lib.idxOf l x)/\w'=w:=by
 subst b
 have:=Tryz.slices_Index_int g o _ cap l x w (ja1 _) (by omega) (λj a=>by
  obtain⟨k,d,c,i⟩:=h j a
  simp_all)
 simp_all
def AL{g o n cap}(l)(x:Int)(w)(h:Nums w (S ⟨g,o,O⟩) l)(b:l.length=n)(f:n<=100) :
  κ prog 236 #[.slice (S ⟨g,o,O⟩) n cap,x] w λe w'=>e=.returned (.bool (l.contains x))/\w'=w:=by
 subst b
 have:=Tryz.slices_Contains_int g o _ cap l x w (ja1 _) (by omega) (λj a=>by
  obtain⟨k,d,c,i⟩:=h j a
  simp_all)
 simp_all
def MP{b sp cap C a s j}(w)(hd:JHd w b sp a cap j)(q:Nums w a j.l)(ok:JOk s C j)(v:j.kind≠1) :
  κ prog 243 #[b] w λe w'=>e=.returned (.slice a j.above.length cap)/\β w w w':=by
 obtain⟨B,c1,c2,c3,z⟩:=hd;obtain⟨g,o,rfl,_⟩:=q 0 (by have:=ok.ne;exact List.length_pos_iff.2 this);have m:χ (∀ W:ω,β w w W->κ prog 266 #[.slice _ j.l.length cap,j.file] W λe w'=>e=.returned _/\w'=W):=λW u=>Rq j.l j.file W (q.below u) rfl (by have:=ok.len;omega)
 have y:=ok.len;have t:j.above.length=j.deep:=by unfold JV.above;rw[jay];have:=ok.deep;omega
 have r:=ok.idx v;rw[t];have c:χ (β w w w.drew):=(ja0 _ _).drew;have k  := c1;have f  := c3;generalize j.file=fl at *
 generalize Lib.idxOf j.l fl=D at *
 generalize j.l.length=n at *
 generalize j.deep=dp at *
 rcases r with⟨d,i⟩|⟨d,i⟩
 .subst d;have x:(0:Int)<=(dp:Int):=by omega
  have A:dp<=cap:=by omega
  go_enter func243,ntmps243;go_wp2
  go_region_held3 (λW=>W.cell? ⟨b,1,O⟩=S (.slice (S ⟨g,o,O⟩) n cap)/\W.cell? ⟨b,3,O⟩=S (fl:υ))
   (first|(exact⟨k,f⟩)|assumption)
   (first
     | (go_at_call 266;refine(m _ c).mono ?_;rintro e w' ⟨rfl,rfl⟩))
  go_wp2;go_ret;exact⟨rfl,c⟩
 .subst d;subst i;go_enter func243,ntmps243;go_wp2
  go_region_held3 (λW=>W.cell? ⟨b,1,O⟩=S (.slice (S ⟨g,o,O⟩) dp cap)/\W.cell? ⟨b,3,O⟩=S (fl:υ))
   (first|(exact⟨k,f⟩)|assumption)
   (first
     | (go_at_call 266;refine(m _ c).mono ?_;rintro e w' ⟨rfl,rfl⟩))
  go_wp2;go_ret;exact⟨rfl,c⟩
def LD{g sp cap C m a E s j}(c:Int)(w)(hd:JHd w g sp a cap j)(F:bH w sp E s m)(v:Nums w a j.l)(ok:JOk s C j) :
  κ prog 202 #[g,c] w λe w'=>e=.returned (.bool (j.jr s c))/\β w w w':=by
 have t:=ah λ(y:j.kind≠1) W (d:β w w W)=>MP W (hd.below d) (v.below d) ok y
 have r:χ (∀ W:ω,β w w W->κ prog 225 #[.pointer (S ⟨sp,6,O⟩),.slice a j.above.length cap,c] W λe w'=>e=.returned (s.found j.above c)/\β W W w'):=λW d=>Gz j.above c W (F.below d) ((v.below d).take _) (by
  show(j.l.take j.deep).length<=100
  rw[jay];have:=ok.len;omega)
 have A:=ok.kind;obtain⟨q,c1,c2,c3,I⟩:=hd;have z:=ja2 _ _ q;have u  := q;have f:χ (β w w w.drew):=(ja0 _ _).drew;have o:=ah λW (d:β w w W)=>(d.cell (p:=⟨g,0,O⟩) z).trans q
 unfold JV.jr;generalize j.above.length=J at *
 generalize s.found j.above c=K at *
 generalize j.kind=kd at *
 rcases A with rfl|rfl|rfl
 .go_enter func202,ntmps202;go_wp2;go_ret;exact⟨rfl,ja0 _ _⟩
 .have B:=ah (t (by decide));go_enter func202,ntmps202;go_wp2
  go_region_held3 (λW=>W.cell? ⟨g,0,O⟩=S (.pointer (S ⟨sp,6,O⟩)))
   (first|(exact u)|assumption)
   (first
     | (go_at_call 243;refine cEq (B _ f) λx n=>?_;have b:=ah (f.trans (n.mono f.size));have G:=o _ b;clear n)
     | (go_at_call 225;refine cEq (r _ b) λH k=>?_;have i:=ah (b.trans (k.mono b.size));have D:=o _ i;clear k))
  go_wp2;go_ret;exact⟨rfl,i⟩
 .go_enter func202,ntmps202;go_wp2
  go_region_held3 (λW=>W.cell? ⟨g,0,O⟩=S (.pointer (S ⟨sp,6,O⟩)))
   (first|(exact u)|assumption)
   (first
     | (go_at_call 243;refine cEq ((t (by decide)) _ f) λx n=>?_;have b:=ah (f.trans (n.mono f.size));have G:=o _ b;clear n)
     | (go_at_call 225;refine cEq (r _ b) λH k=>?_;have i:=ah (b.trans (k.mono b.size));have D:=o _ i;clear k))
  go_wp2;go_ret;exact⟨rfl,i⟩
def BQ{b sp c bp cap a j}(w)(h:jd w b sp c bp a cap j) :
  κ prog 139 #[b] w λe w'=>e=.returned (.bool (decide (j.stage<4)))/\w'=w:=by
 obtain⟨i,c1,c2,c3,c4,d,l,k,g,f⟩:=h.cells;go_enter func139,ntmps139;go_wp2;go_ret;simp_all
def KT{b sp i bp cap a j}(w)(h:jd w b sp i bp a cap j)(g:S4.jY j.n j.x) :
  κ prog 194 #[b] w λe w'=>e=.returned j.state/\w'=w:=by
 obtain⟨q,c1,c2,c3,c4,l,s,r,o,m⟩:=h.cells;have c:=ah (S4.JZ w h.set g);unfold JV.state;generalize S4.cnt j.x 64=k at *
 generalize j.stage=st at *
 by_cases d:st=1
 .subst d;by_cases f:k=0
  .subst f;rw[if_pos _];go_enter func194,ntmps194;go_wp2_with fail;refine cSt c ?_;go_wp2;go_ret;exact⟨rfl,rfl⟩
  .rw[if_neg _];go_enter func194,ntmps194;go_wp2_with fail;refine cSt c ?_;go_wp2;go_ret;exact⟨rfl,rfl⟩
 .rw[if_neg (λe=>d e.1)];go_enter func194,ntmps194;go_wp2;go_ret;exact⟨rfl,rfl⟩
def zT{b sp i bp cap a j}(w)(h:jd w b sp i bp a cap j)(l:S4.jY j.n j.x) :
  κ prog 129 #[b] w λe w'=>e=.returned (.agg #[j.kind,j.file,j.state,.int .i64 (S4.cnt j.x 64:Nat)])/\β w w w':=by
 have s:χ (∀ W:ω,β w w W->κ prog 194 #[b] W λe w'=>e=.returned j.state/\w'=W):=λW c=>by
  obtain⟨q,r,t⟩:=h.lts;exact KT W (h.keep (c.block _ q) (c.block _ r) (c.block _ t)) l
 have m:=ah λW (c:β w w W)=>S4.JZ W (h.set.below c) l
 obtain⟨A,c1,c2,c3,c4,k,z,y,v,u⟩:=h.cells;have d:=h.lts.1;generalize S4.cnt j.x 64=g at *
 generalize j.state=st at *
 generalize j.kind=kd at *
 generalize j.file=fl at *
 have f:χ (β w w (w.alloc (.cells #[(0:Int),(0:Int),(0:Int),(0:Int)] 120)).drew):=((ja0 _ _).alloc (ja1 _) _).drew
 have o:χ ((w.alloc (.cells #[kd,fl,st,(g:Int)] 120)).drew.cell? ⟨b,2,O⟩=S (kd:υ)/\(w.alloc (.cells #[kd,fl,st,(g:Int)] 120)).drew.cell? ⟨b,3,O⟩=S (fl:υ)/\(w.alloc (.cells #[kd,fl,st,(g:Int)] 120)).drew.cell? ⟨b,5,O⟩=S (i:υ)):=by
  have c:β w w (w.alloc (.cells #[kd,fl,st,(g:Int)] 120)).drew:=((ja0 _ _).alloc (ja1 _) _).drew;exact⟨(c.cell (p:=⟨b,2,O⟩) d).trans c2,(c.cell (p:=⟨b,3,O⟩) d).trans c3,(c.cell (p:=⟨b,5,O⟩) d).trans k⟩
 go_enter func129,ntmps129;go_wp2_with fail
 go_region_held3 (λW=>W.cell? ⟨b,2,O⟩=S (kd:υ)/\W.cell? ⟨b,3,O⟩=S (fl:υ)/\W.cell? ⟨b,5,O⟩=S (i:υ))
  (first|(exact⟨((f.cell  d).trans c2),((f.cell  d).trans c3),((f.cell  d).trans k)⟩)|(exact o)|assumption)
  (first
    | (go_at_call 194;refine(s _ f).mono ?_;rintro e w' ⟨rfl,rfl⟩)
    | (go_at_call 195;refine(m _ f).mono ?_;rintro e w' ⟨rfl,rfl⟩))
 go_wp2;exact bodyPost_ret  (by simp[results,results129,go_sem]) rfl ⟨rfl,(by first|exact((ja0 _ _).alloc (ja1 _) _).drew|exact((ja0 _ _).alloc _ _))⟩
