/- TopAlone: its rounds. -/
import Derived.Test.YtonhoahnieoebabGreatDoorQATopAlone0
set_option maxHeartbeats 4000000
set_option maxRecDepth 100000
namespace Go.Proofs.YtonhoahnieoebabGreatDoor
open Go.RowKit Go.Maps
attribute [local go_sem ↓] Go.wp_at_zero Go.wp_at_succ
theorem Ib(c p:Int)(la:Option Addr)(len cap:Nat)(xs:List aN)(w:World)(hA:lZ w la len xs)(hlen:len≤maxLen)(hB:vK xs)(hl:lU xs 50=true)(hM:um c p=true)(hT:S4.Tab w) :
  Calls Tryz.prog 9 #[.int .i64 c,.int .i64 p,.slice la len cap] w fun e w'=>e=.returned (.bool true)∧Below w.heap.size w w':=by
 have hM':1≤c∧c≤32∧0≤p∧p≤40:=of_decide_eq_true hM;have hC:1≤c.toNat∧c.toNat≤32:=by omega
 have HLA:Hid (Calls Tryz.prog 13 #[.slice la len cap,.int .i64 50] w fun e w'=>e=.returned (.bool true)∧w'=w):=by
  have:=zB la len cap 50 xs w hA hlen (by omega)
  rw[hl] at this;exact this
 have hli:len≤50∧∀ k,k<len→(xs.getD k aN.none_).s.size≤700:=by
  unfold lU at hl;simp only[decide_eq_true_eq] at hl;have:=hA.1
  exact⟨by omega,fun k hk=>(hl.2 k (by omega)).1⟩
 have h50:len≤50:=hli.1;have h0:0<w.heap.size:=World.block_lt_of_cell? w _ (hT 0 (by decide))
 have HMD:Hid (Calls Tryz.prog 41 #[.int .i64 c,.int .i64 p] w fun e w'=>∃(yp gp:Nat),e=.returned (.tuple #[.pointer (some ⟨yp,0,none⟩),.pointer (some ⟨gp,0,none⟩),.bool true])∧∃ Y y g,LSt w.heap.size w yp c.toNat 0 w' Y y g) :=
  (N8 c p w hM).mono fun e w' ⟨yp,gp,Y,G,he,hy⟩=>⟨yp,gp,he,Y,_,_,hy.bW,hy.jobL,hy.bY,hy.bel,Nat.le_refl _,Kno.made (wY c p hM').1 (wY c p hM').2⟩
 have HIN:Hid (∀ k,k<len→∀ W:World,Below w.heap.size w W→∃ blk off,la=some ⟨blk,off,none⟩∧W.rangeAt blk (off+k*7) (xs.getD k aN.none_).cells∧sQ (xs.getD k aN.none_)):=fun k hk W hb=>by
  obtain⟨blk,off,e,hr,hok⟩:=(hA.below hb).2 k hk;exact⟨blk,off,e,hr,hok.a1,hli.2 k hk,hB k (by have:=hA.1;omega)⟩
 have HTT:Hid (∀ W:World,Below w.heap.size w W→S4.Tab W):=fun W hb=>hT.below hb h0
 have hk4:∃ n4:Nat,n4=4*c.toNat∧IntKind.i64.wrap (4*c)=(n4:Int):=⟨_,rfl,by rw[IntWalk.i64_in _ (by omega)];omega⟩
 obtain⟨n4,hn4,k4⟩:=hk4;generalize hCn:c.toNat=C at HMD hC hn4;have HC4:=ah hn4;clear hA hlen hB hl hM hT hli hM' hCn hn4;go_enter Tryz.func9,Tryz.ntmps9
 go_wp2_with fail
 refine HLA.out.mono ?_;rintro e w' ⟨rfl,hw⟩;have hw':=hw.symm;subst hw';clear hw HLA;go_wp2_with fail
 refine HMD.out.mono ?_;rintro e w1 ⟨yp,gp,rfl,hS⟩;have HS:=ah hS;clear hS HMD;go_wp2
 go_loopw [10] (fun i wr=>∃ q:Nat,q≤len∧i=.int .i64 (q:Int)∧∃ Y y g,LSt w.heap.size w yp C q wr Y y g) (fun i _=>len-(intOf i).toNat)
 case atStart=>exact⟨0,Nat.zero_le _,rfl,HS.out⟩
 case round =>
  clear HS;obtain⟨q,hq,rfl,Y,v,gg,hy⟩:=hrel;have HYK:=ah hy;have HBK:=ah hy.bel;clear hy;by_cases hlt:q<len
  ·obtain⟨blk,off,hla,hrg,hin⟩:=HIN.out q hlt _ HBK.out
   generalize xs.getD q aN.none_=y at hrg hin;subst hla;have HRG:=ah hrg;have HAI:=ah hin;have c0:wr.cell? ⟨blk,off+q*7,none⟩=some (.string y.kind):=hrg 0 _ rfl;have HI2:Hid ((Tryz.prog.info? 43).map (·.size)=some y.cells.length):=Ru
   clear hrg hin HIN;unfold aN.cells at HRG HI2;have j0:(0:Int)≤(q:Int):=by omega
   have j1:(q:Int)<(len:Int):=by omega
   by_cases e4:y.kind.toList=[99,114,97,115,104]
   ·have g4:(y.kind.toList==[99,114,97,115,104])=true:=beq_iff_eq.2 e4
    have HNX:=ah (HYK.out.next.later (W':=wr.alloc (eu y)) ((Below.refl _ _).alloc (Nat.le_refl _) _));unfold eu at HNX;clear e4 HAI HYK;go_wp2_with (refine wpList_load_mid (by rfl) 43 (.tmp 56) (by rfl) blk (off+q*7) (by rfl) _ _ HRG.out Tryz.underlying43 rfl HI2.out ?_)
    go_roundw
    case rel =>
     have fin:∃ q1:Nat,q1≤len∧Value.int .i64 ((q:Int)+1)=.int .i64 (q1:Int)∧∃ Y y g,LSt w.heap.size w yp C q1 _ Y y g:=⟨q+1,by omega,by go_num,_,_,_,HNX.out⟩
     first|exact fin|((repeat apply Exists.intro);exact⟨fin,rfl⟩)
    case measure=>simp[intOf];omega
   ·have g4:(y.kind.toList==[99,114,97,115,104])=false:=beq_eq_false_iff_ne.2 e4
    have HBX:Hid (Below wr.heap.size wr (wr.alloc (eu y))):=(Below.refl _ _).alloc (Nat.le_refl _) _;have HCH:=ah (HYK.out.chain _ HBX.out);obtain⟨k0,f0,s0,l0,hst0,hstat⟩:=HYK.out.status;have HST:=ah hstat;have HS0:=ah hst0;unfold eu at HCH HBX;clear e4 hstat hst0;go_wp2_with (refine wpList_load_mid (by rfl) 43 (.tmp 56) (by rfl) blk (off+q*7) (by rfl) _ _ HRG.out Tryz.underlying43 rfl HI2.out ?_)
    refine HCH.out.mono ?_;rintro e w2 ⟨ga,oa,ca,rfl,hN,hga,hga2,hca,hb2⟩;have HB2:=ah (HBX.out.trans (hb2.mono HBX.out.size));clear HCH;go_wp2_with fail
    refine(HST.out _ HB2.out).mono ?_;rintro e w3 ⟨rfl,hb3⟩;go_upto_region 13 with fail
    generalize hW4:w3.alloc (.cells #[.int .i64 k0,.int .i64 f0,.int .i64 s0,.int .i64 l0] 56)=W4;have hb4:Below w3.heap.size w3 W4:=by rw[← hW4];exact(Below.refl _ _).alloc (Nat.le_refl _) _
    have hj4:W4.heap[w3.heap.size]?=some (.cells #[.int .i64 k0,.int .i64 f0,.int .i64 s0,.int .i64 l0] 56):=by rw[← hW4];exact heap_alloc_new w3 _
    have hbA:Below w2.heap.size w2 W4:=hb3.trans (hb4.mono hb3.size);have HB4:Hid (Below wr.heap.size wr W4):=HB2.out.trans (hbA.mono HB2.out.size);have HN4:Hid (Nums W4 (some ⟨ga,oa,none⟩) v.l∧wr.heap.size≤ga∧ga<W4.heap.size):=⟨hN.below hbA,Nat.le_trans HBX.out.size hga,Nat.lt_of_lt_of_le hga2 hbA.size⟩
    have hxA:W4.heap[wr.heap.size]?=some (.cells #[.string y.kind,.int .i64 y.a,.int .i64 y.b,.int .i64 y.c,.int .i64 y.d,.string y.s,.slice y.ka y.kl y.kc] 43) :=
     ((hb2.trans (hbA.mono hb2.size)).block _ (by simp)).trans (heap_alloc_new wr _)
    have HJ4:Hid (W4.heap[w3.heap.size]?=some (.cells #[.int .i64 k0,.int .i64 f0,.int .i64 s0,.int .i64 l0] 56)∧wr.heap.size≤w3.heap.size∧w3.heap.size<W4.heap.size):=⟨hj4,Nat.le_trans HB2.out.size hb3.size,lt_of_some hj4⟩
    have HBC:Hid (∀ W:World,(∀ b,wr.heap.size≤b→b<W4.heap.size→W.heap[b]?=W4.heap[b]?)→W.rangeAt wr.heap.size 0 [.string y.kind,.int .i64 y.a,.int .i64 y.b,.int .i64 y.c,.int .i64 y.d,.string y.s,.slice y.ka y.kl y.kc]):=fun W hW=>by
     have e:=(hW _ (Nat.le_refl _) (lt_of_some hxA)).trans hxA;intro k u hu;rw[Nat.zero_add,cell_of_row _ _ _ _ _ _ e,List.getElem?_toArray];exact hu
    have HS4:=ah (HBC.out W4.drew fun _ _ _=>rfl)
    have HFR:Hid (∀ W:World,Calls Tryz.prog 49 #[.int .i64 (n4:Int)] W fun e w'=>∃ gp:Nat,e=.returned (.pointer (some ⟨gp,0,none⟩))∧Fr W gp C w'):=fun W=>by rw[HC4.out];exact LU C hC.2 W
    have HDD:Hid (∀(gp2:Nat) (w5:World),Fr W4.drew gp2 C w5→Calls Tryz.prog 42 #[.pointer (some ⟨yp,0,none⟩),.pointer (some ⟨gp2,0,none⟩),.agg #[.string y.kind,.int .i64 y.a,.int .i64 y.b,.int .i64 y.c,.int .i64 y.d,.string y.s,.slice y.ka y.kl y.kc]] w5 fun e w'=>e=.returned (.tuple #[]) ∧
      ∃ Y' y' g',LSt w.heap.size w yp C (q+1) w' Y' y' g'∧gu (4*C) v gg y y' g'∧(∀ b,wr.heap.size≤b→b<W4.heap.size→w'.heap[b]?=W4.heap[b]?)∧W4.heap.size≤w'.heap.size):=fun gp2 w5 hf =>
     HYK.out.did hC HB4.out.drew hf (by omega) y HAI.out (HTT.out w5 (by
      obtain⟨G,_,_,f3⟩:=hf;have f4:Below W4.heap.size W4 w5:=⟨f3.os,f3.tape,f3.output,f3.size,f3.block⟩;have h1:=HBK.out.trans (HB4.out.mono HBK.out.size)
      exact h1.trans (f4.mono h1.size)))
    clear hW4 hb4 hj4 hbA hxA hN hga hga2 hb2 hb3 HST HBX HB2 HRG HAI c0;refine wp_region_noPanic ?_;refine wp_region_held_drew (S:=fun W=>W.rangeAt wr.heap.size 0 [.string y.kind,.int .i64 y.a,.int .i64 y.b,.int .i64 y.c,.int .i64 y.d,.string y.s,.slice y.ka y.kl y.kc]) (by kernel_rfl) HS4.out (fun hHeld=>?_)
    refine wpAnyH_take (i:=0) (oi:=_) (v:=?_) rfl (by kernel_rfl) (by kernel_rfl) (by kernel_rfl) (fun _ _ _ h=>h) (Or.inl ⟨by rfl,?_⟩) hHeld ?_
    rotate_left
    ·(intro w hSw;go_simp;try with_reducible rfl)
    simp only[Act.put];refine wpAnyH_take (i:=1) (oi:=_) (v:=?_) rfl (by kernel_rfl) (by kernel_rfl) (by kernel_rfl) (fun _ _ _ h=>h) (Or.inl ⟨by rfl,?_⟩) hHeld ?_
    rotate_left
    ·(intro w hSw;go_simp;try with_reducible rfl)
    simp only[Act.put];refine wpAnyH_take (i:=2) (oi:=_) (v:=?_) rfl (by kernel_rfl) (by kernel_rfl) (by kernel_rfl) (fun _ _ _ h=>h) (Or.inl ⟨by rfl,?_⟩) hHeld ?_
    rotate_left
    ·(intro w hSw;go_simp;try with_reducible rfl)
    simp only[Act.put];refine wpAnyH_take (i:=4) (oi:=_) (v:=_) rfl (by kernel_rfl) (by kernel_rfl) (by kernel_rfl) (fun _ _ _ h=>h) (yieldsIf_load_mid (by rfl) 43 (.tmp 11) rfl wr.heap.size 0 (by rfl) [.string y.kind,.int .i64 y.a,.int .i64 y.b,.int .i64 y.c,.int .i64 y.d,.string y.s,.slice y.ka y.kl y.kc] _ (fun _ h=>h) Tryz.underlying43 rfl HI2.out) hHeld ?_
    simp only[Act.put];refine wpAnyH_ready (rs:=[3]) (by kernel_rfl) (by simp) ?_
    refine AllReadyH.cons (o:=_) rfl (fun K hK=>?_) ?_
    ·go_simp
     go_at_call 49
     refine(HFR.out _).mono ?_;rintro e w5 ⟨gp2,rfl,hf5⟩;have HF5:=ah hf5;have hS5:=HBC.out w5 (fun b _ hb=>hf5.elim fun G h=>h.2.2.block b hb)
     clear hf5
     try go_wp2_with fail
     refine hK.out _ _ hS5 (fun hHeld=>?_)
     clear hK K
     try simp only[Act.put,List.setIfInBounds_toArray]
     refine wpAnyH_ready (rs:=[5]) (by kernel_rfl) (by simp) ?_
     refine AllReadyH.cons (o:=_) rfl (fun K hK=>?_) ?_
     ·go_simp
      go_at_call 42
      refine(HDD.out _ _ HF5.out).mono ?_;rintro e w6 ⟨rfl,Y6,v6,g6,hL6,hR6,hk6,hz6⟩;have hS6:=HBC.out w6 hk6;have HL6:=ah hL6;have HR6:=ah hR6;have HN6:Hid (Nums w6 (some ⟨ga,oa,none⟩) v.l):=HN4.out.1.keep fun b o e=>by cases e;exact hk6 _ HN4.out.2.1 HN4.out.2.2
      have HJ6:Hid (w6.heap[w3.heap.size]?=some (.cells #[.int .i64 k0,.int .i64 f0,.int .i64 s0,.int .i64 l0] 56)):=(hk6 _ HJ4.out.2.1 HJ4.out.2.2).trans HJ4.out.1;clear hL6 hR6 hk6 hz6
      try go_wp2_with fail
      refine hK.out _ _ hS6 (fun hHeld=>?_)
      clear hK K
      try simp only[Act.put,List.setIfInBounds_toArray]
      refine wpAnyH_done (by kernel_rfl) ?_ _
      refine NoPanic.normal ?_;clear hHeld hS6 hS5 HF5 HBC HS4 HDD HFR HJ4 HN4 HB4;obtain⟨k6,f6,s6,l6,hst6,hstat6⟩:=HL6.out.status;have HST6:=ah (hstat6 _ (Below.refl _ _));have HV6:=ah hst6;clear hst6 hstat6;go_wp2_with fail
      refine HST6.out.mono ?_;rintro e w7 ⟨rfl,hb7⟩;have HBX7:Hid (Below w6.heap.size w6 (w7.alloc (.cells #[.int .i64 k6,.int .i64 f6,.int .i64 s6,.int .i64 l6] 56))):=hb7.trans (((Below.refl _ _).alloc (Nat.le_refl _) _).mono hb7.size);have HCH7:=ah (HL6.out.chain _ HBX7.out);clear HST6 hb7;go_wp2_with fail
      refine HCH7.out.mono ?_;rintro e w8 ⟨gb,ob,cb,rfl,hNb,_,_,_,hb8⟩;have HB8:Hid (Below w6.heap.size w6 w8):=HBX7.out.trans (hb8.mono HBX7.out.size);have HN8:=ah hNb;have HW8:Hid (Nums w8 (some ⟨ga,oa,none⟩) v.l):=HN6.out.below HB8.out;have ej:w8.heap[w3.heap.size]?=some (.cells #[.int .i64 k0,.int .i64 f0,.int .i64 s0,.int .i64 l0] 56):=(HB8.out.block _ (lt_of_some HJ6.out)).trans HJ6.out;have ek:w8.heap[w7.heap.size]?=some (.cells #[.int .i64 k6,.int .i64 f6,.int .i64 s6,.int .i64 l6] 56):=(hb8.block _ (by simp)).trans (heap_alloc_new w7 _)
      have cj2:w8.cell? ⟨w3.heap.size,2,none⟩=some (.int .i64 s0):=by rw[cell_of_row _ _ _ _ _ _ ej];rfl
      have ck0:w8.cell? ⟨w7.heap.size,0,none⟩=some (.int .i64 k6):=by rw[cell_of_row _ _ _ _ _ _ ek];rfl
      have ck1:w8.cell? ⟨w7.heap.size,1,none⟩=some (.int .i64 f6):=by rw[cell_of_row _ _ _ _ _ _ ek];rfl
      have ck2:w8.cell? ⟨w7.heap.size,2,none⟩=some (.int .i64 s6):=by rw[cell_of_row _ _ _ _ _ _ ek];rfl
      have ck3:w8.cell? ⟨w7.heap.size,3,none⟩=some (.int .i64 l6):=by rw[cell_of_row _ _ _ _ _ _ ek];rfl
      have HEN:Hid (s0≠4→s6=4→Calls Tryz.prog 50 #[.slice (some ⟨ga,oa,none⟩) v.l.length ca,.slice (some ⟨gb,ob,none⟩) v6.l.length cb,.agg #[.int .i64 k6,.int .i64 f6,.int .i64 s6,.int .i64 l6]] w8 fun e w'=>e=.returned (.bool true)∧Below w8.heap.size w8 w'):=fun h1 h2 =>
       Kr v.l v6.l k6 f6 s6 l6 w8 HW8.out HN8.out HYK.out.kno.saw.yg.ok.ch.ne HYK.out.kno.saw.yg.ok.ch.len hca.1 hca.2 (HYK.out.end (by omega) HR6.out HS0.out HV6.out h1 h2)
      clear ej ek hNb hb8 HBX7 HCH7 HN6 HJ6 HYK HR6 HS0 HV6 HW8 HI2 HBK HTT;by_cases h1:s0=4
      ·have d1:(s0 != 4)=false:=by simpa using h1
       obtain⟨T,htl⟩:=HL6.out.tail (W:=w8) (b:=some ⟨gb,ob,none⟩) (cap:=cb) hC.2 HB8.out HN8.out;have HTL:=ah htl;have HLA:Hid (∀ wg:World,Below w8.heap.size w8 wg→LSt w.heap.size w yp C (q+1) wg Y6 v6 g6):=fun wg hg=>(HL6.out.later HB8.out).later hg
       clear htl;clear h1 HEN HN8 HL6 HB8;go_wp2_with fail
       refine HTL.out.mono ?_;rintro e wa ⟨yq,rfl,ha⟩;have HA1:=ah ha;clear ha HTL;go_wp2_with fail
       refine HA1.out.mono ?_;rintro e wb ⟨rfl,ha⟩;have HA2:=ah ha;clear ha HA1;go_wp2_with fail
       refine HA2.out.mono ?_;rintro e wc ⟨rfl,ha⟩;have HA3:=ah ha;clear ha HA2;go_wp2_with fail
       refine HA3.out.mono ?_;rintro e wd ⟨rfl,ha⟩;have HA4:=ah ha;clear ha HA3;go_wp2_with fail
       refine HA4.out.mono ?_;rintro e we ⟨rfl,ha⟩;have HA5:=ah ha;clear ha HA4;go_wp2_with fail
       refine HA5.out.mono ?_;rintro e wf ⟨g1,o1,c1,rfl,ha⟩;have HA6:=ah ha;clear ha HA5;go_wp2_with fail
       refine HA6.out.mono ?_;rintro e wg ⟨rfl,ha⟩;have HA7:=ah (HLA.out wg ha);clear ha HA6 HLA;go_wp2
       go_roundw
       case rel =>
        have fin:∃ q1:Nat,q1≤len∧Value.int .i64 ((q:Int)+1)=.int .i64 (q1:Int)∧∃ Y y g,LSt w.heap.size w yp C q1 _ Y y g:=⟨q+1,by omega,by go_num,_,_,_,HA7.out⟩
        first|exact fin|((repeat apply Exists.intro);exact⟨fin,rfl⟩)
       case measure=>simp[intOf];omega
      have d1:(s0 != 4)=true:=by simpa using h1
      by_cases h2:s6=4
      ·have d2:(s6==4)=true:=by simpa using h2
       have HE1:=ah (HEN.out h1 h2);clear h1 h2 HEN;go_wp2_with fail
       refine HE1.out.mono ?_;rintro e w9 ⟨rfl,hb9⟩;have HB9:Hid (Below w6.heap.size w6 w9):=HB8.out.trans (hb9.mono HB8.out.size);have HN9:=ah (HN8.out.below hb9);obtain⟨T,htl⟩:=HL6.out.tail (W:=w9) (b:=some ⟨gb,ob,none⟩) (cap:=cb) hC.2 HB9.out HN9.out;have HTL:=ah htl;have HLA:Hid (∀ wg:World,Below w9.heap.size w9 wg→LSt w.heap.size w yp C (q+1) wg Y6 v6 g6):=fun wg hg=>(HL6.out.later HB9.out).later hg
       clear htl;clear HE1 HN9 HN8 HL6 HB8 HB9 hb9 cj2 ck0 ck1 ck2 ck3;go_wp2_with fail
       refine HTL.out.mono ?_;rintro e wa ⟨yq,rfl,ha⟩;have HA1:=ah ha;clear ha HTL;go_wp2_with fail
       refine HA1.out.mono ?_;rintro e wb ⟨rfl,ha⟩;have HA2:=ah ha;clear ha HA1;go_wp2_with fail
       refine HA2.out.mono ?_;rintro e wc ⟨rfl,ha⟩;have HA3:=ah ha;clear ha HA2;go_wp2_with fail
       refine HA3.out.mono ?_;rintro e wd ⟨rfl,ha⟩;have HA4:=ah ha;clear ha HA3;go_wp2_with fail
       refine HA4.out.mono ?_;rintro e we ⟨rfl,ha⟩;have HA5:=ah ha;clear ha HA4;go_wp2_with fail
       refine HA5.out.mono ?_;rintro e wf ⟨g1,o1,c1,rfl,ha⟩;have HA6:=ah ha;clear ha HA5;go_wp2_with fail
       refine HA6.out.mono ?_;rintro e wg ⟨rfl,ha⟩;have HA7:=ah (HLA.out wg ha);clear ha HA6 HLA;go_wp2
       go_roundw
       case rel =>
        have fin:∃ q1:Nat,q1≤len∧Value.int .i64 ((q:Int)+1)=.int .i64 (q1:Int)∧∃ Y y g,LSt w.heap.size w yp C q1 _ Y y g:=⟨q+1,by omega,by go_num,_,_,_,HA7.out⟩
        first|exact fin|((repeat apply Exists.intro);exact⟨fin,rfl⟩)
       case measure=>simp[intOf];omega
      ·have d2:(s6==4)=false:=by simpa using h2
       obtain⟨T,htl⟩:=HL6.out.tail (W:=w8) (b:=some ⟨gb,ob,none⟩) (cap:=cb) hC.2 HB8.out HN8.out;have HTL:=ah htl;have HLA:Hid (∀ wg:World,Below w8.heap.size w8 wg→LSt w.heap.size w yp C (q+1) wg Y6 v6 g6):=fun wg hg=>(HL6.out.later HB8.out).later hg
       clear htl;clear h1 h2 HEN HN8 HL6 HB8;go_wp2_with fail
       refine HTL.out.mono ?_;rintro e wa ⟨yq,rfl,ha⟩;have HA1:=ah ha;clear ha HTL;go_wp2_with fail
       refine HA1.out.mono ?_;rintro e wb ⟨rfl,ha⟩;have HA2:=ah ha;clear ha HA1;go_wp2_with fail
       refine HA2.out.mono ?_;rintro e wc ⟨rfl,ha⟩;have HA3:=ah ha;clear ha HA2;go_wp2_with fail
       refine HA3.out.mono ?_;rintro e wd ⟨rfl,ha⟩;have HA4:=ah ha;clear ha HA3;go_wp2_with fail
       refine HA4.out.mono ?_;rintro e we ⟨rfl,ha⟩;have HA5:=ah ha;clear ha HA4;go_wp2_with fail
       refine HA5.out.mono ?_;rintro e wf ⟨g1,o1,c1,rfl,ha⟩;have HA6:=ah ha;clear ha HA5;go_wp2_with fail
       refine HA6.out.mono ?_;rintro e wg ⟨rfl,ha⟩;have HA7:=ah (HLA.out wg ha);clear ha HA6 HLA;go_wp2
       go_roundw
       case rel =>
        have fin:∃ q1:Nat,q1≤len∧Value.int .i64 ((q:Int)+1)=.int .i64 (q1:Int)∧∃ Y y g,LSt w.heap.size w yp C q1 _ Y y g:=⟨q+1,by omega,by go_num,_,_,_,HA7.out⟩
        first|exact fin|((repeat apply Exists.intro);exact⟨fin,rfl⟩)
       case measure=>simp[intOf];omega
     exact AllReadyH.nil
    exact AllReadyH.nil
  ·have gk:decide ((q:Int)<(len:Int))=false:=decide_eq_false (by omega)
   clear HIN HYK;go_wp2
   go_ret
   exact⟨rfl,HBK.out⟩
theorem H9(c p:Int)(la:Option Addr)(len cap:Nat)(xs:List aN)(w:World)(hA:lZ w la len xs)(hlen:len≤maxLen)(hl:lU xs 50=false) :
  Calls Tryz.prog 9 #[.int .i64 c,.int .i64 p,.slice la len cap] w fun e w'=>e=.returned (.bool true)∧Below w.heap.size w w':=by
 have HLA:Hid (Calls Tryz.prog 13 #[.slice la len cap,.int .i64 50] w fun e w'=>e=.returned (.bool false)∧w'=w):=by
  have:=zB la len cap 50 xs w hA hlen (by omega)
  rw[hl] at this;exact this
 clear hA hl hlen;go_enter Tryz.func9,Tryz.ntmps9
 go_wp2_with fail
 refine HLA.out.mono ?_;rintro e w' ⟨rfl,hw⟩;have hw':=hw.symm;subst hw';clear hw HLA;go_wp2
 go_ret
 exact⟨rfl,Below.refl _ _⟩
theorem Ia(c p:Int)(la:Option Addr)(len cap:Nat)(xs:List aN)(w:World)(hA:lZ w la len xs)(hlen:len≤maxLen)(hl:lU xs 50=true)(hM:um c p=false) :
  Calls Tryz.prog 9 #[.int .i64 c,.int .i64 p,.slice la len cap] w fun e w'=>e=.returned (.bool true)∧Below w.heap.size w w':=by
 have HLA:Hid (Calls Tryz.prog 13 #[.slice la len cap,.int .i64 50] w fun e w'=>e=.returned (.bool true)∧w'=w):=by
  have:=zB la len cap 50 xs w hA hlen (by omega)
  rw[hl] at this;exact this
 have HMD:=ah (NY c p w hM);have hM':¬(1≤c∧c≤32∧0≤p∧p≤40):=of_decide_eq_false hM;clear hA hl hlen hM;by_cases h1:c<1
 ·have f1:decide (c<1)=true:=decide_eq_true h1
  clear hM';go_enter Tryz.func9,Tryz.ntmps9
  go_wp2_with fail
  refine HLA.out.mono ?_;rintro e w' ⟨rfl,hw⟩;have hw':=hw.symm;subst hw';clear hw HLA;go_wp2_with fail
  refine HMD.out.mono ?_;rintro e w' ⟨rfl,hw⟩;have hw':=hw.symm;subst hw';clear hw HMD;go_wp2
  go_ret
  exact⟨rfl,Below.refl _ _⟩
 have f1:decide (c<1)=false:=decide_eq_false h1;by_cases h2:32<c
 ·have f2:decide (32<c)=true:=decide_eq_true h2
  clear hM';go_enter Tryz.func9,Tryz.ntmps9
  go_wp2_with fail
  refine HLA.out.mono ?_;rintro e w' ⟨rfl,hw⟩;have hw':=hw.symm;subst hw';clear hw HLA;go_wp2_with fail
  refine HMD.out.mono ?_;rintro e w' ⟨rfl,hw⟩;have hw':=hw.symm;subst hw';clear hw HMD;go_wp2
  go_ret
  exact⟨rfl,Below.refl _ _⟩
 have f2:decide (32<c)=false:=decide_eq_false h2;by_cases h3:p<0
 ·have f3:decide (p<0)=true:=decide_eq_true h3
  clear hM';go_enter Tryz.func9,Tryz.ntmps9
  go_wp2_with fail
  refine HLA.out.mono ?_;rintro e w' ⟨rfl,hw⟩;have hw':=hw.symm;subst hw';clear hw HLA;go_wp2_with fail
  refine HMD.out.mono ?_;rintro e w' ⟨rfl,hw⟩;have hw':=hw.symm;subst hw';clear hw HMD;go_wp2
  go_ret
  exact⟨rfl,Below.refl _ _⟩
 ·have f3:decide (p<0)=false:=decide_eq_false h3
  have f4:decide (40<p)=true:=decide_eq_true (by omega)
  clear hM';go_enter Tryz.func9,Tryz.ntmps9
  go_wp2_with fail
  refine HLA.out.mono ?_;rintro e w' ⟨rfl,hw⟩;have hw':=hw.symm;subst hw';clear hw HLA;go_wp2_with fail
  refine HMD.out.mono ?_;rintro e w' ⟨rfl,hw⟩;have hw':=hw.symm;subst hw';clear hw HMD;go_wp2
  go_ret
  exact⟨rfl,Below.refl _ _⟩
theorem Ic(c p:Int)(la:Option Addr)(len cap:Nat)(xs:List aN)(w:World)(hA:lZ w la len xs)(hlen:len≤maxLen)(hB:vK xs)(hT:S4.Tab w) :
  Calls Tryz.prog 9 #[.int .i64 c,.int .i64 p,.slice la len cap] w fun e w'=>e=.returned (.bool true)∧Below w.heap.size w w':=by
 cases h1:lU xs 50 with
 | false=>exact H9 c p la len cap xs w hA hlen h1
 | true =>
  cases h2:um c p with
  | false=>exact Ia c p la len cap xs w hA hlen h1 h2
  | true=>exact Ib c p la len cap xs w hA hlen hB h1 h2 hT
end Go.Proofs.YtonhoahnieoebabGreatDoor
