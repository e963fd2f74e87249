/- A new guest: the walk. -/
import Derived.Test.YtonhoahnieoebabGreatDoorQAGuestP4
import Derived.OwnWalk
set_option maxHeartbeats 2000000
set_option maxRecDepth 100000
namespace Go.Proofs.YtonhoahnieoebabGreatDoor
open Go.RowKit Go.Maps
attribute [local go_sem ↓] Go.wp_at_zero Go.wp_at_succ
theorem jE.start(w:World):jE w w.heap.size 0 0 (w.alloc (.cells #[.slice none 0 0,.slice none 0 0] 200)) :=
 ⟨⟨⟨.slice none 0 0,.slice none 0 0,fun _=>.nilIface,fun _=>.nilIface⟩,heap_alloc_new w _,IsT.nil _ _ _,IsT.nil _ _ _,fun k e=>(Dj e).elim,fun k e=>(by rcases e with e|e<;>exact(Dj e).elim)⟩,Nat.le_refl _,(Below.refl _ _).alloc (Nat.le_refl _) _⟩
theorem jE.done{w wr:World}{gp n:Nat}(h:jE w gp n n wr):∃ G:Gh,IsG wr gp G n ⟨fun _=>[noughts],fun _=>[noughts]⟩∧(∀ k,fpG gp G n k→w.heap.size≤k)∧Below w.heap.size w wr:=by
 obtain⟨G,b1,b2,b3,b4,b5⟩:=h.ex;refine⟨G,⟨b1,b2,b3,b4⟩,fun k e=>?_,h.bel⟩
 rcases e with e|e|e
 ·rw[e];exact h.gp
 ·exact b5 k (.inl e)
 ·exact b5 k (.inr e)
structure A8(gp c n:Nat)(W:World)(v:Value)(xs:List Value)(P:World→Prop):Prop where
 cell:W.cell? ⟨gp,c,none⟩=some v
 lt:gp<W.heap.size
 row:W.ownsRow 0 202 1 v n xs
 fin:∀(w1 w2:World) (u:Value) (g cap:Nat),Below W.heap.size W w1→w1.ownsRow 0 9 1 u 1 (flS [noughts])→(∀ k,u.ownBlock=some k→W.heap.size≤k)→w1.grownBy w2 v.ownBlock→w2.ownsRow 0 202 1 (.slice (some ⟨g,0,none⟩) (n+1) cap) (n+1) (xs++[u])→(v.ownBlock=some g∨W.heap.size≤g) →
   w2.cell? ⟨gp,c,none⟩=some v∧w2.frozen? ⟨gp,c,none⟩=false∧P (w2.setCell ⟨gp,c,none⟩ (.slice (some ⟨g,0,none⟩) (n+1) cap))
theorem Dn(n:Nat)(w:World)(hn:n≤1000) :
    Calls Tryz.prog 49 #[.int .i64 (n:Int)] w fun e w'=>∃(gp:Nat) (G:Gh),e=.returned (.pointer (some ⟨gp,0,none⟩))∧IsG w' gp G n ⟨fun _=>[noughts],fun _=>[noughts]⟩∧(∀ k,fpG gp G n k→w.heap.size≤k)∧Below w.heap.size w w':=by
  obtain⟨i3,hi3,hw0,hw1,hw2⟩:=info_parts MZ;have HST:=ah (jE.start w)
  have HN:Hid (∀(k:Nat) (W:World),jE w w.heap.size k k W→∃ v xs,A8 w.heap.size 0 k W v xs (jE w w.heap.size (k+1) k)):=fun k W h=>by
    obtain⟨v,xs,h1,h2,h3,h4⟩:=h.now;exact⟨v,xs,h1,h2,h3,h4⟩
  have HC:Hid (∀(k:Nat) (W:World),jE w w.heap.size (k+1) k W→∃ v xs,A8 w.heap.size 1 k W v xs (jE w w.heap.size (k+1) (k+1))):=fun k W h=>by
    obtain⟨v,xs,h1,h2,h3,h4⟩:=h.cr;exact⟨v,xs,h1,h2,h3,h4⟩
  have HDN:Hid (∀ W:World,jE w w.heap.size n n W→_):=fun W h=>h.done
  go_enter Tryz.func49,Tryz.ntmps49
  go_wp2
  generalize hgp:w.heap.size=gp at HST HN HC HDN ⊢;generalize hW0:w.alloc _=W0 at HST ⊢;clear hW0;go_loopw [4] (fun i wr=>∃ k:Nat,k≤n∧i=.int .i64 (k:Int)∧jE w gp k k wr) (fun i _=>n-(intOf i).toNat)
  case atStart=>exact⟨0,Nat.zero_le _,rfl,HST.out⟩
  case round =>
    clear HST;obtain⟨k,hk,rfl,hF⟩:=hrel;by_cases hlt:k<n
    · obtain⟨vN,xsN,hSN⟩:=HN.out k wr hF
      have HSN:=ah hSN;clear hSN hF;have k0:(k:Int)<(n:Int):=by omega
      have k3:IntKind.i64.wrap ((k:Int)+1)=(k:Int)+1:=IntWalk.i64_in _ (by omega)
      have HM:Hid (k+1≤maxLen):=by unfold Hid maxLen;omega
      go_upto_region 5 with fail
      go_cut [] from 7 to 33 (fun wx=>jE w gp (k+1) k wx)
      case first =>
        clear HN HC HDN;have cN:=HSN.out.cell;have lN:=HSN.out.lt;have HFI:=ah HSN.out.fin;have HRO:=ah HSN.out.row;have dN:wr.drew.cell? ⟨gp,0,none⟩=some vN:=cN;clear HSN
        go_region_law (first
          | (refine step_append_lies _ (by rfl) _ _ 198 (by rfl) 0 202 i3 (.slice none 0 0) 1 24 Tryz.underlying198 hi3 hw0 hw1 hw2 rfl (by decide) vN k xsN (by rfl) HOW.out ⟨wn.heap.size+1,0,none⟩ 1 1 [.slice (some ⟨wn.heap.size,0,none⟩) 1 1] (by rfl) (by rfl) HNW.out (fun u hu=>by simp at hu;subst hu;rfl) (by decide) HM.out (by omega) (Nat.zero_le _) (wn.heap.size+2) (by simp) ?_;intro g cap w2 hown hgrow hat hlt2;obtain⟨p0,p1,hx⟩:=HFI.out _ w2 _ g cap HBN.out HRW.out HUB.out hgrow hown (by rcases hat with e|e;exact .inl e;exact .inr (by have:=HSZ.out;omega));have HX:=ah hx;clear hx hown hgrow hat hlt2)
          | (go_simp;go_at_call 72;refine(Et _).mono ?_;rintro e wn ⟨rfl,hbn⟩
             have hbn2:Below wr.heap.size wr wn:=⟨hbn.os,hbn.tape,hbn.output,hbn.size,hbn.block⟩;have HSZ:Hid (wr.heap.size≤wn.heap.size):=hbn2.size;have hwn:gp<wn.heap.size:=Nat.lt_of_lt_of_le lN hbn2.size;have cn:wn.cell? ⟨gp,0,none⟩=some vN:=(hbn2.cell (p:=⟨gp,0,none⟩) lN).trans cN;have cna:(wn.alloc (.cells #[.string (bytesOf noughts)] 9)).cell? ⟨gp,0,none⟩=some vN:=by rw[World.cell?_alloc_past _ _ _ hwn];exact cn
             have cnb:((wn.alloc (.cells #[.string (bytesOf noughts)] 9)).alloc (.cells #[.slice (some ⟨wn.heap.size,0,none⟩) 1 1] 202)).cell? ⟨gp,0,none⟩=some vN:=by rw[World.cell?_alloc_past _ _ _ (by simp;omega)];exact cna
             have HBN:Hid (Below wr.heap.size wr ((wn.alloc (.cells #[.string (bytesOf noughts)] 9)).alloc (.cells #[.slice (some ⟨wn.heap.size,0,none⟩) 1 1] 202))):=(hbn2.alloc hbn2.size _).alloc (by simp;have:=hbn2.size;omega) _
             have HOW:Hid (((wn.alloc (.cells #[.string (bytesOf noughts)] 9)).alloc (.cells #[.slice (some ⟨wn.heap.size,0,none⟩) 1 1] 202)).ownsRow 0 202 1 vN k xsN):=dA HRO.out (fun r e=>HBN.out.block r (HRO.out.lt r e).2)
             have HRW:Hid (((wn.alloc (.cells #[.string (bytesOf noughts)] 9)).alloc (.cells #[.slice (some ⟨wn.heap.size,0,none⟩) 1 1] 202)).ownsRow 0 9 1 (.slice (some ⟨wn.heap.size,0,none⟩) 1 1) 1 (flS [noughts])):=(one_row wn noughts).alloc _
             have HUB:Hid (∀ q,(Value.slice (some ⟨wn.heap.size,0,none⟩) 1 1).ownBlock=some q→wr.heap.size≤q):=fun q e=>by
               have e2:wn.heap.size=q:=by simpa [Value.ownBlock] using e
               rw[← e2];exact hbn2.size
             have HNW:Hid (∀ j u,([.slice (some ⟨wn.heap.size,0,none⟩) 1 1]:List Value)[j]?=some u→((wn.alloc (.cells #[.string (bytesOf noughts)] 9)).alloc (.cells #[.slice (some ⟨wn.heap.size,0,none⟩) 1 1] 202)).cell? ((⟨wn.heap.size+1,0,none⟩:Addr).add j)=some u):=by
               have:=tu (wn.alloc (.cells #[.string (bytesOf noughts)] 9)) (.slice (some ⟨wn.heap.size,0,none⟩) 1 1) 202
               rw[show(wn.alloc (.cells #[.string (bytesOf noughts)] 9)).heap.size=wn.heap.size+1 by simp] at this
               exact this
             clear hbn hbn2))
        all_goals
          go_wp2
          go_meet
          case rel=>exact HX.out
      case rest =>
        obtain⟨vC,xsC,hSC⟩:=HC.out k wc hcut;have HSC:=ah hSC;clear hSC hcut HN HC HDN HSN;go_upto_region 6 with fail
        have cC:=HSC.out.cell;have lC:=HSC.out.lt;have HFI:=ah HSC.out.fin;have HRO:=ah HSC.out.row;have dC:wc.drew.cell? ⟨gp,1,none⟩=some vC:=cC;clear HSC
        go_region_law (first
          | (refine step_append_lies _ (by rfl) _ _ 198 (by rfl) 0 202 i3 (.slice none 0 0) 1 24 Tryz.underlying198 hi3 hw0 hw1 hw2 rfl (by decide) vC k xsC (by rfl) HOW.out ⟨wn.heap.size+1,0,none⟩ 1 1 [.slice (some ⟨wn.heap.size,0,none⟩) 1 1] (by rfl) (by rfl) HNW.out (fun u hu=>by simp at hu;subst hu;rfl) (by decide) HM.out (by omega) (Nat.zero_le _) (wn.heap.size+2) (by simp) ?_;intro g cap w2 hown hgrow hat hlt2;obtain⟨p0,p1,hx⟩:=HFI.out _ w2 _ g cap HBN.out HRW.out HUB.out hgrow hown (by rcases hat with e|e;exact .inl e;exact .inr (by have:=HSZ.out;omega));have HX:=ah hx;clear hx hown hgrow hat hlt2)
          | (go_simp;go_at_call 72;refine(Et _).mono ?_;rintro e wn ⟨rfl,hbn⟩
             have hbn2:Below wc.heap.size wc wn:=⟨hbn.os,hbn.tape,hbn.output,hbn.size,hbn.block⟩;have HSZ:Hid (wc.heap.size≤wn.heap.size):=hbn2.size;have hwn:gp<wn.heap.size:=Nat.lt_of_lt_of_le lC hbn2.size;have cn:wn.cell? ⟨gp,1,none⟩=some vC:=(hbn2.cell (p:=⟨gp,1,none⟩) lC).trans cC;have cna:(wn.alloc (.cells #[.string (bytesOf noughts)] 9)).cell? ⟨gp,1,none⟩=some vC:=by rw[World.cell?_alloc_past _ _ _ hwn];exact cn
             have cnb:((wn.alloc (.cells #[.string (bytesOf noughts)] 9)).alloc (.cells #[.slice (some ⟨wn.heap.size,0,none⟩) 1 1] 202)).cell? ⟨gp,1,none⟩=some vC:=by rw[World.cell?_alloc_past _ _ _ (by simp;omega)];exact cna
             have HBN:Hid (Below wc.heap.size wc ((wn.alloc (.cells #[.string (bytesOf noughts)] 9)).alloc (.cells #[.slice (some ⟨wn.heap.size,0,none⟩) 1 1] 202))):=(hbn2.alloc hbn2.size _).alloc (by simp;have:=hbn2.size;omega) _
             have HOW:Hid (((wn.alloc (.cells #[.string (bytesOf noughts)] 9)).alloc (.cells #[.slice (some ⟨wn.heap.size,0,none⟩) 1 1] 202)).ownsRow 0 202 1 vC k xsC):=dA HRO.out (fun r e=>HBN.out.block r (HRO.out.lt r e).2)
             have HRW:Hid (((wn.alloc (.cells #[.string (bytesOf noughts)] 9)).alloc (.cells #[.slice (some ⟨wn.heap.size,0,none⟩) 1 1] 202)).ownsRow 0 9 1 (.slice (some ⟨wn.heap.size,0,none⟩) 1 1) 1 (flS [noughts])):=(one_row wn noughts).alloc _
             have HUB:Hid (∀ q,(Value.slice (some ⟨wn.heap.size,0,none⟩) 1 1).ownBlock=some q→wc.heap.size≤q):=fun q e=>by
               have e2:wn.heap.size=q:=by simpa [Value.ownBlock] using e
               rw[← e2];exact hbn2.size
             have HNW:Hid (∀ j u,([.slice (some ⟨wn.heap.size,0,none⟩) 1 1]:List Value)[j]?=some u→((wn.alloc (.cells #[.string (bytesOf noughts)] 9)).alloc (.cells #[.slice (some ⟨wn.heap.size,0,none⟩) 1 1] 202)).cell? ((⟨wn.heap.size+1,0,none⟩:Addr).add j)=some u):=by
               have:=tu (wn.alloc (.cells #[.string (bytesOf noughts)] 9)) (.slice (some ⟨wn.heap.size,0,none⟩) 1 1) 202
               rw[show(wn.alloc (.cells #[.string (bytesOf noughts)] 9)).heap.size=wn.heap.size+1 by simp] at this
               exact this
             clear hbn hbn2))
        all_goals
          go_wp2
          go_roundw
          case rel =>
            have fin:∃ k':Nat,k'≤n∧Value.int .i64 ((k:Int)+1)=.int .i64 k'∧jE w gp k' k' (w2.setCell ⟨gp,1,none⟩ (.slice (some ⟨g,0,none⟩) (k+1) cap)):=⟨k+1,by omega,by go_num,HX.out⟩
            first|exact fin|((repeat apply Exists.intro);exact⟨fin,rfl⟩)
          case measure=>simp[intOf];omega
    · have hkn:k=n:=by omega
      have k0:¬(k:Int)<(n:Int):=by omega
      rw[hkn] at hF;obtain⟨G,h1,h2,h3⟩:=HDN.out _ hF;have H1:=ah h1;have H2:=ah h2;have H3:=ah h3;clear hF h1 h2 h3 HN HC HDN;go_wp2
      go_ret
      first|exact⟨gp,G,rfl,H1.out,H2.out,H3.out⟩|exact⟨gp,rfl,G,H1.out,H2.out,H3.out⟩
theorem ay.OH{w:World}{yp:Nat}{Y:Yh}{y:YV}(h:ay w yp Y y)(hj:y.j=none)(b:Jh):ay w yp ⟨Y.ds,Y.tp,Y.xs,b⟩ y:=by
 refine⟨?_,h.img,h.dev,h.top,h.apart,h.apTop,fun j e=>by rw[hj] at e;cases e⟩
 have:=h.blk
 rw[hj] at this ⊢;exact⟨this.is⟩
theorem Dk{yp:Nat}{Y:Yh}{y:YV}(hj:y.j=none){b:Jh}{k:Nat}(h:fpY yp ⟨Y.ds,Y.tp,Y.xs,b⟩ y k):fpY yp Y y k:=by
 rcases h with e|e|e|e
 ·exact .inl e
 ·exact .inr (.inl e)
 ·exact .inr (.inr (.inl e))
 ·exact absurd hj e.1
def gv0:GV:=⟨fun _=>[noughts],fun _=>[noughts]⟩
def um(c p:Int):Bool:=decide (1≤c∧c≤32∧0≤p∧p≤40)
theorem wY(c p:Int)(h:1≤c∧c≤32∧0≤p∧p≤40):(newH c p).ok=true∧aJ (newH c p)≤200:=by
 refine⟨?_,?_⟩
 ·show decide (1≤c∧c≤32∧0≤p∧p≤40∧(-1:Int) ≤ -1∧(-1:Int)≤4)=true
  exact decide_eq_true (by omega)
 ·unfold aJ aI newH
  simp only[];unfold aA;show 1+(c.toNat+7) / 8+4*p.toNat≤200
  omega
theorem NY(c p:Int)(w:World)(h:um c p=false) :
  Calls Tryz.prog 41 #[.int .i64 c,.int .i64 p] w fun e w'=>e=.returned (.tuple #[.pointer none,.pointer none,.bool false])∧w'=w:=by
 have h':¬(1≤c∧c≤32∧0≤p∧p≤40):=of_decide_eq_false h;clear h;by_cases h1:c<1
 ·have f1:decide (c<1)=true:=decide_eq_true h1
  clear h';go_enter Tryz.func41,Tryz.ntmps41
  go_wp2
  go_ret3
  exact⟨rfl,rfl⟩
 by_cases h2:32<c
 ·have f1:decide (c<1)=false:=decide_eq_false h1
  have f2:decide (32<c)=true:=decide_eq_true h2;clear h';go_enter Tryz.func41,Tryz.ntmps41
  go_wp2
  go_ret3
  exact⟨rfl,rfl⟩
 by_cases h3:p<0
 ·have f1:decide (c<1)=false:=decide_eq_false h1
  have f2:decide (32<c)=false:=decide_eq_false h2;have f3:decide (p<0)=true:=decide_eq_true h3;clear h';go_enter Tryz.func41,Tryz.ntmps41
  go_wp2
  go_ret3
  exact⟨rfl,rfl⟩
 ·have f1:decide (c<1)=false:=decide_eq_false h1
  have f2:decide (32<c)=false:=decide_eq_false h2;have f3:decide (p<0)=false:=decide_eq_false h3;have f4:decide (40<p)=true:=decide_eq_true (by omega)
  clear h';go_enter Tryz.func41,Tryz.ntmps41
  go_wp2
  go_ret3
  exact⟨rfl,rfl⟩
theorem N8(c p:Int)(w:World)(h:um c p=true) :
  Calls Tryz.prog 41 #[.int .i64 c,.int .i64 p] w fun e w'=>∃(yp gp:Nat) (Y:Yh) (G:Gh),e=.returned (.tuple #[.pointer (some ⟨yp,0,none⟩),.pointer (some ⟨gp,0,none⟩),.bool true])∧YGd w.heap.size w w' yp Y (jF c p) gp G (4*c.toNat) gv0:=by
 have h':1≤c∧c≤32∧0≤p∧p≤40:=of_decide_eq_true h;clear h;obtain⟨q1,q2,q3,q4⟩:=h';have f1:decide (c<1)=false:=decide_eq_false (by omega)
 have f2:decide (32<c)=false:=decide_eq_false (by omega)
 have f3:decide (p<0)=false:=decide_eq_false (by omega)
 have f4:decide (40<p)=false:=decide_eq_false (by omega)
 have HY:=ah (UA c p w (wY c p ⟨q1,q2,q3,q4⟩).1 (wY c p ⟨q1,q2,q3,q4⟩).2);have k4:IntKind.i64.wrap (4*c)=4*c:=IntWalk.i64_in _ (by omega)
 go_enter Tryz.func41,Tryz.ntmps41
 go_wp2_with fail
 refine HY.out.mono ?_;rintro e w1 ⟨yp,Y,rfl,hY,hf,hb⟩;have HI:Hid (ay w1 yp Y (jF c p)):=hY;have HF:Hid (∀ b,fpY yp Y (jF c p) b→w.heap.size≤b):=hf;have HB:Hid (Below w.heap.size w w1):=hb;clear hY hf hb;go_wp2_with fail
 have e4:4*c=((4*c.toNat:Nat):Int):=by omega
 rw[e4];refine(Dn (4*c.toNat) w1 (by omega)).mono ?_
 rintro e w2 ⟨gp,G,rfl,hG,hf2,hb2⟩;have HG:Hid (IsG w2 gp G (4*c.toNat) gv0):=hG;have HF2:Hid (∀ k,fpG gp G (4*c.toNat) k→w1.heap.size≤k):=hf2;have HB2:Hid (Below w1.heap.size w1 w2):=hb2;clear hG hf2 hb2;go_wp2
 go_ret3
 have hj:(jF c p).j=none:=rfl;refine⟨yp,gp,⟨Y.ds,Y.tp,Y.xs,⟨0,0,0,none,0⟩⟩,G,rfl,.at ((HI.out.OH hj _).below HB2.out) HG.out (fun k hk hg=>?_) (fun q o e=>by cases e) (fun q o e=>by cases e) (fun k hk=>HF.out k (Dk hj hk)) (fun k hk=>Nat.le_trans HB.out.size (HF2.out k hk)) (HB.out.trans (HB2.out.mono HB.out.size)) (Nat.le_refl _)⟩
 have h1:=HI.out.iT (Dk hj hk);have h2:=HF2.out k hg;omega
end Go.Proofs.YtonhoahnieoebabGreatDoor
namespace Go.Proofs.YtonhoahnieoebabGreatDoor
open Go.RowKit Go.ChangeShapes Go.WideShapes
section
variable {H:Type} {enc:TypeId × Value→H}
theorem O4{w:World}{fuel:Nat}{cs:List Value}{x:DataW H × List MemPlace}(h:DataW.trod enc Tryz.prog w 0 (fun _=>true) true fuel 43 cs=some x) :
  ∃ b:Int,cs[2]?=some (.int .i64 b) ∧ -9223372036854775808≤b∧b≤9223372036854775807:=by
 obtain⟨xs,n,_,_,hl,hlen,hf⟩:=DataW.trod_struct Tryz.underlying43 h;have h7:cs.length=7:=by rw[hl];kernel_rfl
 have c3:Tryz.prog.cellsOf 3=1:=by kernel_rfl
 have c9:Tryz.prog.cellsOf 9=1:=by kernel_rfl
 match cs,h7,xs,hlen with
 | [v0,v1,v2,v3,v4,v5,v6],_,[y0,y1,y2,y3,y4,y5,y6],_ =>
  have f2:DataW.trod enc Tryz.prog w 0 (fun _=>true) true n 3 [v2]=some y2:=by simpa [c3,c9] using hf 2 _ rfl
  obtain⟨a2,e2,_,w2⟩:=DataW.trod_int Tryz.underlying3 f2;simp only[List.cons.injEq,and_true] at e2;subst e2;have b2:=bounds_i64 w2;exact⟨a2,rfl,b2.1,b2.2⟩
def vK(xs:List aN):Prop:=∀ k,k<xs.length → -9223372036854775808≤(xs.getD k aN.none_).b∧(xs.getD k aN.none_).b≤9223372036854775807
theorem O6{w:World}{la:Option Addr}{len cap fuel:Nat}{x:DataW H × List MemPlace}(h:DataW.trod enc Tryz.prog w 0 (fun _=>true) true fuel 23 [.slice la len cap]=some x) :
  ∃ xs,lZ w la len xs∧len≤maxLen∧vK xs:=by
 obtain⟨xs,hT,hl0⟩:=O5 h;refine⟨xs,hT,hl0,fun k hk=>?_⟩
 have hkl:k<len:=by have:=hT.1;omega
 obtain⟨b,off,e,hr,_⟩:=hT.2 k hkl;rcases Go.Deep.open_slice Tryz.underlying23 h with⟨hcs,_⟩|⟨a,len',cap',m,n,D,Pl,hcs,_,hl,hm,hmm,_,hx⟩
 ·simp at hcs
  obtain⟨rfl,rfl,rfl⟩:=hcs;omega
 ·simp at hcs
  obtain⟨rfl,rfl,rfl⟩:=hcs;cases e
  have c47:Tryz.prog.cellsOf 43=7:=by kernel_rfl
  simp only[if_true] at hmm;subst hmm;obtain⟨cs',h1,h2⟩:=hx k (by omega)
  obtain⟨b2,e2,e3⟩:=O4 h2;obtain⟨_,_,hc⟩:=World.cells?_some h1;rw[c47] at hc;have h3:=hc 2 (by omega)
  rw[e2,Go.Deep.add_add,Go.WideShapes.add_plain] at h3;have h4:=hr 2 (.int .i64 (xs.getD k aN.none_).b) rfl;rw[show off+k*7+2=off+(k*7+2) by omega,h3] at h4
  cases h4
  exact e3
end
end Go.Proofs.YtonhoahnieoebabGreatDoor
namespace Go.Proofs.YtonhoahnieoebabGreatDoor
open Go.RowKit Go.Maps
attribute [local go_sem ↓] Go.wp_at_zero Go.wp_at_succ
theorem Ru:(Tryz.prog.info? 43).map (·.size)=some 7:=by kernel_rfl
end Go.Proofs.YtonhoahnieoebabGreatDoor
namespace Go.Proofs.YtonhoahnieoebabGreatDoor
open Go.RowKit
def Falls(M:Int→Nat→List (List UInt8))(cr:Nat→List (List UInt8))(k:Nat):List Int→Prop
 | []=>noughts∈cr k
 | n::r=>(∀ s∈M n k,s≠[45]→s∈cr k)∧([45]∈M n k→Falls M cr k r)
theorem Falls.re{M M':Int→Nat→List (List UInt8)}{cr cr':Nat→List (List UInt8)}{k:Nat}(hc:∀ s∈cr k,s∈cr' k):∀ {l:List Int},Falls M cr k l→(∀ n∈l,∀ s∈M' n k,s∈M n k∨s≠[45]∧s∈cr' k)→Falls M' cr' k l:=by
 intro l
 induction l with
 | nil=>intro h _;exact hc _ h
 | cons n r ih =>
  intro h hm;refine⟨fun s hs h45=>?_,fun h45=>?_⟩
  ·rcases hm n List.mem_cons_self s hs with h1|h1
   ·exact hc _ (h.1 s h1 h45)
   ·exact h1.2
  ·rcases hm n List.mem_cons_self _ h45 with h1|h1
   ·exact ih (h.2 h1) fun i hi=>hm i (List.mem_cons_of_mem _ hi)
   ·exact absurd rfl h1.1
theorem OJ:noughts≠[45]:=by decide
theorem uV{v:IV}{k:Nat}(h:(v.t.getD (k / 4) (0,0)).1=0):v.sh k=[45]:=by
 unfold IV.sh;rw[if_neg (by omega),if_neg (by omega)]
theorem xR{v:IV}{m:Nat}(hok:v.ok m){k:Nat}(hk:k<4*v.t.length)(h:v.sh k=[45]):(v.t.getD (k / 4) (0,0)).1=0:=by
 have hb:=iK (hok.ents _ (getD_mem (show k / 4<v.t.length by omega)))
 unfold IV.sh at h;split at h
 ·next h2 =>
  exfalso
  have hp:0≤(v.t.getD (k / 4) (0,0)).2∧(v.t.getD (k / 4) (0,0)).2<v.h.p:=by
   rcases hb with hb|hb
   ·exact⟨hb.2.1,hb.2.2⟩
   ·omega
  have hbe:=(kM hok.h hok.need).2 (v.t.getD (k / 4) (0,0)).2.toNat (by omega)
  have hx:aI v.h (v.t.getD (k / 4) (0,0)).2.toNat+k % 4<v.d.seen.length:=by rw[hok.d.ok.same];omega
  have hl:=hok.d.ok.l2 _ (List.getElem_mem hx);rw[List.getD_eq_getElem?_getD,List.getElem?_eq_getElem hx] at h;have h':v.d.seen[aI v.h (v.t.getD (k / 4) (0,0)).2.toNat+k % 4]=[45]:=h;rw[h'] at hl;cases hl
 ·split at h
  ·exact absurd h OJ
  ·omega
theorem Ag{s:SV}{n:Int}{r:List Int}{v:IV}(hf:s.file n=some v)(k:Nat):s.sec (n::r) k=if (v.t.getD (k / 4) (0,0)).1=0 then s.sec r k else v.sh k:=by
 unfold SV.sec;rw[jO hf];rfl
theorem KN{s:SV}{M:Int→Nat→List (List UInt8)}{cr:Nat→List (List UInt8)}{k:Nat}:∀ {l:List Int},(∀ n∈l,∃ v,s.file n=some v∧v.sh k∈M n k∧(v.sh k=[45]→(v.t.getD (k / 4) (0,0)).1=0))→Falls M cr k l→s.sec l k∈cr k:=by
 intro l
 induction l with
 | nil=>intro _ h;exact h
 | cons n r ih =>
  intro hl h;obtain⟨v,h1,h2,h3⟩:=hl n List.mem_cons_self;rw[Ag h1];split
  ·next h0 =>
   rw[uV h0] at h2;exact ih (fun i hi=>hl i (List.mem_cons_of_mem _ hi)) (h.2 h2)
  ·next h0=>exact h.1 _ h2 fun e=>h0 (h3 e)
theorem KL{s:SV}{M:Int→Nat→List (List UInt8)}{cr:Nat→List (List UInt8)}{k:Nat}:∀ {l:List Int},(∀ n∈l,∃ v,s.file n=some v∧M n k=[v.sh k]∧(v.sh k=[45]→(v.t.getD (k / 4) (0,0)).1=0))→s.sec l k∈cr k→Falls M cr k l:=by
 intro l
 induction l with
 | nil=>intro _ h;exact h
 | cons n r ih =>
  intro hl h;obtain⟨v,h1,h2,h3⟩:=hl n List.mem_cons_self;rw[Ag h1] at h;show(∀ s∈M n k,s≠[45]→s∈cr k)∧([45]∈M n k→Falls M cr k r)
  rw[h2];split at h
  ·next h0 =>
   rw[uV h0];exact⟨fun x hx h45=>absurd (List.mem_singleton.1 hx) h45,fun _=>ih (fun i hi=>hl i (List.mem_cons_of_mem _ hi)) h⟩
  ·next h0=>exact⟨fun x hx _=>by rw[List.mem_singleton.1 hx];exact h,fun hx=>absurd (h3 (List.mem_singleton.1 hx).symm) h0⟩
structure aW(s:SV)(C:Nat)(l:List Int)(cr:Nat→List (List UInt8)):Prop where
 ex:∃ M:Int→Nat→List (List UInt8),(∀ n∈l,∀ v,s.file n=some v→Told v (M n))∧∀ k,k<4*C→Falls M cr k l
theorem pI{s:SV}{C m:Nat}{l:List Int}(hg:s.good (C:Int) l)(hok:s.ok m){n:Int}(hn:n∈l){v:IV}(hf:s.file n=some v):v.t.length=C:=by
 obtain⟨u,h1,h2⟩:=hg n hn;rw[hf] at h1;cases h1
 have:=(hok.file hf).len
 omega
theorem aW.sec{s:SV}{C m:Nat}{l:List Int}{cr:Nat→List (List UInt8)}(h:aW s C l cr)(hg:s.good (C:Int) l)(hok:s.ok m){k:Nat}(hk:k<4*C):s.sec l k∈cr k:=by
 obtain⟨M,h1,h2⟩:=h.ex;refine KN (fun n hn=>?_) (h2 k hk)
 obtain⟨v,hf,_⟩:=hg n hn;have hl:=pI hg hok hn hf;exact⟨v,hf,(h1 n hn v hf).now k (by omega),xR (hok.file hf) (by omega)⟩
theorem aW.mono{s:SV}{C:Nat}{l:List Int}{cr cr':Nat→List (List UInt8)}(h:aW s C l cr)(hc:∀ k x,x∈cr k→x∈cr' k):aW s C l cr':=by
 obtain⟨M,h1,h2⟩:=h.ex;exact⟨M,h1,fun k hk=>(h2 k hk).re (hc k) fun _ _ _ hs=>.inl hs⟩
theorem aW.other{s z:SV}{C:Nat}{l:List Int}{cr:Nat→List (List UInt8)}(h:aW s C l cr)(hz:∀ n∈l,z.file n=s.file n):aW z C l cr:=by
 obtain⟨M,h1,h2⟩:=h.ex;exact⟨M,fun n hn v hv=>h1 n hn v (by rw[← hz n hn];exact hv),h2⟩
def kY(v u:IV):Prop:=∀ may may',Told v may→(∀ k x,x∈may k→x∈may' k)→(∀ k,k<4*v.t.length→u.sh k∈may' k)→Told u may'
theorem kY.write{v:IV}{U:List (Int × Int)}{m:Nat}(hs:Safe v U)(hok:v.ok m)(hm:m+10<1000000000)(c fr:Int)(s:ByteArray):kY v (v.write c fr s):=fun _ _ h hmay hn=>h.write hs hok hm c fr s hmay hn
theorem kY.clear{v:IV}{U:List (Int × Int)}{m:Nat}(hs:Safe v U)(hok:v.ok m)(hm:m+10<1000000000)(c:Int):kY v (v.clear c):=fun _ _ h hmay hn=>h.I4 hs hok hm c hmay hn
theorem kY.fill{v:IV}{U:List (Int × Int)}{m:Nat}(hs:Safe v U)(hok:v.ok m)(hm:m+10<1000000000)(c:Int)(s:ByteArray):kY v (v.fill c s):=fun _ _ h hmay hn=>h.KW hs hok hm c s hmay hn
theorem kY.fail(v:IV)(n:Int):kY v { v with d:=v.d.failing n }:=fun _ _ h hmay _=>(h.mono hmay).fail n
theorem aW.act{s:SV}{C:Nat}{l:List Int}{cr cr':Nat→List (List UInt8)}{n:Int}{v u:IV}(h:aW s C l cr)(hf:s.file n=some v)(hl:n∈l→v.t.length=C)(ha:n∈l→kY v u)(hc:∀ k x,x∈cr k→x∈cr' k)
  (hsh:n∈l→∀ k,k<4*C→u.sh k=v.sh k∨u.sh k≠[45]∧u.sh k∈cr' k):aW (s.upd n.toNat u) C l cr':=by
 obtain⟨M,h1,h2⟩:=h.ex;refine⟨fun i=>if i=n then fun k=>M n k++[u.sh k] else M i,fun i hi w hw=>?_,fun k hk=>(h2 k hk).re (hc k) fun i hi x hx=>?_⟩
 ·rw[SV.fM hf] at hw
  by_cases e:i=n
  ·rw[if_pos e] at hw
   cases hw
   simp only[if_pos e];rw[e] at hi;exact ha hi (M n) _ (h1 n hi v hf) (fun k x hx=>List.mem_append_left _ hx) fun k _=>List.mem_append_right _ (List.mem_singleton.2 rfl)
  ·rw[if_neg e] at hw
   simp only[if_neg e];exact h1 i hi w hw
 ·by_cases e:i=n
  ·simp only[if_pos e] at hx
   rw[e] at hi ⊢;rcases List.mem_append.1 hx with h3|h3
   ·exact .inl h3
   ·rw[List.mem_singleton.1 h3]
    rcases hsh hi k hk with h4|h4
    ·rw[h4];exact .inl ((h1 n hi v hf).now k (by rw[hl hi];exact hk))
    ·exact .inr h4
  ·simp only[if_neg e] at hx
   exact .inl hx
theorem aW.root{s:SV}{C m m':Nat}{r:List Int}{cr cr':Nat→List (List UInt8)}{n:Int}{v u:IV}(h:aW s C (n::r) cr)(hT:Top s C m n r v)(hu:u.ok m')(hul:u.t.length=v.t.length)(ha:kY v u)(hc:∀ k x,x∈cr k→x∈cr' k)
  (h0:∀ c,(u.t.getD c (0,0)).1=0→(v.t.getD c (0,0)).1=0) (hs:∀ k,k<4*C→(s.upd n.toNat u).sec (n::r) k∈cr' k):aW (s.upd n.toNat u) C (n::r) cr':=by
 refine h.act hT.file (fun _=>hT.len) (fun _=>ha) hc fun _ k hk=>?_
 by_cases e:u.sh k=[45]
 ·left
  rw[e,uV (h0 _ (xR hu (by rw[hul,hT.len];exact hk) e))]
 ·right
  have h1:=hs k hk;rw[Ag (v:=u) (by rw[SV.fM hT.file,if_pos rfl])] at h1
  split at h1
  ·next e0=>exact absurd (uV e0) e
  ·exact⟨e,h1⟩
theorem CZ{v:IV}{c:Nat}{s:ByteArray}{c2:Nat}(h:((v.fill (c:Int) s).t.getD c2 (0,0)).1=0):(v.t.getD c2 (0,0)).1=0:=by
 by_cases hF:v.dL (c:Int) s=0
 ·obtain⟨hc,q,hq⟩:=rE hF
  rw[hq,lD _ hc] at h;split at h
  ·cases h
  ·exact h
 ·rw[rD hF] at h;exact h
theorem BJ{v:IV}{c c2:Nat}(h:((v.clear (c:Int)).t.getD c2 (0,0)).1=0):(v.t.getD c2 (0,0)).1=0:=by
 by_cases hF:v.dU (c:Int)=0
 ·rw[(tK hF c2).1] at h
  split at h
  ·cases h
  ·exact h
 ·rw[tJ hF] at h;exact h
theorem GR{v:IV}{c f:Int}{s:ByteArray}{c2:Nat}(h:((v.write c f s).t.getD c2 (0,0)).1=0):(v.t.getD c2 (0,0)).1=0:=by rw[qx] at h;exact h
theorem KY(v:IV)(c:Nat)(s:ByteArray):(v.fill (c:Int) s).t.length=v.t.length:=by
 by_cases hF:v.dL (c:Int) s=0
 ·obtain⟨hc,q,hq⟩:=rE hF
  rw[hq,List.length_set]
 ·rw[rD hF]
theorem OV{v u:IV}{m m':Nat}(hv:v.ok m)(hu:u.ok m')(h:u.h=v.h):u.t.length=v.t.length:=by
 have h1:=hv.len;have h2:=hu.len;rw[h] at h2;omega
theorem aW.lay{s:SV}{C m:Nat}{n:Int}{r:List Int}{v:IV}{U:List (Int × Int)}{cr cr':Nat→List (List UInt8)}(h:aW s C (n::r) cr)(hT:Top s C m n r v)(hS:Safe v U)(hm:m+10<1000000000)(c f:Nat)(t:ByteArray)(hc:∀ k x,x∈cr k→x∈cr' k)
  (hs:∀ k,k<4*C→(s.lay (n::r) c f t).1.sec (n::r) k∈cr' k):aW (s.lay (n::r) c f t).1 C (n::r) cr':=by
 have hL:s.lay (n::r) c f t=if (v.bH c).1=2 then (s.upd n.toNat (v.write c f t),v.dB c f t) else
   (s.upd n.toNat (v.fill c ((s.read (n::r) c).1.extract 0 (f*16)++t++(s.read (n::r) c).1.extract (f*16+t.size) 64)),v.dL c ((s.read (n::r) c).1.extract 0 (f*16)++t++(s.read (n::r) c).1.extract (f*16+t.size) 64)):=by
  unfold SV.lay;simp only
  rw[hT.file]
 rw[hL] at hs ⊢;split
 ·next h2 =>
  rw[if_pos h2] at hs;exact h.root hT (hT.vok.write _ _ _ (by omega)) (by rw[qx]) (.write hS hT.vok hm _ _ _) hc (fun _=>GR) hs
 ·next h2 =>
  rw[if_neg h2] at hs;exact h.root hT (hT.vok.fill _ _ (by omega)) (KY _ _ _) (.fill hS hT.vok hm _ _) hc (fun _=>CZ) hs
theorem aW.bK{s:SV}{C m:Nat}{n:Int}{r:List Int}{v:IV}{U:List (Int × Int)}{cr cr':Nat→List (List UInt8)}(h:aW s C (n::r) cr)(hT:Top s C m n r v)(hS:Safe v U)(hm:m+10<1000000000)(p:Pt)(hc:∀ k x,x∈cr k→x∈cr' k)
  (hs:∀ k,k<4*C→(SV.bK (n::r) s p).1.sec (n::r) k∈cr' k):aW (SV.bK (n::r) s p).1 C (n::r) cr':=by
 have hW:SV.bK (n::r) s p=if p.n=4 then (s.upd n.toNat (v.clear p.c),v.dU p.c) else if (v.bH p.c).1=1 then (s,0) else s.lay (n::r) p.c p.f (eH (p.n*16)):=by
  unfold SV.bK;simp only
  rw[hT.file]
 rw[hW] at hs ⊢;split
 ·next h4 =>
  rw[if_pos h4] at hs;exact h.root hT (hT.vok.clear _ (by omega)) (OV hT.vok (hT.vok.clear _ (by omega)) (IV.rC _ _)) (.clear hS hT.vok hm _) hc (fun _=>BJ) hs
 ·next h4 =>
  rw[if_neg h4] at hs;split
  ·exact h.mono hc
  ·next h1 =>
   rw[if_neg h1] at hs;exact h.lay hT hS hm _ _ _ hc hs
theorem aW.dY{op:SV→Pt→SV × Int}{C:Nat}{n:Int}{r:List Int}{fr N:Nat}{x:Nat→List UInt8}{cr:Nat→List (List UInt8)}(hN:fr+N≤4*C)(hx:∀ k,fr≤k→k<fr+N→x k∈cr k)
  (hop:∀(s:SV) (m:Nat) (p:Pt),fA s C m n r→m+10<1000000000→p.fits fr N C→Laid s (op s p).1 C (n::r) (fr+p.a) (fr+p.a+p.n) x ((op s p).2=0)∧fA (op s p).1 C (m+10) n r)
  (hpt:∀(s:SV) (m:Nat) (p:Pt),fA s C m n r→m+10<1000000000→aW s C (n::r) cr→(∀ k,k<4*C→(op s p).1.sec (n::r) k∈cr k)→aW (op s p).1 C (n::r) cr) :
  ∀(k a:Nat) (s:SV) (m:Nat),N-a≤k→fA s C m n r→m+10*k<1000000000→aW s C (n::r) cr→aW (dY op s (aO fr N a)).1 C (n::r) cr:=by
 intro k
 induction k with
 | zero =>
  intro a s m ha hs _ h;rw[mM (by omega)]
  exact h
 | succ k ih =>
  intro a s m ha hs hm h;by_cases hlt:a<N
  ·have h1:=oJ (fr:=fr) hlt
   have hf:=wW (C:=C) hlt hN;rw[oM hlt,nP];generalize ep:eG fr N a=p at h1 hf ⊢;have ea:p.a=a:=by rw[← ep];rfl
   have han:=hf.an;obtain⟨l1,s1⟩:=hop s m p hs (by omega) hf
   have h2:aW (op s p).1 C (n::r) cr:=hpt s m p hs (by omega) h fun i hi=>by
    have hsec:s.sec (n::r) i∈cr i:=by obtain⟨v,U,hT,_⟩:=hs;exact h.sec hT.good hT.ok hi
    rcases l1.any i hi with e|⟨e1,e2⟩
    ·rw[e];exact hsec
    ·rw[e2];exact hx i (by omega) (by omega)
   split
   ·exact ih (a+p.n) (op s p).1 (m+10) (by omega) s1 (by omega) h2
   ·exact h2
  ·rw[mM hlt]
   exact h
theorem aW.put{s:SV}{C m:Nat}{n:Int}{r:List Int}{cr cr':Nat→List (List UInt8)}(h:aW s C (n::r) cr)(hT:fA s C m n r){fr:Nat}{t:ByteArray}(ht:t.size % 16=0)(hf:s.bP (n::r) (fr:Int) ((t.size / 16:Nat):Int)=0)(hm:m+10*(t.size / 16)<1000000000)
  (hc:∀ k x,x∈cr k→x∈cr' k) (hx:∀ k,fr≤k→k<fr+t.size / 16→chunk t (k-fr)∈cr' k):aW (s.put (n::r) (fr:Int) t).1 C (n::r) cr':=by
 have hg:s.good (C:Int) (n::r):=by obtain⟨v,U,h1,_⟩:=hT;exact h1.good
 obtain⟨_,_,_,hr⟩:=SV.jr hg hf;unfold SV.put;rw[if_pos ht,if_pos hf,show((fr:Int)).toNat=fr by omega]
 exact aW.dY (op:=SV.iM (n::r) t) (x:=fun k=>chunk t (k-fr)) (by omega) hx (fun s m p hs hm hp=>⟨EI hs (by omega) (by omega) hp,hs.lay (by omega) _ _ _⟩)
  (fun s m p hs hm h hv=>by obtain⟨v,U,hT,hS⟩:=hs;exact h.lay hT hS hm _ _ _ (fun _ _ e=>e) hv) (t.size / 16) 0 s m (by omega) hT hm (h.mono hc)
theorem aW.wipe{s:SV}{C m:Nat}{n:Int}{r:List Int}{cr cr':Nat→List (List UInt8)}(h:aW s C (n::r) cr)(hT:fA s C m n r){fr N:Nat}(hf:s.bP (n::r) (fr:Int) (N:Int)=0)(hm:m+10*N<1000000000)
  (hc:∀ k x,x∈cr k→x∈cr' k) (hx:∀ k,fr≤k→k<fr+N→noughts∈cr' k):aW (s.wipe (n::r) (fr:Int) (N:Int)).1 C (n::r) cr':=by
 have hg:s.good (C:Int) (n::r):=by obtain⟨v,U,h1,_⟩:=hT;exact h1.good
 obtain⟨_,_,_,hr⟩:=SV.jr hg hf;unfold SV.wipe;rw[if_pos hf,show((fr:Int)).toNat=fr by omega,show((N:Int)).toNat=N by omega]
 exact aW.dY (op:=SV.bK (n::r)) (x:=fun _=>noughts) (by omega) hx (fun s m p hs hm hp=>AP hs (by omega) hp)
  (fun s m p hs hm h hv=>by obtain⟨v,U,hT,hS⟩:=hs;exact h.bK hT hS hm _ (fun _ _ e=>e) hv) N 0 s m (by omega) hT hm (h.mono hc)
theorem Ot{v:IV}{m:Nat}(hok:v.ok m)(hg:gI v.h v.t)(hm:m+10≤1000000000){c:Nat}(hc:c<v.t.length){t:ByteArray}(ht:t.size=64){c2 j:Nat}(hc2:c2<v.t.length)(hj:j<4) :
  (v.mv (c:Int) t).1.sh (4*c2+j)=v.sh (4*c2+j)∨c=c2∧(v.mv (c:Int) t).1.sh (4*c2+j)=chunk t j:=by
 by_cases e:c=c2
 ·subst e
  by_cases hF:(v.mv (c:Int) t).2=0
  ·exact .inr ⟨rfl,(wX hok hg hm hc ht hF hj).2⟩
  ·by_cases h2:(v.t.getD c (0,0)).1=2
   ·unfold IV.mv at hF ⊢
    split
    ·next et =>
     rw[if_pos et] at hF;exact .inl (tH hF _)
    ·next et =>
     rw[if_pos (by rw[jW];exact h2)]
     have h3:=((vG hok hg hm (AU hc ht) h2 hc hj).2 rfl (by omega) (by omega)).2
     rw[Nat.sub_zero] at h3;rcases h3 with h3|h3
     ·exact .inr ⟨rfl,h3⟩
     ·exact .inl h3
   ·exact .inl (Eh hok hF h2 hc hj).2
 ·exact .inl (zG hok hg hm hc ht e hc2 hj).2
theorem kY.mv{v:IV}{U:List (Int × Int)}{m:Nat}(hs:Safe v U)(hok:v.ok m)(hm:m+10<1000000000)(c:Int)(t:ByteArray):kY v (v.mv c t).1:=by
 unfold IV.mv;split
 ·exact .clear hs hok hm c
 ·split
  ·exact .write hs hok hm c 0 t
  ·exact .fill hs hok hm c t
theorem aW.move{s:SV}{C m:Nat}{l:List Int}{cr:Nat→List (List UInt8)}(h:aW s C l cr)(hg:s.good (C:Int) l)(hok:s.ok m)(hS:aZ s)(hm:m+10<1000000000)(n:Int){c:Nat}(hc:c<C){t:ByteArray}(ht:t.size=64)
  (hx:∀ j,j<4→chunk t j≠[45]∧chunk t j∈cr (4*c+j)):aW (s.move n (c:Int) t).1 C l cr:=by
 cases hf:s.file n with
 | none=>unfold SV.move;rw[hf];exact h
 | some v =>
  rw[qJ hf];obtain⟨U,hs⟩:=hS.file hf;have hv:=hok.file hf;refine h.act hf (fun hn=>pI hg hok hn hf) (fun _=>.mv hs hv hm _ _) (fun _ _ e=>e) fun hn k hk=>?_
  have hl:=pI hg hok hn hf;have:=Ot hv (hs.sub.good hs.good) (by omega) (c:=c) (by omega) ht (c2:=k / 4) (j:=k % 4) (by omega) (by omega)
  rw[show 4*(k / 4)+k % 4=k by omega] at this
  rcases this with h1|⟨h1,h2⟩
  ·exact .inl h1
  ·right
   have h3:=hx (k % 4) (by omega)
   rw[h1,show 4*(k / 4)+k % 4=k by omega] at h3
   rw[h2];exact h3
theorem Told.flat{v:IV}{U:List (Int × Int)}{m:Nat}(hs:Safe v U)(hok:v.ok m):Told v.flush (fun k=>[v.sh k]) :=
 yc (hs.flush hok.d.sn) hok.flush (fun i s h=>by
  rcases h with h|⟨x,hx,_⟩
  ·exact h
  ·cases hx) rfl fun k _=>List.mem_singleton.2 (FN v k)
theorem aW.cZ{s:SV}{C m:Nat}{l:List Int}{cr:Nat→List (List UInt8)}(h:aW s C l cr)(hg:s.good (C:Int) l)(hok:s.ok m)(hS:aZ s)(n:Int):aW (s.cZ n) C l cr:=by
 unfold SV.cZ;split
 ·exact h
 ·next v hf =>
  obtain⟨U,hs⟩:=hS.file hf;refine h.act hf (fun hn=>pI hg hok hn hf) (fun _ may may' hT hmay hn=>?_) (fun _ _ e=>e) fun hn k hk=>.inl (FN v k)
  exact hT.flush hs (hok.file hf) hn
theorem aW.bQ{C m:Nat}{l:List Int}{cr:Nat→List (List UInt8)}:∀(q:List Int) {s:SV},aW s C l cr→s.good (C:Int) l→s.ok m→aZ s→aW (s.bQ q) C l cr:=by
 intro q
 induction q with
 | nil=>intro s h _ _ _;exact h
 | cons n q ih=>intro s h hg hok hS;exact ih (h.cZ hg hok hS n) ((bF.cZ l s n).good hg) (hok.cZ n) (hS.cZ hok n)
end Go.Proofs.YtonhoahnieoebabGreatDoor
