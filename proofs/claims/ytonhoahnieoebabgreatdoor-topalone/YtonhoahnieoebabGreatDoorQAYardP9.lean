/- A step of a yard's job (J5). -/
import Derived.Test.YtonhoahnieoebabGreatDoorQAYardP7
set_option maxHeartbeats 2000000
set_option maxRecDepth 100000
namespace Go.Proofs.YtonhoahnieoebabGreatDoor
open Go.RowKit Go.Maps
attribute [local go_sem ↓] Go.wp_at_zero Go.wp_at_succ
theorem Um{yp m C:Nat}{Y:Yh}{y:YV}{j:JV}(w:World)(h:ay w yp Y y)(hs:y.s.ok m)(hj:y.j=some j)(hok:JOk y.s C j)(hm:m+10<1000000000) :
  Calls Tryz.prog 148 #[.pointer (some ⟨Y.jb.jp,0,none⟩)] w fun e w' =>
   (dH y.s j≠0∧e=.returned (.tuple #[.bool false,erV (dH y.s j)])∧au yp Y y { y with s:=aF y.s j,j:=some (aK y.s j) } w w') ∨
   (dH y.s j=0∧e=.returned (.tuple #[.bool true,.nilIface])∧au yp Y y { y with s:=aF y.s j,j:=some (kR (aK y.s j) true) } w w'):=by
 have HSE:=ah (Hq w h hs hj hok hm)
 have HE:Hid (∀ W:World,au yp Y y { y with s:=aF y.s j,j:=some (aK y.s j) } w W→Calls Tryz.prog 95 #[.pointer (some ⟨Y.jb.jp,0,none⟩),.bool true] W fun e w'=>e=.returned (.tuple #[])∧au yp Y y { y with s:=aF y.s j,j:=some (kR (aK y.s j) true) } w w'):=fun W ⟨Y1,e1,h1,h3⟩=>by
  rw[← e1];refine(AX (C:=C) true W h1 (hs.settle j (by omega)) rfl hok.settle).mono ?_
  rintro e w' ⟨rfl,hd⟩;exact⟨rfl,au.trans e1 h3 hd⟩
 clear h hs hj hok;generalize ({ y with s:=aF y.s j,j:=some (aK y.s j) }:YV)=z1 at HSE HE ⊢
 generalize ({ y with s:=aF y.s j,j:=some (kR (aK y.s j) true) }:YV)=z2 at HE ⊢
 generalize dH y.s j=F at HSE ⊢;by_cases hF:F=0
 ·rw[hF,aB] at HSE
  go_enter Tryz.func148,Tryz.ntmps148
  go_wp2_with fail
  refine HSE.out.mono ?_;rintro e w1 ⟨rfl,hd⟩;have HE1:=ah (HE.out _ hd);clear hd HE HSE;go_wp2_with fail
  refine HE1.out.mono ?_;rintro e w2 ⟨rfl,hd⟩;have HD:=ah hd;clear hd HE1;go_wp2
  go_ret2
  exact .inr ⟨hF,rfl,HD.out⟩
 ·rw[aT hF] at HSE ⊢
  clear HE;go_enter Tryz.func148,Tryz.ntmps148
  go_wp2_with fail
  refine HSE.out.mono ?_;rintro e w1 ⟨rfl,hd⟩;have HD:=ah hd;clear hd HSE;go_wp2
  go_ret2
  exact .inl ⟨hF,rfl,HD.out⟩
theorem FW{s:SV}{j:JV}(h:eU s j≠0):jG s j=false:=by
 unfold eU at h;unfold jG;refine decide_eq_false ?_;rintro⟨h1,h2,h3,h4⟩;rw[if_pos h1] at h;split at h
 ·next hx=>exact h4 ⟨hx.2.2,h⟩
 ·exact h rfl
theorem RH{s:SV}{j:JV}(hg:j.stage<4):(stepJ s j).stage<4∨((stepJ s j).stage=5∧eU s j≠0):=by
 unfold stepJ;split
 ·next hx =>
  split
  ·next hw =>
   refine .inr ⟨rfl,?_⟩;unfold eU;rw[if_pos hx.1,if_pos ⟨hx.2.1,hx.2.2,hw.1⟩];exact hw.2
  ·have e:∀ c,(j.went c).stage=j.stage:=fun _=>rfl
   rw[e];exact .inl hg
 ·exact .inl hg
theorem RQ{s:SV}{j:JV}(hg:j.stage=1∨j.stage=2)(h:(stepJ s j).state=3):eU s j=0:=by
 refine Classical.byContradiction fun hf=>?_
 rcases hg with h1|h1
 ·have hB:=FW hf
  unfold eU at hf;rw[if_pos h1] at hf;split at hf
  ·next hx =>
   have:stepJ s j=j.fell:=by
    unfold stepJ;rw[if_pos ⟨h1,hx.1,hx.2.1⟩,if_pos ⟨hx.2.2,hf⟩]
   rw[this] at h;unfold JV.state at h;split at h
   ·next hy=>exact absurd hy.1 (by show ¬(5:Int)=1;decide)
   ·exact absurd h (by show ¬(5:Int)=3;decide)
  ·exact hf rfl
 ·have:stepJ s j=j:=by
   unfold stepJ;rw[if_neg (fun e=>by omega)]
  rw[this] at h;unfold JV.state at h;split at h
  ·next hy=>omega
  ·omega
theorem UJ{yp C m:Nat}{Y:Yh}{y:YV}(w:World)(h:ay w yp Y y)(hY:YOk y C m)(hT:S4.Tab w)(hm:m+30<1000000000) :
  Calls Tryz.prog 54 #[.pointer (some ⟨yp,0,none⟩)] w fun e w'=>e=.returned (.tuple #[.bool y.jG,erV y.eU])∧au yp Y y y.step w w':=by
 have HG:=ah (og w h);by_cases hb:y.busy=true
 ·obtain⟨j,hj,hg⟩:=mW hb
  have hin:=hY.job j hj hg;rw[pG hb] at HG;have ek:y.kd.kind=j.kind:=by rw[← hin.dsk];rfl
  have hr:=hY.root;have hst12:j.stage=1∨j.stage=2:=by rcases hin.ok.stage with e|e|e|e<;>omega
  obtain⟨jl,jk⟩:=iO y.s j;have jkind:(stepJ y.s j).kind=j.kind:=by have:=congrArg aS.kind jk;exact this
  have HST:=ah (Ux w h hY.s hj hin.ok hT (by omega))
  have hs1:(stepS y.s j).ok (m+10):=hY.s.step j (by omega)
  have hok1:JOk (stepS y.s j) C (stepJ y.s j):=hin.ok.step
  have HSU:Hid (∀ W:World,au yp Y y { y with s:=stepS y.s j,j:=some (stepJ y.s j) } w W→Calls Tryz.prog 25 #[.pointer (some ⟨Y.jb.jp,0,none⟩)] W fun e w'=>e=.returned (.agg #[.int .i64 j.kind,.int .i64 (stepJ y.s j).file,.int .i64 (stepJ y.s j).state,.int .i64 (S4.cnt (stepJ y.s j).x 64:Nat)])∧∀ o,au yp Y y { y with s:=stepS y.s j,j:=some (stepJ y.s j) } w (w'.alloc o)):=fun W ⟨Y1,e1,h1,h3⟩=>by
   rw[← e1];refine(xW W (h1.job _ rfl).1 hok1.set).mono ?_;rintro e w' ⟨rfl,hb⟩;refine⟨by rw[jkind],fun o=>⟨Y1,e1,h1.below (hb.alloc hb.size o),h3.trans (Moved.of_below (hb.alloc hb.size o))⟩⟩
  have HGO:Hid (∀(z:YV) (jz:JV) (W:World),z.j=some jz→au yp Y y z w W→Calls Tryz.prog 27 #[.pointer (some ⟨Y.jb.jp,0,none⟩)] W fun e w'=>e=.returned (.bool (decide (jz.stage<4)))∧w'=W):=fun z jz W hz ⟨Y1,e1,h1,h3⟩=>by
   rw[← e1];exact zl W (h1.job _ hz).1
  have HRO:Hid (∀(z:YV) (W:World),z.kd=y.kd→au yp Y y z w W→W.cell? ⟨yp,11,none⟩=some (.int .i64 y.kd.root)):=fun z W hz ⟨Y1,e1,h1,h3⟩=>by
   have:=h1.blk.cells.2.2.2.1
   rw[hz] at this;exact this
  have HID:Hid (∀ W:World,Calls Tryz.prog 103 #[.int .i64 y.kd.root] W fun e w'=>e=.returned (.agg #[.int .i64 (ak y.kd.root).root,.int .i64 (ak y.kd.root).kind,.int .i64 (ak y.kd.root).file,.int .i64 (ak y.kd.root).rate,.int .i64 (ak y.kd.root).burst])∧Below W.heap.size W w'):=fun W=>vJ y.kd.root W
  have HDK:Hid (∀(z:YV) (W W':World),z.top=y.top→au yp Y y z w W→Below W.heap.size W W'→Calls Tryz.prog 102 #[.pointer (some ⟨yp,0,none⟩),.agg #[.int .i64 (ak y.kd.root).root,.int .i64 (ak y.kd.root).kind,.int .i64 (ak y.kd.root).file,.int .i64 (ak y.kd.root).rate,.int .i64 (ak y.kd.root).burst]] W' fun e w'=>e=.returned (erV z.bJ)∧au yp Y y (z.aj (ak y.kd.root)) w w'):=fun z W W' hz hd hb=>by
   obtain⟨Y1,e1,h1,h3⟩:=hd;refine(sK (m:=m) (ak y.kd.root) W' (h1.below hb) (by rw[hz];exact hY.top) (jH hr.1 hr.2) (by omega)).mono ?_
   rintro e w' ⟨rfl,h4⟩;exact⟨rfl,au.trans e1 h3 (au.from hb h4)⟩
  have hsV:y.step=if eU y.s j≠0 then (if (stepJ y.s j).stage=5 then ({ y with s:=stepS y.s j,j:=some (stepJ y.s j) }:YV).aj (ak y.kd.root) else { y with s:=stepS y.s j,j:=some (stepJ y.s j) })
    else if y.kd.kind≠2∨(stepJ y.s j).state≠3 then { y with s:=stepS y.s j,j:=some (stepJ y.s j) }
    else if dH (stepS y.s j) (stepJ y.s j)≠0 then ({ y with s:=aF (stepS y.s j) (stepJ y.s j),j:=some (aK (stepS y.s j) (stepJ y.s j)) }:YV).aj (ak y.kd.root)
    else { ({ y with s:=aF (stepS y.s j) (stepJ y.s j),l:=((aF (stepS y.s j) (stepJ y.s j)).walk y.kd.root).1,j:=some ((aK (stepS y.s j) (stepJ y.s j)).at 4) }:YV).aj (ak y.kd.root) with kd:=ak y.kd.root }:=by
   unfold YV.step;rw[hj];show(if 4≤j.stage then _ else _)=_;rw[if_neg (by omega)]
  have hsF:y.eU=if eU y.s j≠0 then eU y.s j else if y.kd.kind≠2∨(stepJ y.s j).state≠3 then 0 else dH (stepS y.s j) (stepJ y.s j):=by
   unfold YV.eU;rw[hj];show(if 4≤j.stage then _ else _)=_;rw[if_neg (by omega)]
  have hsB:y.jG=if eU y.s j≠0 then false else if y.kd.kind≠2∨(stepJ y.s j).state≠3 then jG y.s j else decide (dH (stepS y.s j) (stepJ y.s j)=0):=by
   unfold YV.jG;rw[hj];show(if 4≤j.stage then _ else _)=_;rw[if_neg (by omega)]
  by_cases hC:j.kind=2∧(stepJ y.s j).state=3
  ·have hF0:=RQ hst12 hC.2
   have HCO:Hid (∀ W:World,au yp Y y { y with s:=stepS y.s j,j:=some (stepJ y.s j) } w W→Calls Tryz.prog 148 #[.pointer (some ⟨Y.jb.jp,0,none⟩)] W fun e w' =>
     (dH (stepS y.s j) (stepJ y.s j)≠0∧e=.returned (.tuple #[.bool false,erV (dH (stepS y.s j) (stepJ y.s j))])∧au yp Y y { y with s:=aF (stepS y.s j) (stepJ y.s j),j:=some (aK (stepS y.s j) (stepJ y.s j)) } w w') ∨
     (dH (stepS y.s j) (stepJ y.s j)=0∧e=.returned (.tuple #[.bool true,.nilIface])∧au yp Y y { y with s:=aF (stepS y.s j) (stepJ y.s j),j:=some (kR (aK (stepS y.s j) (stepJ y.s j)) true) } w w')):=fun W ⟨Y1,e1,h1,h3⟩=>by
    rw[← e1];refine(Um (m:=m+10) (C:=C) W h1 hs1 rfl hok1 (by omega)).mono ?_
    rintro e w' (⟨q1,q2,q3⟩|⟨q1,q2,q3⟩)
    ·exact .inl ⟨q1,q2,au.trans e1 h3 q3⟩
    ·exact .inr ⟨q1,q2,au.trans e1 h3 q3⟩
   have g1:(j.kind==2)=true:=by simpa using hC.1
   have g2:((stepJ y.s j).state==3)=true:=by simpa using hC.2
   have hsV1:y.step=if dH (stepS y.s j) (stepJ y.s j)≠0 then ({ y with s:=aF (stepS y.s j) (stepJ y.s j),j:=some (aK (stepS y.s j) (stepJ y.s j)) }:YV).aj (ak y.kd.root)
    else { ({ y with s:=aF (stepS y.s j) (stepJ y.s j),l:=((aF (stepS y.s j) (stepJ y.s j)).walk y.kd.root).1,j:=some ((aK (stepS y.s j) (stepJ y.s j)).at 4) }:YV).aj (ak y.kd.root) with kd:=ak y.kd.root }:=by
    rw[hsV,if_neg (by rw[hF0];simp),if_neg (by rintro(e|e);exact e (ek.trans hC.1);exact e hC.2)]
   have hsF1:y.eU=dH (stepS y.s j) (stepJ y.s j):=by rw[hsF,if_neg (by rw[hF0];simp),if_neg (by rintro(e|e);exact e (ek.trans hC.1);exact e hC.2)]
   have hsB1:y.jG=decide (dH (stepS y.s j) (stepJ y.s j)=0):=by rw[hsB,if_neg (by rw[hF0];simp),if_neg (by rintro(e|e);exact e (ek.trans hC.1);exact e hC.2)]
   have hS5:dH (stepS y.s j) (stepJ y.s j)≠0→(aK (stepS y.s j) (stepJ y.s j)).stage=5:=fun hf=>by
    have h2:=hC.1;rw[← jkind] at h2;obtain⟨_,e2⟩:=uU (s:=stepS y.s j) hC.2 h2;rw[e2] at hf;rw[uT hC.2 h2 hf];rfl
   have HN1:Hid (dH (stepS y.s j) (stepJ y.s j)≠0→decide ((aK (stepS y.s j) (stepJ y.s j)).stage<4)=false):=fun hf=>decide_eq_false (by rw[hS5 hf];decide)
   have HN2:Hid (decide ((kR (aK (stepS y.s j) (stepJ y.s j)) true).stage<4)=false):=decide_eq_false (by show ¬(4:Int)<4;decide)
   have HK2:Hid (∀ W:World,dH (stepS y.s j) (stepJ y.s j)=0→au yp Y y (({ y with s:=aF (stepS y.s j) (stepJ y.s j),j:=some (kR (aK (stepS y.s j) (stepJ y.s j)) true) }:YV).aj (ak y.kd.root)) w W→au yp Y y y.step w W):=fun W hf hd=>by
    rw[hsV1,if_neg (by rw[hf];simp)]
    refine hd.re ?_ ?_ ?_ ?_ ?_
    all_goals (unfold YV.aj;split<;>rfl)
   have HK1:Hid (∀ W:World,dH (stepS y.s j) (stepJ y.s j)≠0→au yp Y y (({ y with s:=aF (stepS y.s j) (stepJ y.s j),j:=some (aK (stepS y.s j) (stepJ y.s j)) }:YV).aj (ak y.kd.root)) w W→au yp Y y y.step w W):=fun W hf hd=>by
    rw[hsV1,if_pos hf];exact hd
   rw[hsF1,hsB1];rw[hF0,aB] at HST;clear hsV hsF hsB hsV1 hsF1 hsB1 hS5 h hY hb hj hg hin ek hr hst12 jl jk jkind hs1 hok1 hC hF0 hT;have HDK1:=ah (fun W W'=>HDK.out ({ y with s:=aF (stepS y.s j) (stepJ y.s j),j:=some (aK (stepS y.s j) (stepJ y.s j)) }:YV) W W' rfl)
   have HDK2:=ah (fun W W'=>HDK.out ({ y with s:=aF (stepS y.s j) (stepJ y.s j),j:=some (kR (aK (stepS y.s j) (stepJ y.s j)) true) }:YV) W W' rfl)
   have HRO1:=ah (fun W=>HRO.out ({ y with s:=aF (stepS y.s j) (stepJ y.s j),j:=some (aK (stepS y.s j) (stepJ y.s j)) }:YV) W rfl)
   have HRO2:=ah (fun W=>HRO.out ({ y with s:=aF (stepS y.s j) (stepJ y.s j),j:=some (kR (aK (stepS y.s j) (stepJ y.s j)) true) }:YV) W rfl)
   have HGO1:=ah (fun W=>HGO.out ({ y with s:=aF (stepS y.s j) (stepJ y.s j),j:=some (aK (stepS y.s j) (stepJ y.s j)) }:YV) _ W rfl)
   have HGO2:=ah (fun W=>HGO.out ({ y with s:=aF (stepS y.s j) (stepJ y.s j),j:=some (kR (aK (stepS y.s j) (stepJ y.s j)) true) }:YV) _ W rfl)
   rw[HN2.out] at HGO2;clear HDK HRO HGO HN2;generalize y.step=zf at HK1 HK2 ⊢;generalize ({ y with s:=aF (stepS y.s j) (stepJ y.s j),j:=some (aK (stepS y.s j) (stepJ y.s j)) }:YV)=z2 at HCO HDK1 HRO1 HGO1 HK1
   generalize ({ y with s:=aF (stepS y.s j) (stepJ y.s j),j:=some (kR (aK (stepS y.s j) (stepJ y.s j)) true) }:YV)=z3 at HCO HDK2 HRO2 HGO2 HK2
   generalize ({ y with s:=stepS y.s j,j:=some (stepJ y.s j) }:YV)=z1 at HST HSU HCO
   generalize decide ((aK (stepS y.s j) (stepJ y.s j)).stage<4)=dg at HGO1 HN1;generalize dH (stepS y.s j) (stepJ y.s j)=SF at HCO HN1 HK1 HK2 ⊢;generalize (stepJ y.s j).state=st at HSU g2;generalize (stepJ y.s j).file=fl at HSU;generalize S4.cnt (stepJ y.s j).x 64=ct at HSU;generalize jG y.s j=b1 at HST;go_enter Tryz.func54,Tryz.ntmps54
   go_wp2_with fail
   refine HG.out.mono ?_;rintro e w' ⟨rfl,hw⟩;have hw':=hw.symm;subst hw';clear hw HG;go_wp2_with fail
   refine HST.out.mono ?_;rintro e w1 ⟨rfl,hd1⟩;have HS1:=ah (HSU.out _ hd1);clear hd1 HST HSU;go_wp2_with fail
   refine HS1.out.mono ?_;rintro e w2 ⟨rfl,hd2⟩;have HC1:=ah (HCO.out _ (hd2 (.cells #[.int .i64 j.kind,.int .i64 fl,.int .i64 st,.int .i64 (ct:Int)] 56)));clear hd2 HS1 HCO;go_wp2_with fail
   refine HC1.out.mono ?_;rintro e w3 (⟨hf,rfl,hd3⟩|⟨hf,rfl,hd3⟩)
   ·have HG1:=ah (HGO1.out _ hd3)
    rw[HN1.out hf] at HG1;have HD3:=ah hd3;clear hd3 HC1 HGO1 HGO2 HK2 HDK2 HRO2 HN1;go_wp2_with fail
    refine HG1.out.mono ?_;rintro e w' ⟨rfl,hw⟩;have hw':=hw.symm;subst hw';clear hw HG1;have c11:=HRO1.out _ HD3.out;have HKD:=ah (fun W' hb=>HDK1.out _ W' HD3.out hb)
    clear HD3 HRO1 HDK1;go_wp2_with fail
    refine(HID.out _).mono ?_;rintro e w5 ⟨rfl,hb5⟩;have HK5:=ah (HKD.out _ hb5);clear hb5 HKD HID;go_wp2_with fail
    refine HK5.out.mono ?_;rintro e w6 ⟨rfl,hd6⟩;have HD:=ah (HK1.out _ hf hd6);clear hd6 HK5 HK1;go_wp2
    go_ret2
    exact⟨by rw[decide_eq_false hf];rfl,HD.out⟩
   ·have HG1:=ah (HGO2.out _ hd3)
    have HD3:=ah hd3;clear hd3 HC1 HGO1 HGO2 HK1 HDK1 HRO1 HN1;go_wp2_with fail
    refine HG1.out.mono ?_;rintro e w' ⟨rfl,hw⟩;have hw':=hw.symm;subst hw';clear hw HG1;have c11:=HRO2.out _ HD3.out;have HKD:=ah (fun W' hb=>HDK2.out _ W' HD3.out hb)
    clear HD3 HRO2 HDK2;go_wp2_with fail
    refine(HID.out _).mono ?_;rintro e w5 ⟨rfl,hb5⟩;have HK5:=ah (HKD.out _ hb5);clear hb5 HKD HID;go_wp2_with fail
    refine HK5.out.mono ?_;rintro e w6 ⟨rfl,hd6⟩;have HD:=ah (HK2.out _ hf hd6);clear hd6 HK5 HK2;go_wp2
    go_ret2
    exact⟨by rw[decide_eq_true hf,hf,aB];rfl,HD.out⟩
  ·have hCn:y.kd.kind≠2∨(stepJ y.s j).state≠3:=by
    by_cases e:j.kind=2
    ·exact .inr fun e2=>hC ⟨e,e2⟩
    ·exact .inl fun e2=>e (ek.symm.trans e2)
   have hsF1:y.eU=eU y.s j:=by
    rw[hsF];by_cases e:eU y.s j=0
    ·rw[if_neg (fun h=>h e),if_pos hCn,e]
    ·rw[if_pos e]
   have hsB1:y.jG=jG y.s j:=by
    rw[hsB];by_cases e:eU y.s j=0
    ·rw[if_neg (fun h=>h e),if_pos hCn]
    ·rw[if_pos e,FW e]
   have gC:(j.kind==2&&(stepJ y.s j).state==3)=false:=by
    cases ha:(j.kind==2) with
    | false=>rfl
    | true =>
     have:¬(stepJ y.s j).state=3:=fun e=>hC ⟨by simpa using ha,e⟩
     simpa using this
   rw[hsF1,hsB1];by_cases hgo:(stepJ y.s j).stage<4
   ·have hsV1:y.step={ y with s:=stepS y.s j,j:=some (stepJ y.s j) }:=by
     rw[hsV];by_cases e:eU y.s j=0
     ·rw[if_neg (fun h=>h e),if_pos hCn]
     ·rw[if_pos e,if_neg (by omega)]
    have HGO1:=ah (fun W=>HGO.out ({ y with s:=stepS y.s j,j:=some (stepJ y.s j) }:YV) _ W rfl)
    rw[decide_eq_true hgo] at HGO1;rw[hsV1];clear hsV hsF hsB hsV1 hsF1 hsB1 h hY hb hj hg hin ek hr hst12 jl jk jkind hs1 hok1 hT hgo hCn HGO HDK HRO HID;generalize ({ y with s:=stepS y.s j,j:=some (stepJ y.s j) }:YV)=z1 at HST HSU HGO1 ⊢
    generalize jG y.s j=b1 at HST ⊢;generalize erV (eU y.s j)=E1 at HST ⊢;generalize (stepJ y.s j).state=st at HSU gC hC;generalize (stepJ y.s j).file=fl at HSU;generalize S4.cnt (stepJ y.s j).x 64=ct at HSU;go_enter Tryz.func54,Tryz.ntmps54
    go_wp2_with fail
    refine HG.out.mono ?_;rintro e w' ⟨rfl,hw⟩;have hw':=hw.symm;subst hw';clear hw HG;go_wp2_with fail
    refine HST.out.mono ?_;rintro e w1 ⟨rfl,hd1⟩;have HS1:=ah (HSU.out _ hd1);clear hd1 HST HSU;go_wp2_with fail
    refine HS1.out.mono ?_;rintro e w2 ⟨rfl,hd2'⟩;have hd2:=hd2' (.cells #[.int .i64 j.kind,.int .i64 fl,.int .i64 st,.int .i64 (ct:Int)] 56);clear hd2';have HG1:=ah (HGO1.out _ hd2);have HD2:=ah hd2;clear hd2 HS1 HGO1
    have hk2:((j.kind==2)=false)∨((j.kind==2)=true∧(st==3)=false):=by
     cases ha:(j.kind==2) with
     | false=>exact .inl rfl
     | true=>rw[ha] at gC;exact .inr ⟨rfl,by simpa using gC⟩
    clear gC hC;rcases hk2 with g1|⟨g1,g2⟩
    all_goals
     go_wp2_with fail
     refine HG1.out.mono ?_;rintro e w' ⟨rfl,hw⟩;have hw':=hw.symm;subst hw';clear hw HG1;go_wp2
     go_ret2
     exact⟨rfl,HD2.out⟩
   ·have h5:(stepJ y.s j).stage=5∧eU y.s j≠0:=by
     rcases RH (s:=y.s) hg with e|e
     ·exact absurd e hgo
     ·exact e
    have hsV1:y.step=({ y with s:=stepS y.s j,j:=some (stepJ y.s j) }:YV).aj (ak y.kd.root):=by
     rw[hsV,if_pos h5.2,if_pos h5.1]
    have HGO1:=ah (fun W=>HGO.out ({ y with s:=stepS y.s j,j:=some (stepJ y.s j) }:YV) _ W rfl)
    rw[decide_eq_false hgo] at HGO1;have HDK1:=ah (fun W W'=>HDK.out ({ y with s:=stepS y.s j,j:=some (stepJ y.s j) }:YV) W W' rfl)
    have HRO1:=ah (fun W=>HRO.out ({ y with s:=stepS y.s j,j:=some (stepJ y.s j) }:YV) W rfl)
    rw[hsV1];clear hsV hsF hsB hsV1 hsF1 hsB1 h hY hb hj hg hin ek hr hst12 jl jk jkind hs1 hok1 hT hgo hCn HGO HDK HRO h5;generalize ({ y with s:=stepS y.s j,j:=some (stepJ y.s j) }:YV)=z1 at HST HSU HGO1 HDK1 HRO1 ⊢
    generalize jG y.s j=b1 at HST ⊢;generalize erV (eU y.s j)=E1 at HST ⊢;generalize (stepJ y.s j).state=st at HSU gC hC;generalize (stepJ y.s j).file=fl at HSU;generalize S4.cnt (stepJ y.s j).x 64=ct at HSU;go_enter Tryz.func54,Tryz.ntmps54
    go_wp2_with fail
    refine HG.out.mono ?_;rintro e w' ⟨rfl,hw⟩;have hw':=hw.symm;subst hw';clear hw HG;go_wp2_with fail
    refine HST.out.mono ?_;rintro e w1 ⟨rfl,hd1⟩;have HS1:=ah (HSU.out _ hd1);clear hd1 HST HSU;go_wp2_with fail
    refine HS1.out.mono ?_;rintro e w2 ⟨rfl,hd2'⟩;have hd2:=hd2' (.cells #[.int .i64 j.kind,.int .i64 fl,.int .i64 st,.int .i64 (ct:Int)] 56);clear hd2';have HG1:=ah (HGO1.out _ hd2);have HD2:=ah hd2;clear hd2 HS1 HGO1
    have hk2:((j.kind==2)=false)∨((j.kind==2)=true∧(st==3)=false):=by
     cases ha:(j.kind==2) with
     | false=>exact .inl rfl
     | true=>rw[ha] at gC;exact .inr ⟨rfl,by simpa using gC⟩
    clear gC hC;rcases hk2 with g1|⟨g1,g2⟩
    all_goals
     go_wp2_with fail
     refine HG1.out.mono ?_;rintro e w' ⟨rfl,hw⟩;have hw':=hw.symm;subst hw';clear hw HG1;have c11:=HRO1.out _ HD2.out;have HKD:=ah (fun W' hb=>HDK1.out _ W' HD2.out hb)
     clear HD2 HRO1 HDK1;go_wp2_with fail
     refine(HID.out _).mono ?_;rintro e w5 ⟨rfl,hb5⟩;have HK5:=ah (HKD.out _ hb5);clear hb5 HKD HID;go_wp2_with fail
     refine HK5.out.mono ?_;rintro e w6 ⟨rfl,hd6⟩;have HD:=ah hd6;clear hd6 HK5;go_wp2
     go_ret2
     exact⟨rfl,HD.out⟩
 ·rw[pF hb] at HG
  have e1:y.eU=4:=by
   unfold YV.eU
   cases hj:y.j with
   | none=>rfl
   | some j=>show(if 4≤j.stage then _ else _)=_;rw[if_pos (nO hb j hj)]
  have e2:y.jG=false:=by
   unfold YV.jG
   cases hj:y.j with
   | none=>rfl
   | some j=>show(if 4≤j.stage then _ else _)=_;rw[if_pos (nO hb j hj)]
  have e3:y.step=y:=by
   unfold YV.step
   cases hj:y.j with
   | none=>rfl
   | some j=>show(if 4≤j.stage then _ else _)=_;rw[if_pos (nO hb j hj)]
  have HD:Hid (au yp Y y y w w):=au.refl h;rw[e1,e2,e3,aT (by decide)]
  clear h hY hb e1 e2 e3 hT;go_enter Tryz.func54,Tryz.ntmps54
  go_wp2_with fail
  refine HG.out.mono ?_;rintro e w' ⟨rfl,hw⟩;have hw':=hw.symm;subst hw';clear hw HG;go_wp2
  go_ret2
  exact⟨rfl,HD.out⟩
theorem ay.started{w w1 w2:World}{yp m C:Nat}{Y Y1:Yh}{y z:YV}{b:Jh}{j:JV}(h:ay w yp Y y)(hb:Below w.heap.size w w1)(hP:PJ w1 yp b.jp b.lp b.bp b.a b.cap Y.xs y.s m C j)
  (hn:w.heap.size≤b.jp∧w.heap.size≤b.lp∧w.heap.size≤b.bp∧∀ g o,b.a=some ⟨g,o,none⟩→w.heap.size≤g) (hz:ay w2 yp Y1 z) (hm:Moved (fpY yp Y y) w1 (fpY yp Y1 z) w2) :
  ay (w2.setCell ⟨yp,12,none⟩ (.pointer (some ⟨b.jp,0,none⟩))) yp { Y1 with jb:=b } { z with j:=some j }∧Moved (fpY yp Y y) w (fpY yp { Y1 with jb:=b } { z with j:=some j }) (w2.setCell ⟨yp,12,none⟩ (.pointer (some ⟨b.jp,0,none⟩))):=by
 obtain⟨n1,n2,n3,n4⟩:=hn;obtain⟨l1,l2,l3⟩:=hP.job.lts;have hout:∀ k,w.heap.size≤k→¬fpY yp Y y k:=fun k hk e=>by have:=h.iT e;omega
 have hne:j.l≠[]:=hP.ok.ne;have hJ:gW w2 b.jp yp b.lp b.bp b.a b.cap j:=hP.job.keep (hm.block l1 (hout _ n1)) (hm.block l2 (hout _ n2)) (hm.block l3 (hout _ n3));have hN:Nums w2 b.a j.l:=hP.nums.moved hm (fun g o e=>hout g (n4 g o e))
 have hA:Apart b.a (fpY yp { Y1 with jb:=b } { z with j:=some j }):=fun g o e hf=>by
  have hg:=hP.nums.lt hne e;rcases hf with hf|hf|hf|⟨_,hf⟩
  ·exact hm.out hg (hout g (n4 g o e)) (.inl hf)
  ·exact hm.out hg (hout g (n4 g o e)) (.inr (.inl hf))
  ·exact hm.out hg (hout g (n4 g o e)) (.inr (.inr (.inl hf)))
  ·exact hP.ap g o e (.inr hf)
 refine⟨hz.xO hJ hN hne hP.cap hA,?_⟩;have hk:Kept (fun k=>k=yp) w2 (w2.setCell ⟨yp,12,none⟩ (.pointer (some ⟨b.jp,0,none⟩))):=Kept.setCell (S:=fun k=>k=yp) (p:=⟨yp,12,none⟩) (Kept.refl _ w2) (.inl rfl) _
 have hM1:Moved (fpY yp Y y) w (fpY yp Y1 z) w2:=(Moved.of_below hb).trans hm;refine⟨hM1.kept.trans (hk.mono ?_),fun k hk2=>?_⟩
 ·rintro k _ rfl;exact .inl rfl
 ·rcases hk2 with hf|hf|hf|⟨_,hf⟩
  ·exact .inl (.inl hf)
  ·exact hM1.new k (.inr (.inl hf))
  ·exact hM1.new k (.inr (.inr (.inl hf)))
  ·refine .inr ?_
   rcases hf with e|e|e
   ·rw[e];exact n1
   ·rw[e];exact n2
   ·rw[e];exact n3
theorem UH{yp C m:Nat}{Y:Yh}{y:YV}(kind file rate burst:Int)(w:World)(h:ay w yp Y y)(hY:YOk y C m)(hm:m<1000000000) :
    Calls Tryz.prog 53 #[.pointer (some ⟨yp,0,none⟩),.int .i64 kind,.int .i64 file,.int .i64 rate,.int .i64 burst] w fun e w'=>e=.returned (erV (y.nH (kW y kind file rate burst)))∧iD yp Y y (y.start (kW y kind file rate burst)) w w':=by
  have HG:=ah (og w h);have HD0:Hid (∀ W:World,Below w.heap.size w W→iD yp Y y y w W):=fun W hb=>iD.of_below h hb
  by_cases hb:y.busy=true
  · rw[pG hb] at HG
    have e0:y.mO (kW y kind file rate burst)=8:=by unfold YV.mO;rw[if_pos hb]
    have e1:y.nH (kW y kind file rate burst)=8:=by unfold YV.nH;rw[e0];rfl
    have e2:y.start (kW y kind file rate burst)=y:=by unfold YV.start;rw[e0];rfl
    have HD:=ah (HD0.out w (Below.refl _ _));rw[e1,e2,aT (by decide)]
    clear h hY hb e0 e1 e2 HD0;go_enter Tryz.func53,Tryz.ntmps53
    go_wp2_with fail
    refine HG.out.mono ?_;rintro e w' ⟨rfl,hw⟩;have hw':=hw.symm;subst hw';clear hw HG;go_wp2
    go_ret
    exact⟨rfl,HD.out⟩
  · rw[pF hb] at HG
    by_cases hk:kind=0
    · have e0:y.mO (kW y kind file rate burst)=1:=by unfold YV.mO;rw[if_neg hb,if_pos (show(kW y kind file rate burst).kind=0 from hk)]
      have e1:y.nH (kW y kind file rate burst)=1:=by unfold YV.nH;rw[e0];rfl
      have e2:y.start (kW y kind file rate burst)=y:=by unfold YV.start;rw[e0];rfl
      have HD:=ah (HD0.out w (Below.refl _ _));have g1:(kind==0)=true:=by simpa using hk
      rw[e1,e2,dM];clear h hY hb e0 e1 e2 HD0 hk;go_enter Tryz.func53,Tryz.ntmps53
      go_wp2_with fail
      refine HG.out.mono ?_;rintro e w' ⟨rfl,hw⟩;have hw':=hw.symm;subst hw';clear hw HG;go_wp2
      go_ret
      exact⟨rfl,HD.out⟩
    · have g1:(kind==0)=false:=by simpa using hk
      obtain⟨c0,c5,c6,c11,c12,fz⟩:=h.blk.cells;obtain⟨d,hd⟩:∃ d:aS,d=kW y kind file rate burst:=⟨_,rfl⟩;have hdr:d.root=y.kd.root:=by rw[hd];rfl
      have HB0:Hid (Below w.heap.size w (w.alloc (eF d))):=(Below.refl _ _).alloc (Nat.le_refl _) _;have HDR:=ah (wz d w);have HDC:=ah (tV d w);have HI:Hid ((Tryz.prog.info? 47).map (·.size)=some ([.int .i64 d.root,.int .i64 d.kind,.int .i64 d.file,.int .i64 d.rate,.int .i64 d.burst]:List Value).length):=uX
      have HCK:Hid (∀ W:World,Calls Tryz.prog 147 #[.agg #[.int .i64 d.root,.int .i64 d.kind,.int .i64 d.file,.int .i64 d.rate,.int .i64 d.burst]] W fun e w'=>e=.returned (erV d.kv.fault)∧Below W.heap.size W w'):=fun W=>yH d.root d.kind d.file d.rate d.burst W
      have hF0:y.mO d=if d.kv.fault=0 then newF y.s d else d.kv.fault:=by unfold YV.mO;rw[if_neg hb,if_neg (by rw[hd];exact hk)]
      rw[← hd];by_cases hf:d.kv.fault=0
      · rw[if_pos hf] at hF0
        rw[hf,aB] at HCK;by_cases hnf:newF y.s d=0
        · have e1:y.nH d=y.bJ:=by unfold YV.nH;rw[if_pos (hF0.trans hnf)]
          have e2:y.start d=if y.bJ=0 then { y.aj d with j:=some ((iL y.s d).at 1) } else y.aj d:=by unfold YV.start;rw[if_pos (hF0.trans hnf)]
          have HNW:Hid (∀ W:World,Below w.heap.size w W→Calls Tryz.prog 22 #[.pointer (some ⟨yp,6,none⟩),.agg #[.int .i64 d.root,.int .i64 d.kind,.int .i64 d.file,.int .i64 d.rate,.int .i64 d.burst]] W fun e w'=>∃(b:Jh) (C':Nat),e=.returned (.tuple #[.pointer (some ⟨b.jp,0,none⟩),.nilIface])∧PJ w' yp b.jp b.lp b.bp b.a b.cap Y.xs y.s m C' (iL y.s d)∧(w.heap.size≤b.jp∧w.heap.size≤b.lp∧w.heap.size≤b.bp∧∀ g o,b.a=some ⟨g,o,none⟩→w.heap.size≤g)∧Below W.heap.size W w'):=fun W hb2=>by
            refine(En d W ((h.shelf hY.s).below hb2) hnf).mono ?_;rintro e w' ⟨jp,lp,bp,C',a,cap,rfl,h1,⟨q1,q2,q3,q4⟩,h3,_⟩;have hs:=hb2.size;exact⟨⟨jp,lp,bp,a,cap⟩,C',rfl,h1,⟨Nat.le_trans hs q1,Nat.le_trans hs q2,Nat.le_trans hs q3,fun g o e=>Nat.le_trans hs (q4 g o e)⟩,h3⟩
          have HDK:Hid (∀ W:World,Below w.heap.size w W→Calls Tryz.prog 102 #[.pointer (some ⟨yp,0,none⟩),.agg #[.int .i64 d.root,.int .i64 d.kind,.int .i64 d.file,.int .i64 d.rate,.int .i64 d.burst]] W fun e w'=>e=.returned (erV y.bJ)∧au yp Y y (y.aj d) W w'):=fun W hb2=>sK d W (h.below hb2) hY.top hf hm
          obtain⟨s1,s2,s3,s4⟩:=fP y d
          have HSJ:Hid (∀(W1 W2:World) (b:Jh) (C':Nat),Below w.heap.size w W1→PJ W1 yp b.jp b.lp b.bp b.a b.cap Y.xs y.s m C' (iL y.s d)→(w.heap.size≤b.jp∧w.heap.size≤b.lp∧w.heap.size≤b.bp∧∀ g o,b.a=some ⟨g,o,none⟩→w.heap.size≤g)→au yp Y y (y.aj d) W1 W2 →
              (∃ v,W2.cell? ⟨yp,12,none⟩=some v)∧W2.frozen? ⟨yp,12,none⟩=false∧Calls Tryz.prog 81 #[.pointer (some ⟨b.jp,0,none⟩),.bool false] (W2.setCell ⟨yp,12,none⟩ (.pointer (some ⟨b.jp,0,none⟩))) fun e w'=>e=.returned .nilIface∧iD yp Y y { y.aj d with j:=some ((iL y.s d).at 1) } w w'):=fun W1 W2 b C' hb1 hP hfr ⟨Y1,e1,h1,h3⟩=>by
            obtain⟨_,_,_,_,q12,qf⟩:=h1.blk.cells;obtain⟨h5,h6⟩:=h.started hb1 hP hfr h1 h3;refine⟨⟨_,q12⟩,qf 12,?_⟩;have hpz:=Ho (m:=m) (C:=C') false _ h5 (by show(y.aj d).s.ok m;rw[s1];exact hY.s) rfl (by show JOk (y.aj d).s C' _;rw[s1];exact hP.ok)
            have ep:mJ (iL y.s d) false=0:=rfl;rw[ep,aB] at hpz;refine hpz.mono ?_;rintro e w' ⟨rfl,hd⟩;refine⟨rfl,?_⟩;obtain⟨Y2,e2,h7,h8⟩:=hd;refine⟨Y2,.inr (fun g o e=>?_),h7,h6.trans h8⟩
            have e3:b.a=some ⟨g,o,none⟩:=by rw[e2] at e;exact e
            have q1:=hP.nums.lt hP.ok.ne e3;have q2:=h3.size;have q3:=h8.size;have q4:(W2.setCell ⟨yp,12,none⟩ (.pointer (some ⟨b.jp,0,none⟩))).heap.size=W2.heap.size:=by simp[World.setCell]
            exact⟨hfr.2.2.2 g o e3,by omega⟩
          rw[e1,e2];unfold eF at HB0 HDR HDC;rw[← hdr] at c11;have e5:kind=d.kind:=by rw[hd];rfl
          have e6:file=d.file:=by rw[hd];rfl
          have e7:rate=d.rate:=by rw[hd];rfl
          have e8:burst=d.burst:=by rw[hd];rfl
          rw[e5,e6,e7,e8];rw[e5] at g1;have HED:Hid (∀ W1 W2:World,Below w.heap.size w W1→au yp Y y (y.aj d) W1 W2→iD yp Y y (y.aj d) w W2):=fun W1 W2 hb1 hd=>(au.from hb1 hd).out
          clear h hY hb e1 e2 hF0 hf c0 c5 c6 c12 fz hd hk hdr e5 e6 e7 e8 HD0 s1 s2 s3 s4 hnf;generalize ({ y.aj d with j:=some ((iL y.s d).at 1) }:YV)=z2 at HSJ ⊢
          generalize y.aj d=z1 at HDK HSJ HED ⊢;generalize y.bJ=F at HDK ⊢;by_cases hF:F=0
          · rw[if_pos hF,hF,aB]
            rw[hF,aB] at HDK;go_enter Tryz.func53,Tryz.ntmps53
            go_wp2_with fail
            refine HG.out.mono ?_;rintro e w' ⟨rfl,hw⟩;have hw':=hw.symm;subst hw';clear hw HG;go_wp2_with fail
            refine(HCK.out _).mono ?_;rintro e w2 ⟨rfl,hb2⟩;have HB2:=ah (HB0.out.trans (hb2.mono HB0.out.size));have HS2:=ah (HDC.out _ hb2.drew);have HX2:=ah hb2.drew;clear hb2 HCK;go_wp2
            have HBD:Hid (Below w.heap.size w w2.drew):=HB2.out.drew
            go_region_held3 (fun W=>W.cell? ⟨w.heap.size,0,none⟩=some (.int .i64 d.root)∧W.cell? ⟨w.heap.size,1,none⟩=some (.int .i64 d.kind)∧W.cell? ⟨w.heap.size,2,none⟩=some (.int .i64 d.file)∧W.cell? ⟨w.heap.size,3,none⟩=some (.int .i64 d.rate)∧W.cell? ⟨w.heap.size,4,none⟩=some (.int .i64 d.burst))
              (first|(exact HS2.out)|assumption)
              (first
                | (go_at_call 22;refine(HNW.out _ HBD.out).mono ?_;rintro e w3 ⟨b,C',rfl,hP,hfr,hb3⟩;have HB3:=ah (HBD.out.trans (hb3.mono HBD.out.size));have HR3:=ah (HDR.out _ (HX2.out.trans (hb3.mono HX2.out.size)));have HPJ:=ah hP;have HFR:=ah hfr;have hS1:=HDC.out _ (HX2.out.trans (hb3.mono HX2.out.size));clear hb3 hP hfr))
            have HK:=ah (HDK.out _ HB3.out);clear HDK HNW HDR HDC HS2 hS1;go_wp2_with (refine wpList_load_mid (by rfl) 47 (.tmp 11) (by rfl) w.heap.size 0 (by rfl) [.int .i64 d.root,.int .i64 d.kind,.int .i64 d.file,.int .i64 d.rate,.int .i64 d.burst] _ HR3.out Tryz.underlying47 rfl HI.out ?_)
            refine HK.out.mono ?_;rintro e w4 ⟨rfl,hd4⟩;obtain⟨⟨v,q12⟩,qf,hp⟩:=HSJ.out w3 w4 b C' HB3.out HPJ.out HFR.out hd4;have HP:=ah hp;clear hd4 hp HK HSJ HPJ HFR HED HR3;go_wp2_with fail
            refine HP.out.mono ?_;rintro e w5 ⟨rfl,hd5⟩;have HD:=ah hd5;clear hd5 HP;go_wp2
            go_ret
            exact⟨rfl,HD.out⟩
          · rw[if_neg hF]
            rw[aT hF] at HDK ⊢;go_enter Tryz.func53,Tryz.ntmps53
            go_wp2_with fail
            refine HG.out.mono ?_;rintro e w' ⟨rfl,hw⟩;have hw':=hw.symm;subst hw';clear hw HG;go_wp2_with fail
            refine(HCK.out _).mono ?_;rintro e w2 ⟨rfl,hb2⟩;have HB2:=ah (HB0.out.trans (hb2.mono HB0.out.size));have HS2:=ah (HDC.out _ hb2.drew);have HX2:=ah hb2.drew;clear hb2 HCK;go_wp2
            have HBD:Hid (Below w.heap.size w w2.drew):=HB2.out.drew
            go_region_held3 (fun W=>W.cell? ⟨w.heap.size,0,none⟩=some (.int .i64 d.root)∧W.cell? ⟨w.heap.size,1,none⟩=some (.int .i64 d.kind)∧W.cell? ⟨w.heap.size,2,none⟩=some (.int .i64 d.file)∧W.cell? ⟨w.heap.size,3,none⟩=some (.int .i64 d.rate)∧W.cell? ⟨w.heap.size,4,none⟩=some (.int .i64 d.burst))
              (first|(exact HS2.out)|assumption)
              (first
                | (go_at_call 22;refine(HNW.out _ HBD.out).mono ?_;rintro e w3 ⟨b,C',rfl,hP,hfr,hb3⟩;have HB3:=ah (HBD.out.trans (hb3.mono HBD.out.size));have HR3:=ah (HDR.out _ (HX2.out.trans (hb3.mono HX2.out.size)));have HPJ:=ah hP;have HFR:=ah hfr;have hS1:=HDC.out _ (HX2.out.trans (hb3.mono HX2.out.size));clear hb3 hP hfr))
            have HK:=ah (HDK.out _ HB3.out);clear HDK HNW HDR HDC HS2 hS1;go_wp2_with (refine wpList_load_mid (by rfl) 47 (.tmp 11) (by rfl) w.heap.size 0 (by rfl) [.int .i64 d.root,.int .i64 d.kind,.int .i64 d.file,.int .i64 d.rate,.int .i64 d.burst] _ HR3.out Tryz.underlying47 rfl HI.out ?_)
            refine HK.out.mono ?_;rintro e w4 ⟨rfl,hd4⟩;have HD:=ah (HED.out _ _ HB3.out hd4);clear hd4 HK HSJ HPJ HFR HED HR3;go_wp2
            go_ret
            exact⟨rfl,HD.out⟩
        · have e1:y.nH d=newF y.s d:=by unfold YV.nH;rw[if_neg (fun e=>hnf (hF0.symm.trans e)),hF0]
          have e2:y.start d=y:=by unfold YV.start;rw[if_neg (fun e=>hnf (hF0.symm.trans e))]
          have HNW:Hid (∀ W:World,Below w.heap.size w W→Calls Tryz.prog 22 #[.pointer (some ⟨yp,6,none⟩),.agg #[.int .i64 d.root,.int .i64 d.kind,.int .i64 d.file,.int .i64 d.rate,.int .i64 d.burst]] W fun e w'=>e=.returned (.tuple #[.pointer none,.iface 127 (.int .i64 (newF y.s d))])∧Below W.heap.size W w'):=fun W hb2=>by
            have:=Em d W ((h.shelf hY.s).below hb2) hnf
            rw[aT hnf] at this;exact this
          rw[e1,e2,aT hnf];unfold eF at HB0 HDR HDC;rw[← hdr] at c11;have e5:kind=d.kind:=by rw[hd];rfl
          have e6:file=d.file:=by rw[hd];rfl
          have e7:rate=d.rate:=by rw[hd];rfl
          have e8:burst=d.burst:=by rw[hd];rfl
          rw[e5,e6,e7,e8];rw[e5] at g1;clear h hY hb e1 e2 hF0 hf c0 c5 c6 c12 fz hd hk hdr e5 e6 e7 e8;generalize newF y.s d=nf at HNW hnf;go_enter Tryz.func53,Tryz.ntmps53
          go_wp2_with fail
          refine HG.out.mono ?_;rintro e w' ⟨rfl,hw⟩;have hw':=hw.symm;subst hw';clear hw HG;go_wp2_with fail
          refine(HCK.out _).mono ?_;rintro e w2 ⟨rfl,hb2⟩;have HB2:=ah (HB0.out.trans (hb2.mono HB0.out.size));have HS2:=ah (HDC.out _ hb2.drew);have HX2:=ah hb2.drew;clear hb2 HCK HDR HI;go_wp2
          have HBD:Hid (Below w.heap.size w w2.drew):=HB2.out.drew
          go_region_held3 (fun W=>W.cell? ⟨w.heap.size,0,none⟩=some (.int .i64 d.root)∧W.cell? ⟨w.heap.size,1,none⟩=some (.int .i64 d.kind)∧W.cell? ⟨w.heap.size,2,none⟩=some (.int .i64 d.file)∧W.cell? ⟨w.heap.size,3,none⟩=some (.int .i64 d.rate)∧W.cell? ⟨w.heap.size,4,none⟩=some (.int .i64 d.burst))
            (first|(exact HS2.out)|assumption)
            (first
              | (go_at_call 22;refine(HNW.out _ HBD.out).mono ?_;rintro e w3 ⟨rfl,hb3⟩;have HB3:=ah (HBD.out.trans (hb3.mono HBD.out.size));have hS1:=HDC.out _ (HX2.out.trans (hb3.mono HX2.out.size));clear hb3))
          have HD:=ah (HD0.out _ HB3.out);go_wp2
          go_ret
          exact⟨rfl,HD.out⟩
      · rw[if_neg hf] at hF0
        have e1:y.nH d=d.kv.fault:=by unfold YV.nH;rw[if_neg (fun e=>hf (hF0.symm.trans e)),hF0]
        have e2:y.start d=y:=by unfold YV.start;rw[if_neg (fun e=>hf (hF0.symm.trans e))]
        rw[aT hf] at HCK;rw[e1,e2,aT hf];unfold eF at HB0;rw[← hdr] at c11;have e5:kind=d.kind:=by rw[hd];rfl
        have e6:file=d.file:=by rw[hd];rfl
        have e7:rate=d.rate:=by rw[hd];rfl
        have e8:burst=d.burst:=by rw[hd];rfl
        rw[e5,e6,e7,e8];rw[e5] at g1;clear h hY hb e1 e2 hF0 c0 c5 c6 c12 fz hd hk hdr e5 e6 e7 e8 HI HDR;generalize d.kv.fault=ff at HCK hf;go_enter Tryz.func53,Tryz.ntmps53
        go_wp2_with fail
        refine HG.out.mono ?_;rintro e w' ⟨rfl,hw⟩;have hw':=hw.symm;subst hw';clear hw HG;go_wp2_with fail
        refine(HCK.out _).mono ?_;rintro e w2 ⟨rfl,hb2⟩;have HD:=ah (HD0.out _ (HB0.out.trans (hb2.mono HB0.out.size)));clear hb2 HCK;go_wp2
        go_ret
        exact⟨rfl,HD.out⟩
end Go.Proofs.YtonhoahnieoebabGreatDoor
