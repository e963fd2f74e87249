/- An image is made in a file, whatever its number (J3); Blank, Snap. -/
import Derived.Test.YtonhoahnieoebabGreatDoorQAYardC4
set_option maxHeartbeats 2000000
set_option maxRecDepth 100000
namespace Go.Proofs.YtonhoahnieoebabGreatDoor
open Go.RowKit Go.Maps
attribute [local go_sem ↓] Go.wp_at_zero Go.wp_at_succ
theorem Un{yp C m i:Nat}{Y:Yh}{y:YV}(back:Int)(w:World)(h:ay w yp Y y)(hY:YOk y C m)(hC:1≤C∧C≤32)(hi:i<5)(hu:y.used (i:Int)≠true)(hm:m+20<1000000000) :
    Calls Tryz.prog 218 #[.pointer (some ⟨yp,0,none⟩),.int .i64 (i:Int),.int .i64 back] w fun e w'=>e=.returned (erV (y.iR (i:Int) back))∧au yp Y y (y.blank (i:Int) back) w w':=by
  have HU:=ah (Hw (i:Int) w h hY);rw[show y.used (i:Int)=false by simpa using hu] at HU
  obtain⟨v,hv,hc⟩:=hY.ch.root;obtain⟨r0,r5,hv2⟩:=SV.dJ hv;obtain⟨k,hk⟩:∃ k:Nat,y.kd.root=(k:Int):=⟨y.kd.root.toNat,by omega⟩
  rw[hk] at hv2 r5 r0;have hkn:((k:Int)).toNat=k:=by omega
  rw[hkn] at hv2
  have HSC:Hid (∀ W:World,Below w.heap.size w W→W.cell? ⟨yp,11,none⟩=some (.int .i64 (k:Int))∧W.cell? ⟨yp,6+k,none⟩=some (.pointer (some ⟨(Y.xs k).p,0,none⟩))):=fun W hb=>by
    obtain⟨q0,_,q6,q11,_,_⟩:=(h.below hb).blk.cells;have:=q6 k (by omega)
    rw[hv2] at this;exact⟨by rw[← hk];exact q11,this⟩
  have HSD:Hid (∀ W:World,Below w.heap.size w W→W.cell? ⟨yp,i,none⟩=some (.pointer (some ⟨Y.dp y.s i,0,none⟩))):=fun W hb=>(h.below hb).blk.cells.1 i hi
  have HHD:Hid (∀ W:World,Below w.heap.size w W→Calls Tryz.prog 67 #[.pointer (some ⟨(Y.xs k).p,0,none⟩)] W fun e w'=>e=.returned (.agg #[.int .i64 (C:Int),.int .i64 v.h.p,.int .i64 v.h.b])∧Below w.heap.size w w'∧Below W.heap.size W w'):=fun W hb=>(oG W ((h.img k v (by omega) hv2).below hb)).mono fun e w' ⟨h1,h2⟩=>⟨by rw[h1,hc],hb.trans (h2.mono hb.size),h2⟩
  have HRM:Hid (∀ W:World,Below w.heap.size w W→Calls Tryz.prog 261 #[.pointer (some ⟨Y.dp y.s i,0,none⟩),.int .i64 (C:Int)] W fun e w'=>e=.returned (.int .i64 (qc (y.dev i).fl.length (C:Int)))∧Below W.heap.size W w'):=fun W hb=>by
    obtain⟨d1,d2,_⟩:=(h.below hb).tZ hi;rw[← d2];exact UF W d1 hC
  have HCR:Hid (∀(W:World) (N:Nat),Below w.heap.size w W→w.heap.size≤N→W.heap[N]?=some (bx (C:Int) (qc (y.dev i).fl.length (C:Int)) back)→_):=fun W N hb hN hbx=>h.creates (back:=back) hY hi hm hu rfl hb hN hbx
  have HBN:Hid (∀(w2:World) (R:Int),Below w.heap.size w w2→∀ w4:World,Below (w2.alloc (bx (C:Int) v.h.p back)).heap.size (w2.alloc (bx (C:Int) v.h.p back)) w4→w4.heap[w2.heap.size]?=some (bx (C:Int) v.h.p back)∧(w4.setCell ⟨w2.heap.size,1,none⟩ (.int .i64 R)).heap[w2.heap.size]?=some (bx (C:Int) R back)∧Below w.heap.size w (w4.setCell ⟨w2.heap.size,1,none⟩ (.int .i64 R))):=fun w2 R hb w4 hb4=>by
    have e1:w4.heap[w2.heap.size]?=some (bx (C:Int) v.h.p back):=(hb4.block _ (by simp)).trans (heap_alloc_new w2 _)
    refine⟨e1,?_,((hb.alloc hb.size _).trans (hb4.mono (by simp;have:=hb.size;omega))).setCell hb.size _⟩
    unfold bx at e1;rw[heap_setCell_same _ _ _ _ _ _ e1];rfl
  clear h hY hC hu hm hv hv2 hc hk;generalize erV (y.iR (i:Int) back)=E at HCR ⊢;generalize qc (y.dev i).fl.length (C:Int)=R at HRM HCR;generalize Y.dp y.s i=dp at HSD HRM HCR;generalize (Y.xs k).p=xp at HSC HHD;generalize v.h.p=p1 at HHD HBN;generalize v.h.b=b1 at HHD;have g0:decide ((i:Int)<0)=false:=decide_eq_false (by omega)
  have g5:decide (5≤(i:Int))=false:=decide_eq_false (by omega)
  have i0:(0:Int)≤(i:Int):=by omega
  have i5:(i:Int)<5:=by omega
  have i2:((i:Int)).toNat=i:=by omega
  have k0:(0:Int)≤(k:Int):=by omega
  have k5:(k:Int)<5:=by omega
  unfold bx at HBN HCR;go_enter Tryz.func218,Tryz.ntmps218
  go_wp2_with fail
  refine HU.out.mono ?_;rintro e w1 ⟨rfl,hb1⟩;have HB1:=ah hb1;clear hb1 HU;go_upto_region 5 with fail
  have HBD:Hid (Below w.heap.size w w1.drew):=HB1.out.drew;have HBA:Hid (Below w.heap.size w (w1.alloc (.cells #[.int .i64 0,.int .i64 0,.int .i64 0] 103)).drew):=(HB1.out.alloc HB1.out.size _).drew;obtain⟨d11,d6⟩:=HSC.out _ HBD.out;obtain⟨a11,a6⟩:=HSC.out _ HBA.out;have hz1:w1.heap.size<(w1.alloc (.cells #[.int .i64 0,.int .i64 0,.int .i64 0] 103)).drew.heap.size:=by show w1.heap.size<(w1.alloc _).heap.size;simp
  have HZ0:Hid ((w1.alloc (.cells #[.int .i64 0,.int .i64 0,.int .i64 0] 103)).drew.heap[w1.heap.size]?=some (.cells #[.int .i64 0,.int .i64 0,.int .i64 0] 103 (0,0))):=heap_alloc_new w1 _;have HW1:Hid (w.heap.size≤w1.heap.size):=HB1.out.size;go_cut [7] from 20 (fun hv wx=>∃ N:Nat,hv=.pointer (some ⟨N,0,none⟩)∧w.heap.size≤N∧wx.heap[N]?=some (bx (C:Int) p1 b1)∧Below w.heap.size w wx)
  case first =>
    clear HBN HCR HRM HSD
    go_region_with (first
      | (go_at_call 67;refine(HHD.out _ (by first|exact HBD.out|exact HBA.out)).mono ?_;rintro e w2 ⟨rfl,hb2,hbw⟩;have HB2:=ah hb2;have HBW:=ah hbw;(try have hz2:w2.heap[w1.heap.size]?=some (.cells #[.int .i64 0,.int .i64 0,.int .i64 0] 103 (0,0)):=(hbw.block _ hz1).trans HZ0.out);(try have zc0:w2.cell? ⟨w1.heap.size,0,none⟩=some (.int .i64 0):=by rw[cell_of_row _ _ _ _ _ _ hz2];rfl);(try have zc1:w2.cell? ⟨w1.heap.size,1,none⟩=some (.int .i64 0):=by rw[cell_of_row _ _ _ _ _ _ hz2];rfl);(try have zc2:w2.cell? ⟨w1.heap.size,2,none⟩=some (.int .i64 0):=by rw[cell_of_row _ _ _ _ _ _ hz2];rfl);(try have zf0:=frozen_of_row w2 w1.heap.size 0 _ _ hz2);(try have zf1:=frozen_of_row w2 w1.heap.size 1 _ _ hz2);(try have zf2:=frozen_of_row w2 w1.heap.size 2 _ _ hz2);clear hb2 hbw))
    all_goals
      go_wp2_with fail
      go_meet
      case rel =>
        first
          | exact⟨_,rfl,HB2.out.size,heap_alloc_new w2 _,HB2.out.alloc HB2.out.size _⟩
          | exact⟨_,rfl,HB2.out.size,heap_alloc_new w2 _,(HB2.out.alloc HB2.out.size _).drew⟩
          | exact⟨_,rfl,HW1.out,by
              unfold bx
              rw[heap_setCell_same _ _ _ _ _ _ (heap_setCell_same _ _ _ _ _ _ (heap_setCell_same _ _ _ _ _ _ hz2))];rfl,((HB2.out.setCell HW1.out _).setCell HW1.out _).setCell HW1.out _⟩
  case rest =>
    obtain⟨N,rfl,hN,hbx,hbc⟩:=hcut;have HBC:=ah hbc;have HBX:=ah hbx;have hbx1:wc.heap[N]?=some (.cells #[.int .i64 (C:Int),.int .i64 p1,.int .i64 b1] 103 (0,0)):=hbx;have x2:wc.cell? ⟨N,2,none⟩=some (.int .i64 b1):=(ru hbx).2.2.1;have f2:=frozen_of_row wc N 2 _ _ hbx1;have HX3:Hid ((wc.setCell ⟨N,2,none⟩ (.int .i64 back)).heap[N]?=some (bx (C:Int) p1 back)):=by unfold Hid;rw[heap_setCell_same _ _ _ _ _ _ hbx1];rfl
    have HB3:Hid (Below w.heap.size w (wc.setCell ⟨N,2,none⟩ (.int .i64 back))):=hbc.setCell hN _;clear hbc hbx hbx1 d11 d6 a11 a6 HZ0 hz1 HBA HBD HHD HSC;go_upto_region 7 with fail
    generalize hW3:wc.setCell ⟨N,2,none⟩ (.int .i64 back)=W3 at HX3 HB3 ⊢;clear hW3 x2 f2 HBC HBX;have HB3d:Hid (Below w.heap.size w W3.drew):=HB3.out.drew;have HX3d:Hid (W3.drew.heap[N]?=some (bx (C:Int) p1 back)):=HX3.out;obtain⟨y0,y1,y2,yf⟩:=ru HX3d.out;have HS3:Hid (W3.drew.cell? ⟨yp,i,none⟩=some (.pointer (some ⟨dp,0,none⟩))∧W3.drew.cell? ⟨N,0,none⟩=some (.int .i64 (C:Int))):=⟨HSD.out _ HB3d.out,y0⟩
    have HR4:Hid (∀ w4:World,Below W3.drew.heap.size W3.drew w4→w4.heap[N]?=some (bx (C:Int) p1 back)∧Below w.heap.size w w4∧(w4.setCell ⟨N,1,none⟩ (.int .i64 R)).heap[N]?=some (bx (C:Int) R back)∧Below w.heap.size w (w4.setCell ⟨N,1,none⟩ (.int .i64 R))):=fun w4 hb4=>by
      have e1:w4.heap[N]?=some (bx (C:Int) p1 back):=(hb4.block _ (lt_of_some HX3d.out)).trans HX3d.out;have e2:=HB3d.out.trans (hb4.mono HB3d.out.size);refine⟨e1,e2,?_,e2.setCell hN _⟩;unfold bx at e1;rw[heap_setCell_same _ _ _ _ _ _ e1];rfl
    go_region_held3 (fun W=>W.cell? ⟨yp,i,none⟩=some (.pointer (some ⟨dp,0,none⟩))∧W.cell? ⟨N,0,none⟩=some (.int .i64 (C:Int)))
      (first|(exact HS3.out)|assumption)
      (first
        | (go_at_call 261;refine(HRM.out _ HB3d.out).mono ?_;rintro e w4 ⟨rfl,hb4⟩;obtain⟨e1,e2,e3,e4⟩:=HR4.out w4 hb4;obtain⟨t0,t1,t2,tf⟩:=ru e1;have hS4:w4.cell? ⟨yp,i,none⟩=some (.pointer (some ⟨dp,0,none⟩))∧w4.cell? ⟨N,0,none⟩=some (.int .i64 (C:Int)):=⟨HSD.out _ e2,t0⟩;have hS5:(w4.setCell ⟨N,1,none⟩ (.int .i64 R)).cell? ⟨yp,i,none⟩=some (.pointer (some ⟨dp,0,none⟩))∧(w4.setCell ⟨N,1,none⟩ (.int .i64 R)).cell? ⟨N,0,none⟩=some (.int .i64 (C:Int)):=⟨HSD.out _ e4,(ru e3).1⟩;have HE3:=ah e3;have HE4:=ah e4;clear e1 e2 e3 e4 hb4))
    go_upto_region 9 with fail
    generalize hW5:w4.setCell ⟨N,1,none⟩ (.int .i64 R)=W5 at HE3 HE4 ⊢;clear hW5 hS4 hS5 t0 t1 t2 tf HR4 HS3 HX3d HB3d y0 y1 y2 yf HX3 HB3 HRM;have HB5:Hid (Below w.heap.size w W5.drew):=HE4.out.drew;have HX5:Hid (W5.drew.heap[N]?=some (bx (C:Int) R back)):=HE3.out;obtain⟨y0,y1,y2,yf⟩:=ru HX5.out;have HS5:Hid (W5.drew.cell? ⟨yp,i,none⟩=some (.pointer (some ⟨dp,0,none⟩))∧W5.drew.cell? ⟨N,0,none⟩=some (.int .i64 (C:Int))∧W5.drew.cell? ⟨N,1,none⟩=some (.int .i64 R)∧W5.drew.cell? ⟨N,2,none⟩=some (.int .i64 back)):=⟨HSD.out _ HB5.out,y0,y1,y2⟩;have HC:=ah (HCR.out W5.drew N HB5.out hN HX5.out)
    clear HCR HSD y0 y1 y2 yf HBN
    go_region_held3 (fun W=>W.cell? ⟨yp,i,none⟩=some (.pointer (some ⟨dp,0,none⟩))∧W.cell? ⟨N,0,none⟩=some (.int .i64 (C:Int))∧W.cell? ⟨N,1,none⟩=some (.int .i64 R)∧W.cell? ⟨N,2,none⟩=some (.int .i64 back))
      (first|(exact HS5.out)|assumption)
      (first
        | (go_at_call 60;refine HC.out.mono ?_;rintro e w6 ⟨po,rfl,hS6,⟨v6,q6⟩,qf6,hS7,hd6⟩;have HD:=ah hd6;clear hd6))
    go_wp2
    go_ret
    exact⟨rfl,HD.out⟩
theorem Hg{yp C m:Nat}{Y:Yh}{y:YV}(f back:Int)(w:World)(h:ay w yp Y y)(hY:YOk y C m)(hC:1≤C∧C≤32)(hm:m+20<1000000000) :
  Calls Tryz.prog 218 #[.pointer (some ⟨yp,0,none⟩),.int .i64 f,.int .i64 back] w fun e w'=>e=.returned (erV (y.iR f back))∧au yp Y y (y.blank f back) w w':=by
 by_cases hf:0≤f∧f<5
 ·obtain⟨i,rfl⟩:∃ i:Nat,f=(i:Int):=⟨f.toNat,by omega⟩
  by_cases hu:y.used (i:Int)=true
  ·have e1:y.iR (i:Int) back=5:=by unfold YV.iR;rw[if_pos hf,if_pos hu]
   have e2:y.blank (i:Int) back=y:=by unfold YV.blank;rw[if_pos hf,if_pos hu]
   have HU:=ah (Hw (i:Int) w h hY);rw[hu] at HU;have HD0:Hid (∀ W:World,Below w.heap.size w W→au yp Y y y w W):=fun W hb=>au.below h hb
   rw[e1,e2,aT (by decide)]
   have g0:decide ((i:Int)<0)=false:=decide_eq_false (by omega)
   have g5:decide (5≤(i:Int))=false:=decide_eq_false (by omega)
   clear h hY e1 e2 hu;go_enter Tryz.func218,Tryz.ntmps218
   go_wp2_with fail
   refine HU.out.mono ?_;rintro e w1 ⟨rfl,hb1⟩;have HD:=ah (HD0.out _ hb1);clear hb1 HU;go_wp2
   go_ret
   exact⟨rfl,HD.out⟩
  ·exact Un back w h hY hC (by omega) hu hm
 ·have e1:y.iR f back=1:=by unfold YV.iR;rw[if_neg hf]
  have e2:y.blank f back=y:=by unfold YV.blank;rw[if_neg hf]
  have HD:Hid (au yp Y y y w w):=au.refl h;rw[e1,e2,dM];clear h hY e1 e2;by_cases h0:f<0
  ·have g0:decide (f<0)=true:=decide_eq_true h0
   go_enter Tryz.func218,Tryz.ntmps218
   go_wp2
   go_ret
   exact⟨rfl,HD.out⟩
  ·have g0:decide (f<0)=false:=decide_eq_false h0
   have g5:decide (5≤f)=true:=decide_eq_true (by omega)
   go_enter Tryz.func218,Tryz.ntmps218
   go_wp2
   go_ret
   exact⟨rfl,HD.out⟩
theorem Uj{yp C m:Nat}{Y:Yh}{y:YV}(f:Int)(w:World)(h:ay w yp Y y)(hY:YOk y C m)(hC:1≤C∧C≤32)(hm:m+20<1000000000) :
  Calls Tryz.prog 114 #[.pointer (some ⟨yp,0,none⟩),.int .i64 f] w fun e w'=>e=.returned (erV (y.iR f (-1)))∧au yp Y y (y.blank f (-1)) w w':=by
 have HC:=ah (Hg f (-1) w h hY hC hm);clear h hY;generalize erV (y.iR f (-1))=E at HC ⊢;go_enter Tryz.func114,Tryz.ntmps114
 go_wp2_with fail
 refine HC.out.mono ?_;rintro e w1 ⟨rfl,hd⟩;have HD:=ah hd;clear hd HC;go_wp2
 go_ret
 exact⟨rfl,HD.out⟩
theorem UG{yp C m:Nat}{Y:Yh}{y:YV}(f:Int)(w:World)(h:ay w yp Y y)(hY:YOk y C m)(hC:1≤C∧C≤32)(hm:m+20<1000000000) :
  Calls Tryz.prog 116 #[.pointer (some ⟨yp,0,none⟩),.int .i64 f] w fun e w'=>e=.returned (erV (y.oO f))∧au yp Y y (y.snap f) w w':=by
 have HG:=ah (og w h);have HD0:Hid (∀ W:World,Below w.heap.size w W→au yp Y y y w W):=fun W hb=>au.below h hb
 by_cases hb:y.busy=true
 ·rw[pG hb] at HG
  have e1:y.oO f=8:=by unfold YV.oO;rw[if_pos hb]
  have e2:y.snap f=y:=by unfold YV.snap;rw[if_pos (.inl hb)]
  have HD:=ah (HD0.out w (Below.refl _ _));rw[e1,e2,aT (by decide)]
  clear h hY hb e1 e2 HD0;go_enter Tryz.func116,Tryz.ntmps116
  go_wp2_with fail
  refine HG.out.mono ?_;rintro e w' ⟨rfl,hw⟩;have hw':=hw.symm;subst hw';clear hw HG;go_wp2
  go_ret
  exact⟨rfl,HD.out⟩
 ·rw[pF hb] at HG
  have HW:=ah (qQ w h hY);by_cases h4:y.l.length=4
  ·have e1:y.oO f=6:=by unfold YV.oO;rw[if_neg hb,if_pos h4]
   have e2:y.snap f=y:=by unfold YV.snap;rw[if_pos (.inr h4)]
   rw[e1,e2,aT (by decide)]
   have g4:((y.l.length:Int)==4)=true:=by rw[h4];rfl
   clear h hY hb e1 e2 h4;generalize y.l.length=ln at HW g4;go_enter Tryz.func116,Tryz.ntmps116
   go_wp2_with fail
   refine HG.out.mono ?_;rintro e w' ⟨rfl,hw⟩;have hw':=hw.symm;subst hw';clear hw HG;go_wp2_with fail
   refine HW.out.mono ?_;rintro e w1 ⟨g,o,cap,rfl,_,_,_,_,hb1⟩;have HD:=ah (HD0.out _ hb1);clear hb1 HW;go_wp2
   go_ret
   exact⟨rfl,HD.out⟩
  ·have g4:((y.l.length:Int)==4)=false:=by simpa using (show ¬(y.l.length:Int)=4 by omega)
   have HRO:Hid (∀ W:World,Below w.heap.size w W→W.cell? ⟨yp,11,none⟩=some (.int .i64 y.kd.root)):=fun W hb=>(h.below hb).blk.cells.2.2.2.1
   have HC:Hid (∀ W:World,Below w.heap.size w W→Calls Tryz.prog 218 #[.pointer (some ⟨yp,0,none⟩),.int .i64 f,.int .i64 y.kd.root] W fun e w'=>e=.returned (erV (y.iR f y.kd.root))∧au yp Y y (y.blank f y.kd.root) w w'):=fun W hb=>(Hg f y.kd.root W (h.below hb) hY hC hm).mono fun e w' ⟨h1,h2⟩=>⟨h1,au.from hb h2⟩
   have hsF:y.oO f=if y.iR f y.kd.root=0 then (y.blank f y.kd.root).bJ else y.iR f y.kd.root:=by unfold YV.oO;rw[if_neg hb,if_neg h4]
   have hsV:y.snap f=if y.iR f y.kd.root=0 then (if (y.blank f y.kd.root).bJ=0 then { (y.blank f y.kd.root).aj (ak f) with l:=f::y.l } else (y.blank f y.kd.root).aj (ak f)) else y.blank f y.kd.root:=by unfold YV.snap;rw[if_neg (by rintro(e|e);exact hb e;exact h4 e)]
   by_cases hbf:y.iR f y.kd.root=0
   ·obtain⟨f0,f5,_,_,_⟩:=vP hbf
    have hYb:=(hY.blank f y.kd.root hm).top;have HID:Hid (∀ W:World,Calls Tryz.prog 103 #[.int .i64 f] W fun e w'=>e=.returned (.agg #[.int .i64 (ak f).root,.int .i64 (ak f).kind,.int .i64 (ak f).file,.int .i64 (ak f).rate,.int .i64 (ak f).burst])∧Below W.heap.size W w'):=fun W=>vJ f W
    have HDK:Hid (∀ W W':World,au yp Y y (y.blank f y.kd.root) w W→Below W.heap.size W W'→Calls Tryz.prog 102 #[.pointer (some ⟨yp,0,none⟩),.agg #[.int .i64 (ak f).root,.int .i64 (ak f).kind,.int .i64 (ak f).file,.int .i64 (ak f).rate,.int .i64 (ak f).burst]] W' fun e w'=>e=.returned (erV (y.oO f))∧au yp Y y (y.snap f) w w'):=fun W W' hd hb=>by
     obtain⟨Y1,e1,h1,h3⟩:=hd;refine(sK (ak f) W' (h1.below hb) hYb (jH f0 (by omega)) (by omega)).mono ?_
     rintro e w' ⟨rfl,h4⟩;refine⟨by rw[hsF,if_pos hbf],?_⟩
     have h5:=au.trans e1 h3 (au.from hb h4);rw[hsV,if_pos hbf];split
     ·exact h5.re rfl rfl rfl rfl rfl
     ·exact h5
    rw[hbf,aB] at HC;clear h hY hb h4 hsF hsV hbf HD0 hYb;generalize erV (y.oO f)=E at HDK ⊢;generalize y.l.length=ln at HW g4;go_enter Tryz.func116,Tryz.ntmps116
    go_wp2_with fail
    refine HG.out.mono ?_;rintro e w' ⟨rfl,hw⟩;have hw':=hw.symm;subst hw';clear hw HG;go_wp2_with fail
    refine HW.out.mono ?_;rintro e w1 ⟨g,o,cap,rfl,_,_,_,_,hb1⟩;have c11:=HRO.out _ hb1;have HC1:=ah (HC.out _ hb1);clear hb1 HW HC HRO;go_wp2_with fail
    refine HC1.out.mono ?_;rintro e w2 ⟨rfl,hd2⟩;have HD2:=ah (fun W' hb=>HDK.out w2 W' hd2 hb)
    clear hd2 HC1 HDK;go_wp2_with fail
    refine(HID.out _).mono ?_;rintro e w3 ⟨rfl,hb3⟩;have HK:=ah (HD2.out _ hb3);clear hb3 HD2 HID;go_wp2_with fail
    refine HK.out.mono ?_;rintro e w4 ⟨rfl,hd4⟩;have HD:=ah hd4;clear hd4 HK;go_wp2
    go_ret
    exact⟨rfl,HD.out⟩
   ·rw[hsF,hsV,if_neg hbf,if_neg hbf]
    rw[aT hbf] at HC ⊢;clear h hY hb h4 hsF hsV HD0;generalize y.iR f y.kd.root=bf at HC hbf ⊢;generalize y.l.length=ln at HW g4;go_enter Tryz.func116,Tryz.ntmps116
    go_wp2_with fail
    refine HG.out.mono ?_;rintro e w' ⟨rfl,hw⟩;have hw':=hw.symm;subst hw';clear hw HG;go_wp2_with fail
    refine HW.out.mono ?_;rintro e w1 ⟨g,o,cap,rfl,_,_,_,_,hb1⟩;have c11:=HRO.out _ hb1;have HC1:=ah (HC.out _ hb1);clear hb1 HW HC HRO;go_wp2_with fail
    refine HC1.out.mono ?_;rintro e w2 ⟨rfl,hd2⟩;have HD:=ah hd2;clear hd2 HC1;go_wp2
    go_ret
    exact⟨rfl,HD.out⟩
def qp(j:JV):Obj:=.cells #[.int .i64 j.kind,.int .i64 j.file,.int .i64 j.state,.int .i64 (S4.cnt j.x 64:Nat)] 56 (0,0)
theorem au.box{w W W':World}{yp:Nat}{Y:Yh}{y z:YV}(h:ay w yp Y y)(hd:au yp Y y z W W'){n:Nat}{o:Obj}(hn:w.heap.size≤n)(ho:W.heap[n]?=some o):W'.heap[n]?=some o:=by
 obtain⟨Y',_,_,h2⟩:=hd;rw[h2.block (lt_of_some ho) (fun e=>by have:=h.iT e;omega)];exact ho
theorem Nv{s:SV}{C:Nat}{j:JV}(h:JOk s C j)(h2:j.kind≠2):0≤j.file∧j.file≤4:=by
 obtain⟨v,hv⟩:=h.file h2;have:=SV.dJ hv
 omega
theorem UE{yp C m:Nat}{Y:Yh}{y:YV}(w:World)(h:ay w yp Y y)(hY:YOk y C m)(hm:m+20<1000000000) :
  Calls Tryz.prog 56 #[.pointer (some ⟨yp,0,none⟩)] w fun e w'=>e=.returned (erV y.qL)∧au yp Y y y.pivot w w':=by
 have HG:=ah (og w h);have HD0:Hid (∀ W:World,Below w.heap.size w W→au yp Y y y w W):=fun W hb=>au.below h hb
 by_cases hb:y.busy=true
 ·obtain⟨j,hj,hg⟩:=mW hb
  have hin:=hY.job j hj hg;rw[pG hb] at HG;have ek:y.kd.kind=j.kind:=by rw[← hin.dsk];rfl
  have ef:y.kd.file=j.file:=by rw[← hin.dsk];rfl
  have HSU:=ah (xW w (h.job j hj).1 hin.ok.set);have HBS:Hid (∀ W:World,Below w.heap.size w W→Below w.heap.size w (W.alloc (qp j))):=fun W hb=>hb.alloc hb.size _
  have HBC:Hid (∀ W:World,(W.alloc (qp j)).cell? ⟨W.heap.size,0,none⟩=some (.int .i64 j.kind)):=fun W=>by
   rw[cell_of_row _ _ _ _ _ _ (show(W.alloc (qp j)).heap[W.heap.size]?=some (.cells _ _ (0,0)) from heap_alloc_new W _)];rfl
  by_cases h2:j.kind=2
  ·have e1:y.qL=9:=by unfold YV.qL;rw[hj];show(if 4≤j.stage then _ else if y.kd.kind=2 then _ else _)=_;rw[if_neg (by omega),if_pos (ek.trans h2)]
   have e2:y.pivot=y:=by unfold YV.pivot;rw[hj];show(if 4≤j.stage∨y.kd.kind=2 then _ else _)=_;rw[if_pos (.inr (ek.trans h2))]
   have g2:(j.kind==2)=true:=by simpa using h2
   rw[e1,e2,aT (by decide)]
   unfold qp at HBS HBC;clear h hY hb hj hg hin ek ef e1 e2 HBC h2;go_enter Tryz.func56,Tryz.ntmps56
   go_wp2_with fail
   refine HG.out.mono ?_;rintro e w' ⟨rfl,hw⟩;have hw':=hw.symm;subst hw';clear hw HG;go_wp2_with fail
   refine HSU.out.mono ?_;rintro e w1 ⟨rfl,hb1⟩;have HD:=ah (HD0.out _ (HBS.out _ hb1));clear hb1 HSU;go_wp2
   go_ret
   exact⟨rfl,HD.out⟩
  ·have g2:(j.kind==2)=false:=by simpa using h2
   have HSE:Hid (∀ W:World,Below w.heap.size w W→Calls Tryz.prog 93 #[.pointer (some ⟨Y.jb.jp,0,none⟩)] W fun e w'=>e=.returned (erV (dH y.s j))∧au yp Y y { y with s:=aF y.s j,j:=some (aK y.s j) } W w'∧au yp Y y { y with s:=aF y.s j,j:=some (aK y.s j) } w w'):=fun W hb=>(Hq W (h.below hb) hY.s hj hin.ok (by omega)).mono fun e w' ⟨h1,h3⟩=>⟨h1,h3,au.from hb h3⟩
   have hpF:y.qL=if dH y.s j≠0 then dH y.s j else y.bJ:=by unfold YV.qL;rw[hj];show(if 4≤j.stage then _ else if y.kd.kind=2 then _ else _)=_;rw[if_neg (by omega),if_neg (fun e=>h2 (ek.symm.trans e))]
   have hpV:y.pivot=if dH y.s j≠0 then { y with s:=aF y.s j,j:=some (aK y.s j) } else ({ y with s:=aF y.s j,j:=some (aK y.s j) }:YV).over j.file 4:=by unfold YV.pivot;rw[hj];show(if 4≤j.stage∨y.kd.kind=2 then _ else _)=_;rw[if_neg (by rintro(e|e);omega;exact h2 (ek.symm.trans e)),ef]
   by_cases hS:dH y.s j≠0
   ·rw[hpF,hpV,if_pos hS,if_pos hS]
    rw[aT hS] at HSE ⊢;unfold qp at HBS HBC;clear h hY hb hj hg hin ek ef hpF hpV HD0;go_enter Tryz.func56,Tryz.ntmps56
    go_wp2_with fail
    refine HG.out.mono ?_;rintro e w' ⟨rfl,hw⟩;have hw':=hw.symm;subst hw';clear hw HG;go_wp2_with fail
    refine HSU.out.mono ?_;rintro e w1 ⟨rfl,hb1⟩;have HS:=ah (HSE.out _ (HBS.out _ hb1));clear hb1 HSU HSE HBS HBC;go_wp2_with fail
    refine HS.out.mono ?_;rintro e w2 ⟨rfl,_,hd⟩;have HD:=ah hd;clear hd HS;go_wp2
    go_ret
    exact⟨rfl,HD.out⟩
   ·have hS0:dH y.s j=0:=Classical.byContradiction fun e=>hS e
    rw[hpF,hpV,if_neg hS,if_neg hS];rw[hS0,aB] at HSE;have hfi:=Nv hin.ok h2
    have HBX:Hid (∀(W:World) (w1 W':World),Below w.heap.size w w1→W=w1.alloc (qp j)→au yp Y y { y with s:=aF y.s j,j:=some (aK y.s j) } W W'→W'.cell? ⟨w1.heap.size,1,none⟩=some (.int .i64 j.file)):=fun W w1 W' hb1 e hd=>by
     subst e;have:=au.box h hd hb1.size (heap_alloc_new w1 _)
     unfold qp at this;rw[cell_of_row _ _ _ _ _ _ this];rfl
    have HID:Hid (∀ W:World,Calls Tryz.prog 103 #[.int .i64 j.file] W fun e w'=>e=.returned (.agg #[.int .i64 (ak j.file).root,.int .i64 (ak j.file).kind,.int .i64 (ak j.file).file,.int .i64 (ak j.file).rate,.int .i64 (ak j.file).burst])∧Below W.heap.size W w'):=fun W=>vJ j.file W
    have HDK:Hid (∀ W W':World,au yp Y y { y with s:=aF y.s j,j:=some (aK y.s j) } w W→Below W.heap.size W W'→Calls Tryz.prog 102 #[.pointer (some ⟨yp,0,none⟩),.agg #[.int .i64 (ak j.file).root,.int .i64 (ak j.file).kind,.int .i64 (ak j.file).file,.int .i64 (ak j.file).rate,.int .i64 (ak j.file).burst]] W' fun e w'=>e=.returned (erV y.bJ)∧au yp Y y (({ y with s:=aF y.s j,j:=some (aK y.s j) }:YV).aj (ak j.file)) w w'):=fun W W' hd hb=>by
     obtain⟨Y1,e1,h1,h3⟩:=hd;refine(sK (ak j.file) W' (h1.below hb) hY.top (jH hfi.1 hfi.2) (by omega)).mono ?_
     rintro e w' ⟨rfl,h4⟩;exact⟨rfl,au.trans e1 h3 (au.from hb h4)⟩
    obtain⟨s1,s2,s3,s4⟩:=fP ({ y with s:=aF y.s j,j:=some (aK y.s j) }:YV) (ak j.file)
    have HE:Hid (∀ W:World,y.bJ=0→au yp Y y (({ y with s:=aF y.s j,j:=some (aK y.s j) }:YV).aj (ak j.file)) w W→Calls Tryz.prog 95 #[.pointer (some ⟨Y.jb.jp,0,none⟩),.bool true] W fun e w'=>e=.returned (.tuple #[])∧au yp Y y (({ y with s:=aF y.s j,j:=some (aK y.s j) }:YV).over j.file 4) w w'):=fun W h0 ⟨Y1,e1,h1,h3⟩=>by
     rw[← e1];refine(AX (C:=C) true W h1 (by rw[s1];exact hY.s.settle j (by omega)) s4 (by rw[s1];exact hin.ok.settle)).mono ?_
     rintro e w' ⟨rfl,hd⟩;refine⟨rfl,?_⟩;have hd2:=au.trans e1 h3 hd
     have e2:({ y with s:=aF y.s j,j:=some (aK y.s j) }:YV).over j.file 4={ ({ y with s:=aF y.s j,j:=some (aK y.s j) }:YV).aj (ak j.file) with j:=some (kR (aK y.s j) true),l:=((aF y.s j).walk j.file).1 }:=by
      unfold YV.over;rw[if_pos (show({ y with s:=aF y.s j,j:=some (aK y.s j) }:YV).bJ=0 from h0)];rfl
     rw[e2];exact hd2.re rfl rfl rfl rfl rfl
    have HO:Hid (y.bJ≠0→({ y with s:=aF y.s j,j:=some (aK y.s j) }:YV).over j.file 4=({ y with s:=aF y.s j,j:=some (aK y.s j) }:YV).aj (ak j.file)):=fun h0=>by unfold YV.over;rw[if_neg (show ¬({ y with s:=aF y.s j,j:=some (aK y.s j) }:YV).bJ=0 from h0)]
    have HBC:=HBC;unfold qp at HBS HBC HBX;clear h hY hb hj hg hin ek ef hpF hpV HD0 s1 s2 s3 s4 hS hS0 hfi;generalize ({ y with s:=aF y.s j,j:=some (aK y.s j) }:YV).over j.file 4=z3 at HE HO ⊢
    generalize ({ y with s:=aF y.s j,j:=some (aK y.s j) }:YV).aj (ak j.file)=z2 at HE HO HDK
    generalize ({ y with s:=aF y.s j,j:=some (aK y.s j) }:YV)=z1 at HSE HBX HDK
    generalize y.bJ=F at HDK HE HO ⊢;by_cases hF:F=0
    ·rw[hF,aB] at HDK
     rw[hF,aB];have HE1:=ah (fun W hd=>HE.out W hF hd)
     clear HE HO hF;go_enter Tryz.func56,Tryz.ntmps56
     go_wp2_with fail
     refine HG.out.mono ?_;rintro e w' ⟨rfl,hw⟩;have hw':=hw.symm;subst hw';clear hw HG;go_wp2_with fail
     refine HSU.out.mono ?_;rintro e w1 ⟨rfl,hb1⟩;have HS:=ah (HSE.out _ (HBS.out _ hb1));have HX:=ah (fun W' hd=>HBX.out _ w1 W' hb1 rfl hd)
     clear hb1 HSU HSE HBS HBC HBX;go_wp2_with fail
     refine HS.out.mono ?_;rintro e w2 ⟨rfl,hda,hdb⟩;have q1:=HX.out _ hda;have HD1:=ah (fun W' hb=>HDK.out w2 W' hdb hb)
     clear hda hdb HS HX HDK;go_wp2_with fail
     refine(HID.out _).mono ?_;rintro e w3 ⟨rfl,hb3⟩;have HK:=ah (HD1.out _ hb3);clear hb3 HD1 HID;go_wp2_with fail
     refine HK.out.mono ?_;rintro e w4 ⟨rfl,hd4⟩;have HE2:=ah (HE1.out _ hd4);clear hd4 HK HE1;go_wp2_with fail
     refine HE2.out.mono ?_;rintro e w5 ⟨rfl,hd5⟩;have HD:=ah hd5;clear hd5 HE2;go_wp2
     go_ret
     exact⟨rfl,HD.out⟩
    ·rw[HO.out hF]
     rw[aT hF] at HDK ⊢;clear HE HO;go_enter Tryz.func56,Tryz.ntmps56
     go_wp2_with fail
     refine HG.out.mono ?_;rintro e w' ⟨rfl,hw⟩;have hw':=hw.symm;subst hw';clear hw HG;go_wp2_with fail
     refine HSU.out.mono ?_;rintro e w1 ⟨rfl,hb1⟩;have HS:=ah (HSE.out _ (HBS.out _ hb1));have HX:=ah (fun W' hd=>HBX.out _ w1 W' hb1 rfl hd)
     clear hb1 HSU HSE HBS HBC HBX;go_wp2_with fail
     refine HS.out.mono ?_;rintro e w2 ⟨rfl,hda,hdb⟩;have q1:=HX.out _ hda;have HD1:=ah (fun W' hb=>HDK.out w2 W' hdb hb)
     clear hda hdb HS HX HDK;go_wp2_with fail
     refine(HID.out _).mono ?_;rintro e w3 ⟨rfl,hb3⟩;have HK:=ah (HD1.out _ hb3);clear hb3 HD1 HID;go_wp2_with fail
     refine HK.out.mono ?_;rintro e w4 ⟨rfl,hd4⟩;have HD:=ah hd4;clear hd4 HK;go_wp2
     go_ret
     exact⟨rfl,HD.out⟩
 ·rw[pF hb] at HG
  have e1:y.qL=4:=by
   unfold YV.qL
   cases hj:y.j with
   | none=>rfl
   | some j=>show(if 4≤j.stage then _ else _)=_;rw[if_pos (nO hb j hj)]
  have e2:y.pivot=y:=by
   unfold YV.pivot
   cases hj:y.j with
   | none=>rfl
   | some j=>show(if 4≤j.stage∨y.kd.kind=2 then _ else _)=_;rw[if_pos (.inl (nO hb j hj))]
  have HD:=ah (HD0.out w (Below.refl _ _));rw[e1,e2,aT (by decide)]
  clear h hY hb e1 e2 HD0;go_enter Tryz.func56,Tryz.ntmps56
  go_wp2_with fail
  refine HG.out.mono ?_;rintro e w' ⟨rfl,hw⟩;have hw':=hw.symm;subst hw';clear hw HG;go_wp2
  go_ret
  exact⟨rfl,HD.out⟩
end Go.Proofs.YtonhoahnieoebabGreatDoor
