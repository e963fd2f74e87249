/- A step of a job (program). -/
import Derived.Test.YtonhoahnieoebabGreatDoorQAJobP5
set_option maxHeartbeats 2000000
set_option maxRecDepth 100000
namespace Go.Proofs.YtonhoahnieoebabGreatDoor
open Go.RowKit Go.Maps
attribute [local go_sem ↓] Go.wp_at_zero Go.wp_at_succ
theorem PJ.GI{w w1 w2:World}{sp jp lp bp cap m C:Nat}{a:Option Addr}{xs ys:Nat→Ih}{s z:SV}{j:JV}{k:Nat}(hk:k<64)(h:PJ w1 sp jp lp bp a cap ys z m C j.took)(hm:Moved (fpP xs s jp lp bp) w (fpP ys z jp lp bp) w1)(h1:S4.fU w2 lp j.n (S4.eP j.n j.x (k:Int) false))(h2:S4.Kept (fun i=>i=lp) w1 w2) :
  w2.cell? ⟨jp,7,none⟩=some (.int .i64 j.last)∧w2.frozen? ⟨jp,7,none⟩=false∧aX sp jp lp bp a cap xs s z m C (j.went (k:Int)) w (w2.setCell ⟨jp,7,none⟩ (.int .i64 (k:Int))):=by
 obtain⟨p1,m1⟩:=h.zX (c:=(k:Int)) (b:=false) h1 h2;obtain⟨p2,m2⟩:=p1.Ai (c:=(k:Int)) ⟨by omega,by omega⟩
 obtain⟨_,_,_,_,_,_,_,c7,_,f7⟩:=p1.job.cells;exact⟨c7,f7,ys,p2,hm.trans (m1.trans m2)⟩
theorem Nq{sp jp lp bp cap m C:Nat}{a:Option Addr}{xs:Nat→Ih}{s:SV}{j:JV}(w:World)(h:PJ w sp jp lp bp a cap xs s m C j)(h1:j.stage≠1) :
  Calls Tryz.prog 82 #[.pointer (some ⟨jp,0,none⟩)] w fun e w'=>e=.returned (.tuple #[.bool false,erV 9])∧aX sp jp lp bp a cap xs s s (m+10) C j w w':=by
 have HD:=ah ((aX.refl h).more (show m≤m+10 by omega))
 obtain⟨c0,c1,c2,c3,c4,c5,c6,c7,f4,f7⟩:=h.job.cells;have g1:(j.stage != 1)=true:=by simpa using h1
 rw[aT (by decide)]
 clear h h1 c0 c1 c2 c3 c5 c6 c7 f4 f7;go_enter Tryz.func82,Tryz.ntmps82
 go_wp2
 go_ret2
 exact⟨rfl,HD.out⟩
theorem Np{sp jp lp bp cap m C:Nat}{a:Option Addr}{xs:Nat→Ih}{s:SV}{j:JV}(w:World)(h:PJ w sp jp lp bp a cap xs s m C j)(hT:S4.Tab w)(h1:j.stage=1)(hso:j.some=false) :
    Calls Tryz.prog 82 #[.pointer (some ⟨jp,0,none⟩)] w fun e w'=>e=.returned (.tuple #[.bool false,.nilIface])∧aX sp jp lp bp a cap xs s s (m+10) C j w w':=by
  have HP:=ah h;obtain⟨c0,c1,c2,c3,c4,c5,c6,c7,f4,f7⟩:=h.job.cells;rw[h1] at c4;have HBD:Hid (Below w.heap.size w w.drew):=(Below.refl _ _).drew;have hsl:S4.jV j.x (S4.elems j.x):=⟨rfl⟩;have HNX:Hid (Calls Tryz.prog 192 #[.pointer (some ⟨lp,0,none⟩),.int .i64 (j.last+1)] w.drew fun e w'=>e=.returned (.tuple #[.int .i64 j.pick,.bool j.some])∧Below w.drew.heap.size w.drew w'):=S4.uY (S4.elems j.x) hsl (j.last+1) w.drew (h.job.set.below HBD.out) h.ok.set hT
  have HC:Hid (∀ W:World,Below w.heap.size w W→W.cell? ⟨jp,5,none⟩=some (.pointer (some ⟨lp,0,none⟩))∧W.cell? ⟨jp,7,none⟩=some (.int .i64 j.last)):=fun W hb=>by
    obtain⟨c0,c1,c2,c3,c4,c5,c6,c7,_⟩:=(h.below hb).job.cells;exact⟨c5,c7⟩
  have hla:=h.ok.last;have hadd:IntKind.i64.wrap (j.last+1)=j.last+1:=IntWalk.i64_in _ (by omega)
  have d5:w.drew.cell? ⟨jp,5,none⟩=some (.pointer (some ⟨lp,0,none⟩)):=c5;have d7:w.drew.cell? ⟨jp,7,none⟩=some (.int .i64 j.last):=c7;rw[hso] at HNX;have HD0:Hid (∀ W:World,Below w.heap.size w W→aX sp jp lp bp a cap xs s s (m+10) C j w W):=fun W hb=>(aX.below h hb).more (by omega)
  clear h HP hT hsl hso h1 c0 c1 c2 c3 c5 c6 c7 f4 f7;generalize j.pick=pk at HNX;generalize j.last=lst at HNX hla hadd d7 HC;go_enter Tryz.func82,Tryz.ntmps82
  go_wp2
  go_region_held3 (fun W=>W.cell? ⟨jp,5,none⟩=some (.pointer (some ⟨lp,0,none⟩))∧W.cell? ⟨jp,7,none⟩=some (.int .i64 lst))
    (first|(exact⟨d5,d7⟩)|assumption)
    (first
      | (go_at_call 192;refine HNX.out.mono ?_;rintro e w1 ⟨rfl,hb1⟩;have HB1:=ah (HBD.out.trans (hb1.mono HBD.out.size));have hS1:=HC.out _ HB1.out;clear hb1))
  have HD:=ah (HD0.out _ HB1.out);clear hS1;go_wp2
  go_ret2
  exact⟨rfl,HD.out⟩
theorem Nr{sp jp lp bp cap m C:Nat}{a:Option Addr}{xs:Nat→Ih}{s:SV}{j:JV}(w:World)(h:PJ w sp jp lp bp a cap xs s m C j)(hT:S4.Tab w)(h1:j.stage=1)(hso:j.some=true)(hlv:S4.inB 4 j.lv=false) :
    Calls Tryz.prog 82 #[.pointer (some ⟨jp,0,none⟩)] w fun e w'=>e=.returned (.tuple #[.bool false,.nilIface])∧aX sp jp lp bp a cap xs s s (m+10) C j w w':=by
  have HP:=ah h;obtain⟨c0,c1,c2,c3,c4,c5,c6,c7,f4,f7⟩:=h.job.cells;rw[h1] at c4;have HBD:Hid (Below w.heap.size w w.drew):=(Below.refl _ _).drew;have hsl:S4.jV j.x (S4.elems j.x):=⟨rfl⟩;have HNX:Hid (Calls Tryz.prog 192 #[.pointer (some ⟨lp,0,none⟩),.int .i64 (j.last+1)] w.drew fun e w'=>e=.returned (.tuple #[.int .i64 j.pick,.bool j.some])∧Below w.drew.heap.size w.drew w'):=S4.uY (S4.elems j.x) hsl (j.last+1) w.drew (h.job.set.below HBD.out) h.ok.set hT
  have HC:Hid (∀ W:World,Below w.heap.size w W→W.cell? ⟨jp,5,none⟩=some (.pointer (some ⟨lp,0,none⟩))∧W.cell? ⟨jp,7,none⟩=some (.int .i64 j.last)):=fun W hb=>by
    obtain⟨c0,c1,c2,c3,c4,c5,c6,c7,_⟩:=(h.below hb).job.cells;exact⟨c5,c7⟩
  have hla:=h.ok.last;have hadd:IntKind.i64.wrap (j.last+1)=j.last+1:=IntWalk.i64_in _ (by omega)
  have d5:w.drew.cell? ⟨jp,5,none⟩=some (.pointer (some ⟨lp,0,none⟩)):=c5;have d7:w.drew.cell? ⟨jp,7,none⟩=some (.int .i64 j.last):=c7;rw[hso] at HNX
  have HC6:Hid (∀ W:World,Below w.heap.size w W→W.cell? ⟨jp,6,none⟩=some (.pointer (some ⟨bp,0,none⟩))):=fun W hb=>by
    obtain⟨c0,c1,c2,c3,c4,c5,c6,c7,_⟩:=(h.below hb).job.cells;exact c6
  have HTK:Hid (∀ W:World,Below w.heap.size w W→Calls Tryz.prog 193 #[.pointer (some ⟨bp,0,none⟩),.int .i64 4] W fun e w'=>e=.returned (.bool (S4.inB 4 j.lv))∧S4.Three 245 w' bp j.rate j.burst (S4.jU j.lv 4)∧S4.Kept (fun k=>k=bp) W w'):=fun W hb=>S4.vS 4 W (h.job.bkt.below hb) ⟨h.ok.lv.1,by have:=h.ok.lv;omega⟩
  have htv:S4.jU j.lv 4=j.lv:=by unfold S4.jU;rw[hlv];rfl
  rw[hlv,htv] at HTK
  have HPU:Hid (∀ W w':World,Below w.heap.size w W→S4.Three 245 w' bp j.rate j.burst j.lv→S4.Kept (fun k=>k=bp) W w'→aX sp jp lp bp a cap xs s s (m+10) C j w w'):=fun W w' hb h1 h2=>by
    obtain⟨p1,m1⟩:=(HP.out.below hb).rV h1 h2 ⟨HP.out.ok.lv.1,HP.out.ok.lv.2.1⟩;exact⟨xs,p1.more (by omega),(Moved.of_below hb).trans m1⟩
  clear h HP hT hsl hso h1 c0 c1 c2 c3 c5 c6 c7 f4 f7 hlv htv;generalize j.pick=pk at HNX;generalize j.last=lst at HNX hla hadd d7 HC;go_enter Tryz.func82,Tryz.ntmps82
  go_wp2
  go_region_held3 (fun W=>W.cell? ⟨jp,5,none⟩=some (.pointer (some ⟨lp,0,none⟩))∧W.cell? ⟨jp,7,none⟩=some (.int .i64 lst))
    (first|(exact⟨d5,d7⟩)|assumption)
    (first
      | (go_at_call 192;refine HNX.out.mono ?_;rintro e w1 ⟨rfl,hb1⟩;have HB1:=ah (HBD.out.trans (hb1.mono HBD.out.size));have hS1:=HC.out _ HB1.out;clear hb1))
  have e6:=HC6.out _ HB1.out;clear hS1 HC6 HC;go_wp2_with fail
  refine(HTK.out _ HB1.out).mono ?_;rintro e w2 ⟨rfl,h1,h2⟩;have HD:=ah (HPU.out _ _ HB1.out h1 h2);clear h1 h2 e6 HTK HPU HB1;go_wp2
  go_ret2
  exact⟨rfl,HD.out⟩
theorem Ns{sp jp lp bp cap m C:Nat}{a:Option Addr}{xs:Nat→Ih}{s:SV}{j:JV}(w:World)(h:PJ w sp jp lp bp a cap xs s m C j)(hT:S4.Tab w)(h1:j.stage=1)(hso:j.some=true)(hlv:S4.inB 4 j.lv=true)(hwt:j.eY s j.pick=false) :
    Calls Tryz.prog 82 #[.pointer (some ⟨jp,0,none⟩)] w fun e w'=>e=.returned (.tuple #[.bool true,.nilIface])∧aX sp jp lp bp a cap xs s s (m+10) C (j.went j.pick) w w':=by
  have HP:=ah h;obtain⟨c0,c1,c2,c3,c4,c5,c6,c7,f4,f7⟩:=h.job.cells;rw[h1] at c4;have HBD:Hid (Below w.heap.size w w.drew):=(Below.refl _ _).drew;have hsl:S4.jV j.x (S4.elems j.x):=⟨rfl⟩;have HNX:Hid (Calls Tryz.prog 192 #[.pointer (some ⟨lp,0,none⟩),.int .i64 (j.last+1)] w.drew fun e w'=>e=.returned (.tuple #[.int .i64 j.pick,.bool j.some])∧Below w.drew.heap.size w.drew w'):=S4.uY (S4.elems j.x) hsl (j.last+1) w.drew (h.job.set.below HBD.out) h.ok.set hT
  have HC:Hid (∀ W:World,Below w.heap.size w W→W.cell? ⟨jp,5,none⟩=some (.pointer (some ⟨lp,0,none⟩))∧W.cell? ⟨jp,7,none⟩=some (.int .i64 j.last)):=fun W hb=>by
    obtain⟨c0,c1,c2,c3,c4,c5,c6,c7,_⟩:=(h.below hb).job.cells;exact⟨c5,c7⟩
  have hla:=h.ok.last;have hadd:IntKind.i64.wrap (j.last+1)=j.last+1:=IntWalk.i64_in _ (by omega)
  have d5:w.drew.cell? ⟨jp,5,none⟩=some (.pointer (some ⟨lp,0,none⟩)):=c5;have d7:w.drew.cell? ⟨jp,7,none⟩=some (.int .i64 j.last):=c7;rw[hso] at HNX
  have HC6:Hid (∀ W:World,Below w.heap.size w W→W.cell? ⟨jp,6,none⟩=some (.pointer (some ⟨bp,0,none⟩))):=fun W hb=>by
    obtain⟨c0,c1,c2,c3,c4,c5,c6,c7,_⟩:=(h.below hb).job.cells;exact c6
  have HTK:Hid (∀ W:World,Below w.heap.size w W→Calls Tryz.prog 193 #[.pointer (some ⟨bp,0,none⟩),.int .i64 4] W fun e w'=>e=.returned (.bool (S4.inB 4 j.lv))∧S4.Three 245 w' bp j.rate j.burst (S4.jU j.lv 4)∧S4.Kept (fun k=>k=bp) W w'):=fun W hb=>S4.vS 4 W (h.job.bkt.below hb) ⟨h.ok.lv.1,by have:=h.ok.lv;omega⟩
  have h4:4≤j.lv:=by unfold S4.inB at hlv;simp at hlv;omega
  have htv:S4.jU j.lv 4=j.lv-4:=by unfold S4.jU;rw[hlv];rfl
  rw[hlv,htv] at HTK
  have HPU:Hid (∀ W w':World,Below w.heap.size w W→S4.Three 245 w' bp j.rate j.burst (j.lv-4)→S4.Kept (fun k=>k=bp) W w'→PJ w' sp jp lp bp a cap xs s m C j.took∧Moved (fpP xs s jp lp bp) w (fpP xs s jp lp bp) w'):=fun W w' hb h1 h2=>by
    obtain⟨p1,m1⟩:=(HP.out.below hb).rV h1 h2 ⟨by omega,by have:=HP.out.ok.lv;omega⟩
    exact⟨p1,(Moved.of_below hb).trans m1⟩
  obtain⟨k,hpk,hkC,hk64⟩:=h.ok.pick hso;rw[hpk] at HNX hwt ⊢;clear h HP hT hsl hso h1 c0 c1 c2 c3 c5 c6 c7 f4 f7 hlv htv hpk h4;generalize hlst:j.last=lst at HNX hla hadd d7 HC;go_enter Tryz.func82,Tryz.ntmps82
  go_wp2
  go_region_held3 (fun W=>W.cell? ⟨jp,5,none⟩=some (.pointer (some ⟨lp,0,none⟩))∧W.cell? ⟨jp,7,none⟩=some (.int .i64 lst))
    (first|(exact⟨d5,d7⟩)|assumption)
    (first
      | (go_at_call 192;refine HNX.out.mono ?_;rintro e w1 ⟨rfl,hb1⟩;have HB1:=ah (HBD.out.trans (hb1.mono HBD.out.size));have hS1:=HC.out _ HB1.out;clear hb1))
  have e6:=HC6.out _ HB1.out;clear hS1 HC6 HC d5 d7 HNX;go_wp2_with fail
  refine(HTK.out _ HB1.out).mono ?_;rintro e w2 ⟨rfl,h1,h2⟩;obtain⟨p2,m2⟩:=HPU.out _ _ HB1.out h1 h2;have HM2:=ah m2;have HP2:=ah p2;have HWN:=ah (yj (k:Int) w2 (p2.job.hd p2.cap) p2.shelf p2.nums p2.ok);rw[show j.took.eY s (k:Int)=j.eY s (k:Int) from rfl,hwt] at HWN
  clear h1 h2 p2 m2 e6 HTK HPU HB1 HBD;go_wp2_with fail
  refine HWN.out.mono ?_;rintro e w3 ⟨rfl,hb3⟩;have HP3:=ah (HP2.out.below hb3);have HM3:=ah (HM2.out.trans (Moved.of_below hb3));clear hb3 HWN HP2 HM2;have e5:=HP3.out.job.cells.2.2.2.2.2.1;have HPT:Hid (Calls Tryz.prog 196 #[.pointer (some ⟨lp,0,none⟩),.int .i64 (k:Int),.bool false] w3 fun e w'=>e=.returned (.bool (S4.kE j.n j.x (k:Int) false))∧S4.fU w' lp j.n (S4.eP j.n j.x (k:Int) false)∧S4.Kept (fun i=>i=lp) w3 w'):=S4.xU (k:Int) false w3 HP3.out.job.set HP3.out.ok.set
  generalize S4.kE j.n j.x (k:Int) false=pb at HPT;go_wp2_with fail
  refine HPT.out.mono ?_;rintro e w6 ⟨rfl,h1,h2⟩;obtain⟨c7,f7,hd⟩:=PJ.GI hk64 HP3.out HM3.out h1 h2;have HD:=ah (hd.more (show m≤m+10 by omega))
  clear hd h1 h2 HPT e5 HP3 HM3;go_wp2
  go_ret2
  exact⟨rfl,HD.out⟩
theorem Nl{sp jp lp bp cap m C:Nat}{a:Option Addr}{xs:Nat→Ih}{s:SV}{j:JV}(w:World)(h:PJ w sp jp lp bp a cap xs s m C j)(hT:S4.Tab w)(hm:m+10<1000000000)(h1:j.stage=1)(hso:j.some=true)(hlv:S4.inB 4 j.lv=true)(hwt:j.eY s j.pick=true)(hR:(j.moved s j.pick).2=0) :
    Calls Tryz.prog 82 #[.pointer (some ⟨jp,0,none⟩)] w fun e w'=>e=.returned (.tuple #[.bool true,.nilIface])∧aX sp jp lp bp a cap xs s (j.moved s j.pick).1 (m+10) C (j.went j.pick) w w':=by
  have HP:=ah h;obtain⟨c0,c1,c2,c3,c4,c5,c6,c7,f4,f7⟩:=h.job.cells;rw[h1] at c4;have HBD:Hid (Below w.heap.size w w.drew):=(Below.refl _ _).drew;have hsl:S4.jV j.x (S4.elems j.x):=⟨rfl⟩;have HNX:Hid (Calls Tryz.prog 192 #[.pointer (some ⟨lp,0,none⟩),.int .i64 (j.last+1)] w.drew fun e w'=>e=.returned (.tuple #[.int .i64 j.pick,.bool j.some])∧Below w.drew.heap.size w.drew w'):=S4.uY (S4.elems j.x) hsl (j.last+1) w.drew (h.job.set.below HBD.out) h.ok.set hT
  have HC:Hid (∀ W:World,Below w.heap.size w W→W.cell? ⟨jp,5,none⟩=some (.pointer (some ⟨lp,0,none⟩))∧W.cell? ⟨jp,7,none⟩=some (.int .i64 j.last)):=fun W hb=>by
    obtain⟨c0,c1,c2,c3,c4,c5,c6,c7,_⟩:=(h.below hb).job.cells;exact⟨c5,c7⟩
  have hla:=h.ok.last;have hadd:IntKind.i64.wrap (j.last+1)=j.last+1:=IntWalk.i64_in _ (by omega)
  have d5:w.drew.cell? ⟨jp,5,none⟩=some (.pointer (some ⟨lp,0,none⟩)):=c5;have d7:w.drew.cell? ⟨jp,7,none⟩=some (.int .i64 j.last):=c7;rw[hso] at HNX
  have HC6:Hid (∀ W:World,Below w.heap.size w W→W.cell? ⟨jp,6,none⟩=some (.pointer (some ⟨bp,0,none⟩))):=fun W hb=>by
    obtain⟨c0,c1,c2,c3,c4,c5,c6,c7,_⟩:=(h.below hb).job.cells;exact c6
  have HTK:Hid (∀ W:World,Below w.heap.size w W→Calls Tryz.prog 193 #[.pointer (some ⟨bp,0,none⟩),.int .i64 4] W fun e w'=>e=.returned (.bool (S4.inB 4 j.lv))∧S4.Three 245 w' bp j.rate j.burst (S4.jU j.lv 4)∧S4.Kept (fun k=>k=bp) W w'):=fun W hb=>S4.vS 4 W (h.job.bkt.below hb) ⟨h.ok.lv.1,by have:=h.ok.lv;omega⟩
  have h4:4≤j.lv:=by unfold S4.inB at hlv;simp at hlv;omega
  have htv:S4.jU j.lv 4=j.lv-4:=by unfold S4.jU;rw[hlv];rfl
  rw[hlv,htv] at HTK
  have HPU:Hid (∀ W w':World,Below w.heap.size w W→S4.Three 245 w' bp j.rate j.burst (j.lv-4)→S4.Kept (fun k=>k=bp) W w'→PJ w' sp jp lp bp a cap xs s m C j.took∧Moved (fpP xs s jp lp bp) w (fpP xs s jp lp bp) w'):=fun W w' hb h1 h2=>by
    obtain⟨p1,m1⟩:=(HP.out.below hb).rV h1 h2 ⟨by omega,by have:=HP.out.ok.lv;omega⟩
    exact⟨p1,(Moved.of_below hb).trans m1⟩
  obtain⟨k,hpk,hkC,hk64⟩:=h.ok.pick hso;rw[hpk] at HNX hwt hR ⊢;clear h HP hT hsl hso h1 c0 c1 c2 c3 c5 c6 c7 f4 f7 hlv htv hpk h4;generalize hlst:j.last=lst at HNX hla hadd d7 HC;go_enter Tryz.func82,Tryz.ntmps82
  go_wp2
  go_region_held3 (fun W=>W.cell? ⟨jp,5,none⟩=some (.pointer (some ⟨lp,0,none⟩))∧W.cell? ⟨jp,7,none⟩=some (.int .i64 lst))
    (first|(exact⟨d5,d7⟩)|assumption)
    (first
      | (go_at_call 192;refine HNX.out.mono ?_;rintro e w1 ⟨rfl,hb1⟩;have HB1:=ah (HBD.out.trans (hb1.mono HBD.out.size));have hS1:=HC.out _ HB1.out;clear hb1))
  have e6:=HC6.out _ HB1.out;clear hS1 HC6 HC d5 d7 HNX;go_wp2_with fail
  refine(HTK.out _ HB1.out).mono ?_;rintro e w2 ⟨rfl,h1,h2⟩;obtain⟨p2,m2⟩:=HPU.out _ _ HB1.out h1 h2;have HM2:=ah m2;have HP2:=ah p2;have HWN:=ah (yj (k:Int) w2 (p2.job.hd p2.cap) p2.shelf p2.nums p2.ok);rw[show j.took.eY s (k:Int)=j.eY s (k:Int) from rfl,hwt] at HWN
  clear h1 h2 p2 m2 e6 HTK HPU HB1 HBD;go_wp2_with fail
  refine HWN.out.mono ?_;rintro e w3 ⟨rfl,hb3⟩;have HP3:=ah (HP2.out.below hb3);have HM3:=ah (HM2.out.trans (Moved.of_below hb3));clear hb3 HWN HP2 HM2;have HMV:Hid (Calls Tryz.prog 195 #[.pointer (some ⟨jp,0,none⟩),.int .i64 (k:Int)] w3 fun e w'=>e=.returned (erV (j.moved s (k:Int)).2)∧aX sp jp lp bp a cap xs s (j.moved s (k:Int)).1 (m+10) C j.took w3 w'):=DJ k w3 HP3.out hkC hm
  generalize hRR:j.moved s (k:Int)=R at HMV hR ⊢;rw[hR,aB] at HMV;go_wp2_with fail
  refine HMV.out.mono ?_;rintro e w4 ⟨rfl,zs,p4,m4⟩;have HP4:=ah p4;have HM4:=ah (HM3.out.trans m4);clear p4 m4 HMV HP3 HM3;have e5:=HP4.out.job.cells.2.2.2.2.2.1;have HPT:Hid (Calls Tryz.prog 196 #[.pointer (some ⟨lp,0,none⟩),.int .i64 (k:Int),.bool false] w4 fun e w'=>e=.returned (.bool (S4.kE j.n j.x (k:Int) false))∧S4.fU w' lp j.n (S4.eP j.n j.x (k:Int) false)∧S4.Kept (fun i=>i=lp) w4 w'):=S4.xU (k:Int) false w4 HP4.out.job.set HP4.out.ok.set
  generalize S4.kE j.n j.x (k:Int) false=pb at HPT;go_wp2_with fail
  refine HPT.out.mono ?_;rintro e w6 ⟨rfl,h1,h2⟩;obtain⟨c7,f7,hd⟩:=PJ.GI hk64 HP4.out HM4.out h1 h2;have HD:=ah (hd.more (show m+10≤m+10 by omega))
  clear hd h1 h2 HPT e5 HP4 HM4;go_wp2
  go_ret2
  exact⟨rfl,by rw[hRR];exact HD.out⟩
theorem Nk{sp jp lp bp cap m C:Nat}{a:Option Addr}{xs:Nat→Ih}{s:SV}{j:JV}(w:World)(h:PJ w sp jp lp bp a cap xs s m C j)(hT:S4.Tab w)(hm:m+10<1000000000)(h1:j.stage=1)(hso:j.some=true)(hlv:S4.inB 4 j.lv=true)(hwt:j.eY s j.pick=true)(hR:(j.moved s j.pick).2≠0) :
    Calls Tryz.prog 82 #[.pointer (some ⟨jp,0,none⟩)] w fun e w'=>e=.returned (.tuple #[.bool false,erV (j.moved s j.pick).2])∧aX sp jp lp bp a cap xs s (j.moved s j.pick).1 (m+10) C j.fell w w':=by
  have HP:=ah h;obtain⟨c0,c1,c2,c3,c4,c5,c6,c7,f4,f7⟩:=h.job.cells;rw[h1] at c4;have HBD:Hid (Below w.heap.size w w.drew):=(Below.refl _ _).drew;have hsl:S4.jV j.x (S4.elems j.x):=⟨rfl⟩;have HNX:Hid (Calls Tryz.prog 192 #[.pointer (some ⟨lp,0,none⟩),.int .i64 (j.last+1)] w.drew fun e w'=>e=.returned (.tuple #[.int .i64 j.pick,.bool j.some])∧Below w.drew.heap.size w.drew w'):=S4.uY (S4.elems j.x) hsl (j.last+1) w.drew (h.job.set.below HBD.out) h.ok.set hT
  have HC:Hid (∀ W:World,Below w.heap.size w W→W.cell? ⟨jp,5,none⟩=some (.pointer (some ⟨lp,0,none⟩))∧W.cell? ⟨jp,7,none⟩=some (.int .i64 j.last)):=fun W hb=>by
    obtain⟨c0,c1,c2,c3,c4,c5,c6,c7,_⟩:=(h.below hb).job.cells;exact⟨c5,c7⟩
  have hla:=h.ok.last;have hadd:IntKind.i64.wrap (j.last+1)=j.last+1:=IntWalk.i64_in _ (by omega)
  have d5:w.drew.cell? ⟨jp,5,none⟩=some (.pointer (some ⟨lp,0,none⟩)):=c5;have d7:w.drew.cell? ⟨jp,7,none⟩=some (.int .i64 j.last):=c7;rw[hso] at HNX
  have HC6:Hid (∀ W:World,Below w.heap.size w W→W.cell? ⟨jp,6,none⟩=some (.pointer (some ⟨bp,0,none⟩))):=fun W hb=>by
    obtain⟨c0,c1,c2,c3,c4,c5,c6,c7,_⟩:=(h.below hb).job.cells;exact c6
  have HTK:Hid (∀ W:World,Below w.heap.size w W→Calls Tryz.prog 193 #[.pointer (some ⟨bp,0,none⟩),.int .i64 4] W fun e w'=>e=.returned (.bool (S4.inB 4 j.lv))∧S4.Three 245 w' bp j.rate j.burst (S4.jU j.lv 4)∧S4.Kept (fun k=>k=bp) W w'):=fun W hb=>S4.vS 4 W (h.job.bkt.below hb) ⟨h.ok.lv.1,by have:=h.ok.lv;omega⟩
  have h4:4≤j.lv:=by unfold S4.inB at hlv;simp at hlv;omega
  have htv:S4.jU j.lv 4=j.lv-4:=by unfold S4.jU;rw[hlv];rfl
  rw[hlv,htv] at HTK
  have HPU:Hid (∀ W w':World,Below w.heap.size w W→S4.Three 245 w' bp j.rate j.burst (j.lv-4)→S4.Kept (fun k=>k=bp) W w'→PJ w' sp jp lp bp a cap xs s m C j.took∧Moved (fpP xs s jp lp bp) w (fpP xs s jp lp bp) w'):=fun W w' hb h1 h2=>by
    obtain⟨p1,m1⟩:=(HP.out.below hb).rV h1 h2 ⟨by omega,by have:=HP.out.ok.lv;omega⟩
    exact⟨p1,(Moved.of_below hb).trans m1⟩
  obtain⟨k,hpk,hkC,hk64⟩:=h.ok.pick hso;rw[hpk] at HNX hwt hR ⊢;clear h HP hT hsl hso h1 c0 c1 c2 c3 c5 c6 c7 f4 f7 hlv htv hpk h4;generalize hlst:j.last=lst at HNX hla hadd d7 HC;go_enter Tryz.func82,Tryz.ntmps82
  go_wp2
  go_region_held3 (fun W=>W.cell? ⟨jp,5,none⟩=some (.pointer (some ⟨lp,0,none⟩))∧W.cell? ⟨jp,7,none⟩=some (.int .i64 lst))
    (first|(exact⟨d5,d7⟩)|assumption)
    (first
      | (go_at_call 192;refine HNX.out.mono ?_;rintro e w1 ⟨rfl,hb1⟩;have HB1:=ah (HBD.out.trans (hb1.mono HBD.out.size));have hS1:=HC.out _ HB1.out;clear hb1))
  have e6:=HC6.out _ HB1.out;clear hS1 HC6 HC d5 d7 HNX;go_wp2_with fail
  refine(HTK.out _ HB1.out).mono ?_;rintro e w2 ⟨rfl,h1,h2⟩;obtain⟨p2,m2⟩:=HPU.out _ _ HB1.out h1 h2;have HM2:=ah m2;have HP2:=ah p2;have HWN:=ah (yj (k:Int) w2 (p2.job.hd p2.cap) p2.shelf p2.nums p2.ok);rw[show j.took.eY s (k:Int)=j.eY s (k:Int) from rfl,hwt] at HWN
  clear h1 h2 p2 m2 e6 HTK HPU HB1 HBD;go_wp2_with fail
  refine HWN.out.mono ?_;rintro e w3 ⟨rfl,hb3⟩;have HP3:=ah (HP2.out.below hb3);have HM3:=ah (HM2.out.trans (Moved.of_below hb3));clear hb3 HWN HP2 HM2;have HMV:Hid (Calls Tryz.prog 195 #[.pointer (some ⟨jp,0,none⟩),.int .i64 (k:Int)] w3 fun e w'=>e=.returned (erV (j.moved s (k:Int)).2)∧aX sp jp lp bp a cap xs s (j.moved s (k:Int)).1 (m+10) C j.took w3 w'):=DJ k w3 HP3.out hkC hm
  generalize hRR:j.moved s (k:Int)=R at HMV hR ⊢;rw[aT hR] at HMV;go_wp2_with fail
  refine HMV.out.mono ?_;rintro e w4 ⟨rfl,zs,p4,m4⟩;have HEN:Hid (Calls Tryz.prog 95 #[.pointer (some ⟨jp,0,none⟩),.bool false] w4 fun e w'=>e=.returned (.tuple #[])∧aX sp jp lp bp a cap xs s R.1 (m+10) C j.fell w w'):=(yT false w4 p4).mono fun e w' ⟨h3,h4⟩=>⟨h3,aX.after (HM3.out.trans m4) h4⟩
  clear p4 m4 HMV HP3 HM3;go_wp2_with fail
  refine HEN.out.mono ?_;rintro e w5 ⟨rfl,hd⟩;have HD:=ah hd;clear hd HEN;go_wp2
  go_ret2
  exact⟨by rw[hRR,aT hR];rfl,by rw[hRR];exact HD.out⟩
theorem Nj{sp jp lp bp cap m C:Nat}{a:Option Addr}{xs:Nat→Ih}{s:SV}{j:JV}(w:World)(h:PJ w sp jp lp bp a cap xs s m C j)(hT:S4.Tab w)(hm:m+10<1000000000) :
  Calls Tryz.prog 82 #[.pointer (some ⟨jp,0,none⟩)] w fun e w'=>e=.returned (.tuple #[.bool (jG s j),erV (eU s j)])∧aX sp jp lp bp a cap xs s (stepS s j) (m+10) C (stepJ s j) w w':=by
 unfold jG eU stepS stepJ;by_cases h1:j.stage=1
 ·cases hso:j.some with
  | false =>
   rw[decide_eq_false (fun e=>absurd e.2.1 (by decide)),if_pos h1,if_neg (fun e=>absurd e.1 (by decide)),if_neg (fun e=>absurd e.2.1 (by decide)),if_neg (fun e=>absurd e.2.1 (by decide)),aB]
   exact Np w h hT h1 hso
  | true =>
   cases hlv:S4.inB 4 j.lv with
   | false =>
    rw[decide_eq_false (fun e=>absurd e.2.2.1 (by decide)),if_pos h1,if_neg (fun e=>absurd e.2.1 (by decide)),if_neg (fun e=>absurd e.2.2.1 (by decide)),if_neg (fun e=>absurd e.2.2 (by decide)),aB]
    exact Nr w h hT h1 hso hlv
   | true =>
    cases hwt:j.eY s j.pick with
    | false =>
     rw[decide_eq_true ⟨h1,rfl,rfl,fun e=>absurd e.1 (by decide)⟩,if_pos h1,if_neg (fun e=>absurd e.2.2 (by decide)),if_neg (fun e=>absurd e.2.2.2 (by decide)),if_pos ⟨h1,rfl,rfl⟩,if_neg (fun e=>absurd e.1 (by decide)),aB]
     exact Ns w h hT h1 hso hlv hwt
    | true =>
     by_cases hR:(j.moved s j.pick).2=0
     ·rw[decide_eq_true ⟨h1,rfl,rfl,fun e=>e.2 hR⟩,if_pos h1,if_pos ⟨rfl,rfl,rfl⟩,if_pos ⟨h1,rfl,rfl,rfl⟩,if_pos ⟨h1,rfl,rfl⟩,if_neg (fun e=>e.2 hR),hR,aB]
      exact Nl w h hT hm h1 hso hlv hwt hR
     ·rw[decide_eq_false (fun e=>e.2.2.2 ⟨rfl,hR⟩),if_pos h1,if_pos ⟨rfl,rfl,rfl⟩,if_pos ⟨h1,rfl,rfl,rfl⟩,if_pos ⟨h1,rfl,rfl⟩,if_pos ⟨rfl,hR⟩]
      exact Nk w h hT hm h1 hso hlv hwt hR
 ·rw[decide_eq_false (fun e=>h1 e.1),if_neg h1,if_neg (fun e=>h1 e.1),if_neg (fun e=>h1 e.1)]
  exact Nq w h h1
theorem PG(l:List Pt)(i:Nat)(h:i<l.length):(jT l)[i*4]?=some (.int .i64 (l[i].c:Int))∧(jT l)[i*4+1]?=some (.int .i64 (l[i].f:Int))∧(jT l)[i*4+2]?=some (.int .i64 (l[i].n:Int))∧(jT l)[i*4+3]?=some (.int .i64 (l[i].a:Int)):=by
 induction l generalizing i with
 | nil=>cases h
 | cons p l ih =>
  have e:jT (p::l)=.int .i64 (p.c:Int)::.int .i64 (p.f:Int)::.int .i64 (p.n:Int)::.int .i64 (p.a:Int)::jT l:=rfl;rw[e]
  cases i with
  | zero=>exact⟨rfl,rfl,rfl,rfl⟩
  | succ i =>
   have:=ih i (by simpa using h)
   rw[show(i+1)*4=i*4+1+1+1+1 by omega]
   simpa using this
structure qA(w:World)(g cap:Nat)(P:List Pt):Prop where
 own:w.ownsRow 0 224 4 (.slice (some ⟨g,0,none⟩) P.length cap) P.length (jT P)
theorem qA.cells{w:World}{g cap:Nat}{P:List Pt}(h:qA w g cap P){i:Nat}(hi:i<P.length) :
  w.cell? ⟨g,i*4,none⟩=some (.int .i64 (P[i].c:Int))∧w.cell? ⟨g,i*4+1,none⟩=some (.int .i64 (P[i].f:Int))∧w.cell? ⟨g,i*4+2,none⟩=some (.int .i64 (P[i].n:Int))∧w.cell? ⟨g,i*4+3,none⟩=some (.int .i64 (P[i].a:Int)):=by
 obtain⟨h0,h1,h2,h3⟩:=PG P i hi;refine⟨?_,?_,?_,?_⟩
 ·rw[h.own.cellAt (i*4) (by omega)];exact h0
 ·rw[h.own.cellAt (i*4+1) (by omega)];exact h1
 ·rw[h.own.cellAt (i*4+2) (by omega)];exact h2
 ·rw[h.own.cellAt (i*4+3) (by omega)];exact h3
theorem zW{w:World}{B n cap:Nat}{a:Option Addr}{P:List Pt}(ho:w.ownsRow B 224 4 (.slice a n cap) n (jT P))(hn:P.length=n)(h0:0<n):∃ g,a=some ⟨g,0,none⟩∧B≤g∧g<w.heap.size∧qA w g cap P:=by
 obtain⟨g,c2,hv,hb,hg⟩:=ho.form h0
 injection hv with e1 e2 e3
 subst e1;subst hn;exact⟨g,rfl,hb,hg,⟨ownsRow_base ho (Nat.zero_le _)⟩⟩
structure jQ(w1:World)(sp:Nat)(xs:Nat→Ih)(s:SV)(m:Nat)(C:Int)(l:List Int)(op:SV→Pt→SV × Int)(P:List Pt)(R:SV × Int)(i:Nat)(ys:Nat→Ih)(z:SV)(wr:World):Prop where
 shelf:aV wr sp ys z (m+10*i)
 good:z.good C l
 go:dY op z (P.drop i)=R
 moved:Moved (fpS xs s) w1 (fpS ys z) wr
theorem jQ.step{w1 wr W w2:World}{sp m i:Nat}{xs ys:Nat→Ih}{s z:SV}{C:Int}{l:List Int}{op:SV→Pt→SV × Int}{P:List Pt}{R:SV × Int}{e:Ending}(h:jQ w1 sp xs s m C l op P R i ys z wr)(hb:Below wr.heap.size wr W)(hi:i<P.length)(hop:∀(s:SV) p,s.good C l→(op s p).1.good C l)(hd:bD W sp ys z (m+10*i+10) (op z P[i]) e w2)(h0:(op z P[i]).2=0) :
  ∃ ys' z',jQ w1 sp xs s m C l op P R (i+1) ys' z' w2:=by
 obtain⟨ys',h1,h2,h3⟩:=hd;refine⟨ys',(op z P[i]).1,⟨by rw[show m+10*(i+1)=m+10*i+10 by omega];exact h2,hop _ _ h.good,?_,h.moved.trans ((Moved.of_below hb).trans h3)⟩⟩
 have:=h.go
 rw[CJ hi,nP,if_pos h0] at this;exact this
theorem jQ.stop{w1 wr W w2:World}{sp m i M:Nat}{xs ys:Nat→Ih}{s z:SV}{C:Int}{l:List Int}{op:SV→Pt→SV × Int}{P:List Pt}{R:SV × Int}{e:Ending}(h:jQ w1 sp xs s m C l op P R i ys z wr)(hb:Below wr.heap.size wr W)(hi:i<P.length)(hM:m+10*i+10≤M)(hd:bD W sp ys z (m+10*i+10) (op z P[i]) e w2)(h0:(op z P[i]).2≠0) :
  R=op z P[i]∧bD w1 sp xs s M R e w2:=by
 have hR:R=op z P[i]:=by
  have:=h.go
  rw[CJ hi,nP,if_neg h0] at this;exact this.symm
 obtain⟨ys',h1,h2,h3⟩:=hd;rw[hR];exact⟨rfl,ys',h1,h2.more hM,h.moved.trans ((Moved.of_below hb).trans h3)⟩
theorem jQ.fin{w1 wr:World}{sp m M:Nat}{xs ys:Nat→Ih}{s z:SV}{C:Int}{l:List Int}{op:SV→Pt→SV × Int}{P:List Pt}{R:SV × Int}{i:Nat}(h:jQ w1 sp xs s m C l op P R i ys z wr)(hi:i=P.length)(hM:m+10*i≤M):bD w1 sp xs s M R (.returned .nilIface) wr:=by
 have hR:=h.go;rw[hi,List.drop_length] at hR;have hR':R=(z,0):=hR.symm;rw[hR',← aB];exact⟨ys,rfl,h.shelf.more hM,h.moved⟩
theorem Jo{sp m cap C:Nat}{xs:Nat→Ih}{s:SV}{a:Option Addr}(l:List Int)(fr n:Int)(w:World)(h:aV w sp xs s m)(hl:Nums w a l)(hg:s.good (C:Int) l)(h5:l.length≤100)(hC:C≤40)(ha:Apart a (fpS xs s))(hm:m+3000<1000000000)(hfr : -9223372036854775808≤fr∧fr≤9223372036854775807) :
  Calls Tryz.prog 71 #[.pointer (some ⟨sp,6,none⟩),.slice a l.length cap,.int .i64 fr,.int .i64 n] w (bD w sp xs s (m+2000) (s.wipe l fr n)):=by
 have HCK:=ah (check_any (cap:=cap) l fr n w h hl hg (by omega) hfr)
 by_cases hF:s.bP l fr n=0
 ·obtain⟨h0,n0,n1,n2⟩:=SV.jr hg hF
  obtain⟨f,rfl⟩:∃ f:Nat,fr=(f:Int):=⟨fr.toNat,by omega⟩
  obtain⟨k,rfl⟩:∃ k:Nat,n=(k:Int):=⟨n.toNat,by omega⟩
  have HR:Hid (s.wipe l (f:Int) (k:Int)=dY (SV.bK l) s (aO f k 0)):=by unfold Hid SV.wipe;rw[if_pos hF];rfl
  rw[hF,aB] at HCK;have HPA:=ah (fun W=>zU f k W (by omega))
  have HFI:Hid (∀ p∈aO f k 0,p.fits f k C):=uG (by omega) k 0 (by omega)
  have hPL:=nV f k k 0 (by omega)
  generalize aO f k 0=P at HR HPA HFI hPL;generalize s.wipe l (f:Int) (k:Int)=R at HR ⊢;have HOP:Hid (∀(s:SV) p,s.good (C:Int) l→(SV.bK l s p).1.good (C:Int) l):=fun s p hg=>hg.bK l p
  have HWP:Hid (∀(W w1 wr:World) (ys:Nat→Ih) (z:SV) (i:Nat) (hi:i<P.length),Below w.heap.size w w1→jQ w1 sp xs s m (C:Int) l (SV.bK l) P R i ys z wr→Below wr.heap.size wr W →
    Calls Tryz.prog 180 #[.pointer (some ⟨sp,6,none⟩),.slice a l.length cap,.agg #[.int .i64 (P[i].c:Int),.int .i64 (P[i].f:Int),.int .i64 (P[i].n:Int),.int .i64 (P[i].a:Int)]] W (bD W sp ys z (m+10*i+10) (SV.bK l z P[i]))):=fun W w1 wr ys z i hi hb1 hp hb=>by
   have hfi:=HFI.out P[i] (List.getElem_mem hi);have hnu:Nums W a l:=((hl.below hb1).moved hp.moved (fun g o e=>ha g o e)).below hb
   cases l with
   | nil=>exact absurd rfl h0
   | cons x r=>exact TP x r P[i].c P[i].f P[i].n P[i].a W (hp.shelf.below hb) hnu hp.good h5 (by omega) hfi.n4 (by have:=hfi.c;omega)
  have HST:Hid (∀ w1:World,Below w.heap.size w w1→jQ w1 sp xs s m (C:Int) l (SV.bK l) P R 0 xs s w1):=fun w1 hb=>⟨h.below hb,hg,HR.out.symm,Moved.refl _ _⟩
  have HKP:Hid (∀ k,w.heap.size≤k→¬fpS xs s k):=fun k hk hs=>by have:=h.jJ hs;omega
  have HFR:Hid (∀(w1 w':World) (R:SV × Int) (e:Ending),Below w.heap.size w w1→bD w1 sp xs s (m+2000) R e w'→bD w sp xs s (m+2000) R e w'):=fun w1 w' R e hb hd=>hd.from hb
  generalize hq:l.length=q at HCK HWP ⊢;clear h hl hg ha hF hq HFI;go_enter Tryz.func71,Tryz.ntmps71
  go_wp2_with fail
  refine HCK.out.mono ?_;rintro e wA ⟨rfl,hbA⟩;have HBA:=ah hbA;clear hbA HCK;go_wp2_with fail
  refine(HPA.out wA).mono ?_;rintro e w1 ⟨pa,pcap,rfl,hpo,hb1⟩;have HB1:=ah (HBA.out.trans (hb1.mono HBA.out.size));have HPO:Hid (w1.ownsRow w.heap.size 224 4 (.slice pa P.length pcap) P.length (jT P)):=ownsRow_base hpo HBA.out.size;have HS1:=ah (HST.out w1 HB1.out);clear hpo hb1 HPA HST;have HRN:Hid ((P.length:Int)≤1000):=by unfold Hid;omega
  generalize hPn:P.length=N at hPL HRN HPO ⊢;have HPN:=ah hPn;clear hPn;go_wp2
  go_loopw [25] (fun i wr=>∃(k:Nat) (ys:Nat→Ih) (z:SV),k≤N∧i=.int .i64 (k:Int)∧jQ w1 sp xs s m (C:Int) l (SV.bK l) P R k ys z wr) (fun i _=>N-(intOf i).toNat)
  case atStart=>exact⟨0,xs,s,Nat.zero_le _,rfl,HS1.out⟩
  case round =>
   obtain⟨i,ys,z,hiN,rfl,hp⟩:=hrel;by_cases hlt:i<N
   ·have hi:i<P.length:=by rw[HPN.out];exact hlt
    obtain⟨g,rfl,hgB,hgl,hpt⟩:=zW HPO.out HPN.out (by omega)
    have hgk:wr.heap[g]?=w1.heap[g]?:=hp.moved.block hgl (HKP.out g hgB)
    have hpw:qA wr g pcap P:=⟨dA hpt.own fun r e=>by
     have:g=r:=by simpa [Value.ownBlock] using e
     subst this;exact hgk⟩
    obtain⟨c0,c1,c2,c3⟩:=hpw.cells hi;have HWI:=ah (fun W hb=>HWP.out W w1 wr ys z i hi HB1.out hp hb)
    have HP:=ah hp;have HII:=ah hi;have HGO:Hid (∀ W e w2,Below wr.heap.size wr W→bD W sp ys z (m+10*i+10) (SV.bK l z P[i]) e w2→(SV.bK l z P[i]).2=0→∃ ys' z',jQ w1 sp xs s m (C:Int) l (SV.bK l) P R (i+1) ys' z' w2):=fun W e w2 hb hd h0=>hp.step hb hi HOP.out hd h0
    have HSP:Hid (∀ W e w2,Below wr.heap.size wr W→bD W sp ys z (m+10*i+10) (SV.bK l z P[i]) e w2→(SV.bK l z P[i]).2≠0→R=SV.bK l z P[i]∧bD w1 sp xs s (m+2000) R e w2):=fun W e w2 hb hd h0=>hp.stop hb hi (by omega) hd h0
    have hgw:g<wr.heap.size:=Nat.lt_of_lt_of_le hgl hp.moved.size;clear hpw hpt hgk hp HWP;generalize hpi:P[i]=p at c0 c1 c2 c3 HWI HGO HSP;clear hpi hi;generalize SV.bK l z p=Z at HWI HGO HSP;obtain⟨pc,pf,pn,pp⟩:=p;simp only at c0 c1 c2 c3 HWI;have k0:(0:Int)≤(i:Int):=by omega
    have k1:(i:Int)<(N:Int):=by omega
    have k2:((i:Int)).toNat=i:=by omega
    have HBN:Hid (Below wr.heap.size wr (wr.alloc (.cells #[.int .i64 (pc:Int),.int .i64 (pf:Int),.int .i64 (pn:Int),.int .i64 (pp:Int)] 224))):=(Below.refl _ _).alloc (Nat.le_refl _) _;go_wp2_with fail
    refine(HWI.out _ HBN.out).mono ?_;rintro e w2 hd;have hd2:=hd;obtain⟨ys',rfl,_,_⟩:=hd2;by_cases hz:Z.2=0
    ·obtain⟨ys2,z2,hp2⟩:=HGO.out _ _ _ HBN.out hd hz
     have HP2:=ah hp2;rw[hz,aB];clear hd hp2 hz;go_wp2
     go_roundw
     case rel =>
      have fin:∃(k1:Nat) (y1:Nat→Ih) (z1:SV),k1≤N∧Value.int .i64 ((i:Int)+1)=.int .i64 (k1:Int)∧jQ w1 sp xs s m (C:Int) l (SV.bK l) P R k1 y1 z1 w2:=⟨i+1,ys2,z2,by omega,by go_num,HP2.out⟩
      first|exact fin|((repeat apply Exists.intro);exact⟨fin,rfl⟩)
     case measure=>simp[intOf];omega
    ·obtain⟨hRZ,hsd⟩:=HSP.out _ _ _ HBN.out hd hz
     have HSD:=ah (HFR.out _ _ _ _ HB1.out hsd);have HE:=ah (aT hz);rw[aT hz] at HSD ⊢;clear hd hsd hz;go_wp2
     go_ret
     exact HSD.out
   ·have hie:i=N:=by omega
    have HD:=ah (HFR.out _ _ _ _ HB1.out (hp.fin (hie.trans HPN.out.symm) (M:=m+2000) (by omega)))
    subst hie;clear hp;go_wp2
    go_ret
    exact HD.out
 ·have HR:Hid (s.wipe l fr n=(s,s.bP l fr n)):=by unfold Hid SV.wipe;rw[if_neg hF]
  have HSM:Hid (∀ W:World,Below w.heap.size w W→bD w sp xs s (m+2000) (s,s.bP l fr n) (.returned (erV (s.bP l fr n))) W):=fun W hb=>bD.same (h.more (by omega)) hb
  rw[HR.out];rw[aT hF] at HCK HSM;generalize s.bP l fr n=F at HCK HSM hF ⊢;generalize l.length=q at HCK ⊢;clear h hl hg ha HR hF;go_enter Tryz.func71,Tryz.ntmps71
  go_wp2_with fail
  refine HCK.out.mono ?_;rintro e wA ⟨rfl,hbA⟩;have HD:=ah (HSM.out _ hbA);clear hbA HCK HSM;go_wp2
  go_ret
  exact HD.out
theorem Je{sp m cap C : Nat}{xs : Nat → Ih}{s : SV}{a : Option Addr}(l : List Int)(fr : Int)(t : ByteArray)(w : World)(h : aV w sp xs s m)(hl : Nums w a l)(hg : s.good (C : Int) l)(h5 : l.length ≤ 100)(hC : C ≤ 40)(ha : Apart a (fpS xs s))(hm : m + 3000 < 1000000000)(hfr : -9223372036854775808 ≤ fr ∧ fr ≤ 9223372036854775807)(ht : t.size ≤ 10000) :
    Calls Tryz.prog 69 #[.pointer (some ⟨sp, 6, none⟩), .slice a l.length cap, .int .i64 fr, .string t] w (bD w sp xs s (m + 2000) (s.put l fr t)) := by
  by_cases h16 : t.size % 16 = 0
  · have g16 : ((t.size : Int) % 16 != 0) = false := by simp; omega
    obtain ⟨k, hk⟩ : ∃ k : Nat, t.size = k * 16 := ⟨t.size / 16, by omega⟩
    have hq16 : (t.size : Int) / 16 = (k : Int) := by omega
    have hk2 : t.size / 16 = k := by omega
    have HCK := ah (check_any (cap := cap) l fr (k : Int) w h hl hg (by omega) hfr)
    by_cases hF : s.bP l fr (k : Int) = 0
    · obtain ⟨h0, n0, n1, n2⟩ := SV.jr hg hF
      obtain ⟨f, rfl⟩ : ∃ f : Nat, fr = (f : Int) := ⟨fr.toNat, by omega⟩
      have HR : Hid (s.put l (f : Int) t = dY (SV.iM l t) s (aO f k 0)) := by unfold Hid SV.put; rw [if_pos h16, hk2, if_pos hF]; rfl
      rw [hF, aB] at HCK;have HPA := ah (fun W => zU f k W (by omega))
      have HFI : Hid (∀ p ∈ aO f k 0, p.fits f k C) := uG (by omega) k 0 (by omega)
      have hPL := nV f k k 0 (by omega)
      generalize aO f k 0 = P at HR HPA HFI hPL;generalize s.put l (f : Int) t = R at HR ⊢;have HOP : Hid (∀ (s : SV) p, s.good (C : Int) l → (SV.iM l t s p).1.good (C : Int) l) := fun s p hg => hg.iM l t p
      have HWP : Hid (∀ (W w1 wr : World) (ys : Nat → Ih) (z : SV) (i : Nat) (hi : i < P.length), Below w.heap.size w w1 → jQ w1 sp xs s m (C : Int) l (SV.iM l t) P R i ys z wr → Below wr.heap.size wr W →
          Calls Tryz.prog 176 #[.pointer (some ⟨sp, 6, none⟩), .slice a l.length cap, .agg #[.int .i64 (P[i].c : Int), .int .i64 (P[i].f : Int), .int .i64 (P[i].n : Int), .int .i64 (P[i].a : Int)], .string (dR t P[i].a P[i].n)] W (bD W sp ys z (m + 10 * i + 10) (SV.iM l t z P[i]))) := fun W w1 wr ys z i hi hb1 hp hb => by
        have hfi := HFI.out P[i] (List.getElem_mem hi);have hnu : Nums W a l := ((hl.below hb1).moved hp.moved (fun g o e => ha g o e)).below hb
        have hsz : (dR t P[i].a P[i].n).size = P[i].n * 16 := qj (by have := hfi.an; omega)
        cases l with
        | nil => exact absurd rfl h0
        | cons x r => exact EH x r P[i].c P[i].f P[i].n P[i].a _ W (hp.shelf.below hb) hnu hp.good h5 (by omega) hfi.n4 (by have := hfi.c; omega) hsz
      have HSE : Hid (∀ (i : Nat) (hi : i < P.length) (W : World), Calls Tryz.prog 177 #[.string t, .int .i64 (P[i].a : Int), .int .i64 (P[i].n : Int)] W fun e w' => e = .returned (.string (dR t P[i].a P[i].n)) ∧ w' = W) := fun i hi W => Ah t P[i].a P[i].n W (by have := (HFI.out P[i] (List.getElem_mem hi)).an; omega) (by omega)
      have HST : Hid (∀ w1 : World, Below w.heap.size w w1 → jQ w1 sp xs s m (C : Int) l (SV.iM l t) P R 0 xs s w1) := fun w1 hb => ⟨h.below hb, hg, HR.out.symm, Moved.refl _ _⟩
      have HKP : Hid (∀ k, w.heap.size ≤ k → ¬ fpS xs s k) := fun k hk hs => by have := h.jJ hs; omega
      have HFR : Hid (∀ (w1 w' : World) (R : SV × Int) (e : Ending), Below w.heap.size w w1 → bD w1 sp xs s (m + 2000) R e w' → bD w sp xs s (m + 2000) R e w') := fun w1 w' R e hb hd => hd.from hb
      generalize hq : l.length = q at HCK HWP ⊢;clear h hl hg ha hF hq HFI h16 hk hk2;go_enter Tryz.func69, Tryz.ntmps69
      go_wp2_with fail
      refine HCK.out.mono ?_;rintro e wA ⟨rfl, hbA⟩;have HBA := ah hbA;clear hbA HCK;go_wp2_with fail
      refine (HPA.out wA).mono ?_;rintro e w1 ⟨pa, pcap, rfl, hpo, hb1⟩;have HB1 := ah (HBA.out.trans (hb1.mono HBA.out.size));have HPO : Hid (w1.ownsRow w.heap.size 224 4 (.slice pa P.length pcap) P.length (jT P)) := ownsRow_base hpo HBA.out.size;have HS1 := ah (HST.out w1 HB1.out);clear hpo hb1 HPA HST;have HRN : Hid ((P.length : Int) ≤ 1000) := by unfold Hid; omega
      generalize hPn : P.length = N at hPL HRN HPO ⊢;have HPN := ah hPn;clear hPn;go_wp2
      go_loopw [34] (fun i wr => ∃ (k : Nat) (ys : Nat → Ih) (z : SV), k ≤ N ∧ i = .int .i64 (k : Int) ∧ jQ w1 sp xs s m (C : Int) l (SV.iM l t) P R k ys z wr) (fun i _ => N - (intOf i).toNat)
      case atStart => exact ⟨0, xs, s, Nat.zero_le _, rfl, HS1.out⟩
      case round =>
        obtain ⟨i, ys, z, hiN, rfl, hp⟩ := hrel;by_cases hlt : i < N
        · have hi : i < P.length := by rw [HPN.out]; exact hlt
          obtain ⟨g, rfl, hgB, hgl, hpt⟩ := zW HPO.out HPN.out (by omega)
          have hgk : wr.heap[g]? = w1.heap[g]? := hp.moved.block hgl (HKP.out g hgB)
          have hpw : qA wr g pcap P := ⟨dA hpt.own fun r e => by
            have : g = r := by simpa [Value.ownBlock] using e
            subst this; exact hgk⟩
          obtain ⟨c0, c1, c2, c3⟩ := hpw.cells hi;have HWI := ah (fun W hb => HWP.out W w1 wr ys z i hi HB1.out hp hb)
          have HSI := ah (HSE.out i hi);have HP := ah hp;have HGO : Hid (∀ W e w2, Below wr.heap.size wr W → bD W sp ys z (m + 10 * i + 10) (SV.iM l t z P[i]) e w2 → (SV.iM l t z P[i]).2 = 0 → ∃ ys' z', jQ w1 sp xs s m (C : Int) l (SV.iM l t) P R (i + 1) ys' z' w2) := fun W e w2 hb hd h0 => hp.step hb hi HOP.out hd h0
          have HSP : Hid (∀ W e w2, Below wr.heap.size wr W → bD W sp ys z (m + 10 * i + 10) (SV.iM l t z P[i]) e w2 → (SV.iM l t z P[i]).2 ≠ 0 → R = SV.iM l t z P[i] ∧ bD w1 sp xs s (m + 2000) R e w2) := fun W e w2 hb hd h0 => hp.stop hb hi (by omega) hd h0
          have HNF : Hid (¬ fpS ys z wr.heap.size) := fun hs => by have := hp.shelf.jJ hs; omega
          have hgw : g < wr.heap.size := Nat.lt_of_lt_of_le hgl hp.moved.size;clear hpw hpt hgk hp HWP HSE;generalize hpi : P[i] = p at c0 c1 c2 c3 HWI HGO HSP HSI;clear hpi hi;generalize SV.iM l t z p = Z at HWI HGO HSP;obtain ⟨pc, pf, pn, pp⟩ := p;simp only at c0 c1 c2 c3 HWI HSI;generalize dR t pp pn = ST at HWI HSI;have k0 : (0 : Int) ≤ (i : Int) := by omega
          have k1 : (i : Int) < (N : Int) := by omega
          have k2 : ((i : Int)).toNat = i := by omega
          have HBN : Hid (Below wr.heap.size wr (wr.alloc (.cells #[.int .i64 (pc : Int), .int .i64 (pf : Int), .int .i64 (pn : Int), .int .i64 (pp : Int)] 224)).drew) := ((Below.refl _ _).alloc (Nat.le_refl _) _).drew;have HX : Hid ((wr.alloc (.cells #[.int .i64 (pc : Int), .int .i64 (pf : Int), .int .i64 (pn : Int), .int .i64 (pp : Int)] 224)).heap[wr.heap.size]? = some (.cells #[.int .i64 (pc : Int), .int .i64 (pf : Int), .int .i64 (pn : Int), .int .i64 (pp : Int)] 224 (0, 0))) := heap_alloc_new _ _;go_wp2
          generalize wr.alloc (.cells #[.int .i64 (pc : Int), .int .i64 (pf : Int), .int .i64 (pn : Int), .int .i64 (pp : Int)] 224) = wN at HBN HX ⊢;have y0 : wN.drew.cell? ⟨wr.heap.size, 0, none⟩ = some (.int .i64 (pc : Int)) := by rw [World.cell?_drew, cell_of_row _ _ _ _ _ _ HX.out]; rfl
          have y1 : wN.drew.cell? ⟨wr.heap.size, 1, none⟩ = some (.int .i64 (pf : Int)) := by rw [World.cell?_drew, cell_of_row _ _ _ _ _ _ HX.out]; rfl
          have y2 : wN.drew.cell? ⟨wr.heap.size, 2, none⟩ = some (.int .i64 (pn : Int)) := by rw [World.cell?_drew, cell_of_row _ _ _ _ _ _ HX.out]; rfl
          have y3 : wN.drew.cell? ⟨wr.heap.size, 3, none⟩ = some (.int .i64 (pp : Int)) := by rw [World.cell?_drew, cell_of_row _ _ _ _ _ _ HX.out]; rfl
          have hNl : wr.heap.size < wN.drew.heap.size := World.block_lt_of_cell? _ _ y0;have HWN := ah (HWI.out _ HBN.out);clear c0 c1 c2 c3 HWI
          go_region_held3 (fun W => W.cell? ⟨wr.heap.size, 0, none⟩ = some (.int .i64 (pc : Int)) ∧ W.cell? ⟨wr.heap.size, 1, none⟩ = some (.int .i64 (pf : Int)) ∧ W.cell? ⟨wr.heap.size, 2, none⟩ = some (.int .i64 (pn : Int)) ∧ W.cell? ⟨wr.heap.size, 3, none⟩ = some (.int .i64 (pp : Int)))
            (first | (exact ⟨y0, y1, y2, y3⟩) | assumption)
            (first
              | (go_at_call 177; refine (HSI.out _).mono ?_; rintro e w' ⟨rfl, rfl⟩)
              | (go_at_call 176; refine HWN.out.mono ?_; rintro e w2 hd; have hd2 := hd; obtain ⟨ys', rfl, h2, h3⟩ := hd2; have hS4 : w2.cell? ⟨wr.heap.size, 0, none⟩ = some (.int .i64 (pc : Int)) ∧ w2.cell? ⟨wr.heap.size, 1, none⟩ = some (.int .i64 (pf : Int)) ∧ w2.cell? ⟨wr.heap.size, 2, none⟩ = some (.int .i64 (pn : Int)) ∧ w2.cell? ⟨wr.heap.size, 3, none⟩ = some (.int .i64 (pp : Int)) := ⟨(h3.cell (p := ⟨wr.heap.size, 0, none⟩) hNl HNF.out).trans y0, (h3.cell (p := ⟨wr.heap.size, 1, none⟩) hNl HNF.out).trans y1, (h3.cell (p := ⟨wr.heap.size, 2, none⟩) hNl HNF.out).trans y2, (h3.cell (p := ⟨wr.heap.size, 3, none⟩) hNl HNF.out).trans y3⟩; clear h2 h3))
          clear hS4 y0 y1 y2 y3 HWN;by_cases hz : Z.2 = 0
          · obtain ⟨ys2, z2, hp2⟩ := HGO.out _ _ _ HBN.out hd hz
            have HP2 := ah hp2;rw [hz, aB];clear hd hp2 hz;go_wp2
            go_roundw
            case rel =>
              have fin : ∃ (k1 : Nat) (y1 : Nat → Ih) (z1 : SV), k1 ≤ N ∧ Value.int .i64 ((i : Int) + 1) = .int .i64 (k1 : Int) ∧ jQ w1 sp xs s m (C : Int) l (SV.iM l t) P R k1 y1 z1 w2 := ⟨i + 1, ys2, z2, by omega, by go_num, HP2.out⟩
              first | exact fin | ((repeat apply Exists.intro); exact ⟨fin, rfl⟩)
            case measure => simp [intOf]; omega
          · obtain ⟨hRZ, hsd⟩ := HSP.out _ _ _ HBN.out hd hz
            have HSD := ah (HFR.out _ _ _ _ HB1.out hsd);have HE := ah (aT hz);rw [aT hz] at HSD ⊢;clear hd hsd hz;go_wp2
            go_ret
            exact HSD.out
        · have hie : i = N := by omega
          have HD := ah (HFR.out _ _ _ _ HB1.out (hp.fin (hie.trans HPN.out.symm) (M := m + 2000) (by omega)))
          subst hie;clear hp;go_wp2
          go_ret
          exact HD.out
    · have HR : Hid (s.put l fr t = (s, s.bP l fr (k : Int))) := by unfold Hid SV.put; rw [if_pos h16, hk2, if_neg hF]
      have HSM : Hid (∀ W : World, Below w.heap.size w W → bD w sp xs s (m + 2000) (s, s.bP l fr (k : Int)) (.returned (erV (s.bP l fr (k : Int)))) W) := fun W hb => bD.same (h.more (by omega)) hb
      rw [HR.out];rw [aT hF] at HCK HSM;generalize s.bP l fr (k : Int) = F at HCK HSM hF ⊢;generalize l.length = q at HCK ⊢;clear h hl hg ha HR hF hk hk2 h16;go_enter Tryz.func69, Tryz.ntmps69
      go_wp2_with fail
      refine HCK.out.mono ?_;rintro e wA ⟨rfl, hbA⟩;have HD := ah (HSM.out _ hbA);clear hbA HCK HSM;go_wp2
      go_ret
      exact HD.out
  · have g16 : ((t.size : Int) % 16 != 0) = true := by simp; omega
    have HR : Hid (s.put l fr t = (s, 1)) := by unfold Hid SV.put; rw [if_neg h16]
    have HD : Hid (bD w sp xs s (m + 2000) (s, 1) (.returned (erV 1)) w) := bD.same (h.more (by omega)) (Below.refl _ _)
    rw [HR.out];rw [dM] at HD;generalize l.length = q;clear h hl hg ha HR h16;go_enter Tryz.func69, Tryz.ntmps69
    go_wp2
    go_ret
    exact HD.out
end Go.Proofs.YtonhoahnieoebabGreatDoor
