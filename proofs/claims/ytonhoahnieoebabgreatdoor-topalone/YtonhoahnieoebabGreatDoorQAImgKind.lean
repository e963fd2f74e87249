/- Fill and Clear of an image. -/
import Derived.Test.YtonhoahnieoebabGreatDoorQAImgActs
set_option maxHeartbeats 1000000
set_option maxRecDepth 100000
namespace Go.Proofs.YtonhoahnieoebabGreatDoor
open Go.RowKit Go.Maps
attribute [local go_sem ↓] Go.wp_at_zero Go.wp_at_succ
theorem I5{B:Gd}{m:Nat}{x:Ih}{v:IV}(c:Int)(w:World)(h:aC B w x v)(hok:v.ok m)(hm:m+10<1000000000)(hB:B.top≤w.heap.size) :
  Calls Tryz.prog 63 #[.pointer (some ⟨x.p,0,none⟩),.int .i64 c] w (Did B w x (v.clear c) (v.dU c)):=by
 have HE:=ah (qC c w h);have HI:=ah h
 cases hc:v.there c with
 | false =>
  have e1:v.gy c=1:=by unfold IV.gy;rw[hc];rfl
  have e3:v.clear c=v:=by unfold IV.clear;rw[hc,if_neg (fun h=>by cases h.1)]
  have e4:v.dU c=1:=by unfold IV.dU;rw[hc];rfl
  rw[e1,dM] at HE;rw[e3,e4];clear h hok hc e1 e3 e4;generalize (v.bH c).1=y0 at HE;generalize (v.bH c).2=y1 at HE;go_enter Tryz.func63,Tryz.ntmps63
  go_wp2_with fail
  refine HE.out.mono ?_;rintro e w1 ⟨rfl,hb1⟩;have HD:Hid (Did B w x v 1 (.returned (erV 1)) (w1.alloc (.cells #[.int .i64 y0,.int .i64 y1] 211))):=oC HI.out (hb1.alloc hb1.size _);rw[aT (by decide)] at HD
  clear hb1;go_wp2
  go_ret
  exact HD.out
 | true =>
  have e1:v.gy c=0:=by unfold IV.gy;rw[hc];rfl
  have e2:v.bH c=v.ent c:=by unfold IV.bH;rw[hc];rfl
  rw[e1,aB,e2] at HE;by_cases h1:(v.ent c).1=1
  ·have e3:v.clear c=v:=by unfold IV.clear;rw[if_neg (fun h=>h.2 h1)]
   have e4:v.dU c=0:=by unfold IV.dU;rw[hc,if_pos rfl,if_pos h1]
   rw[e3,e4];rw[h1] at HE;clear h hok hc e1 e2 e3 e4 h1;generalize (v.ent c).2=y1 at HE;go_enter Tryz.func63,Tryz.ntmps63
   go_wp2_with fail
   refine HE.out.mono ?_;rintro e w1 ⟨rfl,hb1⟩;have HD:Hid (Did B w x v 0 (.returned (erV 0)) (w1.alloc (.cells #[.int .i64 1,.int .i64 y1] 211))):=oC HI.out (hb1.alloc hb1.size _);rw[aB] at HD;clear hb1;go_wp2
   go_ret
   exact HD.out
  ·obtain⟨t0,t1⟩:=IV.kH hc
   have HST:Hid (∀ W:World,aC B W x v→B.top≤W.heap.size→Calls Tryz.prog 164 #[.pointer (some ⟨x.p,0,none⟩),.int .i64 c,.agg #[.int .i64 1,.int .i64 0]] W (Did B W x (v.clear c) (v.dU c))):=fun W hi hb=>by
    have:=FD c.toNat 1 0 W hi hok (by omega) hb (by omega) (kS (.inr ⟨.inr rfl,rfl⟩))
    rw[show((c.toNat:Nat):Int)=c by omega] at this
    have e3:v.clear c=v.set c.toNat (1,0):=by unfold IV.clear;rw[if_pos ⟨hc,h1⟩]
    have e4:v.dU c=v.d.aQ:=by unfold IV.dU;rw[hc,if_pos rfl,if_neg h1]
    rw[e3,e4];exact this
   generalize v.clear c=V at HST ⊢;generalize v.dU c=f at HST ⊢;clear h hok hc e1 e2 t0 t1;generalize (v.ent c).1=y0 at HE h1;generalize (v.ent c).2=y1 at HE;have g1:(y0==1)=false:=by simpa using h1
   clear h1;go_enter Tryz.func63,Tryz.ntmps63
   go_wp2_with fail
   refine HE.out.mono ?_;rintro e w1 ⟨rfl,hb1⟩;have HB1:=ah (hb1.alloc hb1.size (.cells #[.int .i64 y0,.int .i64 y1] 211));have HW2:=ah (HST.out _ (HI.out.below HB1.out) (Nat.le_trans hB HB1.out.size));clear hb1 HE HI HST;go_wp2_with fail
   refine HW2.out.mono ?_;rintro e w2 ⟨y,rfl,h2y,h3y,h4y⟩;have HD:Hid (Did B w x V f (.returned (erV f)) w2):=Did.from ⟨y,rfl,h2y,h3y,h4y⟩ HB1.out;clear h2y h3y h4y;go_wp2
   go_ret
   exact HD.out
theorem KZ{B:Gd}{m:Nat}{x:Ih}{v:IV}(c:Int)(s:ByteArray)(w:World)(h:aC B w x v)(hok:v.ok m)(hn:¬(v.there c=true∧s.size=64∧(v.ent c).1≠2∧v.fD≠[])) :
  Calls Tryz.prog 65 #[.pointer (some ⟨x.p,0,none⟩),.int .i64 c,.string s] w (Did B w x (v.fill c s) (v.dL c s)):=by
 have HE:=ah (qC c w h);have HI:=ah h
 cases hc:v.there c with
 | false =>
  have e1:v.gy c=1:=by unfold IV.gy;rw[hc];rfl
  have e3:v.fill c s=v:=by unfold IV.fill;rw[hc,if_neg (fun h=>by cases h.1)]
  have e4:v.dL c s=1:=by unfold IV.dL;rw[hc,if_neg (fun h=>by cases h.1)]
  rw[e1,dM] at HE;rw[e3,e4];clear h hok hc e1 e3 e4 hn;generalize (v.bH c).1=y0 at HE;generalize (v.bH c).2=y1 at HE;go_enter Tryz.func65,Tryz.ntmps65
  go_wp2_with fail
  refine HE.out.mono ?_;rintro e w1 ⟨rfl,hb1⟩;have HD:Hid (Did B w x v 1 (.returned (erV 1)) (w1.alloc (.cells #[.int .i64 y0,.int .i64 y1] 211))):=oC HI.out (hb1.alloc hb1.size _);rw[aT (by decide)] at HD
  clear hb1;go_wp2
  go_ret
  exact HD.out
 | true =>
  have e1:v.gy c=0:=by unfold IV.gy;rw[hc];rfl
  have e2:v.bH c=v.ent c:=by unfold IV.bH;rw[hc];rfl
  rw[e1,aB,e2] at HE;by_cases hs:s.size=64
  ·by_cases h2:(v.ent c).1=2
   ·have e3:v.fill c s=v:=by unfold IV.fill;rw[if_pos ⟨hc,hs⟩,if_pos h2]
    have e4:v.dL c s=5:=by unfold IV.dL;rw[if_pos ⟨hc,hs⟩,if_pos h2]
    rw[e3,e4];rw[h2] at HE;have g1:((s.size:Int) != 64)=false:=by simp;omega
    clear h hok hc e1 e2 e3 e4 h2 hs hn;generalize (v.ent c).2=y1 at HE;go_enter Tryz.func65,Tryz.ntmps65
    go_wp2_with fail
    refine HE.out.mono ?_;rintro e w1 ⟨rfl,hb1⟩;have HD:Hid (Did B w x v 5 (.returned (erV 5)) (w1.alloc (.cells #[.int .i64 2,.int .i64 y1] 211))):=oC HI.out (hb1.alloc hb1.size _);rw[aT (by decide)] at HD
    clear hb1;go_wp2
    go_ret
    exact HD.out
   ·have hfl:v.fD=[]:=by
     by_cases hx:v.fD=[]
     ·exact hx
     ·exact absurd ⟨hc,hs,h2,hx⟩ hn
    have e3:v.fill c s=v:=by unfold IV.fill;rw[if_pos ⟨hc,hs⟩,if_neg h2,hfl]
    have e4:v.dL c s=6:=by unfold IV.dL;rw[if_pos ⟨hc,hs⟩,if_neg h2,hfl]
    rw[e3,e4]
    have HF:Hid (∀ W:World,aC B W x v→Calls Tryz.prog 167 #[.pointer (some ⟨x.p,0,none⟩)] W fun e w'=>∃ a cap,e=.returned (.slice a 0 cap)∧Below W.heap.size W w'):=fun W hi=>by
     refine(Dl W hi hok).mono ?_;rw[hfl];rintro e w' ⟨a,cap,h1,_,h3⟩;exact⟨a,cap,h1,h3⟩
    generalize (v.ent c).1=y0 at HE h2;generalize (v.ent c).2=y1 at HE;have g1:((s.size:Int) != 64)=false:=by simp;omega
    have g2:(y0==2)=false:=by simpa using h2
    clear h hok hc e1 e2 e3 e4 h2 hs hn hfl;go_enter Tryz.func65,Tryz.ntmps65
    go_wp2_with fail
    refine HE.out.mono ?_;rintro e w1 ⟨rfl,hb1⟩;have HB1:=ah (hb1.alloc hb1.size (.cells #[.int .i64 y0,.int .i64 y1] 211));have HF2:=ah (HF.out _ (HI.out.below HB1.out));clear hb1 HE HF;go_wp2_with fail
    refine HF2.out.mono ?_;rintro e w2 ⟨a,cap,rfl,hb2⟩;have HD:Hid (Did B w x v 6 (.returned (erV 6)) w2):=oC HI.out (HB1.out.trans (hb2.mono HB1.out.size));rw[aT (by decide)] at HD
    clear hb2;go_wp2
    go_ret
    exact HD.out
  ·have e3:v.fill c s=v:=by unfold IV.fill;rw[if_neg (fun h=>hs h.2)]
   have e4:v.dL c s=1:=by unfold IV.dL;rw[if_neg (fun h=>hs h.2)]
   rw[e3,e4];generalize (v.ent c).1=y0 at HE;generalize (v.ent c).2=y1 at HE;have g1:((s.size:Int) != 64)=true:=by simp;omega
   clear h hok hc e1 e2 e3 e4 hs hn;go_enter Tryz.func65,Tryz.ntmps65
   go_wp2_with fail
   refine HE.out.mono ?_;rintro e w1 ⟨rfl,hb1⟩;have HD:Hid (Did B w x v 1 (.returned (erV 1)) (w1.alloc (.cells #[.int .i64 y0,.int .i64 y1] 211))):=oC HI.out (hb1.alloc hb1.size _);rw[aT (by decide)] at HD
   clear hb1;go_wp2
   go_ret
   exact HD.out
theorem La{B:Gd}{m:Nat}{x:Ih}{v:IV}(c:Int)(s:ByteArray)(q:Nat)(r:List Nat)(w:World)(h:aC B w x v)(hok:v.ok m)(hm:m+10<1000000000)(hB:B.top≤w.heap.size)(hc:v.there c=true)(hs:s.size=64)(h2:(v.ent c).1≠2)(hfl:v.fD=q::r) :
  Calls Tryz.prog 65 #[.pointer (some ⟨x.p,0,none⟩),.int .i64 c,.string s] w (Did B w x (v.fill c s) (v.dL c s)):=by
 have HE:=ah (qC c w h);have HI:=ah h;have e1:v.gy c=0:=by unfold IV.gy;rw[hc];rfl
 have e2:v.bH c=v.ent c:=by unfold IV.bH;rw[hc];rfl
 rw[e1,aB,e2] at HE;obtain⟨t0,t1⟩:=IV.kH hc;have hm1:q∈v.fD:=by rw[hfl];exact List.mem_cons_self
 have hbo:=HV.fE hok.h;have hqp:=(IV.pz hm1).1;have hbe:=(kM hok.h hok.need).2 q (by omega)
 have e3:v.fill c s=if (v.dV q s).2=0 then (v.fZ q s).set c.toNat (2,(q:Int)) else { v with d:=(v.dV q s).1 }:=by unfold IV.fill;rw[if_pos ⟨hc,hs⟩,if_neg h2,hfl]
 have e4:v.dL c s=if (v.dV q s).2=0 then (v.fZ q s).d.aQ else (v.dV q s).2:=by unfold IV.dL;rw[if_pos ⟨hc,hs⟩,if_neg h2,hfl]
 have HF:Hid (∀ W:World,aC B W x v→Calls Tryz.prog 167 #[.pointer (some ⟨x.p,0,none⟩)] W fun e w'=>∃ g n cap,e=.returned (.slice (some ⟨g,0,none⟩) (n+1) cap)∧W.heap.size≤g∧(∃ cur,w'.heap[g]?=some (.cells cur 3 (0,0)))∧w'.cell? ⟨g,0,none⟩=some (.int .i64 (q:Int))∧Below W.heap.size W w'):=fun W hi=>by
  refine(Dl W hi hok).mono ?_;rintro e w' ⟨a,cap,h1,h2,h3⟩;rw[hfl] at h1 h2;obtain⟨g,cap2,hv,hg,hl⟩:=h2.form (by simp)
  rw[hv] at h1 h2;refine⟨g,r.length,cap2,h1,hg,?_,?_,h3⟩
  ·obtain⟨cur,hh⟩:=ownsRow_kind h2 g rfl
   exact⟨cur,hh⟩
  ·rw[h2.cellAt 0 (by simp)];rfl
 have HWP:Hid (∀ W:World,aC B W x v→B.top≤W.heap.size→Calls Tryz.prog 168 #[.pointer (some ⟨x.p,0,none⟩),.int .i64 (q:Int),.int .i64 0,.string s] W (Did B W x { v with d:=(v.dV q s).1 } (v.dV q s).2)):=fun W hi hb =>
  GL q 0 4 s W hi hok.d (by omega) hb hok.h (by omega) (by omega) (by omega) (by omega)
 have HST:Hid (∀(W:World) (y:Hd),aC B W { x with h:=y } (v.fZ q s)→B.top≤W.heap.size→Calls Tryz.prog 164 #[.pointer (some ⟨x.p,0,none⟩),.int .i64 c,.agg #[.int .i64 2,.int .i64 (q:Int)]] W (Did B W { x with h:=y } ((v.fZ q s).set c.toNat (2,(q:Int))) (v.fZ q s).d.aQ)):=fun W y hi hb=>by
  have:=FD c.toNat 2 (q:Int) W hi (hok.fZ hm1 hs (by omega)) (by omega) hb (by show c.toNat<v.t.length;omega) (wQ hok hm1)
  rw[show((c.toNat:Nat):Int)=c by omega] at this
  exact this
 have HPF:Hid ((v.dV q s).2=0∨(v.dV q s).2=7):=DV.zZ _ _ _ _;have HVV:Hid (∀(W:World) (y:Hd),aC B W { x with h:=y } { v with d:=(v.dV q s).1 }→Calls Tryz.prog 169 #[.pointer (some ⟨x.p,0,none⟩)] W fun e w'=>∃ h':Hd,e=.returned (.tuple #[])∧h'.p=y.p∧aC B w' { x with h:=h' } (v.fZ q s)∧aP B x.tb W w'):=fun W y hi=>wP W hi
 generalize (v.ent c).1=y0 at HE h2;generalize (v.ent c).2=y1 at HE;have g1:((s.size:Int) != 64)=false:=by simp;omega
 have g2:(y0==2)=false:=by simpa using h2
 have HE3:=ah e3;have HE4:=ah e4;clear h hok hc e1 e2 e3 e4 h2 hs hfl hm1 hbo hqp hbe t0 t1;generalize v.fill c s=V at HE3 ⊢;generalize v.dL c s=f at HE4 ⊢;generalize (v.dV q s).2=f1 at HE3 HE4 HWP HPF;generalize (v.fZ q s).d.aQ=f2 at HE4 HST;go_enter Tryz.func65,Tryz.ntmps65
 go_wp2_with fail
 refine HE.out.mono ?_;rintro e w1 ⟨rfl,hb1⟩;have HB1:=ah (hb1.alloc hb1.size (.cells #[.int .i64 y0,.int .i64 y1] 211));have HF2:=ah (HF.out _ (HI.out.below HB1.out));clear hb1 HE HF;go_wp2_with fail
 refine HF2.out.mono ?_;rintro e w2 ⟨g,n,cap,rfl,hg,hgk,hgc,hb2⟩;have HB2:=ah (HB1.out.trans (hb2.mono HB1.out.size));have hB2:B.top≤w2.heap.size:=Nat.le_trans hB HB2.out.size;have HI2:=ah (HI.out.below HB2.out);have HW2:=ah (HWP.out w2 HI2.out hB2)
 have htb:g≠x.tb:=fun e=>by
  have h1:=HI.out.lts.2.2;have h2:=HB1.out.size;omega
 have HGK:=ah hgk;have hn1:(((n+1:Nat):Int)==0)=false:=by simp;omega
 have n0:(0:Int)<((n+1:Nat):Int):=by omega
 clear hg hgk hb2 HB1 HF2 HI HWP;go_wp2_with fail
 refine HW2.out.mono ?_;rintro e w3 ⟨y,rfl,hyp,hi3,hk3⟩;have HYP:=ah hyp;obtain⟨cur,hcur⟩:=HGK.out;have hc0:cur[0]?=some (.int .i64 (q:Int)):=by rw[cell_of_row _ _ _ _ _ _ hcur] at hgc;exact hgc
 have hcur3:=hk3.box hcur (by decide) htb
 have HK3:Hid (aP B x.tb w w3):=aP.trans (aP.of_below HB2.out) hk3;have hB3:B.top≤w3.heap.size:=Nat.le_trans hB2 hk3.size;clear hyp hk3 HW2 HI2 HB2 HGK hcur hgc;by_cases hf1:f1=0
 ·have HV:=ah (HE3.out.trans (if_pos hf1))
  have HF4:=ah (HE4.out.trans (if_pos hf1));rw[hf1,aB];have HFL:=ah (HVV.out w3 y hi3);clear hi3 HE3 HE4 HPF hf1 HVV;go_wp2_with fail
  refine HFL.out.mono ?_;rintro e w4 ⟨y4,rfl,hyp4,hi4,hk4⟩;have HYP4:Hid (y4.p=x.h.p):=hyp4.trans HYP.out;have hcur4:=hk4.box hcur3 (by decide) htb
  have hgc4:w4.cell? ⟨g,0,none⟩=some (.int .i64 (q:Int)):=by rw[cell_of_row _ _ _ _ _ _ hcur4];exact hc0
  have HK4:Hid (aP B x.tb w w4):=aP.trans HK3.out hk4;have HS4:=ah (HST.out w4 y4 hi4 (Nat.le_trans hB3 hk4.size));clear hyp4 hk4 hi4 hcur4 hcur3 HST HFL HK3 hc0;go_wp2_with fail
  refine HS4.out.mono ?_;rintro e w5 ⟨y5,rfl,hyp5,hi5,hk5⟩
  have HD:Hid (Did B w x V f (.returned (erV f2)) w5):=by
   refine⟨y5,by rw[HF4.out],hyp5.trans HYP4.out,?_,aP.trans HK4.out hk5⟩
   rw[HV.out];exact hi5
  clear hyp5 hi5 hk5;go_wp2
  go_ret
  exact HD.out
 ·have HV:=ah (HE3.out.trans (if_neg hf1))
  have HF4:=ah (HE4.out.trans (if_neg hf1))
  have HD:Hid (Did B w x V f (.returned (erV f1)) w3):=by
   refine⟨y,by rw[HF4.out],HYP.out,?_,HK3.out⟩
   rw[HV.out];exact hi3
  rw[aT hf1] at HD ⊢;clear hi3 HE3 HE4 HPF HVV HF4 HV hcur3 hc0 HST;go_wp2
  go_ret
  exact HD.out
theorem KX{B:Gd}{m:Nat}{x:Ih}{v:IV}(c:Int)(s:ByteArray)(w:World)(h:aC B w x v)(hok:v.ok m)(hm:m+10<1000000000)(hB:B.top≤w.heap.size) :
  Calls Tryz.prog 65 #[.pointer (some ⟨x.p,0,none⟩),.int .i64 c,.string s] w (Did B w x (v.fill c s) (v.dL c s)):=by
 by_cases hn:v.there c=true∧s.size=64∧(v.ent c).1≠2∧v.fD≠[]
 ·obtain⟨h1,h2,h3,h4⟩:=hn
  cases hf:v.fD with
  | nil=>exact absurd hf h4
  | cons q r=>exact La c s q r w h hok hm hB h1 h2 h3 hf
 ·exact KZ c s w h hok hn
def IV.gZ(v:IV):Int:=v.flush.d.aQ
theorem Fv{B:Gd}{m:Nat}{x:Ih}{v:IV}(c p b:Int)(w:World)(h:aC B w x v)(hd:v.d.fine v.d.fl.length m)(hm:m<1000000000)(hB:B.top≤w.heap.size)(hk:HV.ok ⟨c,p,b⟩=true) :
  Calls Tryz.prog 157 #[.pointer (some ⟨x.p,0,none⟩),.agg #[.int .i64 c,.int .i64 p,.int .i64 b]] w fun e w' =>
   ∃ h':Hd,e=.returned (erV v.flush.d.aQ)∧h'.p=x.h.p∧aC B w' { x with h:=h' } (v.gJ ⟨c,p,b⟩)∧aP B x.tb w w':=by
 obtain⟨X,hX⟩:∃ X:ByteArray,X=aU [83,89,c,p,b+1]:=⟨_,rfl⟩;have hX16:X.size=16:=by rw[hX];exact HV.Bo ⟨c,p,b⟩
 have HH:Hid (∀ W:World,Calls Tryz.prog 240 #[.agg #[.int .i64 c,.int .i64 p,.int .i64 b]] W fun e w'=>e=.returned (.tuple #[.string X,.nilIface])∧Below W.heap.size W w'):=fun W=>by rw[hX];exact zq c p b W hk
 have HHV:Hid (v.gJ ⟨c,p,b⟩=if v.flush.d.aQ=0 then { (({ v.flush with d:=v.flush.d.put 0 X.data.toList }:IV).flush) with h:=⟨c,p,b⟩ } else { v.flush with d:=v.flush.d.put 0 X.data.toList }):=by rw[hX];rfl
 have hfl:=hd.flushed;have h0:0<v.d.fl.length:=hd.ok.n1
 have HW:Hid (∀(W:World) (y:Hd),bg B W y v.flush.d→B.top≤W.heap.size→Calls Tryz.prog 214 #[.pointer (some ⟨y.p,0,none⟩),.int .i64 0,.string X] W fun e w' =>
   ∃ v2,e=.returned (erV v.flush.d.aQ)∧bg B w' { y with v2:=v2 } (v.flush.d.put 0 X.data.toList)∧Kept y.fp W w'):=fun W y hi hb=>wu 0 X W hi hfl hm hb hX16 h0
 have HI:=ah h;clear hX hX16 hfl hd hk h;generalize v.gJ ⟨c,p,b⟩=V at HHV ⊢
 have HPF:Hid (v.flush.d.aQ=0∨v.flush.d.aQ=7):=by
  rcases DV.pU v.flush.d with h7|h7
  ·exact .inl h7.1
  ·exact .inr h7.1
 generalize v.flush.d.aQ=pf at HHV HW HPF ⊢;go_enter Tryz.func157,Tryz.ntmps157
 go_wp2_with fail
 refine(HH.out _).mono ?_;rintro e w1 ⟨rfl,hb1⟩;have hb01:Below w.heap.size w w1:=((Below.refl _ _).alloc (Nat.le_refl _) _).trans (hb1.mono (by simp))
 have x0:=qK hb1 0 _ rfl;have x1:=qK hb1 1 _ rfl;have x2:=qK hb1 2 _ rfl;have hbx:w1.heap[w.heap.size]?=some (.cells #[.int .i64 c,.int .i64 p,.int .i64 b] 103 (0,0)):=by rw[hb1.block _ (by simp),heap_alloc_new]
 have htb:w.heap.size≠x.tb:=fun e=>by have:=HI.out.lts.2.2;omega
 have hi1:=HI.out.below hb01;have HI1:=ah hi1;have hB1:B.top≤w1.heap.size:=Nat.le_trans hB hb01.size;have HK1:Hid (aP B x.tb w w1):=aP.of_below hb01;have HBX:=ah hbx;clear hb1 hb01 hi1 HI HH x0 x1 x2 hbx;go_wp2_with fail
 refine(wP w1 HI1.out).mono ?_;rintro e w2 ⟨h2,rfl,hp2,hi2,hk2⟩;have HP2:Hid (h2.p=x.h.p):=hp2;clear hp2;have hsz2:w1.heap.size≤w2.heap.size:=hk2.size;have hB2:B.top≤w2.heap.size:=Nat.le_trans hB1 hsz2;have HBX2:Hid (w2.heap[w.heap.size]?=some (.cells #[.int .i64 c,.int .i64 p,.int .i64 b] 103 (0,0))):=hk2.box HBX.out (by decide) htb
 have HK2:Hid (aP B x.tb w w2):=aP.trans HK1.out hk2;have c0:=hi2.cells.1;have HI2:=ah hi2;have HW2:=ah (HW.out w2 h2 hi2.dev hB2);clear hk2 hi2 HI1 HK1 HBX HW hsz2;go_wp2_with fail
 refine HW2.out.mono ?_;rintro e w3 ⟨v2,rfl,hd3,hk3⟩;obtain⟨hi3,hp3⟩:=HI2.out.tX hd3 rfl hk3;have HBX3:Hid (w3.heap[w.heap.size]?=some (.cells #[.int .i64 c,.int .i64 p,.int .i64 b] 103 (0,0))):=hp3.box HBX2.out (by decide) htb
 have HK3:Hid (aP B x.tb w w3):=aP.trans HK2.out hp3;have HI3:=ah hi3;clear hd3 hk3 hi3 hp3 HI2 HK2 HBX2 HW2 c0;by_cases hpf:pf=0
 ·have HV:Hid (V={ (({ v.flush with d:=v.flush.d.put 0 X.data.toList }:IV).flush) with h:=⟨c,p,b⟩ }):=by unfold Hid;rw[HHV.out,if_pos hpf]
  have HE0:Hid (erV pf=.nilIface):=by unfold Hid;rw[hpf,aB]
  rw[hpf,aB];clear HHV;go_wp2_with fail
  refine(wP w3 HI3.out).mono ?_;rintro e w4 ⟨h4,rfl,hp4,hi4,hk4⟩;have hbx:=hk4.box HBX3.out (by decide) htb
  have y0:w4.cell? ⟨w.heap.size,0,none⟩=some (.int .i64 c):=by rw[cell_of_row _ _ _ _ _ _ hbx];rfl
  have y1:w4.cell? ⟨w.heap.size,1,none⟩=some (.int .i64 p):=by rw[cell_of_row _ _ _ _ _ _ hbx];rfl
  have y2:w4.cell? ⟨w.heap.size,2,none⟩=some (.int .i64 b):=by rw[cell_of_row _ _ _ _ _ _ hbx];rfl
  obtain⟨c0,c1,c2,c3,c4,c5,fz⟩:=hi4.cells;have f1:=fz 1;have f2:=fz 2;have f3:=fz 3;obtain⟨hi5,hk5⟩:=hi4.headed ⟨c,p,b⟩;have HI5:=ah hi5;have HK5:=ah (aP.trans (aP.trans HK3.out hk4) hk5);have HP4:Hid (h4.p=x.h.p):=by unfold Hid;rw[hp4];exact HP2.out
  clear hp4;clear hi4 hk4 hi5 hk5 hbx HBX3 HK3 HI3 c0 c4 c5 fz hpf;go_wp2
  go_ret
  exact⟨h4,iw HE0.out.symm,HP4.out,by rw[HV.out];exact HI5.out,HK5.out⟩
 ·have HV:Hid (V={ v.flush with d:=v.flush.d.put 0 X.data.toList }):=by unfold Hid;rw[HHV.out,if_neg hpf]
  have e7:erV pf=.iface 127 (.int .i64 7):=by
   rcases HPF.out with h7|h7
   ·exact absurd h7 hpf
   ·rw[h7];simp[erV]
  have HE7:=ah e7;rw[e7];clear HHV e7 hpf HBX3;go_wp2
  go_ret
  exact⟨{ h2 with v2:=v2 },iw HE7.out.symm,HP2.out,by rw[HV.out];exact HI3.out,HK3.out⟩
theorem NI{B:Gd}{x:Ih}{v:IV}(c:Int)(w:World)(h:aC B w x v) :
  Calls Tryz.prog 191 #[.pointer (some ⟨x.p,0,none⟩),.int .i64 c] w fun e w' =>
   e=.returned (.tuple #[.int .i64 (v.bH c).1,erV (v.gy c)])∧Below w.heap.size w w':=by
 have HE:=ah (qC c w h);clear h;generalize (v.bH c).1=y0 at HE ⊢;generalize (v.bH c).2=y1 at HE;generalize erV (v.gy c)=er at HE ⊢;go_enter Tryz.func191,Tryz.ntmps191
 go_wp2_with fail
 refine HE.out.mono ?_;rintro e w1 ⟨rfl,hb1⟩;go_wp2
 go_ret2
 exact⟨rfl,hb1.alloc hb1.size _⟩
theorem oG{B:Gd}{x:Ih}{v:IV}(w:World)(h:aC B w x v) :
  Calls Tryz.prog 67 #[.pointer (some ⟨x.p,0,none⟩)] w fun e w'=>e=.returned (.agg #[.int .i64 v.h.c,.int .i64 v.h.p,.int .i64 v.h.b])∧Below w.heap.size w w':=by
 obtain⟨c0,c1,c2,c3,c4,c5,fz⟩:=h.cells;have lp:=h.lts.1;clear h c0 c4 c5 fz;generalize v.h.c=c at c1 ⊢;generalize v.h.p=p at c2 ⊢;generalize v.h.b=b at c3 ⊢;go_enter Tryz.func67,Tryz.ntmps67
 go_wp2
 exact bodyPost_ret (v:=.agg #[.int .i64 c,.int .i64 p,.int .i64 b]) (by simp[results,Tryz.results67,go_sem]) rfl ⟨rfl,(by first|exact(Below.refl _ _).alloc (Nat.le_refl _) _|exact(((((Below.refl _ _).alloc (Nat.le_refl _) _).setCell (Nat.le_refl _) _).setCell (Nat.le_refl _) _).setCell (Nat.le_refl _) _))⟩
theorem Ri{x:Ih}(c p b:Int)(w:World)(hk:HV.ok ⟨c,p,b⟩=false) :
  Calls Tryz.prog 157 #[.pointer (some ⟨x.p,0,none⟩),.agg #[.int .i64 c,.int .i64 p,.int .i64 b]] w fun e w'=>e=.returned (.iface 127 (.int .i64 1))∧Below w.heap.size w w':=by
 have HH:=ah (fun W=>Dy c p b W hk)
 clear hk;go_enter Tryz.func157,Tryz.ntmps157
 go_wp2_with fail
 refine(HH.out _).mono ?_;rintro e w1 ⟨rfl,hb1⟩;go_wp2
 go_ret
 exact⟨rfl,((Below.refl _ _).alloc (Nat.le_refl _) _).trans (hb1.mono (by simp))⟩
theorem NM{B:Gd}{m:Nat}{x:Ih}{v:IV}(back:Int)(w:World)(h:aC B w x v)(hok:v.ok m)(hm:m+10<1000000000)(hB:B.top≤w.heap.size) :
    Calls Tryz.prog 257 #[.pointer (some ⟨x.p,0,none⟩),.int .i64 back] w (Did B w x (v.link back) (v.kC back)):=by
  obtain⟨c0,c1,c2,c3,c4,c5,fz⟩:=h.cells;have lp:=h.lts.1;have HI:=ah h
  have HSH:Hid (∀ W:World,aC B W x v→B.top≤W.heap.size→Calls Tryz.prog 157 #[.pointer (some ⟨x.p,0,none⟩),.agg #[.int .i64 v.h.c,.int .i64 v.h.p,.int .i64 back]] W (Did B W x (v.link back) (v.kC back))):=fun W hi hb=>by
    cases hk:(v.lV back).ok with
    | true =>
      have e1:v.link back=v.gJ (v.lV back):=by unfold IV.link;rw[if_pos hk]
      have e2:v.kC back=v.flush.d.aQ:=by unfold IV.kC;rw[if_pos hk]
      rw[e1,e2];exact Fv v.h.c v.h.p back W hi hok.d (by omega) hb hk
    | false =>
      have e1:v.link back=v:=by unfold IV.link;rw[if_neg (by rw[hk];decide)]
      have e2:v.kC back=1:=by unfold IV.kC;rw[if_neg (by rw[hk];decide)]
      rw[e1,e2];refine(Ri v.h.c v.h.p back W hk).mono ?_;rintro e w' ⟨rfl,hb2⟩;rw[← dM];exact oC hi hb2
  generalize v.link back=V at HSH ⊢;generalize v.kC back=f at HSH ⊢;clear h hok c0 c4 c5 fz;generalize hcc:v.h.c=c at c1 HSH;generalize hpp:v.h.p=p at c2 HSH;generalize hbb:v.h.b=b at c3;clear hcc hpp hbb;go_enter Tryz.func257,Tryz.ntmps257
  go_wp2_with fail
  have hbx:Below w.heap.size w ((w.alloc (.cells #[.int .i64 c,.int .i64 p,.int .i64 b] 103)).setCell ⟨w.heap.size,2,none⟩ (.int .i64 back)):=((Below.refl _ _).alloc (Nat.le_refl _) _).setCell (Nat.le_refl _) _;have hby:Below w.heap.size w (w.alloc (.cells #[.int .i64 c,.int .i64 p,.int .i64 back] 103)):=(Below.refl _ _).alloc (Nat.le_refl _) _
  first
    | (refine(HSH.out _ (HI.out.below hbx) (Nat.le_trans hB hbx.size)).mono ?_
       rintro e w2 ⟨y,rfl,h2y,h3y,h4y⟩;have HD:Hid (Did B w x V f (.returned (erV f)) w2):=Did.from ⟨y,rfl,h2y,h3y,h4y⟩ hbx;clear h2y h3y h4y;go_wp2
       go_ret
       exact HD.out)
    | (refine(HSH.out _ (HI.out.below hby) (Nat.le_trans hB hby.size)).mono ?_
       rintro e w2 ⟨y,rfl,h2y,h3y,h4y⟩;have HD:Hid (Did B w x V f (.returned (erV f)) w2):=Did.from ⟨y,rfl,h2y,h3y,h4y⟩ hby;clear h2y h3y h4y;go_wp2
       go_ret
       exact HD.out)
end Go.Proofs.YtonhoahnieoebabGreatDoor
