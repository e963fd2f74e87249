/- A device is made to fail (J7); a job is pivoted (J6). -/
import Derived.Test.YtonhoahnieoebabGreatDoorQAYardP5
set_option maxHeartbeats 1000000
set_option maxRecDepth 100000
namespace Go.Proofs.YtonhoahnieoebabGreatDoor
open Go.RowKit Go.Maps
attribute [local go_sem ↓] Go.wp_at_zero Go.wp_at_succ
theorem ay.re{w:World}{yp:Nat}{Y:Yh}{y z:YV}(h:ay w yp Y y)(h1:z.s=y.s)(h2:z.dv=y.dv)(h3:z.top=y.top)(h4:z.j=y.j)(h5:z.kd.root=y.kd.root):ay w yp Y z:=by
 obtain⟨a1,a2,a3,a4,a5,a6⟩:=z;obtain⟨b1,b2,b3,b4,b5,b6⟩:=y;simp only at h1 h2 h3 h4 h5;subst h1 h2 h3 h4;refine⟨?_,h.img,h.dev,h.top,h.apart,h.apTop,h.job⟩;show iQ w yp Y a3 a4.root (ni Y.jb a6)
 rw[h5];exact h.blk
theorem au.re{w w':World}{yp:Nat}{Y:Yh}{y z z':YV}(h:au yp Y y z w w')(h1:z'.s=z.s)(h2:z'.dv=z.dv)(h3:z'.top=z.top)(h4:z'.j=z.j)(h5:z'.kd.root=z.kd.root):au yp Y y z' w w':=by
 obtain⟨Y',e,a,b⟩:=h;refine⟨Y',e,a.re h1 h2 h3 h4 h5,?_⟩;have:fpY yp Y' z'=fpY yp Y' z:=by unfold fpY;rw[h1,h4]
 rw[this];exact b
theorem UL{yp:Nat}{Y:Yh}{y:YV}(n:Int)(w:World)(h:ay w yp Y y)(hn:n≤9223372036854775807) :
  Calls Tryz.prog 222 #[.pointer (some ⟨Y.tp.p,0,none⟩),.int .i64 n] w fun e w'=>e=.returned (erV (YV.ou (-1) n))∧au yp Y y (y.arm (-1) n) w w':=by
 by_cases h0:0≤n
 ·refine(yY n w h.top.toaH h0 hn).mono ?_
  rintro e w' ⟨rfl,h1,h2⟩;obtain⟨h3,h4⟩:=h.vg (t':=Y.tp) ⟨h1,fun _ _ e=>e⟩ rfl ⟨h2,fun _ hk=>.inl hk⟩
  refine⟨?_,?_⟩
  ·unfold YV.ou;rw[if_pos ⟨by omega,by omega,h0⟩,aB]
  ·unfold YV.arm;rw[if_pos ⟨by omega,by omega,h0⟩,if_pos rfl];exact⟨_,rfl,h3,h4⟩
 ·refine(yX n w h.top.toaH (by omega)).mono ?_
  rintro e w' ⟨rfl,rfl⟩;refine⟨?_,?_⟩
  ·unfold YV.ou;rw[if_neg (fun e=>h0 e.2.2),dM]
  ·unfold YV.arm;rw[if_neg (fun e=>h0 e.2.2)];exact au.refl h
theorem Ut{yp i:Nat}{Y:Yh}{y:YV}(n:Int)(w:World)(h:ay w yp Y y)(hi:i<5)(hn:n≤9223372036854775807) :
  Calls Tryz.prog 222 #[.pointer (some ⟨Y.dp y.s i,0,none⟩),.int .i64 n] w fun e w'=>e=.returned (erV (YV.ou (i:Int) n))∧au yp Y y (y.arm (i:Int) n) w w':=by
 have hF:YV.ou (i:Int) n=if 0≤n then 0 else 1:=by
  unfold YV.ou;by_cases h0:0≤n
  ·rw[if_pos h0,if_pos ⟨by omega,by omega,h0⟩]
  ·rw[if_neg h0,if_neg (fun e=>h0 e.2.2)]
 have hI:((i:Int)).toNat=i:=by omega
 rw[hF]
 cases hs:y.s i with
 | none =>
  have hd:=h.dev i hi hs;rw[Yh.dp_none hs];by_cases h0:0≤n
  ·refine(yY n w hd.toaH h0 hn).mono ?_
   rintro e w' ⟨rfl,h1,h2⟩;have hm:Moved (Y.fpF y.s i) w (Y.fpF y.s i) w':=⟨h2.mono fun k _ hk=>by rw[Yh.gX hs];exact hk,fun _ hk=>.inl hk⟩
   have ea:y.arm (i:Int) n={ y with dv:=fun k=>if k=i then (y.dv k).failing n else y.dv k }:=by
    unfold YV.arm;rw[if_pos ⟨by omega,by omega,h0⟩,if_neg (by omega),hI,hs]
   have hb:=h.blk.keep (hm.block h.blk.lt (h.oh.1 i hi))
   obtain⟨h3,h4⟩:=h.xC (y':={ y with dv:=fun k=>if k=i then (y.dv k).failing n else y.dv k }) hi hm (Kept.refl _ _) hb (fun v hv=>by rw[hs] at hv;cases hv) (fun _=>by
    show bg Gd.no w' (Y.ds i) (if i=i then (y.dv i).failing n else y.dv i)
    rw[if_pos rfl];exact⟨h1,fun _ _ e=>e⟩) (fun j hj=>⟨rfl,if_neg hj,rfl,rfl⟩) ⟨rfl,rfl,rfl,rfl⟩
   refine⟨by rw[if_pos h0,aB],?_⟩
   rw[ea];exact⟨Y,rfl,h3,h4⟩
  ·refine(yX n w hd.toaH (by omega)).mono ?_
   rintro e w' ⟨rfl,rfl⟩;refine⟨by rw[if_neg h0,dM],?_⟩
   unfold YV.arm;rw[if_neg (fun e=>h0 e.2.2)];exact au.refl h
 | some v =>
  have hx:=h.img i v hi hs;rw[Yh.o8 hs];by_cases h0:0≤n
  ·refine(yY n w hx.dev.toaH h0 hn).mono ?_
   rintro e w' ⟨rfl,h1,h2⟩
   have ea:y.arm (i:Int) n={ y with s:=y.s.upd i { v with d:=v.d.failing n } }:=by
    unfold YV.arm;rw[if_pos ⟨by omega,by omega,h0⟩,if_neg (by omega),hI,hs]
   have hs':y.s.upd i { v with d:=v.d.failing n } i=some { v with d:=v.d.failing n }:=by unfold SV.upd;rw[if_pos rfl]
   have hm:Moved (Y.fpF y.s i) w (Y.fpF (y.s.upd i { v with d:=v.d.failing n }) i) w':=⟨h2.mono fun k _ hk=>by rw[Yh.gY hs];exact .inr (.inr (.inr hk)),fun k hk=>.inl (by rw[Yh.gY hs'] at hk;rw[Yh.gY hs];exact hk)⟩
   have hb:iQ w' yp Y (y.s.upd i { v with d:=v.d.failing n }) y.kd.root (ni Y.jb y.j):=by
    obtain⟨c,b1,b2,b3,b4,b5,b6⟩:=h.blk.is;refine⟨c,(hm.block h.blk.lt (h.oh.1 i hi)).trans b1,fun j hj=>?_,b3,fun j hj=>?_,b5,b6⟩
    ·rw[b2 j hj]
     by_cases e:j=i
     ·rw[e,Yh.o8 hs,Yh.o8 hs']
     ·unfold Yh.dp SV.upd;rw[if_neg e]
    ·rw[b4 j hj]
     by_cases e:j=i
     ·rw[e,hs,hs'];rfl
     ·unfold SV.upd;rw[if_neg e]
   obtain⟨h3,h4⟩:=h.xC (Y':=Y) (y':={ y with s:=y.s.upd i { v with d:=v.d.failing n } }) hi hm (Kept.refl _ _) hb (fun u hu=>by
    have hu2:some ({ v with d:=v.d.failing n }:IV)=some u:=hs'.symm.trans hu
    cases hu2
    exact(hx.tX (h':=(Y.xs i).h) ⟨h1,fun _ _ e=>e⟩ rfl h2).1) (fun hu=>by
    have hu2:some ({ v with d:=v.d.failing n }:IV)=none:=hs'.symm.trans hu
    cases hu2) (fun j hj=>⟨by show SV.upd _ _ _ _=_;unfold SV.upd;rw[if_neg hj],rfl,rfl,rfl⟩) ⟨rfl,rfl,rfl,rfl⟩
   refine⟨by rw[if_pos h0,aB],?_⟩
   rw[ea];exact⟨Y,rfl,h3,h4⟩
  ·refine(yX n w hx.dev.toaH (by omega)).mono ?_
   rintro e w' ⟨rfl,rfl⟩;refine⟨by rw[if_neg h0,dM],?_⟩
   unfold YV.arm;rw[if_neg (fun e=>h0 e.2.2)];exact au.refl h
theorem Us{yp:Nat}{Y:Yh}{y:YV}(f n:Int)(w:World)(h:ay w yp Y y)(hn:n≤9223372036854775807) :
  Calls Tryz.prog 125 #[.pointer (some ⟨yp,0,none⟩),.int .i64 f,.int .i64 n] w fun e w'=>e=.returned (erV (YV.ou f n))∧au yp Y y (y.arm f n) w w':=by
 obtain⟨c0,c5,c6,c11,c12,fz⟩:=h.blk.cells;by_cases h1:f = -1
 ·subst h1
  have HF:=ah (UL n w h hn);clear h c0 c6 c11 c12 fz hn;go_enter Tryz.func125,Tryz.ntmps125
  go_wp2_with fail
  refine HF.out.mono ?_;rintro e w1 ⟨rfl,hd⟩;have HD:=ah hd;clear hd HF;go_wp2
  go_ret
  exact⟨rfl,HD.out⟩
 ·have g1:(f == -1)=false:=by simpa using h1
  by_cases hr:0≤f∧f<5
  ·obtain⟨i,rfl⟩:∃ i:Nat,f=(i:Int):=⟨f.toNat,by omega⟩
   have HF:=ah (Ut n w h (show i<5 by omega) hn)
   have d0:=c0 i (by omega)
   have g2:decide ((i:Int)<0)=false:=decide_eq_false (by omega)
   have g3:decide (5≤(i:Int))=false:=decide_eq_false (by omega)
   have i0:(0:Int)≤(i:Int):=by omega
   have i5:(i:Int)<5:=by omega
   have i2:((i:Int)).toNat=i:=by omega
   clear h c0 c5 c6 c11 c12 fz hn hr h1;generalize Y.dp y.s i=dp at HF d0;go_enter Tryz.func125,Tryz.ntmps125
   go_wp2_with fail
   refine HF.out.mono ?_;rintro e w1 ⟨rfl,hd⟩;have HD:=ah hd;clear hd HF;go_wp2
   go_ret
   exact⟨rfl,HD.out⟩
  ·have e1:YV.ou f n=1:=by unfold YV.ou;rw[if_neg (by omega)]
   have e2:y.arm f n=y:=by unfold YV.arm;rw[if_neg (by omega)]
   have HD0:Hid (au yp Y y y w w):=au.refl h;rw[e1,e2,dM];clear h c0 c5 c6 c11 c12 fz hn e1 e2;by_cases h0:f<0
   ·have g2:decide (f<0)=true:=decide_eq_true h0
    go_enter Tryz.func125,Tryz.ntmps125
    go_wp2
    go_ret
    exact⟨rfl,HD0.out⟩
   ·have g2:decide (f<0)=false:=decide_eq_false h0
    have g3:decide (5≤f)=true:=decide_eq_true (by omega)
    go_enter Tryz.func125,Tryz.ntmps125
    go_wp2
    go_ret
    exact⟨rfl,HD0.out⟩
theorem KT(a b c d:Int)(w:World):(Instr.field 56 (.agg #[.int .i64 a,.int .i64 b,.int .i64 c,.int .i64 d]) 1).run Tryz.prog w=.ok (.int .i64 b) w:=by kernel_rfl
theorem Hw{yp C m:Nat}{Y:Yh}{y:YV}(f:Int)(w:World)(h:ay w yp Y y)(hY:YOk y C m) :
  Calls Tryz.prog 260 #[.pointer (some ⟨yp,0,none⟩),.int .i64 f] w fun e w'=>e=.returned (.bool (y.used f))∧Below w.heap.size w w':=by
 have HG:=ah (og w h);have HW:=ah (qQ w h hY);have HCN:Hid (∀(W:World) (g o cap:Nat),Nums W (some ⟨g,o,none⟩) y.l→Calls Tryz.prog 199 #[.slice (some ⟨g,o,none⟩) y.l.length cap,.int .i64 f] W fun e w'=>e=.returned (.bool (y.l.contains f))∧w'=W):=fun W g o cap hn=>yK y.l f W hn rfl (by have:=hY.ch.len;omega)
 have hU:y.used f=(y.busy&&decide (y.kd.file=f)||y.l.contains f):=rfl
 by_cases hb:y.busy=true
 ·obtain⟨j,hj,hg⟩:=mW hb
  have hin:=hY.job j hj hg;rw[pG hb] at HG;have ef:y.kd.file=j.file:=by rw[← hin.dsk];rfl
  have HSU:Hid (∀ W:World,Below w.heap.size w W→Calls Tryz.prog 25 #[.pointer (some ⟨Y.jb.jp,0,none⟩)] W fun e w'=>e=.returned (.agg #[.int .i64 j.kind,.int .i64 j.file,.int .i64 j.state,.int .i64 (S4.cnt j.x 64:Nat)])∧Below W.heap.size W w'):=fun W hb=>xW W ((h.below hb).job j hj).1 hin.ok.set
  rw[hU,hb,ef,Bool.true_and];have f1:=KT j.kind j.file j.state (S4.cnt j.x 64:Nat);clear h hY hj hg hin ef hU hb;generalize j.kind=jk at HSU f1;generalize j.state=js at HSU f1;generalize S4.cnt j.x 64=jc at HSU f1;generalize j.file=jf at HSU f1 ⊢;generalize y.l.length=ln at HW HCN
  cases hc:y.l.contains f with
  | true =>
   rw[hc] at HCN;rw[Bool.or_true];clear HSU;go_enter Tryz.func260,Tryz.ntmps260
   go_wp2_with fail
   refine HG.out.mono ?_;rintro e w' ⟨rfl,hw⟩;have hw':=hw.symm;subst hw';clear hw HG;go_wp2_with fail
   refine HW.out.mono ?_;rintro e w1 ⟨g,o,cap,rfl,h1,_,_,_,h5⟩;have HC:=ah (HCN.out w1 g o cap h1);have HB:=ah h5;clear h1 h5 HW HCN;go_wp2_with fail
   refine HC.out.mono ?_;rintro e w' ⟨rfl,hw⟩;have hw':=hw.symm;subst hw';clear hw HC;go_wp2
   go_ret
   exact⟨rfl,HB.out⟩
  | false =>
   rw[hc] at HCN;rw[Bool.or_false]
   have he:decide (jf=f)=(jf==f):=by
    by_cases e:jf=f
    ·rw[e];simp
    ·rw[decide_eq_false e];symm;simpa using e
   rw[he];clear he;go_enter Tryz.func260,Tryz.ntmps260
   go_wp2_with fail
   refine HG.out.mono ?_;rintro e w' ⟨rfl,hw⟩;have hw':=hw.symm;subst hw';clear hw HG;go_wp2_with fail
   refine HW.out.mono ?_;rintro e w1 ⟨g,o,cap,rfl,h1,_,_,_,h5⟩;have HC:=ah (HCN.out w1 g o cap h1);have HS1:=ah (HSU.out w1 h5);have HB:=ah h5;clear h1 h5 HW HCN HSU;go_wp2_with fail
   refine HC.out.mono ?_;rintro e w' ⟨rfl,hw⟩;have hw':=hw.symm;subst hw';clear hw HC;go_wp2_with fail
   refine HS1.out.mono ?_;rintro e w2 ⟨rfl,hb2⟩;have HB2:=ah (HB.out.trans (hb2.mono HB.out.size));clear hb2 HS1;go_wp2
   go_ret
   exact⟨rfl,HB2.out⟩
 ·rw[pF hb] at HG
  have hb2:y.busy=false:=by simpa using hb
  rw[hU,hb2,Bool.false_and,Bool.false_or];clear h hY hb hb2 hU;generalize y.l.length=ln at HW HCN;generalize y.l.contains f=cb at HCN ⊢
  cases cb with
  | true =>
   go_enter Tryz.func260,Tryz.ntmps260
   go_wp2_with fail
   refine HG.out.mono ?_;rintro e w' ⟨rfl,hw⟩;have hw':=hw.symm;subst hw';clear hw HG;go_wp2_with fail
   refine HW.out.mono ?_;rintro e w1 ⟨g,o,cap,rfl,h1,_,_,_,h5⟩;have HC:=ah (HCN.out w1 g o cap h1);have HB:=ah h5;clear h1 h5 HW HCN;go_wp2_with fail
   refine HC.out.mono ?_;rintro e w' ⟨rfl,hw⟩;have hw':=hw.symm;subst hw';clear hw HC;go_wp2
   go_ret
   exact⟨rfl,HB.out⟩
  | false =>
   go_enter Tryz.func260,Tryz.ntmps260
   go_wp2_with fail
   refine HG.out.mono ?_;rintro e w' ⟨rfl,hw⟩;have hw':=hw.symm;subst hw';clear hw HG;go_wp2_with fail
   refine HW.out.mono ?_;rintro e w1 ⟨g,o,cap,rfl,h1,_,_,_,h5⟩;have HC:=ah (HCN.out w1 g o cap h1);have HB:=ah h5;clear h1 h5 HW HCN;go_wp2_with fail
   refine HC.out.mono ?_;rintro e w' ⟨rfl,hw⟩;have hw':=hw.symm;subst hw';clear hw HC;go_wp2
   go_ret
   exact⟨rfl,HB.out⟩
theorem UF{B:Gd}{h:Hd}{d:DV}{C:Nat}(w:World)(hd:bg B w h d)(hC:1≤C∧C≤32) :
  Calls Tryz.prog 261 #[.pointer (some ⟨h.p,0,none⟩),.int .i64 (C:Int)] w fun e w'=>e=.returned (.int .i64 (qc d.fl.length (C:Int)))∧Below w.heap.size w w':=by
 have HSI:=ah (size_any w hd.toaH);have hn2:=hd.ok.n2
 have hok:HV.ok ⟨(C:Int),0,0⟩=true:=by
  unfold HV.ok;simp
  omega
 have HND:Hid (∀ W:World,Calls Tryz.prog 101 #[.agg #[.int .i64 (C:Int),.int .i64 0,.int .i64 0]] W fun e w'=>e=.returned (.int .i64 (aJ ⟨(C:Int),0,0⟩:Int))∧Below W.heap.size W w'):=fun W=>uq (C:Int) 0 0 W hok
 have e0:(aJ ⟨(C:Int),0,0⟩:Int)=1+(aA C:Int):=by unfold aJ aI;simp
 have hrn:aA C≤5:=by unfold aA;omega
 rw[e0] at HND;have er:qc d.fl.length (C:Int)=Int.tdiv ((d.fl.length:Int)-(1+(aA C:Int))) 4:=by unfold qc;rw[show((C:Int)).toNat=C by omega];congr 1;omega
 rw[er];clear hd er e0 hok;generalize d.fl.length=n at HSI hn2 ⊢;generalize aA C=rn at HND hrn ⊢;have k1:IntKind.i64.wrap ((n:Int)-(1+(rn:Int)))=(n:Int)-(1+(rn:Int)):=IntWalk.i64_in _ (by omega)
 go_enter Tryz.func261,Tryz.ntmps261
 go_wp2_with fail
 refine HSI.out.mono ?_;rintro e w' ⟨rfl,hw⟩;have hw':=hw.symm;subst hw';clear hw HSI;go_wp2_with fail
 refine(HND.out _).mono ?_;rintro e w2 ⟨rfl,hb2⟩;have HB2:=ah hb2;clear hb2 HND;go_wp2
 go_ret
 exact⟨rfl,HB2.out⟩
end Go.Proofs.YtonhoahnieoebabGreatDoor
namespace Go.Proofs.YtonhoahnieoebabGreatDoor
open Go.RowKit Go.Maps
def kG(xs:Nat→Ih)(k:Nat)(x:Ih):Nat→Ih:=fun i=>if i=k then x else xs i
def dO(ds:Nat→Hd)(k:Nat)(h:Hd):Nat→Hd:=fun i=>if i=k then h else ds i
def Yh.hd(Y:Yh)(s:SV)(i:Nat):Hd:=match s i with
 | none=>Y.ds i
 | some _=>(Y.xs i).h
theorem ay.tZ{w:World}{yp i:Nat}{Y:Yh}{y:YV}(h:ay w yp Y y)(hi:i<5):bg Gd.no w (Y.hd y.s i) (y.dev i)∧(Y.hd y.s i).p=Y.dp y.s i∧∀ k,(Y.hd y.s i).fp k→Y.fpF y.s i k:=by
 unfold Yh.hd YV.dev Yh.dp Yh.fpF
 cases hs:y.s i with
 | none=>exact⟨h.dev i hi hs,rfl,fun k e=>e⟩
 | some v=>exact⟨(h.img i v hi hs).dev,rfl,fun k e=>.inr (.inr (.inr e))⟩
theorem ay.made{w w1:World}{yp i:Nat}{Y:Yh}{y:YV}(h:ay w yp Y y)(hi:i<5){x:Ih}{v:IV}(hm:Moved (Y.hd y.s i).fp w x.fp w1)(hx:aC Gd.no w1 x v)(hp:x.h.p=(Y.hd y.s i).p) :
    ay (w1.setCell ⟨yp,6+i,none⟩ (.pointer (some ⟨x.p,0,none⟩))) yp { Y with xs:=kG Y.xs i x } { y with s:=y.s.upd i v }∧Moved (fpY yp Y y) w (fpY yp { Y with xs:=kG Y.xs i x } { y with s:=y.s.upd i v }) (w1.setCell ⟨yp,6+i,none⟩ (.pointer (some ⟨x.p,0,none⟩))):=by
  obtain⟨d1,d2,d3⟩:=h.tZ hi;have hs':y.s.upd i v i=some v:=by unfold SV.upd;rw[if_pos rfl]
  have hxi:({ Y with xs:=kG Y.xs i x }:Yh).xs i=x:=by show kG Y.xs i x i=x;unfold kG;rw[if_pos rfl]
  have hm2:Moved (Y.fpF y.s i) w (({ Y with xs:=kG Y.xs i x }:Yh).fpF (y.s.upd i v) i) w1:=⟨hm.kept.mono fun k _ e=>d3 k e,fun k e=>by
    rw[Yh.gY hs',hxi] at e;rcases hm.new k e with e2|e2
    · exact .inl (d3 k e2)
    · exact .inr e2⟩
  have hyn:=h.oh.1 i hi;have hyb:=hm2.block h.blk.lt hyn
  have hxy:∀ b,x.fp b→b≠yp:=fun b e e2=>by
    rcases hm.new b e with e3|e3
    · exact hyn (by rw[← e2];exact d3 b e3)
    · have:=h.blk.lt;omega
  have hb:iQ (w1.setCell ⟨yp,6+i,none⟩ (fJ (({ Y with xs:=kG Y.xs i x }:Yh).xs i) (y.s.upd i v i))) yp { Y with xs:=kG Y.xs i x } (y.s.upd i v) y.kd.root (ni Y.jb y.j) :=
    (h.blk.keep hyb).Fq hi (fun j hj=>⟨by show kG Y.xs i x j=_;unfold kG;rw[if_neg hj],by unfold SV.upd;rw[if_neg hj]⟩) (fun j hj=>by
      by_cases e:j=i
      · rw[e,Yh.o8 hs',hxi,hp,d2]
      · unfold Yh.dp SV.upd
        rw[if_neg e];show(match y.s j with|none=>(Y.ds j).p|some _=>(kG Y.xs i x j).h.p)=_
        unfold kG;rw[if_neg e]
        cases y.s j<;>rfl) rfl
  rw[hs',hxi] at hb;refine h.xC (Y':={ Y with xs:=kG Y.xs i x }) (y':={ y with s:=y.s.upd i v }) hi hm2 (Kept.setCell (S:=fun k=>k=yp) (p:=⟨yp,6+i,none⟩) (Kept.refl _ w1) (.inl rfl) _) hb (fun u hu=>?_) (fun hu=>?_) (fun j hj=>⟨by show SV.upd _ _ _ _=_;unfold SV.upd;rw[if_neg hj],rfl,by show kG Y.xs i x j=_;unfold kG;rw[if_neg hj],rfl⟩) ⟨rfl,rfl,rfl,rfl⟩
  · have hu2:some v=some u:=hs'.symm.trans hu
    cases hu2
    rw[hxi];exact hx.lT fun b e=>heap_setCell_other _ _ _ _ (hxy b e)
  · have hu2:some v=none:=hs'.symm.trans hu
    cases hu2
theorem ay.Tv{w w1:World}{yp i:Nat}{Y:Yh}{y:YV}(h:ay w yp Y y)(hi:i<5){d:Hd}{D:DV}(hm:Moved (Y.hd y.s i).fp w d.fp w1)(hd:bg Gd.no w1 d D)(hp:d.p=(Y.hd y.s i).p) :
    ay (w1.setCell ⟨yp,6+i,none⟩ (.pointer none)) yp { Y with ds:=dO Y.ds i d } { y with s:=y.s.gone i,dv:=fun k=>if k=i then D else y.dv k }∧Moved (fpY yp Y y) w (fpY yp { Y with ds:=dO Y.ds i d } { y with s:=y.s.gone i,dv:=fun k=>if k=i then D else y.dv k }) (w1.setCell ⟨yp,6+i,none⟩ (.pointer none)):=by
  obtain⟨d1,d2,d3⟩:=h.tZ hi;have hs':y.s.gone i i=none:=by unfold SV.gone;rw[if_pos rfl]
  have hxi:({ Y with ds:=dO Y.ds i d }:Yh).ds i=d:=by show dO Y.ds i d i=d;unfold dO;rw[if_pos rfl]
  have hm2:Moved (Y.fpF y.s i) w (({ Y with ds:=dO Y.ds i d }:Yh).fpF (y.s.gone i) i) w1:=⟨hm.kept.mono fun k _ e=>d3 k e,fun k e=>by
    rw[Yh.gX hs',hxi] at e;rcases hm.new k e with e2|e2
    · exact .inl (d3 k e2)
    · exact .inr e2⟩
  have hyn:=h.oh.1 i hi;have hyb:=hm2.block h.blk.lt hyn
  have hxy:∀ b,d.fp b→b≠yp:=fun b e e2=>by
    rcases hm.new b e with e3|e3
    · exact hyn (by rw[← e2];exact d3 b e3)
    · have:=h.blk.lt;omega
  have hb:iQ (w1.setCell ⟨yp,6+i,none⟩ (fJ (({ Y with ds:=dO Y.ds i d }:Yh).xs i) (y.s.gone i i))) yp { Y with ds:=dO Y.ds i d } (y.s.gone i) y.kd.root (ni Y.jb y.j) :=
    (h.blk.keep hyb).Fq hi (fun j hj=>⟨rfl,by unfold SV.gone;rw[if_neg hj]⟩) (fun j hj=>by
      by_cases e:j=i
      · rw[e,Yh.dp_none hs',hxi,hp,d2]
      · unfold Yh.dp SV.gone
        rw[if_neg e];show(match y.s j with|none=>(dO Y.ds i d j).p|some _=>(Y.xs j).h.p)=_
        unfold dO;rw[if_neg e]
        cases y.s j<;>rfl) rfl
  rw[hs'] at hb;refine h.xC (Y':={ Y with ds:=dO Y.ds i d }) (y':={ y with s:=y.s.gone i,dv:=fun k=>if k=i then D else y.dv k }) hi hm2 (Kept.setCell (S:=fun k=>k=yp) (p:=⟨yp,6+i,none⟩) (Kept.refl _ w1) (.inl rfl) _) hb (fun u hu=>?_) (fun hu=>?_) (fun j hj=>⟨by show SV.gone _ _ _=_;unfold SV.gone;rw[if_neg hj],if_neg hj,rfl,by show dO Y.ds i d j=_;unfold dO;rw[if_neg hj]⟩) ⟨rfl,rfl,rfl,rfl⟩
  · have hu2:none=some u:=hs'.symm.trans hu
    cases hu2
  · rw[hxi]
    show bg Gd.no _ d (if i=i then D else y.dv i)
    rw[if_pos rfl];exact hd.keep fun b e=>heap_setCell_other _ _ _ _ (hxy b e)
attribute [local go_sem ↓] Go.wp_at_zero Go.wp_at_succ
def bx(a b c:Int):Obj:=.cells #[.int .i64 a,.int .i64 b,.int .i64 c] 103 (0,0)
theorem ru{W:World}{N:Nat}{a b c:Int}(h:W.heap[N]?=some (bx a b c)):W.cell? ⟨N,0,none⟩=some (.int .i64 a)∧W.cell? ⟨N,1,none⟩=some (.int .i64 b)∧W.cell? ⟨N,2,none⟩=some (.int .i64 c)∧W.frozen? ⟨N,1,none⟩=false:=by
 unfold bx at h;refine⟨?_,?_,?_,frozen_of_row W N 1 _ _ h⟩<;>(rw[cell_of_row _ _ _ _ _ _ h];rfl)
theorem ay.creates{w W:World}{yp i N m C:Nat}{Y:Yh}{y:YV}{back R:Int}(h:ay w yp Y y)(hY:YOk y C m)(hi:i<5)(hm:m+20<1000000000)(hu:y.used (i:Int)≠true)(hR:R=qc (y.dev i).fl.length (C:Int))(hb:Below w.heap.size w W)(hN:w.heap.size≤N)(hbx:W.heap[N]?=some (bx (C:Int) R back)) :
  Calls Tryz.prog 60 #[.pointer (some ⟨Y.dp y.s i,0,none⟩),.agg #[.int .i64 (C:Int),.int .i64 R,.int .i64 back]] W fun e w'=>∃ po:Option Addr,e=.returned (.tuple #[.pointer po,erV (y.iR (i:Int) back)]) ∧
   (w'.cell? ⟨yp,i,none⟩=some (.pointer (some ⟨Y.dp y.s i,0,none⟩))∧w'.cell? ⟨N,0,none⟩=some (.int .i64 (C:Int))∧w'.cell? ⟨N,1,none⟩=some (.int .i64 R)∧w'.cell? ⟨N,2,none⟩=some (.int .i64 back))∧(∃ v,w'.cell? ⟨yp,6+i,none⟩=some v)∧w'.frozen? ⟨yp,6+i,none⟩=false ∧
   ((w'.setCell ⟨yp,6+i,none⟩ (.pointer po)).cell? ⟨yp,i,none⟩=some (.pointer (some ⟨Y.dp y.s i,0,none⟩))∧(w'.setCell ⟨yp,6+i,none⟩ (.pointer po)).cell? ⟨N,0,none⟩=some (.int .i64 (C:Int))∧(w'.setCell ⟨yp,6+i,none⟩ (.pointer po)).cell? ⟨N,1,none⟩=some (.int .i64 R)∧(w'.setCell ⟨yp,6+i,none⟩ (.pointer po)).cell? ⟨N,2,none⟩=some (.int .i64 back)) ∧
   au yp Y y (y.blank (i:Int) back) w (w'.setCell ⟨yp,6+i,none⟩ (.pointer po)):=by
 have h1:=h.below hb;obtain⟨d1,d2,d3⟩:=h1.tZ hi;have hyl:=h.blk.lt;have hnN:¬(Y.hd y.s i).fp N:=fun e=>by have:=h.iT (.inr (.inl ⟨i,hi,d3 N e⟩));omega
 have hny:¬(Y.hd y.s i).fp yp:=fun e=>h1.oh.1 i hi (d3 yp e)
 have hhd:y.head (i:Int) back=⟨(C:Int),R,back⟩:=by
  unfold YV.head;rw[hY.ch.fQ,show((i:Int)).toNat=i by omega,hR]
 have hI:((i:Int)).toNat=i:=by omega
 have hF:y.iR (i:Int) back=crF (y.dev i) ⟨(C:Int),R,back⟩:=by
  unfold YV.iR;rw[if_pos ⟨by omega,by omega⟩,if_neg hu,hhd,hI]
 have hV:y.blank (i:Int) back=if crF (y.dev i) ⟨(C:Int),R,back⟩=0 then { y with s:=y.s.upd i (crV (y.dev i) ⟨(C:Int),R,back⟩) } else { y with s:=y.s.gone i,dv:=fun k=>if k=i then kP (y.dev i) ⟨(C:Int),R,back⟩ else y.dv k }:=by
  unfold YV.blank;rw[if_pos ⟨by omega,by omega⟩,if_neg hu,hhd,hI]
 have key:∀(w':World) (pv:Value),w'.heap[yp]?=W.heap[yp]?→w'.heap[N]?=W.heap[N]? →
   (w'.cell? ⟨yp,i,none⟩=some (.pointer (some ⟨Y.dp y.s i,0,none⟩))∧w'.cell? ⟨N,0,none⟩=some (.int .i64 (C:Int))∧w'.cell? ⟨N,1,none⟩=some (.int .i64 R)∧w'.cell? ⟨N,2,none⟩=some (.int .i64 back))∧(∃ v,w'.cell? ⟨yp,6+i,none⟩=some v)∧w'.frozen? ⟨yp,6+i,none⟩=false ∧
   ((w'.setCell ⟨yp,6+i,none⟩ pv).cell? ⟨yp,i,none⟩=some (.pointer (some ⟨Y.dp y.s i,0,none⟩))∧(w'.setCell ⟨yp,6+i,none⟩ pv).cell? ⟨N,0,none⟩=some (.int .i64 (C:Int))∧(w'.setCell ⟨yp,6+i,none⟩ pv).cell? ⟨N,1,none⟩=some (.int .i64 R)∧(w'.setCell ⟨yp,6+i,none⟩ pv).cell? ⟨N,2,none⟩=some (.int .i64 back)):=fun w' pv e1 e2=>by
  obtain⟨c0,_,c6,_,_,fz⟩:=h1.blk.cells;have a0:=(World.cell?_of_block (a:=⟨yp,i,none⟩) e1).trans (c0 i hi);have a6:=(World.cell?_of_block (a:=⟨yp,6+i,none⟩) e1).trans (c6 i hi);have af:=(World.frozen?_of_block (a:=⟨yp,6+i,none⟩) e1).trans (fz (6+i));obtain⟨b0,b1,b2,_⟩:=ru (e2.trans hbx);have hne:∀ k,(⟨yp,6+i,none⟩:Addr)≠⟨N,k,none⟩:=fun k e=>by injection e;omega
  refine⟨⟨a0,b0,b1,b2⟩,⟨_,a6⟩,af,?_,?_,?_,?_⟩
  ·rw[World.cell?_setCell_other _ _ _ _ (by intro e;injection e with _ e;omega)];exact a0
  ·rw[World.cell?_setCell_other _ _ _ _ (hne 0)];exact b0
  ·rw[World.cell?_setCell_other _ _ _ _ (hne 1)];exact b1
  ·rw[World.cell?_setCell_other _ _ _ _ (hne 2)];exact b2
 rw[← d2,hF];refine(Cb (C:Int) R back W d1.qY (hY.dev i) hm (Nat.le_refl _)).mono ?_;rintro e w' ⟨x,hxp,_,hkp,h4|h4⟩
 ·obtain⟨hf0,rfl,hi4,_,_⟩:=h4
  have hmv:Moved (Y.hd y.s i).fp W x.fp w':=qZ hkp (fun _ e=>e.1) hi4.out
  obtain⟨hy2,hm2⟩:=h1.made hi hmv (hi4.re fun _ _ e=>e) hxp
  obtain⟨k1,k2,k3,k4⟩:=key w' (.pointer (some ⟨x.p,0,none⟩)) (hmv.block h1.blk.lt hny) (hmv.block (lt_of_some hbx) hnN);rw[d2];refine⟨some ⟨x.p,0,none⟩,by rw[hf0,aB],k1,k2,k3,k4,?_⟩
  rw[hV,if_pos hf0];exact⟨{ Y with xs:=kG Y.xs i x },rfl,hy2,(Moved.of_below hb).trans hm2⟩
 ·obtain⟨hf0,rfl,hd4⟩:=h4
  have hmv:Moved (Y.hd y.s i).fp W x.h.fp w':=qZ hkp (fun _ e=>e.1) hd4.out
  obtain⟨hy2,hm2⟩:=h1.Tv hi hmv hd4.noG hxp;obtain⟨k1,k2,k3,k4⟩:=key w' (.pointer none) (hmv.block h1.blk.lt hny) (hmv.block (lt_of_some hbx) hnN);rw[d2];refine⟨none,rfl,k1,k2,k3,k4,?_⟩;rw[hV,if_neg hf0];exact⟨{ Y with ds:=dO Y.ds i x.h },rfl,hy2,(Moved.of_below hb).trans hm2⟩
end Go.Proofs.YtonhoahnieoebabGreatDoor
