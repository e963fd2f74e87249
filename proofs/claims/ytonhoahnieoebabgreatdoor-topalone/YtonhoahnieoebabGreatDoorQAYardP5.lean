/- An act on a yard's files, and one of its job, as acts on the yard. -/
import Derived.Test.YtonhoahnieoebabGreatDoorQAYardP1
set_option maxHeartbeats 1000000
set_option maxRecDepth 100000
namespace Go.Proofs.YtonhoahnieoebabGreatDoor
open Go.RowKit Go.Maps
theorem ay.FQ{w w1 w':World}{yp m':Nat}{Y:Yh}{y:YV}{z:SV}{xs':Nat→Ih}(h:ay w yp Y y)(hb:Below w.heap.size w w1)(hs:aV w' yp xs' z m')(hm:Moved (fpS Y.xs y.s) w1 (fpS xs' z) w') :
  ay w' yp { Y with xs:=xs' } { y with s:=z }∧Moved (fpY yp Y y) w (fpY yp { Y with xs:=xs' } { y with s:=z }) w':=by
 have h1:=h.below hb
 obtain⟨h2,h3⟩:=h1.oU (j':=y.j) hs hm (fun k hk=>.inl hk) (fun k hk=>by
  rcases hk with hk|hk
  ·exact .inl hk
  ·exact .inr ⟨h1.iT (.inr (.inr (.inr hk))),.inr hk⟩) Iff.rfl (fun a ha=>⟨a,ha,rfl,by
  obtain⟨h4,_⟩:=h1.job a ha;have hn:y.j≠none:=by rw[ha];intro e;cases e
  have hJ:∀ k,k=Y.jb.jp∨k=Y.jb.lp∨k=Y.jb.bp→w'.heap[k]?=w1.heap[k]?:=fun k hk=>hm.block (h1.iT (.inr (.inr (.inr ⟨hn,hk⟩)))) (fun e=>by
   obtain⟨i,hi,hf⟩:=h1.inS e
   exact(h1.pK ⟨hn,hk⟩).1 i hi hf)
  exact h4.keep (hJ _ (.inl rfl)) (hJ _ (.inr (.inl rfl))) (hJ _ (.inr (.inr rfl)))⟩)
 exact⟨h2,(Moved.of_below hb).trans h3⟩
theorem ay.uO{w w1 w':World}{yp m':Nat}{Y:Yh}{y:YV}{R:SV × Int}{e:Ending}(h:ay w yp Y y)(hb:Below w.heap.size w w1)(hd:bD w1 yp Y.xs y.s m' R e w') :
  e=.returned (erV R.2)∧∃ Y':Yh,Y'.jb=Y.jb∧ay w' yp Y' { y with s:=R.1 }∧Moved (fpY yp Y y) w (fpY yp Y' { y with s:=R.1 }) w':=by
 obtain⟨xs',h1,h2,h3⟩:=hd;obtain⟨h4,h5⟩:=h.FQ hb h2 h3;exact⟨h1,{ Y with xs:=xs' },rfl,h4,h5⟩
theorem ay.rU{w w1 w':World}{yp m C:Nat}{Y:Yh}{y:YV}{z:SV}{j a:JV}(h:ay w yp Y y)(hj:y.j=some j)(hb:Below w.heap.size w w1)(hd:aX yp Y.jb.jp Y.jb.lp Y.jb.bp Y.jb.a Y.jb.cap Y.xs y.s z m C a w1 w')(hl:a.l=j.l) :
  ∃ Y':Yh,Y'.jb=Y.jb∧ay w' yp Y' { y with s:=z,j:=some a }∧Moved (fpY yp Y y) w (fpY yp Y' { y with s:=z,j:=some a }) w':=by
 obtain⟨xs',h1,h2⟩:=hd;have hn:y.j≠none:=by rw[hj];intro e;cases e
 obtain⟨h3,h4⟩:=(h.below hb).oU (j':=some a) h1.shelf h2 (fun k hk=>by
  rcases hk with hk|hk
  ·exact .inl hk
  ·exact .inr ⟨hn,hk⟩) (fun k hk=>by
  rcases hk with hk|hk
  ·exact .inl (.inl hk)
  ·exact .inl (.inr hk.2)) (by rw[hj];exact⟨fun e=>(by cases e),fun e=>(by cases e)⟩) (fun b hb=>by
  cases hb
  exact⟨j,hj,hl,h1.job⟩)
 exact⟨{ Y with xs:=xs' },rfl,h3,(Moved.of_below hb).trans h4⟩
def au(yp:Nat)(Y:Yh)(y y':YV)(w w':World):Prop:=∃ Y':Yh,Y'.jb=Y.jb∧ay w' yp Y' y'∧Moved (fpY yp Y y) w (fpY yp Y' y') w'
theorem au.out{w w':World}{yp:Nat}{Y:Yh}{y z:YV}(h:au yp Y y z w w'):iD yp Y y z w w':=by
 obtain⟨Y',h0,h1,h2⟩:=h;exact⟨Y',.inl h0,h1,h2⟩
theorem au.refl{w:World}{yp:Nat}{Y:Yh}{y:YV}(h:ay w yp Y y):au yp Y y y w w:=⟨Y,rfl,h,Moved.refl _ _⟩
theorem au.below{w w':World}{yp:Nat}{Y:Yh}{y:YV}(h:ay w yp Y y)(hb:Below w.heap.size w w'):au yp Y y y w w':=⟨Y,rfl,h.below hb,Moved.of_below hb⟩
theorem au.trans{w w1 w':World}{yp:Nat}{Y Y1:Yh}{y y1 y':YV}(hj:Y1.jb=Y.jb)(hm:Moved (fpY yp Y y) w (fpY yp Y1 y1) w1)(h:au yp Y1 y1 y' w1 w'):au yp Y y y' w w':=by
 obtain⟨Y',h0,h1,h2⟩:=h;exact⟨Y',h0.trans hj,h1,hm.trans h2⟩
theorem au.from{w w1 w':World}{yp:Nat}{Y:Yh}{y y':YV}(hb:Below w.heap.size w w1)(h:au yp Y y y' w1 w'):au yp Y y y' w w':=by
 obtain⟨Y',h0,h1,h2⟩:=h;exact⟨Y',h0,h1,(Moved.of_below hb).trans h2⟩
theorem ay.uF{w:World}{yp m C:Nat}{Y:Yh}{y:YV}{j:JV}(h:ay w yp Y y)(hs:y.s.ok m)(hj:y.j=some j)(hok:JOk y.s C j):PJ w yp Y.jb.jp Y.jb.lp Y.jb.bp Y.jb.a Y.jb.cap Y.xs y.s m C j:=by
 obtain⟨h1,h2,h3,h4,h5⟩:=h.job j hj;refine⟨h.shelf hs,h1,h2,fun g o e hk=>h5 g o e ?_,hok,h4⟩
 rcases hk with hk|hk
 ·exact .inr (.inl (h.inS hk))
 ·exact .inr (.inr (.inr ⟨(by rw[hj];intro e;cases e),hk⟩))
theorem Oa{y:YV}(h:y.busy≠true)(fr n:Nat):y.mark fr n=y:=by
 unfold YV.mark
 cases hj:y.j with
 | none =>
  show({ y with j:=none }:YV)=y
  rw[← hj]
 | some j =>
  have h4:=nO h j hj;show({ y with j:=some (dh j fr n) }:YV)=y
  rw[JW h4,← hj]
theorem Ob(y:YV)(fr:Nat):y.mark fr 0=y:=by
 unfold YV.mark;have:(y.j.map fun j=>dh j fr 0)=y.j:=by cases y.j<;>rfl
 rw[this]
theorem Cj(j:JV)(c:Nat):∀ k,(jg j c k).l=j.l:=by
 intro k
 induction k with
 | zero=>rfl
 | succ k ih =>
  show(dD (jg j c k) _).l=j.l
  unfold dD;split<;>exact ih
theorem JOk.jg{s:SV}{C:Nat}{j:JV}(h:JOk s C j)(c:Nat):∀ k,JOk s C (jg j c k):=by
 intro k
 induction k with
 | zero=>exact h
 | succ k ih=>exact ih.dirty _
end Go.Proofs.YtonhoahnieoebabGreatDoor
namespace Go.Proofs.YtonhoahnieoebabGreatDoor
open Go.RowKit
attribute [local go_sem ↓] Go.wp_at_zero Go.wp_at_succ
theorem KV.KO{d:KV}(h:¬(0≤d.r∧d.r≤4∧0≤d.k∧d.k≤3 ∧ -1≤d.f∧d.f≤4∧0≤d.a∧d.a≤1000∧0≤d.u∧d.u≤1000)):d.fault=1:=by
 unfold KV.fault KV.bound;rw[if_neg (fun e=>h (of_decide_eq_true e))]
theorem KV.tY{d:KV}(h:0≤d.r∧d.r≤4∧0≤d.k∧d.k≤3 ∧ -1≤d.f∧d.f≤4∧0≤d.a∧d.a≤1000∧0≤d.u∧d.u≤1000)
  (hm:¬((d.k=0∧d.f = -1∧d.a=0∧d.u=0)∨(d.k≠0∧d.f≠d.r∧(d.f ≠ -1∨d.k=2)))):d.fault=2:=by
 unfold KV.fault KV.bound KV.may;rw[if_pos (decide_eq_true h),if_neg (fun e=>hm (of_decide_eq_true e))]
theorem KV.y7{d:KV}(h:0≤d.r∧d.r≤4∧0≤d.k∧d.k≤3 ∧ -1≤d.f∧d.f≤4∧0≤d.a∧d.a≤1000∧0≤d.u∧d.u≤1000)
  (hm:(d.k=0∧d.f = -1∧d.a=0∧d.u=0)∨(d.k≠0∧d.f≠d.r∧(d.f ≠ -1∨d.k=2))):d.fault=0:=by
 unfold KV.fault KV.bound KV.may;rw[if_pos (decide_eq_true h),if_pos (decide_eq_true hm)]
theorem IJ(r k f a u:Int)(w:World)(h:¬(0≤r∧r≤4∧0≤k∧k≤3 ∧ -1≤f∧f≤4∧0≤a∧a≤1000∧0≤u∧u≤1000)) :
  Calls Tryz.prog 147 #[.agg #[.int .i64 r,.int .i64 k,.int .i64 f,.int .i64 a,.int .i64 u]] w fun e w'=>e=.returned (erV (KV.fault ⟨r,k,f,a,u⟩))∧Below w.heap.size w w':=by
 have hbel:Below w.heap.size w (w.alloc (.cells #[.int .i64 r,.int .i64 k,.int .i64 f,.int .i64 a,.int .i64 u] 47)):=(Below.refl _ _).alloc (Nat.le_refl _) _;have HF:Hid (erV (KV.fault ⟨r,k,f,a,u⟩)=.iface 127 (.int .i64 1)):=by unfold Hid;rw[KV.KO (d:=⟨r,k,f,a,u⟩) h];exact dM
 by_cases h0:0≤r∧r≤4
 rotate_left
 ·have y0:inB r (0) 4=false:=oI h0
  clear h h0;go_enter Tryz.func147,Tryz.ntmps147
  go_wp2_with (go_at_call 211;refine(gU _ _ _ _).mono ?_;rintro e w' ⟨rfl,rfl⟩)
  go_ret
  exact⟨iw HF.out.symm,hbel⟩
 by_cases h1:0≤k∧k≤3
 rotate_left
 ·have y1:inB k (0) 3=false:=oI h1
  have y0:inB r (0) 4=true:=bT h0;clear h h1 h0;go_enter Tryz.func147,Tryz.ntmps147
  go_wp2_with (go_at_call 211;refine(gU _ _ _ _).mono ?_;rintro e w' ⟨rfl,rfl⟩)
  go_ret
  exact⟨iw HF.out.symm,hbel⟩
 by_cases h2 : -1≤f∧f≤4
 rotate_left
 ·have y2:inB f (-1) 4=false:=oI h2
  have y0:inB r (0) 4=true:=bT h0;have y1:inB k (0) 3=true:=bT h1;clear h h2 h0 h1;go_enter Tryz.func147,Tryz.ntmps147
  go_wp2_with (go_at_call 211;refine(gU _ _ _ _).mono ?_;rintro e w' ⟨rfl,rfl⟩)
  go_ret
  exact⟨iw HF.out.symm,hbel⟩
 by_cases h3:0≤a∧a≤1000
 rotate_left
 ·have y3:inB a (0) 1000=false:=oI h3
  have y0:inB r (0) 4=true:=bT h0;have y1:inB k (0) 3=true:=bT h1;have y2:inB f (-1) 4=true:=bT h2;clear h h3 h0 h1 h2;go_enter Tryz.func147,Tryz.ntmps147
  go_wp2_with (go_at_call 211;refine(gU _ _ _ _).mono ?_;rintro e w' ⟨rfl,rfl⟩)
  go_ret
  exact⟨iw HF.out.symm,hbel⟩
 have h4:¬(0≤u∧u≤1000):=by omega
 ·have y4:inB u (0) 1000=false:=oI h4
  have y0:inB r (0) 4=true:=bT h0;have y1:inB k (0) 3=true:=bT h1;have y2:inB f (-1) 4=true:=bT h2;have y3:inB a (0) 1000=true:=bT h3;clear h h4 h0 h1 h2 h3;go_enter Tryz.func147,Tryz.ntmps147
  go_wp2_with (go_at_call 211;refine(gU _ _ _ _).mono ?_;rintro e w' ⟨rfl,rfl⟩)
  go_ret
  exact⟨iw HF.out.symm,hbel⟩
theorem IK(r k f a u:Int)(w:World)(h0:0≤r∧r≤4)(h1:0≤k∧k≤3)(h2 : -1≤f∧f≤4)(h3:0≤a∧a≤1000)(h4:0≤u∧u≤1000) :
  Calls Tryz.prog 147 #[.agg #[.int .i64 r,.int .i64 k,.int .i64 f,.int .i64 a,.int .i64 u]] w fun e w'=>e=.returned (erV (KV.fault ⟨r,k,f,a,u⟩))∧Below w.heap.size w w':=by
 have hbel:Below w.heap.size w (w.alloc (.cells #[.int .i64 r,.int .i64 k,.int .i64 f,.int .i64 a,.int .i64 u] 47)):=(Below.refl _ _).alloc (Nat.le_refl _) _;by_cases k0:k=0
 ·by_cases f1:f = -1
  ·by_cases a0:a=0
   ·by_cases u0:u=0
    ·have HF:Hid (erV (KV.fault ⟨r,k,f,a,u⟩)=.nilIface):=by unfold Hid;rw[KV.y7 (d:=⟨r,k,f,a,u⟩) ⟨h0.1,h0.2,h1.1,h1.2,h2.1,h2.2,h3.1,h3.2,h4.1,h4.2⟩ (.inl ⟨k0,f1,a0,u0⟩)];exact aB
     clear hbel;subst k0 f1 a0 u0;have y0:=bT h0;have y1:=bT h1;have y2:=bT h2;have y3:=bT h3;have y4:=bT h4;clear h0 h1 h2 h3 h4
     try clear k0
     try clear f1
     try clear a0
     try clear u0
     try clear fr
     try clear k2
     go_enter Tryz.func147,Tryz.ntmps147
     go_wp2_with (go_at_call 211;refine(gU _ _ _ _).mono ?_;rintro e w' ⟨rfl,rfl⟩)
     go_ret
     exact⟨iw HF.out.symm,(Below.refl _ _).alloc (Nat.le_refl _) _⟩
    ·have HF:Hid (erV (KV.fault ⟨r,k,f,a,u⟩)=.iface 127 (.int .i64 2)):=by unfold Hid;rw[KV.tY (d:=⟨r,k,f,a,u⟩) ⟨h0.1,h0.2,h1.1,h1.2,h2.1,h2.2,h3.1,h3.2,h4.1,h4.2⟩ (by show ¬((k=0∧f = -1∧a=0∧u=0)∨(k≠0∧f≠r∧(f ≠ -1∨k=2)));omega)];exact mZ
     obtain⟨v1,v2⟩:=jL u0;clear hbel;subst k0 f1 a0;have y0:=bT h0;have y1:=bT h1;have y2:=bT h2;have y3:=bT h3;have y4:=bT h4;clear h0 h1 h2 h3 h4
     try clear k0
     try clear f1
     try clear a0
     try clear u0
     try clear fr
     try clear k2
     go_enter Tryz.func147,Tryz.ntmps147
     go_wp2_with (go_at_call 211;refine(gU _ _ _ _).mono ?_;rintro e w' ⟨rfl,rfl⟩)
     go_ret
     exact⟨iw HF.out.symm,(Below.refl _ _).alloc (Nat.le_refl _) _⟩
   ·have HF:Hid (erV (KV.fault ⟨r,k,f,a,u⟩)=.iface 127 (.int .i64 2)):=by unfold Hid;rw[KV.tY (d:=⟨r,k,f,a,u⟩) ⟨h0.1,h0.2,h1.1,h1.2,h2.1,h2.2,h3.1,h3.2,h4.1,h4.2⟩ (by show ¬((k=0∧f = -1∧a=0∧u=0)∨(k≠0∧f≠r∧(f ≠ -1∨k=2)));omega)];exact mZ
    obtain⟨v1,v2⟩:=jL a0;clear hbel;subst k0 f1;have y0:=bT h0;have y1:=bT h1;have y2:=bT h2;have y3:=bT h3;have y4:=bT h4;clear h0 h1 h2 h3 h4
    try clear k0
    try clear f1
    try clear a0
    try clear u0
    try clear fr
    try clear k2
    go_enter Tryz.func147,Tryz.ntmps147
    go_wp2_with (go_at_call 211;refine(gU _ _ _ _).mono ?_;rintro e w' ⟨rfl,rfl⟩)
    go_ret
    exact⟨iw HF.out.symm,(Below.refl _ _).alloc (Nat.le_refl _) _⟩
  ·have HF:Hid (erV (KV.fault ⟨r,k,f,a,u⟩)=.iface 127 (.int .i64 2)):=by unfold Hid;rw[KV.tY (d:=⟨r,k,f,a,u⟩) ⟨h0.1,h0.2,h1.1,h1.2,h2.1,h2.2,h3.1,h3.2,h4.1,h4.2⟩ (by show ¬((k=0∧f = -1∧a=0∧u=0)∨(k≠0∧f≠r∧(f ≠ -1∨k=2)));omega)];exact mZ
   obtain⟨v1,v2⟩:=jL f1;clear hbel;subst k0;have y0:=bT h0;have y1:=bT h1;have y2:=bT h2;have y3:=bT h3;have y4:=bT h4;clear h0 h1 h2 h3 h4
   try clear k0
   try clear f1
   try clear a0
   try clear u0
   try clear fr
   try clear k2
   go_enter Tryz.func147,Tryz.ntmps147
   go_wp2_with (go_at_call 211;refine(gU _ _ _ _).mono ?_;rintro e w' ⟨rfl,rfl⟩)
   go_ret
   exact⟨iw HF.out.symm,(Below.refl _ _).alloc (Nat.le_refl _) _⟩
 ·obtain⟨v1,v2⟩:=jL k0
  by_cases fr:f=r
  ·have HF:Hid (erV (KV.fault ⟨r,k,f,a,u⟩)=.iface 127 (.int .i64 2)):=by unfold Hid;rw[KV.tY (d:=⟨r,k,f,a,u⟩) ⟨h0.1,h0.2,h1.1,h1.2,h2.1,h2.2,h3.1,h3.2,h4.1,h4.2⟩ (by show ¬((k=0∧f = -1∧a=0∧u=0)∨(k≠0∧f≠r∧(f ≠ -1∨k=2)));omega)];exact mZ
   obtain⟨v3,v4⟩:=qE fr;clear hbel;have y0:=bT h0;have y1:=bT h1;have y2:=bT h2;have y3:=bT h3;have y4:=bT h4;clear h0 h1 h2 h3 h4
   try clear k0
   try clear f1
   try clear a0
   try clear u0
   try clear fr
   try clear k2
   go_enter Tryz.func147,Tryz.ntmps147
   go_wp2_with (go_at_call 211;refine(gU _ _ _ _).mono ?_;rintro e w' ⟨rfl,rfl⟩)
   go_ret
   exact⟨iw HF.out.symm,(Below.refl _ _).alloc (Nat.le_refl _) _⟩
  ·obtain⟨v3,v4⟩:=jL fr
   by_cases f1:f = -1
   ·by_cases k2:k=2
    ·have HF:Hid (erV (KV.fault ⟨r,k,f,a,u⟩)=.nilIface):=by unfold Hid;rw[KV.y7 (d:=⟨r,k,f,a,u⟩) ⟨h0.1,h0.2,h1.1,h1.2,h2.1,h2.2,h3.1,h3.2,h4.1,h4.2⟩ (.inr ⟨k0,fr,.inr k2⟩)];exact aB
     clear hbel;obtain⟨v5,v6⟩:=qE f1;obtain⟨v7,v8⟩:=qE k2;have y0:=bT h0;have y1:=bT h1;have y2:=bT h2;have y3:=bT h3;have y4:=bT h4;clear h0 h1 h2 h3 h4
     try clear k0
     try clear f1
     try clear a0
     try clear u0
     try clear fr
     try clear k2
     go_enter Tryz.func147,Tryz.ntmps147
     go_wp2_with (go_at_call 211;refine(gU _ _ _ _).mono ?_;rintro e w' ⟨rfl,rfl⟩)
     go_ret
     exact⟨iw HF.out.symm,(Below.refl _ _).alloc (Nat.le_refl _) _⟩
    ·have HF:Hid (erV (KV.fault ⟨r,k,f,a,u⟩)=.iface 127 (.int .i64 2)):=by unfold Hid;rw[KV.tY (d:=⟨r,k,f,a,u⟩) ⟨h0.1,h0.2,h1.1,h1.2,h2.1,h2.2,h3.1,h3.2,h4.1,h4.2⟩ (by show ¬((k=0∧f = -1∧a=0∧u=0)∨(k≠0∧f≠r∧(f ≠ -1∨k=2)));omega)];exact mZ
     clear hbel;obtain⟨v5,v6⟩:=qE f1;obtain⟨v7,v8⟩:=jL k2;have y0:=bT h0;have y1:=bT h1;have y2:=bT h2;have y3:=bT h3;have y4:=bT h4;clear h0 h1 h2 h3 h4
     try clear k0
     try clear f1
     try clear a0
     try clear u0
     try clear fr
     try clear k2
     go_enter Tryz.func147,Tryz.ntmps147
     go_wp2_with (go_at_call 211;refine(gU _ _ _ _).mono ?_;rintro e w' ⟨rfl,rfl⟩)
     go_ret
     exact⟨iw HF.out.symm,(Below.refl _ _).alloc (Nat.le_refl _) _⟩
   ·have HF:Hid (erV (KV.fault ⟨r,k,f,a,u⟩)=.nilIface):=by unfold Hid;rw[KV.y7 (d:=⟨r,k,f,a,u⟩) ⟨h0.1,h0.2,h1.1,h1.2,h2.1,h2.2,h3.1,h3.2,h4.1,h4.2⟩ (.inr ⟨k0,fr,.inl f1⟩)];exact aB
    clear hbel;obtain⟨v5,v6⟩:=jL f1;have y0:=bT h0;have y1:=bT h1;have y2:=bT h2;have y3:=bT h3;have y4:=bT h4;clear h0 h1 h2 h3 h4
    try clear k0
    try clear f1
    try clear a0
    try clear u0
    try clear fr
    try clear k2
    go_enter Tryz.func147,Tryz.ntmps147
    go_wp2_with (go_at_call 211;refine(gU _ _ _ _).mono ?_;rintro e w' ⟨rfl,rfl⟩)
    go_ret
    exact⟨iw HF.out.symm,(Below.refl _ _).alloc (Nat.le_refl _) _⟩
theorem yH(r k f a u:Int)(w:World) :
  Calls Tryz.prog 147 #[.agg #[.int .i64 r,.int .i64 k,.int .i64 f,.int .i64 a,.int .i64 u]] w fun e w'=>e=.returned (erV (KV.fault ⟨r,k,f,a,u⟩))∧Below w.heap.size w w':=by
 by_cases h:0≤r∧r≤4∧0≤k∧k≤3 ∧ -1≤f∧f≤4∧0≤a∧a≤1000∧0≤u∧u≤1000
 ·exact IK r k f a u w ⟨h.1,by omega⟩ ⟨by omega,by omega⟩ ⟨by omega,by omega⟩ ⟨by omega,by omega⟩ ⟨by omega,by omega⟩
 ·exact IJ r k f a u w h
theorem kT(x y:Int)(w:World)(h0:0≤x)(h1:x<256)(h2:0≤y)(h3:y<256) :
  Calls Tryz.prog 233 #[.int .u8 x,.int .u8 y] w fun e w'=>e=.returned (.int .i64 (x+y*256))∧w'=w:=by
 go_enter Tryz.func233,Tryz.ntmps233
 go_wp2
 go_ret
 exact⟨EN (by omega),rfl⟩
theorem yQ(r k f a u:Int)(w:World)(hk:KV.fault ⟨r,k,f,a,u⟩=0) :
  Calls Tryz.prog 213 #[.agg #[.int .i64 r,.int .i64 k,.int .i64 f,.int .i64 a,.int .i64 u]] w fun e w'=>e=.returned (.tuple #[.string (aU [68,75,r,k,f+1,a % 256,a / 256,u % 256,u / 256]),.nilIface])∧Below w.heap.size w w':=by
 have hch:=yH r k f a u (w.alloc (.cells #[.int .i64 r,.int .i64 k,.int .i64 f,.int .i64 a,.int .i64 u] 47));rw[hk,aB] at hch;have hbd:=of_decide_eq_true (KV.uz hk).1;simp only at hbd;obtain⟨g1,g2,g3,g4,g5,g6,g7,g8,g9,g10⟩:=hbd;have HC:=ah hch;clear hch hk;go_enter Tryz.func213,Tryz.ntmps213
 go_wp2_with fail
 refine HC.out.mono ?_;rintro e w1 ⟨rfl,hb1⟩;obtain⟨hc,hf⟩:=lJ hb1;have hz:w.heap.size<w1.heap.size:=by have:=hb1.size;simp at this;omega
 go_wp2_with fail
 refine(E8 [68,75,r,k,f+1,a % 256,a / 256,u % 256,u / 256] _ 9 _ (by simp) ?_ (BA w1 [68,75,r,k,f+1,a % 256,a / 256,u % 256,u / 256] 5)).mono ?_
 ·simp
 rintro e w2 ⟨rfl,hb2⟩;go_wp2
 go_ret2
 exact⟨rfl,((((Below.refl _ _).alloc (Nat.le_refl _) _).trans (hb1.mono (by simp))).alloc (by omega) _).trans (hb2.mono (by simp;omega))⟩
theorem Ju(r k f a u:Int)(w:World)(hk:KV.fault ⟨r,k,f,a,u⟩≠0) :
  Calls Tryz.prog 213 #[.agg #[.int .i64 r,.int .i64 k,.int .i64 f,.int .i64 a,.int .i64 u]] w fun e w'=>e=.returned (.tuple #[.string ⟨#[]⟩,.iface 127 (.int .i64 (KV.fault ⟨r,k,f,a,u⟩))])∧Below w.heap.size w w':=by
 have hch:=yH r k f a u (w.alloc (.cells #[.int .i64 r,.int .i64 k,.int .i64 f,.int .i64 a,.int .i64 u] 47));have e0:erV (KV.fault ⟨r,k,f,a,u⟩)=.iface 127 (.int .i64 (KV.fault ⟨r,k,f,a,u⟩)):=by unfold erV;rw[if_neg hk]
 rw[e0] at hch;generalize KV.fault ⟨r,k,f,a,u⟩=F at hch;have HC:=ah hch;clear hch e0 hk;go_enter Tryz.func213,Tryz.ntmps213
 go_wp2_with fail
 refine HC.out.mono ?_;rintro e w1 ⟨rfl,hb1⟩;go_wp2
 go_ret2
 exact⟨rfl,((Below.refl _ _).alloc (Nat.le_refl _) _).trans (hb1.mono (by simp))⟩
open Go.Maps
theorem UN{yp m:Nat}{Y:Yh}{y:YV}(s:ByteArray)(w:World)(h:ay w yp Y y)(hf:y.top.fine y.top.fl.length m)(hm:m<1000000000)(hs:s.size=16) :
  Calls Tryz.prog 214 #[.pointer (some ⟨Y.tp.p,0,none⟩),.int .i64 0,.string s] w fun e w'=>e=.returned (erV y.top.aQ)∧au yp Y y { y with top:=y.top.put 0 s.data.toList } w w':=by
 refine(wu 0 s w h.top.qY hf hm (Nat.le_refl _) hs (by have:=hf.ok.n1;omega)).mono ?_
 rintro e w' ⟨v2,rfl,h1,h2⟩;obtain⟨h3,h4⟩:=h.vg (t':={ Y.tp with v2:=v2 }) h1.noG rfl (h1.moved h2 fun k hk hg=>hg.2 hk)
 exact⟨rfl,{ Y with tp:={ Y.tp with v2:=v2 } },rfl,h3,h4⟩
theorem UM{yp:Nat}{Y:Yh}{y:YV}(w:World)(h:ay w yp Y y) :
  Calls Tryz.prog 215 #[.pointer (some ⟨Y.tp.p,0,none⟩)] w fun e w'=>e=.returned (.tuple #[])∧au yp Y y { y with top:=y.top.flushed } w w':=by
 refine(flush_any w h.top.toaH).mono ?_;rintro e w' ⟨rfl,h1,h2⟩;have h3:bg (Gd.but w Y.tp.fp) w' { Y.tp with v2:=.slice none 0 0 } y.top.flushed:=h.top.qY.nilled h1
 obtain⟨h4,h5⟩:=h.vg (t':={ Y.tp with v2:=.slice none 0 0 }) h3.noG rfl (h3.moved h2 fun k hk hg=>hg.2 (by rcases hk with hk|hk;exact .inl hk;exact .inr (.inl hk)))
 exact⟨rfl,{ Y with tp:={ Y.tp with v2:=.slice none 0 0 } },rfl,h4,h5⟩
theorem Jt(d:aS):(aU d.kv.bytes).size=16:=xK d.kv.bytes (by show 9≤12;omega)
theorem sK{yp m:Nat}{Y:Yh}{y:YV}(d:aS)(w:World)(h:ay w yp Y y)(hY:y.top.fine y.top.fl.length m)(hd:d.kv.fault=0)(hm:m<1000000000) :
  Calls Tryz.prog 102 #[.pointer (some ⟨yp,0,none⟩),.agg #[.int .i64 d.root,.int .i64 d.kind,.int .i64 d.file,.int .i64 d.rate,.int .i64 d.burst]] w fun e w'=>e=.returned (erV y.bJ)∧au yp Y y (y.aj d) w w':=by
 have HB0:Hid (Below w.heap.size w (w.alloc (eF d))):=(Below.refl _ _).alloc (Nat.le_refl _) _;have h1:=h.below HB0.out;have HDK:Hid (Calls Tryz.prog 213 #[.agg #[.int .i64 d.root,.int .i64 d.kind,.int .i64 d.file,.int .i64 d.rate,.int .i64 d.burst]] (w.alloc (eF d)) fun e w'=>e=.returned (.tuple #[.string (aU d.kv.bytes),.nilIface])∧Below (w.alloc (eF d)).heap.size (w.alloc (eF d)) w'):=yQ d.root d.kind d.file d.rate d.burst _ hd
 have HWR:Hid (∀(W:World),Below (w.alloc (eF d)).heap.size (w.alloc (eF d)) W→W.cell? ⟨yp,5,none⟩=some (.pointer (some ⟨Y.tp.p,0,none⟩))∧Calls Tryz.prog 214 #[.pointer (some ⟨Y.tp.p,0,none⟩),.int .i64 0,.string (aU d.kv.bytes)] W fun e w'=>e=.returned (erV y.top.aQ)∧au yp Y y { y with top:=y.top.put 0 (YV.kQ d) } (w.alloc (eF d)) w'):=fun W hb =>
  ⟨(h1.below hb).blk.cells.2.1,(UN _ W (h1.below hb) hY hm (Jt d)).mono fun e w' ⟨h1,h2⟩=>⟨h1,au.from hb h2⟩⟩
 have HF1:Hid (∀ z:YV,∀ W:World,au yp Y y z (w.alloc (eF d)) W→∃ tp:Nat,W.cell? ⟨yp,5,none⟩=some (.pointer (some ⟨tp,0,none⟩))∧Calls Tryz.prog 215 #[.pointer (some ⟨tp,0,none⟩)] W fun e w'=>e=.returned (.tuple #[])∧au yp Y y { z with top:=z.top.flushed } (w.alloc (eF d)) w'):=fun z W ⟨Y1,e1,h1,h2⟩ =>
  ⟨Y1.tp.p,h1.blk.cells.2.1,(UM W h1).mono fun e w' ⟨h3,h4⟩=>⟨h3,au.trans e1 h2 h4⟩⟩
 have HSR:Hid (∀ z:YV,∀ W:World,au yp Y y z (w.alloc (eF d)) W→(∃ r,W.cell? ⟨yp,11,none⟩=some (.int .i64 r))∧W.frozen? ⟨yp,11,none⟩=false∧au yp Y y { z with kd:=d } w (W.setCell ⟨yp,11,none⟩ (.int .i64 d.root))):=fun z W ⟨Y1,e1,h1,h2⟩=>by
  obtain⟨_,_,_,q3,_,q5⟩:=h1.blk.cells;obtain⟨h3,h4⟩:=h1.uS d;exact⟨⟨_,q3⟩,q5 11,Y1,e1,h3,(Moved.of_below HB0.out).trans (h2.trans h4)⟩
 have HBX:Hid (∀ z:YV,∀ W:World,au yp Y y z (w.alloc (eF d)) W→W.cell? ⟨w.heap.size,0,none⟩=some (.int .i64 d.root)):=fun z W ⟨Y1,_,_,h2⟩=>by
  have hk:=h2.block (k:=w.heap.size) (by simp) (fun e=>by have:=h.iT e;omega)
  rw[heap_alloc_new] at hk;unfold eF at hk;rw[cell_of_row _ _ _ _ _ _ hk];rfl
 have HED:Hid (∀ z:YV,∀ W:World,au yp Y y z (w.alloc (eF d)) W→au yp Y y z w W):=fun z W hd=>au.from HB0.out hd
 unfold YV.aj YV.bJ;clear h hY hm hd h1;generalize y.top.aQ=F at HWR ⊢;unfold eF at HDK HWR HF1 HSR HBX HED;by_cases hF:F=0
 ·rw[if_pos hF,hF,aB]
  rw[hF,aB] at HWR;go_enter Tryz.func102,Tryz.ntmps102
  go_wp2_with fail
  refine HDK.out.mono ?_;rintro e w1 ⟨rfl,hb1⟩;obtain⟨c5,hw⟩:=HWR.out w1 hb1;have HW:=ah hw;clear hw hb1 HWR HDK;go_wp2_with fail
  refine HW.out.mono ?_;rintro e w2 ⟨rfl,hd2⟩;obtain⟨tp,c5',hf⟩:=HF1.out _ _ hd2;have HF:=ah hf;clear hf hd2 HW HF1;go_wp2_with fail
  refine HF.out.mono ?_;rintro e w3 ⟨rfl,hd3⟩;have q0:=HBX.out _ _ hd3;obtain⟨⟨r,q1⟩,q2,hd4⟩:=HSR.out _ _ hd3;have HD:=ah hd4;clear hd3 hd4 HF HSR HBX;go_wp2
  go_ret
  exact⟨rfl,HD.out⟩
 ·rw[if_neg hF]
  rw[aT hF] at HWR ⊢;go_enter Tryz.func102,Tryz.ntmps102
  go_wp2_with fail
  refine HDK.out.mono ?_;rintro e w1 ⟨rfl,hb1⟩;obtain⟨c5,hw⟩:=HWR.out w1 hb1;have HW:=ah hw;clear hw hb1 HWR HDK;go_wp2_with fail
  refine HW.out.mono ?_;rintro e w2 ⟨rfl,hd2⟩;have HD:=ah (HED.out _ _ hd2);clear hd2 HW;go_wp2
  go_ret
  exact⟨rfl,HD.out⟩
theorem vJ(r:Int)(w:World):Calls Tryz.prog 103 #[.int .i64 r] w fun e w'=>e=.returned (.agg #[.int .i64 (ak r).root,.int .i64 (ak r).kind,.int .i64 (ak r).file,.int .i64 (ak r).rate,.int .i64 (ak r).burst])∧Below w.heap.size w w':=by
 go_enter Tryz.func103,Tryz.ntmps103
 go_wp2
 exact bodyPost_ret (v:=.agg #[.int .i64 r,.int .i64 0,.int .i64 (-1),.int .i64 0,.int .i64 0]) (by simp[results,Tryz.results103,go_sem]) rfl ⟨rfl,(Below.refl _ _).alloc (Nat.le_refl _) _⟩
theorem AX{yp m C:Nat}{Y:Yh}{y:YV}{j:JV}(well:Bool)(w:World)(h:ay w yp Y y)(hs:y.s.ok m)(hj:y.j=some j)(hok:JOk y.s C j) :
  Calls Tryz.prog 95 #[.pointer (some ⟨Y.jb.jp,0,none⟩),.bool well] w fun e w'=>e=.returned (.tuple #[])∧au yp Y y { y with j:=some (kR j well) } w w' :=
 (yT well w (h.uF hs hj hok)).mono fun _ _ ⟨h1,h2⟩=>⟨h1,h.rU hj (Below.refl _ _) h2 rfl⟩
theorem Ho{yp m C:Nat}{Y:Yh}{y:YV}{j:JV}(on:Bool)(w:World)(h:ay w yp Y y)(hs:y.s.ok m)(hj:y.j=some j)(hok:JOk y.s C j) :
  Calls Tryz.prog 81 #[.pointer (some ⟨Y.jb.jp,0,none⟩),.bool on] w fun e w'=>e=.returned (erV (mJ j on))∧au yp Y y { y with j:=some (gQ j on) } w w' :=
 (Px on w (h.uF hs hj hok)).mono fun _ _ ⟨h1,h2⟩=>⟨h1,h.rU hj (Below.refl _ _) h2 (zV j on).1⟩
theorem Uy{yp m C:Nat}{Y:Yh}{y:YV}{j:JV}(n:Int)(w:World)(h:ay w yp Y y)(hs:y.s.ok m)(hj:y.j=some j)(hok:JOk y.s C j) :
  Calls Tryz.prog 91 #[.pointer (some ⟨Y.jb.jp,0,none⟩),.int .i64 n] w fun e w'=>e=.returned (erV (if S4.inB n 100000=true then 0 else 1))∧au yp Y y { y with j:=some (gG j n) } w w' :=
 (Nu n w (h.uF hs hj hok)).mono fun _ _ ⟨h1,h2⟩=>⟨h1,h.rU hj (Below.refl _ _) h2 (Az j n).1⟩
theorem Hq{yp m C:Nat}{Y:Yh}{y:YV}{j:JV}(w:World)(h:ay w yp Y y)(hs:y.s.ok m)(hj:y.j=some j)(hok:JOk y.s C j)(hm:m+10<1000000000) :
  Calls Tryz.prog 93 #[.pointer (some ⟨Y.jb.jp,0,none⟩)] w fun e w'=>e=.returned (erV (dH y.s j))∧au yp Y y { y with s:=aF y.s j,j:=some (aK y.s j) } w w' :=
 (Nh w (h.uF hs hj hok) hm).mono fun _ _ ⟨h1,h2⟩=>⟨h1,h.rU hj (Below.refl _ _) h2 (Rq y.s j).1⟩
theorem Ux{yp m C:Nat}{Y:Yh}{y:YV}{j:JV}(w:World)(h:ay w yp Y y)(hs:y.s.ok m)(hj:y.j=some j)(hok:JOk y.s C j)(hT:S4.Tab w)(hm:m+10<1000000000) :
  Calls Tryz.prog 82 #[.pointer (some ⟨Y.jb.jp,0,none⟩)] w fun e w'=>e=.returned (.tuple #[.bool (jG y.s j),erV (eU y.s j)])∧au yp Y y { y with s:=stepS y.s j,j:=some (stepJ y.s j) } w w' :=
 (Nj w (h.uF hs hj hok) hT hm).mono fun _ _ ⟨h1,h2⟩=>⟨h1,h.rU hj (Below.refl _ _) h2 (iO y.s j).1⟩
theorem pF{b:Jh}{y:YV}(h:y.busy≠true):goV b y=.pointer none:=by unfold goV;rw[if_neg h]
theorem pG{b:Jh}{y:YV}(h:y.busy=true):goV b y=.pointer (some ⟨b.jp,0,none⟩):=by unfold goV;rw[if_pos h]
theorem UD{yp C m:Nat}{Y:Yh}{y:YV}(on:Bool)(w:World)(h:ay w yp Y y)(hY:YOk y C m) :
  Calls Tryz.prog 121 #[.pointer (some ⟨yp,0,none⟩),.bool on] w fun e w'=>e=.returned (erV (y.mJ on))∧au yp Y y (y.pause on) w w':=by
 have HG:=ah (og w h);have HD0:Hid (au yp Y y y w w):=au.refl h;by_cases hb:y.busy=true
 ·obtain⟨j,hj,hg⟩:=mW hb
  rw[pG hb] at HG;have e1:y.mJ on=mJ j on:=by unfold YV.mJ;rw[hj];show(if 4≤j.stage then _ else _)=_;rw[if_neg (by omega)]
  have e2:y.pause on={ y with j:=some (gQ j on) }:=by unfold YV.pause;rw[if_pos hb,hj];rfl
  have HP:=ah (Ho on w h hY.s hj (hY.job j hj hg).ok);rw[e1,e2];clear h hY hb hj hg e1 e2 HD0;go_enter Tryz.func121,Tryz.ntmps121
  go_wp2_with fail
  refine HG.out.mono ?_;rintro e w' ⟨rfl,hw⟩;have hw':=hw.symm;subst hw';clear hw HG;go_wp2_with fail
  refine HP.out.mono ?_;rintro e w1 ⟨rfl,hd⟩;have HD:=ah hd;clear hd HP;go_wp2
  go_ret
  exact⟨rfl,HD.out⟩
 ·rw[pF hb] at HG
  have e1:y.mJ on=4:=by
   unfold YV.mJ
   cases hj:y.j with
   | none=>rfl
   | some j=>show(if 4≤j.stage then _ else _)=_;rw[if_pos (nO hb j hj)]
  have e2:y.pause on=y:=by unfold YV.pause;rw[if_neg hb]
  rw[e1,e2,aT (by decide)]
  clear h hY hb e1 e2;go_enter Tryz.func121,Tryz.ntmps121
  go_wp2_with fail
  refine HG.out.mono ?_;rintro e w' ⟨rfl,hw⟩;have hw':=hw.symm;subst hw';clear hw HG;go_wp2
  go_ret
  exact⟨rfl,HD0.out⟩
theorem UK{yp C m:Nat}{Y:Yh}{y:YV}(n:Int)(w:World)(h:ay w yp Y y)(hY:YOk y C m) :
  Calls Tryz.prog 123 #[.pointer (some ⟨yp,0,none⟩),.int .i64 n] w fun e w'=>e=.returned (erV (YV.Gj n))∧au yp Y y (y.tick n) w w':=by
 have HG:=ah (og w h);have HD0:Hid (au yp Y y y w w):=au.refl h;unfold YV.Gj
 cases hn:S4.inB n 100000 with
 | false =>
  have e2:y.tick n=y:=by
   unfold YV.tick;split
   ·cases hj:y.j with
    | none =>
     show({ y with j:=none }:YV)=y
     rw[← hj]
    | some j =>
     show({ y with j:=some (gG j n) }:YV)=y
     rw[show gG j n=j by unfold gG;rw[if_neg (by rw[hn];decide)],← hj]
   ·rfl
  rw[e2,if_neg (by decide),dM]
  clear h hY e2 HG;have hx:n<0∨100000<n:=by unfold S4.inB at hn;simp at hn;omega
  by_cases h0:n<0
  ·have g0:decide (n<0)=true:=decide_eq_true h0
   go_enter Tryz.func123,Tryz.ntmps123
   go_wp2
   go_ret
   exact⟨rfl,HD0.out⟩
  ·have g0:decide (n<0)=false:=decide_eq_false h0
   have g1:decide (100000<n)=true:=decide_eq_true (by omega)
   go_enter Tryz.func123,Tryz.ntmps123
   go_wp2
   go_ret
   exact⟨rfl,HD0.out⟩
 | true =>
  have hx:0≤n∧n≤100000:=by unfold S4.inB at hn;simp at hn;omega
  have g0:decide (n<0)=false:=decide_eq_false (by omega)
  have g1:decide (100000<n)=false:=decide_eq_false (by omega)
  rw[if_pos rfl,aB];by_cases hb:y.busy=true
  ·obtain⟨j,hj,hg⟩:=mW hb
   rw[pG hb] at HG;have e2:y.tick n={ y with j:=some (gG j n) }:=by unfold YV.tick;rw[if_pos hb,hj];rfl
   have HP:=ah (Uy n w h hY.s hj (hY.job j hj hg).ok);rw[hn,if_pos rfl,aB] at HP;rw[e2];clear h hY hb hj hg e2 HD0 hn;go_enter Tryz.func123,Tryz.ntmps123
   go_wp2_with fail
   refine HG.out.mono ?_;rintro e w' ⟨rfl,hw⟩;have hw':=hw.symm;subst hw';clear hw HG;go_wp2_with fail
   refine HP.out.mono ?_;rintro e w1 ⟨rfl,hd⟩;have HD:=ah hd;clear hd HP;go_wp2
   go_ret
   exact⟨rfl,HD.out⟩
  ·rw[pF hb] at HG
   have e2:y.tick n=y:=by unfold YV.tick;rw[if_neg hb]
   rw[e2];clear h hY hb e2 hn;go_enter Tryz.func123,Tryz.ntmps123
   go_wp2_with fail
   refine HG.out.mono ?_;rintro e w' ⟨rfl,hw⟩;have hw':=hw.symm;subst hw';clear hw HG;go_wp2
   go_ret
   exact⟨rfl,HD0.out⟩
theorem Uk{yp C m:Nat}{Y:Yh}{y:YV}(w:World)(h:ay w yp Y y)(hY:YOk y C m)(hm:m<1000000000) :
  Calls Tryz.prog 52 #[.pointer (some ⟨yp,0,none⟩)] w fun e w'=>e=.returned (erV y.Bv)∧au yp Y y y.cancel w w':=by
 have HG:=ah (og w h);have HD0:Hid (au yp Y y y w w):=au.refl h;unfold YV.cancel YV.Bv;by_cases hb:y.busy=true
 ·obtain⟨j,hj,hg⟩:=mW hb
  rw[pG hb] at HG;rw[if_pos hb,if_pos hb];obtain⟨c0,c5,c6,c11,c12,fz⟩:=h.blk.cells;have hr:=hY.root;have HID:=ah (vJ y.kd.root w);have HDK:Hid (∀ W:World,Below w.heap.size w W→Calls Tryz.prog 102 #[.pointer (some ⟨yp,0,none⟩),.agg #[.int .i64 (ak y.kd.root).root,.int .i64 (ak y.kd.root).kind,.int .i64 (ak y.kd.root).file,.int .i64 (ak y.kd.root).rate,.int .i64 (ak y.kd.root).burst]] W fun e w'=>e=.returned (erV y.bJ)∧au yp Y y (y.aj (ak y.kd.root)) w w'):=fun W hb=>(sK (ak y.kd.root) W (h.below hb) hY.top (jH hr.1 hr.2) hm).mono fun e w' ⟨h1,h2⟩=>⟨h1,au.from hb h2⟩
  obtain⟨s1,s2,s3,s4⟩:=fP y (ak y.kd.root)
  have HE:Hid (∀ W:World,y.bJ=0→au yp Y y (y.aj (ak y.kd.root)) w W→Calls Tryz.prog 95 #[.pointer (some ⟨Y.jb.jp,0,none⟩),.bool false] W fun e w'=>e=.returned (.tuple #[])∧au yp Y y (y.over y.kd.root 5) w w'):=fun W h0 ⟨Y1,e1,h1,h2⟩=>by
   rw[← e1];refine(AX false W h1 (by rw[s1];exact hY.s) (s4.trans hj) (by rw[s1];exact(hY.job j hj hg).ok)).mono ?_
   rintro e w' ⟨rfl,hd⟩;refine⟨rfl,au.trans e1 h2 ?_⟩
   have e2:y.over y.kd.root 5={ y.aj (ak y.kd.root) with j:=some (kR j false) }:=by
    unfold YV.over;rw[if_pos h0,hY.ch.walk,hj];show({ y.aj (ak y.kd.root) with j:=some (j.at 5),l:=y.l }:YV)=_
    rw[← s3];rfl
   rw[e2];exact hd
  have HO:Hid (y.bJ≠0→y.over y.kd.root 5=y.aj (ak y.kd.root)):=fun h0=>by unfold YV.over;rw[if_neg h0]
  clear h hY hb hj hg HD0 c0 c5 c6 c12 fz hr s1 s2 s3 s4;generalize y.over y.kd.root 5=z at HE HO ⊢;generalize y.aj (ak y.kd.root)=z1 at HDK HE HO;generalize y.bJ=F at HDK HE HO ⊢;by_cases hF:F=0
  ·rw[hF,aB] at HDK
   rw[hF,aB];have HE1:=ah (fun W hd=>HE.out W hF hd)
   clear HE HO hF;go_enter Tryz.func52,Tryz.ntmps52
   go_wp2_with fail
   refine HG.out.mono ?_;rintro e w' ⟨rfl,hw⟩;have hw':=hw.symm;subst hw';clear hw HG;go_wp2_with fail
   refine HID.out.mono ?_;rintro e w1 ⟨rfl,hb1⟩;have HK:=ah (HDK.out w1 hb1);clear hb1 HID HDK;go_wp2_with fail
   refine HK.out.mono ?_;rintro e w2 ⟨rfl,hd2⟩;have HE2:=ah (HE1.out _ hd2);clear hd2 HK HE1;go_wp2_with fail
   refine HE2.out.mono ?_;rintro e w3 ⟨rfl,hd3⟩;have HD:=ah hd3;clear hd3 HE2;go_wp2
   go_ret
   exact⟨rfl,HD.out⟩
  ·rw[HO.out hF]
   rw[aT hF] at HDK ⊢;clear HE HO;go_enter Tryz.func52,Tryz.ntmps52
   go_wp2_with fail
   refine HG.out.mono ?_;rintro e w' ⟨rfl,hw⟩;have hw':=hw.symm;subst hw';clear hw HG;go_wp2_with fail
   refine HID.out.mono ?_;rintro e w1 ⟨rfl,hb1⟩;have HK:=ah (HDK.out w1 hb1);clear hb1 HID HDK;go_wp2_with fail
   refine HK.out.mono ?_;rintro e w2 ⟨rfl,hd2⟩;have HD:=ah hd2;clear hd2 HK;go_wp2
   go_ret
   exact⟨rfl,HD.out⟩
 ·rw[pF hb] at HG
  rw[if_neg hb,if_neg hb,aT (by decide)]
  clear h hY hb;go_enter Tryz.func52,Tryz.ntmps52
  go_wp2_with fail
  refine HG.out.mono ?_;rintro e w' ⟨rfl,hw⟩;have hw':=hw.symm;subst hw';clear hw HG;go_wp2
  go_ret
  exact⟨rfl,HD0.out⟩
end Go.Proofs.YtonhoahnieoebabGreatDoor
