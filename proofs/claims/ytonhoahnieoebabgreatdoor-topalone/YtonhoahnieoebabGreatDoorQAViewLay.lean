/- An act on a yard and its guest: what becomes of both. -/
import Derived.Test.YtonhoahnieoebabGreatDoorQATopDid2
import Derived.Test.YtonhoahnieoebabGreatDoorQAGuestP3
namespace Go.Proofs.YtonhoahnieoebabGreatDoor
open Go.RowKit Go.Maps
inductive gu (n:Nat) (y:YV) (g:GV) (x:aN):YV→GV→Prop
 | write (hk:x.kind.toList=[119,114,105,116,101]):gu n y g x (y.write x.a x.s) (if y.dB x.a x.s=1 then g else dS g x.a.toNat x.s (decide (y.dB x.a x.s=0)) (x.s.size / 16) (x.s.size / 16))
 | wipe (hk:x.kind.toList=[119,105,112,101]):gu n y g x (y.wipe x.a x.b) (if y.jo x.a x.b=1 then g else dS g x.a.toNat (eH (x.b.toNat*16)) (decide (y.jo x.a x.b=0)) x.b.toNat x.b.toNat)
 | flush (hk:x.kind.toList=[102,108,117,115,104]):gu n y g x y.flush (jX g n)
 | blank (hk:x.kind.toList=[98,108,97,110,107]):gu n y g x (y.blank x.a (-1)) g
 | snap (hk:x.kind.toList=[115,110,97,112]):gu n y g x (y.snap x.a) g
 | start (hk:x.kind.toList=[115,116,97,114,116]):gu n y g x (y.start (kW y x.a x.b x.c x.d)) g
 | pivot (hk:x.kind.toList=[112,105,118,111,116]):gu n y g x (y.pivot) g
 | cancel (hk:x.kind.toList=[99,97,110,99,101,108]):gu n y g x (y.cancel) g
 | pause (hk:x.kind.toList=[112,97,117,115,101]):gu n y g x (y.pause (decide (0<x.a))) g
 | tick (hk:x.kind.toList=[116,105,99,107]):gu n y g x (y.tick x.a) g
 | fail (hk:x.kind.toList=[102,97,105,108]):gu n y g x (y.arm x.a x.b) g
 | step:gu n y g x y.step g
def sQ(x:aN):Prop:=(-9223372036854775808≤x.a∧x.a≤9223372036854775807)∧x.s.size≤700 ∧ -9223372036854775808≤x.b∧x.b≤9223372036854775807
theorem YGd.oP{B:Gd}{w0 w w':World}{yp gp n:Nat}{Y:Yh}{y y':YV}{G:Gh}{g:GV}{x:aN}(h:YGd B w0 w yp Y y gp G n g)(hr:gu n y g x y' g)(hd:iD yp Y y y' w w'):∃ Y' G' y' g',gu n y g x y' g'∧YGd B w0 w' yp Y' y' gp G' n g':=by
 obtain⟨Y',h1⟩:=h.yA hd;exact⟨Y',G,y',g,hr,h1⟩
theorem iD.from{w w1 w':World}{yp:Nat}{Y:Yh}{y y':YV}(hb:Below w.heap.size w w1)(h:iD yp Y y y' w1 w'):iD yp Y y y' w w':=by
 obtain⟨Y',h0,h1,h2⟩:=h;refine⟨Y',?_,h1,(Moved.of_below hb).trans h2⟩;rcases h0 with e|e
 ·exact .inl e
 ·exact .inr fun g o q=>⟨Nat.le_trans hb.size (e g o q).1,(e g o q).2⟩
theorem YGd.box{B:Gd}{w0 w W:World}{yp gp n:Nat}{Y Y1:Yh}{y y1:YV}{G:Gh}{g:GV}{x:aN}(h:YGd B w0 w yp Y y gp G n g)(hm:Moved (fpY yp Y y) (w.alloc (eu x)) (fpY yp Y1 y1) W):kL W w.heap.size x :=
 ⟨(hm.block (by simp) (fun e=>by have:=h.bW.iT e;omega)).trans (heap_alloc_new w _)⟩
theorem Jw{B:Gd}{m C:Nat}{w0:World}{yp gp n:Nat}{Y:Yh}{y:YV}{G:Gh}{g:GV}(x:aN)(w:World)(h:YGd B w0 w yp Y y gp G n g)(hY:YOk y C m)(hC:1≤C∧C≤32)(hn:n=4*C)(hx:sQ x)(hT:S4.Tab w)(hm:m+8000<1000000000)
  (hlen:∀ k,k<n→g.now k≠[]∧(g.now k).length≤1000∧(g.cr k).length≤1000) :
  Calls Tryz.prog 42 #[.pointer (some ⟨yp,0,none⟩),.pointer (some ⟨gp,0,none⟩),iE x] w fun e w'=>e=.returned (.tuple #[])∧∃ Y' G' y' g',gu n y g x y' g'∧YGd B w0 w' yp Y' y' gp G' n g':=by
 have hl0:∀ k,k<n→(g.now k).length≤1000∧(g.cr k).length≤1000:=fun k hk=>(hlen k hk).2
 have hb0:Below w.heap.size w (w.alloc (eu x)):=(Below.refl _ _).alloc (Nat.le_refl _) _;by_cases kblank:x.kind.toList=[98,108,97,110,107]
 ·exact Jy x w kblank fun W hb=>(Uj x.a W (h.bW.below hb) hY hC (by omega)).mono fun e w' ⟨h1,h2⟩=>⟨⟨_,h1⟩,h.oP (.blank kblank) (iD.from hb h2.out)⟩
 by_cases ksnap:x.kind.toList=[115,110,97,112]
 ·exact JE x w ksnap fun W hb=>(UG x.a W (h.bW.below hb) hY hC (by omega)).mono fun e w' ⟨h1,h2⟩=>⟨⟨_,h1⟩,h.oP (.snap ksnap) (iD.from hb h2.out)⟩
 by_cases kstart:x.kind.toList=[115,116,97,114,116]
 ·exact JF x w kstart fun W hb=>(UH x.a x.b x.c x.d W (h.bW.below hb) hY (by omega)).mono fun e w' ⟨h1,h2⟩=>⟨⟨_,h1⟩,h.oP (.start kstart) (iD.from hb h2)⟩
 by_cases kpivot:x.kind.toList=[112,105,118,111,116]
 ·exact JD x w kpivot fun W hb=>(UE W (h.bW.below hb) hY (by omega)).mono fun e w' ⟨h1,h2⟩=>⟨⟨_,h1⟩,h.oP (.pivot kpivot) (iD.from hb h2.out)⟩
 by_cases kcancel:x.kind.toList=[99,97,110,99,101,108]
 ·exact Jz x w kcancel fun W hb=>(Uk W (h.bW.below hb) hY (by omega)).mono fun e w' ⟨h1,h2⟩=>⟨⟨_,h1⟩,h.oP (.cancel kcancel) (iD.from hb h2.out)⟩
 by_cases kpause:x.kind.toList=[112,97,117,115,101]
 ·exact JC x w kpause fun W hb=>(UD (decide (0<x.a)) W (h.bW.below hb) hY).mono fun e w' ⟨h1,h2⟩=>⟨⟨_,h1⟩,h.oP (.pause kpause) (iD.from hb h2.out)⟩
 by_cases ktick:x.kind.toList=[116,105,99,107]
 ·exact JH x w ktick fun W hb=>(UK x.a W (h.bW.below hb) hY).mono fun e w' ⟨h1,h2⟩=>⟨⟨_,h1⟩,h.oP (.tick ktick) (iD.from hb h2.out)⟩
 by_cases kfail:x.kind.toList=[102,97,105,108]
 ·exact JA x w kfail fun W hb=>(Us x.a x.b W (h.bW.below hb) hx.2.2.2).mono fun e w' ⟨h1,h2⟩=>⟨⟨_,h1⟩,h.oP (.fail kfail) (iD.from hb h2.out)⟩
 by_cases kflush:x.kind.toList=[102,108,117,115,104]
 ·refine JB (P:=fun w'=>∃ Y',YGd B w0 w' yp Y' y.flush gp G n g) x w kflush (fun W hb=>(Uu W (h.bW.below hb) hY).mono fun e w' ⟨h1,h2⟩=>⟨h1,h.yA (iD.from hb h2.out)⟩) fun W ⟨Y',h1⟩=>?_
  refine(Lu W h1.guest (by omega) (fun k hk=>(hlen k hk).1) (fun k hk=>(hl0 k hk).1)).mono ?_
  rintro e w' ⟨rfl,hd⟩;obtain⟨G',h2⟩:=h1.zn hd;exact⟨rfl,Y',G',_,_,.flush kflush,h2⟩
 by_cases kwrite:x.kind.toList=[119,114,105,116,101]
 ·refine JJ (P:=fun w'=>∃ Y1,YGd B w0 w' yp Y1 (y.write x.a x.s) gp G n g∧kL w' w.heap.size x) x w kwrite (fun W hW=>?_) (fun hF W ⟨Y1,h1,_⟩=>⟨Y1,G,_,g,by have:=gu.write (n:=n) (y:=y) (g:=g) (x:=x) kwrite;rw[if_pos hF] at this;exact this,h1⟩) (fun hF W ⟨Y1,h1,ha⟩=>?_)
  ·subst hW
   refine(UQ x.a x.s _ (h.bW.below hb0) hY (by omega) (by omega) hx.1 (by have:=hx.2.1;omega)).mono ?_
   rintro e w' ⟨rfl,hd⟩;have ha:kL w' w.heap.size x:=by obtain⟨Y1,_,_,h3⟩:=hd;exact h.box h3
   obtain⟨Y1,h1⟩:=h.yA (iD.from hb0 hd.out);exact⟨rfl,⟨Y1,h1,ha⟩,ha⟩
  ·have hA:x.s.size % 16=0∧y.s.bP y.l x.a ((x.s.size / 16:Nat):Int)=0:=Classical.byContradiction fun e=>hF (by unfold YV.dB;rw[if_neg e])
   obtain⟨_,f0,n0,hl⟩:=SV.jr hY.ch.good hA.2;have ea:((x.a.toNat:Nat):Int)=x.a:=by omega
   have hbd:Below W.heap.size W W.drew:=(Below.refl _ _).drew;have:=G7 x.a.toNat (x.s.size / 16) x.s (decide (y.dB x.a x.s=0)) W.drew (h1.below hbd).guest (by omega) (by omega) (by omega) hl0
   rw[ea] at this;refine this.mono ?_;rintro e w' ⟨rfl,hd⟩
   have ha2:kL w' w.heap.size x:=by
    obtain⟨G',_,h3⟩:=hd;have h4:=(h1.below hbd).guest
    exact⟨(h3.block (lt_of_some ha.blk) (fun e=>by
     obtain⟨c,t,e1,p⟩:=h4.kind e;have e2:W.drew.heap[w.heap.size]?=some (eu x):=ha.blk;rw[e2] at e1;unfold eu at e1;cases e1
     rcases p with p|p|p<;>cases p)).trans ha.blk⟩
   obtain⟨G',h2⟩:=(h1.below hbd).zn hd;refine⟨rfl,⟨Y1,G',_,_,?_,h2⟩,ha2⟩;have:=gu.write (n:=n) (y:=y) (g:=g) (x:=x) kwrite
   rw[if_neg hF] at this;exact this
 by_cases kwipe:x.kind.toList=[119,105,112,101]
 ·have hin:y.jo x.a x.b≠1→y.s.bP y.l x.a x.b=0:=fun hF=>Classical.byContradiction fun e=>hF (by unfold YV.jo;rw[if_neg e])
  refine JI (P:=fun w'=>∃ Y1,YGd B w0 w' yp Y1 (y.wipe x.a x.b) gp G n g∧kL w' w.heap.size x) x w kwipe (fun W hW=>?_) (fun hF W ⟨Y1,h1,_⟩=>⟨Y1,G,_,g,by have:=gu.wipe (n:=n) (y:=y) (g:=g) (x:=x) kwipe;rw[if_pos hF] at this;exact this,h1⟩) (fun hF=>by
   obtain⟨_,f0,n0,hl⟩:=SV.jr hY.ch.good (hin hF)
   omega) (fun hF W W' ⟨Y1,h1,ha⟩ hb=>?_)
  ·subst hW
   refine(UO x.a x.b _ (h.bW.below hb0) hY (by omega) (by omega) hx.1).mono ?_
   rintro e w' ⟨rfl,hd⟩;have ha:kL w' w.heap.size x:=by obtain⟨Y1,_,_,h3⟩:=hd;exact h.box h3
   obtain⟨Y1,h1⟩:=h.yA (iD.from hb0 hd.out);exact⟨rfl,⟨Y1,h1,ha⟩,ha⟩
  ·obtain⟨_,f0,n0,hl⟩:=SV.jr hY.ch.good (hin hF)
   have ea:((x.a.toNat:Nat):Int)=x.a:=by omega
   have hsz:(eH (x.b.toNat*16)).size=16*x.b.toNat:=by
    unfold eH bytesOf;show(List.replicate (x.b.toNat*16) (0:UInt8)).toArray.size=_
    rw[List.size_toArray,List.length_replicate];omega
   have:=G7 x.a.toNat x.b.toNat (eH (x.b.toNat*16)) (decide (y.jo x.a x.b=0)) W' (h1.below hb).guest (by omega) hsz (by omega) hl0
   rw[ea] at this;refine this.mono ?_;rintro e w' ⟨rfl,hd⟩;have e2:W'.heap[w.heap.size]?=some (eu x):=(hb.block _ (lt_of_some ha.blk)).trans ha.blk
   have ha2:kL w' w.heap.size x:=by
    obtain⟨G',_,h3⟩:=hd;have h4:=(h1.below hb).guest
    exact⟨(h3.block (lt_of_some e2) (fun e=>by
     obtain⟨c,t,e1,p⟩:=h4.kind e;rw[e2] at e1;unfold eu at e1;cases e1
     rcases p with p|p|p<;>cases p)).trans e2⟩
   obtain⟨G',h2⟩:=(h1.below hb).zn hd;refine⟨rfl,⟨Y1,G',_,_,?_,h2⟩,ha2⟩;have:=gu.wipe (n:=n) (y:=y) (g:=g) (x:=x) kwipe
   rw[if_neg hF] at this;exact this
 exact JG x w ⟨kwrite,kwipe,kflush,kblank,ksnap,kstart,kpivot,kcancel,kpause,ktick,kfail⟩ fun W hb=>(UJ W (h.bW.below hb) hY (hT.below hb (Nat.lt_of_le_of_lt (Nat.zero_le _) h.bW.blk.lt)) (by omega)).mono fun e w' ⟨h1,h2⟩=>⟨⟨_,_,h1⟩,h.oP .step (iD.from hb h2.out)⟩
end Go.Proofs.YtonhoahnieoebabGreatDoor
namespace Go.Proofs.YtonhoahnieoebabGreatDoor
open Go.RowKit
def IV.shE(v:IV)(e:Int × Int)(j:Nat):List UInt8:=if e.1=2 then v.d.seen.getD (aI v.h e.2.toNat+j) [] else if e.1=1 then noughts else [45]
theorem iy(v:IV)(c j:Nat)(h:j<4):v.sh (4*c+j)=v.shE (v.t.getD c (0,0)) j:=xQ v c j h
theorem FI{v:IV}{c:Nat}{e:Int × Int}(h:v.d.aQ≠0)(k:Nat):(v.set c e).sh k=v.sh k:=by
 unfold IV.set;rw[if_neg h];unfold IV.dO;rw[pW _ _ h];rfl
theorem Am{v:IV}{c:Nat}{e:Int × Int}(h:v.d.aQ=0):(v.set c e).t=v.t.set c e:=by
 unfold IV.set;rw[if_pos h]
theorem FM{v:IV}{c:Nat}{e:Int × Int}(h:v.d.aQ≠0):(v.set c e).t=v.t:=by
 unfold IV.set;rw[if_neg h]
theorem Rn(v:IV)(c:Nat)(e:Int × Int):(v.set c e).d=v.dO c e:=by
 unfold IV.set;split<;>rfl
theorem Ro{v:IV}{m:Nat}(hok:v.ok m){c:Nat}(hc:c<v.t.length)(e x:Int × Int)(j:Nat):(v.set c e).shE x j=v.shE x j:=by
 unfold IV.shE;rw[IV.Aj,Rn];unfold IV.dO;rw[nG _ _ (yD hok hc)]
theorem Ak{v:IV}{m:Nat}(hok:v.ok m)(h:v.d.aQ=0){c:Nat}(hc:c<v.t.length)(e:Int × Int){c2 j:Nat}(hj:j<4):(v.set c e).sh (4*c2+j)=if c=c2 then v.shE e j else v.sh (4*c2+j):=by
 rw[iy _ _ _ hj,iy _ _ _ hj,Am h,Ro hok hc,lD _ hc];split<;>rfl
theorem tH{v:IV}{c:Int}(h:v.dU c≠0)(k:Nat):(v.clear c).sh k=v.sh k:=by
 unfold IV.dU at h;unfold IV.clear;split
 ·next hx =>
  rw[if_pos hx.1,if_neg hx.2] at h;exact FI h k
 ·rfl
theorem vV{v:IV}{m:Nat}(hok:v.ok m){c:Nat}(h:v.dU (c:Int)=0){c2 j:Nat}(hj:j<4):(v.clear (c:Int)).sh (4*c2+j)=if c=c2 then noughts else v.sh (4*c2+j):=by
 unfold IV.dU at h;unfold IV.clear;split at h
 ·next ht =>
  have hc:=(IV.kH ht).2;split at h
  ·next h1 =>
   rw[if_neg (fun e=>e.2 h1)]
   split
   ·next e =>
    subst e;rw[iy _ _ _ hj];have:(v.t.getD c (0,0)).1=1:=h1
    unfold IV.shE;rw[if_neg (by omega),if_pos this]
   ·rfl
  ·next h1 =>
   rw[if_pos ⟨ht,h1⟩];have:=Ak hok h (c:=c) (by omega) (1,0) (c2:=c2) hj
   exact this
 ·cases h
theorem EJ{d:DV}{a:Nat}{s:ByteArray}{n:Nat}(hl:∀ k,k≤n→(d.puts a s k).1.seen.length=d.seen.length)(ha:a+n≤d.seen.length):∀ k,k≤n→(d.puts a s k).2=0→∀ j,j<k→(d.puts a s k).1.seen.getD (a+j) []=chunk s j:=by
 intro k
 induction k with
 | zero=>intro _ _ j hj;exact absurd hj (Nat.not_lt_zero _)
 | succ k ih =>
  intro hk h0 j hj;by_cases hp:(d.puts a s k).2=0
  ·rw[DV.pY hp] at h0 ⊢
   by_cases e:j=k
   ·subst e
    exact qM _ _ h0 (by rw[hl j (by omega)];omega)
   ·show((d.puts a s k).1.put (a+k) (chunk s k)).seen.getD (a+j) []=_
    rw[nG _ _ (by omega)]
    exact ih (by omega) hp j (by omega)
  ·rw[DV.pX hp (k+1) (by omega)] at h0
   exact absurd h0 hp
theorem PS{d:DV}{a:Nat}{s:ByteArray}{n:Nat}(hl:∀ k,k≤n→(d.puts a s k).1.seen.length=d.seen.length)(ha:a+n≤d.seen.length):∀ k,k≤n→∀ j,j<k→(d.puts a s k).1.seen.getD (a+j) []=chunk s j∨(d.puts a s k).1.seen.getD (a+j) []=d.seen.getD (a+j) []:=by
 intro k
 induction k with
 | zero=>intro _ j hj;exact absurd hj (Nat.not_lt_zero _)
 | succ k ih =>
  intro hk j hj;by_cases hp:(d.puts a s k).2=0
  ·rw[DV.pY hp]
   show((d.puts a s k).1.put (a+k) (chunk s k)).seen.getD (a+j) []=_∨((d.puts a s k).1.put (a+k) (chunk s k)).seen.getD (a+j) []=_
   by_cases e:j=k
   ·subst e
    rcases DV.pU (d.puts a s j).1 with h1|h1
    ·left;exact qM _ _ h1.1 (by rw[hl j (by omega)];omega)
    ·right
     rw[pW _ _ (by omega)]
     show(d.puts a s j).1.seen.getD (a+j) []=_
     exact xB d a s j (a+j) (by omega)
   ·rw[nG _ _ (by omega)]
    exact ih (by omega) j (by omega)
  ·rw[DV.pX hp (k+1) (by omega)]
   by_cases e:j=k
   ·subst e;right;exact xB d a s j (a+j) (by omega)
   ·exact ih (by omega) j (by omega)
theorem LP{v:IV}{m:Nat}(hok:v.ok m){q:Nat}(hq:q∈v.fD){c:Nat}(hc:c<v.t.length)(h2:(v.t.getD c (0,0)).1=2):(v.t.getD c (0,0)).2.toNat≠q:=by
 have hop:=(IV.pz hq).2;unfold IV.lX IV.vk at hop;simp only[Bool.and_eq_true,Bool.not_eq_true',List.any_eq_false,decide_eq_true_eq] at hop;have hb:=iK (hok.ents _ (getD_mem hc));intro e;refine hop.1 _ (getD_mem hc) ?_;rcases hb with hb|hb
 ·exact Prod.ext h2 (by show(v.t.getD c (0,0)).2=_;omega)
 ·omega
theorem wJ{v:IV}{m:Nat}(hok:v.ok m){q:Nat}(hq:q∈v.fD)(s:ByteArray){c j:Nat}(hc:c<v.t.length)(hj:j<4):({ v with d:=(v.dV q s).1 }:IV).sh (4*c+j)=v.sh (4*c+j):=by
 rw[iy _ _ _ hj,iy _ _ _ hj];show({ v with d:=(v.dV q s).1 }:IV).shE (v.t.getD c (0,0)) j=_
 unfold IV.shE;by_cases g:(v.t.getD c (0,0)).1=2
 ·rw[if_pos g,if_pos g]
  show(v.d.puts (aI v.h q+0) s 4).1.seen.getD (aI v.h (v.t.getD c (0,0)).2.toNat+j) []=_
  refine xB _ _ _ _ _ ?_;have:=LP hok hq hc g
  unfold aI;omega
 ·rw[if_neg g,if_neg g]
theorem wL{v:IV}{m:Nat}(hok:v.ok m){c:Int}{s:ByteArray}(h:v.dL c s≠0){c2 j:Nat}(hc2:c2<v.t.length)(hj:j<4):(v.fill c s).sh (4*c2+j)=v.sh (4*c2+j):=by
 unfold IV.dL at h;unfold IV.fill;split
 ·next hx =>
  rw[if_pos hx] at h;split
  ·rfl
  ·next h2 =>
   rw[if_neg h2] at h
   cases hq:v.fD with
   | nil=>rfl
   | cons q tl =>
    rw[hq] at h;have hqm:q∈v.fD:=by rw[hq];exact List.mem_cons_self
    simp only at h ⊢;split
    ·next hz =>
     rw[if_pos hz] at h;rw[FI h];exact wJ hok hqm s hc2 hj
    ·exact wJ hok hqm s hc2 hj
 ·rfl
theorem wO{v:IV}{m:Nat}(hok:v.ok m)(hm:m+10≤1000000000){c:Nat}{s:ByteArray}(h:v.dL (c:Int) s=0){c2 j:Nat}(hc2:c2<v.t.length)(hj:j<4):(v.fill (c:Int) s).sh (4*c2+j)=if c=c2 then chunk s j else v.sh (4*c2+j):=by
 unfold IV.dL at h;unfold IV.fill;split at h
 ·next hx =>
  obtain⟨_,t1⟩:=IV.kH hx.1;rw[if_pos hx];split at h
  ·cases h
  ·next h2 =>
   rw[if_neg h2]
   cases hq:v.fD with
   | nil=>rw[hq] at h;cases h
   | cons q tl =>
    rw[hq] at h;have hqm:q∈v.fD:=by rw[hq];exact List.mem_cons_self
    simp only at h ⊢;split at h
    ·next hz =>
     rw[if_pos hz];have hok3:=hok.fZ hqm hx.2 hm;rw[Ak hok3 h (c:=((c:Int)).toNat) (by show((c:Int)).toNat<v.t.length;omega) _ hj,show((c:Int)).toNat=c by omega]
     have hfd:=hok.dV hqm hx.2 hm;have hb2:=(kM hok.h hok.need).2 q (by have:=HV.fE hok.h;have:=(IV.pz hqm).1;omega)
     split
     ·unfold IV.shE
      rw[if_pos rfl];show(v.d.puts (aI v.h q+0) s 4).1.seen.getD (aI v.h ((q:Int)).toNat+j) []=_
      rw[show((q:Int)).toNat=q by omega]
      exact EJ (a:=aI v.h q+0) (n:=4) (xw hok.d (c:=4) (by omega) (by omega) (by have:=hok.d.wr;omega)) (by rw[hok.d.ok.same];omega) 4 (Nat.le_refl _) hz j hj
     ·exact wJ hok hqm s hc2 hj
    ·next hz=>exact absurd h hz
 ·cases h
theorem vG{v:IV}{m:Nat}(hok:v.ok m)(hg:gI v.h v.t)(hm:m+10≤1000000000){c fr:Nat}{s:ByteArray}(hw:kK v (c:Int) (fr:Int) s=true)(h2:(v.t.getD c (0,0)).1=2){c2 j:Nat}(hc2:c2<v.t.length)(hj:j<4) :
  (¬(c=c2∧fr≤j∧j<fr+s.size / 16)→(v.write (c:Int) (fr:Int) s).sh (4*c2+j)=v.sh (4*c2+j)) ∧
  (c=c2→fr≤j→j<fr+s.size / 16→((v.dB (c:Int) (fr:Int) s=0→(v.write (c:Int) (fr:Int) s).sh (4*c2+j)=chunk s (j-fr))∧((v.write (c:Int) (fr:Int) s).sh (4*c2+j)=chunk s (j-fr)∨(v.write (c:Int) (fr:Int) s).sh (4*c2+j)=v.sh (4*c2+j)))):=by
 obtain⟨w1,w2,w3,w4,w5⟩:=yu hw;obtain⟨t0,t1⟩:=IV.kH w1;have hc:c<v.t.length:=by omega
 have h2':(v.ent (c:Int)).1=2:=h2;have he:(v.ent (c:Int)).2.toNat=(v.t.getD c (0,0)).2.toNat:=rfl;obtain⟨p0,p1,p2⟩:=hok.place w1 h2';rw[he] at p2
 have hW:v.write (c:Int) (fr:Int) s={ v with d:=(v.d.puts (aI v.h (v.t.getD c (0,0)).2.toNat+fr) s (s.size / 16)).1 }:=by
  unfold IV.write;rw[if_pos ⟨hw,h2'⟩];rfl
 have hF:v.dB (c:Int) (fr:Int) s=(v.d.puts (aI v.h (v.t.getD c (0,0)).2.toNat+fr) s (s.size / 16)).2:=by
  unfold IV.dB;rw[if_pos hw,if_pos h2'];rfl
 have hrange:aI v.h (v.t.getD c (0,0)).2.toNat+fr+s.size / 16≤v.d.fl.length:=by omega
 have hl:=xw hok.d (a:=aI v.h (v.t.getD c (0,0)).2.toNat+fr) (s:=s) (c:=s.size / 16) (by omega) hrange (by have:=hok.d.wr;omega)
 have hra:aI v.h (v.t.getD c (0,0)).2.toNat+fr+s.size / 16≤v.d.seen.length:=by rw[hok.d.ok.same];exact hrange
 rw[hW,hF,iy _ _ _ hj,iy _ _ _ hj];show(_→IV.shE _ (v.t.getD c2 (0,0)) j=_)∧(_→_→_→(_→IV.shE _ (v.t.getD c2 (0,0)) j=_)∧(IV.shE _ (v.t.getD c2 (0,0)) j=_∨IV.shE _ (v.t.getD c2 (0,0)) j=_))
 refine⟨fun hn=>?_,fun e h3 h4=>?_⟩
 ·unfold IV.shE
  by_cases g:(v.t.getD c2 (0,0)).1=2
  ·rw[if_pos g,if_pos g]
   refine xB _ _ _ _ _ ?_;by_cases e:c=c2
   ·subst e
    show aI v.h (v.t.getD c (0,0)).2.toNat+j<_∨_≤aI v.h (v.t.getD c (0,0)).2.toNat+j
    by_cases h5:fr≤j
    ·right
     have:¬j<fr+s.size / 16:=fun h6=>hn ⟨rfl,h5,h6⟩
     omega
    ·left;omega
   ·have hne:(v.t.getD c2 (0,0)).2.toNat≠(v.t.getD c (0,0)).2.toNat:=fun e2=>by
     have b1:=iK (hg.at c);have b2:=iK (hg.at c2);have e3:v.t.getD c2 (0,0)=v.t.getD c (0,0):=Prod.ext (g.trans h2.symm) (by show(v.t.getD c2 (0,0)).2=(v.t.getD c (0,0)).2;omega)
     rcases Nat.lt_or_ge c c2 with hlt|hge
     ·exact hg.once c c2 hlt hc2 g e3.symm
     ·exact hg.once c2 c (by omega) hc h2 e3
    show aI v.h (v.t.getD c2 (0,0)).2.toNat+j<_∨_≤aI v.h (v.t.getD c2 (0,0)).2.toNat+j
    unfold aI;omega
  ·rw[if_neg g,if_neg g]
 ·subst e
  unfold IV.shE;rw[if_pos h2,if_pos h2];have ej:aI v.h (v.t.getD c (0,0)).2.toNat+j=aI v.h (v.t.getD c (0,0)).2.toNat+fr+(j-fr):=by omega
  refine⟨fun h0=>?_,?_⟩
  ·show(v.d.puts _ s _).1.seen.getD (aI v.h (v.t.getD c (0,0)).2.toNat+j) []=_
   rw[ej];exact EJ hl hra _ (Nat.le_refl _) h0 _ (by omega)
  ·show(v.d.puts _ s _).1.seen.getD (aI v.h (v.t.getD c (0,0)).2.toNat+j) []=_∨(v.d.puts _ s _).1.seen.getD (aI v.h (v.t.getD c (0,0)).2.toNat+j) []=v.d.seen.getD (aI v.h (v.t.getD c (0,0)).2.toNat+j) []
   rw[ej];exact PS hl hra _ (Nat.le_refl _) _ (by omega)
theorem DW(v:IV)(b:Int){c j:Nat}(hj:j<4):(v.link b).sh (4*c+j)=v.sh (4*c+j):=by
 unfold IV.link;split
 ·have hb:∀ q i,aI (v.lV b) q+i=aI v.h q+i:=fun _ _=>rfl
  unfold IV.gJ;split
  ·rw[iy _ _ _ hj,iy _ _ _ hj]
   show(if (v.t.getD c (0,0)).1=2 then (v.d.flushed.put 0 _).seen.getD (aI v.h (v.t.getD c (0,0)).2.toNat+j) [] else _)=_
   rw[nG _ _ (by unfold aI;omega)]
   rfl
  ·rw[iy _ _ _ hj,iy _ _ _ hj]
   show(if (v.t.getD c (0,0)).1=2 then (v.d.flushed.put 0 _).seen.getD (aI v.h (v.t.getD c (0,0)).2.toNat+j) [] else _)=_
   rw[nG _ _ (by unfold aI;omega)]
   rfl
 ·rfl
def SV.view(s:SV)(c j:Nat):List Int→List UInt8
 | []=>noughts
 | n::r=>match s.file n with
  | none=>s.view c j r
  | some v=>if (v.t.getD c (0,0)).1=0 then s.view c j r else v.shE (v.t.getD c (0,0)) j
theorem jW(v:IV)(c:Nat):v.bH (c:Int)=v.t.getD c (0,0):=by
 unfold IV.bH;by_cases h:v.there (c:Int)=true
 ·rw[if_pos h];rfl
 ·rw[if_neg h]
  have h2:¬(0≤(c:Int)∧(c:Int)<v.t.length):=IV.Gi (by simpa using h)
  rw[List.getD_eq_getElem?_getD,List.getElem?_eq_none (by omega)];rfl
theorem TD(s:SV)(c j:Nat):∀ l,(s.seenAt (c:Int) l=none∧s.view c j l=noughts)∨∃ v,s.seenAt (c:Int) l=some v∧(v.t.getD c (0,0)).1≠0∧s.view c j l=v.shE (v.t.getD c (0,0)) j∧∃ n∈l,s.file n=some v:=by
 intro l
 induction l with
 | nil=>exact .inl ⟨rfl,rfl⟩
 | cons n r ih =>
  unfold SV.seenAt SV.view
  cases hf:s.file n with
  | none =>
   have:iF (none:Option IV) (c:Int)=0:=rfl
   rw[if_pos this];rcases ih with h|⟨v,h1,h2,h3,k,hk,h4⟩
   ·exact .inl h
   ·exact .inr ⟨v,h1,h2,h3,k,List.mem_cons_of_mem _ hk,h4⟩
  | some v =>
   have hk:iF (some v) (c:Int)=(v.t.getD c (0,0)).1:=by show(v.bH (c:Int)).1=_;rw[jW]
   rw[hk];by_cases g:(v.t.getD c (0,0)).1=0
   ·simp only[g,if_true]
    rcases ih with h|⟨v,h1,h2,h3,k,hk,h4⟩
    ·exact .inl h
    ·exact .inr ⟨v,h1,h2,h3,k,List.mem_cons_of_mem _ hk,h4⟩
   ·simp only[g,if_false]
    exact .inr ⟨v,rfl,g,rfl,n,List.mem_cons_self,hf⟩
theorem IY{d:DV}{a n m:Nat}(hd:d.fine n m)(ha:a+4≤n){j:Nat}(hj:j<4):chunk (bytesOf (lH d a 4)) j=d.seen.getD (a+j) []:=by
 have hs:=hd.ok.same;have hl:=hd.len
 have g:∀ k,k<4→(d.seen.getD (a+k) []).length=16:=fun k hk=>by
  have hx:a+k<d.seen.length:=by omega
  rw[List.getD_eq_getElem?_getD,List.getElem?_eq_getElem hx];exact hd.ok.l2 _ (List.getElem_mem hx)
 have e:lH d a 4=d.seen.getD (a+0) []++d.seen.getD (a+1) []++d.seen.getD (a+2) []++d.seen.getD (a+3) []:=by
  show(((([]++d.seen.getD (a+0) [])++d.seen.getD (a+1) [])++d.seen.getD (a+2) [])++d.seen.getD (a+3) [])=_
  rw[List.nil_append]
 have g0:=g 0 (by omega)
 have g1:=g 1 (by omega)
 have g2:=g 2 (by omega)
 have g3:=g 3 (by omega)
 have cut:∀(p x q:List UInt8) (k:Nat),p.length=k→x.length=16→((p++x++q).drop k).take 16=x:=fun p x q k hp hx=>by
  rw[List.append_assoc,← hp,List.drop_left,← hx,List.take_left]
 show((lH d a 4).drop (j*16)).take 16=_
 rw[e];clear e;rcases(show j=0∨j=1∨j=2∨j=3 by omega) with h|h|h|h
 all_goals
  subst h;generalize d.seen.getD (a+0) []=x0 at *
  generalize d.seen.getD (a+1) []=x1 at *
  generalize d.seen.getD (a+2) []=x2 at *
  generalize d.seen.getD (a+3) []=x3 at *
 ·have:=cut [] x0 (x1++x2++x3) 0 rfl g0
  rw[List.nil_append] at this;rw[List.append_assoc,List.append_assoc,← List.append_assoc x1];exact this
 ·have:=cut x0 x1 (x2++x3) (1*16) (by rw[g0]) g1
  rw[List.append_assoc (x0++x1)];exact this
 ·exact cut (x0++x1) x2 x3 (2*16) (by rw[List.length_append,g0,g1]) g2
 ·have:=cut (x0++x1++x2) x3 [] (3*16) (by rw[List.length_append,List.length_append,g0,g1,g2]) g3
  rw[List.append_nil] at this;exact this
theorem BI{j:Nat}(hj:j<4):chunk (bytesOf sO) j=noughts:=by
 rcases(show j=0∨j=1∨j=2∨j=3 by omega) with h|h|h|h<;>subst h<;>decide
theorem Qi{v:IV}{m:Nat}(hok:v.ok m){c j:Nat}(h:(v.t.getD c (0,0)).1≠0)(hj:j<4):chunk (bytesOf (v.jm (c:Int))) j=v.shE (v.t.getD c (0,0)) j:=by
 have hth:v.there (c:Int)=true∧(v.ent (c:Int)).1≠0:=IV.CQ (by rw[jW];exact h)
 have he:v.ent (c:Int)=v.t.getD c (0,0):=rfl;unfold IV.jm IV.shE;rw[if_pos hth.1,he];by_cases g:(v.t.getD c (0,0)).1=2
 ·rw[if_pos g,if_pos g]
  obtain⟨_,_,p2⟩:=hok.place hth.1 g;exact IY hok.d p2 hj
 ·rw[if_neg g,if_neg g]
  have hb:=iK (hok.ent hth.1)
  have g1:(v.t.getD c (0,0)).1=1:=by
   rw[he] at hb;rcases hb with hb|hb
   ·exact absurd hb.1 g
   ·rcases hb.1 with hb|hb
    ·exact absurd hb h
    ·exact hb
  rw[if_pos g1,if_pos g1];exact BI hj
theorem uH{s:SV}{C m:Nat}{l:List Int}(hg:s.good (C:Int) l)(hok:s.ok m)(h0:l≠[]){c j:Nat}(hc:c<C)(hj:j<4):chunk (s.read l (c:Int)).1 j=s.view c j l:=by
 unfold SV.read;rw[if_neg h0,hg.fV h0,if_pos ⟨by omega,by omega⟩]
 rcases TD s c j l with⟨h1,h2⟩|⟨v,h1,h2,h3,n,hn,h4⟩
 ·rw[h1,h2];exact BI hj
 ·rw[h1,h3]
  exact Qi (hok _ _ (SV.dJ h4).2.2) h2 hj
theorem sF{s z:SV}{c j:Nat}:∀ {l:List Int},(∀ n∈l,z.file n=s.file n)→z.view c j l=s.view c j l:=by
 intro l
 induction l with
 | nil=>intro _;rfl
 | cons n r ih =>
  intro h;unfold SV.view;rw[h n List.mem_cons_self]
  cases s.file n with
  | none=>exact ih fun k hk=>h k (List.mem_cons_of_mem _ hk)
  | some v=>simp only;rw[ih fun k hk=>h k (List.mem_cons_of_mem _ hk)]
theorem jO{s:SV}{c j:Nat}{n:Int}{r:List Int}{v:IV}(hf:s.file n=some v):s.view c j (n::r)=if (v.t.getD c (0,0)).1=0 then s.view c j r else v.shE (v.t.getD c (0,0)) j:=by
 show(match s.file n with
  | none=>s.view c j r
  | some v=>if (v.t.getD c (0,0)).1=0 then s.view c j r else v.shE (v.t.getD c (0,0)) j)=_
 rw[hf]
theorem qO{s:SV}{c j:Nat}{n:Int}{r:List Int}{v:IV}(hf:s.file n=some v)(hn:n ∉ r)(u:IV):(s.upd n.toNat u).view c j (n::r)=if (u.t.getD c (0,0)).1=0 then s.view c j r else u.shE (u.t.getD c (0,0)) j:=by
 have h1:(s.upd n.toNat u).file n=some u:=by rw[SV.fM hf,if_pos rfl]
 rw[jO h1,sF (s:=s) (fun k hk=>by rw[SV.fM hf,if_neg (fun (e:k=n)=>hn (e▸hk))])]
theorem yh{s:SV}{c j:Nat}{n:Int}{r:List Int}{v u:IV}(hf:s.file n=some v)(hn:n ∉ r)(ht:u.t=v.t)(hj:j<4)(hs:u.sh (4*c+j)=v.sh (4*c+j)):(s.upd n.toNat u).view c j (n::r)=s.view c j (n::r):=by
 rw[qO hf hn,jO hf,ht];rw[iy _ _ _ hj,iy _ _ _ hj,ht] at hs;rw[hs]
theorem qx(v:IV)(c f:Int)(s:ByteArray):(v.write c f s).t=v.t:=by unfold IV.write;split<;>rfl
theorem rD{v:IV}{c:Int}{s:ByteArray}(h:v.dL c s≠0):(v.fill c s).t=v.t:=by
 unfold IV.dL at h;unfold IV.fill;split
 ·next hx =>
  rw[if_pos hx] at h;split
  ·rfl
  ·next h2 =>
   rw[if_neg h2] at h
   cases hq:v.fD with
   | nil=>rfl
   | cons q tl =>
    rw[hq] at h;simp only at h ⊢;split
    ·next hz=>rw[if_pos hz] at h;exact FM h
    ·rfl
 ·rfl
theorem rE{v:IV}{c:Nat}{s:ByteArray}(h:v.dL (c:Int) s=0):c<v.t.length∧∃ q:Nat,(v.fill (c:Int) s).t=v.t.set c (2,(q:Int)):=by
 unfold IV.dL at h;unfold IV.fill;split at h
 ·next hx =>
  obtain⟨_,t1⟩:=IV.kH hx.1;rw[if_pos hx];refine⟨by omega,?_⟩
  split at h
  ·cases h
  ·next h2 =>
   rw[if_neg h2]
   cases hq:v.fD with
   | nil=>rw[hq] at h;cases h
   | cons q tl =>
    rw[hq] at h;simp only at h ⊢;split at h
    ·next hz=>rw[if_pos hz];exact⟨q,Am h⟩
    ·next hz=>exact absurd h hz
 ·cases h
theorem tJ{v:IV}{c:Int}(h:v.dU c≠0):(v.clear c).t=v.t:=by
 unfold IV.dU at h;unfold IV.clear;split
 ·next hx=>rw[if_pos hx.1,if_neg hx.2] at h;exact FM h
 ·rfl
theorem tK{v:IV}{c:Nat}(h:v.dU (c:Int)=0)(c2:Nat):(((v.clear (c:Int)).t.getD c2 (0,0)).1=if c=c2 then 1 else (v.t.getD c2 (0,0)).1)∧c<v.t.length:=by
 unfold IV.dU at h;unfold IV.clear;split at h
 ·next ht =>
  have hc:=(IV.kH ht).2;refine⟨?_,by omega⟩
  split at h
  ·next h1 =>
   rw[if_neg (fun e=>e.2 h1)]
   split
   ·next e=>subst e;exact h1
   ·rfl
  ·next h1 =>
   rw[if_pos ⟨ht,h1⟩,Am h,lD _ (by omega),show((c:Int)).toNat=c by omega]
   split<;>rfl
 ·cases h
theorem mX(t:ByteArray)(i:Nat):chunk t i=(t.data.toList.drop (i*16)).take 16:=rfl
theorem IX{old t:ByteArray}{f n:Nat}(ho:old.size=64)(ht:t.size=n*16)(hf:f+n≤4){j:Nat}(hj:j<4) :
  chunk (old.extract 0 (f*16)++t++old.extract (f*16+t.size) 64) j=if f≤j∧j<f+n then chunk t (j-f) else chunk old j:=by
 rw[mX,mX,mX]
 have e:(old.extract 0 (f*16)++t++old.extract (f*16+t.size) 64).data.toList=old.data.toList.take (f*16)++t.data.toList++old.data.toList.drop ((f+n)*16):=by
  rw[ByteArray.data_append,ByteArray.data_append,ByteArray.data_extract,ByteArray.data_extract,Array.toList_append,Array.toList_append,Array.toList_extract,Array.toList_extract,List.extract_eq_take_drop,List.extract_eq_take_drop,ht,show f*16+n*16=(f+n)*16 by omega,List.drop_zero,Nat.sub_zero]
  congr 1
  exact List.take_of_length_le (by
   have:old.data.toList.length=64:=by simpa using ho
   rw[List.length_drop,this];omega)
 rw[e];have hol:old.data.toList.length=64:=by simpa using ho
 have htl:t.data.toList.length=n*16:=by simpa using ht
 generalize old.data.toList=O at hol ⊢;generalize t.data.toList=T at htl ⊢;split
 ·next hx =>
  rw[List.append_assoc,List.drop_append,List.drop_eq_nil_of_le (by rw[List.length_take];omega),List.nil_append,List.length_take,show j*16-min (f*16) O.length=(j-f)*16 by omega,List.drop_append_of_le_length (by omega),List.take_append_of_le_length (by rw[List.length_drop];omega)]
 ·next hx =>
  by_cases h1:j<f
  ·rw[List.append_assoc,List.drop_append_of_le_length (by rw[List.length_take];omega),List.take_append_of_le_length (by rw[List.length_drop,List.length_take];omega),List.drop_take,List.take_take,show min 16 (f*16-j*16)=16 by omega]
  ·have h2:f+n≤j:=by omega
   rw[List.drop_append,List.drop_eq_nil_of_le (by rw[List.length_append,List.length_take];omega),List.nil_append,List.length_append,List.length_take,List.drop_drop,show(f+n)*16+(j*16-(min (f*16) O.length+T.length))=j*16 by omega]
structure Top(s:SV)(C m:Nat)(n:Int)(r:List Int)(v:IV):Prop where
 ok:s.ok m
 good:s.good (C:Int) (n::r)
 file:s.file n=some v
 apart:n ∉ r
 tab:gI v.h v.t
theorem Top.vok{s:SV}{C m:Nat}{n:Int}{r:List Int}{v:IV}(h:Top s C m n r v):v.ok m:=h.ok _ _ (SV.dJ h.file).2.2
theorem Top.len{s:SV}{C m:Nat}{n:Int}{r:List Int}{v:IV}(h:Top s C m n r v):v.t.length=C:=by
 obtain⟨u,h1,h2⟩:=h.good n List.mem_cons_self;rw[h.file] at h1;cases h1
 have:=h.vok.len
 omega
def inR(c f k c2 j:Nat):Prop:=c=c2∧f≤j∧j<f+k
instance (c f k c2 j:Nat):Decidable (inR c f k c2 j):=by unfold inR;infer_instance
theorem wU{s:SV}{C m:Nat}{n:Int}{r:List Int}{v:IV}(h:Top s C m n r v)(hm:m+10≤1000000000){c f k:Nat}{t:ByteArray}(hc:c<C)(ht:t.size=k*16)(hk:f+k≤4){c2 j:Nat}(hc2:c2<C)(hj:j<4) :
  ((s.lay (n::r) c f t).2=0→(s.lay (n::r) c f t).1.view c2 j (n::r)=if inR c f k c2 j then chunk t (j-f) else s.view c2 j (n::r)) ∧
  ((s.lay (n::r) c f t).1.view c2 j (n::r)=s.view c2 j (n::r)∨inR c f k c2 j∧(s.lay (n::r) c f t).1.view c2 j (n::r)=chunk t (j-f)):=by
 have hv:=h.vok;have hl:=h.len
 have hL:s.lay (n::r) c f t=if (v.bH c).1=2 then (s.upd n.toNat (v.write c f t),v.dB c f t) else
   (s.upd n.toNat (v.fill c ((s.read (n::r) c).1.extract 0 (f*16)++t++(s.read (n::r) c).1.extract (f*16+t.size) 64)),v.dL c ((s.read (n::r) c).1.extract 0 (f*16)++t++(s.read (n::r) c).1.extract (f*16+t.size) 64)):=by
  unfold SV.lay;simp only
  rw[h.file]
 rw[hL];clear hL;by_cases g:(v.bH (c:Int)).1=2
 ·rw[if_pos g]
  rw[jW] at g
  have hw:kK v (c:Int) (f:Int) t=true:=by
   unfold kK;rw[Bool.and_eq_true];exact⟨decide_eq_true ⟨by omega,by omega⟩,decide_eq_true ⟨by omega,by omega,by omega,by omega⟩⟩
  have hin:=vG hv h.tab hm hw g (c2:=c2) (j:=j) (by omega) hj
  have hks:t.size / 16=k:=by omega
  rw[hks] at hin;simp only
  by_cases hr:inR c f k c2 j
  ·obtain⟨e,h1,h2⟩:=hr
   subst e;obtain⟨a1,a2⟩:=hin.2 rfl h1 h2
   have hup:(s.upd n.toNat (v.write (c:Int) (f:Int) t)).view c j (n::r)=(v.write (c:Int) (f:Int) t).sh (4*c+j):=by
    rw[qO h.file h.apart,qx,if_neg (by omega),iy _ _ _ hj,qx]
   have hup0:s.view c j (n::r)=v.sh (4*c+j):=by
    rw[jO h.file,if_neg (by omega),iy _ _ _ hj]
   rw[hup,hup0,if_pos ⟨rfl,h1,h2⟩];refine⟨a1,?_⟩;rcases a2 with a2|a2
   ·exact .inr ⟨⟨rfl,h1,h2⟩,a2⟩
   ·exact .inl a2
  ·have hs:=yh h.file h.apart (u:=v.write (c:Int) (f:Int) t) (qx _ _ _ _) hj (hin.1 hr)
   rw[if_neg hr,hs];exact⟨fun _=>rfl,.inl rfl⟩
 ·rw[if_neg g]
  rw[jW] at g;obtain⟨_,r2⟩:=SV.kF h.good h.ok (List.cons_ne_nil _ _) (c:=(c:Int)) ⟨by omega,by omega⟩
  have hpatch:∀ i,i<4→chunk ((s.read (n::r) c).1.extract 0 (f*16)++t++(s.read (n::r) c).1.extract (f*16+t.size) 64) i=if f≤i∧i<f+k then chunk t (i-f) else s.view c i (n::r):=fun i hi=>by
   rw[IX r2 ht hk hi,uH h.good h.ok (List.cons_ne_nil _ _) hc hi]
  generalize ((s.read (n::r) c).1.extract 0 (f*16)++t++(s.read (n::r) c).1.extract (f*16+t.size) 64)=T at hpatch ⊢;simp only
  by_cases hF:v.dL (c:Int) T=0
  ·obtain⟨hct,q,hq⟩:=rE hF
   have hy:=wO hv hm hF (c2:=c2) (j:=j) (by omega) hj
   have hv2:(s.upd n.toNat (v.fill (c:Int) T)).view c2 j (n::r)=if inR c f k c2 j then chunk t (j-f) else s.view c2 j (n::r):=by
    by_cases e:c=c2
    ·subst e
     rw[if_pos rfl] at hy;rw[qO h.file h.apart,hq,lD _ hct,if_pos rfl,if_neg (by show ¬(2:Int)=0;decide)]
     rw[iy _ _ _ hj,hq,lD _ hct,if_pos rfl] at hy;rw[hy,hpatch j hj];by_cases hx:f≤j∧j<f+k
     ·rw[if_pos hx,if_pos ⟨rfl,hx⟩]
     ·rw[if_neg hx,if_neg (fun e=>hx e.2)]
    ·rw[if_neg e] at hy
     rw[if_neg (fun x=>e x.1),qO h.file h.apart,jO h.file]
     rw[iy _ _ _ hj,iy _ _ _ hj] at hy;have ht2:(v.fill (c:Int) T).t.getD c2 (0,0)=v.t.getD c2 (0,0):=by rw[hq,lD _ hct,if_neg e]
     rw[ht2] at hy ⊢;rw[hy]
   refine⟨fun _=>hv2,?_⟩
   rw[hv2];by_cases hr:inR c f k c2 j
   ·rw[if_pos hr];exact .inr ⟨hr,rfl⟩
   ·rw[if_neg hr];exact .inl rfl
  ·have hs:=yh h.file h.apart (c:=c2) (u:=v.fill (c:Int) T) (rD hF) hj (wL hv hF (by omega) hj)
   exact⟨fun e=>absurd e hF,.inl hs⟩
theorem BL{s:SV}{C m:Nat}{n:Int}{r:List Int}{v:IV}(h:Top s C m n r v){c c2 j:Nat}(hj:j<4) :
  (v.dU (c:Int)=0→(s.upd n.toNat (v.clear (c:Int))).view c2 j (n::r)=if c=c2 then noughts else s.view c2 j (n::r)) ∧
  (v.dU (c:Int)≠0→(s.upd n.toNat (v.clear (c:Int))).view c2 j (n::r)=s.view c2 j (n::r)):=by
 have hv:=h.vok;refine⟨fun hF=>?_,fun hF=>yh h.file h.apart (tJ hF) hj (tH hF _)⟩
 have hy:=vV hv hF (c2:=c2) hj;obtain⟨k1,_⟩:=tK hF c2;rw[qO h.file h.apart,k1];rw[iy _ _ _ hj] at hy;by_cases e:c=c2
 ·rw[if_pos e] at hy ⊢
  rw[if_neg (by decide),if_pos e];exact hy
 ·rw[if_neg e] at hy ⊢
  rw[if_neg e,jO h.file];rw[iy _ _ _ hj] at hy;rw[hy]
end Go.Proofs.YtonhoahnieoebabGreatDoor
