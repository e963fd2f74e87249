/- The document's shelf: the place that has something, a cluster that is read, a range's fault. -/
import Derived.Test.YtonhoahnieoebabGreatDoorQAChainPut
set_option maxHeartbeats 2000000
set_option maxRecDepth 100000
namespace Go.Proofs.YtonhoahnieoebabGreatDoor
open Go.RowKit Go.Maps
attribute [local go_sem ↓] Go.wp_at_zero Go.wp_at_succ
theorem below_drewN{B:Nat}{a w:World}(h:Below B a w)(n:Nat):Below B a (w.drewN n):=⟨h.os,h.tape,h.output,h.size,h.block⟩
theorem dropWhile_nil{p:UInt8→Bool}{l:List UInt8}:l.dropWhile p=[]↔∀ x∈l,p x=true:=by
 induction l with
 | nil=>simp
 | cons x l ih =>
  rw[List.dropWhile_cons];split
  ·next h=>rw[ih];simp[h]
  ·next h=>simp[h]
theorem Gu{l:List UInt8}{c:UInt8}:Lib.trimB l c=[]↔∀ x∈l,x=c:=by
 unfold Lib.trimB Lib.trimLeftB Lib.trimRightB;rw[dropWhile_nil]
 constructor
 ·intro h x hx
  have h0:l.reverse.dropWhile (· == c)=[]:=by
   cases hd:l.reverse.dropWhile (· == c) with
   | nil=>rfl
   | cons y r =>
    have hy:¬(y==c)=true:=by
     have:=List.head?_dropWhile_not (· == c) l.reverse
     rw[hd] at this
     simpa using this
    have:=h y (by rw[hd];simp)
    exact absurd this hy
  have:=dropWhile_nil.1 h0 x (by simpa using hx)
  simpa using this
 ·intro h x hx
  have:x∈l:=by
   have h1:x∈l.reverse.dropWhile (· == c):=by simpa using hx
   have h2:x∈l.reverse:=(List.dropWhile_sublist _).subset h1
   simpa using h2
  simpa using h x this
theorem Tm{t:ByteArray}(ht:t.size=64):((Lib.trimB t.data.toList 0).toArray.toList==[])=decide (t=eH 64):=by
 have hl:t.data.toList.length=64:=by simpa using ht
 by_cases h:t=eH 64
 ·rw[decide_eq_true h]
  have:Lib.trimB t.data.toList 0=[]:=Gu.2 fun x hx=>by
   rw[h] at hx;exact List.eq_of_mem_replicate (show x∈List.replicate 64 (0:UInt8) from by simpa [eH,bytesOf] using hx)
  rw[this];rfl
 ·rw[decide_eq_false h]
  have:Lib.trimB t.data.toList 0≠[]:=fun e=>h (by
   have h1:=Gu.1 e;have h2:t.data.toList=List.replicate 64 0:=List.eq_replicate_iff.2 ⟨hl,h1⟩;unfold eH
   rw[← h2,qB])
  simpa using this
theorem Ja{sp m:Nat}{xs:Nat→Ih}{s:SV}{v:IV}(n c:Int)(t:ByteArray)(w:World)(h:aV w sp xs s m)(hf:s.file n=some v)(ht:t.size=64)(hm:m+10<1000000000) :
  Calls Tryz.prog 75 #[.pointer (some ⟨sp,6,none⟩),.int .i64 n,.int .i64 c,.string t] w (bD w sp xs s (m+10) (s.move n c t)):=by
 have HFI:=ah (qG n w h);rw[hf] at HFI;unfold fJ at HFI;have HMV:Hid (s.move n c t=if t=eH 64 then (s.upd n.toNat (v.clear c),v.dU c) else if (v.bH c).1=2 then (s.upd n.toNat (v.write c 0 t),v.dB c 0 t) else (s.upd n.toNat (v.fill c t),v.dL c t)):=by unfold Hid SV.move;rw[hf]
 have HTR:Hid (Calls Tryz.prog 183 #[.string t,.string ⟨#[0]⟩] w fun e w'=>e=.returned (.string ⟨(Lib.trimB t.data.toList 0).toArray⟩)∧Below w.heap.size w w'):=by
  refine(Tryz.strings_Trim_one t 0 (by decide) w (by omega)).mono ?_
  rintro e w' ⟨rfl,rfl|rfl⟩
  ·exact⟨rfl,Below.refl _ _⟩
  ·exact⟨rfl,(Below.refl _ _).drew⟩
 have hTN:=Tm ht;have HKO:Hid (∀ W:World,Below w.heap.size w W→Calls Tryz.prog 184 #[.pointer (some ⟨(xs n.toNat).p,0,none⟩),.int .i64 c] W fun e w'=>e=.returned (.int .i64 (v.bH c).1)∧Below W.heap.size W w'):=fun W hb=>wR c W ((h.below hb).jZ hf).1
 have HCL:Hid (∀ W:World,Below w.heap.size w W→Calls Tryz.prog 63 #[.pointer (some ⟨(xs n.toNat).p,0,none⟩),.int .i64 c] W (bD w sp xs s (m+10) (s.upd n.toNat (v.clear c),v.dU c))):=fun W hb =>
  (BK c W (h.below hb) hf hm).mono fun e w' hd=>hd.from hb
 have HWR:Hid (∀ W:World,Below w.heap.size w W→Calls Tryz.prog 185 #[.pointer (some ⟨(xs n.toNat).p,0,none⟩),.int .i64 c,.int .i64 0,.string t] W (bD w sp xs s (m+10) (s.upd n.toNat (v.write c 0 t),v.dB c 0 t))):=fun W hb =>
  (GX c 0 t W (h.below hb) hf hm (by omega) (by decide)).mono fun e w' hd=>hd.from hb
 have HFL:Hid (∀ W:World,Below w.heap.size w W→Calls Tryz.prog 65 #[.pointer (some ⟨(xs n.toNat).p,0,none⟩),.int .i64 c,.string t] W (bD w sp xs s (m+10) (s.upd n.toNat (v.fill c t),v.dL c t))):=fun W hb =>
  (C9 c t W (h.below hb) hf hm).mono fun e w' hd=>hd.from hb
 generalize s.move n c t=R at HMV ⊢;generalize (v.bH c).1=y at HKO HMV;generalize (xs n.toNat).p=xp at HFI HKO HCL HWR HFL;generalize (Lib.trimB t.data.toList 0).toArray=TR at HTR hTN
 have hTN2:((⟨TR⟩:ByteArray).toList==[])=decide (t=eH 64):=by
  rw[← hTN]
  congr 1
  rw[ByteArray.toList_eq]
 clear h hf hTN ht;by_cases hz:t=eH 64
 ·have HR:Hid (R=(s.upd n.toNat (v.clear c),v.dU c)):=by unfold Hid;rw[HMV.out,if_pos hz]
  rw[decide_eq_true hz] at hTN2;rw[← HR.out] at HCL;clear hz HMV HKO HWR HFL;go_enter Tryz.func75,Tryz.ntmps75
  go_wp2_with fail
  refine HFI.out.mono ?_;rintro e w' ⟨rfl,hw⟩;have hw':=hw.symm;subst hw';clear hw;go_wp2_with fail
  refine HTR.out.mono ?_;rintro e w1 ⟨rfl,hb1⟩;have HC1:=ah (HCL.out _ hb1);clear hb1;go_wp2_with fail
  refine HC1.out.mono ?_;rintro e w2 ⟨xs',rfl,h2,h3⟩;have HD:Hid (bD w sp xs s (m+10) R (.returned (erV R.2)) w2):=⟨xs',rfl,h2,h3⟩;clear h2 h3;go_wp2
  go_ret
  exact HD.out
 ·rw[decide_eq_false hz] at hTN2
  by_cases hy:y=2
  ·have HR:Hid (R=(s.upd n.toNat (v.write c 0 t),v.dB c 0 t)):=by unfold Hid;rw[HMV.out,if_neg hz,if_pos hy]
   have g1:(y==2)=true:=by simpa using hy
   rw[← HR.out] at HWR;clear hz HMV HCL HFL hy;go_enter Tryz.func75,Tryz.ntmps75
   go_wp2_with fail
   refine HFI.out.mono ?_;rintro e w' ⟨rfl,hw⟩;have hw':=hw.symm;subst hw';clear hw;go_wp2_with fail
   refine HTR.out.mono ?_;rintro e w1 ⟨rfl,hb1⟩;have HB1:=ah hb1;clear hb1;go_wp2_with fail
   refine(HKO.out _ HB1.out).mono ?_;rintro e w2 ⟨rfl,hb2⟩;have HW2:=ah (HWR.out _ (HB1.out.trans (hb2.mono HB1.out.size)));clear hb2;go_wp2_with fail
   refine HW2.out.mono ?_;rintro e w3 ⟨xs',rfl,h2,h3⟩;have HD:Hid (bD w sp xs s (m+10) R (.returned (erV R.2)) w3):=⟨xs',rfl,h2,h3⟩;clear h2 h3;go_wp2
   go_ret
   exact HD.out
  ·have HR:Hid (R=(s.upd n.toNat (v.fill c t),v.dL c t)):=by unfold Hid;rw[HMV.out,if_neg hz,if_neg hy]
   have g1:(y==2)=false:=by simpa using hy
   rw[← HR.out] at HFL;clear hz HMV HCL HWR hy;go_enter Tryz.func75,Tryz.ntmps75
   go_wp2_with fail
   refine HFI.out.mono ?_;rintro e w' ⟨rfl,hw⟩;have hw':=hw.symm;subst hw';clear hw;go_wp2_with fail
   refine HTR.out.mono ?_;rintro e w1 ⟨rfl,hb1⟩;have HB1:=ah hb1;clear hb1;go_wp2_with fail
   refine(HKO.out _ HB1.out).mono ?_;rintro e w2 ⟨rfl,hb2⟩;have HW2:=ah (HFL.out _ (HB1.out.trans (hb2.mono HB1.out.size)));clear hb2;go_wp2_with fail
   refine HW2.out.mono ?_;rintro e w3 ⟨xs',rfl,h2,h3⟩;have HD:Hid (bD w sp xs s (m+10) R (.returned (erV R.2)) w3):=⟨xs',rfl,h2,h3⟩;clear h2 h3;go_wp2
   go_ret
   exact HD.out
end Go.Proofs.YtonhoahnieoebabGreatDoor
namespace Go.Proofs.YtonhoahnieoebabGreatDoor
open Go.RowKit Go.Maps
theorem NP{sp m:Nat}{xs:Nat→Ih}{s:SV}{n:Int}{v:IV}(b:Int)(w:World)(h:aV w sp xs s m)(hf:s.file n=some v)(hm:m+10<1000000000) :
  Calls Tryz.prog 257 #[.pointer (some ⟨(xs n.toNat).p,0,none⟩),.int .i64 b] w (bD w sp xs s (m+10) (bI s n b)):=by
 obtain⟨i1,i2⟩:=h.jZ hf;have e:bI s n b=(s.upd n.toNat (v.link b),v.kC b):=by unfold bI;rw[hf]
 rw[e];exact(NM b w i1.but i2 hm (Nat.le_refl _)).mono fun e w' hd=>bD.of h hf (by omega) (i2.link b (by omega)) hd
theorem Lh{s:SV}{n:Int}{v:IV}(hf:s.file n=some v):s.cZ n=s.upd n.toNat v.flush:=by unfold SV.cZ;rw[hf]
theorem Df{sp m:Nat}{xs:Nat→Ih}{s:SV}{n:Int}{v:IV}(w:World)(h:aV w sp xs s m)(hf:s.file n=some v) :
  Calls Tryz.prog 169 #[.pointer (some ⟨(xs n.toNat).p,0,none⟩)] w fun e w'=>e=.returned (.tuple #[])∧∃ xs',aV w' sp xs' (s.cZ n) m∧Moved (fpS xs s) w (fpS xs' (s.cZ n)) w':=by
 obtain⟨i1,i2⟩:=h.jZ hf;rw[Lh hf];refine(wP w i1.but).mono ?_;rintro e w' ⟨h',rfl,h1,h2,h3⟩;have hM:Moved (xs n.toNat).fp w ({ (xs n.toNat) with h:=h' }:Ih).fp w':=qZ h3 (fun _ h=>h.1) h2.out
 obtain⟨h6,h7⟩:=h.oU hf (Nat.le_refl m) i2.flush (x':={ (xs n.toNat) with h:=h' }) rfl h1 (h2.re fun _ _ h=>h) hM
 exact⟨rfl,_,h6,h7⟩
theorem Lp{s:SV}{C:Int}{l:List Int}(hg:s.good C l)(t:List Int):(s.bQ t).good C l:=fun n hn=>by
 obtain⟨v,h1,h2⟩:=hg n hn;obtain⟨u,h3,h4⟩:=(SV.alike.bQ t s).head n v h1;exact⟨u,h3,h4.trans h2⟩
attribute [local go_sem ↓] Go.wp_at_zero Go.wp_at_succ
theorem aX.nY{w:World}{sp jp lp bp cap m C:Nat}{a:Option Addr}{xs:Nat→Ih}{s:SV}{j:JV}(h:PJ w sp jp lp bp a cap xs s m C j){st:Int}(hs:st=1∨st=2∨st=4∨st=5):aX sp jp lp bp a cap xs s s m C (j.at st) w (w.setCell ⟨jp,4,none⟩ (.int .i64 st)):=⟨xs,(h.nY hs).1,(h.nY hs).2⟩
theorem yT{sp jp lp bp cap m C:Nat}{a:Option Addr}{xs:Nat→Ih}{s:SV}{j:JV}(well:Bool)(w:World)(h:PJ w sp jp lp bp a cap xs s m C j) :
  Calls Tryz.prog 95 #[.pointer (some ⟨jp,0,none⟩),.bool well] w fun e w'=>e=.returned (.tuple #[])∧aX sp jp lp bp a cap xs s s m C (kR j well) w w':=by
 obtain⟨c0,c1,c2,c3,c4,c5,c6,c7,f4,f7⟩:=h.job.cells;have h5:=h.nY (st:=5) (.inr (.inr (.inr rfl)));have f5:=h5.1.job.cells;have HP5:=ah h5;have HD5:Hid (aX sp jp lp bp a cap xs s s m C (j.at 5) w (w.setCell ⟨jp,4,none⟩ (.int .i64 5))):=aX.nY h (.inr (.inr (.inr rfl)));have HD4:Hid (aX sp jp lp bp a cap xs s s m C (j.at 4) w ((w.setCell ⟨jp,4,none⟩ (.int .i64 5)).setCell ⟨jp,4,none⟩ (.int .i64 4))):=aX.after h5.2 (aX.nY (j:=j.at 5) h5.1 (.inr (.inr (.inl rfl))));obtain⟨_,_,_,_,_,_,_,_,g4,_⟩:=f5;clear h h5 c0 c1 c2 c3 c5 c6 c7 f7;unfold kR
 cases well with
 | false =>
  rw[if_neg (by decide)]
  go_enter Tryz.func95,Tryz.ntmps95
  go_wp2
  go_end0
  exact⟨rfl,HD5.out⟩
 | true =>
  rw[if_pos rfl];go_enter Tryz.func95,Tryz.ntmps95
  go_wp2
  go_end0
  exact⟨rfl,HD4.out⟩
theorem Px{sp jp lp bp cap m C:Nat}{a:Option Addr}{xs:Nat→Ih}{s:SV}{j:JV}(on:Bool)(w:World)(h:PJ w sp jp lp bp a cap xs s m C j) :
  Calls Tryz.prog 81 #[.pointer (some ⟨jp,0,none⟩),.bool on] w fun e w'=>e=.returned (erV (mJ j on))∧aX sp jp lp bp a cap xs s s m C (gQ j on) w w':=by
 obtain⟨c0,c1,c2,c3,c4,c5,c6,c7,f4,f7⟩:=h.job.cells;have HD0:Hid (aX sp jp lp bp a cap xs s s m C j w w):=aX.refl h;have HD1:Hid (aX sp jp lp bp a cap xs s s m C (j.at 1) w (w.setCell ⟨jp,4,none⟩ (.int .i64 1))):=aX.nY h (.inl rfl);have HD2:Hid (aX sp jp lp bp a cap xs s s m C (j.at 2) w (w.setCell ⟨jp,4,none⟩ (.int .i64 2))):=aX.nY h (.inr (.inl rfl));clear h c0 c1 c2 c3 c5 c6 c7 f7;unfold mJ gQ;have h9:erV 9=.iface 127 (.int .i64 9):=aT (by decide)
 cases on with
 | true =>
  rw[if_pos rfl,if_pos rfl];by_cases h1:j.stage=1
  ·rw[if_pos h1,if_pos h1,aB]
   rw[h1] at c4;go_enter Tryz.func81,Tryz.ntmps81
   go_wp2
   go_ret
   exact⟨rfl,HD2.out⟩
  ·rw[if_neg h1,if_neg h1,h9]
   have g1:(j.stage != 1)=true:=by simpa using h1
   go_enter Tryz.func81,Tryz.ntmps81
   go_wp2
   go_ret
   exact⟨rfl,HD0.out⟩
 | false =>
  rw[if_neg (show ¬(false=true) by decide),if_neg (show ¬(false=true) by decide)]
  by_cases h1:j.stage=2
  ·rw[if_pos h1,if_pos h1,aB]
   rw[h1] at c4;go_enter Tryz.func81,Tryz.ntmps81
   go_wp2
   go_ret
   exact⟨rfl,HD1.out⟩
  ·rw[if_neg h1,if_neg h1,h9]
   have g1:(j.stage != 2)=true:=by simpa using h1
   go_enter Tryz.func81,Tryz.ntmps81
   go_wp2
   go_ret
   exact⟨rfl,HD0.out⟩
theorem Nu{sp jp lp bp cap m C:Nat}{a:Option Addr}{xs:Nat→Ih}{s:SV}{j:JV}(n:Int)(w:World)(h:PJ w sp jp lp bp a cap xs s m C j) :
  Calls Tryz.prog 91 #[.pointer (some ⟨jp,0,none⟩),.int .i64 n] w fun e w'=>e=.returned (erV (if S4.inB n 100000=true then 0 else 1))∧aX sp jp lp bp a cap xs s s m C (gG j n) w w':=by
 obtain⟨c0,c1,c2,c3,c4,c5,c6,c7,f4,f7⟩:=h.job.cells;unfold gG
 cases hn:S4.inB n 100000 with
 | false =>
  have HD0:Hid (aX sp jp lp bp a cap xs s s m C j w w):=aX.refl h;have HT:=ah (S4.S9 (p:=bp) n w hn);rw[if_neg (by decide),if_neg (by decide),dM]
  clear h c0 c1 c2 c3 c4 c5 c7 f4 f7;go_enter Tryz.func91,Tryz.ntmps91
  go_wp2_with fail
  refine HT.out.mono ?_;rintro e w' ⟨rfl,hw⟩;have hw':=hw.symm;subst hw';clear hw;go_wp2
  go_ret
  exact⟨rfl,HD0.out⟩
 | true =>
  have hn0:0≤n:=by unfold S4.inB at hn;simp at hn;omega
  have hlv:=h.ok.lv;have hin:=S4.Gl (r:=j.rate) (b:=j.burst) (l:=j.lv) (n:=n) h.ok.rate.1 h.ok.lv.1 (by omega) hn0
  have HT:=ah (S4.Tc n w h.job.bkt hn h.ok.rate ⟨h.ok.lv.1,by omega⟩)
  have HPU:Hid (∀ w':World,S4.Three 245 w' bp j.rate j.burst (S4.nJ j.rate j.burst j.lv n)→S4.Kept (fun k=>k=bp) w w'→aX sp jp lp bp a cap xs s s m C { j with lv:=S4.nJ j.rate j.burst j.lv n } w w'):=fun w' h1 hk=>⟨xs,(h.rV h1 hk hin).1,(h.rV h1 hk hin).2⟩
  rw[if_pos rfl,if_pos rfl,aB];clear h c0 c1 c2 c3 c4 c5 c7 f4 f7 hin hlv hn0;go_enter Tryz.func91,Tryz.ntmps91
  go_wp2_with fail
  refine HT.out.mono ?_;rintro e w' ⟨rfl,h1,h2⟩;have HD:=ah (HPU.out w' h1 h2);clear h1 h2;go_wp2
  go_ret
  exact⟨rfl,HD.out⟩
theorem JY{sp jp lp bp cap m C:Nat}{a:Option Addr}{xs:Nat→Ih}{s:SV}{j:JV}(c:Int)(w:World)(h:PJ w sp jp lp bp a cap xs s m C j) :
  Calls Tryz.prog 88 #[.pointer (some ⟨jp,0,none⟩),.int .i64 c] w fun e w'=>e=.returned (.tuple #[])∧aX sp jp lp bp a cap xs s s m C (dD j c) w w':=by
 obtain⟨c0,c1,c2,c3,c4,c5,c6,c7,f4,f7⟩:=h.job.cells;have HD0:Hid (aX sp jp lp bp a cap xs s s m C j w w):=aX.refl h;have HGO:=ah (zl w h.job);have HPT:=ah (S4.xU c true w h.job.set h.ok.set);have HPU:Hid (∀ w':World,S4.fU w' lp j.n (S4.eP j.n j.x c true)→S4.Kept (fun k=>k=lp) w w'→aX sp jp lp bp a cap xs s s m C (j.put (S4.eP j.n j.x c true)) w w'):=fun w' h1 hk=>⟨xs,(h.zX h1 hk).1,(h.zX h1 hk).2⟩
 unfold dD;clear h c0 c1 c3 c4 c6 c7 f4 f7;generalize S4.kE j.n j.x c true=pb at HPT;by_cases hk:j.kind=2
 ·have g1:(j.kind != 2)=false:=by simpa using hk
  rw[if_pos (.inl hk)];clear HGO HPT HPU;go_enter Tryz.func88,Tryz.ntmps88
  go_wp2
  go_end0
  exact⟨rfl,HD0.out⟩
 ·have g1:(j.kind != 2)=true:=by simpa using hk
  by_cases h4:4≤j.stage
  ·rw[if_pos (.inr h4)]
   rw[decide_eq_false (show ¬j.stage<4 by omega)] at HGO
   clear HPT HPU;go_enter Tryz.func88,Tryz.ntmps88
   go_wp2_with fail
   refine HGO.out.mono ?_;rintro e w' ⟨rfl,hw⟩;have hw':=hw.symm;subst hw';clear hw;go_wp2
   go_end0
   exact⟨rfl,HD0.out⟩
  ·rw[if_neg (by rintro(e|e);exact hk e;exact h4 e)]
   rw[decide_eq_true (show j.stage<4 by omega)] at HGO
   go_enter Tryz.func88,Tryz.ntmps88
   go_wp2_with fail
   refine HGO.out.mono ?_;rintro e w' ⟨rfl,hw⟩;have hw':=hw.symm;subst hw';clear hw;go_wp2_with fail
   refine HPT.out.mono ?_;rintro e w' ⟨rfl,h1,h2⟩;have HD:=ah (HPU.out w' h1 h2);clear h1 h2;go_wp2
   go_end0
   exact⟨rfl,HD.out⟩
theorem aX.more{w w':World}{sp jp lp bp cap m m' C:Nat}{a:Option Addr}{xs:Nat→Ih}{s z:SV}{j:JV}(h:aX sp jp lp bp a cap xs s z m C j w w')(hm:m≤m'):aX sp jp lp bp a cap xs s z m' C j w w':=by
 obtain⟨xs',h1,h2⟩:=h;exact⟨xs',h1.more hm,h2⟩
theorem PJ.uO{w w1 w':World}{sp jp lp bp cap m m' C:Nat}{a:Option Addr}{xs:Nat→Ih}{s:SV}{j:JV}{R:SV × Int}{e:Ending}(h:PJ w sp jp lp bp a cap xs s m C j)(hb:Below w.heap.size w w1)(hd:bD w1 sp xs s m' R e w')(hz:s.alike R.1):e=.returned (erV R.2)∧aX sp jp lp bp a cap xs s R.1 m' C j w w':=by
 obtain⟨xs',h1,h2,h3⟩:=hd;obtain⟨h4,h5⟩:=(h.below hb).oU h2 h3 hz;exact⟨h1,xs',h4,(Moved.of_below hb).trans h5⟩
theorem PJ.reads{w:World}{sp jp lp bp cap m C:Nat}{a:Option Addr}{xs:Nat→Ih}{s:SV}{j:JV}(h:PJ w sp jp lp bp a cap xs s m C j):∃(g o:Nat) (n:Int) (r:List Int) (v:IV),a=some ⟨g,o,none⟩∧j.l=n::r∧s.file n=some v∧v.h.c=C ∧
  ∀ W:World,Below w.heap.size w W→W.cell? ⟨jp,0,none⟩=some (.pointer (some ⟨sp,6,none⟩))∧W.cell? ⟨jp,1,none⟩=some (.slice a j.l.length cap)∧W.cell? ⟨jp,2,none⟩=some (.int .i64 j.kind)∧W.cell? ⟨jp,3,none⟩=some (.int .i64 j.file)∧W.cell? ⟨g,o,none⟩=some (.int .i64 n):=by
 obtain⟨n,r,v,h1,h2,h3⟩:=h.ok.root;obtain⟨g,o,e1,e2⟩:=h.nums 0 (by rw[h1];simp)
 refine⟨g,o,n,r,v,e1,h1,h2,h3,fun W hb=>?_⟩
 obtain⟨c0,c1,c2,c3,_⟩:=(h.below hb).job.cells;refine⟨c0,c1,c2,c3,?_⟩;rw[h1,Nat.add_zero] at e2;exact(hb.cell (p:=⟨g,o,none⟩) (World.block_lt_of_cell? _ _ e2)).trans e2
theorem DJ{sp jp lp bp cap m C:Nat}{a:Option Addr}{xs:Nat→Ih}{s:SV}{j:JV}(k:Nat)(w:World)(h:PJ w sp jp lp bp a cap xs s m C j)(hk:k<C)(hm:m+10<1000000000) :
    Calls Tryz.prog 195 #[.pointer (some ⟨jp,0,none⟩),.int .i64 (k:Int)] w fun e w'=>e=.returned (erV (j.moved s (k:Int)).2)∧aX sp jp lp bp a cap xs s (j.moved s (k:Int)).1 (m+10) C j w w':=by
  obtain⟨v,hv⟩:=h.ok.into;obtain⟨r1,r2⟩:=h.ok.read h.shelf.ok hk
  have HRD:Hid (∀ W:World,Below w.heap.size w W→Calls Tryz.prog 57 #[.pointer (some ⟨sp,6,none⟩),.slice a j.l.length cap,.int .i64 (k:Int)] W fun e w'=>e=.returned (.tuple #[.string (s.read j.l (k:Int)).1,.nilIface])∧Below W.heap.size W w'):=fun W hb=>by
    have:=yP (cap:=cap) j.l (k:Int) W (h.shelf.below hb) (h.nums.below hb) h.ok.good (by have:=h.ok.len;omega)
    rw[r1,aB] at this;exact this
  have HMV:Hid (∀ W:World,Below w.heap.size w W→Calls Tryz.prog 75 #[.pointer (some ⟨sp,6,none⟩),.int .i64 j.into,.int .i64 (k:Int),.string (s.read j.l (k:Int)).1] W fun e w'=>e=.returned (erV (j.moved s (k:Int)).2)∧aX sp jp lp bp a cap xs s (j.moved s (k:Int)).1 (m+10) C j w w'):=fun W hb =>
    (Ja j.into (k:Int) _ W (h.shelf.below hb) hv r2 hm).mono fun e w' hd=>h.uO hb hd (SV.alike.move _ _ _ _)
  obtain⟨g,o,n,r,v',ha,hl,_,_,hre⟩:=h.reads;have HRE:=ah hre;have HIN:Hid (j.into=if j.kind=2 then n else j.file):=by unfold Hid JV.into;rw[hl];rfl
  have hln:0<j.l.length:=by rw[hl];simp
  have hlen:(0:Int)<(j.l.length:Int):=by omega
  subst ha;clear h hv r1 r2 hre hl;generalize (s.read j.l (k:Int)).1=T at HRD HMV;generalize j.moved s (k:Int)=R at HMV ⊢;generalize j.into=into at HMV HIN;generalize j.l.length=ln at HRD HRE hlen hln;obtain⟨c0,c1,c2,c3,c4⟩:=HRE.out w (Below.refl _ _);have d0:w.drew.cell? ⟨jp,0,none⟩=some (.pointer (some ⟨sp,6,none⟩)):=c0;have d1:w.drew.cell? ⟨jp,1,none⟩=some (.slice (some ⟨g,o,none⟩) ln cap):=c1;have HBD:Hid (Below w.heap.size w w.drew):=(Below.refl _ _).drew;by_cases h2:j.kind=2
  · have g1:(j.kind==2)=true:=by simpa using h2
    have HI2:Hid (into=n):=by unfold Hid;rw[HIN.out,if_pos h2]
    rw[HI2.out] at HMV;clear HIN h2 HI2;generalize j.kind=kd at g1 c2 HRE;generalize j.file=fl at c3 HRE;go_enter Tryz.func195,Tryz.ntmps195
    go_wp2
    go_region_held3 (fun W=>W.cell? ⟨jp,0,none⟩=some (.pointer (some ⟨sp,6,none⟩))∧W.cell? ⟨jp,1,none⟩=some (.slice (some ⟨g,o,none⟩) ln cap))
      (first|(exact⟨d0,d1⟩)|assumption)
      (first
        | (go_at_call 57;refine(HRD.out _ HBD.out).mono ?_;rintro e w1 ⟨rfl,hb1⟩;have HB1:=ah (HBD.out.trans (hb1.mono HBD.out.size));have hS1:w1.cell? ⟨jp,0,none⟩=some (.pointer (some ⟨sp,6,none⟩))∧w1.cell? ⟨jp,1,none⟩=some (.slice (some ⟨g,o,none⟩) ln cap):=⟨(HRE.out _ HB1.out).1,(HRE.out _ HB1.out).2.1⟩;clear hb1))
    obtain⟨q0,q1,q2,q3,q4⟩:=HRE.out w1 HB1.out;clear hS1;go_wp2_with fail
    refine(HMV.out _ HB1.out).mono ?_;rintro e w2 ⟨rfl,hd⟩;have HD:=ah hd;clear hd;go_wp2
    go_ret
    exact⟨rfl,HD.out⟩
  · have g1:(j.kind==2)=false:=by simpa using h2
    have HI2:Hid (into=j.file):=by unfold Hid;rw[HIN.out,if_neg h2]
    rw[HI2.out] at HMV;clear HIN h2 HI2;generalize j.kind=kd at g1 c2 HRE;generalize j.file=fl at c3 HRE HMV;go_enter Tryz.func195,Tryz.ntmps195
    go_wp2
    go_region_held3 (fun W=>W.cell? ⟨jp,0,none⟩=some (.pointer (some ⟨sp,6,none⟩))∧W.cell? ⟨jp,1,none⟩=some (.slice (some ⟨g,o,none⟩) ln cap))
      (first|(exact⟨d0,d1⟩)|assumption)
      (first
        | (go_at_call 57;refine(HRD.out _ HBD.out).mono ?_;rintro e w1 ⟨rfl,hb1⟩;have HB1:=ah (HBD.out.trans (hb1.mono HBD.out.size));have hS1:w1.cell? ⟨jp,0,none⟩=some (.pointer (some ⟨sp,6,none⟩))∧w1.cell? ⟨jp,1,none⟩=some (.slice (some ⟨g,o,none⟩) ln cap):=⟨(HRE.out _ HB1.out).1,(HRE.out _ HB1.out).2.1⟩;clear hb1))
    obtain⟨q0,q1,q2,q3,q4⟩:=HRE.out w1 HB1.out;clear hS1;go_wp2_with fail
    refine(HMV.out _ HB1.out).mono ?_;rintro e w2 ⟨rfl,hd⟩;have HD:=ah hd;clear hd;go_wp2
    go_ret
    exact⟨rfl,HD.out⟩
theorem Nb{sp jp lp bp cap m C:Nat}{a:Option Addr}{xs:Nat→Ih}{s:SV}{j:JV}(w:World)(h:PJ w sp jp lp bp a cap xs s m C j)(hm:m+10<1000000000) :
    Calls Tryz.prog 207 #[.pointer (some ⟨jp,0,none⟩)] w fun e w'=>e=.returned (erV (bI s (j.l.headD 0) j.file).2)∧aX sp jp lp bp a cap xs s (bI s (j.l.headD 0) j.file).1 (m+10) C j w w':=by
  obtain⟨g,o,n,r,v,ha,hl,hv,_,hre⟩:=h.reads;have hhd:j.l.headD 0=n:=by rw[hl];rfl
  rw[hhd]
  have HFI:Hid (∀ W:World,Below w.heap.size w W→Calls Tryz.prog 68 #[.pointer (some ⟨sp,6,none⟩),.int .i64 n] W fun e w'=>e=.returned (.pointer (some ⟨(xs n.toNat).p,0,none⟩))∧w'=W):=fun W hb=>by
    have:=qG n W (h.shelf.below hb)
    rw[hv] at this;exact this
  have HLK:Hid (∀ W:World,Below w.heap.size w W→Calls Tryz.prog 257 #[.pointer (some ⟨(xs n.toNat).p,0,none⟩),.int .i64 j.file] W fun e w'=>e=.returned (erV (bI s n j.file).2)∧aX sp jp lp bp a cap xs s (bI s n j.file).1 (m+10) C j w w'):=fun W hb =>
    (NP j.file W (h.shelf.below hb) hv hm).mono fun e w' hd=>h.uO hb hd (SV.alike.link _ _ _)
  have HRE:=ah hre;have hln:0<j.l.length:=by rw[hl];simp
  have hlen:(0:Int)<(j.l.length:Int):=by omega
  subst ha;clear h hre hl hv hhd;generalize bI s n j.file=R at HLK ⊢;generalize (xs n.toNat).p=xp at HFI HLK;generalize j.l.length=ln at HRE hlen hln;generalize j.kind=kd at HRE;generalize j.file=fl at HRE HLK;obtain⟨c0,c1,c2,c3,c4⟩:=HRE.out w (Below.refl _ _);have d0:w.drew.cell? ⟨jp,0,none⟩=some (.pointer (some ⟨sp,6,none⟩)):=c0;have d1:w.drew.cell? ⟨jp,1,none⟩=some (.slice (some ⟨g,o,none⟩) ln cap):=c1;have d3:w.drew.cell? ⟨jp,3,none⟩=some (.int .i64 fl):=c3;have d4:w.drew.cell? ⟨g,o,none⟩=some (.int .i64 n):=c4;have HBD:Hid (Below w.heap.size w w.drew):=(Below.refl _ _).drew;go_enter Tryz.func207,Tryz.ntmps207
  go_wp2
  go_region_held3 (fun W=>W.cell? ⟨jp,0,none⟩=some (.pointer (some ⟨sp,6,none⟩))∧W.cell? ⟨jp,1,none⟩=some (.slice (some ⟨g,o,none⟩) ln cap)∧W.cell? ⟨g,o,none⟩=some (.int .i64 n))
    (first|(exact⟨d0,d1,d4⟩)|assumption)
    (first
      | (go_at_call 68;refine(HFI.out _ HBD.out).mono ?_;rintro e w' ⟨rfl,rfl⟩))
  go_wp2_with fail
  refine(HLK.out _ HBD.out).mono ?_;rintro e w2 ⟨rfl,hd⟩;have HD:=ah hd;clear hd;go_wp2
  go_ret
  exact⟨rfl,HD.out⟩
theorem SV.TG{s:SV}{rc:Int}:∀(k:Nat) (l:List Int) (n:Int),(s.iI rc k l n).2≠0→(s.iI rc k l n).1=[]:=by
 intro k
 induction k with
 | zero=>intro l n _;rfl
 | succ k ih =>
  intro l n h;by_cases hn:n = -1
  ·subst hn;rw[SV.sG] at h;exact absurd rfl h
  ·cases hf:s.file n with
   | none=>rw[SV.vF hn hf]
   | some v =>
    by_cases h5:l.length=5
    ·rw[SV.vw hn hf h5]
    ·by_cases hc:v.h.c=rc
     ·rw[SV.sJ hn hf h5 hc] at h ⊢;exact ih _ _ h
     ·rw[SV.walk_other hn hf h5 hc]
structure Fl(w:World)(sp jp lp bp:Nat)(a:Option Addr)(cap:Nat)(xs:Nat→Ih)(s:SV)(m C:Nat)(j:JV)(b:Option Addr)(l:List Int)(z:SV)(wr:World)(ys:Nat→Ih):Prop where
 p:PJ wr sp jp lp bp a cap ys z m C j
 m:Moved (fpP xs s jp lp bp) w (fpP ys z jp lp bp) wr
 n:Nums wr b l
 ap:Apart b (fpP ys z jp lp bp)
theorem Aw{l:List Int}{k:Nat}(h:k<l.length):l.take (k+1)=l.take k++[l.getD k 0]:=by
 rw[List.take_add_one,List.getElem?_eq_getElem h,List.getD_eq_getElem?_getD,List.getElem?_eq_getElem h];rfl
structure Fls(s:SV)(l:List Int)(F:Nat→SV):Prop where
 zero:F 0=s
 next:∀ k,k<l.length→F (k+1)=(F k).cZ (l.getD k 0)
 all:F l.length=s.bQ l
 alike:∀ k,s.alike (F k)
theorem fls(s:SV)(l:List Int):∃ F,Fls s l F :=
 ⟨fun k=>s.bQ (l.take k),rfl,fun k hk=>by show s.bQ (l.take (k+1))=_;rw[Aw hk,SV.y8],by show s.bQ (l.take l.length)=_;rw[List.take_length],fun k=>SV.alike.bQ _ s⟩
theorem Na{sp jp lp bp cap m C:Nat}{a:Option Addr}{xs:Nat→Ih}{s:SV}{j:JV}(w:World)(h:PJ w sp jp lp bp a cap xs s m C j) :
    Calls Tryz.prog 206 #[.pointer (some ⟨jp,0,none⟩)] w fun e w'=>e=.returned (erV (s.walk j.file).2)∧aX sp jp lp bp a cap xs s (s.bQ (s.walk j.file).1) m C j w w':=by
  have HP:=ah h;obtain⟨c0,c1,c2,c3,_⟩:=h.job.cells;have d0:w.drew.cell? ⟨jp,0,none⟩=some (.pointer (some ⟨sp,6,none⟩)):=c0;have d3:w.drew.cell? ⟨jp,3,none⟩=some (.int .i64 j.file):=c3;have HBD:Hid (Below w.heap.size w w.drew):=(Below.refl _ _).drew
  have HC:Hid (∀ W:World,Below w.heap.size w W→W.cell? ⟨jp,0,none⟩=some (.pointer (some ⟨sp,6,none⟩))∧W.cell? ⟨jp,3,none⟩=some (.int .i64 j.file)):=fun W hb=>by
    obtain⟨c0,c1,c2,c3,_⟩:=(h.below hb).job.cells;exact⟨c0,c3⟩
  have HWK:=ah (tN j.file w.drew (h.shelf.below HBD.out));obtain⟨hg,hl5,hf0,_⟩:=s.walk_good j.file;have HG:=ah hg;have HBAD:Hid ((s.walk j.file).2≠0→(s.walk j.file).1=[]):=SV.TG _ _ _;generalize s.fQ j.file=rc at HG;generalize s.walk j.file=R at HWK HG HBAD hl5 hf0 ⊢;obtain⟨l,f⟩:=R;simp only at HWK HG HBAD hl5 hf0 ⊢;obtain⟨F,hF⟩:=fls s l;have HFS:=ah hF;have HFN:Hid (f≠0→s.bQ l=s):=fun e=>by rw[HBAD.out e];rfl
  rw[← hF.all] at HFN ⊢;clear hF;generalize j.file=fl at c3 d3 HC HWK;clear h hg c1 c2;by_cases hf:f=0
  · subst hf
    rw[aB] at HWK ⊢;generalize hln:l.length=ln at HWK hl5 ⊢;clear HBAD HFN hf0;go_enter Tryz.func206,Tryz.ntmps206
    go_wp2
    go_region_held3 (fun W=>W.cell? ⟨jp,0,none⟩=some (.pointer (some ⟨sp,6,none⟩))∧W.cell? ⟨jp,3,none⟩=some (.int .i64 fl))
      (first|(exact⟨d0,d3⟩)|assumption)
      (first
        | (go_at_call 15;refine HWK.out.mono ?_;rintro e w1 ⟨b,bc,rfl,hn1,ha1,hb1⟩;have HB1:=ah (HBD.out.trans (hb1.mono HBD.out.size));have hS1:=HC.out _ HB1.out))
    have HF0:Hid (Fl w sp jp lp bp a cap xs s m C j b l (F 0) w1 xs):=by
      unfold Hid;rw[HFS.out.zero]
      exact⟨HP.out.below HB1.out,Moved.of_below HB1.out,hn1,fun g o e hf=>by
        have h1:=HP.out.jJ hf;have h2:=(ha1 g o e).1;have h3:w.heap.size≤g:=h2
        omega⟩
    clear hn1 ha1 hb1 hS1 HWK d0 d3 HP HC HB1 HBD c0 c3;go_wp2
    go_loopw [24] (fun i wr=>∃(k:Nat) (ys:Nat→Ih),k≤ln∧i=.int .i64 (k:Int)∧Fl w sp jp lp bp a cap xs s m C j b l (F k) wr ys) (fun i _=>ln-(intOf i).toNat)
    case atStart=>exact⟨0,xs,Nat.zero_le _,rfl,HF0.out⟩
    case round =>
      clear HF0;obtain⟨k,ys,hk,rfl,hF⟩:=hrel;have HF:=ah hF;by_cases hlt:k<ln
      · have hkl:k<l.length:=by omega
        obtain⟨g,o,hb,hcn⟩:=hF.n k hkl;subst hb;obtain⟨v0,hv0,_⟩:=HG.out (l.getD k 0) (by rw[List.getD_eq_getElem?_getD,List.getElem?_eq_getElem hkl];exact List.getElem_mem hkl)
        obtain⟨v,hv,_⟩:=(HFS.out.alike k).head _ _ hv0;have hcell:=hF.p.shelf.oW hv;obtain⟨n0,n5,_⟩:=SV.dJ hv;have HFL:=ah (Df wr hF.p.shelf hv);have HNX:Hid (F (k+1)=(F k).cZ (l.getD k 0)):=HFS.out.next k hkl;obtain⟨e0,_⟩:=hF.p.job.cells;have HAL:Hid ((F k).alike ((F k).cZ (l.getD k 0))):=SV.alike.cZ _ _;generalize l.getD k 0=n at hcn hcell HFL HNX n0 n5 HAL;obtain⟨nk,rfl⟩:∃ nk:Nat,n=(nk:Int):=⟨n.toNat,by omega⟩
        have hnk:((nk:Int)).toNat=nk:=by omega
        rw[hnk] at hcell HFL;generalize (ys nk).p=xp at hcell HFL;have k0:(0:Int)≤(k:Int):=by omega
        have k1:(k:Int)<(ln:Int):=by omega
        have k2:decide ((k:Int)<(ln:Int))=true:=decide_eq_true k1;have k3:(nk:Int)<5:=by omega
        clear hF hv hv0 hkl;go_wp2_with fail
        refine HFL.out.mono ?_;rintro e w2 ⟨rfl,zs,h1,h2⟩
        have HN2:Hid (Fl w sp jp lp bp a cap xs s m C j (some ⟨g,o,none⟩) l (F (k+1)) w2 zs):=by
          obtain⟨h3,h4⟩:=HF.out.p.oU h1 h2 HAL.out;have hne:l≠[]:=by intro e;subst e;simp at hln;omega
          refine⟨by rw[HNX.out];exact h3,by rw[HNX.out];exact HF.out.m.trans h4,HF.out.n.moved h4 HF.out.ap,by rw[HNX.out];exact HF.out.ap.moved HF.out.n hne h4⟩
        clear h1 h2 HFL HNX HAL HF;go_wp2
        go_roundw
        case rel =>
          have fin:∃(k1:Nat) (ys:Nat→Ih),k1≤ln∧Value.int .i64 ((k:Int)+1)=.int .i64 (k1:Int)∧Fl w sp jp lp bp a cap xs s m C j (some ⟨g,o,none⟩) l (F k1) w2 ys:=⟨k+1,zs,by omega,by go_num,HN2.out⟩
          first|exact fin|((repeat apply Exists.intro);exact⟨fin,rfl⟩)
        case measure=>simp[intOf];omega
      · have hke:k=l.length:=by omega
        have HD:Hid (aX sp jp lp bp a cap xs s (F ln) m C j w wr):=by
          have h1:=hF.p;have h2:=hF.m;rw[hke,hln] at h1 h2;exact⟨ys,h1,h2⟩
        have k2:decide ((k:Int)<(ln:Int))=false:=decide_eq_false (by omega)
        clear hF HF;go_wp2
        go_ret
        exact⟨rfl,HD.out⟩
  · have HD0:Hid (∀ W:World,Below w.heap.size w W→aX sp jp lp bp a cap xs s (F l.length) m C j w W):=fun W hb=>by
      rw[HFN.out hf];exact aX.below HP.out hb
    rw[aT hf] at HWK ⊢;generalize F l.length=z at HD0 ⊢;generalize l.length=ln at HWK;clear HP HFS HG HBAD HFN hl5;go_enter Tryz.func206,Tryz.ntmps206
    go_wp2
    go_region_held3 (fun W=>W.cell? ⟨jp,0,none⟩=some (.pointer (some ⟨sp,6,none⟩))∧W.cell? ⟨jp,3,none⟩=some (.int .i64 fl))
      (first|(exact⟨d0,d3⟩)|assumption)
      (first
        | (go_at_call 15;refine HWK.out.mono ?_;rintro e w1 ⟨b,bc,rfl,hn1,ha1,hb1⟩;have HB1:=ah (HBD.out.trans (hb1.mono HBD.out.size));have hS1:=HC.out _ HB1.out))
    have HD:=ah (HD0.out _ HB1.out);clear hn1 ha1 hb1 hS1 HWK;go_wp2
    go_ret
    exact⟨rfl,HD.out⟩
theorem Nh{sp jp lp bp cap m C:Nat}{a:Option Addr}{xs:Nat→Ih}{s:SV}{j:JV}(w:World)(h:PJ w sp jp lp bp a cap xs s m C j)(hm:m+10<1000000000) :
  Calls Tryz.prog 93 #[.pointer (some ⟨jp,0,none⟩)] w fun e w'=>e=.returned (erV (dH s j))∧aX sp jp lp bp a cap xs s (aF s j) (m+10) C (aK s j) w w':=by
 have HST:=ah (FV w h.job h.ok.set);have HFL:=ah (Na w h);have HLK:=ah (Nb w h hm);have HEN:Hid (∀(W:World) (z:SV),aX sp jp lp bp a cap xs s z (m+10) C j w W→Calls Tryz.prog 95 #[.pointer (some ⟨jp,0,none⟩),.bool false] W fun e w'=>e=.returned (.tuple #[])∧aX sp jp lp bp a cap xs s z (m+10) C (j.at 5) w w'):=fun W z ⟨ys,h1,h2⟩=>(yT false W h1).mono fun e w' ⟨h3,h4⟩=>⟨h3,aX.after h2 h4⟩
 have HD0:Hid (aX sp jp lp bp a cap xs s s (m+10) C j w w):=(aX.refl h).more (by omega)
 obtain⟨c0,c1,c2,c3,_⟩:=h.job.cells;have hP:=h;clear h;unfold dH aF aK;by_cases h3:j.state=3
 ·rw[h3] at HST
  by_cases h2:j.kind=2
  ·have g2:(j.kind != 2)=false:=by simpa using h2
   rw[if_pos h3,if_pos h3,if_pos h2,if_pos h2];generalize hR:bI s (j.l.headD 0) j.file=R at HLK ⊢;by_cases hf:R.2=0
   ·rw[if_neg (fun e=>e.2.2 hf)]
    rw[hf,aB] at HLK;rw[hf,aB];clear HFL HEN h3 h2 hP hR;go_enter Tryz.func93,Tryz.ntmps93
    go_wp2_with fail
    refine HST.out.mono ?_;rintro e w' ⟨rfl,hw⟩;have hw':=hw.symm;subst hw';clear hw;go_wp2_with fail
    refine HLK.out.mono ?_;rintro e w1 ⟨rfl,hd⟩;have HD:=ah hd;clear hd HLK;go_wp2
    go_ret
    exact⟨rfl,HD.out⟩
   ·rw[if_pos ⟨h3,h2,hf⟩]
    rw[aT hf] at HLK ⊢;clear HFL h3 h2 hP hR;go_enter Tryz.func93,Tryz.ntmps93
    go_wp2_with fail
    refine HST.out.mono ?_;rintro e w' ⟨rfl,hw⟩;have hw':=hw.symm;subst hw';clear hw;go_wp2_with fail
    refine HLK.out.mono ?_;rintro e w1 ⟨rfl,hd⟩;have HE:=ah (HEN.out _ _ hd);clear hd HLK HEN;go_wp2_with fail
    refine HE.out.mono ?_;rintro e w2 ⟨rfl,hd⟩;have HD:=ah hd;clear hd HE;go_wp2
    go_ret
    exact⟨rfl,HD.out⟩
  ·have g2:(j.kind != 2)=true:=by simpa using h2
   rw[if_pos h3,if_pos h3,if_neg h2,if_neg h2,if_neg (fun e=>h2 e.2.1)]
   generalize s.walk j.file=R at HFL ⊢;clear HLK HEN h3 h2 hP;go_enter Tryz.func93,Tryz.ntmps93
   go_wp2_with fail
   refine HST.out.mono ?_;rintro e w' ⟨rfl,hw⟩;have hw':=hw.symm;subst hw';clear hw;go_wp2_with fail
   refine HFL.out.mono ?_;rintro e w1 ⟨rfl,hd⟩;have HD:=ah (hd.more (show m≤m+10 by omega))
   clear hd HFL;go_wp2
   go_ret
   exact⟨rfl,HD.out⟩
 ·have g3:(j.state != 3)=true:=by simpa using h3
  rw[if_neg h3,if_neg h3,if_neg (fun e=>h3 e.1),aT (by decide)]
  clear HFL HLK HEN h3 hP;generalize j.state=st at HST g3;go_enter Tryz.func93,Tryz.ntmps93
  go_wp2_with fail
  refine HST.out.mono ?_;rintro e w' ⟨rfl,hw⟩;have hw':=hw.symm;subst hw';clear hw;go_wp2
  go_ret
  exact⟨rfl,HD0.out⟩
end Go.Proofs.YtonhoahnieoebabGreatDoor
