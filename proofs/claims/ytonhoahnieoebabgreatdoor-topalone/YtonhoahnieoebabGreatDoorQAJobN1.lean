/- What the small calls on a job of the program give: what is above its file, what it wants, its state, whether it goes. -/
import Derived.Test.YtonhoahnieoebabGreatDoorQAChainGets
set_option maxHeartbeats 2000000
set_option maxRecDepth 100000
namespace Go.Proofs.YtonhoahnieoebabGreatDoor
open Go.RowKit Go.Maps
attribute [local go_sem ↓] Go.wp_at_zero Go.wp_at_succ
structure JHd(w:World)(jp sp:Nat)(a:Option Addr)(cap:Nat)(j:JV):Prop where
 c0:w.cell? ⟨jp,0,none⟩=some (.pointer (some ⟨sp,6,none⟩))
 c1:w.cell? ⟨jp,1,none⟩=some (.slice a j.l.length cap)
 c2:w.cell? ⟨jp,2,none⟩=some (.int .i64 j.kind)
 c3:w.cell? ⟨jp,3,none⟩=some (.int .i64 j.file)
 cap:j.l.length≤cap
theorem gW.hd{w:World}{jp sp lp bp cap:Nat}{a:Option Addr}{j:JV}(h:gW w jp sp lp bp a cap j)(hc:j.l.length≤cap):JHd w jp sp a cap j:=by
 obtain⟨c0,c1,c2,c3,_⟩:=h.cells;exact⟨c0,c1,c2,c3,hc⟩
theorem JHd.below{w w':World}{jp sp cap:Nat}{a:Option Addr}{j:JV}(h:JHd w jp sp a cap j)(hb:Below w.heap.size w w'):JHd w' jp sp a cap j:=by
 have hl:=World.block_lt_of_cell? _ _ h.c0;exact⟨(hb.cell (p:=⟨jp,0,none⟩) hl).trans h.c0,(hb.cell (p:=⟨jp,1,none⟩) hl).trans h.c1,(hb.cell (p:=⟨jp,2,none⟩) hl).trans h.c2,(hb.cell (p:=⟨jp,3,none⟩) hl).trans h.c3,h.cap⟩
theorem Nums.take{w:World}{a:Option Addr}{l:List Int}(h:Nums w a l)(d:Nat):Nums w a (l.take d):=fun k hk=>by
 have h1:k<d∧k<l.length:=by rw[List.length_take] at hk;omega
 obtain⟨g,o,e1,e2⟩:=h k h1.2;refine⟨g,o,e1,?_⟩;rw[e2]
 congr 2
 rw[List.getD_eq_getElem?_getD,List.getD_eq_getElem?_getD,List.getElem?_take_of_lt h1.1]
theorem MK{g o n cap:Nat}(l:List Int)(x:Int)(w:World)(h:Nums w (some ⟨g,o,none⟩) l)(hn:l.length=n)(h5:n≤100) :
  Calls Tryz.prog 255 #[.slice (some ⟨g,o,none⟩) n cap,.int .i64 x] w fun e w'=>e=.returned (.int .i64 (Lib.idxOf l x))∧w'=w:=by
 subst hn
 have:=Tryz.slices_Index_int g o l.length cap l x w (Nat.le_refl _) (by omega) (fun j hj=>by
  obtain⟨g',o',e1,e2⟩:=h j hj;cases e1
  exact e2)
 rw[List.take_length] at this;exact this
theorem yK{g o n cap:Nat}(l:List Int)(x:Int)(w:World)(h:Nums w (some ⟨g,o,none⟩) l)(hn:l.length=n)(h5:n≤100) :
  Calls Tryz.prog 199 #[.slice (some ⟨g,o,none⟩) n cap,.int .i64 x] w fun e w'=>e=.returned (.bool (l.contains x))∧w'=w:=by
 subst hn
 have:=Tryz.slices_Contains_int g o l.length cap l x w (Nat.le_refl _) (by omega) (fun j hj=>by
  obtain⟨g',o',e1,e2⟩:=h j hj;cases e1
  exact e2)
 rw[List.take_length] at this;exact this
theorem Hy{jp sp cap C:Nat}{a:Option Addr}{s:SV}{j:JV}(w:World)(hd:JHd w jp sp a cap j)(hn:Nums w a j.l)(ok:JOk s C j)(hk:j.kind≠1) :
    Calls Tryz.prog 252 #[.pointer (some ⟨jp,0,none⟩)] w fun e w'=>e=.returned (.slice a j.above.length cap)∧Below w.heap.size w w':=by
  obtain⟨c0,c1,c2,c3,hcap⟩:=hd;obtain⟨g,o,rfl,_⟩:=hn 0 (by have:=ok.ne;exact List.length_pos_iff.2 this)
  have HIX:Hid (∀ W:World,Below w.heap.size w W→Calls Tryz.prog 255 #[.slice (some ⟨g,o,none⟩) j.l.length cap,.int .i64 j.file] W fun e w'=>e=.returned (.int .i64 (Lib.idxOf j.l j.file))∧w'=W):=fun W hb=>MK j.l j.file W (hn.below hb) rfl (by have:=ok.len;omega)
  have hl5:=ok.len;have hab:j.above.length=j.deep:=by unfold JV.above;rw[List.length_take];have:=ok.deep;omega
  have hix:=ok.idx hk;rw[hab];have HBD:Hid (Below w.heap.size w w.drew):=(Below.refl _ _).drew;have d1:w.drew.cell? ⟨jp,1,none⟩=some (.slice (some ⟨g,o,none⟩) j.l.length cap):=c1;have d3:w.drew.cell? ⟨jp,3,none⟩=some (.int .i64 j.file):=c3;generalize j.file=fl at HIX c3 d3 hix;generalize Lib.idxOf j.l fl=ix at HIX hix;generalize j.l.length=n at HIX c1 d1 hl5 hix hcap;generalize j.deep=dp at hix ⊢;clear ok hk hab c0 c2 hn;rcases hix with⟨h1,h2⟩|⟨h1,h2⟩
  · subst h1
    have q0:(0:Int)≤(dp:Int):=by omega
    have q1:(dp:Int)≤(n:Int):=by omega
    have q3:dp≤cap:=by omega
    have q2:decide ((0:Int)≤(dp:Int))=true:=decide_eq_true q0;go_enter Tryz.func252,Tryz.ntmps252
    go_wp2
    go_region_held3 (fun W=>W.cell? ⟨jp,1,none⟩=some (.slice (some ⟨g,o,none⟩) n cap)∧W.cell? ⟨jp,3,none⟩=some (.int .i64 fl))
      (first|(exact⟨d1,d3⟩)|assumption)
      (first
        | (go_at_call 255;refine(HIX.out _ HBD.out).mono ?_;rintro e w' ⟨rfl,rfl⟩))
    go_wp2
    go_ret
    exact⟨rfl,HBD.out⟩
  · subst h1
    subst h2;have q2:decide ((0:Int) ≤ -1)=false:=by decide
    go_enter Tryz.func252,Tryz.ntmps252
    go_wp2
    go_region_held3 (fun W=>W.cell? ⟨jp,1,none⟩=some (.slice (some ⟨g,o,none⟩) dp cap)∧W.cell? ⟨jp,3,none⟩=some (.int .i64 fl))
      (first|(exact⟨d1,d3⟩)|assumption)
      (first
        | (go_at_call 255;refine(HIX.out _ HBD.out).mono ?_;rintro e w' ⟨rfl,rfl⟩))
    go_wp2
    go_ret
    exact⟨rfl,HBD.out⟩
theorem yj{jp sp cap C m:Nat}{a:Option Addr}{xs:Nat→Ih}{s:SV}{j:JV}(c:Int)(w:World)(hd:JHd w jp sp a cap j)(hs:aV w sp xs s m)(hn:Nums w a j.l)(ok:JOk s C j) :
    Calls Tryz.prog 194 #[.pointer (some ⟨jp,0,none⟩),.int .i64 c] w fun e w'=>e=.returned (.bool (j.eY s c))∧Below w.heap.size w w':=by
  have HAB:Hid (j.kind≠1→∀ W:World,Below w.heap.size w W→Calls Tryz.prog 252 #[.pointer (some ⟨jp,0,none⟩)] W fun e w'=>e=.returned (.slice a j.above.length cap)∧Below W.heap.size W w'):=fun hk W hb=>Hy W (hd.below hb) (hn.below hb) ok hk
  have HFD:Hid (∀ W:World,Below w.heap.size w W→Calls Tryz.prog 78 #[.pointer (some ⟨sp,6,none⟩),.slice a j.above.length cap,.int .i64 c] W fun e w'=>e=.returned (.int .i64 (s.found j.above c))∧Below W.heap.size W w'):=fun W hb=>Dh j.above c W (hs.below hb) ((hn.below hb).take _) (by
    show(j.l.take j.deep).length≤100
    rw[List.length_take];have:=ok.len;omega)
  have hkd:=ok.kind;obtain⟨c0,c1,c2,c3,hcap⟩:=hd;have hjl:=World.block_lt_of_cell? _ _ c0;have d0:w.drew.cell? ⟨jp,0,none⟩=some (.pointer (some ⟨sp,6,none⟩)):=c0;have HBD:Hid (Below w.heap.size w w.drew):=(Below.refl _ _).drew;have HC0:Hid (∀ W:World,Below w.heap.size w W→W.cell? ⟨jp,0,none⟩=some (.pointer (some ⟨sp,6,none⟩))):=fun W hb=>(hb.cell (p:=⟨jp,0,none⟩) hjl).trans c0
  clear hs hn ok c1 c3 hcap;unfold JV.eY;generalize j.above.length=al at HAB HFD;generalize s.found j.above c=fo at HFD ⊢;generalize j.kind=kd at HAB hkd c2 ⊢;rcases hkd with rfl|rfl|rfl
  · clear HAB HFD
    go_enter Tryz.func194,Tryz.ntmps194
    go_wp2
    go_ret
    exact⟨rfl,Below.refl _ _⟩
  · have HA:=ah (HAB.out (by decide))
    clear HAB;go_enter Tryz.func194,Tryz.ntmps194
    go_wp2
    go_region_held3 (fun W=>W.cell? ⟨jp,0,none⟩=some (.pointer (some ⟨sp,6,none⟩)))
      (first|(exact d0)|assumption)
      (first
        | (go_at_call 252;refine(HA.out _ HBD.out).mono ?_;rintro e w1 ⟨rfl,hb1⟩;have HB1:=ah (HBD.out.trans (hb1.mono HBD.out.size));have e1:=HC0.out _ HB1.out;clear hb1)
        | (go_at_call 78;refine(HFD.out _ HB1.out).mono ?_;rintro e w2 ⟨rfl,hb2⟩;have HB2:=ah (HB1.out.trans (hb2.mono HB1.out.size));have e2:=HC0.out _ HB2.out;clear hb2))
    go_wp2
    go_ret
    exact⟨rfl,HB2.out⟩
  · have HA:=ah (HAB.out (by decide))
    clear HAB;go_enter Tryz.func194,Tryz.ntmps194
    go_wp2
    go_region_held3 (fun W=>W.cell? ⟨jp,0,none⟩=some (.pointer (some ⟨sp,6,none⟩)))
      (first|(exact d0)|assumption)
      (first
        | (go_at_call 252;refine(HA.out _ HBD.out).mono ?_;rintro e w1 ⟨rfl,hb1⟩;have HB1:=ah (HBD.out.trans (hb1.mono HBD.out.size));have e1:=HC0.out _ HB1.out;clear hb1)
        | (go_at_call 78;refine(HFD.out _ HB1.out).mono ?_;rintro e w2 ⟨rfl,hb2⟩;have HB2:=ah (HB1.out.trans (hb2.mono HB1.out.size));have e2:=HC0.out _ HB2.out;clear hb2))
    go_wp2
    go_ret
    exact⟨rfl,HB2.out⟩
theorem zl{jp sp lp bp cap:Nat}{a:Option Addr}{j:JV}(w:World)(h:gW w jp sp lp bp a cap j) :
  Calls Tryz.prog 27 #[.pointer (some ⟨jp,0,none⟩)] w fun e w'=>e=.returned (.bool (decide (j.stage<4)))∧w'=w:=by
 obtain⟨c0,c1,c2,c3,c4,c5,c6,c7,f4,f7⟩:=h.cells;clear h;go_enter Tryz.func27,Tryz.ntmps27
 go_wp2
 go_ret
 exact⟨rfl,rfl⟩
theorem FV{jp sp lp bp cap:Nat}{a:Option Addr}{j:JV}(w:World)(h:gW w jp sp lp bp a cap j)(hok:S4.je j.n j.x) :
  Calls Tryz.prog 96 #[.pointer (some ⟨jp,0,none⟩)] w fun e w'=>e=.returned (.int .i64 j.state)∧w'=w:=by
 obtain⟨c0,c1,c2,c3,c4,c5,c6,c7,f4,f7⟩:=h.cells;have HCT:=ah (S4.EZ w h.set hok);clear h hok c0 c1 c2 c3 c6 c7 f4 f7;unfold JV.state;generalize S4.cnt j.x 64=ct at HCT ⊢;generalize j.stage=st at c4 ⊢;by_cases h1:st=1
 ·subst h1
  have g1:((1:Int)==1)=true:=rfl;by_cases h0:ct=0
  ·subst h0
   have g2:(((0:Nat):Int)==0)=true:=rfl;rw[if_pos ⟨rfl,rfl⟩];go_enter Tryz.func96,Tryz.ntmps96
   go_wp2_with fail
   refine HCT.out.mono ?_;rintro e w' ⟨rfl,hw⟩;have hw':=hw.symm;subst hw';clear hw;go_wp2
   go_ret
   exact⟨rfl,rfl⟩
  ·have g2:((ct:Int)==0)=false:=by simp;omega
   rw[if_neg (fun e=>h0 e.2)]
   go_enter Tryz.func96,Tryz.ntmps96
   go_wp2_with fail
   refine HCT.out.mono ?_;rintro e w' ⟨rfl,hw⟩;have hw':=hw.symm;subst hw';clear hw;go_wp2
   go_ret
   exact⟨rfl,rfl⟩
 ·have g1:(st==1)=false:=by simpa using h1
  rw[if_neg (fun e=>h1 e.1)]
  clear HCT;go_enter Tryz.func96,Tryz.ntmps96
  go_wp2
  go_ret
  exact⟨rfl,rfl⟩
theorem xW{jp sp lp bp cap:Nat}{a:Option Addr}{j:JV}(w:World)(h:gW w jp sp lp bp a cap j)(hok:S4.je j.n j.x) :
    Calls Tryz.prog 25 #[.pointer (some ⟨jp,0,none⟩)] w fun e w'=>e=.returned (.agg #[.int .i64 j.kind,.int .i64 j.file,.int .i64 j.state,.int .i64 (S4.cnt j.x 64:Nat)])∧Below w.heap.size w w':=by
  have HST:Hid (∀ W:World,Below w.heap.size w W→Calls Tryz.prog 96 #[.pointer (some ⟨jp,0,none⟩)] W fun e w'=>e=.returned (.int .i64 j.state)∧w'=W):=fun W hb=>by
    obtain⟨l1,l2,l3⟩:=h.lts;exact FV W (h.keep (hb.block _ l1) (hb.block _ l2) (hb.block _ l3)) hok
  have HCT:Hid (∀ W:World,Below w.heap.size w W→Calls Tryz.prog 97 #[.pointer (some ⟨lp,0,none⟩)] W fun e w'=>e=.returned (.int .i64 (S4.cnt j.x 64:Nat))∧w'=W):=fun W hb=>S4.EZ W (h.set.below hb) hok
  obtain⟨c0,c1,c2,c3,c4,c5,c6,c7,f4,f7⟩:=h.cells;have hjl:=h.lts.1;clear h hok c0 c1 c4 c6 c7 f4 f7;generalize S4.cnt j.x 64=ct at HCT ⊢;generalize j.state=st at HST ⊢;generalize j.kind=kd at c2 ⊢;generalize j.file=fl at c3 ⊢;have HW1:Hid (Below w.heap.size w (w.alloc (.cells #[.int .i64 0,.int .i64 0,.int .i64 0,.int .i64 0] 56)).drew):=((Below.refl _ _).alloc (Nat.le_refl _) _).drew;have e2:(w.alloc (.cells #[.int .i64 0,.int .i64 0,.int .i64 0,.int .i64 0] 56)).drew.cell? ⟨jp,2,none⟩=some (.int .i64 kd):=(HW1.out.cell (p:=⟨jp,2,none⟩) hjl).trans c2;have e3:(w.alloc (.cells #[.int .i64 0,.int .i64 0,.int .i64 0,.int .i64 0] 56)).drew.cell? ⟨jp,3,none⟩=some (.int .i64 fl):=(HW1.out.cell (p:=⟨jp,3,none⟩) hjl).trans c3
  have e5:(w.alloc (.cells #[.int .i64 0,.int .i64 0,.int .i64 0,.int .i64 0] 56)).drew.cell? ⟨jp,5,none⟩=some (.pointer (some ⟨lp,0,none⟩)):=(HW1.out.cell (p:=⟨jp,5,none⟩) hjl).trans c5
  have HK:Hid ((w.alloc (.cells #[.int .i64 kd,.int .i64 fl,.int .i64 st,.int .i64 (ct:Int)] 56)).drew.cell? ⟨jp,2,none⟩=some (.int .i64 kd)∧(w.alloc (.cells #[.int .i64 kd,.int .i64 fl,.int .i64 st,.int .i64 (ct:Int)] 56)).drew.cell? ⟨jp,3,none⟩=some (.int .i64 fl)∧(w.alloc (.cells #[.int .i64 kd,.int .i64 fl,.int .i64 st,.int .i64 (ct:Int)] 56)).drew.cell? ⟨jp,5,none⟩=some (.pointer (some ⟨lp,0,none⟩))):=by
    have hb:Below w.heap.size w (w.alloc (.cells #[.int .i64 kd,.int .i64 fl,.int .i64 st,.int .i64 (ct:Int)] 56)).drew:=((Below.refl _ _).alloc (Nat.le_refl _) _).drew;exact⟨(hb.cell (p:=⟨jp,2,none⟩) hjl).trans c2,(hb.cell (p:=⟨jp,3,none⟩) hjl).trans c3,(hb.cell (p:=⟨jp,5,none⟩) hjl).trans c5⟩
  have HS1:=ah (HST.out _ HW1.out);have HC1:=ah (HCT.out _ HW1.out);clear HST HCT c2 c3 c5;go_enter Tryz.func25,Tryz.ntmps25
  go_wp2_with fail
  go_region_held3 (fun W=>W.cell? ⟨jp,2,none⟩=some (.int .i64 kd)∧W.cell? ⟨jp,3,none⟩=some (.int .i64 fl)∧W.cell? ⟨jp,5,none⟩=some (.pointer (some ⟨lp,0,none⟩)))
    (first|(exact⟨e2,e3,e5⟩)|(exact HK.out)|assumption)
    (first
      | (go_at_call 96;refine HS1.out.mono ?_;rintro e w' ⟨rfl,rfl⟩)
      | (go_at_call 97;refine HC1.out.mono ?_;rintro e w' ⟨rfl,rfl⟩))
  go_wp2
  exact bodyPost_ret (v:=.agg #[.int .i64 kd,.int .i64 fl,.int .i64 st,.int .i64 (ct:Int)]) (by simp[results,Tryz.results25,go_sem]) rfl ⟨rfl,(by first|exact((Below.refl _ _).alloc (Nat.le_refl _) _).drew|exact((Below.refl _ _).alloc (Nat.le_refl _) _))⟩
theorem IL{sp m cap:Nat}{xs:Nat→Ih}{s:SV}{a:Option Addr}{C:Int}(l:List Int)(f:Int)(w:World)(h:aV w sp xs s m)(hl:Nums w a l)(hg:s.good C l)(h0:l≠[])(h5:l.length≤100) :
    Calls Tryz.prog 198 #[.pointer (some ⟨sp,6,none⟩),.slice a l.length cap,.int .i64 f] w fun e w'=>e=.returned (erV (qN s l f))∧Below w.heap.size w w':=by
  have HFI:=ah (qG f w h);unfold qN
  cases hf:s.file f with
  | none =>
    rw[hf] at HFI;unfold fJ at HFI;simp only
    rw[aT (by decide)]
    clear h hl hg hf;generalize l.length=ln;go_enter Tryz.func198,Tryz.ntmps198
    go_wp2_with fail
    refine HFI.out.mono ?_;rintro e w' ⟨rfl,hw⟩;have hw':=hw.symm;subst hw';clear hw;go_wp2
    go_ret
    exact⟨rfl,Below.refl _ _⟩
  | some v =>
    rw[hf] at HFI;unfold fJ at HFI;simp only
    have hcl:=hg.fV h0
    obtain⟨n,r,hnr⟩:∃ n r,l=n::r:=by
      cases l with
      | nil=>exact absurd rfl h0
      | cons n r=>exact⟨n,r,rfl⟩
    obtain⟨u,hu,huc⟩:=hg n (by rw[hnr];exact List.mem_cons_self)
    obtain⟨g,o,ha,hcn⟩:=hl 0 (by rw[hnr];simp)
    subst ha;rw[hnr,Nat.add_zero] at hcn;have hcn':w.cell? ⟨g,o,none⟩=some (.int .i64 n):=hcn;have HHD:Hid (∀ W:World,Below w.heap.size w W→Calls Tryz.prog 67 #[.pointer (some ⟨(xs f.toNat).p,0,none⟩)] W fun e w'=>e=.returned (.agg #[.int .i64 v.h.c,.int .i64 v.h.p,.int .i64 v.h.b])∧Below W.heap.size W w'):=fun W hb=>oG W ((h.below hb).jZ hf).1
    have HH2:Hid (∀ W:World,Below w.heap.size w W→Calls Tryz.prog 67 #[.pointer (some ⟨(xs n.toNat).p,0,none⟩)] W fun e w'=>e=.returned (.agg #[.int .i64 u.h.c,.int .i64 u.h.p,.int .i64 u.h.b])∧Below W.heap.size W w'):=fun W hb=>oG W ((h.below hb).jZ hu).1
    have HCO:Hid (∀ W:World,Below w.heap.size w W→Calls Tryz.prog 199 #[.slice (some ⟨g,o,none⟩) l.length cap,.int .i64 f] W fun e w'=>e=.returned (.bool (l.contains f))∧w'=W):=fun W hb=>yK l f W (hl.below hb) rfl h5
    obtain⟨n0,n5,_⟩:=SV.dJ hu;obtain⟨nk,rfl⟩:∃ nk:Nat,n=(nk:Int):=⟨n.toNat,by omega⟩
    have hnk:((nk:Int)).toNat=nk:=by omega
    have HCE:Hid (∀ W:World,Below w.heap.size w W→W.cell? ⟨g,o,none⟩=some (.int .i64 (nk:Int))∧W.cell? ⟨sp,6+nk,none⟩=some (.pointer (some ⟨(xs nk).p,0,none⟩))):=fun W hb=>⟨(hb.cell (p:=⟨g,o,none⟩) (World.block_lt_of_cell? _ _ hcn')).trans hcn',by have:=(h.below hb).oW hu;rw[hnk] at this;exact this⟩
    have hln:0<l.length:=by rw[hnr];simp
    have hlen:(0:Int)<(l.length:Int):=by omega
    rw[hnk] at HH2;rw[hcl,← huc];have f1:=o9 u.h.c u.h.p u.h.b;clear h hl hg hf hu hcn hcn' hcl huc hnr h0 hnk;generalize (xs f.toNat).p=xf at HFI HHD;generalize (xs nk).p=xn at HH2 HCE;generalize l.contains f=cb at HCO ⊢;generalize l.length=ln at HCO hln hlen h5 ⊢;generalize v.h.c=vc at HHD ⊢;generalize v.h.p=vp at HHD;generalize v.h.b=vb at HHD ⊢;generalize u.h.c=uc at HH2 f1 ⊢;generalize u.h.p=up at HH2 f1;generalize u.h.b=ub at HH2 f1;have k0:(0:Int)≤(nk:Int):=by omega
    have k5:(nk:Int)<5:=by omega
    cases cb with
    | true =>
      rw[if_pos (.inl rfl),aT (by decide)]
      go_enter Tryz.func198,Tryz.ntmps198
      go_wp2_with fail
      refine HFI.out.mono ?_;rintro e w' ⟨rfl,hw⟩;have hw':=hw.symm;subst hw';clear hw;go_wp2_with fail
      refine(HHD.out _ (Below.refl _ _)).mono ?_;rintro e w1 ⟨rfl,hb1⟩;have HBA:Hid (Below w.heap.size w (w1.alloc (.cells #[.int .i64 vc,.int .i64 vp,.int .i64 vb] 103))):=hb1.alloc hb1.size _;have b0:(w1.alloc (.cells #[.int .i64 vc,.int .i64 vp,.int .i64 vb] 103)).cell? ⟨w1.heap.size,0,none⟩=some (.int .i64 vc):=by rw[cell_of_row _ _ _ _ _ _ (heap_alloc_new w1 _)];rfl
      have b2:(w1.alloc (.cells #[.int .i64 vc,.int .i64 vp,.int .i64 vb] 103)).cell? ⟨w1.heap.size,2,none⟩=some (.int .i64 vb):=by rw[cell_of_row _ _ _ _ _ _ (heap_alloc_new w1 _)];rfl
      clear hb1;go_wp2_with fail
      generalize w1.alloc (.cells #[.int .i64 vc,.int .i64 vp,.int .i64 vb] 103)=W1 at HBA b0 b2 ⊢;generalize w1.heap.size=N1 at b0 b2 ⊢
      go_quiet (first
        | (go_at_call 199;refine Calls.quiet_of_same (HCO.out _ (below_drewN HBA.out _))))
      go_wp2
      go_ret
      exact⟨rfl,below_drewN HBA.out _⟩
    | false =>
      by_cases hb:vb = -1
      · have gb:(vb != -1)=false:=by simpa using hb
        by_cases hc:vc=uc
        · have gc:(vc != uc)=false:=by simpa using hc
          rw[if_neg (by rintro(e|e|e);cases e;exact e hb;exact e hc),aB]
          clear hb hc;go_enter Tryz.func198,Tryz.ntmps198
          go_wp2_with fail
          refine HFI.out.mono ?_;rintro e w' ⟨rfl,hw⟩;have hw':=hw.symm;subst hw';clear hw;go_wp2_with fail
          refine(HHD.out _ (Below.refl _ _)).mono ?_;rintro e w1 ⟨rfl,hb1⟩;have HBA:Hid (Below w.heap.size w (w1.alloc (.cells #[.int .i64 vc,.int .i64 vp,.int .i64 vb] 103))):=hb1.alloc hb1.size _;have b0:(w1.alloc (.cells #[.int .i64 vc,.int .i64 vp,.int .i64 vb] 103)).cell? ⟨w1.heap.size,0,none⟩=some (.int .i64 vc):=by rw[cell_of_row _ _ _ _ _ _ (heap_alloc_new w1 _)];rfl
          have b2:(w1.alloc (.cells #[.int .i64 vc,.int .i64 vp,.int .i64 vb] 103)).cell? ⟨w1.heap.size,2,none⟩=some (.int .i64 vb):=by rw[cell_of_row _ _ _ _ _ _ (heap_alloc_new w1 _)];rfl
          clear hb1;go_wp2_with fail
          generalize w1.alloc (.cells #[.int .i64 vc,.int .i64 vp,.int .i64 vb] 103)=W1 at HBA b0 b2 ⊢;generalize w1.heap.size=N1 at b0 b2 ⊢;obtain⟨s1,s2⟩:=HCE.out _ HBA.out.drew;have HBD:Hid (Below w.heap.size w W1.drew):=HBA.out.drew;have t0:W1.drew.cell? ⟨N1,0,none⟩=some (.int .i64 vc):=b0;have t2:W1.drew.cell? ⟨N1,2,none⟩=some (.int .i64 vb):=b2
          go_region_held3 (fun W=>W.cell? ⟨N1,0,none⟩=some (.int .i64 vc)∧W.cell? ⟨N1,2,none⟩=some (.int .i64 vb)∧W.cell? ⟨g,o,none⟩=some (.int .i64 (nk:Int))∧W.cell? ⟨sp,6+nk,none⟩=some (.pointer (some ⟨xn,0,none⟩)))
            (first|(exact⟨t0,t2,s1,s2⟩)|assumption)
            (first
              | (go_at_call 199;refine(HCO.out _ HBD.out).mono ?_;rintro e w' ⟨rfl,rfl⟩)
              | (go_at_call 67;refine(HH2.out _ HBD.out).mono ?_;rintro e w3 ⟨rfl,hb3⟩;have HB3:=ah (HBD.out.trans (hb3.mono HBD.out.size));have hS3:w3.cell? ⟨N1,0,none⟩=some (.int .i64 vc)∧w3.cell? ⟨N1,2,none⟩=some (.int .i64 vb)∧w3.cell? ⟨g,o,none⟩=some (.int .i64 (nk:Int))∧w3.cell? ⟨sp,6+nk,none⟩=some (.pointer (some ⟨xn,0,none⟩)):=⟨(hb3.cell (p:=⟨N1,0,none⟩) (World.block_lt_of_cell? _ _ t0)).trans t0,(hb3.cell (p:=⟨N1,2,none⟩) (World.block_lt_of_cell? _ _ t2)).trans t2,(HCE.out _ HB3.out).1,(HCE.out _ HB3.out).2⟩;clear hb3))
          clear hS3;go_wp2
          go_ret
          exact⟨rfl,HB3.out⟩
        · have gc:(vc != uc)=true:=by simpa using hc
          rw[if_pos (.inr (.inr hc)),aT (by decide)]
          clear hb hc;go_enter Tryz.func198,Tryz.ntmps198
          go_wp2_with fail
          refine HFI.out.mono ?_;rintro e w' ⟨rfl,hw⟩;have hw':=hw.symm;subst hw';clear hw;go_wp2_with fail
          refine(HHD.out _ (Below.refl _ _)).mono ?_;rintro e w1 ⟨rfl,hb1⟩;have HBA:Hid (Below w.heap.size w (w1.alloc (.cells #[.int .i64 vc,.int .i64 vp,.int .i64 vb] 103))):=hb1.alloc hb1.size _;have b0:(w1.alloc (.cells #[.int .i64 vc,.int .i64 vp,.int .i64 vb] 103)).cell? ⟨w1.heap.size,0,none⟩=some (.int .i64 vc):=by rw[cell_of_row _ _ _ _ _ _ (heap_alloc_new w1 _)];rfl
          have b2:(w1.alloc (.cells #[.int .i64 vc,.int .i64 vp,.int .i64 vb] 103)).cell? ⟨w1.heap.size,2,none⟩=some (.int .i64 vb):=by rw[cell_of_row _ _ _ _ _ _ (heap_alloc_new w1 _)];rfl
          clear hb1;go_wp2_with fail
          generalize w1.alloc (.cells #[.int .i64 vc,.int .i64 vp,.int .i64 vb] 103)=W1 at HBA b0 b2 ⊢;generalize w1.heap.size=N1 at b0 b2 ⊢;obtain⟨s1,s2⟩:=HCE.out _ HBA.out.drew;have HBD:Hid (Below w.heap.size w W1.drew):=HBA.out.drew;have t0:W1.drew.cell? ⟨N1,0,none⟩=some (.int .i64 vc):=b0;have t2:W1.drew.cell? ⟨N1,2,none⟩=some (.int .i64 vb):=b2
          go_region_held3 (fun W=>W.cell? ⟨N1,0,none⟩=some (.int .i64 vc)∧W.cell? ⟨N1,2,none⟩=some (.int .i64 vb)∧W.cell? ⟨g,o,none⟩=some (.int .i64 (nk:Int))∧W.cell? ⟨sp,6+nk,none⟩=some (.pointer (some ⟨xn,0,none⟩)))
            (first|(exact⟨t0,t2,s1,s2⟩)|assumption)
            (first
              | (go_at_call 199;refine(HCO.out _ HBD.out).mono ?_;rintro e w' ⟨rfl,rfl⟩)
              | (go_at_call 67;refine(HH2.out _ HBD.out).mono ?_;rintro e w3 ⟨rfl,hb3⟩;have HB3:=ah (HBD.out.trans (hb3.mono HBD.out.size));have hS3:w3.cell? ⟨N1,0,none⟩=some (.int .i64 vc)∧w3.cell? ⟨N1,2,none⟩=some (.int .i64 vb)∧w3.cell? ⟨g,o,none⟩=some (.int .i64 (nk:Int))∧w3.cell? ⟨sp,6+nk,none⟩=some (.pointer (some ⟨xn,0,none⟩)):=⟨(hb3.cell (p:=⟨N1,0,none⟩) (World.block_lt_of_cell? _ _ t0)).trans t0,(hb3.cell (p:=⟨N1,2,none⟩) (World.block_lt_of_cell? _ _ t2)).trans t2,(HCE.out _ HB3.out).1,(HCE.out _ HB3.out).2⟩;clear hb3))
          clear hS3;go_wp2
          go_ret
          exact⟨rfl,HB3.out⟩
      · have gb:(vb != -1)=true:=by simpa using hb
        rw[if_pos (.inr (.inl hb)),aT (by decide)]
        clear hb;go_enter Tryz.func198,Tryz.ntmps198
        go_wp2_with fail
        refine HFI.out.mono ?_;rintro e w' ⟨rfl,hw⟩;have hw':=hw.symm;subst hw';clear hw;go_wp2_with fail
        refine(HHD.out _ (Below.refl _ _)).mono ?_;rintro e w1 ⟨rfl,hb1⟩;have HBA:Hid (Below w.heap.size w (w1.alloc (.cells #[.int .i64 vc,.int .i64 vp,.int .i64 vb] 103))):=hb1.alloc hb1.size _;have b0:(w1.alloc (.cells #[.int .i64 vc,.int .i64 vp,.int .i64 vb] 103)).cell? ⟨w1.heap.size,0,none⟩=some (.int .i64 vc):=by rw[cell_of_row _ _ _ _ _ _ (heap_alloc_new w1 _)];rfl
        have b2:(w1.alloc (.cells #[.int .i64 vc,.int .i64 vp,.int .i64 vb] 103)).cell? ⟨w1.heap.size,2,none⟩=some (.int .i64 vb):=by rw[cell_of_row _ _ _ _ _ _ (heap_alloc_new w1 _)];rfl
        clear hb1;go_wp2_with fail
        generalize w1.alloc (.cells #[.int .i64 vc,.int .i64 vp,.int .i64 vb] 103)=W1 at HBA b0 b2 ⊢;generalize w1.heap.size=N1 at b0 b2 ⊢
        go_quiet (first
          | (go_at_call 199;refine Calls.quiet_of_same (HCO.out _ (below_drewN HBA.out _))))
        go_wp2
        go_ret
        exact⟨rfl,below_drewN HBA.out _⟩
theorem Nums.tail{w:World}{g o:Nat}{n:Int}{r:List Int}(h:Nums w (some ⟨g,o,none⟩) (n::r)):Nums w (some ⟨g,o+1,none⟩) r:=fun k hk=>by
 obtain⟨g',o',e1,e2⟩:=h (k+1) (by simpa using hk)
 cases e1
 refine⟨g,o+1,rfl,?_⟩;rw[show o+1+k=o+(k+1) by omega,e2];rfl
theorem BD{sp m cap : Nat}{xs : Nat → Ih}{s : SV}{a : Option Addr}{C : Int}(l : List Int)(d : aS)(w : World)(h : aV w sp xs s m)(hl : Nums w a l)(hg : s.good C l)(h0 : l ≠ [])(h5 : l.length ≤ 100)(hcap : l.length ≤ cap) :
    Calls Tryz.prog 84 #[.pointer (some ⟨sp, 6, none⟩), .slice a l.length cap, .agg #[.int .i64 d.root, .int .i64 d.kind, .int .i64 d.file, .int .i64 d.rate, .int .i64 d.burst]] w fun e w' => e = .returned (erV (lK s l d)) ∧ Below w.heap.size w w' := by
  have HBA : Hid (Below w.heap.size w (w.alloc (.cells #[.int .i64 d.root, .int .i64 d.kind, .int .i64 d.file, .int .i64 d.rate, .int .i64 d.burst] 47))) := (Below.refl _ _).alloc (Nat.le_refl _) _;have b1 : (w.alloc (.cells #[.int .i64 d.root, .int .i64 d.kind, .int .i64 d.file, .int .i64 d.rate, .int .i64 d.burst] 47)).cell? ⟨w.heap.size, 1, none⟩ = some (.int .i64 d.kind) := by rw [cell_of_row _ _ _ _ _ _ (heap_alloc_new w _)]; rfl
  have b2 : (w.alloc (.cells #[.int .i64 d.root, .int .i64 d.kind, .int .i64 d.file, .int .i64 d.rate, .int .i64 d.burst] 47)).cell? ⟨w.heap.size, 2, none⟩ = some (.int .i64 d.file) := by rw [cell_of_row _ _ _ _ _ _ (heap_alloc_new w _)]; rfl
  unfold lK;by_cases h1 : d.kind = 1
  · rw [if_pos h1]
    have HCT : Hid (∀ W : World, Below w.heap.size w W → Calls Tryz.prog 198 #[.pointer (some ⟨sp, 6, none⟩), .slice a l.length cap, .int .i64 d.file] W fun e w' => e = .returned (erV (qN s l d.file)) ∧ Below W.heap.size W w') := fun W hb => IL l d.file W (h.below hb) (hl.below hb) hg h0 h5
    generalize qN s l d.file = tf at HCT ⊢;rw [h1] at b1 HBA b2 ⊢;clear h hl hg h1;generalize l.length = ln at HCT ⊢;go_enter Tryz.func84, Tryz.ntmps84
    go_wp2_with fail
    refine (HCT.out _ HBA.out).mono ?_;rintro e w1 ⟨rfl, hb1⟩;have HB1 := ah (HBA.out.trans (hb1.mono HBA.out.size));clear hb1;go_wp2
    go_ret
    exact ⟨rfl, HB1.out⟩
  · rw [if_neg h1]
    have g1 : (d.kind == 1) = false := by simpa using h1
    by_cases h23 : d.kind = 2 ∨ d.kind = 3
    · rw [if_pos h23]
      obtain ⟨n, r, rfl⟩ : ∃ n r, l = n :: r := by
        cases l with
        | nil => exact absurd rfl h0
        | cons n r => exact ⟨n, r, rfl⟩
      obtain ⟨g, o, ha, _⟩ := hl 0 (by simp)
      subst ha
      have HCO : Hid (∀ W : World, Below w.heap.size w W → Calls Tryz.prog 199 #[.slice (if cap = 1 then some ⟨g, o, none⟩ else some ⟨g, o + 1, none⟩) r.length (cap - 1), .int .i64 d.file] W fun e w' => e = .returned (.bool (r.contains d.file)) ∧ w' = W) := fun W hb => by
        by_cases hr : r = []
        · subst hr
          exact Tryz.slices_Contains_int_empty _ _ _ W
        · have hr1 : 0 < r.length := List.length_pos_iff.2 hr
          have hc1 : ¬ cap = 1 := by have : r.length + 1 ≤ cap := hcap; omega
          rw [if_neg hc1];exact yK r d.file W (hl.below hb).tail rfl (by have : r.length + 1 ≤ 100 := h5; omega)
      rw [show (n :: r).drop 1 = r from rfl]
      have hc0 : r.length + 1 ≤ cap := hcap;have hlen : (n :: r).length = r.length + 1 := rfl;rw [hlen];clear h hl hg h0 h5 hcap hlen;generalize r.contains d.file = cb at HCO ⊢;generalize r.length = ln at HCO hc0 ⊢;have q1 : (1 : Int) ≤ ((ln + 1 : Nat) : Int) := by omega
      have q2 : 1 ≤ ln + 1 := by omega
      have q3 : ln + 1 - 1 = ln := by omega
      have q4 : 1 ≤ cap := by omega
      by_cases h2 : d.kind = 2
      · have g2 : (d.kind == 2) = true := by simpa using h2
        by_cases hf : d.file = -1
        · have gf : (d.file == -1) = true := by simpa using hf
          rw [if_pos (.inl ⟨h2, hf⟩), aB];clear h2 hf h23 h1 HCO;go_enter Tryz.func84, Tryz.ntmps84
          go_wp2_with fail
          go_quiet (fail)
          go_wp2
          go_ret
          exact ⟨rfl, below_drewN HBA.out _⟩
        · have gf : (d.file == -1) = false := by simpa using hf
          have HIF : Hid ((if d.kind = 2 ∧ d.file = -1 ∨ cb = true then (0 : Int) else 4) = if cb = true then 0 else 4) := by
            unfold Hid;by_cases e : cb = true
            · rw [if_pos (.inr e), if_pos e]
            · rw [if_neg (by rintro (x | x); exact hf x.2; exact e x), if_neg e]
          rw [HIF.out];clear h2 hf h23 h1 HIF
          cases cb with
          | true =>
            rw [if_pos rfl, aB];go_enter Tryz.func84, Tryz.ntmps84
            go_wp2_with fail
            go_quiet (first
              | (go_at_call 199; refine Calls.quiet_of_same (HCO.out _ (below_drewN HBA.out _))))
            all_goals
              go_wp2
              all_goals
                go_ret
                exact ⟨rfl, below_drewN HBA.out _⟩
          | false =>
            rw [if_neg (by decide), aT (by decide)]
            go_enter Tryz.func84, Tryz.ntmps84
            go_wp2_with fail
            go_quiet (first
              | (go_at_call 199; refine Calls.quiet_of_same (HCO.out _ (below_drewN HBA.out _))))
            all_goals
              go_wp2
              all_goals
                go_ret
                exact ⟨rfl, below_drewN HBA.out _⟩
      · have g2 : (d.kind == 2) = false := by simpa using h2
        have g3 : (d.kind == 3) = true := by have : d.kind = 3 := by omega
                                             simpa using this
        have HIF : Hid ((if d.kind = 2 ∧ d.file = -1 ∨ cb = true then (0 : Int) else 4) = if cb = true then 0 else 4) := by
          unfold Hid;by_cases e : cb = true
          · rw [if_pos (.inr e), if_pos e]
          · rw [if_neg (by rintro (x | x); exact h2 x.1; exact e x), if_neg e]
        rw [HIF.out];clear h2 h23 h1 HIF
        cases cb with
        | true =>
          rw [if_pos rfl, aB];go_enter Tryz.func84, Tryz.ntmps84
          go_wp2_with fail
          go_quiet (first
            | (go_at_call 199; refine Calls.quiet_of_same (HCO.out _ (below_drewN HBA.out _))))
          all_goals
            go_wp2
            all_goals
              go_ret
              exact ⟨rfl, below_drewN HBA.out _⟩
        | false =>
          rw [if_neg (by decide), aT (by decide)]
          go_enter Tryz.func84, Tryz.ntmps84
          go_wp2_with fail
          go_quiet (first
            | (go_at_call 199; refine Calls.quiet_of_same (HCO.out _ (below_drewN HBA.out _))))
          all_goals
            go_wp2
            all_goals
              go_ret
              exact ⟨rfl, below_drewN HBA.out _⟩
    · rw [if_neg h23, dM]
      have g2 : (d.kind == 2) = false := by simp; omega
      have g3 : (d.kind == 3) = false := by simp; omega
      clear h hl hg h23;generalize l.length = ln;go_enter Tryz.func84, Tryz.ntmps84
      go_wp2
      go_ret
      exact ⟨rfl, HBA.out⟩
end Go.Proofs.YtonhoahnieoebabGreatDoor
