/- Walk once more: the room of the list that it gives. -/
import Derived.Test.YtonhoahnieoebabGreatDoorQAAloneP1
import Derived.Test.YtonhoahnieoebabGreatDoorQAAloneP2
set_option maxHeartbeats 2000000
set_option maxRecDepth 100000
namespace Go.Proofs.YtonhoahnieoebabGreatDoor
open Go.RowKit Go.Maps
attribute [local go_sem ↓] Go.wp_at_zero Go.wp_at_succ
theorem Pv{w:World}{B n cap g o:Nat}{a:Option Addr}{xs:List Value}(ho:w.ownsRow B 3 1 (.slice a n cap) n xs)(ha:a=some ⟨g,o,none⟩):n≤cap∧cap≤maxLen:=by
 rcases ho.2 with⟨h,h0⟩|⟨g,c,cur,hv,_,_,hc,hm,_⟩
 ·subst ha;cases h
 ·injection hv with h1 h2 h3
  subst h3;exact⟨hc,hm⟩
theorem Jm{sp m:Nat}{xs:Nat→Ih}{s:SV}(root:Int)(w:World)(h:aV w sp xs s m) :
    Calls Tryz.prog 15 #[.pointer (some ⟨sp,6,none⟩),.int .i64 root] w fun e w' =>
      ∃(a:Option Addr) (cap:Nat),e=.returned (.tuple #[.slice a (s.walk root).1.length cap,erV (s.walk root).2])∧Nums w' a (s.walk root).1∧(∀ g o,a=some ⟨g,o,none⟩→w.heap.size≤g∧g<w'.heap.size∧(s.walk root).1.length≤cap∧cap≤maxLen)∧Below w.heap.size w w':=by
  obtain⟨i1,hi1,hx0,hx1,hx2⟩:=info_parts zx;have HFI:Hid (∀(n:Int) (W:World),Below w.heap.size w W→Calls Tryz.prog 68 #[.pointer (some ⟨sp,6,none⟩),.int .i64 n] W fun e w'=>e=.returned (fJ (xs n.toNat) (s.file n))∧w'=W):=fun n W hb=>qG n W (h.below hb)
  have HHD:Hid (∀(n:Int) (v:IV) (W:World),s.file n=some v→Below w.heap.size w W→Calls Tryz.prog 67 #[.pointer (some ⟨(xs n.toNat).p,0,none⟩)] W fun e w'=>e=.returned (.agg #[.int .i64 v.h.c,.int .i64 v.h.p,.int .i64 v.h.b])∧Below W.heap.size W w'):=fun n v W hf hb=>oG W ((h.below hb).jZ hf).1
  have HCE:Hid (∀(n:Int) (v:IV) (W:World),s.file n=some v→Below w.heap.size w W→W.cell? ⟨sp,6+n.toNat,none⟩=some (.pointer (some ⟨(xs n.toNat).p,0,none⟩))∧0≤n∧n<5):=fun n v W hf hb=>⟨(h.below hb).oW hf,(SV.dJ hf).1,(SV.dJ hf).2.1⟩
  have HST:Hid (Walks w s root (s.walk root) [] root none 0 w):=⟨World.ownsRow_nil _ _ _ _,rfl,Nat.zero_le _,.inl rfl,Below.refl _ _⟩;generalize s.walk root=R at HST ⊢;clear h;go_enter Tryz.func15,Tryz.ntmps15
  go_wp2
  go_loopw [6,7] (fun u i wr=>∃(l:List Int) (n:Int) (a:Option Addr) (cap:Nat),u=.slice a l.length cap∧i=.int .i64 n∧Walks w s root R l n a cap wr) (fun u _ _=>6-sliceLen u)
  case atStart=>exact⟨[],root,none,0,rfl,rfl,HST.out⟩
  case round =>
    obtain⟨l,n,a,cap,rfl,rfl,hw⟩:=hrel;have HW:=ah hw;have hl5:=hw.len;obtain⟨q,hq⟩:∃ q,6-l.length=q+1:=⟨5-l.length,by omega⟩
    have hgo:=hw.go;rw[hq] at hgo;by_cases hn:n = -1
    · have g0:(n != -1)=false:=by simpa using hn
      rw[hn,SV.sG] at hgo;have HR:=ah hgo
      have HN:Hid (Nums wr a l∧∀ g o,a=some ⟨g,o,none⟩→w.heap.size≤g∧g<wr.heap.size∧l.length≤cap∧cap≤maxLen):=⟨Eu hw.own rfl,fun g o e=>by
        subst e
        exact⟨(hw.own.lt g rfl).1,(hw.own.lt g rfl).2,Pv hw.own rfl⟩⟩
      have HB:=ah hw.bel;clear hw hgo hn;go_wp2
      go_ret2
      exact⟨a,cap,by rw[← HR.out,aB];rfl,by rw[← HR.out];exact HN.out.1,by rw[← HR.out];exact HN.out.2,HB.out⟩
    · have g0:(n != -1)=true:=by simpa using hn
      have HF:=ah (HFI.out n wr hw.bel)
      cases hf:s.file n with
      | none =>
        rw[SV.vF hn hf] at hgo;have HR:=ah hgo;have HB:=ah hw.bel;rw[hf] at HF;clear hw hgo hn hf;go_wp2_with fail
        refine HF.out.mono ?_;rintro e w' ⟨rfl,hw⟩;have hw':=hw.symm;subst hw';clear hw;unfold fJ;go_wp2
        go_ret2
        exact⟨none,0,by rw[← HR.out,aT (by decide)];rfl,by rw[← HR.out];exact Nums.nil _ _,(fun g o e=>by cases e),HB.out⟩
      | some v =>
        rw[hf] at HF;by_cases h5:l.length=5
        · have g1:((l.length:Int)==5)=true:=by simp;omega
          rw[SV.vw hn hf h5] at hgo;have HR:=ah hgo;have HB:=ah hw.bel;clear hw hgo hn hf;go_wp2_with fail
          refine HF.out.mono ?_;rintro e w' ⟨rfl,hw⟩;have hw':=hw.symm;subst hw';clear hw;unfold fJ;go_wp2
          go_ret2
          exact⟨none,0,by rw[← HR.out,aT (by decide)];rfl,by rw[← HR.out];exact Nums.nil _ _,(fun g o e=>by cases e),HB.out⟩
        · have g1:((l.length:Int)==5)=false:=by simp;omega
          obtain⟨vr,hr⟩:∃ vr,s.file root=some vr:=by
            rcases hw.root with e|e
            · rw[← e];exact⟨v,hf⟩
            · exact e
          have hrc:s.fQ root=vr.h.c:=by unfold SV.fQ;rw[hr]
          have HB:=ah hw.bel;have HH1:=ah (fun W hb=>HHD.out n v W hf hb)
          have HH2:=ah (fun W hb=>HHD.out root vr W hr hb)
          obtain⟨d1,r0,r5⟩:=HCE.out root vr wr hr hw.bel;have f1:=o9 v.h.c v.h.p v.h.b;have f2:=o9 vr.h.c vr.h.p vr.h.b;have f3:=CX v.h.c v.h.p v.h.b;obtain⟨rk,rfl⟩:∃ rk:Nat,root=(rk:Int):=⟨root.toNat,by omega⟩
          have hrk:((rk:Int)).toNat=rk:=by omega
          rw[hrk] at d1 HH2;have d2:wr.drew.cell? ⟨sp,6+rk,none⟩=some (.pointer (some ⟨(xs rk).p,0,none⟩)):=d1;obtain⟨_,n0,n5⟩:=HCE.out n v wr hf hw.bel;obtain⟨nk,rfl⟩:∃ nk:Nat,n=(nk:Int):=⟨n.toNat,by omega⟩
          have hnk:((nk:Int)).toNat=nk:=by omega
          have HCN:Hid (∀ W:World,Below w.heap.size w W→W.cell? ⟨sp,6+nk,none⟩=some (.pointer (some ⟨(xs nk).p,0,none⟩))):=fun W hb=>by have:=(HCE.out (nk:Int) v W hf hb).1;rw[hnk] at this;exact this
          have HSP:Hid (∀ W:World,Below w.heap.size w W→W.cell? ⟨sp,6+rk,none⟩=some (.pointer (some ⟨(xs rk).p,0,none⟩))):=fun W hb=>by have:=(HCE.out (rk:Int) vr W hr hb).1;rw[hrk] at this;exact this
          rw[hnk] at HF HH1;unfold fJ at HF;generalize (xs rk).p=xr at HH2 d1 d2 HSP;generalize (xs nk).p=xn at HF HH1 HCN;have HSB:Hid (∀ W:World,Below wr.heap.size wr W→Below w.heap.size w W):=fun W hb=>HB.out.trans (hb.mono HB.out.size)
          have HSI:Hid (∀ W:World,Below wr.heap.size wr W→W.cell? ⟨sp,6+rk,none⟩=some (.pointer (some ⟨xr,0,none⟩))):=fun W hb=>HSP.out W (HSB.out W hb)
          have HDR:Hid (Below wr.heap.size wr wr.drew):=(Below.refl _ _).drew;by_cases hc:v.h.c=vr.h.c
          · have hcb:(v.h.c != vr.h.c)=false:=by simpa using hc
            rw[SV.sJ hn hf h5 (by rw[hrc];exact hc)] at hgo
            have HGO:=ah hgo;have HOW:=ah hw.own;have HVR:Hid (∃ v,s.file (rk:Int)=some v):=⟨vr,hr⟩;have hl4:l.length≤4:=by omega
            have HQ:=ah hq;have HM:Hid (l.length+1≤maxLen):=by unfold Hid maxLen;omega
            clear hw hgo hf hr HHD HCE hc HFI HST HSP hq;go_wp2_with fail
            refine HF.out.mono ?_;rintro e w' ⟨rfl,hw⟩;have hw':=hw.symm;subst hw';clear hw;go_wp2
            go_region_held3 (fun W=>Below wr.heap.size wr W∧W.cell? ⟨sp,6+rk,none⟩=some (.pointer (some ⟨xr,0,none⟩)))
              (first|(exact⟨HDR.out,d2⟩)|assumption)
              (first
                | (go_at_call 67;refine(HH1.out _ (HSB.out _ (by assumption:Below wr.heap.size wr _∧_).1)).mono ?_;rintro e wH ⟨rfl,hbH⟩;have hS:=(by assumption:Below wr.heap.size wr _∧_).1.trans (hbH.mono (by assumption:Below wr.heap.size wr _∧_).1.size);have hSS:=And.intro hS (HSI.out _ hS))
                | (go_at_call 67;refine(HH2.out _ (HSB.out _ (by assumption:Below wr.heap.size wr _∧_).1)).mono ?_;rintro e wH ⟨rfl,hbH⟩;have hS:=(by assumption:Below wr.heap.size wr _∧_).1.trans (hbH.mono (by assumption:Below wr.heap.size wr _∧_).1.size);have hSS:=And.intro hS (HSI.out _ hS)))
            all_goals
              have HBH:=ah hS;clear hS hSS hbH d1 d2;have HO1:Hid ((wH.alloc (.cells #[.int .i64 (nk:Int)] 3)).ownsRow w.heap.size 3 1 (.slice a l.length cap) l.length (lW l)):=(dA HOW.out fun k e=>HBH.out.block k (HOW.out.lt k e).2).alloc _
              have HZ1:Hid ((wH.alloc (.cells #[.int .i64 (nk:Int)] 3)).heap.size=wH.heap.size+1):=by unfold Hid;simp
              have HB1:Hid (w.heap.size≤(wH.alloc (.cells #[.int .i64 (nk:Int)] 3)).heap.size):=by unfold Hid;have:=(HSB.out _ HBH.out).size;rw[HZ1.out];omega
              have HN1:Hid (∀ j y,([.int .i64 (nk:Int)]:List Value)[j]?=some y→(wH.alloc (.cells #[.int .i64 (nk:Int)] 3)).cell? ((⟨wH.heap.size,0,none⟩:Addr).add j)=some y):=cell_one_new _ _ _;have HBA:Hid (Below w.heap.size w (wH.alloc (.cells #[.int .i64 (nk:Int)] 3))):=(HSB.out _ HBH.out).alloc (HSB.out _ HBH.out).size _
              go_wp2_with (at_builtin;refine wpList_append_lies _ (by rfl) _ _ 31 (by rfl) w.heap.size 3 i1 (.int .i64 0) 1 8 Tryz.underlying31 hi1 hx0 hx1 hx2 rfl (by decide) (.slice a l.length cap) l.length (lW l) (by rfl) HO1.out ⟨wH.heap.size,0,none⟩ 1 1 [.int .i64 (nk:Int)] (by rfl) (by rfl) HN1.out (fun u hu=>by simp at hu;subst hu;rfl) (by decide) HM.out (by omega) HB1.out (wH.heap.size+1) HZ1.out ?_
                           intro g k w1 hown hgrow hat hlt;have HBF:Hid (Below w.heap.size w w1):=HBA.out.grown hgrow HB1.out (fun r e=>(HO1.out.lt r e).1)
                           have HOF:=ah hown;have d3:=HCN.out w1 HBF.out
                           clear hown hgrow hat hlt)
              refine(HH1.out _ HBF.out).mono ?_;rintro e w2 ⟨rfl,hb2⟩
              have HWK:Hid (Walks w s (rk:Int) R (l++[(nk:Int)]) v.h.b (some ⟨g,0,none⟩) k w2):=by
                have e1:(l++[(nk:Int)]).length=l.length+1:=by simp
                have e2:lW (l++[(nk:Int)])=lW l++[.int .i64 (nk:Int)]:=by simp[lW]
                refine⟨?_,?_,by rw[e1];omega,.inr HVR.out,HBF.out.trans (hb2.mono HBF.out.size)⟩
                · rw[e1,e2];exact dA HOF.out fun k e=>hb2.block k (HOF.out.lt k e).2
                · have:=HQ.out
                  rw[e1,show 6-(l.length+1)=q by omega];exact HGO.out
              clear hb2 d3;go_wp2
              go_roundw
              case rel =>
                have fin:∃(l1:List Int) (n1:Int) (a1:Option Addr) (cap1:Nat),Value.slice (some ⟨g,0,none⟩) (l.length+1) k=.slice a1 l1.length cap1∧Value.int .i64 v.h.b=.int .i64 n1∧Walks w s (rk:Int) R l1 n1 a1 cap1 w2:=⟨l++[(nk:Int)],v.h.b,some ⟨g,0,none⟩,k,by simp,rfl,HWK.out⟩
                first|exact fin|((repeat apply Exists.intro);exact⟨fin,rfl⟩)
              case measure=>simp[sliceLen];omega
          · have hcb:(v.h.c != vr.h.c)=true:=by simpa using hc
            rw[SV.walk_other hn hf h5 (by rw[hrc];exact hc)] at hgo
            have HR:=ah hgo;clear hw hgo hf hr HHD HCE hc HFI HST HSP hq hn;go_wp2_with fail
            refine HF.out.mono ?_;rintro e w' ⟨rfl,hw⟩;have hw':=hw.symm;subst hw';clear hw;go_wp2
            go_region_held3 (fun W=>Below wr.heap.size wr W∧W.cell? ⟨sp,6+rk,none⟩=some (.pointer (some ⟨xr,0,none⟩)))
              (first|(exact⟨HDR.out,d2⟩)|assumption)
              (first
                | (go_at_call 67;refine(HH1.out _ (HSB.out _ (by assumption:Below wr.heap.size wr _∧_).1)).mono ?_;rintro e wH ⟨rfl,hbH⟩;have hS:=(by assumption:Below wr.heap.size wr _∧_).1.trans (hbH.mono (by assumption:Below wr.heap.size wr _∧_).1.size);have hSS:=And.intro hS (HSI.out _ hS))
                | (go_at_call 67;refine(HH2.out _ (HSB.out _ (by assumption:Below wr.heap.size wr _∧_).1)).mono ?_;rintro e wH ⟨rfl,hbH⟩;have hS:=(by assumption:Below wr.heap.size wr _∧_).1.trans (hbH.mono (by assumption:Below wr.heap.size wr _∧_).1.size);have hSS:=And.intro hS (HSI.out _ hS)))
            all_goals
              have HBH:=ah (HSB.out _ hS);clear hS hSS hbH d1 d2;go_wp2
              go_ret2
              exact⟨none,0,by rw[← HR.out,aT (by decide)];rfl,by rw[← HR.out];exact Nums.nil _ _,(fun g o e=>by cases e),HBH.out⟩
theorem Uz{yp C m:Nat}{Y:Yh}{y:YV}(w:World)(h:ay w yp Y y)(hY:YOk y C m) :
    Calls Tryz.prog 143 #[.pointer (some ⟨yp,0,none⟩)] w fun e w' =>
      ∃(g o cap:Nat),e=.returned (.slice (some ⟨g,o,none⟩) y.l.length cap)∧Nums w' (some ⟨g,o,none⟩) y.l∧w.heap.size≤g∧g<w'.heap.size∧(y.l.length≤cap∧cap≤maxLen)∧Below w.heap.size w w':=by
  obtain⟨c0,c5,c6,c11,c12,fz⟩:=h.blk.cells
  have HW:Hid (∀ W:World,Below w.heap.size w W→Calls Tryz.prog 15 #[.pointer (some ⟨yp,6,none⟩),.int .i64 y.kd.root] W fun e w'=>∃(g o cap:Nat),e=.returned (.tuple #[.slice (some ⟨g,o,none⟩) y.l.length cap,.nilIface])∧Nums w' (some ⟨g,o,none⟩) y.l∧w.heap.size≤g∧g<w'.heap.size∧(y.l.length≤cap∧cap≤maxLen)∧Below w.heap.size w w'∧w'.cell? ⟨yp,11,none⟩=some (.int .i64 y.kd.root)):=fun W hb=>by
    have:=Jm y.kd.root W ((h.shelf hY.s).below hb)
    rw[hY.ch.walk,aB] at this;refine this.mono ?_;rintro e w' ⟨a,cap,rfl,h1,h2,h3⟩;obtain⟨g,o,ha,_⟩:=h1 0 (List.length_pos_iff.2 hY.ch.ne);subst ha;obtain⟨h4,h5,h6⟩:=h2 g o rfl;have hb2:=hb.trans (h3.mono hb.size);exact⟨g,o,cap,rfl,h1,Nat.le_trans hb.size h4,h5,h6,hb2,(h.below hb2).blk.cells.2.2.2.1⟩
  clear h c0 c5 c6 c12 fz hY;generalize y.kd.root=r at c11 HW;generalize y.l=l at HW ⊢;have d11:w.drew.cell? ⟨yp,11,none⟩=some (.int .i64 r):=c11;have HBD:Hid (Below w.heap.size w w.drew):=(Below.refl _ _).drew;go_enter Tryz.func143,Tryz.ntmps143
  go_wp2
  go_region_held3 (fun W=>W.cell? ⟨yp,11,none⟩=some (.int .i64 r))
    (first|(exact d11)|assumption)
    (first
      | (go_at_call 15;refine(HW.out _ HBD.out).mono ?_;rintro e w1 ⟨g,o,cap,rfl,h1,h2,h3,h4,h5,hS1⟩;have H1:=ah h1;have H5:=ah h5;clear h1 h5))
  clear hS1;go_wp2
  go_ret
  exact⟨g,o,cap,rfl,H1.out,h2,h3,h4,H5.out⟩
theorem Ul{yp C m:Nat}{Y:Yh}{y:YV}(w:World)(h:ay w yp Y y)(hY:YOk y C m) :
  Calls Tryz.prog 48 #[.pointer (some ⟨yp,0,none⟩)] w fun e w' =>
   ∃(g o cap:Nat),e=.returned (.slice (some ⟨g,o,none⟩) y.l.length cap)∧Nums w' (some ⟨g,o,none⟩) y.l∧w.heap.size≤g∧g<w'.heap.size∧(y.l.length≤cap∧cap≤maxLen)∧Below w.heap.size w w':=by
 have HW:=ah (Uz w h hY);clear h hY;go_enter Tryz.func48,Tryz.ntmps48
 go_wp2_with fail
 refine HW.out.mono ?_;rintro e w' ⟨g,o,cap,rfl,h1⟩;have H1:=ah h1;clear h1 HW;go_wp2
 go_ret
 exact⟨g,o,cap,rfl,H1.out⟩
end Go.Proofs.YtonhoahnieoebabGreatDoor
namespace Go.Proofs.YtonhoahnieoebabGreatDoor
open Go.RowKit Go.Maps
structure LSt(B:Nat)(w0:World)(yp C q:Nat)(W:World)(Y:Yh)(y:YV)(g:GV):Prop where
 bW:ay W yp Y y
 jobL:∀ b o,Y.jb.a=some ⟨b,o,none⟩→b<W.heap.size
 bY:∀ k,fpY yp Y y k→B≤k
 bel:Below B w0 W
 size:B≤w0.heap.size
 kno:Kno y C (20+2000*q) g (1+q)
theorem LSt.sizes{B yp C q:Nat}{w0 W:World}{Y:Yh}{y:YV}{g:GV}(h:LSt B w0 yp C q W Y y g):B≤W.heap.size:=Nat.le_trans h.size h.bel.size
theorem LSt.later{B yp C q:Nat}{w0 W W':World}{Y:Yh}{y:YV}{g:GV}(h:LSt B w0 yp C q W Y y g)(hb:Below W.heap.size W W'):LSt B w0 yp C q W' Y y g :=
 ⟨h.bW.below hb,fun b o e=>Nat.lt_of_lt_of_le (h.jobL b o e) hb.size,h.bY,h.bel.trans (hb.mono h.sizes),h.size,h.kno⟩
theorem LSt.next{B yp C q:Nat}{w0 W:World}{Y:Yh}{y:YV}{g:GV}(h:LSt B w0 yp C q W Y y g):LSt B w0 yp C (q+1) W Y y g :=
 ⟨h.bW,h.jobL,h.bY,h.bel,h.size,h.kno.more (by omega) (by omega)⟩
def Fr(W:World)(gp C:Nat)(w':World):Prop:=∃ G:Gh,IsG w' gp G (4*C) ⟨fun _=>[noughts],fun _=>[noughts]⟩∧(∀ k,fpG gp G (4*C) k→W.heap.size≤k)∧Below W.heap.size W w'
theorem LU(C:Nat)(hC:C≤32)(W:World):Calls Tryz.prog 49 #[.int .i64 ((4*C:Nat):Int)] W fun e w'=>∃ gp:Nat,e=.returned (.pointer (some ⟨gp,0,none⟩))∧Fr W gp C w' :=
 (Dn (4*C) W (by omega)).mono fun _ _ ⟨gp,G,h1,h2,h3,h4⟩=>⟨gp,h1,G,h2,h3,h4⟩
theorem LSt.did{B yp gp C q:Nat}{w0 wr W w3:World}{Y:Yh}{y:YV}{g:GV}(hC:1≤C∧C≤32)(h:LSt B w0 yp C q wr Y y g)(hb:Below wr.heap.size wr W)(hf:Fr W gp C w3)(hq:q≤100)(x:aN)(hx:sQ x)(hT:S4.Tab w3) :
  Calls Tryz.prog 42 #[.pointer (some ⟨yp,0,none⟩),.pointer (some ⟨gp,0,none⟩),.agg #[.string x.kind,.int .i64 x.a,.int .i64 x.b,.int .i64 x.c,.int .i64 x.d,.string x.s,.slice x.ka x.kl x.kc]] w3 fun e w'=>e=.returned (.tuple #[]) ∧
   ∃ Y' y' g',LSt B w0 yp C (q+1) w' Y' y' g'∧gu (4*C) y g x y' g'∧(∀ b,wr.heap.size≤b→b<W.heap.size→w'.heap[b]?=W.heap[b]?)∧W.heap.size≤w'.heap.size:=by
 obtain⟨G,f1,f2,f3⟩:=hf;have h1:=(h.later hb).later f3
 let D:Gd:=⟨fun k=>k<W.heap.size∧¬fpY yp Y y k,W.heap.size,fun _ e=>e.1⟩
 have hlt:∀ k,fpY yp Y y k→k<W.heap.size:=fun k hk=>(h.later hb).bW.iT hk
 have hG:YGd D w3 w3 yp Y y gp G (4*C) ⟨fun _=>[noughts],fun _=>[noughts]⟩:=by
  refine⟨h1.bW,f1,fun k hk hg=>?_,fun b o e hg=>?_,h1.jobL,fun k hk e=>e.2 hk,fun k hk e=>?_,Kept.refl _ _,f3.size⟩
  ·have:=f2 k hg;have:=hlt k hk;omega
  ·have:=f2 b hg;have:=(h.later hb).jobL b o e;omega
  ·have:=f2 k hk;have:=e.1;omega
 refine(Jw x w3 hG h.kno.saw.yg.ok hC rfl hx hT (by omega) fun k hk=>⟨by simp,by simp,by simp⟩).mono ?_
 rintro e w' ⟨rfl,Y',G',y',gx,hr,hy⟩;obtain⟨g',hr'⟩:=hr.other g;have hbl:∀ b,b<W.heap.size→¬fpY yp Y y b→w'.heap[b]?=W.heap[b]?:=fun b b1 b2=>(hy.kept.block b (Nat.lt_of_lt_of_le b1 f3.size) (fun e=>e ⟨b1,b2⟩)).trans (f3.block b b1)
 refine⟨rfl,Y',y',g',⟨hy.bW,hy.jobL,fun k hk=>?_,?_,h.size,?_⟩,hr',fun b b1 b2=>hbl b b2 fun e=>?_,Nat.le_trans f3.size hy.kept.size⟩
 ·have:=hy.offY k hk
  by_cases e:fpY yp Y y k
  ·exact h.bY k e
  ·have h2:=(h.later hb).sizes
   have:¬k<W.heap.size:=fun e2=>this ⟨e2,e⟩
   omega
 ·have h2:=(h.later hb).sizes
  have h3:=(h.later hb).bel;have h4:=h1.bel;exact⟨hy.kept.os.trans h4.os,hy.kept.tape.trans h4.tape,hy.kept.output.trans h4.output,Nat.le_trans h4.size hy.kept.size,fun k hk=>(hbl k (by omega) (fun e=>by have:=h.bY k e;omega)).trans (h3.block k hk)⟩
 ·exact(h.kno.act hr' hx hC.2 (by omega)).more (by omega) (by omega)
 ·have:=h.bW.iT e;omega
def StV(y:YV)(k f s l:Int):Prop:=match y.j with|none=>k=0∧f = -1∧s=0∧l=0|some j=>k=j.kind∧f=j.file∧s=j.state∧l=((S4.cnt j.x 64:Nat):Int)
theorem LSt.status{B yp C q:Nat}{w0 wr:World}{Y:Yh}{y:YV}{g:GV}(h:LSt B w0 yp C q wr Y y g):∃ k f s l,StV y k f s l∧∀ W,Below wr.heap.size wr W→Calls Tryz.prog 47 #[.pointer (some ⟨yp,0,none⟩)] W fun e w'=>e=.returned (.agg #[.int .i64 k,.int .i64 f,.int .i64 s,.int .i64 l])∧Below W.heap.size W w':=by
 unfold StV
 cases hj:y.j with
 | none=>exact⟨0,-1,0,0,⟨rfl,rfl,rfl,rfl⟩,fun W hb=>by have:=Hu W (h.later hb).bW h.kno.saw.yg.ok;rw[hj] at this;exact this⟩
 | some j=>exact⟨_,_,_,_,⟨rfl,rfl,rfl,rfl⟩,fun W hb=>by have:=Hu W (h.later hb).bW h.kno.saw.yg.ok;rw[hj] at this;exact this⟩
theorem JV.FU{j:JV}:j.state=4↔j.stage=4:=by
 unfold JV.state;split
 ·next h=>omega
 ·exact Iff.rfl
theorem LSt.chain{B yp C q:Nat}{w0 wr:World}{Y:Yh}{y:YV}{g:GV}(h:LSt B w0 yp C q wr Y y g)(W:World)(hb:Below wr.heap.size wr W) :
  Calls Tryz.prog 48 #[.pointer (some ⟨yp,0,none⟩)] W fun e w'=>∃(g o cap:Nat),e=.returned (.slice (some ⟨g,o,none⟩) y.l.length cap)∧Nums w' (some ⟨g,o,none⟩) y.l∧W.heap.size≤g∧g<w'.heap.size∧(y.l.length≤cap∧cap≤maxLen)∧Below W.heap.size W w' :=
 Ul W (h.later hb).bW h.kno.saw.yg.ok
theorem LSt.end{B yp C q:Nat}{w0 wr:World}{Y:Yh}{y y':YV}{g g':GV}{x:aN}(h:LSt B w0 yp C q wr Y y g)(hq:q≤100)(hr:gu (4*C) y g x y' g'){k0 f0 s0 l0 k f s l:Int}(a:StV y k0 f0 s0 l0)(b:StV y' k f s l)(hs0:s0≠4)(hs:s=4):sS y.l y'.l k f:=by
 unfold StV at a b
 cases hj':y'.j with
 | none=>rw[hj'] at b;have:=b.2.2.1;omega
 | some j' =>
  rw[hj'] at b;obtain⟨b1,b2,b3,_⟩:=b
  obtain⟨j,hj,hst,e1,e2,e3⟩:=BO h.kno.saw.yg hr (by omega) (fun j hj=>by
   rw[hj] at a;intro e
   exact hs0 (by rw[a.2.2.1];exact JV.FU.2 e)) hj' (JV.FU.1 (by rw[← b3];exact hs))
  have hin:=h.kno.saw.yg.ok.job j hj hst;have:=sS.of (h.kno.saw.yg.go hj hst)
  rw[b1,b2,e1,e2,e3,← hin.lst];exact this
theorem YOk.text{y:YV}{C m:Nat}(h:YOk y C m):y.s.bP y.l 0 ((4*C:Nat):Int)=0∧(y.s.jY y.l 0 ((4*C:Nat):Int)).size=16*(4*C)∧∀ k,k<4*C→chunk (y.s.jY y.l 0 ((4*C:Nat):Int)) k=y.s.sec y.l k:=by
 obtain⟨r,el⟩:=h.ch.head;have hl:y.l≠[]:=by rw[el];exact List.cons_ne_nil _ _
 have hcl:y.s.fV y.l=(C:Int):=h.ch.good.fV hl
 have hf:y.s.bP y.l 0 ((4*C:Nat):Int)=0:=by
  unfold SV.bP;rw[if_neg hl,if_neg (by rw[hcl];omega)]
 have e:y.s.jY y.l 0 ((4*C:Nat):Int)=y.s.jR y.l 0 (4*C):=by
  unfold SV.jY;rw[if_pos hf];rfl
 rw[e];refine⟨hf,?_,Mc h.ch.good h.s hl _ (Nat.le_refl _)⟩;rw[SV.zk (fr:=0) h.ch.good h.s hl (4*C) (by omega)]
 omega
theorem SC{a b:List UInt8}:∀ n,(∀ k,k<n→(a.drop (k*16)).take 16=(b.drop (k*16)).take 16)→a.take (n*16)=b.take (n*16):=by
 intro n
 induction n with
 | zero=>intro _;simp
 | succ n ih =>
  intro h;rw[Nat.succ_mul,List.take_add,List.take_add,ih fun k hk=>h k (by omega),h n (by omega)]
theorem QS{s t : ByteArray}{n : Nat}(hs : s.size = 16 * n)(ht : t.size = 16 * n)(h : ∀ k, k < n → chunk s k = chunk t k) : s = t := by
  have h1 := SC (a := s.data.toList) (b := t.data.toList) n h
  have e1 : s.data.toList.length = n * 16 := by have : s.data.toList.length = s.size := by simp
                                                omega
  have e2 : t.data.toList.length = n * 16 := by have : t.data.toList.length = t.size := by simp
                                                omega
  rw [List.take_of_length_le (by omega), List.take_of_length_le (by omega)] at h1
  cases s; cases t
  congr 1
  exact Array.toList_inj.1 h1
theorem LSt.tail{B yp C q:Nat}{w0 wb W:World}{Y:Yh}{y:YV}{g:GV}{b:Option Addr}{cap:Nat}(h:LSt B w0 yp C q wb Y y g)(hC:C≤32)(hb:Below wb.heap.size wb W)(hN:Nums W b y.l):∃ T:ByteArray,
  Calls Tryz.prog 51 #[.pointer (some ⟨yp,0,none⟩)] W fun e w1=>∃ yq:Nat,e=.returned (.tuple #[.pointer (some ⟨yq,0,none⟩),.bool true]) ∧
   Calls Tryz.prog 44 #[.pointer (some ⟨yp,0,none⟩)] w1 fun e w2=>e=.returned (.int .i64 ((4*C:Nat):Int)) ∧
    Calls Tryz.prog 43 #[.pointer (some ⟨yp,0,none⟩),.int .i64 0,.int .i64 ((4*C:Nat):Int)] w2 fun e w3=>e=.returned (.tuple #[.string T,.nilIface]) ∧
     Calls Tryz.prog 44 #[.pointer (some ⟨yq,0,none⟩)] w3 fun e w4=>e=.returned (.int .i64 ((4*C:Nat):Int)) ∧
      Calls Tryz.prog 43 #[.pointer (some ⟨yq,0,none⟩),.int .i64 0,.int .i64 ((4*C:Nat):Int)] w4 fun e w5=>e=.returned (.tuple #[.string T,.nilIface]) ∧
       Calls Tryz.prog 48 #[.pointer (some ⟨yq,0,none⟩)] w5 fun e w6=>∃(g1 o1 c1:Nat),e=.returned (.slice (some ⟨g1,o1,none⟩) y.l.length c1) ∧
        Calls Tryz.prog 18 #[.slice (some ⟨g1,o1,none⟩) y.l.length c1,.slice b y.l.length cap] w6 fun e w7=>e=.returned (.bool true)∧Below W.heap.size W w7:=by
 have hyg:=h.kno.saw.yg;have hW:=h.later hb;obtain⟨_,_,a3,a4,a5⟩:=hyg.alone h.kno.yt.aj;obtain⟨t1,t2,t3⟩:=hyg.ok.text;obtain⟨u1,u2,u3⟩:=a3.text;have ht:(gK (iW y) y.top).s.jY (gK (iW y) y.top).l 0 ((4*C:Nat):Int)=y.s.jY y.l 0 ((4*C:Nat):Int):=QS u2 t2 fun k hk=>by rw[u3 k hk,t3 k hk,a4];exact a5 k hk
 have hlen:=hyg.ok.ch.len;refine⟨y.s.jY y.l 0 ((4*C:Nat):Int),(H8 W hW.bW hyg h.kno.yt.aj).mono fun e w1 ⟨yq,Yq,e1,x1,b1⟩=>⟨yq,e1,?_⟩⟩
 have hW1:=hW.later b1;refine(Ht w1 hW1.bW hyg.ok).mono fun e w2 ⟨e2,b2⟩=>⟨e2,?_⟩
 have hW2:=hW1.later b2;have x2:=x1.below b2;refine(Hr 0 ((4*C:Nat):Int) w2 hW2.bW hyg.ok (by omega) (by omega)).mono fun e w3 ⟨e3,b3⟩=>⟨by rw[e3,t1,aB],?_⟩
 have x3:=x2.below b3;refine(Ht w3 x3 a3).mono fun e w4 ⟨e4,b4⟩=>⟨e4,?_⟩
 have x4:=x3.below b4;refine(Hr 0 ((4*C:Nat):Int) w4 x4 a3 (by omega) (by omega)).mono fun e w5 ⟨e5,b5⟩=>⟨by rw[e5,u1,aB,ht],?_⟩
 have x5:=x4.below b5;have hb5:Below W.heap.size W w5:=(((b1.trans (b2.mono b1.size)).trans (b3.mono (Nat.le_trans b1.size b2.size))).trans (b4.mono (Nat.le_trans b1.size (Nat.le_trans b2.size b3.size)))).trans (b5.mono (Nat.le_trans b1.size (Nat.le_trans b2.size (Nat.le_trans b3.size b4.size))));refine(Hf w5 x5 a3).mono fun e w6 ⟨g1,o1,c1,e6,n6,_,_,_,b6⟩=>⟨g1,o1,c1,by rw[e6,a4],?_⟩
 have hb6:=hb5.trans (b6.mono hb5.size);rw[a4] at n6;exact(Af y.l w6 n6 (hN.below hb6) (by omega)).mono fun e w7 ⟨e7,b7⟩=>⟨e7,hb6.trans (b7.mono hb6.size)⟩
end Go.Proofs.YtonhoahnieoebabGreatDoor
