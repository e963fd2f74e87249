/- Open: the image that stands on a device, or that there is none. -/
import Derived.Test.YtonhoahnieoebabGreatDoorQAImgOpen
set_option maxHeartbeats 2000000
set_option maxRecDepth 100000
namespace Go.Proofs.YtonhoahnieoebabGreatDoor
open Go.RowKit Go.Maps
attribute [local go_sem ↓] Go.wp_at_zero Go.wp_at_succ
theorem qF{f:Int}(h:f≠0):erV f=.iface 127 (.int .i64 f):=by unfold erV;rw[if_neg h]
theorem HV.Bz(h:HV):h.cells = #[.int .i64 h.c,.int .i64 h.p,.int .i64 h.b]:=rfl
theorem Pg{B:Gd}{h:Hd}{d:DV}(w:World)(hd:bg B w h d)(h1:gZ (bytesOf (d.seen.getD 0 []))≠0) :
  Calls Tryz.prog 134 #[.pointer (some ⟨h.p,0,none⟩)] w fun e w'=>e=.returned (.tuple #[.pointer none,erV (fO d)])∧Below w.heap.size w w':=by
 have e0:fO d=gZ (bytesOf (d.seen.getD 0 [])):=by unfold fO;rw[if_neg h1]
 rw[e0,qF h1];have HRD:=ah (kF 0 w hd.toaH hd.ok.n1);have HRH:=ah (EL (bytesOf (d.seen.getD 0 [])));rw[qF h1] at HRH;clear hd h1 e0;generalize gZ (bytesOf (d.seen.getD 0 []))=f at HRH ⊢;simp only[HV.Bz] at HRH;generalize (ji (bytesOf (d.seen.getD 0 []))).c=c at HRH;generalize (ji (bytesOf (d.seen.getD 0 []))).p=p at HRH;generalize (ji (bytesOf (d.seen.getD 0 []))).b=b at HRH;generalize bytesOf (d.seen.getD 0 [])=s at HRD HRH;go_enter Tryz.func134,Tryz.ntmps134
 go_wp2_with fail
 refine HRD.out.mono ?_;rintro e w' ⟨rfl,hw⟩;have hw':=hw.symm;subst hw';clear hw;go_wp2_with fail
 refine(HRH.out _).mono ?_;rintro e w1 ⟨rfl,hb1⟩;go_wp2
 go_ret2
 exact⟨rfl,hb1.alloc hb1.size _⟩
theorem Pm{B:Gd}{h:Hd}{d:DV}(w:World)(hd:bg B w h d)(hB:B.top≤w.heap.size)(h1:gZ (bytesOf (d.seen.getD 0 []))=0) :
    Calls Tryz.prog 134 #[.pointer (some ⟨h.p,0,none⟩)] w fun e w'=>Below w.heap.size w w' ∧
      ((fO d≠0∧e=.returned (.tuple #[.pointer none,erV (fO d)]))∨(fO d=0∧∃ x:Ih,x.h=h∧w.heap.size≤x.tb∧e=.returned (.tuple #[.pointer (some ⟨x.p,0,none⟩),.nilIface])∧aC B w' x (jB d))):=by
  have hk:(bU d).ok=true:=MG h1;have hk2:HV.ok ⟨(bU d).c,(bU d).p,(bU d).b⟩=true:=hk;have hn1:=hd.ok.n1;have hn2:=hd.ok.n2;have HRD:=ah (kF 0 w hd.toaH hn1);have HRH:=ah (EL (bytesOf (d.seen.getD 0 [])));rw[h1,aB] at HRH;simp only[HV.Bz] at HRH;have HND:=ah (fun W=>uq (bU d).c (bU d).p (bU d).b W hk2)
  have HDK:Hid (∀ W:World,Below w.heap.size w W→bg B W h d):=fun W hb=>hd.keep fun k hk=>hb.block k (hd.lt k hk).2
  have HF1:Hid (d.fl.length<aJ (bU d)→fO d=1):=fun hx=>by unfold fO;rw[if_pos h1,if_pos hx]
  have HF2:Hid (¬d.fl.length<aJ (bU d)→fO d=iP (bU d) (jA d)):=fun hx=>by unfold fO;rw[if_pos h1,if_neg hx]
  have HTG:Hid (iP (bU d) (jA d)=0→((fG (bU d) (jA d)).length:Int)=(bU d).c):=fun hx=>(Gf hx).2.2.2
  have hbo:=HV.fE hk
  have HRT:Hid (¬d.fl.length<aJ (bU d)→∀ W:World,Below w.heap.size w W→Calls Tryz.prog 230 #[.pointer (some ⟨h.p,0,none⟩),.agg #[.int .i64 (bU d).c,.int .i64 (bU d).p,.int .i64 (bU d).b]] W fun e w' =>
      ∃ lt cp,e=.returned (.tuple #[.slice lt (fG (bU d) (jA d)).length cp,erV (iP (bU d) (jA d))])∧nM W.heap.size w' lt cp (fG (bU d) (jA d))∧Below W.heap.size W w'):=fun hx W hb=>by
    refine Ql (bU d).c (bU d).p (bU d).b W (HDK.out W hb) hk2 ?_;have:=(kM hk (Nat.le_refl _)).1
    omega
  have HMD:Hid (∀(W:World) (tb tc:Nat),Below w.heap.size w W→W.ownsRow 0 211 2 (.slice (some ⟨tb,0,none⟩) (fG (bU d) (jA d)).length tc) (fG (bU d) (jA d)).length (fB (fG (bU d) (jA d)))→w.heap.size≤tb →
      Calls Tryz.prog 154 #[.pointer (some ⟨h.p,0,none⟩),.agg #[.int .i64 (bU d).c,.int .i64 (bU d).p,.int .i64 (bU d).b],.slice (some ⟨tb,0,none⟩) (fG (bU d) (jA d)).length tc] W fun e w' =>
      ∃ x:Ih,x.h=h∧x.tb=tb∧x.tc=tc∧e=.returned (.pointer (some ⟨x.p,0,none⟩))∧aC B w' x (jB d)∧Below W.heap.size W w'):=fun W tb tc hb ho hwt =>
    DZ (bU d).c (bU d).p (bU d).b (fG (bU d) (jA d)) W (HDK.out W hb) (Nat.le_trans hB hb.size) ho (B.fresh hB hwt)
  generalize jB d=V at HMD ⊢;generalize fO d=F at HF1 HF2 ⊢;generalize iP (bU d) (jA d)=TF at HF2 HRT HTG;generalize fG (bU d) (jA d)=TT at HRT HMD HTG;generalize aJ (bU d)=nn at HND HF1 HF2 HRT;have hc1:=hbo.1
  change Hid (∀ W:World,Calls Tryz.prog 229 #[.string (bytesOf (d.seen.getD 0 []))] W fun e w'=>e=.returned (.tuple #[.agg #[.int .i64 (bU d).c,.int .i64 (bU d).p,.int .i64 (bU d).b],.nilIface])∧Below W.heap.size W w') at HRH
  clear hk hk2 hbo h1;generalize (bU d).c=c at HRH HND HRT HMD HTG hc1;generalize (bU d).p=p at HRH HND HRT HMD;generalize (bU d).b=b at HRH HND HRT HMD;generalize bytesOf (d.seen.getD 0 [])=s at HRD HRH;have HSI:Hid (∀ W:World,Below w.heap.size w W→Calls Tryz.prog 153 #[.pointer (some ⟨h.p,0,none⟩)] W fun e w'=>e=.returned (.int .i64 (d.fl.length:Int))∧w'=W):=fun W hb=>size_any W (HDK.out W hb).toaH
  clear hd HDK;go_enter Tryz.func134,Tryz.ntmps134
  go_wp2_with fail
  refine HRD.out.mono ?_;rintro e w' ⟨rfl,hw⟩;have hw':=hw.symm;subst hw';clear hw;go_wp2_with fail
  refine(HRH.out _).mono ?_;rintro e w1 ⟨rfl,hb1⟩;have HB1:Hid (Below w.heap.size w (w1.alloc (.cells #[.int .i64 c,.int .i64 p,.int .i64 b] 103))):=hb1.alloc hb1.size _;have HX1:Hid ((w1.alloc (.cells #[.int .i64 c,.int .i64 p,.int .i64 b] 103)).heap[w1.heap.size]?=some (.cells #[.int .i64 c,.int .i64 p,.int .i64 b] 103 (0,0))):=heap_alloc_new _ _;clear hb1 HRD HRH;go_wp2
  generalize w1.alloc (.cells #[.int .i64 c,.int .i64 p,.int .i64 b] 103)=wA at HB1 HX1 ⊢;generalize w1.heap.size=N at HX1 ⊢;have hNl:N<wA.heap.size:=lt_of_some HX1.out;have y0:wA.cell? ⟨N,0,none⟩=some (.int .i64 c):=by rw[cell_of_row _ _ _ _ _ _ HX1.out];rfl
  have y1:wA.cell? ⟨N,1,none⟩=some (.int .i64 p):=by rw[cell_of_row _ _ _ _ _ _ HX1.out];rfl
  have y2:wA.cell? ⟨N,2,none⟩=some (.int .i64 b):=by rw[cell_of_row _ _ _ _ _ _ HX1.out];rfl
  go_region_held3 (fun W=>Below wA.heap.size wA W∧W.cell? ⟨N,0,none⟩=some (.int .i64 c)∧W.cell? ⟨N,1,none⟩=some (.int .i64 p)∧W.cell? ⟨N,2,none⟩=some (.int .i64 b))
    (first|(exact⟨Below.drew (Below.refl _ _),y0,y1,y2⟩)|assumption|(exact⟨by assumption,(Below.cell (by assumption) hNl).trans y0,(Below.cell (by assumption) hNl).trans y1,(Below.cell (by assumption) hNl).trans y2⟩))
    (first
      | (go_at_call 153;refine(HSI.out _ (HB1.out.trans (Below.mono (by assumption:Below wA.heap.size wA _∧_).1 HB1.out.size))).mono ?_;rintro e w' ⟨rfl,rfl⟩)
      | (go_at_call 101;refine(HND.out _).mono ?_;rintro e w' ⟨rfl,hb'⟩;have hB':=Below.trans (by assumption:Below wA.heap.size wA _∧_).1 (hb'.mono (by assumption:Below wA.heap.size wA _∧_).1.size)))
  all_goals
    obtain⟨hs0,z0,z1,z2⟩:=(by assumption:Below wA.heap.size wA _∧_)
    have HBW:=ah (HB1.out.trans (hs0.mono HB1.out.size));clear hs0 y0 y1 y2 HX1 hNl;by_cases hx:d.fl.length<nn
    · have hF:=HF1.out hx
      have g1:decide ((d.fl.length:Int)<(nn:Int))=true:=decide_eq_true (by omega)
      clear HF1 HF2 HRT HMD HTG;go_wp2
      go_ret2
      exact⟨HBW.out,.inl ⟨by rw[hF];decide,by rw[hF,dM];rfl⟩⟩
    · have HF:=ah (HF2.out hx)
      have g1:decide ((d.fl.length:Int)<(nn:Int))=false:=decide_eq_false (by omega)
      have HRW:=ah (HRT.out hx _ HBW.out);clear HF1 HF2 HRT;go_wp2_with fail
      refine HRW.out.mono ?_;rintro e w3 ⟨lt,cp,rfl,hto,hb3⟩;have HB3:=ah (HBW.out.trans (hb3.mono HBW.out.size));have z0':=(hb3.cell (World.block_lt_of_cell? _ _ z0)).trans z0;have z1':=(hb3.cell (World.block_lt_of_cell? _ _ z1)).trans z1;have z2':=(hb3.cell (World.block_lt_of_cell? _ _ z2)).trans z2;by_cases hT:TF=0
      · have htl:=HTG.out hT
        obtain⟨g,cp2,hv,hgB,_⟩:=hto.2.form (by omega)
        injection hv with hv1 hv2 hv3
        subst hv1;subst hv3;have HOW:Hid (w3.ownsRow 0 211 2 (.slice (some ⟨g,0,none⟩) TT.length cp) TT.length (fB TT)):=ownsRow_base hto.2 (Nat.zero_le _);have HMM:=ah (HMD.out w3 g cp HB3.out HOW.out (Nat.le_trans HBW.out.size hgB));have HGB:Hid (w.heap.size≤g):=Nat.le_trans HBW.out.size hgB;have hF0:F=0:=HF.out.trans hT;rw[hT,aB];clear hto hb3 HRW HMD HTG htl hgB hT HF z0 z1 z2;generalize TT.length=tl at HMM;go_wp2_with fail
        refine HMM.out.mono ?_;rintro e w4 ⟨x,hxh,hxt,hxc,rfl,hi4,hb4⟩;have HI4:=ah hi4;have HB4:=ah (HB3.out.trans (hb4.mono HB3.out.size));have HXH:=ah hxh;have HXT:Hid (w.heap.size≤x.tb):=by unfold Hid;rw[hxt];exact HGB.out
        clear hi4 hb4 hxh hxt hxc HMM;go_wp2
        go_ret2
        exact⟨HB4.out,.inr ⟨hF0,x,HXH.out,HXT.out,rfl,HI4.out⟩⟩
      · have HFF:Hid (F=TF):=HF.out
        have HNT:=ah hT;have HEE:=ah (qF hT);rw[qF hT];clear hto hb3 HRW HMD HTG hT HF z0 z1 z2 z0' z1' z2';go_wp2
        go_ret2
        exact⟨HB3.out,.inl ⟨by rw[HFF.out];exact HNT.out,by rw[HFF.out,HEE.out];rfl⟩⟩
theorem EC{B:Gd}{h:Hd}{d:DV}(w:World)(hd:bg B w h d)(hB:B.top≤w.heap.size) :
  Calls Tryz.prog 134 #[.pointer (some ⟨h.p,0,none⟩)] w fun e w'=>Below w.heap.size w w' ∧
   ((fO d≠0∧e=.returned (.tuple #[.pointer none,erV (fO d)]))∨(fO d=0∧∃ x:Ih,x.h=h∧w.heap.size≤x.tb∧e=.returned (.tuple #[.pointer (some ⟨x.p,0,none⟩),.nilIface])∧aC B w' x (jB d))):=by
 by_cases h1:gZ (bytesOf (d.seen.getD 0 []))=0
 ·exact Pm w hd hB h1
 ·refine(Pg w hd h1).mono ?_
  rintro e w' ⟨rfl,hb⟩;have e0:fO d=gZ (bytesOf (d.seen.getD 0 [])):=by unfold fO;rw[if_neg h1]
  exact⟨hb,.inl ⟨by rw[e0];exact h1,rfl⟩⟩
def DV.dQ(d:DV)(t:List (Int × Int)):Nat→DV × Int
 | 0=>(d,0)
 | k+1=>if (d.dQ t k).2=0 then ((d.dQ t k).1.put (1+k) (dG t (k:Int)).data.toList,(d.dQ t k).1.aQ) else d.dQ t k
theorem DV.uN{d:DV}{t:List (Int × Int)}{k:Nat}(h:(d.dQ t k).2=0):d.dQ t (k+1)=((d.dQ t k).1.put (1+k) (dG t (k:Int)).data.toList,(d.dQ t k).1.aQ):=by
 show(if (d.dQ t k).2=0 then _ else _)=_
 rw[if_pos h]
theorem DV.Ae{d:DV}{t:List (Int × Int)}{k:Nat}(h:(d.dQ t k).2≠0):∀ j,k≤j→d.dQ t j=d.dQ t k:=by
 intro j hj
 induction j with
 | zero=>rw[show(0:Nat)=k by omega]
 | succ j ih =>
  by_cases e:k=j+1
  ·rw[← e]
  ·have h1:=ih (by omega)
   show(if (d.dQ t j).2=0 then _ else d.dQ t j)=_
   rw[h1,if_neg h]
def crT(h:HV):List (Int × Int):=List.replicate h.c.toNat (0,0)
def crD(d:DV)(h:HV):DV × Int:=d.dQ (crT h) (aA h.c.toNat)
def lM(d:DV)(h:HV):IV:=⟨(crD d h).1,h,crT h,[]⟩
def crV(d:DV)(h:HV):IV:=(lM d h).gJ h
def kP(d:DV)(h:HV):DV:=if h.ok=true∧aJ h≤d.fl.length then (if (crD d h).2=0 then (crV d h).d else (crD d h).1) else d
def crF(d:DV)(h:HV):Int:=if h.ok=true then (if d.fl.length<aJ h then 1 else if (crD d h).2=0 then (lM d h).flush.d.aQ else (crD d h).2) else 1
theorem vY(h:HV)(hk:h.ok=true):((crT h).length:Int)=h.c:=by
 have:=HV.fE hk
 unfold crT;rw[List.length_replicate];omega
theorem yM(h:HV):∀ e∈crT h,bM e.1 e.2 h.p=true:=by
 intro e he;rw[List.eq_of_mem_replicate he];exact kS (.inr ⟨.inl rfl,rfl⟩)
theorem BQ(h:HV)(hk:h.ok=true)(k:Nat)(hr:k<aA h.c.toNat):jM (crT h) (k:Int)=0∧(dG (crT h) (k:Int)).size=16 :=
 uM hk (vY h hk) (yM h) k (by have:=vY h hk;have:=HV.fE hk;rw[show(crT h).length=h.c.toNat by omega];exact hr)
theorem vX{d:DV}{m:Nat}{h:HV}(hd:d.fine d.fl.length m)(hk:h.ok=true)(hn:aJ h≤d.fl.length)(hm:m+10<1000000000):∀ k,k≤aA h.c.toNat→(d.dQ (crT h) k).1.fine d.fl.length (m+k):=by
 have hb:=(kM hk hn).1;have hrn:aA h.c.toNat≤5:=by have:=HV.fE hk;unfold aA;omega
 intro k
 induction k with
 | zero=>intro _;exact hd
 | succ k ih =>
  intro hkn;have h1:=ih (by omega)
  by_cases h0:(d.dQ (crT h) k).2=0
  ·rw[DV.uN h0]
   exact h1.put (by omega) (by have:=(BQ h hk k (by omega)).2;simpa using this) (by omega)
  ·rw[DV.Ae h0 (k+1) (by omega)]
   exact h1.more (by omega)
theorem yN{d:DV}{m:Nat}{h:HV}(hd:d.fine d.fl.length m)(hk:h.ok=true)(hn:aJ h≤d.fl.length)(hm:m+10<1000000000):(lM d h).ok (m+5):=by
 have hrn:aA h.c.toNat≤5:=by have:=HV.fE hk;unfold aA;omega
 have h1:=(vX hd hk hn hm _ (Nat.le_refl _)).more (show m+aA h.c.toNat≤m+5 by omega)
 refine⟨?_,hk,vY h hk,yM h,?_,(fun q hq=>by cases hq),Nat.zero_le _⟩
 ·show(crD d h).1.fine (crD d h).1.fl.length (m+5)
  unfold crD;rw[h1.len];exact h1
 ·show aJ h≤(crD d h).1.fl.length
  unfold crD;rw[h1.len];exact hn
theorem wo{d:DV}{m:Nat}{h:HV}(hd:d.fine d.fl.length m)(hk:h.ok=true)(hn:aJ h≤d.fl.length)(hm:m+20<1000000000):(crV d h).ok (m+15) :=
 ((yN hd hk hn (by omega)).gJ hk rfl rfl (by omega)).more (by omega)
theorem Jk{B:Gd}{h:Hd}{d:DV}(c p b:Int)(w:World)(hd:bg B w h d)(hn:¬(HV.ok ⟨c,p,b⟩=true∧aJ ⟨c,p,b⟩≤d.fl.length)) :
    Calls Tryz.prog 60 #[.pointer (some ⟨h.p,0,none⟩),.agg #[.int .i64 c,.int .i64 p,.int .i64 b]] w fun e w'=>e=.returned (.tuple #[.pointer none,.iface 127 (.int .i64 1)])∧Below w.heap.size w w':=by
  have HCH:=ah (oZ c p b)
  cases hk:HV.ok ⟨c,p,b⟩ with
  | false =>
    have e1:HV.fault ⟨c,p,b⟩=1:=by unfold HV.fault;rw[hk];rfl
    rw[e1,dM] at HCH;clear hd hn hk e1;go_enter Tryz.func60,Tryz.ntmps60
    go_wp2_with fail
    refine(HCH.out _).mono ?_;rintro e w1 ⟨rfl,hb1⟩;go_wp2
    go_ret2
    exact⟨rfl,((Below.refl _ _).alloc (Nat.le_refl _) _).trans (hb1.mono (by simp))⟩
  | true =>
    have e1:HV.fault ⟨c,p,b⟩=0:=by unfold HV.fault;rw[hk];rfl
    rw[e1,aB] at HCH
    have hlt:d.fl.length<aJ ⟨c,p,b⟩:=by
      by_cases hx:aJ ⟨c,p,b⟩≤d.fl.length
      · exact absurd ⟨hk,hx⟩ hn
      · omega
    have HND:=ah (fun W=>uq c p b W hk)
    have HSI:Hid (∀ W:World,Below w.heap.size w W→Calls Tryz.prog 153 #[.pointer (some ⟨h.p,0,none⟩)] W fun e w'=>e=.returned (.int .i64 (d.fl.length:Int))∧w'=W):=fun W hb=>size_any W (hd.keep fun k hk=>hb.block k (hd.lt k hk).2).toaH
    generalize aJ ⟨c,p,b⟩=nn at HND hlt;clear hd hn hk e1;go_enter Tryz.func60,Tryz.ntmps60
    go_wp2_with fail
    refine(HCH.out _).mono ?_;rintro e wA ⟨rfl,hb1⟩;have HB1:Hid (Below w.heap.size w wA):=((Below.refl _ _).alloc (Nat.le_refl _) _).trans (hb1.mono (by simp))
    have hx1:wA.heap[w.heap.size]?=some (.cells #[.int .i64 c,.int .i64 p,.int .i64 b] 103 (0,0)):=by rw[hb1.block _ (by simp),heap_alloc_new]
    have hNl:w.heap.size<wA.heap.size:=lt_of_some hx1;have y0:wA.cell? ⟨w.heap.size,0,none⟩=some (.int .i64 c):=by rw[cell_of_row _ _ _ _ _ _ hx1];rfl
    have y1:wA.cell? ⟨w.heap.size,1,none⟩=some (.int .i64 p):=by rw[cell_of_row _ _ _ _ _ _ hx1];rfl
    have y2:wA.cell? ⟨w.heap.size,2,none⟩=some (.int .i64 b):=by rw[cell_of_row _ _ _ _ _ _ hx1];rfl
    clear hb1 hx1 HCH;go_wp2
    go_region_held3 (fun W=>Below wA.heap.size wA W∧W.cell? ⟨w.heap.size,0,none⟩=some (.int .i64 c)∧W.cell? ⟨w.heap.size,1,none⟩=some (.int .i64 p)∧W.cell? ⟨w.heap.size,2,none⟩=some (.int .i64 b))
      (first|(exact⟨Below.drew (Below.refl _ _),y0,y1,y2⟩)|assumption|(exact⟨by assumption,(Below.cell (by assumption) hNl).trans y0,(Below.cell (by assumption) hNl).trans y1,(Below.cell (by assumption) hNl).trans y2⟩))
      (first
        | (go_at_call 153;refine(HSI.out _ (HB1.out.trans (Below.mono (by assumption:Below wA.heap.size wA _∧_).1 HB1.out.size))).mono ?_;rintro e w' ⟨rfl,rfl⟩)
        | (go_at_call 101;refine(HND.out _).mono ?_;rintro e w' ⟨rfl,hb'⟩;have hB':=Below.trans (by assumption:Below wA.heap.size wA _∧_).1 (hb'.mono (by assumption:Below wA.heap.size wA _∧_).1.size)))
    all_goals
      obtain⟨hs0,z0,z1,z2⟩:=(by assumption:Below wA.heap.size wA _∧_)
      have HBW:=ah (HB1.out.trans (hs0.mono HB1.out.size));have g1:decide ((d.fl.length:Int)<(nn:Int))=true:=decide_eq_true (by omega)
      clear hs0 y0 y1 y2 hNl;go_wp2
      go_ret2
      exact⟨rfl,HBW.out⟩
theorem Ky(n:Nat):fB (List.replicate n (0,0))=List.replicate (n*2) (.int .i64 0):=by
 induction n with
 | zero=>rfl
 | succ n ih =>
  rw[List.replicate_succ];have e1:∀(y:Int × Int) (l:List (Int × Int)),fB (y::l)=.int .i64 y.1::.int .i64 y.2::fB l:=fun _ _=>rfl
  rw[e1,ih,show(n+1)*2=n*2+1+1 by omega,List.replicate_succ,List.replicate_succ]
theorem N9(n:Nat):(madeCells (Value.agg #[.int .i64 0,.int .i64 0]).cells (n*2)).toList=fB (List.replicate n (0,0)):=by
 rw[Ky];apply List.ext_getElem
 ·simp[madeCells]
 ·intro i h1 h2
  simp[madeCells,Value.cells]
  rcases Nat.mod_two_eq_zero_or_one i with h|h<;>simp[h]
theorem Jg{d:DV}{h:HV}(hk:h.ok=true)(hn:aJ h≤d.fl.length):crF d h=if (crD d h).2=0 then (lM d h).flush.d.aQ else (crD d h).2:=by
 unfold crF;rw[if_pos hk,if_neg (by omega)]
theorem Jl{B:Gd}{m:Nat}{h:Hd}{d:DV}(nc:Nat)(p b:Int)(w:World)(hd:bg B w h d)(hf:d.fine d.fl.length m)(hm:m+20<1000000000)(hB:B.top≤w.heap.size)(hk:HV.ok ⟨(nc:Int),p,b⟩=true)(hn:aJ ⟨(nc:Int),p,b⟩≤d.fl.length) :
    Calls Tryz.prog 60 #[.pointer (some ⟨h.p,0,none⟩),.agg #[.int .i64 (nc:Int),.int .i64 p,.int .i64 b]] w fun e w' =>
      ∃ x:Ih,x.h.p=h.p∧w.heap.size≤x.tb∧aP B x.tb w w'∧((crF d ⟨(nc:Int),p,b⟩=0∧e=.returned (.tuple #[.pointer (some ⟨x.p,0,none⟩),.nilIface])∧aC B w' x (crV d ⟨(nc:Int),p,b⟩)) ∨
        (crF d ⟨(nc:Int),p,b⟩≠0∧e=.returned (.tuple #[.pointer none,erV (crF d ⟨(nc:Int),p,b⟩)])∧bg B w' x.h (kP d ⟨(nc:Int),p,b⟩))):=by
  have HCH:=ah (oZ (nc:Int) p b);have e1:HV.fault ⟨(nc:Int),p,b⟩=0:=by unfold HV.fault;rw[hk];rfl
  rw[e1,aB] at HCH;have HND:=ah (fun W=>uq (nc:Int) p b W hk)
  have HDK:Hid (∀ W:World,Below w.heap.size w W→bg B W h d):=fun W hb=>hd.keep fun k hk=>hb.block k (hd.lt k hk).2
  have HSI:Hid (∀ W:World,Below w.heap.size w W→Calls Tryz.prog 153 #[.pointer (some ⟨h.p,0,none⟩)] W fun e w'=>e=.returned (.int .i64 (d.fl.length:Int))∧w'=W):=fun W hb=>size_any W (HDK.out W hb).toaH
  have hbo:=HV.fE hk;simp only at hbo;have HR:Hid (∀ W:World,Calls Tryz.prog 155 #[.int .i64 (nc:Int)] W fun e w'=>e=.returned (.int .i64 (aA nc:Int))∧w'=W):=fun W=>qh nc W (by omega)
  have hrn:aA nc≤5:=by unfold aA;omega
  have hbeg:aA nc<d.fl.length:=(kM hk hn).1;obtain⟨i0,hi0,hz0,hz1,hz2⟩:=info_parts zu;have HTL:Hid ((crT ⟨(nc:Int),p,b⟩).length=nc):=by unfold Hid crT;rw[List.length_replicate];rfl
  have HTT:Hid (crT ⟨(nc:Int),p,b⟩=List.replicate nc (0,0)):=rfl
  have HWR:Hid (∀(k:Nat) (W w0:World) (x:Ih) (y:Hd),k<aA nc→B.top≤w0.heap.size→(d.dQ (crT ⟨(nc:Int),p,b⟩) k).2=0→mg B x.tb w0 x ⟨d,⟨(nc:Int),p,b⟩,crT ⟨(nc:Int),p,b⟩,[]⟩ (d.dQ (crT ⟨(nc:Int),p,b⟩) k).1 y W →
      Calls Tryz.prog 156 #[.pointer (some ⟨x.p,0,none⟩),.int .i64 (k:Int)] W fun e w' =>
      ∃ y2:Hd,e=.returned (erV (d.dQ (crT ⟨(nc:Int),p,b⟩) (k+1)).2)∧y2.p=y.p∧mg B x.tb w0 x ⟨d,⟨(nc:Int),p,b⟩,crT ⟨(nc:Int),p,b⟩,[]⟩ (d.dQ (crT ⟨(nc:Int),p,b⟩) (k+1)).1 y2 w'):=fun k W w0 x y hkn hB0 h0 hat=>by
    have hfk:=vX hf hk hn (by omega) k (Nat.le_of_lt hkn)
    obtain⟨hr1,hr2⟩:=BQ ⟨(nc:Int),p,b⟩ hk k hkn;have h1:=GN k W hat.img (m:=m+k) (by show(d.dQ (crT ⟨(nc:Int),p,b⟩) k).1.fine (d.dQ (crT ⟨(nc:Int),p,b⟩) k).1.fl.length (m+k);rw[hfk.len];exact hfk) (by omega) (Nat.le_trans hB0 hat.kept.size) (by show(crT ⟨(nc:Int),p,b⟩).length≤32;rw[HTL.out];omega) (by show k+1<(d.dQ (crT ⟨(nc:Int),p,b⟩) k).1.fl.length;rw[hfk.len];omega) hr1 hr2
    refine h1.mono ?_;rintro e w' ⟨y2,rfl,hy2,hi2,hk2⟩;refine⟨y2,?_,hy2,⟨?_,aP.trans hat.kept hk2⟩⟩
    · rw[DV.uN h0]
    · rw[DV.uN h0];exact hi2
  have HEN:Hid (∀ k,(d.dQ (crT ⟨(nc:Int),p,b⟩) k).2≠0→k≤aA nc→crD d ⟨(nc:Int),p,b⟩=d.dQ (crT ⟨(nc:Int),p,b⟩) k):=fun k hk0 hkn=>DV.Ae hk0 _ hkn
  have HL1:Hid (∀ k,(d.dQ (crT ⟨(nc:Int),p,b⟩) k).2≠0→k≤aA nc→kP d ⟨(nc:Int),p,b⟩=(d.dQ (crT ⟨(nc:Int),p,b⟩) k).1):=fun k hk0 hkn=>by unfold kP;rw[if_pos ⟨hk,hn⟩,HEN.out k hk0 hkn,if_neg hk0]
  have HL2:Hid ((crD d ⟨(nc:Int),p,b⟩).2=0→kP d ⟨(nc:Int),p,b⟩=(crV d ⟨(nc:Int),p,b⟩).d):=fun h0=>by unfold kP;rw[if_pos ⟨hk,hn⟩,if_pos h0]
  have HEQ:Hid (d.dQ (crT ⟨(nc:Int),p,b⟩) (aA nc)=crD d ⟨(nc:Int),p,b⟩):=rfl;have H00:Hid (d.dQ (crT ⟨(nc:Int),p,b⟩) 0=(d,0)):=rfl;have HF:=ah (Jg hk hn)
  have HSH:Hid (∀(W:World) (x:Ih),aC B W x (lM d ⟨(nc:Int),p,b⟩)→B.top≤W.heap.size→Calls Tryz.prog 157 #[.pointer (some ⟨x.p,0,none⟩),.agg #[.int .i64 (nc:Int),.int .i64 p,.int .i64 b]] W fun e w' =>
      ∃ h':Hd,e=.returned (erV (lM d ⟨(nc:Int),p,b⟩).flush.d.aQ)∧h'.p=x.h.p∧aC B w' { x with h:=h' } (crV d ⟨(nc:Int),p,b⟩)∧aP B x.tb W w'):=fun W x hi hb =>
    Fv (nc:Int) p b W hi (yN hf hk hn (by omega)).d (by omega) hb hk
  have HV0:Hid (∀ y:DV,y=(crD d ⟨(nc:Int),p,b⟩).1→(⟨y,⟨(nc:Int),p,b⟩,crT ⟨(nc:Int),p,b⟩,[]⟩:IV)=lM d ⟨(nc:Int),p,b⟩):=fun y hy=>by rw[hy];rfl
  have HMD:Hid (∀(W:World) (tb tc:Nat),Below w.heap.size w W→W.ownsRow 0 211 2 (.slice (some ⟨tb,0,none⟩) nc tc) nc (fB (crT ⟨(nc:Int),p,b⟩))→w.heap.size≤tb →
      Calls Tryz.prog 154 #[.pointer (some ⟨h.p,0,none⟩),.agg #[.int .i64 (nc:Int),.int .i64 p,.int .i64 b],.slice (some ⟨tb,0,none⟩) nc tc] W fun e w' =>
      ∃ x:Ih,x.h=h∧x.tb=tb∧x.tc=tc∧e=.returned (.pointer (some ⟨x.p,0,none⟩))∧aC B w' x ⟨d,⟨(nc:Int),p,b⟩,crT ⟨(nc:Int),p,b⟩,[]⟩∧Below W.heap.size W w'):=fun W tb tc hb ho hwt=>by
    have:=DZ (tb:=tb) (tc:=tc) (nc:Int) p b (crT ⟨(nc:Int),p,b⟩) W (HDK.out W hb) (Nat.le_trans hB hb.size) (by rw[HTL.out];exact ho) (B.fresh hB hwt)
    rw[HTL.out] at this;exact this
  have HMZ:Hid ((madeCells (Value.agg #[.int .i64 0,.int .i64 0]).cells (nc*2)).toList=fB (crT ⟨(nc:Int),p,b⟩)):=N9 nc;have hlen:aJ ⟨(nc:Int),p,b⟩≤d.fl.length:=hn;generalize aJ ⟨(nc:Int),p,b⟩=nn at HND hlen;clear hd hn hk e1 hf HDK hbeg HTL HTT;generalize crF d ⟨(nc:Int),p,b⟩=F at HF ⊢;generalize kP d ⟨(nc:Int),p,b⟩=CL at HL1 HL2 ⊢;generalize (lM d ⟨(nc:Int),p,b⟩).flush.d.aQ=pf at HF HSH;generalize crV d ⟨(nc:Int),p,b⟩=V at HSH HL2 ⊢;generalize d.dQ (crT ⟨(nc:Int),p,b⟩)=RP at HWR HEN HEQ H00 HL1;generalize crD d ⟨(nc:Int),p,b⟩=CD at HEN HEQ HF HV0 HL2;generalize lM d ⟨(nc:Int),p,b⟩=V0 at HSH HV0
  generalize crT ⟨(nc:Int),p,b⟩=T at HWR HMD HMZ HV0;generalize hrr:aA nc=rn at HR hrn HWR HEN HEQ HL1;clear hrr;go_enter Tryz.func60,Tryz.ntmps60
  go_wp2_with fail
  refine(HCH.out _).mono ?_;rintro e wA ⟨rfl,hb1⟩;have HB1:Hid (Below w.heap.size w wA):=((Below.refl _ _).alloc (Nat.le_refl _) _).trans (hb1.mono (by simp))
  have HX1:Hid (wA.heap[w.heap.size]?=some (.cells #[.int .i64 (nc:Int),.int .i64 p,.int .i64 b] 103 (0,0))):=by unfold Hid;rw[hb1.block _ (by simp),heap_alloc_new]
  have hNl:w.heap.size<wA.heap.size:=lt_of_some HX1.out;have y0:wA.cell? ⟨w.heap.size,0,none⟩=some (.int .i64 (nc:Int)):=by rw[cell_of_row _ _ _ _ _ _ HX1.out];rfl
  have y1:wA.cell? ⟨w.heap.size,1,none⟩=some (.int .i64 p):=by rw[cell_of_row _ _ _ _ _ _ HX1.out];rfl
  have y2:wA.cell? ⟨w.heap.size,2,none⟩=some (.int .i64 b):=by rw[cell_of_row _ _ _ _ _ _ HX1.out];rfl
  clear hb1 HCH;go_wp2
  go_region_held3 (fun W=>Below wA.heap.size wA W∧W.cell? ⟨w.heap.size,0,none⟩=some (.int .i64 (nc:Int))∧W.cell? ⟨w.heap.size,1,none⟩=some (.int .i64 p)∧W.cell? ⟨w.heap.size,2,none⟩=some (.int .i64 b))
    (first|(exact⟨Below.drew (Below.refl _ _),y0,y1,y2⟩)|assumption|(exact⟨by assumption,(Below.cell (by assumption) hNl).trans y0,(Below.cell (by assumption) hNl).trans y1,(Below.cell (by assumption) hNl).trans y2⟩))
    (first
      | (go_at_call 153;refine(HSI.out _ (HB1.out.trans (Below.mono (by assumption:Below wA.heap.size wA _∧_).1 HB1.out.size))).mono ?_;rintro e w' ⟨rfl,hw⟩;have hw':=hw.symm;subst hw';clear hw)
      | (go_at_call 101;refine(HND.out _).mono ?_;rintro e wN ⟨rfl,hb'⟩;have hB':=Below.trans (by assumption:Below wA.heap.size wA _∧_).1 (hb'.mono (by assumption:Below wA.heap.size wA _∧_).1.size)))
  all_goals
    obtain⟨hs0,z0,z1,z2⟩:=(by assumption:Below wA.heap.size wA wN∧_)
    have HBW:=ah (HB1.out.trans (hs0.mono HB1.out.size));have HX2:Hid (wN.heap[w.heap.size]?=some (.cells #[.int .i64 (nc:Int),.int .i64 p,.int .i64 b] 103 (0,0))):=by unfold Hid;rw[hs0.block _ hNl];exact HX1.out
    have g1:decide ((d.fl.length:Int)<(nn:Int))=false:=decide_eq_false (by omega)
    have g2:¬d.fl.length<nn:=by omega
    obtain⟨wM,hmk,hown,hgr⟩:=run_make_full (P:=Tryz.prog) wN.drew 0 128 211 i0 (.agg #[.int .i64 0,.int .i64 0]) 2 Tryz.underlying128 hi0 hz0 hz1 .i64 .i64 nc (by rw[hz2];omega) (by unfold maxLen;omega) (Nat.zero_le _)
    have hbM:Below wN.heap.size wN wM:=((Below.refl _ _).drew).grown hgr (Nat.le_refl _) (fun k e=>by cases e)
    have HBM:=ah (HBW.out.trans (hbM.mono HBW.out.size));have HOM:Hid (wM.ownsRow 0 211 2 (.slice (some ⟨wN.heap.size,0,none⟩) nc nc) nc (fB T)):=by unfold Hid;rw[← HMZ.out];exact hown
    have hNN:w.heap.size<wN.heap.size:=lt_of_some HX2.out;have HMM:=ah (HMD.out wM wN.heap.size nc HBM.out HOM.out (Nat.le_of_lt hNN));have hm0:=(hbM.cell (p:=⟨w.heap.size,0,none⟩) hNN).trans z0;have hm1:=(hbM.cell (p:=⟨w.heap.size,1,none⟩) hNN).trans z1;have hm2:=(hbM.cell (p:=⟨w.heap.size,2,none⟩) hNN).trans z2;have HXM:Hid (wM.heap[w.heap.size]?=some (.cells #[.int .i64 (nc:Int),.int .i64 p,.int .i64 b] 103 (0,0))):=by unfold Hid;rw[hbM.block _ hNN];exact HX2.out
    clear hs0 y0 y1 y2 hNl hown hgr HMD HX1 HX2 HB1 HSI HND;go_wp2
    go_region_held3 (fun W=>W.cell? ⟨w.heap.size,0,none⟩=some (.int .i64 (nc:Int))∧W.cell? ⟨w.heap.size,1,none⟩=some (.int .i64 p)∧W.cell? ⟨w.heap.size,2,none⟩=some (.int .i64 b))
      (first|(exact⟨z0,z1,z2⟩)|(exact⟨hm0,hm1,hm2⟩)|assumption)
      (first
        | (go_at_call 154;refine HMM.out.mono ?_;rintro e wI ⟨x,hxh,hxt,hxc,rfl,hiI,hbI⟩;have hSI:wI.cell? ⟨w.heap.size,0,none⟩=some (.int .i64 (nc:Int))∧wI.cell? ⟨w.heap.size,1,none⟩=some (.int .i64 p)∧wI.cell? ⟨w.heap.size,2,none⟩=some (.int .i64 b):=⟨(hbI.cell (World.block_lt_of_cell? _ _ hm0)).trans hm0,(hbI.cell (World.block_lt_of_cell? _ _ hm1)).trans hm1,(hbI.cell (World.block_lt_of_cell? _ _ hm2)).trans hm2⟩))
    have HBI:=ah (HBM.out.trans (hbI.mono HBM.out.size));have HXI:Hid (wI.heap[w.heap.size]?=some (.cells #[.int .i64 (nc:Int),.int .i64 p,.int .i64 b] 103 (0,0))):=by unfold Hid;rw[hbI.block _ (lt_of_some HXM.out)];exact HXM.out
    have HXH:Hid (x.h.p=h.p):=by unfold Hid;rw[hxh]
    have HXT:Hid (w.heap.size<x.tb):=by unfold Hid;rw[hxt];exact hNN
    have hBI:B.top≤wI.heap.size:=Nat.le_trans hB HBI.out.size;have HII:=ah hiI;have q0:=hSI.1;clear hxh hxt hxc hiI hbI HMM hm0 hm1 hm2 HXM HBM hbM HOM hmk z0 z1 z2 hSI HBW hNN;go_wp2_with (go_at_call 155;refine(HR.out _).mono ?_;rintro e w' ⟨rfl,hw⟩;have hw':=hw.symm;subst hw';clear hw)
    clear q0;go_loopw [31] (fun i wr=>∃(k:Nat) (y:Hd),k≤rn∧i=.int .i64 k∧(RP k).2=0∧y.p=h.p∧mg B x.tb wI x ⟨d,⟨(nc:Int),p,b⟩,T,[]⟩ (RP k).1 y wr) (fun i _=>rn-(intOf i).toNat)
    case atStart=>exact⟨0,x.h,Nat.zero_le _,rfl,by rw[H00.out],HXH.out,⟨by rw[H00.out];exact HII.out,aP.refl _ _ _⟩⟩
    case round =>
      obtain⟨k,y,hkn,rfl,hf0,hyp,hat⟩:=hrel;by_cases hlt:k<rn
      · have HWK:=ah (HWR.out k wr wI x y hlt hBI hf0 hat)
        have HYP:=ah hyp;clear hat hyp hf0 HWR;go_wp2_with fail
        refine HWK.out.mono ?_;rintro e w3 ⟨y3,rfl,hyp3,hat3⟩;have HYP3:Hid (y3.p=h.p):=hyp3.trans HYP.out;have HA3:=ah hat3;clear hyp3 hat3 HWK HYP;by_cases hz:(RP (k+1)).2=0
        · have HZ:=ah hz
          have e0:erV (RP (k+1)).2=.nilIface:=by rw[hz,aB]
          rw[e0];clear hz e0;go_wp2
          go_roundw
          case rel =>
            have fin:∃(k1:Nat) (y1:Hd),k1≤rn∧Value.int .i64 ((k:Int)+1)=.int .i64 k1∧(RP k1).2=0∧y1.p=h.p∧mg B x.tb wI x ⟨d,⟨(nc:Int),p,b⟩,T,[]⟩ (RP k1).1 y1 w3:=⟨k+1,y3,by omega,by go_num,HZ.out,HYP3.out,HA3.out⟩
            first|exact fin|((repeat apply Exists.intro);exact⟨fin,rfl⟩)
          case measure=>simp[intOf];omega
        · have HE:=HEN.out (k+1) hz (by omega)
          have HF3:Hid (F=(RP (k+1)).2):=by unfold Hid;rw[HF.out,HE,if_neg hz]
          have h7:erV (RP (k+1)).2=.iface 127 (.int .i64 (RP (k+1)).2):=qF hz;have H7:=ah h7;have HNZ:=ah hz;have HCE:Hid (CL=(RP (k+1)).1):=HL1.out (k+1) hz (by omega)
          rw[h7];clear hz HE h7;go_wp2
          go_ret2
          refine⟨{ x with h:=y3 },HYP3.out,Nat.le_of_lt HXT.out,aP.trans (aP.of_below HBI.out) HA3.out.kept,.inr ⟨?_,?_,?_⟩⟩
          · rw[HF3.out];exact HNZ.out
          · rw[HF3.out,H7.out];rfl
          · rw[HCE.out];exact HA3.out.img.dev
      · have hke:k=rn:=by omega
        subst hke;have hi4:=hat.img;have hv0:=HV0.out (RP k).1 (by rw[HEQ.out])
        rw[hv0] at hi4;have hB4:B.top≤wr.heap.size:=Nat.le_trans hBI hat.kept.size;have HS4:=ah (HSH.out wr { x with h:=y } hi4 hB4)
        have hx4:=hat.kept.box HXI.out (by decide) (by have:=HXT.out;omega)
        have z0:wr.cell? ⟨w.heap.size,0,none⟩=some (.int .i64 (nc:Int)):=by rw[cell_of_row _ _ _ _ _ _ hx4];rfl
        have z1:wr.cell? ⟨w.heap.size,1,none⟩=some (.int .i64 p):=by rw[cell_of_row _ _ _ _ _ _ hx4];rfl
        have z2:wr.cell? ⟨w.heap.size,2,none⟩=some (.int .i64 b):=by rw[cell_of_row _ _ _ _ _ _ hx4];rfl
        have HK4:=ah (aP.trans (aP.of_below HBI.out) hat.kept);have HYP:=ah hyp;have HF4:Hid (F=pf):=by unfold Hid;rw[HF.out,← HEQ.out,if_pos hf0]
        have HCZ:Hid (CL=V.d):=HL2.out (by rw[← HEQ.out];exact hf0)
        clear hat hyp hf0 HWR hi4 hv0 hx4 HEN HEQ HF HSH HV0;go_wp2_with fail
        refine HS4.out.mono ?_;rintro e w5 ⟨h5,rfl,hp5,hi5,hk5⟩;have HP5:Hid (h5.p=h.p):=hp5.trans HYP.out;have HI5:=ah hi5;have HK5:=ah (aP.trans HK4.out hk5);clear hp5 hi5 hk5 HS4 z0 z1 z2;by_cases hz:pf=0
        · have HZ:=ah hz
          rw[hz,aB];clear hz;go_wp2
          go_ret2
          exact⟨{ x with h:=h5 },HP5.out,Nat.le_of_lt HXT.out,HK5.out,.inl ⟨HF4.out.trans HZ.out,rfl,HI5.out⟩⟩
        · have HNZ:=ah hz
          have H7:=ah (qF hz);rw[qF hz];clear hz;go_wp2
          go_ret2
          refine⟨{ x with h:=h5 },HP5.out,Nat.le_of_lt HXT.out,HK5.out,.inr ⟨?_,?_,?_⟩⟩
          · rw[HF4.out];exact HNZ.out
          · rw[HF4.out,H7.out];rfl
          · rw[HCZ.out];exact HI5.out.dev
end Go.Proofs.YtonhoahnieoebabGreatDoor
