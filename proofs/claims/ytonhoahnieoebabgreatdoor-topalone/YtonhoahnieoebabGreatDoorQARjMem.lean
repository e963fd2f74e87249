/- What a job wants at first (program). -/
import Derived.Test.YtonhoahnieoebabGreatDoorQAJobN1
set_option maxHeartbeats 2000000
set_option maxRecDepth 100000
namespace Go.Proofs.YtonhoahnieoebabGreatDoor
open Go.RowKit Go.Maps
attribute [local go_sem ↓] Go.wp_at_zero Go.wp_at_succ
theorem TN{jp sp cap C m:Nat}{a:Option Addr}{xs:Nat→Ih}{s:SV}{j:JV}(w:World)(hd:JHd w jp sp a cap j)(hs:aV w sp xs s m)(hn:Nums w a j.l)(ok:JOk s C j) :
  Calls Tryz.prog 85 #[.pointer (some ⟨jp,0,none⟩),.int .i64 (j.n:Int)] w fun e w'=>∃ lp,e=.returned (.tuple #[.pointer (some ⟨lp,0,none⟩),.nilIface])∧S4.fU w' lp j.n (kJ s j j.n)∧w.heap.size≤lp∧Below w.heap.size w w':=by
 have hn64:j.n≤64:=by have:=ok.n;have:=ok.c40;omega
 have HNW:=ah (S4.RG j.n w hn64);have HWN:Hid (∀(c:Int) (W:World),Below w.heap.size w W→Calls Tryz.prog 194 #[.pointer (some ⟨jp,0,none⟩),.int .i64 c] W fun e w'=>e=.returned (.bool (j.eY s c))∧Below W.heap.size W w'):=fun c W hb=>yj c W (hd.below hb) (hs.below hb) (hn.below hb) ok
 have HX:Hid (∀ k,S4.je j.n (kJ s j k)):=GH s j hn64;have HXS:Hid (∀ k:Nat,kJ s j (k+1)=S4.eP j.n (kJ s j k) (k:Int) (j.eY s (k:Int))):=fun k=>rfl
 have HX0:Hid (kJ s j 0=0):=rfl;generalize kJ s j=X at HX HXS HX0 ⊢;generalize j.n=n at HNW HX HXS hn64 ⊢;clear hd hs hn ok;go_enter Tryz.func85,Tryz.ntmps85
 go_wp2_with fail
 refine HNW.out.mono ?_;rintro e w1 ⟨rfl,hi1,hb1⟩;have HI1:Hid (S4.fU w1 w.heap.size n (X 0)):=by unfold Hid;rw[HX0.out];exact hi1
 have HB1:=ah hb1;clear hi1 hb1 HNW;obtain⟨lp,hlp⟩:∃ lp,w.heap.size=lp:=⟨_,rfl⟩;have HLP:=ah hlp;rw[hlp] at HI1;rw[hlp];clear hlp;go_wp2
 go_loopw [18] (fun i wr=>∃ k:Nat,k≤n∧i=.int .i64 (k:Int)∧S4.fU wr lp n (X k)∧Below w.heap.size w wr) (fun i _=>n-(intOf i).toNat)
 case atStart=>exact⟨0,Nat.zero_le _,rfl,HI1.out,HB1.out⟩
 case round =>
  clear HI1 HB1;obtain⟨k,hk,rfl,hi,hb⟩:=hrel;have HI:=ah hi;have HB:=ah hb;clear hi hb;by_cases hlt:k<n
  ·have k1:decide ((k:Int)<(n:Int))=true:=decide_eq_true (by omega)
   have HW:=ah (HWN.out (k:Int) wr HB.out);have HNX:=ah (HXS.out k);generalize j.eY s (k:Int)=wb at HW HNX;go_wp2_with fail
   refine HW.out.mono ?_;rintro e w2 ⟨rfl,hb2⟩;have HB2:=ah (HB.out.trans (hb2.mono HB.out.size));have HPT:=ah (S4.xU (k:Int) wb w2 (HI.out.below hb2) (HX.out k));rw[← HNX.out] at HPT;generalize S4.kE n (X k) (k:Int) wb=pb at HPT;clear hb2 HW;go_wp2_with fail
   refine HPT.out.mono ?_;rintro e w3 ⟨rfl,hi3,hk3⟩;have HI3:=ah hi3;have HB3:Hid (Below w.heap.size w w3):=HB2.out.trans ((Kept.of4 hk3).below HB2.out.size (fun i e=>by have e':i=lp:=e;rw[e',← HLP.out];exact Nat.le_refl _))
   clear hi3 hk3 HPT HB2 HI HB;go_wp2
   go_roundw
   case rel =>
    have fin:∃ k1:Nat,k1≤n∧Value.int .i64 ((k:Int)+1)=.int .i64 (k1:Int)∧S4.fU w3 lp n (X k1)∧Below w.heap.size w w3:=⟨k+1,by omega,by go_num,HI3.out,HB3.out⟩
    first|exact fin|((repeat apply Exists.intro);exact⟨fin,rfl⟩)
   case measure=>simp[intOf];omega
  ·have hke:k=n:=by omega
   subst hke;have k1:decide ((k:Int)<(k:Int))=false:=decide_eq_false (by omega)
   go_wp2
   go_ret2
   exact⟨lp,rfl,HI.out,by rw[HLP.out];exact Nat.le_refl _,HB.out⟩
theorem Qx(k:Nat):Lib.repeatL [0] k=List.replicate k 0:=by
 have:=Lib.repeatL_replicate 0 1 k
 rw[Nat.mul_one] at this;exact this
theorem BN(n:Nat)(w:World)(hn:n≤1000) :
  Calls Tryz.prog 151 #[.int .i64 (n:Int)] w fun e w'=>e=.returned (.string (eH (n*16)))∧Below w.heap.size w w':=by
 have HR:Hid (Calls Tryz.prog 238 #[.string ⟨#[0]⟩,.int .i64 ((n:Int)*16)] w fun e w'=>e=.returned (.string (eH (n*16)))∧Below w.heap.size w w'):=by
  have:=Tryz.strings_Repeat ⟨#[0]⟩ (n*16) w (by omega) (by show 1*(n*16)≤_;omega)
  rw[show(⟨#[0]⟩:ByteArray).data.toList=[0] from rfl,Qx,show(((n*16:Nat)):Int)=(n:Int)*16 by omega] at this
  exact this
 generalize eH (n*16)=s at HR ⊢;have k1:IntKind.i64.wrap ((n:Int)*16)=(n:Int)*16:=IntWalk.i64_in _ (by omega)
 go_enter Tryz.func151,Tryz.ntmps151
 go_wp2_with fail
 refine HR.out.mono ?_;rintro e w1 ⟨rfl,hb1⟩;go_wp2
 go_ret
 exact⟨rfl,hb1⟩
theorem Ah(t:ByteArray)(f n:Nat)(w:World)(h:(f+n)*16≤t.size)(ht:t.size≤100000) :
  Calls Tryz.prog 177 #[.string t,.int .i64 (f:Int),.int .i64 (n:Int)] w fun e w'=>e=.returned (.string (dR t f n))∧w'=w:=by
 have HS:Hid (t.extract (f*16) ((f+n)*16)=dR t f n):=rfl;have k0:(0:Int)≤(f:Int)*16:=by omega
 have k1:(f:Int)*16≤((f:Int)+(n:Int))*16:=by omega
 have k2:((f:Int)+(n:Int))*16≤(t.size:Int):=by omega
 have k3:((f:Int)*16).toNat=f*16:=by omega
 have k4:(((f:Int)+(n:Int))*16).toNat=(f+n)*16:=by omega
 have k5:(0:Int)≤((f:Int)+(n:Int))*16:=by omega
 have k6:IntKind.i64.wrap ((f:Int)*16)=(f:Int)*16:=IntWalk.i64_in _ (by omega)
 have k7:IntKind.i64.wrap ((f:Int)+(n:Int))=(f:Int)+(n:Int):=IntWalk.i64_in _ (by omega)
 have k8:IntKind.i64.wrap (((f:Int)+(n:Int))*16)=((f:Int)+(n:Int))*16:=IntWalk.i64_in _ (by omega)
 have k9:(f:Int)≤(f:Int)+(n:Int):=by omega
 have k10:(0:Int)≤(f:Int):=by omega
 generalize dR t f n=R at HS ⊢;clear h;go_enter Tryz.func177,Tryz.ntmps177
 go_wp2
 go_ret
 exact⟨by rw[HS.out];rfl,rfl⟩
theorem check_any{sp m cap:Nat}{xs:Nat→Ih}{s:SV}{a:Option Addr}{C:Int}(l:List Int)(fr n:Int)(w:World)(h:aV w sp xs s m)(hl:Nums w a l)(hg:s.good C l)(hC:0≤C∧C≤1000)(hfr : -9223372036854775808≤fr∧fr≤9223372036854775807) :
  Calls Tryz.prog 174 #[.pointer (some ⟨sp,6,none⟩),.slice a l.length cap,.int .i64 fr,.int .i64 n] w fun e w'=>e=.returned (erV (s.bP l fr n))∧Below w.heap.size w w':=by
 cases l with
 | nil =>
  have e1:s.bP [] fr n=4:=rfl;rw[e1,aT (by decide)]
  clear h hl hg e1;go_enter Tryz.func174,Tryz.ntmps174
  go_wp2
  go_ret
  exact⟨rfl,Below.refl _ _⟩
 | cons x r =>
  have HCL:=ah (BM (cap:=cap) x r w h hl rfl);have hcc:s.fV (x::r)=C:=hg.fV (by simp)
  have HF:Hid (s.bP (x::r) fr n=if fr<0∨n<0∨4*C-fr<n then 1 else 0):=by unfold Hid SV.bP;rw[if_neg (by simp),hcc]
  rw[hcc] at HCL;generalize s.bP (x::r) fr n=F at HF ⊢;have hn0:(((x::r).length:Int)==0)=false:=by simp;omega
  generalize (x::r).length=q at HCL hn0 ⊢;have k1:IntKind.i64.wrap (C*4)=C*4:=IntWalk.i64_in _ (by omega)
  clear h hl hg hcc;by_cases h0:fr<0
  ·have g0:decide (fr<0)=true:=decide_eq_true h0
   have HF1:Hid (F=1):=by unfold Hid;rw[HF.out,if_pos (.inl h0)]
   clear HF;go_enter Tryz.func174,Tryz.ntmps174
   go_wp2_with fail
   refine HCL.out.mono ?_;rintro e w1 ⟨rfl,hb1⟩;go_wp2
   go_ret
   exact⟨by rw[HF1.out,dM];rfl,hb1⟩
  ·have g0:decide (fr<0)=false:=decide_eq_false h0
   by_cases h1:n<0
   ·have g1:decide (n<0)=true:=decide_eq_true h1
    have HF1:Hid (F=1):=by unfold Hid;rw[HF.out,if_pos (.inr (.inl h1))]
    clear HF;go_enter Tryz.func174,Tryz.ntmps174
    go_wp2_with fail
    refine HCL.out.mono ?_;rintro e w1 ⟨rfl,hb1⟩;go_wp2
    go_ret
    exact⟨by rw[HF1.out,dM];rfl,hb1⟩
   ·have g1:decide (n<0)=false:=decide_eq_false h1
    have k2:IntKind.i64.wrap (C*4-fr)=C*4-fr:=IntWalk.i64_in _ (by omega)
    by_cases h2:C*4-fr<n
    ·have g2:decide (C*4-fr<n)=true:=decide_eq_true h2
     have HF1:Hid (F=1):=by unfold Hid;rw[HF.out,if_pos (.inr (.inr (by omega)))]
     clear HF;go_enter Tryz.func174,Tryz.ntmps174
     go_wp2_with fail
     refine HCL.out.mono ?_;rintro e w1 ⟨rfl,hb1⟩;go_wp2
     go_ret
     exact⟨by rw[HF1.out,dM];rfl,hb1⟩
    ·have g2:decide (C*4-fr<n)=false:=decide_eq_false h2
     have HF1:Hid (F=0):=by unfold Hid;rw[HF.out,if_neg (by omega)]
     clear HF;go_enter Tryz.func174,Tryz.ntmps174
     go_wp2_with fail
     refine HCL.out.mono ?_;rintro e w1 ⟨rfl,hb1⟩;go_wp2
     go_ret
     exact⟨by rw[HF1.out,aB];rfl,hb1⟩
theorem yP{sp m cap:Nat}{xs:Nat→Ih}{s:SV}{a:Option Addr}{C:Int}(l:List Int)(c:Int)(w:World)(h:aV w sp xs s m)(hl:Nums w a l)(hg:s.good C l)(h5:l.length≤100) :
    Calls Tryz.prog 57 #[.pointer (some ⟨sp,6,none⟩),.slice a l.length cap,.int .i64 c] w fun e w'=>e=.returned (.tuple #[.string (s.read l c).1,erV (s.read l c).2])∧Below w.heap.size w w':=by
  by_cases hnil:l=[]
  · subst hnil
    have e1:s.read [] c=(bytesOf [],4):=rfl;rw[e1,aT (by decide)]
    clear h hl hg e1;go_enter Tryz.func57,Tryz.ntmps57
    go_wp2
    go_ret2
    exact⟨rfl,Below.refl _ _⟩
  · have hcc:s.fV l=C:=hg.fV hnil
    have HCL:Hid (Calls Tryz.prog 149 #[.pointer (some ⟨sp,6,none⟩),.slice a l.length cap] w fun e w'=>e=.returned (.int .i64 C)∧Below w.heap.size w w'):=by
      cases l with
      | nil=>exact absurd rfl hnil
      | cons x r=>rw[← hcc];exact BM x r w h hl rfl
    have hn0:((l.length:Int)==0)=false:=by
      cases l with
      | nil=>exact absurd rfl hnil
      | cons x r=>simp;omega
    by_cases h0:c<0
    · have g0:decide (c<0)=true:=decide_eq_true h0
      have e1:s.read l c=(bytesOf [],1):=by unfold SV.read;rw[if_neg hnil,if_neg (by omega)]
      rw[e1,dM];clear h hl hg e1 hcc;generalize l.length=q at HCL hn0 ⊢;go_enter Tryz.func57,Tryz.ntmps57
      go_wp2
      go_ret2
      exact⟨rfl,Below.refl _ _⟩
    · have g0:decide (c<0)=false:=decide_eq_false h0
      by_cases h1:C≤c
      · have g1:decide (C≤c)=true:=decide_eq_true h1
        have e1:s.read l c=(bytesOf [],1):=by unfold SV.read;rw[if_neg hnil,hcc,if_neg (by omega)]
        rw[e1,dM];clear h hl hg e1 hcc;generalize l.length=q at HCL hn0 ⊢;go_enter Tryz.func57,Tryz.ntmps57
        go_wp2_with fail
        refine HCL.out.mono ?_;rintro e w1 ⟨rfl,hb1⟩;go_wp2
        go_ret2
        exact⟨rfl,hb1⟩
      · have g1:decide (C≤c)=false:=decide_eq_false h1
        have HFD:Hid (∀ W:World,Below w.heap.size w W→Calls Tryz.prog 78 #[.pointer (some ⟨sp,6,none⟩),.slice a l.length cap,.int .i64 c] W fun e w'=>e=.returned (.int .i64 (s.found l c))∧Below W.heap.size W w'):=fun W hb=>Dh l c W (h.below hb) (hl.below hb) h5
        have HRE:Hid (s.read l c=match s.seenAt c l with|none=>(bytesOf sO,0)|some v=>(bytesOf (v.jm c),v.kU c)):=by unfold Hid SV.read;rw[if_neg hnil,hcc,if_pos (by omega)];rfl
        have HNO:Hid (∀ W:World,Calls Tryz.prog 151 #[.int .i64 4] W fun e w'=>e=.returned (.string (bytesOf sO))∧Below W.heap.size W w'):=fun W=>BN 4 W (by decide)
        rcases SV.rF s c l 0 with⟨f1,f2⟩|⟨j,n,v,j1,f1,f3,f4,f5,f6,f7⟩
        · have HF1:Hid (s.found l c = -1):=f1
          rw[f2] at HRE;rw[HF1.out] at HFD;rw[HRE.out,aB];clear h hl hg hcc HRE HF1;generalize l.length=q at HCL hn0 HFD ⊢;generalize bytesOf sO=z at HNO ⊢;go_enter Tryz.func57,Tryz.ntmps57
          go_wp2_with fail
          refine HCL.out.mono ?_;rintro e w1 ⟨rfl,hb1⟩;have HB1:=ah hb1;clear hb1;go_wp2_with fail
          refine(HFD.out _ HB1.out).mono ?_;rintro e w2 ⟨rfl,hb2⟩;have HB2:=ah (HB1.out.trans (hb2.mono HB1.out.size));clear hb2;go_wp2_with fail
          refine(HNO.out _).mono ?_;rintro e w3 ⟨rfl,hb3⟩;have HB3:=ah (HB2.out.trans (hb3.mono HB2.out.size));clear hb3;go_wp2
          go_ret2
          exact⟨rfl,HB3.out⟩
        · have HF1:Hid (s.found l c=(j:Int)):=by unfold Hid SV.found;rw[f1];congr 1;omega
          rw[f7] at HRE;simp only at HRE;rw[HF1.out] at HFD;rw[HRE.out];obtain⟨n0,n5,hs⟩:=SV.dJ f5
          have HIM:Hid (∀ W:World,Below w.heap.size w W→Calls Tryz.prog 150 #[.pointer (some ⟨(xs n.toNat).p,0,none⟩),.int .i64 c] W fun e w'=>e=.returned (.tuple #[.string (bytesOf (v.jm c)),erV (v.kU c)])∧Below W.heap.size W w'):=fun W hb=>by
            obtain⟨i1,i2⟩:=(h.below hb).jZ f5;exact Qo c W i1 i2
          have HCE:Hid (∀ W:World,Below w.heap.size w W→W.cell? ⟨sp,6+n.toNat,none⟩=some (.pointer (some ⟨(xs n.toNat).p,0,none⟩))):=fun W hb=>(h.below hb).oW f5
          have HNU:Hid (∀ W:World,Below w.heap.size w W→Nums W a l):=fun W hb=>hl.below hb
          obtain⟨g,o,ha,hcn⟩:=hl j j1;subst ha;rw[f3] at hcn;have hgl:g<w.heap.size:=World.block_lt_of_cell? _ _ hcn;obtain⟨k,rfl⟩:∃ k:Nat,n=(k:Int):=⟨n.toNat,by omega⟩
          have hk:((k:Int)).toNat=k:=by omega
          rw[hk] at HIM HCE;have k0:(0:Int)≤(j:Int):=by omega
          have k1:(j:Int)<(l.length:Int):=by omega
          have k2:((j:Int)).toNat=j:=by omega
          have k3:(0:Int)≤(k:Int):=by omega
          have k4:(k:Int)<5:=by omega
          have k5:decide ((0:Int)≤(j:Int))=true:=by simp
          generalize bytesOf (v.jm c)=z at HIM ⊢;generalize erV (v.kU c)=er at HIM ⊢;clear h hl hg hcc HRE HF1 f1 f3 f4 f5 f6 f7 hs HNU;generalize (xs k).p=xp at HIM HCE;generalize l.length=q at HCL hn0 HFD k1 ⊢;go_enter Tryz.func57,Tryz.ntmps57
          go_wp2_with fail
          refine HCL.out.mono ?_;rintro e w1 ⟨rfl,hb1⟩;have HB1:=ah hb1;clear hb1;go_wp2_with fail
          refine(HFD.out _ HB1.out).mono ?_;rintro e w2 ⟨rfl,hb2⟩;have HB2:=ah (HB1.out.trans (hb2.mono HB1.out.size));clear hb2;have d1:w2.cell? ⟨g,o+j,none⟩=some (.int .i64 (k:Int)):=(HB2.out.cell (p:=⟨g,o+j,none⟩) hgl).trans hcn;have d2:=HCE.out w2 HB2.out;have d3:w2.drew.cell? ⟨g,o+j,none⟩=some (.int .i64 (k:Int)):=d1;have d4:w2.drew.cell? ⟨sp,6+k,none⟩=some (.pointer (some ⟨xp,0,none⟩)):=d2;have HBD:Hid (Below w.heap.size w w2.drew):=HB2.out.drew;go_wp2
          go_region_held3 (fun W=>W.cell? ⟨g,o+j,none⟩=some (.int .i64 (k:Int))∧W.cell? ⟨sp,6+k,none⟩=some (.pointer (some ⟨xp,0,none⟩)))
            (first|(exact⟨d3,d4⟩)|assumption)
            (first
              | (go_at_call 150;refine(HIM.out _ HBD.out).mono ?_;rintro e w3 ⟨rfl,hb3⟩;have hS3:w3.cell? ⟨g,o+j,none⟩=some (.int .i64 (k:Int))∧w3.cell? ⟨sp,6+k,none⟩=some (.pointer (some ⟨xp,0,none⟩)):=⟨(hb3.cell (World.block_lt_of_cell? _ _ d3)).trans d3,(hb3.cell (World.block_lt_of_cell? _ _ d4)).trans d4⟩))
          have HB3:=ah (HBD.out.trans (hb3.mono HBD.out.size));clear hb3 hS3;go_wp2
          go_ret2
          exact⟨rfl,HB3.out⟩
def lW(l:List Int):List Value:=l.map fun n=>.int .i64 n
def sliceLen:Value→Nat
 | .slice _ n _=>n
 | _=>0
theorem Eu{w:World}{B n cap:Nat}{a:Option Addr}{l:List Int}(ho:w.ownsRow B 3 1 (.slice a n cap) n (lW l))(hl:l.length=n):Nums w a l:=fun k hk=>by
 obtain⟨g,cap2,hv,hc,_,_⟩:=rQ ho k (by omega)
 injection hv with hv1 hv2 hv3
 refine⟨g,0,hv1,?_⟩;rw[Nat.zero_add,hc];simp[lW,List.getElem?_eq_getElem hk,List.getD]
theorem Pq{w:World}{B n cap:Nat}{a:Option Addr}{xs:List Value}(ho:w.ownsRow B 3 1 (.slice a n cap) n xs):n≤cap:=by
 rcases ho.2 with⟨h,h0⟩|⟨g,c,cur,hv,_,_,hc,_⟩
 ·omega
 ·injection hv with h1 h2 h3
  omega
structure Walks(w:World)(s:SV)(root:Int)(R:List Int × Int)(l:List Int)(n:Int)(a:Option Addr)(cap:Nat)(wr:World):Prop where
 own:wr.ownsRow w.heap.size 3 1 (.slice a l.length cap) l.length (lW l)
 go:s.iI (s.fQ root) (6-l.length) l n=R
 len:l.length≤5
 root:n=root∨∃ v,s.file root=some v
 bel:Below w.heap.size w wr
theorem tN{sp m:Nat}{xs:Nat→Ih}{s:SV}(root:Int)(w:World)(h:aV w sp xs s m) :
    Calls Tryz.prog 15 #[.pointer (some ⟨sp,6,none⟩),.int .i64 root] w fun e w' =>
      ∃(a:Option Addr) (cap:Nat),e=.returned (.tuple #[.slice a (s.walk root).1.length cap,erV (s.walk root).2])∧Nums w' a (s.walk root).1∧(∀ g o,a=some ⟨g,o,none⟩→w.heap.size≤g∧g<w'.heap.size∧(s.walk root).1.length≤cap)∧Below w.heap.size w w':=by
  obtain⟨i1,hi1,hx0,hx1,hx2⟩:=info_parts zx;have HFI:Hid (∀(n:Int) (W:World),Below w.heap.size w W→Calls Tryz.prog 68 #[.pointer (some ⟨sp,6,none⟩),.int .i64 n] W fun e w'=>e=.returned (fJ (xs n.toNat) (s.file n))∧w'=W):=fun n W hb=>qG n W (h.below hb)
  have HHD:Hid (∀(n:Int) (v:IV) (W:World),s.file n=some v→Below w.heap.size w W→Calls Tryz.prog 67 #[.pointer (some ⟨(xs n.toNat).p,0,none⟩)] W fun e w'=>e=.returned (.agg #[.int .i64 v.h.c,.int .i64 v.h.p,.int .i64 v.h.b])∧Below W.heap.size W w'):=fun n v W hf hb=>oG W ((h.below hb).jZ hf).1
  have HCE:Hid (∀(n:Int) (v:IV) (W:World),s.file n=some v→Below w.heap.size w W→W.cell? ⟨sp,6+n.toNat,none⟩=some (.pointer (some ⟨(xs n.toNat).p,0,none⟩))∧0≤n∧n<5):=fun n v W hf hb=>⟨(h.below hb).oW hf,(SV.dJ hf).1,(SV.dJ hf).2.1⟩
  have HST:Hid (Walks w s root (s.walk root) [] root none 0 w):=⟨World.ownsRow_nil _ _ _ _,rfl,Nat.zero_le _,.inl rfl,Below.refl _ _⟩;generalize s.walk root=R at HST ⊢;clear h;go_enter Tryz.func15,Tryz.ntmps15
  go_wp2
  go_loopw [6,7] (fun u i wr=>∃(l:List Int) (n:Int) (a:Option Addr) (cap:Nat),u=.slice a l.length cap∧i=.int .i64 n∧Walks w s root R l n a cap wr) (fun u _ _=>6-sliceLen u)
  case atStart=>exact⟨[],root,none,0,rfl,rfl,HST.out⟩
  case round =>
    obtain⟨l,n,a,cap,rfl,rfl,hw⟩:=hrel;have HW:=ah hw;have hl5:=hw.len;obtain⟨q,hq⟩:∃ q,6-l.length=q+1:=⟨5-l.length,by omega⟩
    have hgo:=hw.go;rw[hq] at hgo;by_cases hn:n = -1
    · have g0:(n != -1)=false:=by simpa using hn
      rw[hn,SV.sG] at hgo;have HR:=ah hgo
      have HN:Hid (Nums wr a l∧∀ g o,a=some ⟨g,o,none⟩→w.heap.size≤g∧g<wr.heap.size∧l.length≤cap):=⟨Eu hw.own rfl,fun g o e=>by
        subst e
        exact⟨(hw.own.lt g rfl).1,(hw.own.lt g rfl).2,Pq hw.own⟩⟩
      have HB:=ah hw.bel;clear hw hgo hn;go_wp2
      go_ret2
      exact⟨a,cap,by rw[← HR.out,aB];rfl,by rw[← HR.out];exact HN.out.1,by rw[← HR.out];exact HN.out.2,HB.out⟩
    · have g0:(n != -1)=true:=by simpa using hn
      have HF:=ah (HFI.out n wr hw.bel)
      cases hf:s.file n with
      | none =>
        rw[SV.vF hn hf] at hgo;have HR:=ah hgo;have HB:=ah hw.bel;rw[hf] at HF;clear hw hgo hn hf;go_wp2_with fail
        refine HF.out.mono ?_;rintro e w' ⟨rfl,hw⟩;have hw':=hw.symm;subst hw';clear hw;unfold fJ;go_wp2
        go_ret2
        exact⟨none,0,by rw[← HR.out,aT (by decide)];rfl,by rw[← HR.out];exact Nums.nil _ _,(fun g o e=>by cases e),HB.out⟩
      | some v =>
        rw[hf] at HF;by_cases h5:l.length=5
        · have g1:((l.length:Int)==5)=true:=by simp;omega
          rw[SV.vw hn hf h5] at hgo;have HR:=ah hgo;have HB:=ah hw.bel;clear hw hgo hn hf;go_wp2_with fail
          refine HF.out.mono ?_;rintro e w' ⟨rfl,hw⟩;have hw':=hw.symm;subst hw';clear hw;unfold fJ;go_wp2
          go_ret2
          exact⟨none,0,by rw[← HR.out,aT (by decide)];rfl,by rw[← HR.out];exact Nums.nil _ _,(fun g o e=>by cases e),HB.out⟩
        · have g1:((l.length:Int)==5)=false:=by simp;omega
          obtain⟨vr,hr⟩:∃ vr,s.file root=some vr:=by
            rcases hw.root with e|e
            · rw[← e];exact⟨v,hf⟩
            · exact e
          have hrc:s.fQ root=vr.h.c:=by unfold SV.fQ;rw[hr]
          have HB:=ah hw.bel;have HH1:=ah (fun W hb=>HHD.out n v W hf hb)
          have HH2:=ah (fun W hb=>HHD.out root vr W hr hb)
          obtain⟨d1,r0,r5⟩:=HCE.out root vr wr hr hw.bel;have f1:=o9 v.h.c v.h.p v.h.b;have f2:=o9 vr.h.c vr.h.p vr.h.b;have f3:=CX v.h.c v.h.p v.h.b;obtain⟨rk,rfl⟩:∃ rk:Nat,root=(rk:Int):=⟨root.toNat,by omega⟩
          have hrk:((rk:Int)).toNat=rk:=by omega
          rw[hrk] at d1 HH2;have d2:wr.drew.cell? ⟨sp,6+rk,none⟩=some (.pointer (some ⟨(xs rk).p,0,none⟩)):=d1;obtain⟨_,n0,n5⟩:=HCE.out n v wr hf hw.bel;obtain⟨nk,rfl⟩:∃ nk:Nat,n=(nk:Int):=⟨n.toNat,by omega⟩
          have hnk:((nk:Int)).toNat=nk:=by omega
          have HCN:Hid (∀ W:World,Below w.heap.size w W→W.cell? ⟨sp,6+nk,none⟩=some (.pointer (some ⟨(xs nk).p,0,none⟩))):=fun W hb=>by have:=(HCE.out (nk:Int) v W hf hb).1;rw[hnk] at this;exact this
          have HSP:Hid (∀ W:World,Below w.heap.size w W→W.cell? ⟨sp,6+rk,none⟩=some (.pointer (some ⟨(xs rk).p,0,none⟩))):=fun W hb=>by have:=(HCE.out (rk:Int) vr W hr hb).1;rw[hrk] at this;exact this
          rw[hnk] at HF HH1;unfold fJ at HF;generalize (xs rk).p=xr at HH2 d1 d2 HSP;generalize (xs nk).p=xn at HF HH1 HCN;have HSB:Hid (∀ W:World,Below wr.heap.size wr W→Below w.heap.size w W):=fun W hb=>HB.out.trans (hb.mono HB.out.size)
          have HSI:Hid (∀ W:World,Below wr.heap.size wr W→W.cell? ⟨sp,6+rk,none⟩=some (.pointer (some ⟨xr,0,none⟩))):=fun W hb=>HSP.out W (HSB.out W hb)
          have HDR:Hid (Below wr.heap.size wr wr.drew):=(Below.refl _ _).drew;by_cases hc:v.h.c=vr.h.c
          · have hcb:(v.h.c != vr.h.c)=false:=by simpa using hc
            rw[SV.sJ hn hf h5 (by rw[hrc];exact hc)] at hgo
            have HGO:=ah hgo;have HOW:=ah hw.own;have HVR:Hid (∃ v,s.file (rk:Int)=some v):=⟨vr,hr⟩;have hl4:l.length≤4:=by omega
            have HQ:=ah hq;have HM:Hid (l.length+1≤maxLen):=by unfold Hid maxLen;omega
            clear hw hgo hf hr HHD HCE hc HFI HST HSP hq;go_wp2_with fail
            refine HF.out.mono ?_;rintro e w' ⟨rfl,hw⟩;have hw':=hw.symm;subst hw';clear hw;go_wp2
            go_region_held3 (fun W=>Below wr.heap.size wr W∧W.cell? ⟨sp,6+rk,none⟩=some (.pointer (some ⟨xr,0,none⟩)))
              (first|(exact⟨HDR.out,d2⟩)|assumption)
              (first
                | (go_at_call 67;refine(HH1.out _ (HSB.out _ (by assumption:Below wr.heap.size wr _∧_).1)).mono ?_;rintro e wH ⟨rfl,hbH⟩;have hS:=(by assumption:Below wr.heap.size wr _∧_).1.trans (hbH.mono (by assumption:Below wr.heap.size wr _∧_).1.size);have hSS:=And.intro hS (HSI.out _ hS))
                | (go_at_call 67;refine(HH2.out _ (HSB.out _ (by assumption:Below wr.heap.size wr _∧_).1)).mono ?_;rintro e wH ⟨rfl,hbH⟩;have hS:=(by assumption:Below wr.heap.size wr _∧_).1.trans (hbH.mono (by assumption:Below wr.heap.size wr _∧_).1.size);have hSS:=And.intro hS (HSI.out _ hS)))
            all_goals
              have HBH:=ah hS;clear hS hSS hbH d1 d2;have HO1:Hid ((wH.alloc (.cells #[.int .i64 (nk:Int)] 3)).ownsRow w.heap.size 3 1 (.slice a l.length cap) l.length (lW l)):=(dA HOW.out fun k e=>HBH.out.block k (HOW.out.lt k e).2).alloc _
              have HZ1:Hid ((wH.alloc (.cells #[.int .i64 (nk:Int)] 3)).heap.size=wH.heap.size+1):=by unfold Hid;simp
              have HB1:Hid (w.heap.size≤(wH.alloc (.cells #[.int .i64 (nk:Int)] 3)).heap.size):=by unfold Hid;have:=(HSB.out _ HBH.out).size;rw[HZ1.out];omega
              have HN1:Hid (∀ j y,([.int .i64 (nk:Int)]:List Value)[j]?=some y→(wH.alloc (.cells #[.int .i64 (nk:Int)] 3)).cell? ((⟨wH.heap.size,0,none⟩:Addr).add j)=some y):=cell_one_new _ _ _;have HBA:Hid (Below w.heap.size w (wH.alloc (.cells #[.int .i64 (nk:Int)] 3))):=(HSB.out _ HBH.out).alloc (HSB.out _ HBH.out).size _
              go_wp2_with (at_builtin;refine wpList_append_lies _ (by rfl) _ _ 31 (by rfl) w.heap.size 3 i1 (.int .i64 0) 1 8 Tryz.underlying31 hi1 hx0 hx1 hx2 rfl (by decide) (.slice a l.length cap) l.length (lW l) (by rfl) HO1.out ⟨wH.heap.size,0,none⟩ 1 1 [.int .i64 (nk:Int)] (by rfl) (by rfl) HN1.out (fun u hu=>by simp at hu;subst hu;rfl) (by decide) HM.out (by omega) HB1.out (wH.heap.size+1) HZ1.out ?_
                           intro g k w1 hown hgrow hat hlt;have HBF:Hid (Below w.heap.size w w1):=HBA.out.grown hgrow HB1.out (fun r e=>(HO1.out.lt r e).1)
                           have HOF:=ah hown;have d3:=HCN.out w1 HBF.out
                           clear hown hgrow hat hlt)
              refine(HH1.out _ HBF.out).mono ?_;rintro e w2 ⟨rfl,hb2⟩
              have HWK:Hid (Walks w s (rk:Int) R (l++[(nk:Int)]) v.h.b (some ⟨g,0,none⟩) k w2):=by
                have e1:(l++[(nk:Int)]).length=l.length+1:=by simp
                have e2:lW (l++[(nk:Int)])=lW l++[.int .i64 (nk:Int)]:=by simp[lW]
                refine⟨?_,?_,by rw[e1];omega,.inr HVR.out,HBF.out.trans (hb2.mono HBF.out.size)⟩
                · rw[e1,e2];exact dA HOF.out fun k e=>hb2.block k (HOF.out.lt k e).2
                · have:=HQ.out
                  rw[e1,show 6-(l.length+1)=q by omega];exact HGO.out
              clear hb2 d3;go_wp2
              go_roundw
              case rel =>
                have fin:∃(l1:List Int) (n1:Int) (a1:Option Addr) (cap1:Nat),Value.slice (some ⟨g,0,none⟩) (l.length+1) k=.slice a1 l1.length cap1∧Value.int .i64 v.h.b=.int .i64 n1∧Walks w s (rk:Int) R l1 n1 a1 cap1 w2:=⟨l++[(nk:Int)],v.h.b,some ⟨g,0,none⟩,k,by simp,rfl,HWK.out⟩
                first|exact fin|((repeat apply Exists.intro);exact⟨fin,rfl⟩)
              case measure=>simp[sliceLen];omega
          · have hcb:(v.h.c != vr.h.c)=true:=by simpa using hc
            rw[SV.walk_other hn hf h5 (by rw[hrc];exact hc)] at hgo
            have HR:=ah hgo;clear hw hgo hf hr HHD HCE hc HFI HST HSP hq hn;go_wp2_with fail
            refine HF.out.mono ?_;rintro e w' ⟨rfl,hw⟩;have hw':=hw.symm;subst hw';clear hw;go_wp2
            go_region_held3 (fun W=>Below wr.heap.size wr W∧W.cell? ⟨sp,6+rk,none⟩=some (.pointer (some ⟨xr,0,none⟩)))
              (first|(exact⟨HDR.out,d2⟩)|assumption)
              (first
                | (go_at_call 67;refine(HH1.out _ (HSB.out _ (by assumption:Below wr.heap.size wr _∧_).1)).mono ?_;rintro e wH ⟨rfl,hbH⟩;have hS:=(by assumption:Below wr.heap.size wr _∧_).1.trans (hbH.mono (by assumption:Below wr.heap.size wr _∧_).1.size);have hSS:=And.intro hS (HSI.out _ hS))
                | (go_at_call 67;refine(HH2.out _ (HSB.out _ (by assumption:Below wr.heap.size wr _∧_).1)).mono ?_;rintro e wH ⟨rfl,hbH⟩;have hS:=(by assumption:Below wr.heap.size wr _∧_).1.trans (hbH.mono (by assumption:Below wr.heap.size wr _∧_).1.size);have hSS:=And.intro hS (HSI.out _ hS)))
            all_goals
              have HBH:=ah (HSB.out _ hS);clear hS hSS hbH d1 d2;go_wp2
              go_ret2
              exact⟨none,0,by rw[← HR.out,aT (by decide)];rfl,by rw[← HR.out];exact Nums.nil _ _,(fun g o e=>by cases e),HBH.out⟩
def eF(d:aS):Obj:=.cells #[.int .i64 d.root,.int .i64 d.kind,.int .i64 d.file,.int .i64 d.rate,.int .i64 d.burst] 47 (0,0)
theorem tV(d:aS)(w:World):∀ W:World,Below (w.alloc (eF d)).heap.size (w.alloc (eF d)) W→W.cell? ⟨w.heap.size,0,none⟩=some (.int .i64 d.root)∧W.cell? ⟨w.heap.size,1,none⟩=some (.int .i64 d.kind)∧W.cell? ⟨w.heap.size,2,none⟩=some (.int .i64 d.file)∧W.cell? ⟨w.heap.size,3,none⟩=some (.int .i64 d.rate)∧W.cell? ⟨w.heap.size,4,none⟩=some (.int .i64 d.burst):=fun W hb=>by
 have hlt:w.heap.size<(w.alloc (eF d)).heap.size:=by simp
 have hbk:W.heap[w.heap.size]?=some (eF d):=(hb.block _ hlt).trans (heap_alloc_new w _);unfold eF at hbk;refine⟨?_,?_,?_,?_,?_⟩<;>(rw[cell_of_row _ _ _ _ _ _ hbk];rfl)
theorem wz(d:aS)(w:World):∀ W:World,Below (w.alloc (eF d)).heap.size (w.alloc (eF d)) W→W.rangeAt w.heap.size 0 [.int .i64 d.root,.int .i64 d.kind,.int .i64 d.file,.int .i64 d.rate,.int .i64 d.burst]:=fun W hb j v hv=>by
 obtain⟨h0,h1,h2,h3,h4⟩:=tV d w W hb
 match j,hv with
 | 0,hv=>cases hv;exact h0
 | 1,hv=>cases hv;exact h1
 | 2,hv=>cases hv;exact h2
 | 3,hv=>cases hv;exact h3
 | 4,hv=>cases hv;exact h4
theorem uX:(Tryz.prog.info? 47).map (·.size)=some 5:=by kernel_rfl
theorem Em{sp m:Nat}{xs:Nat→Ih}{s:SV}(d:aS)(w:World)(h:aV w sp xs s m)(hf:newF s d≠0) :
  Calls Tryz.prog 22 #[.pointer (some ⟨sp,6,none⟩),.agg #[.int .i64 d.root,.int .i64 d.kind,.int .i64 d.file,.int .i64 d.rate,.int .i64 d.burst]] w fun e w'=>e=.returned (.tuple #[.pointer none,erV (newF s d)])∧Below w.heap.size w w':=by
 have HB0:Hid (Below w.heap.size w (w.alloc (eF d))):=(Below.refl _ _).alloc (Nat.le_refl _) _;have HDK:=ah (tV d w);have HDR:=ah (wz d w);have HI:Hid ((Tryz.prog.info? 47).map (·.size)=some ([.int .i64 d.root,.int .i64 d.kind,.int .i64 d.file,.int .i64 d.rate,.int .i64 d.burst]:List Value).length):=uX
 have HWK:Hid (∀ W:World,Below w.heap.size w W→Calls Tryz.prog 15 #[.pointer (some ⟨sp,6,none⟩),.int .i64 d.root] W fun e w'=>∃(a:Option Addr) (cap:Nat),e=.returned (.tuple #[.slice a (s.walk d.root).1.length cap,erV (s.walk d.root).2])∧Nums w' a (s.walk d.root).1∧(∀ g o,a=some ⟨g,o,none⟩→W.heap.size≤g∧g<w'.heap.size∧(s.walk d.root).1.length≤cap)∧Below W.heap.size W w'):=fun W hb=>tN d.root W (h.below hb)
 have HBN:Hid (∀ W:World,(S4.inB d.rate 1000&&S4.inB d.burst 1000)=false→Calls Tryz.prog 83 #[.int .i64 d.rate,.int .i64 d.burst] W fun e w'=>e=.returned (.tuple #[.pointer none,.iface 127 (.int .i64 1)])∧w'=W):=fun W hx=>S4.Iw d.rate d.burst W hx
 have HBG:Hid (∀ W:World,S4.inB d.rate 1000=true→S4.inB d.burst 1000=true→Calls Tryz.prog 83 #[.int .i64 d.rate,.int .i64 d.burst] W fun e w'=>e=.returned (.tuple #[.pointer (some ⟨W.heap.size,0,none⟩),.nilIface])∧S4.Three 245 w' W.heap.size d.rate d.burst d.burst∧Below W.heap.size W w'):=fun W h1 h2=>S4.Bh d.rate d.burst W h1 h2
 obtain⟨hg,hl5,hf0,_⟩:=s.walk_good d.root;have HCK:Hid (∀(W:World) (a:Option Addr) (cap:Nat),Below w.heap.size w W→Nums W a (s.walk d.root).1→(s.walk d.root).1≠[]→(s.walk d.root).1.length≤cap→Calls Tryz.prog 84 #[.pointer (some ⟨sp,6,none⟩),.slice a (s.walk d.root).1.length cap,.agg #[.int .i64 d.root,.int .i64 d.kind,.int .i64 d.file,.int .i64 d.rate,.int .i64 d.burst]] W fun e w'=>e=.returned (erV (lK s (s.walk d.root).1 d))∧Below W.heap.size W w'):=fun W a cap hb hn h0 hc=>BD _ d W (h.below hb) hn hg h0 (by omega) hc
 have HNF:Hid (newF s d=if (s.walk d.root).2≠0 then (s.walk d.root).2 else if (s.walk d.root).1=[] then 4 else if (S4.inB d.rate 1000&&S4.inB d.burst 1000)=false then 1 else lK s (s.walk d.root).1 d):=rfl
 have HNZ:=ah hf;clear h hg hf;generalize newF s d=nf at HNF HNZ ⊢;generalize lK s (s.walk d.root).1 d=ck at HCK HNF;generalize s.walk d.root=R at HWK HCK HNF hl5 hf0;obtain⟨l,f⟩:=R;simp only at HWK HCK HNF hl5 hf0;unfold eF at HB0 HDK HDR;by_cases h0:f=0
 ·subst h0
  rw[aB] at HWK;have HNF1:Hid (nf=if l=[] then 4 else if (S4.inB d.rate 1000&&S4.inB d.burst 1000)=false then 1 else ck):=by unfold Hid;rw[HNF.out,if_neg (by simp)]
  clear HNF;by_cases hl:l=[]
  ·subst hl
   have HN4:Hid (nf=4):=by unfold Hid;rw[HNF1.out,if_pos rfl]
   rw[HN4.out,aT (by decide)]
   obtain⟨d0,_⟩:=HDK.out _ (Below.refl _ _);clear HCK HBN HBG HNF1 HN4 HNZ HDK;go_enter Tryz.func22,Tryz.ntmps22
   go_wp2_with fail
   refine(HWK.out _ HB0.out).mono ?_;rintro e w1 ⟨a,cap,rfl,hn1,ha1,hb1⟩;have HB1:=ah (HB0.out.trans (hb1.mono HB0.out.size));clear hn1 ha1 hb1 HWK;go_wp2
   go_ret2
   exact⟨rfl,HB1.out⟩
  ·have HNF2:Hid (nf=if (S4.inB d.rate 1000&&S4.inB d.burst 1000)=false then 1 else ck):=by unfold Hid;rw[HNF1.out,if_neg hl]
   clear HNF1;have hlp:0<l.length:=List.length_pos_iff.2 hl;have hlz:((l.length:Int)==0)=false:=by simp;omega
   cases hbk:(S4.inB d.rate 1000&&S4.inB d.burst 1000) with
   | false =>
    have HN1:Hid (nf=1):=by unfold Hid;rw[HNF2.out,hbk,if_pos rfl]
    have HBN1:=ah (fun W=>HBN.out W hbk)
    rw[HN1.out,dM];clear HCK HBN HBG HNF2 HN1 HNZ hbk;generalize hln:l.length=ln at HWK hlz;obtain⟨d0,d1,d2,d3,d4⟩:=HDK.out _ (Below.refl _ _);go_enter Tryz.func22,Tryz.ntmps22
    go_wp2_with fail
    refine(HWK.out _ HB0.out).mono ?_;rintro e w1 ⟨a,cap,rfl,hn1,ha1,hb1⟩;have HB1:=ah (HB0.out.trans (hb1.mono HB0.out.size));obtain⟨q0,q1,q2,q3,q4⟩:=HDK.out _ hb1;clear hn1 ha1 hb1 HWK;go_wp2_with fail
    refine(HBN1.out _).mono ?_;rintro e w' ⟨rfl,hw⟩;have hw':=hw.symm;subst hw';clear hw;go_wp2
    go_ret2
    exact⟨rfl,HB1.out⟩
   | true =>
    have HN3:Hid (nf=ck):=by unfold Hid;rw[HNF2.out,hbk,if_neg (by decide)]
    rw[Bool.and_eq_true] at hbk;have HBG1:=ah (fun W=>HBG.out W hbk.1 hbk.2)
    have hck:ck≠0:=by rw[← HN3.out];exact HNZ.out
    rw[HN3.out];rw[aT hck] at HCK ⊢;clear HBN HBG HNF2 HN3 HNZ hbk;obtain⟨d0,d1,d2,d3,d4⟩:=HDK.out _ (Below.refl _ _);go_enter Tryz.func22,Tryz.ntmps22
    go_wp2_with fail
    refine(HWK.out _ HB0.out).mono ?_;rintro e w1 ⟨a,cap,rfl,hn1,ha1,hb1⟩;have HB1:=ah (HB0.out.trans (hb1.mono HB0.out.size));have HBD1:=ah hb1;obtain⟨g,o,rfl,_⟩:=hn1 0 hlp;have HN1:=ah hn1;have hcap:=(ha1 g o rfl).2.2;obtain⟨q0,q1,q2,q3,q4⟩:=HDK.out _ hb1;clear hn1 ha1 hb1 HWK;go_wp2_with fail
    refine(HBG1.out _).mono ?_;rintro e w2 ⟨rfl,_,hb2⟩;have HB2:=ah (HB1.out.trans (hb2.mono HB1.out.size));have HC2:=ah (HCK.out w2 (some ⟨g,o,none⟩) cap HB2.out (HN1.out.below hb2) hl hcap);have HR2:=ah (HDR.out _ (HBD1.out.trans (hb2.mono HBD1.out.size)));clear hb2 HBG1;go_wp2_with (refine wpList_load_mid (by rfl) 47 (.tmp 3) (by rfl) w.heap.size 0 (by rfl) [.int .i64 d.root,.int .i64 d.kind,.int .i64 d.file,.int .i64 d.rate,.int .i64 d.burst] _ HR2.out Tryz.underlying47 rfl HI.out ?_)
    refine HC2.out.mono ?_;rintro e w3 ⟨rfl,hb3⟩;have HB3:=ah (HB2.out.trans (hb3.mono HB2.out.size));clear hb3;go_wp2
    go_ret2
    exact⟨rfl,HB3.out⟩
 ·have HN1:Hid (nf=f):=by unfold Hid;rw[HNF.out,if_pos h0]
  rw[HN1.out];rw[aT h0] at HWK ⊢;obtain⟨d0,_⟩:=HDK.out _ (Below.refl _ _);clear HCK HBN HBG HNF HN1 HNZ HDK;go_enter Tryz.func22,Tryz.ntmps22
  go_wp2_with fail
  refine(HWK.out _ HB0.out).mono ?_;rintro e w1 ⟨a,cap,rfl,hn1,ha1,hb1⟩;have HB1:=ah (HB0.out.trans (hb1.mono HB0.out.size));clear hn1 ha1 hb1 HWK;go_wp2
  go_ret2
  exact⟨rfl,HB1.out⟩
end Go.Proofs.YtonhoahnieoebabGreatDoor
