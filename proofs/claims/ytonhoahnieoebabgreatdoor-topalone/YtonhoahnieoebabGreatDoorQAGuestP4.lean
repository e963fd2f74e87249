/- A new yard (J1). -/
import Derived.Test.YtonhoahnieoebabGreatDoorQAYardN1
set_option maxHeartbeats 2000000
set_option maxRecDepth 100000
namespace Go.Proofs.YtonhoahnieoebabGreatDoor
open Go.RowKit Go.Maps
attribute [local go_sem ↓] Go.wp_at_zero Go.wp_at_succ
def nR(c p b:Int):Obj:=.cells #[.int .i64 c,.int .i64 p,.int .i64 b] 103 (0,0)
def AV:Obj:=.cells #[.pointer none,.pointer none,.pointer none,.pointer none,.pointer none,.pointer none,.pointer none,.pointer none,.pointer none,.pointer none,.pointer none,.int .i64 0,.pointer none] 168 (0,0)
theorem iJ.start(w:World)(D:DV):iJ (w.alloc AV) w.heap.size 0 (fun _=>⟨0,0,0,0,0,.nilIface⟩) D (.pointer none):=by
 refine⟨⟨_,heap_alloc_new w _,rfl,fun i hi=>(by omega),rfl,fun i hi=>?_,rfl,rfl⟩,fun i hi=>(by omega),fun i hi=>(by omega),fun i _ hi=>(by omega)⟩
 match i,hi with
 | 0,_=>rfl
 | 1,_=>rfl
 | 2,_=>rfl
 | 3,_=>rfl
 | 4,_=>rfl
structure Making(w:World)(c p:Int)(yp k:Nat)(tv:Value)(wr:World):Prop where
 bW:∃ hs,iJ wr yp k hs (fH (aJ (newH c p))) tv
 yp:w.heap.size<yp
 box:wr.heap[w.heap.size]?=some (nR c p (-1))
 bel:Below w.heap.size w wr
theorem Making.boxes{w wr:World}{c p:Int}{yp k:Nat}{tv:Value}(h:Making w c p yp k tv wr):wr.cell? ⟨w.heap.size,0,none⟩=some (.int .i64 c)∧wr.cell? ⟨w.heap.size,1,none⟩=some (.int .i64 p)∧wr.cell? ⟨w.heap.size,2,none⟩=some (.int .i64 (-1)):=by
 have hb:=h.box;unfold nR at hb;refine⟨?_,?_,?_⟩<;>(rw[cell_of_row _ _ _ _ _ _ hb];rfl)
theorem Making.below{w wr w':World}{c p:Int}{yp k:Nat}{tv:Value}(h:Making w c p yp k tv wr)(hb:Below wr.heap.size wr w'):Making w c p yp k tv w':=by
 obtain⟨hs,h1⟩:=h.bW;exact⟨⟨hs,h1.below hb⟩,h.yp,(hb.block _ (lt_of_some h.box)).trans h.box,h.bel.trans (hb.mono h.bel.size)⟩
structure qW(w:World)(c p:Int)(yp:Nat)(wr:World):Prop where
 bW:∃(hs:Nat→Hd) (t:Hd),iJ wr yp 5 hs (fH (aJ (newH c p))) (.pointer (some ⟨t.p,0,none⟩))∧bg Gd.no wr t (fH 1)∧(∀ b,t.fp b→yp<b)∧∀ i,i<5→∀ b,t.fp b→¬(hs i).fp b
 yp:w.heap.size<yp
 box:wr.heap[w.heap.size]?=some (nR c p (-1))
 bel:Below w.heap.size w wr
theorem Making.top{w W w':World}{c p:Int}{yp:Nat}(h:Making w c p yp 5 (.pointer none) W)(hb:Below W.heap.size W w'){t:Hd}(ht:aH W.heap.size w' t (fH 1)):qW w c p yp (w'.setCell ⟨yp,5,none⟩ (.pointer (some ⟨t.p,0,none⟩))):=by
 obtain⟨hs,hy⟩:=h.bW;have hyp:=h.yp;have hyl:=hy.lt;have h':=h.below hb;refine⟨⟨hs,t,hy.vg hb,⟨ht.base0.keep fun b hf=>heap_setCell_other _ _ _ _ (fun e=>by have:=(ht.lt b hf).1;have e2:b=yp:=e;omega),fun _ _ e=>e⟩,fun b hf=>by have:=(ht.lt b hf).1;omega,fun i hi b hf hf2=>?_⟩,h.yp,?_,h'.bel.setCell (by show w.heap.size≤yp;omega) _⟩
 ·have q1:=(ht.lt b hf).1
  have q2:=((hy.dev i hi).lt b hf2).2;omega
 ·rw[heap_setCell_other _ _ _ _ (by show w.heap.size≠yp;omega)];exact h'.box
theorem Ov(n:Nat):(fH n).aQ=0:=by unfold DV.aQ;rw[Ei];rfl
theorem qW.create{w W:World}{c p:Int}{yp:Nat}(hk:(newH c p).ok=true)(hn:aJ (newH c p)≤200)(h:qW w c p yp W):∃ dp:Nat,W.cell? ⟨yp,11,none⟩=some (.int .i64 0)∧W.cell? ⟨yp,0,none⟩=some (.pointer (some ⟨dp,0,none⟩)) ∧
  ∀ W':World,Below W.heap.size W W'→Calls Tryz.prog 60 #[.pointer (some ⟨dp,0,none⟩),.agg #[.int .i64 c,.int .i64 p,.int .i64 (-1)]] W' fun e w'=>∃ xp:Nat,e=.returned (.tuple #[.pointer (some ⟨xp,0,none⟩),.nilIface]) ∧
   (w'.cell? ⟨yp,11,none⟩=some (.int .i64 0)∧w'.cell? ⟨yp,0,none⟩=some (.pointer (some ⟨dp,0,none⟩))∧w'.cell? ⟨w.heap.size,0,none⟩=some (.int .i64 c)∧w'.cell? ⟨w.heap.size,1,none⟩=some (.int .i64 p)∧w'.cell? ⟨w.heap.size,2,none⟩=some (.int .i64 (-1)))∧(∃ v,w'.cell? ⟨yp,6,none⟩=some v)∧w'.frozen? ⟨yp,6,none⟩=false ∧
   ((w'.setCell ⟨yp,6,none⟩ (.pointer (some ⟨xp,0,none⟩))).cell? ⟨yp,11,none⟩=some (.int .i64 0)∧(w'.setCell ⟨yp,6,none⟩ (.pointer (some ⟨xp,0,none⟩))).cell? ⟨yp,0,none⟩=some (.pointer (some ⟨dp,0,none⟩))∧(w'.setCell ⟨yp,6,none⟩ (.pointer (some ⟨xp,0,none⟩))).cell? ⟨w.heap.size,0,none⟩=some (.int .i64 c)∧(w'.setCell ⟨yp,6,none⟩ (.pointer (some ⟨xp,0,none⟩))).cell? ⟨w.heap.size,1,none⟩=some (.int .i64 p)∧(w'.setCell ⟨yp,6,none⟩ (.pointer (some ⟨xp,0,none⟩))).cell? ⟨w.heap.size,2,none⟩=some (.int .i64 (-1))) ∧
   ∃ Y:Yh,ay (w'.setCell ⟨yp,6,none⟩ (.pointer (some ⟨xp,0,none⟩))) yp Y (jy c p)∧(∀ b,fpY yp Y (jy c p) b→w.heap.size≤b)∧Below w.heap.size w (w'.setCell ⟨yp,6,none⟩ (.pointer (some ⟨xp,0,none⟩))):=by
 obtain⟨hs,t,hy,ht,htp,hta⟩:=h.bW;have hyp:=h.yp;refine⟨(hs 0).p,hy.root,hy.Ci (by omega),fun W' hb=>?_⟩
 have hy':=hy.below hb;have ht':bg Gd.no W' t (fH 1):=ht.keep fun b hf=>hb.block b (ht.lt b hf).2
 have hd0:=hy'.dev 0 (by omega)
 have hfine:=pO (n:=aJ (newH c p)) (by unfold aJ aI;omega) hn
 have hlen:(fH (aJ (newH c p))).fl.length=aJ (newH c p):=List.length_replicate;refine(Cb c p (-1) W' hd0.qY hfine (by omega) (Nat.le_refl _)).mono ?_
 rintro e w' ⟨x,hxp,_,hkp,h4|h4⟩
 ·obtain⟨_,rfl,hi,_,_⟩:=h4
  have hm:Moved (hs 0).fp W' x.fp w':=qZ hkp (fun _ e=>e.1) hi.out
  have hyn:¬(hs 0).fp yp:=fun e=>by have:=hy'.past 0 (by omega) yp e;omega
  have hxn:¬(hs 0).fp w.heap.size:=fun e=>by have:=hy'.past 0 (by omega) _ e;omega
  have hby:w'.heap[yp]?=W'.heap[yp]?:=hm.block hy'.lt hyn;have hbx:w'.heap[w.heap.size]?=some (nR c p (-1)):=by rw[hm.block (by have:=hy'.lt;omega) hxn,hb.block _ (lt_of_some h.box)];exact h.box
  obtain⟨⟨v,q1⟩,q2⟩:=hy'.cell 6 (by omega)
  obtain⟨hY,hf⟩:=hy'.bW ht' htp hta hm (hi.re fun _ _ e=>e) hxp
  have hbx2:=hbx;unfold nR at hbx2;have s11:=(World.cell?_of_block hby).trans hy'.root;have s0:=(World.cell?_of_block hby).trans (hy'.Ci (show 0<5 by omega))
  have z0:w'.cell? ⟨w.heap.size,0,none⟩=some (.int .i64 c):=by rw[cell_of_row _ _ _ _ _ _ hbx2];rfl
  have z1:w'.cell? ⟨w.heap.size,1,none⟩=some (.int .i64 p):=by rw[cell_of_row _ _ _ _ _ _ hbx2];rfl
  have z2:w'.cell? ⟨w.heap.size,2,none⟩=some (.int .i64 (-1)):=by rw[cell_of_row _ _ _ _ _ _ hbx2];rfl
  have hne:∀ i,(⟨yp,6,none⟩:Addr)≠⟨w.heap.size,i,none⟩:=fun i e=>by injection e;omega
  refine⟨x.p,rfl,⟨s11,s0,z0,z1,z2⟩,⟨v,(World.cell?_of_block hby).trans q1⟩,(World.frozen?_of_block hby).trans q2,⟨?_,?_,?_,?_,?_⟩,_,hY,fun b hb2=>?_,?_⟩
  ·rw[World.cell?_setCell_other _ _ _ _ (by intro e;injection e with _ e;omega)];exact s11
  ·rw[World.cell?_setCell_other _ _ _ _ (by intro e;injection e with _ e;omega)];exact s0
  ·rw[World.cell?_setCell_other _ _ _ _ (hne 0)];exact z0
  ·rw[World.cell?_setCell_other _ _ _ _ (hne 1)];exact z1
  ·rw[World.cell?_setCell_other _ _ _ _ (hne 2)];exact z2
  ·rcases hf b hb2 with e|⟨i,hi,e⟩|e|e
   ·omega
   ·have:=hy.past i hi b e;omega
   ·have:=htp b e;omega
   ·have:=h.bel.size;have:=hb.size;omega
  ·have hbW:=h.bel.trans (hb.mono h.bel.size)
   exact(hbW.trans (hm.below hbW.size fun b e=>by have:=hy'.past 0 (by omega) b e;omega)).setCell (by show w.heap.size≤yp;omega) _
 ·exact absurd (zH hk (Nat.le_refl _)) h4.1
theorem UA(c p:Int)(w:World)(hk:(newH c p).ok=true)(hn:aJ (newH c p)≤200) :
    Calls Tryz.prog 30 #[.int .i64 c,.int .i64 p] w fun e w'=>∃(yp:Nat) (Y:Yh),e=.returned (.tuple #[.pointer (some ⟨yp,0,none⟩),.nilIface])∧ay w' yp Y (jF c p)∧(∀ b,fpY yp Y (jF c p) b→w.heap.size≤b)∧Below w.heap.size w w':=by
  have HB0:Hid (Below w.heap.size w (w.alloc (nR c p (-1)))):=(Below.refl _ _).alloc (Nat.le_refl _) _
  have HCH:Hid (Calls Tryz.prog 100 #[.agg #[.int .i64 c,.int .i64 p,.int .i64 (-1)]] (w.alloc (nR c p (-1))) fun e w'=>e=.returned .nilIface∧∀ N,N=w'.heap.size→Making w c p N 0 (.pointer none) (w'.alloc AV)):=by
    have:=oZ c p (-1) (w.alloc (nR c p (-1)))
    rw[show HV.fault ⟨c,p,-1⟩=0 by unfold HV.fault;rw[show HV.ok ⟨c,p,-1⟩=true from hk];rfl,aB] at this
    refine this.mono ?_;rintro e w' ⟨rfl,hb⟩;refine⟨rfl,fun N hN=>?_⟩
    subst hN;have hz:w.heap.size<w'.heap.size:=by have:=hb.size;simp at this;omega
    exact⟨⟨_,iJ.start w' _⟩,hz,(Below.heap_alloc w' _ _ hz).trans ((hb.block _ (by simp)).trans (heap_alloc_new w _)),(HB0.out.trans (hb.mono HB0.out.size)).alloc (Nat.le_of_lt hz) _⟩
  have HND:Hid (∀ W:World,Calls Tryz.prog 101 #[.agg #[.int .i64 c,.int .i64 p,.int .i64 (-1)]] W fun e w'=>e=.returned (.int .i64 (aJ (newH c p):Int))∧Below W.heap.size W w'):=fun W=>uq c p (-1) W hk
  have hn1:1≤aJ (newH c p):=by unfold aJ aI;omega
  have HDN:Hid (∀(k yp:Nat) (W:World),k<5→Making w c p yp k (.pointer none) W→Calls Tryz.prog 59 #[.int .i64 (aJ (newH c p):Int)] W fun e w'=>∃ dp:Nat,e=.returned (.tuple #[.pointer (some ⟨dp,0,none⟩),.nilIface])∧(∃ v,w'.cell? ⟨yp,k,none⟩=some v)∧w'.frozen? ⟨yp,k,none⟩=false∧(w'.cell? ⟨w.heap.size,0,none⟩=some (.int .i64 c)∧w'.cell? ⟨w.heap.size,1,none⟩=some (.int .i64 p)∧w'.cell? ⟨w.heap.size,2,none⟩=some (.int .i64 (-1)))∧Making w c p yp (k+1) (.pointer none) (w'.setCell ⟨yp,k,none⟩ (.pointer (some ⟨dp,0,none⟩)))):=fun k yp W hk5 hM=>by
    obtain⟨hs,hy⟩:=hM.bW;refine(zJ (aJ (newH c p)) W hn1 hn).mono ?_;rintro e w' ⟨d,rfl,hd,hb⟩;obtain⟨⟨v,q1⟩,q2⟩:=(hy.below hb).cell k (by omega)
    have hM':=hM.below hb;have hyp:=hM.yp;refine⟨d.p,rfl,⟨v,q1⟩,q2,hM'.boxes,⟨_,hy.step hk5 hb (Nat.le_refl _) hd⟩,hM.yp,?_,hM'.bel.setCell (by show w.heap.size≤yp;omega) _⟩
    rw[heap_setCell_other _ _ _ _ (by show w.heap.size≠yp;omega)];exact hM'.box
  have HTN:Hid (∀(yp:Nat) (W:World),Making w c p yp 5 (.pointer none) W→Calls Tryz.prog 59 #[.int .i64 1] W fun e w'=>∃ tp:Nat,e=.returned (.tuple #[.pointer (some ⟨tp,0,none⟩),.nilIface])∧(∃ v,w'.cell? ⟨yp,5,none⟩=some v)∧w'.frozen? ⟨yp,5,none⟩=false∧qW w c p yp (w'.setCell ⟨yp,5,none⟩ (.pointer (some ⟨tp,0,none⟩)))):=fun yp W hM=>by
    refine(zJ 1 W (by omega) (by omega)).mono ?_
    rintro e w' ⟨t,rfl,ht,hb⟩;obtain⟨hs,hy⟩:=hM.bW;obtain⟨⟨v,q1⟩,q2⟩:=(hy.below hb).cell 5 (by omega)
    exact⟨t.p,rfl,⟨v,q1⟩,q2,hM.top hb ht⟩
  have HCR:Hid (∀(yp:Nat) (W:World),qW w c p yp W→_):=fun yp W hT=>hT.create hk hn
  have HBX:Hid (∀(yp:Nat) (W:World),qW w c p yp W→W.cell? ⟨w.heap.size,0,none⟩=some (.int .i64 c)∧W.cell? ⟨w.heap.size,1,none⟩=some (.int .i64 p)∧W.cell? ⟨w.heap.size,2,none⟩=some (.int .i64 (-1))):=fun yp W hT=>by
    have hb:=hT.box;unfold nR at hb;refine⟨?_,?_,?_⟩<;>(rw[cell_of_row _ _ _ _ _ _ hb];rfl)
  have HDK:Hid (∀(yp:Nat) (Y:Yh) (W W':World),ay W yp Y (jy c p)→(∀ b,fpY yp Y (jy c p) b→w.heap.size≤b)→Below w.heap.size w W→Below W.heap.size W W'→Calls Tryz.prog 102 #[.pointer (some ⟨yp,0,none⟩),.agg #[.int .i64 (ak 0).root,.int .i64 (ak 0).kind,.int .i64 (ak 0).file,.int .i64 (ak 0).rate,.int .i64 (ak 0).burst]] W' fun e w'=>e=.returned .nilIface∧∃ Y',ay w' yp Y' (jF c p)∧(∀ b,fpY yp Y' (jF c p) b→w.heap.size≤b)∧Below w.heap.size w w'):=fun yp Y W W' hY hf hb hb2=>by
    have:=sK (m:=0) (ak 0) W' (hY.below hb2) (pO (n:=1) (by omega) (by omega)) (jH (by omega) (by omega)) (by omega)
    rw[show(jy c p).bJ=0 from Ov 1,aB] at this
    refine this.mono ?_;rintro e w' ⟨rfl,Y',_,h1,h2⟩;refine⟨rfl,Y',h1,fun b hb3=>?_,?_⟩
    · rcases h2.new b hb3 with e|e
      · exact hf b e
      · have:=hb.size;have:=hb2.size;omega
    · have hbW:=hb.trans (hb2.mono hb.size)
      exact hbW.trans (h2.below hbW.size hf)
  have HID:Hid (∀ W:World,Calls Tryz.prog 103 #[.int .i64 0] W fun e w'=>e=.returned (.agg #[.int .i64 (ak 0).root,.int .i64 (ak 0).kind,.int .i64 (ak 0).file,.int .i64 (ak 0).rate,.int .i64 (ak 0).burst])∧Below W.heap.size W w'):=fun W=>vJ 0 W
  clear hk hn hn1;generalize aJ (newH c p)=nn at HND HDN;unfold nR at HB0 HCH;unfold AV at HCH;go_enter Tryz.func30,Tryz.ntmps30
  go_wp2_with fail
  refine HCH.out.mono ?_;rintro e w1 ⟨rfl,hM0⟩;have HM0:=ah (hM0 _ rfl);clear hM0 HCH;go_wp2
  generalize hyp:w1.heap.size=yp at HM0 ⊢;generalize hWW:w1.alloc _=W2 at HM0 ⊢;clear hWW hyp HB0;go_loopw [9,21] (fun e i wr=>e=.nilIface∧∃ k:Nat,k≤5∧i=.int .i64 (k:Int)∧Making w c p yp k (.pointer none) wr) (fun _ i _=>5-(intOf i).toNat)
  case atStart=>exact⟨rfl,0,by omega,rfl,HM0.out⟩
  case round =>
    clear HM0;obtain⟨rfl,k,hk,rfl,hM⟩:=hrel;by_cases hlt:k<5
    · have HMD:Hid (Making w c p yp k (.pointer none) wr.drew):=hM.below (Below.refl _ _).drew
      have HBD:=ah HMD.out.boxes;clear hM;have k0:(0:Int)≤(k:Int):=by omega
      have k5:(k:Int)<5:=by omega
      have k2:((k:Int)).toNat=k:=by omega
      have k3:IntKind.i64.wrap ((k:Int)+1)=(k:Int)+1:=IntWalk.i64_in _ (by omega)
      go_wp2
      go_region_held3 (fun W=>W.cell? ⟨w.heap.size,0,none⟩=some (.int .i64 c)∧W.cell? ⟨w.heap.size,1,none⟩=some (.int .i64 p)∧W.cell? ⟨w.heap.size,2,none⟩=some (.int .i64 (-1)))
        (first|(exact HBD.out)|assumption)
        (first
          | (go_at_call 101;refine(HND.out _).mono ?_;rintro e w3 ⟨rfl,hb3⟩;have hM3:=HMD.out.below hb3;have hS3:=hM3.boxes;have HD3:=ah (HDN.out k yp w3 hlt hM3);clear hb3 hM3)
          | (go_at_call 59;refine HD3.out.mono ?_;rintro e w4 ⟨dp,rfl,⟨v,q1⟩,q2,hS4,hM4⟩;have HM4:=ah hM4;have hS5:=hM4.boxes;clear hM4))
      go_wp2
      refine⟨⟨rfl,k+1,by omega,by simp,HM4.out⟩,?_⟩
      simp only[intOf];omega
    · have hke:k=5:=by omega
      subst hke;have HT:=ah (HTN.out yp wr hM);clear hM HTN HDN HND;go_wp2_with fail
      refine HT.out.mono ?_;rintro e w4 ⟨tp,rfl,⟨v,q1⟩,q2,hT⟩;have HT5:=ah hT;clear hT HT;go_upto_region 17 with fail
      generalize hW5:w4.setCell ⟨yp,5,none⟩ (.pointer (some ⟨tp,0,none⟩))=W5 at HT5 ⊢;clear hW5 q1 q2;obtain⟨dp,r11,r0,hcr⟩:=HCR.out yp W5 HT5.out;obtain⟨x0,x1,x2⟩:=HBX.out yp W5 HT5.out;have HC:=ah (hcr W5.drew (Below.refl _ _).drew);have HS5:Hid (W5.drew.cell? ⟨yp,11,none⟩=some (.int .i64 0)∧W5.drew.cell? ⟨yp,0,none⟩=some (.pointer (some ⟨dp,0,none⟩))∧W5.drew.cell? ⟨w.heap.size,0,none⟩=some (.int .i64 c)∧W5.drew.cell? ⟨w.heap.size,1,none⟩=some (.int .i64 p)∧W5.drew.cell? ⟨w.heap.size,2,none⟩=some (.int .i64 (-1))):=⟨r11,r0,x0,x1,x2⟩;clear hcr HCR HBX HT5
      go_region_held3 (fun W=>W.cell? ⟨yp,11,none⟩=some (.int .i64 0)∧W.cell? ⟨yp,0,none⟩=some (.pointer (some ⟨dp,0,none⟩))∧W.cell? ⟨w.heap.size,0,none⟩=some (.int .i64 c)∧W.cell? ⟨w.heap.size,1,none⟩=some (.int .i64 p)∧W.cell? ⟨w.heap.size,2,none⟩=some (.int .i64 (-1)))
        (first|(exact HS5.out)|assumption)
        (first
          | (go_at_call 60;refine HC.out.mono ?_;rintro e w6 ⟨xp,rfl,hS6,⟨v6,q6⟩,qf6,hS7,Y,hY,hfp,hb6⟩;have HY:=ah hY;have HF:=ah hfp;have HB6:=ah hb6;have c11:(w6.setCell ⟨yp,6,none⟩ (.pointer (some ⟨xp,0,none⟩))).cell? ⟨yp,11,none⟩=some (.int .i64 0):=hY.blk.cells.2.2.2.1;clear hY hfp hb6))
      go_upto_region 20 with fail
      generalize hW7:w6.setCell ⟨yp,6,none⟩ (.pointer (some ⟨xp,0,none⟩))=W7 at HY HB6 c11 ⊢;go_wp2_with fail
      refine(HID.out _).mono ?_;rintro e w8 ⟨rfl,hb8⟩;have HK:=ah (HDK.out yp Y _ w8 HY.out HF.out HB6.out hb8);clear hb8 HDK HID;go_wp2_with fail
      refine HK.out.mono ?_;rintro e w9 ⟨rfl,Y',h1,h2,h3⟩;have H1:=ah h1;have H2:=ah h2;have H3:=ah h3;clear h1 h2 h3 HK;go_wp2
      go_ret2
      exact⟨yp,Y',rfl,H1.out,H2.out,H3.out⟩
theorem MZ:(Tryz.prog.info? 202).map (fun i=>(i.zero,i.size,i.bytes))=some (some (.slice none 0 0),1,24):=by kernel_rfl
theorem IsT.snoc{w w1 w2:World}{v:Value}{n:Nat}{vs:Nat→Value}{rows:Nat→Rw}(h:IsT w v n vs rows)(hb:Below w.heap.size w w1){u:Value}{l:Rw}(ho:w1.ownsRow 0 9 1 u l.length (flS l))(hu:∀ b,u.ownBlock=some b→w.heap.size≤b){g cap:Nat}(hg:w1.grownBy w2 v.ownBlock)(hw:w2.ownsRow 0 202 1 (.slice (some ⟨g,0,none⟩) (n+1) cap) (n+1) ((List.range n).map vs++[u])) :
  IsT w2 (.slice (some ⟨g,0,none⟩) (n+1) cap) (n+1) (fF vs n u) (iH rows n l):=by
 have hmap:(List.range (n+1)).map (fF vs n u)=(List.range n).map vs++[u]:=by
  rw[List.range_succ,List.map_append]
  congr 1
  ·refine List.map_congr_left fun k hk=>?_
   have:k<n:=List.mem_range.1 hk
   unfold fF;rw[if_neg (by omega)]
  ·show[fF vs n u n]=[u]
   unfold fF;rw[if_pos rfl]
 refine⟨by rw[hmap];exact hw,fun k hk=>?_,fun i j hi hj hij b e=>?_⟩
 ·unfold fF iH
  by_cases e:k=n
  ·rw[if_pos e,if_pos e]
   refine dA ho fun b hb2=>hg.block b ((ho.lt b hb2).2) (fun e2=>?_)
   have:=(h.own.lt b e2.symm).2
   have:=hu b hb2
   omega
  ·rw[if_neg e,if_neg e]
   have hk':k<n:=by omega
   refine dA (h.row k hk') fun b hb2=>?_
   have hl:=((h.row k hk').lt b hb2).2;rw[hg.block b (Nat.lt_of_lt_of_le hl hb.size) (fun e2=>h.uJ hk' hb2 e2.symm)]
   exact hb.block b hl
 ·unfold fF at e ⊢
  by_cases ei:i=n
  ·rw[if_pos ei] at e
   rw[if_neg (by omega)]
   intro e2;have:=hu b e
   have:=((h.row j (by omega)).lt b e2).2
   omega
  ·rw[if_neg ei] at e
   by_cases ej:j=n
   ·rw[if_pos ej]
    intro e2;have:=hu b e2
    have:=((h.row i (by omega)).lt b e).2
    omega
   ·rw[if_neg ej];exact h.inj i j (by omega) (by omega) hij b e
structure jE(w:World)(gp a b:Nat)(wr:World):Prop where
 ex:∃ G:Gh,wr.heap[gp]?=some (.cells #[G.vn,G.vc] 200 (0,0))∧IsT wr G.vn a G.rn (fun _=>[noughts])∧IsT wr G.vc b G.rc (fun _=>[noughts])∧(∀ k,fpT G.vn a G.rn k→¬fpT G.vc b G.rc k)∧∀ k,fpT G.vn a G.rn k∨fpT G.vc b G.rc k→w.heap.size≤k
 gp:w.heap.size≤gp
 bel:Below w.heap.size w wr
theorem FC(n:Nat):iH (fun _=>[noughts]) n [noughts]=fun _=>[noughts]:=by
 funext i
 unfold iH;split<;>rfl
theorem IsT.nil(w:World)(vs:Nat→Value)(rows:Nat→Rw):IsT w (.slice none 0 0) 0 vs rows:=⟨World.ownsRow_nil _ _ _ _,fun _ h=>(by omega),fun _ _ h=>(by omega)⟩
theorem Dj{vs:Nat→Value}{k:Nat}(h:fpT (.slice none 0 0) 0 vs k):False:=by
 rcases h with h|⟨i,hi,_⟩
 ·cases h
 ·omega
theorem jE.now{w wr:World}{gp a b:Nat}(h:jE w gp a b wr):∃(v:Value) (xs:List Value),wr.cell? ⟨gp,0,none⟩=some v∧gp<wr.heap.size∧wr.ownsRow 0 202 1 v a xs ∧
  ∀(w1 w2:World) (u:Value) (g cap:Nat),Below wr.heap.size wr w1→w1.ownsRow 0 9 1 u 1 (flS [noughts])→(∀ k,u.ownBlock=some k→wr.heap.size≤k)→w1.grownBy w2 v.ownBlock→w2.ownsRow 0 202 1 (.slice (some ⟨g,0,none⟩) (a+1) cap) (a+1) (xs++[u])→(v.ownBlock=some g∨wr.heap.size≤g) →
   w2.cell? ⟨gp,0,none⟩=some v∧w2.frozen? ⟨gp,0,none⟩=false∧jE w gp (a+1) b (w2.setCell ⟨gp,0,none⟩ (.slice (some ⟨g,0,none⟩) (a+1) cap)):=by
 obtain⟨G,b1,b2,b3,b4,b5⟩:=h.ex;have hgl:=lt_of_some b1
 have hng:∀ k c t,wr.heap[k]?=some (.cells c t (0,0))→(t=202∨t=9)→k≠gp:=fun k c t e p e2=>by
  rw[e2,b1] at e;cases e
  rcases p with p|p<;>cases p
 have hgn:∀ k,fpT G.vn a G.rn k→k≠gp:=fun k e=>by obtain⟨c,t,e1,p⟩:=b2.kind e;exact hng k c t e1 p
 have hgc:∀ k,fpT G.vc b G.rc k→k≠gp:=fun k e=>by obtain⟨c,t,e1,p⟩:=b3.kind e;exact hng k c t e1 p
 have c0:wr.cell? ⟨gp,0,none⟩=some G.vn:=by rw[cell_of_row _ _ _ _ _ _ b1];rfl
 refine⟨G.vn,(List.range a).map G.rn,c0,hgl,b2.own,fun w1 w2 u g cap hb ho hu hg hw hat=>?_⟩
 have hT:=b2.snoc hb (l:=[noughts]) ho hu hg hw;rw[FC] at hT;have hgb:w2.heap[gp]?=wr.heap[gp]?:=(hg.block gp (Nat.lt_of_lt_of_le hgl hb.size) (fun e=>hgn gp (.inl e.symm) rfl)).trans (hb.block gp hgl)
 have hks:∀ k,k<wr.heap.size→G.vn.ownBlock≠some k→k≠gp→(w2.setCell ⟨gp,0,none⟩ (.slice (some ⟨g,0,none⟩) (a+1) cap)).heap[k]?=wr.heap[k]?:=fun k h1 h2 h3=>by
  rw[heap_setCell_other _ _ _ _ h3,hg.block k (Nat.lt_of_lt_of_le h1 hb.size) (fun e=>h2 e.symm)]
  exact hb.block k h1
 have hgr:g≠gp:=fun e=>by
  rcases hat with e2|e2
  ·exact hgn g (.inl e2) e
  ·omega
 have hnew:∀ k,fpT (.slice (some ⟨g,0,none⟩) (a+1) cap) (a+1) (fF G.rn a u) k→fpT G.vn a G.rn k∨wr.heap.size≤k:=fun k e=>by
  rcases e with e|⟨i,hi,e⟩
  ·have e3:g=k:=by simpa [Value.ownBlock] using e
   rcases hat with e2|e2
   ·exact .inl (.inl (by rw[e2,e3]))
   ·exact .inr (by omega)
  ·unfold fF at e
   by_cases ei:i=a
   ·rw[if_pos ei] at e;exact .inr (hu k e)
   ·rw[if_neg ei] at e;exact .inl (.inr ⟨i,by omega,e⟩)
 have hTk:IsT (w2.setCell ⟨gp,0,none⟩ (.slice (some ⟨g,0,none⟩) (a+1) cap)) (.slice (some ⟨g,0,none⟩) (a+1) cap) (a+1) (fF G.rn a u) (fun _=>[noughts]):=hT.keep fun k e=>heap_setCell_other _ _ _ _ (fun e2=>by
  rcases hnew k e with e3|e3
  ·exact hgn k e3 e2
  ·have e4:k=gp:=e2;omega)
 have hOk:IsT (w2.setCell ⟨gp,0,none⟩ (.slice (some ⟨g,0,none⟩) (a+1) cap)) G.vc b G.rc (fun _=>[noughts]):=b3.keep fun k e=>hks k (b3.lt e) (fun e2=>b4 k (.inl e2) e) (hgc k e)
 refine⟨(World.cell?_of_block hgb).trans c0,(World.frozen?_of_block hgb).trans (frozen_of_row _ _ _ _ _ b1),⟨⟨.slice (some ⟨g,0,none⟩) (a+1) cap,G.vc,fF G.rn a u,G.rc⟩,?_,hTk,hOk,?_,?_⟩,h.gp,?_⟩
 ·rw[heap_setCell_same _ _ _ _ _ _ (hgb.trans b1)];rfl
 ·intro k e e2
  have eX:=e;rcases hnew k eX with e3|e3
  ·exact b4 k e3 e2
  ·have:=b3.lt e2;omega
 ·intro k e
  have hws:=h.bel.size;rcases e with e|e
  ·rcases hnew k e with e3|e3
   ·exact b5 k (.inl e3)
   ·omega
  ·exact b5 k (.inr e)
 ·have hbW:=h.bel.trans (hb.mono h.bel.size)
  exact(hbW.grown hg hbW.size (fun r e=>b5 r (.inl (.inl e)))).setCell h.gp _
theorem jE.cr{w wr:World}{gp a b:Nat}(h:jE w gp a b wr):∃(v:Value) (xs:List Value),wr.cell? ⟨gp,1,none⟩=some v∧gp<wr.heap.size∧wr.ownsRow 0 202 1 v b xs ∧
  ∀(w1 w2:World) (u:Value) (g cap:Nat),Below wr.heap.size wr w1→w1.ownsRow 0 9 1 u 1 (flS [noughts])→(∀ k,u.ownBlock=some k→wr.heap.size≤k)→w1.grownBy w2 v.ownBlock→w2.ownsRow 0 202 1 (.slice (some ⟨g,0,none⟩) (b+1) cap) (b+1) (xs++[u])→(v.ownBlock=some g∨wr.heap.size≤g) →
   w2.cell? ⟨gp,1,none⟩=some v∧w2.frozen? ⟨gp,1,none⟩=false∧jE w gp a (b+1) (w2.setCell ⟨gp,1,none⟩ (.slice (some ⟨g,0,none⟩) (b+1) cap)):=by
 obtain⟨G,b1,b2,b3,b4,b5⟩:=h.ex;have hgl:=lt_of_some b1
 have hng:∀ k c t,wr.heap[k]?=some (.cells c t (0,0))→(t=202∨t=9)→k≠gp:=fun k c t e p e2=>by
  rw[e2,b1] at e;cases e
  rcases p with p|p<;>cases p
 have hgn:∀ k,fpT G.vn a G.rn k→k≠gp:=fun k e=>by obtain⟨c,t,e1,p⟩:=b2.kind e;exact hng k c t e1 p
 have hgc:∀ k,fpT G.vc b G.rc k→k≠gp:=fun k e=>by obtain⟨c,t,e1,p⟩:=b3.kind e;exact hng k c t e1 p
 have c0:wr.cell? ⟨gp,1,none⟩=some G.vc:=by rw[cell_of_row _ _ _ _ _ _ b1];rfl
 refine⟨G.vc,(List.range b).map G.rc,c0,hgl,b3.own,fun w1 w2 u g cap hb ho hu hg hw hat=>?_⟩
 have hT:=b3.snoc hb (l:=[noughts]) ho hu hg hw;rw[FC] at hT;have hgb:w2.heap[gp]?=wr.heap[gp]?:=(hg.block gp (Nat.lt_of_lt_of_le hgl hb.size) (fun e=>hgc gp (.inl e.symm) rfl)).trans (hb.block gp hgl)
 have hks:∀ k,k<wr.heap.size→G.vc.ownBlock≠some k→k≠gp→(w2.setCell ⟨gp,1,none⟩ (.slice (some ⟨g,0,none⟩) (b+1) cap)).heap[k]?=wr.heap[k]?:=fun k h1 h2 h3=>by
  rw[heap_setCell_other _ _ _ _ h3,hg.block k (Nat.lt_of_lt_of_le h1 hb.size) (fun e=>h2 e.symm)]
  exact hb.block k h1
 have hgr:g≠gp:=fun e=>by
  rcases hat with e2|e2
  ·exact hgc g (.inl e2) e
  ·omega
 have hnew:∀ k,fpT (.slice (some ⟨g,0,none⟩) (b+1) cap) (b+1) (fF G.rc b u) k→fpT G.vc b G.rc k∨wr.heap.size≤k:=fun k e=>by
  rcases e with e|⟨i,hi,e⟩
  ·have e3:g=k:=by simpa [Value.ownBlock] using e
   rcases hat with e2|e2
   ·exact .inl (.inl (by rw[e2,e3]))
   ·exact .inr (by omega)
  ·unfold fF at e
   by_cases ei:i=b
   ·rw[if_pos ei] at e;exact .inr (hu k e)
   ·rw[if_neg ei] at e;exact .inl (.inr ⟨i,by omega,e⟩)
 have hTk:IsT (w2.setCell ⟨gp,1,none⟩ (.slice (some ⟨g,0,none⟩) (b+1) cap)) (.slice (some ⟨g,0,none⟩) (b+1) cap) (b+1) (fF G.rc b u) (fun _=>[noughts]):=hT.keep fun k e=>heap_setCell_other _ _ _ _ (fun e2=>by
  rcases hnew k e with e3|e3
  ·exact hgc k e3 e2
  ·have e4:k=gp:=e2;omega)
 have hOk:IsT (w2.setCell ⟨gp,1,none⟩ (.slice (some ⟨g,0,none⟩) (b+1) cap)) G.vn a G.rn (fun _=>[noughts]):=b2.keep fun k e=>hks k (b2.lt e) (fun e2=>b4 k e (.inl e2)) (hgn k e)
 refine⟨(World.cell?_of_block hgb).trans c0,(World.frozen?_of_block hgb).trans (frozen_of_row _ _ _ _ _ b1),⟨⟨G.vn,.slice (some ⟨g,0,none⟩) (b+1) cap,G.rn,fF G.rc b u⟩,?_,hOk,hTk,?_,?_⟩,h.gp,?_⟩
 ·rw[heap_setCell_same _ _ _ _ _ _ (hgb.trans b1)];rfl
 ·intro k e e2
  have eX:=e2;rcases hnew k eX with e3|e3
  ·exact b4 k e e3
  ·have:=b2.lt e;omega
 ·intro k e
  have hws:=h.bel.size;rcases e with e|e
  ·exact b5 k (.inl e)
  ·rcases hnew k e with e3|e3
   ·exact b5 k (.inr e3)
   ·omega
 ·have hbW:=h.bel.trans (hb.mono h.bel.size)
  exact(hbW.grown hg hbW.size (fun r e=>b5 r (.inr (.inl e)))).setCell h.gp _
end Go.Proofs.YtonhoahnieoebabGreatDoor
