/- A yard is opened (J2): how it ends. -/
import Derived.Test.YtonhoahnieoebabGreatDoorQAYardO3
import Derived.Test.YtonhoahnieoebabGreatDoorQAShapeDesk3
set_option maxHeartbeats 4000000
set_option maxRecDepth 100000
namespace Go.Proofs.YtonhoahnieoebabGreatDoor
open Go.RowKit Go.Maps
theorem Ox{s:SV}{d:aS}(h:newF s d=0):d.kind≠0:=by
 unfold newF at h;split at h
 ·next h0=>exact absurd h h0
 ·split at h
  ·cases h
  ·split at h
   ·cases h
   ·rcases BG h with e|e|e<;>omega
theorem Dv{s:SV}{d:aS}:mF s d=true↔¬(d.kind=2∧s.back d.root=d.file)∧newF s d=0:=by
 unfold mF;rw[decide_eq_true_eq];exact⟨fun h=>h.2,fun h=>⟨Ox h.2,h⟩⟩
theorem O9{w W W2:World}{yp m:Nat}{Y:Yh}{d:Nat→DV}{t:DV}{v:Value}(hY:ay W yp Y (xq d t))(hn:∀ b,fpY yp Y (xq d t) b→w.heap.size≤b)(hw:w.heap.size≤W.heap.size)(hj0:Y.jb.a=none)
  (hf:oQ (W.setCell ⟨yp,11,none⟩ (.int .i64 (aG t).root)) yp m Y (aY d) (aG t) v W2) :
  (∃ u,W2.cell? ⟨yp,12,none⟩=some u)∧W2.frozen? ⟨yp,12,none⟩=false∧∃ Y',ay (W2.setCell ⟨yp,12,none⟩ v) yp Y' (gK d t)∧(∀ b,fpY yp Y' (gK d t) b→w.heap.size≤b)∧(∀ g o,Y'.jb.a=some ⟨g,o,none⟩→w.heap.size≤g∧g<(W2.setCell ⟨yp,12,none⟩ v).heap.size):=by
 obtain⟨h1,_⟩:=hY.uS (aG t);obtain⟨hb,hc⟩:=hf;have h2:=h1.below hb;obtain⟨_,_,_,_,q12,qf⟩:=h2.blk.cells;have hsz:(W.setCell ⟨yp,11,none⟩ (.int .i64 (aG t).root)).heap.size=W.heap.size:=by simp[World.setCell]
 refine⟨⟨_,q12⟩,qf 12,?_⟩;rcases hc with⟨hno,rfl⟩|⟨hk,hnf,b,C,rfl,hP,hfr⟩
 ·have hg:¬mF (aY d) (aG t)=true:=fun e=>hno (Dv.1 e)
  have e1:(gK d t).j=none:=by show(if mF (aY d) (aG t)=true then _ else none)=none;rw[if_neg hg]
  have e2:(gK d t).kd.root=(aG t).root:=by show(if mF (aY d) (aG t)=true then aG t else ak (aG t).root).root=_;rw[if_neg hg];rfl
  have hset:∀ b,b≠yp→(W2.setCell ⟨yp,12,none⟩ (.pointer none)).heap[b]?=W2.heap[b]?:=fun b hb=>heap_setCell_other _ _ _ _ hb
  have hk:Kept (fun k=>k=yp) W2 (W2.setCell ⟨yp,12,none⟩ (.pointer none)):=Kept.setCell (S:=fun k=>k=yp) (p:=⟨yp,12,none⟩) (Kept.refl _ W2) (.inl rfl) _
  obtain⟨h3,_⟩:=h2.own (d:=aG t) hk (by have:=h2.blk.xO Y.jb (.pointer none);exact this)
  refine⟨Y,h3.re rfl rfl rfl e1 e2,fun b hb2=>hn b ?_,fun g o e=>by rw[hj0] at e;cases e⟩
  rcases hb2 with e|e|e|e
  ·exact .inl e
  ·exact .inr (.inl e)
  ·exact .inr (.inr (.inl e))
  ·exact absurd e1 e.1
 ·have hg:mF (aY d) (aG t)=true:=Dv.2 ⟨hk,hnf⟩
  have e1:(gK d t).j=some (iL (aY d) (aG t)):=by show(if mF (aY d) (aG t)=true then some _ else none)=_;rw[if_pos hg]
  have e2:(gK d t).kd.root=(aG t).root:=by show(if mF (aY d) (aG t)=true then aG t else ak (aG t).root).root=_;rw[if_pos hg]
  obtain⟨h5,h6⟩:=h1.started hb hP hfr h2 (Moved.of_below (Below.refl _ _));refine⟨{ Y with jb:=b },h5.re rfl rfl rfl e1 e2,fun k hk2=>?_,fun g o e=>?_⟩
  ·rcases hk2 with e|e|e|e
   ·exact hn k (.inl e)
   ·exact hn k (.inr (.inl e))
   ·exact hn k (.inr (.inr (.inl e)))
   ·rcases e.2 with e|e|e
    ·have:=hfr.1;rw[hsz] at this;rw[e];show w.heap.size≤b.jp;omega
    ·have:=hfr.2.1;rw[hsz] at this;rw[e];show w.heap.size≤b.lp;omega
    ·have:=hfr.2.2.1;rw[hsz] at this;rw[e];show w.heap.size≤b.bp;omega
  ·have h7:=hfr.2.2.2 g o e
   rw[hsz] at h7;have h8:=hP.nums.lt hP.ok.ne e;have h9:(W2.setCell ⟨yp,12,none⟩ (.pointer (some ⟨b.jp,0,none⟩))).heap.size=W2.heap.size:=by simp[World.setCell]
   omega
attribute [local go_sem ↓] Go.wp_at_zero Go.wp_at_succ
def zS(p:Nat):Obj:=.cells #[.pointer none,.pointer none,.pointer none,.pointer none,.pointer none,.pointer (some ⟨p,0,none⟩),.pointer none,.pointer none,.pointer none,.pointer none,.pointer none,.int .i64 0,.pointer none] 168 (0,0)
theorem YOp.start{w w1:World}{B:Nat}{h:Hd}{d:Nat→DV}{t:DV}(hb:Below w.heap.size w w1)(hB:B≤w.heap.size)(hd:aH w.heap.size w1 h t):YOp (w1.alloc (zS h.p)) B w1.heap.size 0 0 ⟨fun _=>h,h,fun _=>⟨0,h,0,0,0⟩,uw⟩ d t:=by
 have hz:=hb.size;refine⟨⟨_,heap_alloc_new w1 _,rfl,fun i hi=>(by omega),rfl,fun i hi=>(by omega),fun i _ hi=>?_,rfl,rfl⟩,fun i v hi=>(by omega),fun i hi=>(by omega),⟨hd.base0.keep fun b e=>Below.heap_alloc w1 _ _ (hd.lt b e).2,fun _ _ e=>e⟩,fun i j hi=>(by omega),fun i hi=>(by omega),fun i hi=>(by omega),fun b e=>?_,by omega⟩
 ·match i,hi with
  | 0,_=>rfl
  | 1,_=>rfl
  | 2,_=>rfl
  | 3,_=>rfl
  | 4,_=>rfl
 ·have:=hd.lt b e
  exact⟨by omega,by omega⟩
def jP(w:World)(yp k:Nat)(d:Nat→DV)(t:DV)(wr:World):Prop:=(∃ Y,YOp wr w.heap.size yp k k Y d t)∧Below w.heap.size w wr
def OpenAt(w:World)(yp k:Nat)(d:Nat→DV)(t:DV)(h:Hd)(wr:World):Prop:=(∃ Y,oq wr w.heap.size yp k Y d t h)∧Below w.heap.size w wr
def sV(w:World)(d:Nat→DV)(t:DV)(e:Ending)(w':World):Prop:=Below w.heap.size w w' ∧
 ((nU d t≠0∧e=.returned (.tuple #[.pointer none,erV (nU d t)]))∨(nU d t=0∧∃(yp:Nat) (Y:Yh),e=.returned (.tuple #[.pointer (some ⟨yp,0,none⟩),.nilIface])∧ay w' yp Y (gK d t)∧(∀ b,fpY yp Y (gK d t) b→w.heap.size≤b)∧(∀ g o,Y.jb.a=some ⟨g,o,none⟩→w.heap.size≤g∧g<w'.heap.size)))
theorem UC{g o cap m:Nat}{hs:Nat→Hd}{d:Nat→DV}{th:Hd}{t:DV}(w:World)(hp:mD w g o 5 hs)(hd:∀ i,i<5→bg Gd.no w (hs i) (d i))(ht:bg Gd.no w th t)(hf:∀ i,(d i).fine (d i).fl.length m)(htf:t.fine t.fl.length m) :
    Calls Tryz.prog 39 #[.slice (some ⟨g,o,none⟩) 5 cap,.pointer (some ⟨th.p,0,none⟩)] w fun e w'=>sV w d t e w':=by
  have HCN:=ah (Jp (cap:=cap) w hp (by omega))
  have HCT:Hid (Calls Tryz.prog 133 #[.pointer (some ⟨th.p,0,none⟩)] w fun e w'=>∃ tp:Nat,e=.returned (.pointer (some ⟨tp,0,none⟩))∧jP w w'.heap.size 0 d t (w'.alloc (zS tp))):=by
    refine(vW w ht.toaH).mono ?_;rintro e w' ⟨h',rfl,h1,hb⟩;exact⟨h'.p,rfl,⟨_,YOp.start hb (Nat.le_refl _) h1⟩,hb.alloc hb.size _⟩
  have HPT:Hid (∀(k:Nat) (W:World),k<5→Below w.heap.size w W→W.cell? ⟨g,o+k,none⟩=some (.pointer (some ⟨(hs k).p,0,none⟩))):=fun k W hk hb=>(hp.below (by omega) hb) k hk
  have HCP:Hid (∀(k yp:Nat) (W:World),k<5→jP w yp k d t W→Calls Tryz.prog 133 #[.pointer (some ⟨(hs k).p,0,none⟩)] W fun e w'=>∃ h':Hd,e=.returned (.pointer (some ⟨h'.p,0,none⟩))∧(∃ v,w'.cell? ⟨yp,k,none⟩=some v)∧w'.frozen? ⟨yp,k,none⟩=false∧OpenAt w yp k d t h' (w'.setCell ⟨yp,k,none⟩ (.pointer (some ⟨h'.p,0,none⟩)))):=fun k yp W hk ⟨⟨Y,hO⟩,hb⟩=>by
    have hdW:=(hd k hk).keep fun b e=>hb.block b ((hd k hk).lt b e).2
    refine(vW W hdW.toaH).mono ?_;rintro e w' ⟨h',rfl,h1,hb1⟩;obtain⟨q1,q2⟩:=(hO.below hb1).cell k (by omega)
    exact⟨h',rfl,q1,q2,⟨Y,hO.copied hk hb.size hb1 h1⟩,(hb.trans (hb1.mono hb.size)).setCell hO.pastY _⟩
  have HOC:Hid (∀(k yp:Nat) (h':Hd) (W:World),OpenAt w yp k d t h' W→W.cell? ⟨yp,k,none⟩=some (.pointer (some ⟨h'.p,0,none⟩))):=fun k yp h' W ⟨⟨Y,hC⟩,_⟩=>hC.cell
  have HON:Hid (∀(k yp:Nat) (h':Hd) (W:World),k<5→fO (d k)≠0→OpenAt w yp k d t h' W→Calls Tryz.prog 134 #[.pointer (some ⟨h'.p,0,none⟩)] W fun e w'=>e=.returned (.tuple #[.pointer none,.iface 127 (.int .i64 (fO (d k)))])∧jP w yp (k+1) d t w'):=fun k yp h' W hk hne ⟨⟨Y,hC⟩,hb⟩=>by
    refine(EC W hC.dev.qY (Nat.le_refl _)).mono ?_;rintro e w' ⟨hb1,⟨_,rfl⟩|⟨h0,_⟩⟩
    · exact⟨by rw[aT hne],(hC.below hb1).OG hk hne,hb.trans (hb1.mono hb.size)⟩
    · exact absurd h0 hne
  have HOY:Hid (∀(k yp:Nat) (h':Hd) (W:World),k<5→fO (d k)=0→OpenAt w yp k d t h' W→Calls Tryz.prog 134 #[.pointer (some ⟨h'.p,0,none⟩)] W fun e w'=>∃ xp:Nat,e=.returned (.tuple #[.pointer (some ⟨xp,0,none⟩),.nilIface])∧(∃ v,w'.cell? ⟨yp,6+k,none⟩=some v)∧w'.frozen? ⟨yp,6+k,none⟩=false∧jP w yp (k+1) d t (w'.setCell ⟨yp,6+k,none⟩ (.pointer (some ⟨xp,0,none⟩)))):=fun k yp h' W hk h0 ⟨⟨Y,hC⟩,hb⟩=>by
    refine(EC W hC.dev.qY (Nat.le_refl _)).mono ?_;rintro e w' ⟨hb1,⟨hne,_⟩|⟨_,x,hx,_,rfl,hi⟩⟩
    · exact absurd h0 hne
    · obtain⟨q1,q2⟩:=(hC.below hb1).op.cell (6+k) (by omega)
      exact⟨x.p,rfl,q1,q2,hC.image hk hb.size h0 hb1 hx hi,(hb.trans (hb1.mono hb.size)).setCell hC.op.pastY _⟩
  have hn1:=htf.ok.n1
  have HRD:Hid (∀(yp:Nat) (W:World),jP w yp 5 d t W→∃ tp:Nat,W.cell? ⟨yp,5,none⟩=some (.pointer (some ⟨tp,0,none⟩))∧Calls Tryz.prog 135 #[.pointer (some ⟨tp,0,none⟩),.int .i64 0] W fun e w'=>e=.returned (.tuple #[.string (bytesOf (t.seen.getD 0 [])),.nilIface])∧w'=W):=fun yp W ⟨⟨Y,hO⟩,hb⟩ =>
    ⟨Y.tp.p,hO.Tf,kF 0 W hO.top.toaH (by omega)⟩
  have HRK:Hid (∀ W:World,Calls Tryz.prog 136 #[.string (bytesOf (t.seen.getD 0 []))] W fun e w'=>e=.returned (.tuple #[.agg #[.int .i64 (aG t).root,.int .i64 (aG t).kind,.int .i64 (aG t).file,.int .i64 (aG t).rate,.int .i64 (aG t).burst],erV (bJ (bytesOf (t.seen.getD 0 [])))])∧Below W.heap.size W w'):=fun W=>PZ _ W
  have hsok:=zN hf;have hYF:nU d t=if bJ (bytesOf (t.seen.getD 0 []))=0 then ((aY d).walk (aG t).root).2 else bJ (bytesOf (t.seen.getD 0 [])):=rfl
  have HWK:Hid (∀(yp:Nat) (W:World),jP w yp 5 d t W→Calls Tryz.prog 15 #[.pointer (some ⟨yp,6,none⟩),.int .i64 (aG t).root] W fun e w'=>∃(a:Option Addr) (n cap:Nat),e=.returned (.tuple #[.slice a n cap,erV ((aY d).walk (aG t).root).2])∧Below W.heap.size W w'):=fun yp W ⟨⟨Y,hO⟩,hb⟩ =>
    (tN (aG t).root W (hO.bW.1.shelf hsok)).mono fun e w' ⟨a,cap,h1,_,_,h4⟩=>⟨a,_,cap,h1,h4⟩
  have HOB:Hid (∀(yp k:Nat) (W W':World),jP w yp k d t W→Below W.heap.size W W'→jP w yp k d t W'):=fun yp k W W' ⟨⟨Y,hO⟩,hb⟩ hb1=>⟨⟨Y,hO.below hb1⟩,hb.trans (hb1.mono hb.size)⟩
  have HO1:Hid (∀(yp k:Nat) (W:World),jP w yp k d t W→Below w.heap.size w W∧(∃ v,W.cell? ⟨yp,11,none⟩=some v)∧W.frozen? ⟨yp,11,none⟩=false):=fun yp k W ⟨⟨Y,hO⟩,hb⟩=>⟨hb,hO.cell 11 (by omega)⟩
  have HE1:Hid (bJ (bytesOf (t.seen.getD 0 []))≠0→∀ W:World,Below w.heap.size w W→sV w d t (.returned (.tuple #[.pointer none,.iface 127 (.int .i64 (bJ (bytesOf (t.seen.getD 0 []))))])) W):=fun hne W hb=>⟨hb,.inl ⟨by rw[hYF,if_neg hne];exact hne,by rw[hYF,if_neg hne,aT hne]⟩⟩
  have HE2:Hid (bJ (bytesOf (t.seen.getD 0 []))=0→((aY d).walk (aG t).root).2≠0→∀ W:World,Below w.heap.size w W→sV w d t (.returned (.tuple #[.pointer none,.iface 127 (.int .i64 ((aY d).walk (aG t).root).2)])) W):=fun h0 hne W hb=>⟨hb,.inl ⟨by rw[hYF,if_pos h0];exact hne,by rw[hYF,if_pos h0,aT hne]⟩⟩
  have HFD:Hid (bJ (bytesOf (t.seen.getD 0 []))=0→((aY d).walk (aG t).root).2=0→∀(yp:Nat) (W:World),jP w yp 5 d t W→Calls Tryz.prog 137 #[.pointer (some ⟨yp,0,none⟩),.agg #[.int .i64 (aG t).root,.int .i64 (aG t).kind,.int .i64 (aG t).file,.int .i64 (aG t).rate,.int .i64 (aG t).burst]] (W.setCell ⟨yp,11,none⟩ (.int .i64 (aG t).root)) fun e w'=>∃ po:Option Addr,e=.returned (.pointer po)∧(∃ u,w'.cell? ⟨yp,12,none⟩=some u)∧w'.frozen? ⟨yp,12,none⟩=false∧sV w d t (.returned (.tuple #[.pointer (some ⟨yp,0,none⟩),.nilIface])) (w'.setCell ⟨yp,12,none⟩ (.pointer po))):=fun h0 hw0 yp W ⟨⟨Y,hO⟩,hb⟩=>by
    obtain⟨hY,hn⟩:=hO.bW;have hyp:=hO.pastY;have hkf:(aG t).kv.fault=0:=Cc h0;have hbd:=of_decide_eq_true (KV.uz hkf).1;have hr0:0≤(aG t).root:=hbd.1
    have hne:((aY d).walk (aG t).root).1≠[]:=fun e=>by
      have:=SV.sH hw0
      rw[e] at this;have:(aG t).root = -1:=this
      omega
    obtain⟨v,hv,_⟩:=(Chain.of hw0 hne).root;have hrk:(((aG t).root.toNat:Nat):Int)=(aG t).root:=by omega
    obtain⟨h1,_⟩:=hY.uS (aG t);have:=Uw (m:=m) (rk:=(aG t).root.toNat) (aG t).kind (aG t).file (aG t).rate (aG t).burst _ h1 hsok ⟨v,by rw[hrk];exact hv⟩
    rw[hrk] at this;refine this.mono ?_;rintro e w' ⟨u0,rfl,hP⟩
    obtain⟨u,rfl⟩:∃ po:Option Addr,u0=.pointer po:=by
      rcases hP.2 with⟨_,e⟩|⟨_,_,b,_,e,_⟩
      · exact⟨_,e⟩
      · exact⟨_,e⟩
    obtain⟨q1,q2,Y',hY',hn',hj'⟩:=O9 (w:=w) hY hn hb.size rfl hP
    have hb2:Below w.heap.size w (w'.setCell ⟨yp,12,none⟩ (.pointer u)):=by
      have hb1:=hb.setCell (p:=⟨yp,11,none⟩) hyp (.int .i64 (aG t).root);exact(hb1.trans (hP.1.mono hb1.size)).setCell hyp _
    exact⟨u,rfl,q1,q2,hb2,.inr ⟨by rw[hYF,if_pos h0];exact hw0,yp,Y',rfl,hY',hn',hj'⟩⟩
  have HBX:Hid (∀(W:World) (N:Nat),W.heap[N]?=some (eF (aG t))→∀ W':World,W'.heap[N]?=W.heap[N]?→W'.cell? ⟨N,0,none⟩=some (.int .i64 (aG t).root)∧W'.rangeAt N 0 [.int .i64 (aG t).root,.int .i64 (aG t).kind,.int .i64 (aG t).file,.int .i64 (aG t).rate,.int .i64 (aG t).burst]):=fun W N hN W' hW=>by
    have e:W'.heap[N]?=some (eF (aG t)):=hW.trans hN;unfold eF at e;have c:∀ i,W'.cell? ⟨N,i,none⟩=(#[.int .i64 (aG t).root,.int .i64 (aG t).kind,.int .i64 (aG t).file,.int .i64 (aG t).rate,.int .i64 (aG t).burst]:Array Value)[i]?:=fun i=>cell_of_row _ _ _ _ _ _ e
    refine⟨c 0,fun j v hv=>?_⟩
    rw[Nat.zero_add,c j]
    simpa using hv
  have HI:Hid ((Tryz.prog.info? 47).map (·.size)=some ([.int .i64 (aG t).root,.int .i64 (aG t).kind,.int .i64 (aG t).file,.int .i64 (aG t).rate,.int .i64 (aG t).burst]:List Value).length):=uX
  have HOL:Hid (∀(yp k:Nat) (W:World),jP w yp k d t W→yp<W.heap.size):=fun yp k W ⟨⟨Y,hO⟩,hb⟩=>hO.lt
  unfold eF at HBX;clear hp hd ht hf hsok hn1 htf hYF;generalize sV w d t=P at HE1 HE2 HFD ⊢;generalize bytesOf (t.seen.getD 0 [])=ds at HRD HRK HE1 HE2 HFD;generalize (aG t).root=kr at HRK HWK HE2 HFD HBX HI;generalize (aG t).kind=kk at HRK HFD HBX HI;generalize (aG t).file=kf at HRK HFD HBX HI;generalize (aG t).rate=ka at HRK HFD HBX HI;generalize (aG t).burst=ku at HRK HFD HBX HI;generalize ((aY d).walk kr).2=wf at HWK HE2 HFD;go_enter Tryz.func39,Tryz.ntmps39
  go_wp2_with fail
  refine HCN.out.mono ?_;rintro e w' ⟨rfl,hw⟩;have hw':=hw.symm;subst hw';clear hw HCN;go_wp2_with fail
  refine HCT.out.mono ?_;rintro e w1 ⟨tp,rfl,hO⟩;have HO:=ah hO;clear hO HCT;unfold zS at HO;go_wp2_with fail
  generalize hyp:w1.heap.size=yp at HO ⊢;generalize hWW:w1.alloc _=W2 at HO ⊢;clear hWW hyp;go_loopw [34] (fun i wr=>∃ k:Nat,k≤5∧i=.int .i64 (k:Int)∧jP w yp k d t wr) (fun i _=>5-(intOf i).toNat)
  case atStart=>exact⟨0,by omega,rfl,HO.out⟩
  case round =>
    clear HO;obtain⟨k,hk,rfl,hO⟩:=hrel;by_cases hlt:k<5
    · have HOD:Hid (jP w yp k d t wr.drew):=HOB.out _ _ _ _ hO (Below.refl _ _).drew
      have e1:=HPT.out k wr hlt (HO1.out _ _ _ hO).1;have k0:(0:Int)≤(k:Int):=by omega
      have k5:(k:Int)<5:=by omega
      have k2:((k:Int)).toNat=k:=by omega
      have k3:IntKind.i64.wrap ((k:Int)+1)=(k:Int)+1:=IntWalk.i64_in _ (by omega)
      have HCK:=ah (HCP.out k yp wr.drew hlt HOD.out);clear hO HCP HPT HRD HRK HE1 HE2 HFD HWK HBX HI;generalize (hs k).p=dp at e1 HCK;go_wp2_with fail
      go_region_held3 (fun _=>True)
        (first|trivial|assumption)
        (first
          | (go_at_call 133;refine HCK.out.mono ?_;rintro e w4 ⟨h',rfl,⟨v,q1⟩,q2,hA⟩;have HA:=ah hA;have q3:=HOC.out _ _ _ _ hA;clear hA))
      clear HCK HOD;generalize hW5:w4.setCell ⟨yp,k,none⟩ (.pointer (some ⟨h'.p,0,none⟩))=W5 at HA q3 ⊢;clear hW5 q1 q2;by_cases hf0:fO (d k)=0
      · have HOP:=ah (HOY.out k yp h' W5 hlt hf0 HA.out)
        clear HOY HON HA hf0 HOC;go_wp2_with fail
        refine HOP.out.mono ?_;rintro e w6 ⟨xp,rfl,⟨v6,p1⟩,p2,hO6⟩;have HO6:=ah hO6;clear hO6 HOP;go_wp2
        refine⟨⟨k+1,by omega,by simp,HO6.out⟩,?_⟩
        simp only[intOf];omega
      · have HOP:=ah (HON.out k yp h' W5 hlt hf0 HA.out)
        clear HOY HON HA hf0 HOC;generalize fO (d k)=of at HOP;go_wp2_with fail
        refine HOP.out.mono ?_;rintro e w6 ⟨rfl,hO6⟩;have HO6:=ah hO6;clear hO6 HOP;go_wp2
        refine⟨⟨k+1,by omega,by simp,HO6.out⟩,?_⟩
        simp only[intOf];omega
    · have hke:k=5:=by omega
      subst hke;obtain⟨tq,c5,hrd⟩:=HRD.out yp wr hO;have HRW:=ah hrd;have HOW:=ah hO;clear hrd hO HRD HCP HPT HOC HON HOY;by_cases hdf:bJ ds=0
      · rw[hdf,aB] at HRK
        have HE2':=ah (HE2.out hdf);have HFD':=ah (HFD.out hdf);clear HE1 HE2 HFD hdf;by_cases hwf:wf=0
        · rw[hwf,aB] at HWK
          have HFD2:=ah (HFD'.out hwf);clear HE2' HFD' hwf;go_wp2_with fail
          refine HRW.out.mono ?_;rintro e w' ⟨rfl,hw⟩;have hw':=hw.symm;subst hw';clear hw HRW;go_wp2_with fail
          refine(HRK.out _).mono ?_;rintro e w3 ⟨rfl,hb3⟩;have hO3:=HOB.out _ _ _ _ HOW.out hb3;have hne:w3.heap.size≠yp:=by have:=HOL.out _ _ _ hO3;omega
          have HO4:Hid (jP w yp 5 d t (w3.alloc (.cells #[.int .i64 kr,.int .i64 kk,.int .i64 kf,.int .i64 ka,.int .i64 ku] 47))):=HOB.out _ _ _ _ hO3 ((Below.refl _ _).alloc (Nat.le_refl _) _);have HN4:Hid ((w3.alloc (.cells #[.int .i64 kr,.int .i64 kk,.int .i64 kf,.int .i64 ka,.int .i64 ku] 47)).heap[w3.heap.size]?=some (.cells #[.int .i64 kr,.int .i64 kk,.int .i64 kf,.int .i64 ka,.int .i64 ku] 47 (0,0))):=heap_alloc_new w3 _;clear hb3 hO3 HRK HOW;go_wp2_with fail
          generalize w3.alloc (.cells #[.int .i64 kr,.int .i64 kk,.int .i64 kf,.int .i64 ka,.int .i64 ku] 47)=W4 at HO4 HN4 ⊢;generalize w3.heap.size=N at HN4 hne ⊢;have HB4:=ah (HBX.out W4 N HN4.out);have HS4:Hid (W4.drew.cell? ⟨N,0,none⟩=some (.int .i64 kr)):=(HB4.out W4.drew rfl).1;have HO4d:Hid (jP w yp 5 d t W4.drew):=HOB.out _ _ _ _ HO4.out (Below.refl _ _).drew;have HWD:=ah (HWK.out yp W4.drew HO4d.out);have HNL:Hid (N<W4.drew.heap.size):=lt_of_some HN4.out;clear HWK HBX HN4 HO4
          go_region_held3 (fun W=>W.cell? ⟨N,0,none⟩=some (.int .i64 kr))
            (first|(exact HS4.out)|assumption)
            (first
              | (go_at_call 15;refine HWD.out.mono ?_;rintro e w5 ⟨a5,n5,cap5,rfl,hb5⟩;have HO5:=ah (HOB.out _ _ _ _ HO4d.out hb5);have HN5:Hid (w5.heap[N]?=W4.heap[N]?):=hb5.block N HNL.out;have hS5:w5.cell? ⟨N,0,none⟩=some (.int .i64 kr):=(HB4.out w5 HN5.out).1;have HN5s:Hid ((w5.setCell ⟨yp,11,none⟩ (.int .i64 kr)).heap[N]?=W4.heap[N]?):=(heap_setCell_other _ _ _ _ hne).trans HN5.out;clear hb5))
          clear HWD HS4 HO4d HNL HN5;obtain⟨_,⟨v11,q11⟩,qf11⟩:=HO1.out _ _ _ HO5.out;have HR5:=ah (HB4.out (w5.setCell ⟨yp,11,none⟩ (.int .i64 kr)) HN5s.out).2;have HF5:=ah (HFD2.out yp w5 HO5.out);clear HO5 HFD2 HB4 HO1 HN5s;go_wp2_with (refine wpList_load_mid (by rfl) 47 (.tmp 13) (by rfl) N 0 (by rfl) [.int .i64 kr,.int .i64 kk,.int .i64 kf,.int .i64 ka,.int .i64 ku] _ HR5.out Tryz.underlying47 rfl HI.out ?_)
          refine HF5.out.mono ?_;rintro e w6 ⟨po6,rfl,⟨u6,q12⟩,qf12,hP⟩;have HP:=ah hP;clear hP HF5;go_wp2
          exact HP.out
        · rw[aT hwf] at HWK
          have HE3:=ah (HE2'.out hwf);clear HE2' HFD';go_wp2_with fail
          refine HRW.out.mono ?_;rintro e w' ⟨rfl,hw⟩;have hw':=hw.symm;subst hw';clear hw HRW;go_wp2_with fail
          refine(HRK.out _).mono ?_;rintro e w3 ⟨rfl,hb3⟩;have hO3:=HOB.out _ _ _ _ HOW.out hb3;have hne:w3.heap.size≠yp:=by have:=HOL.out _ _ _ hO3;omega
          have HO4:Hid (jP w yp 5 d t (w3.alloc (.cells #[.int .i64 kr,.int .i64 kk,.int .i64 kf,.int .i64 ka,.int .i64 ku] 47))):=HOB.out _ _ _ _ hO3 ((Below.refl _ _).alloc (Nat.le_refl _) _);have HN4:Hid ((w3.alloc (.cells #[.int .i64 kr,.int .i64 kk,.int .i64 kf,.int .i64 ka,.int .i64 ku] 47)).heap[w3.heap.size]?=some (.cells #[.int .i64 kr,.int .i64 kk,.int .i64 kf,.int .i64 ka,.int .i64 ku] 47 (0,0))):=heap_alloc_new w3 _;clear hb3 hO3 HRK HOW;go_wp2_with fail
          generalize w3.alloc (.cells #[.int .i64 kr,.int .i64 kk,.int .i64 kf,.int .i64 ka,.int .i64 ku] 47)=W4 at HO4 HN4 ⊢;generalize w3.heap.size=N at HN4 hne ⊢;have HB4:=ah (HBX.out W4 N HN4.out);have HS4:Hid (W4.drew.cell? ⟨N,0,none⟩=some (.int .i64 kr)):=(HB4.out W4.drew rfl).1;have HO4d:Hid (jP w yp 5 d t W4.drew):=HOB.out _ _ _ _ HO4.out (Below.refl _ _).drew;have HWD:=ah (HWK.out yp W4.drew HO4d.out);have HNL:Hid (N<W4.drew.heap.size):=lt_of_some HN4.out;clear HWK HBX HN4 HO4
          go_region_held3 (fun W=>W.cell? ⟨N,0,none⟩=some (.int .i64 kr))
            (first|(exact HS4.out)|assumption)
            (first
              | (go_at_call 15;refine HWD.out.mono ?_;rintro e w5 ⟨a5,n5,cap5,rfl,hb5⟩;have HO5:=ah (HOB.out _ _ _ _ HO4d.out hb5);have HN5:Hid (w5.heap[N]?=W4.heap[N]?):=hb5.block N HNL.out;have hS5:w5.cell? ⟨N,0,none⟩=some (.int .i64 kr):=(HB4.out w5 HN5.out).1;have HN5s:Hid ((w5.setCell ⟨yp,11,none⟩ (.int .i64 kr)).heap[N]?=W4.heap[N]?):=(heap_setCell_other _ _ _ _ hne).trans HN5.out;clear hb5))
          clear HWD HS4 HO4d HNL HN5;have HP:=ah (HE3.out w5 (HO1.out _ _ _ HO5.out).1);clear HO5 HE3 HB4 HO1 HN5s;go_wp2
          exact HP.out
      · rw[aT hdf] at HRK
        have HE3:=ah (HE1.out hdf);clear HE1 HE2 HFD HWK HBX hdf;go_wp2_with fail
        refine HRW.out.mono ?_;rintro e w' ⟨rfl,hw⟩;have hw':=hw.symm;subst hw';clear hw HRW;go_wp2_with fail
        refine(HRK.out _).mono ?_;rintro e w3 ⟨rfl,hb3⟩;have hO3:=HOB.out _ _ _ _ HOW.out hb3;have hb4:=(HO1.out _ _ _ hO3).1;have HP:=ah (HE3.out (w3.alloc (.cells #[.int .i64 kr,.int .i64 kk,.int .i64 kf,.int .i64 ka,.int .i64 ku] 47)) (hb4.alloc hb4.size _));clear hb3 hO3 hb4 HRK HOW HE3;go_wp2
        exact HP.out
end Go.Proofs.YtonhoahnieoebabGreatDoor
