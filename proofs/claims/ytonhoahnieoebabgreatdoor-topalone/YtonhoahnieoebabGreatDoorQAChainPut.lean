/- A new job that may be (program). -/
import Derived.Test.YtonhoahnieoebabGreatDoorQARjMem
set_option maxHeartbeats 4000000
set_option maxRecDepth 100000
namespace Go.Proofs.YtonhoahnieoebabGreatDoor
open Go.RowKit Go.Maps
attribute [local go_sem ↓] Go.wp_at_zero Go.wp_at_succ
def lS(sp bp:Nat)(a:Option Addr)(ln cap:Nat)(kd fl:Int):Obj:=.cells #[.pointer (some ⟨sp,6,none⟩),.slice a ln cap,.int .i64 kd,.int .i64 fl,.int .i64 2,.pointer none,.pointer (some ⟨bp,0,none⟩),.int .i64 (-1)] 150 (0,0)
theorem Nc{sp bp ln cap:Nat}{a:Option Addr}{kd fl:Int}(w:World):∀ W:World,Below (w.alloc (lS sp bp a ln cap kd fl)).heap.size (w.alloc (lS sp bp a ln cap kd fl)) W→W.heap[w.heap.size]?=some (lS sp bp a ln cap kd fl):=fun W hb=>by
 have hlt:w.heap.size<(w.alloc (lS sp bp a ln cap kd fl)).heap.size:=by simp
 exact(hb.block _ hlt).trans (heap_alloc_new w _)
theorem DK{sp bp ln cap jp:Nat}{a:Option Addr}{kd fl:Int}{W:World}(h:W.heap[jp]?=some (lS sp bp a ln cap kd fl)):W.cell? ⟨jp,0,none⟩=some (.pointer (some ⟨sp,6,none⟩))∧W.cell? ⟨jp,1,none⟩=some (.slice a ln cap)∧W.cell? ⟨jp,2,none⟩=some (.int .i64 kd)∧W.cell? ⟨jp,3,none⟩=some (.int .i64 fl)∧W.cell? ⟨jp,5,none⟩=some (.pointer none)∧W.frozen? ⟨jp,5,none⟩=false:=by
 unfold lS at h;refine⟨?_,?_,?_,?_,?_,?_⟩<;>simp[World.cell?,World.frozen?,h]
theorem En{sp m:Nat}{xs:Nat→Ih}{s:SV}(d:aS)(w:World)(h:aV w sp xs s m)(hf:newF s d=0) :
    Calls Tryz.prog 22 #[.pointer (some ⟨sp,6,none⟩),.agg #[.int .i64 d.root,.int .i64 d.kind,.int .i64 d.file,.int .i64 d.rate,.int .i64 d.burst]] w fun e w'=>∃(jp lp bp C:Nat) (a:Option Addr) (cap:Nat),e=.returned (.tuple #[.pointer (some ⟨jp,0,none⟩),.nilIface])∧PJ w' sp jp lp bp a cap xs s m C (iL s d)∧(w.heap.size≤jp∧w.heap.size≤lp∧w.heap.size≤bp∧∀ g o,a=some ⟨g,o,none⟩→w.heap.size≤g)∧Below w.heap.size w w'∧JOk s C (iL s d):=by
  have hN:=wZ h.ok hf;obtain⟨C,hJ,hcC,hC1⟩:=hN.jok;have HB0:Hid (Below w.heap.size w (w.alloc (eF d))):=(Below.refl _ _).alloc (Nat.le_refl _) _;have HDK:=ah (tV d w);have HDR:=ah (wz d w);have HI:Hid ((Tryz.prog.info? 47).map (·.size)=some ([.int .i64 d.root,.int .i64 d.kind,.int .i64 d.file,.int .i64 d.rate,.int .i64 d.burst]:List Value).length):=uX
  have HWK:Hid (∀ W:World,Below w.heap.size w W→Calls Tryz.prog 15 #[.pointer (some ⟨sp,6,none⟩),.int .i64 d.root] W fun e w'=>∃(a:Option Addr) (cap:Nat),e=.returned (.tuple #[.slice a (s.walk d.root).1.length cap,.nilIface])∧Nums w' a (s.walk d.root).1∧(∀ g o,a=some ⟨g,o,none⟩→W.heap.size≤g∧g<w'.heap.size∧(s.walk d.root).1.length≤cap)∧Below W.heap.size W w'):=fun W hb=>by
    have:=tN d.root W (h.below hb)
    rw[hN.w0,aB] at this;exact this
  have HBG:Hid (∀ W:World,Calls Tryz.prog 83 #[.int .i64 d.rate,.int .i64 d.burst] W fun e w'=>e=.returned (.tuple #[.pointer (some ⟨W.heap.size,0,none⟩),.nilIface])∧S4.Three 245 w' W.heap.size d.rate d.burst d.burst∧Below W.heap.size W w'):=fun W=>S4.Bh d.rate d.burst W hN.rt hN.bu
  obtain⟨hg,hl5,hf0,_⟩:=s.walk_good d.root
  have HCK:Hid (∀(W:World) (a:Option Addr) (cap:Nat),Below w.heap.size w W→Nums W a (s.walk d.root).1→(s.walk d.root).1.length≤cap→Calls Tryz.prog 84 #[.pointer (some ⟨sp,6,none⟩),.slice a (s.walk d.root).1.length cap,.agg #[.int .i64 d.root,.int .i64 d.kind,.int .i64 d.file,.int .i64 d.rate,.int .i64 d.burst]] W fun e w'=>e=.returned .nilIface∧Below W.heap.size W w'):=fun W a cap hb hn hc=>by
    have:=BD (cap:=cap) _ d W (h.below hb) hn hg hN.ne (by omega) hc
    rw[hN.ck,aB] at this;exact this
  obtain⟨r,hl⟩:=SV.TL hN.w0 hN.ne;obtain⟨v,hv,hvc⟩:=hg d.root (by rw[hl];exact List.mem_cons_self)
  obtain⟨r0,r5,_⟩:=SV.dJ hv
  have hrC:v.h.c=((dW s d).n:Int):=by
    have h1:=hg.fV hN.ne;have h2:=hJ.n;omega
  have HHD:Hid (∀ W:World,Below w.heap.size w W→Calls Tryz.prog 67 #[.pointer (some ⟨(xs d.root.toNat).p,0,none⟩)] W fun e w'=>e=.returned (.agg #[.int .i64 ((dW s d).n:Int),.int .i64 v.h.p,.int .i64 v.h.b])∧Below W.heap.size W w'):=fun W hb=>by
    have:=oG W ((h.below hb).jZ hv).1
    rw[hrC] at this;exact this
  have HCE:Hid (∀ W:World,Below w.heap.size w W→W.cell? ⟨sp,6+d.root.toNat,none⟩=some (.pointer (some ⟨(xs d.root.toNat).p,0,none⟩))):=fun W hb=>(h.below hb).oW hv
  have HWN:Hid (∀(W:World) (jp cap:Nat) (a:Option Addr),Below w.heap.size w W→JHd W jp sp a cap (dW s d)→Nums W a (dW s d).l→Calls Tryz.prog 85 #[.pointer (some ⟨jp,0,none⟩),.int .i64 ((dW s d).n:Int)] W fun e w'=>∃ lp,e=.returned (.tuple #[.pointer (some ⟨lp,0,none⟩),.nilIface])∧S4.fU w' lp (dW s d).n (kJ s (dW s d) (dW s d).n)∧W.heap.size≤lp∧Below W.heap.size W w'):=fun W jp cap a hb hd hn=>TN W hd (h.below hb) hn hJ
  have HEND:Hid (∀(W:World) (jp lp bp cap:Nat) (a:Option Addr),Below w.heap.size w W→W.heap[jp]?=some (lS sp bp a (dW s d).l.length cap d.kind d.file)→w.heap.size≤jp→S4.Three 245 W bp d.rate d.burst d.burst→w.heap.size≤bp→S4.fU W lp (dW s d).n (kJ s (dW s d) (dW s d).n)→w.heap.size≤lp→Nums W a (dW s d).l→(∀ g o,a=some ⟨g,o,none⟩→w.heap.size≤g∧g≠jp∧g≠lp∧g≠bp)→(dW s d).l.length≤cap →
      PJ (W.setCell ⟨jp,5,none⟩ (.pointer (some ⟨lp,0,none⟩))) sp jp lp bp a cap xs s m C (iL s d)∧Below w.heap.size w (W.setCell ⟨jp,5,none⟩ (.pointer (some ⟨lp,0,none⟩)))):=fun W jp lp bp cap a hb h1 hj h2 hbp h3 hlp h4 h5 h6=>by
    have n1:lp≠jp:=fun e=>by
      have h3':W.heap[lp]?=_:=h3;rw[e,h1] at h3';simp[lS] at h3'
    have n2:bp≠jp:=fun e=>by
      have h2':W.heap[bp]?=_:=h2;rw[e,h1] at h2';simp[lS] at h2'
    have hsx:=(h.below hb);have nsp:∀ k,k<w.heap.size→k≠jp:=fun k hk e=>by omega
    have hsz:sp<w.heap.size:=h.lt;refine⟨⟨hsx.keep (heap_setCell_other _ _ _ _ (nsp sp hsz)) (fun k hk=>heap_setCell_other _ _ _ _ (nsp k (h.jJ hk))),⟨?_,(heap_setCell_other W ⟨jp,5,none⟩ lp _ n1).trans h3,(heap_setCell_other W ⟨jp,5,none⟩ bp _ n2).trans h2⟩,?_,?_,hJ.newX _,h6⟩,hb.setCell (p:=⟨jp,5,none⟩) hj _⟩
    · rw[heap_setCell_same W jp 5 _ _ _ h1];rfl
    · exact h4.keep fun g o e=>heap_setCell_other _ _ _ _ (h5 g o e).2.1
    · rintro g o e (hk|hk|hk|hk)
      · have:=h.jJ hk;have:=(h5 g o e).1;omega
      · exact(h5 g o e).2.1 hk
      · exact(h5 g o e).2.2.1 hk
      · exact(h5 g o e).2.2.2 hk
  have hl0:(dW s d).l=(s.walk d.root).1:=rfl;have HJX:Hid (JOk s C (iL s d)):=hJ.newX _;have HKF:Hid ((dW s d).kind=d.kind∧(dW s d).file=d.file):=⟨rfl,rfl⟩;have hne:=hN.ne;rw[hl0] at HEND
  have HJH:Hid (∀(W:World) (jp bp cap:Nat) (a:Option Addr),W.heap[jp]?=some (lS sp bp a (s.walk d.root).1.length cap d.kind d.file)→(s.walk d.root).1.length≤cap→JHd W jp sp a cap (dW s d)):=fun W jp bp cap a hb hc=>by
    obtain⟨q0,q1,q2,q3,_⟩:=DK hb;exact⟨q0,q1,q2,q3,hc⟩
  rw[hl0] at HWN;generalize iL s d=J at HEND HJX ⊢;generalize hj0:dW s d=J0 at HHD HWN HEND HKF HJH;generalize s.walk d.root=R at HWK HCK HWN HEND HJH hl5 hne;obtain⟨l,f⟩:=R;simp only at HWK HCK HWN HEND HJH hl5 hne;have hlp:0<l.length:=List.length_pos_iff.2 hne;have hlz:((l.length:Int)==0)=false:=by simp;omega
  have f1:=o9 (J0.n:Int) v.h.p v.h.b;obtain⟨rk,hrk⟩:∃ rk:Nat,d.root=(rk:Int):=⟨d.root.toNat,by omega⟩
  have hrt:d.root.toNat=rk:=by omega
  rw[hrt] at HHD HCE;have rk0:(0:Int)≤(rk:Int):=by omega
  have rk5:(rk:Int)<5:=by omega
  have HSP:Hid (sp<w.heap.size):=h.lt;clear h hN hJ hcC hC1 hg hv hvc hl hrC hl0 hj0 hf hf0 hl5 hrt r0 r5;generalize (xs rk).p=xr at HHD HCE;generalize v.h.p=vp at HHD f1;generalize v.h.b=vb at HHD f1;generalize kJ s J0 J0.n=X at HWN HEND;generalize J0.n=nn at HHD HWN HEND f1;unfold eF at HB0 HDK HDR;rw[hrk] at HWK HCK HI HDK HB0 HDR ⊢;obtain⟨d0,d1,d2,d3,d4⟩:=HDK.out _ (Below.refl _ _);clear hrk;go_enter Tryz.func22,Tryz.ntmps22
  go_wp2_with fail
  refine(HWK.out _ HB0.out).mono ?_;rintro e w1 ⟨a,cap,rfl,hn1,ha1,hb1⟩;have HB1:=ah (HB0.out.trans (hb1.mono HB0.out.size));have HBD1:=ah hb1;obtain⟨g,o,rfl,_⟩:=hn1 0 hlp;have HN1:=ah hn1;obtain⟨hag,hgl,hcap⟩:=ha1 g o rfl;have hgw:w.heap.size≤g:=Nat.le_trans HB0.out.size hag;obtain⟨q0,q1,q2,q3,q4⟩:=HDK.out _ hb1;clear hn1 ha1 hb1 HWK hag d0 d1 d2 d3 d4;go_wp2_with fail
  refine(HBG.out _).mono ?_;rintro e w2 ⟨rfl,hbk2,hb2⟩;have HK2:=ah hbk2;have HB2:=ah (HB1.out.trans (hb2.mono HB1.out.size));have HN2:=ah (HN1.out.below hb2);have HC2:=ah (HCK.out w2 (some ⟨g,o,none⟩) cap HB2.out HN2.out hcap);have HBD2:=ah (HBD1.out.trans (hb2.mono HBD1.out.size));have HR2:=ah (HDR.out _ HBD2.out);have hbp:w.heap.size≤w1.heap.size:=HB1.out.size;have hgb:g≠w1.heap.size:=by omega
  clear hbk2 hb2 HBG HCK q0 q1 q2 q3 q4 HN1 HB1 HBD1;generalize w1.heap.size=bp at HK2 hbp hgb ⊢;go_wp2_with (refine wpList_load_mid (by rfl) 47 (.tmp 3) (by rfl) w.heap.size 0 (by rfl) [.int .i64 (rk:Int),.int .i64 d.kind,.int .i64 d.file,.int .i64 d.rate,.int .i64 d.burst] _ HR2.out Tryz.underlying47 rfl HI.out ?_)
  refine HC2.out.mono ?_;rintro e w3 ⟨rfl,hb3⟩;have HB3:=ah (HB2.out.trans (hb3.mono HB2.out.size));have HBD3:=ah (HBD2.out.trans (hb3.mono HBD2.out.size));have HN3:=ah (HN2.out.below hb3);have HK3:=ah (HK2.out.below hb3);obtain⟨q0,q1,q2,q3,q4⟩:=HDK.out _ HBD3.out
  have hg3:g<w3.heap.size:=by
    obtain⟨g',o',ee,ec⟩:=HN3.out 0 hlp;cases ee
    exact World.block_lt_of_cell? _ _ ec
  clear hb3 HC2 HR2 HK2 HN2 HB2 HBD2;have HB4:Hid (Below w.heap.size w (w3.alloc (lS sp bp (some ⟨g,o,none⟩) l.length cap d.kind d.file))):=HB3.out.alloc HB3.out.size _;have HA4:Hid (Below w3.heap.size w3 (w3.alloc (lS sp bp (some ⟨g,o,none⟩) l.length cap d.kind d.file))):=(Below.refl _ _).alloc (Nat.le_refl _) _;have HJC:=ah (Nc (sp:=sp) (bp:=bp) (ln:=l.length) (cap:=cap) (a:=some ⟨g,o,none⟩) (kd:=d.kind) (fl:=d.file) w3);have hjp:w.heap.size≤w3.heap.size:=HB3.out.size;unfold lS at HB4 HA4 HJC;go_wp2_with fail
  generalize hW4:w3.alloc (.cells #[.pointer (some ⟨sp,6,none⟩),.slice (some ⟨g,o,none⟩) l.length cap,.int .i64 d.kind,.int .i64 d.file,.int .i64 2,.pointer none,.pointer (some ⟨bp,0,none⟩),.int .i64 (-1)] 150)=W4 at HB4 HA4 HJC ⊢;have HN4:=ah (HN3.out.below HA4.out);have HK4:=ah (HK3.out.below HA4.out);have HBD4:=ah (HBD3.out.trans (HA4.out.mono HBD3.out.size));have hgj:g≠w3.heap.size:=by omega
  have hw4:w3.heap.size<W4.heap.size:=by rw[← hW4];simp
  clear hW4 q0 q1 q2 q3 q4 HN3 HK3 HB3 HBD3 HA4;generalize w3.heap.size=jp at HJC hjp hgj hw4 ⊢;obtain⟨e0,_⟩:=HDK.out _ HBD4.out.drew;have e1:=HCE.out _ HB4.out.drew;have HB5:Hid (Below w.heap.size w W4.drew):=HB4.out.drew;have HBJ5:Hid (Below W4.heap.size W4 W4.drew):=(Below.refl _ _).drew;have hNlt:w.heap.size<W4.heap.size:=by have:=World.block_lt_of_cell? _ _ e0;exact this
  have hspW:sp<W4.heap.size:=World.block_lt_of_cell? _ _ e1
  have hNj:w.heap.size≠jp:=fun e=>by
    have h1:=HJC.out W4 (Below.refl _ _);have h2:=(HDR.out _ HBD4.out) 0 _ rfl;rw[← e] at h1;have h3:W4.cell? ⟨w.heap.size,0,none⟩=some (.pointer (some ⟨sp,6,none⟩)):=by simp[World.cell?,h1]
    rw[h3] at h2;cases h2
  have hsj:sp≠jp:=by have:=HSP.out;omega
  go_region_held3 (fun W=>W.cell? ⟨w.heap.size,0,none⟩=some (.int .i64 (rk:Int))∧W.cell? ⟨sp,6+rk,none⟩=some (.pointer (some ⟨xr,0,none⟩)))
    (first|(exact⟨e0,e1⟩)|assumption|(exact HS9.out))
    (first
      | (go_at_call 67;refine(HHD.out _ HB5.out).mono ?_;rintro e w5 ⟨rfl,hb5⟩;have HB6:=ah (HB5.out.trans (hb5.mono HB5.out.size));have HBJ6:=ah (HBJ5.out.trans (hb5.mono HBJ5.out.size));have hS5:w5.cell? ⟨w.heap.size,0,none⟩=some (.int .i64 (rk:Int))∧w5.cell? ⟨sp,6+rk,none⟩=some (.pointer (some ⟨xr,0,none⟩)):=⟨(hb5.cell (p:=⟨w.heap.size,0,none⟩) (World.block_lt_of_cell? _ _ e0)).trans e0,(hb5.cell (p:=⟨sp,6+rk,none⟩) (World.block_lt_of_cell? _ _ e1)).trans e1⟩;clear hb5)
      | (go_at_call 85;refine(HWN.out _ jp cap (some ⟨g,o,none⟩) HB6.out (HJH.out _ jp bp cap _ (HJC.out _ HBJ6.out) hcap) (HN4.out.below HBJ6.out)).mono ?_;rintro e w6 ⟨lp,rfl,hi6,hlp6,hb6⟩;have hS6:w6.cell? ⟨w.heap.size,0,none⟩=some (.int .i64 (rk:Int))∧w6.cell? ⟨sp,6+rk,none⟩=some (.pointer (some ⟨xr,0,none⟩)):=⟨(hb6.cell (p:=⟨w.heap.size,0,none⟩) (World.block_lt_of_cell? _ _ hS5.1)).trans hS5.1,(hb6.cell (p:=⟨sp,6+rk,none⟩) (World.block_lt_of_cell? _ _ hS5.2)).trans hS5.2⟩;have HBJ7:=ah (HBJ6.out.trans (hb6.mono HBJ6.out.size));obtain⟨_,_,_,_,c5,f5⟩:=DK (HJC.out _ HBJ7.out);have HS9:Hid ((w6.setCell ⟨jp,5,none⟩ (.pointer (some ⟨lp,0,none⟩))).cell? ⟨w.heap.size,0,none⟩=some (.int .i64 (rk:Int))∧(w6.setCell ⟨jp,5,none⟩ (.pointer (some ⟨lp,0,none⟩))).cell? ⟨sp,6+rk,none⟩=some (.pointer (some ⟨xr,0,none⟩))):=⟨(World.cell?_of_block (heap_setCell_other w6 ⟨jp,5,none⟩ w.heap.size _ hNj)).trans hS6.1,(World.cell?_of_block (heap_setCell_other w6 ⟨jp,5,none⟩ sp _ hsj)).trans hS6.2⟩))
  have HW6:Hid (Below w.heap.size w w6):=HB6.out.trans (hb6.mono HB6.out.size);have hlw:W4.heap.size≤lp:=Nat.le_trans HBJ6.out.size hlp6;have hgW:g<W4.heap.size:=World.block_lt_of_cell? _ _ (show W4.cell? ⟨g,o+0,none⟩=_ by obtain⟨g',o',ee,ec⟩:=HN4.out 0 hlp;cases ee;exact ec)
  obtain⟨hP,hB⟩:=HEND.out w6 jp lp bp cap (some ⟨g,o,none⟩) HW6.out (HJC.out _ HBJ7.out) hjp (HK4.out.below HBJ7.out) hbp hi6 (by omega) (HN4.out.below HBJ7.out) (fun g' o' ee=>by cases ee;exact⟨hgw,hgj,by omega,hgb⟩) hcap
  have HP:=ah hP;have HB:=ah hB;clear hP hB hi6 hb6 hS5 hS6;have HFIN:Hid (w.heap.size≤jp∧w.heap.size≤lp∧w.heap.size≤bp∧∀ g' o',some (⟨g,o,none⟩:Addr)=some ⟨g',o',none⟩→w.heap.size≤g'):=⟨hjp,by omega,hbp,fun g' o' ee=>by cases ee;exact hgw⟩
  go_wp2
  go_ret2
  exact⟨jp,lp,bp,C,some ⟨g,o,none⟩,cap,rfl,HP.out,HFIN.out,HB.out,HJX.out⟩
def ptV(p:Pt):List Value:=[.int .i64 (p.c:Int),.int .i64 (p.f:Int),.int .i64 (p.n:Int),.int .i64 (p.a:Int)]
def jT(l:List Pt):List Value:=(l.map ptV).flatten
theorem PI(l:List Pt)(p:Pt):jT (l++[p])=jT l++ptV p:=by simp[jT]
theorem MV:(Tryz.prog.info? 224).map (fun i=>(i.zero,i.size,i.bytes))=some (some (.agg #[.int .i64 0,.int .i64 0,.int .i64 0,.int .i64 0]),4,32):=by kernel_rfl
structure PartsAt(w:World)(fr n:Nat)(l:List Pt)(k:Nat)(a:Option Addr)(cap:Nat)(wr:World):Prop where
 own:wr.ownsRow w.heap.size 224 4 (.slice a l.length cap) l.length (jT l)
 go:l++aO fr n k=aO fr n 0
 le:k≤n
 len:l.length≤k
 bel:Below w.heap.size w wr
theorem zU(fr n:Nat)(w:World)(hfn:fr+n≤1000) :
    Calls Tryz.prog 175 #[.int .i64 (fr:Int),.int .i64 (n:Int)] w fun e w' =>
      ∃(a:Option Addr) (cap:Nat),e=.returned (.slice a (aO fr n 0).length cap)∧w'.ownsRow w.heap.size 224 4 (.slice a (aO fr n 0).length cap) (aO fr n 0).length (jT (aO fr n 0))∧Below w.heap.size w w':=by
  obtain⟨i1,hi1,hx0,hx1,hx2⟩:=info_parts MV;have HST:Hid (PartsAt w fr n [] 0 none 0 w):=⟨World.ownsRow_nil _ _ _ _,rfl,Nat.zero_le _,Nat.zero_le _,Below.refl _ _⟩;have HNI:Hid (∀ k,¬k<n→aO fr n k=[]):=fun k hk=>mM hk
  have HCO:Hid (∀ k,k<n→aO fr n k=eG fr n k::aO fr n (k+(eG fr n k).n)):=fun k hk=>oM hk
  have HMK:Hid (∀ k,k<n→1≤(eG fr n k).n∧(eG fr n k).f+(eG fr n k).n≤4∧k+(eG fr n k).n≤n):=fun k hk=>oJ hk
  go_enter Tryz.func175,Tryz.ntmps175
  go_wp2
  go_loopw [5,6] (fun u i wr=>∃(l:List Pt) (k:Nat) (a:Option Addr) (cap:Nat),u=.slice a l.length cap∧i=.int .i64 (k:Int)∧PartsAt w fr n l k a cap wr) (fun _ i _=>n-(intOf i).toNat)
  case atStart=>exact⟨[],0,none,0,rfl,rfl,HST.out⟩
  case round =>
    obtain⟨l,k,a,cap,rfl,rfl,hw⟩:=hrel;have hkn:=hw.le;have hlk:=hw.len;by_cases hlt:k<n
    · have HGO:Hid ((l++[eG fr n k])++aO fr n (k+(eG fr n k).n)=aO fr n 0):=by
        unfold Hid;rw[← hw.go,HCO.out k hlt];simp
      have HOW:=ah hw.own;have HB:=ah hw.bel;have HM:Hid (l.length+1≤maxLen):=by unfold Hid maxLen;omega
      obtain⟨m1,m2,m3⟩:=HMK.out k hlt
      have HPV:Hid (ptV (eG fr n k)=[.int .i64 (((fr:Int)+(k:Int)) / 4),.int .i64 (((fr:Int)+(k:Int)) % 4),.int .i64 (min (4-((fr:Int)+(k:Int)) % 4) ((n:Int)-(k:Int))),.int .i64 (k:Int)]):=by
        unfold Hid ptV;have e1:((eG fr n k).c:Int)=((fr:Int)+(k:Int)) / 4:=by show(((fr+k) / 4:Nat):Int)=_;omega
        have e2:((eG fr n k).f:Int)=((fr:Int)+(k:Int)) % 4:=by show(((fr+k) % 4:Nat):Int)=_;omega
        have e3:((eG fr n k).n:Int)=min (4-((fr:Int)+(k:Int)) % 4) ((n:Int)-(k:Int)):=by show((min (4-(fr+k) % 4) (n-k):Nat):Int)=_;omega
        rw[e1,e2,e3];rfl
      have HMN:Hid (min (4-((fr:Int)+(k:Int)) % 4) ((n:Int)-(k:Int))=((eG fr n k).n:Int)):=by
        unfold Hid;show _=((min (4-(fr+k) % 4) (n-k):Nat):Int)
        omega
      clear hw HCO HMK HNI HST;generalize hp:eG fr n k=p at HGO m1 m2 m3 HPV HMN;clear hp;have hat0:(0:Int)≤(fr:Int)+(k:Int):=by omega
      have k1:IntKind.i64.wrap ((fr:Int)+(k:Int))=(fr:Int)+(k:Int):=IntWalk.i64_in _ (by omega)
      have k2:(0:Int)≤((fr:Int)+(k:Int)) % 4:=by omega
      have k3:((fr:Int)+(k:Int)) % 4<4:=by omega
      obtain⟨C,hC⟩:∃ C:Array Value,C = #[.int .i64 (((fr:Int)+(k:Int)) / 4),.int .i64 (((fr:Int)+(k:Int)) % 4),.int .i64 (min (4-((fr:Int)+(k:Int)) % 4) ((n:Int)-(k:Int))),.int .i64 (k:Int)]:=⟨_,rfl⟩;have HNP:Hid (C.toList=ptV p):=by unfold Hid;rw[HPV.out,hC]
      have HO1:Hid (((wr.alloc (.cells C 224)).alloc (.cells C 224)).ownsRow w.heap.size 224 4 (.slice a l.length cap) l.length (jT l)):=(HOW.out.alloc _).alloc _;have HZ1:Hid (((wr.alloc (.cells C 224)).alloc (.cells C 224)).heap.size=wr.heap.size+2):=by unfold Hid;simp
      have HB1:Hid (w.heap.size≤((wr.alloc (.cells C 224)).alloc (.cells C 224)).heap.size):=by unfold Hid;have:=HB.out.size;rw[HZ1.out];omega
      have hx7:((wr.alloc (.cells C 224)).alloc (.cells C 224)).heap[wr.heap.size+1]?=some (.cells C 224 (0,0)):=by
        have:=heap_alloc_new (wr.alloc (.cells C 224)) (.cells C 224)
        rw[show(wr.alloc (.cells C 224)).heap.size=wr.heap.size+1 by simp] at this;exact this
      have HX5:Hid (((wr.alloc (.cells C 224)).alloc (.cells C 224)).heap[wr.heap.size]?=some (.cells C 224 (0,0))):=by unfold Hid;rw[Below.heap_alloc _ _ _ (by simp),heap_alloc_new]
      have HN1:Hid (∀ j y,([.int .i64 (((fr:Int)+(k:Int)) / 4),.int .i64 (((fr:Int)+(k:Int)) % 4),.int .i64 (min (4-((fr:Int)+(k:Int)) % 4) ((n:Int)-(k:Int))),.int .i64 (k:Int)]:List Value)[j]?=some y→((wr.alloc (.cells C 224)).alloc (.cells C 224)).cell? ((⟨wr.heap.size+1,0,none⟩:Addr).add j)=some y):=by
        have:=World.news_of_block hx7
        rw[hC] at this ⊢;exact this
      have HBA:Hid (Below w.heap.size w ((wr.alloc (.cells C 224)).alloc (.cells C 224))):=(HB.out.alloc HB.out.size _).alloc (by have:=HB.out.size;simp;omega) _
      have HNE:Hid (some wr.heap.size≠(Value.slice a l.length cap).ownBlock):=fun e=>by have:=(HOW.out.lt _ e.symm).2;omega
      rw[hC] at HO1 HZ1 HB1 HX5 HN1 HBA;clear hx7 hC
      go_wp2_with (at_builtin;refine wpList_append_lies _ (by rfl) _ _ 221 (by rfl) w.heap.size 224 i1 (.agg #[.int .i64 0,.int .i64 0,.int .i64 0,.int .i64 0]) 4 32 Tryz.underlying221 hi1 hx0 hx1 hx2 rfl (by decide) (.slice a l.length cap) l.length (jT l) (by rfl) HO1.out ⟨wr.heap.size+1,0,none⟩ 1 1 [.int .i64 (((fr:Int)+(k:Int)) / 4),.int .i64 (((fr:Int)+(k:Int)) % 4),.int .i64 (min (4-((fr:Int)+(k:Int)) % 4) ((n:Int)-(k:Int))),.int .i64 (k:Int)] (by rfl) (by rfl) HN1.out (fun u hu=>by simp at hu;rcases hu with rfl|rfl|rfl|rfl<;>rfl) (by decide) HM.out (by omega) HB1.out (wr.heap.size+2) HZ1.out ?_
                   intro g kc w1 hown hgrow hat hlt1;have HBF:Hid (Below w.heap.size w w1):=HBA.out.grown hgrow HB1.out (fun r e=>(HO1.out.lt r e).1)
                   have HOF:=ah hown;have hbx:w1.heap[wr.heap.size]?=_:=(hgrow.block _ (by rw[HZ1.out];omega) HNE.out).trans HX5.out
                   have d2:w1.cell? ⟨wr.heap.size,2,none⟩=some (.int .i64 (min (4-((fr:Int)+(k:Int)) % 4) ((n:Int)-(k:Int)))):=by rw[cell_of_row _ _ _ _ _ _ hbx];rfl
                   clear hown hgrow hat hlt1 hbx)
      have HWK:Hid (PartsAt w fr n (l++[p]) (k+p.n) (some ⟨g,0,none⟩) kc w1):=by
        have e1:(l++[p]).length=l.length+1:=by simp
        refine⟨?_,HGO.out,m3,by rw[e1];omega,HBF.out⟩
        rw[e1,PI,HPV.out];exact HOF.out
      clear d2;go_roundw
      case rel =>
        have fin:∃(l1:List Pt) (k1:Nat) (a1:Option Addr) (cap1:Nat),Value.slice (some ⟨g,0,none⟩) (l.length+1) kc=.slice a1 l1.length cap1∧Value.int .i64 ((k:Int)+min (4-((fr:Int)+(k:Int)) % 4) ((n:Int)-(k:Int)))=.int .i64 (k1:Int)∧PartsAt w fr n l1 k1 a1 cap1 w1:=⟨l++[p],k+p.n,some ⟨g,0,none⟩,kc,by simp,by rw[HMN.out];go_num,HWK.out⟩
        first|exact fin|((repeat apply Exists.intro);exact⟨fin,rfl⟩)
      case measure =>
        have:=HMN.out
        simp[intOf]
        omega
    · have hke:k=n:=by omega
      subst hke;have HR:Hid (l=aO fr k 0):=by unfold Hid;rw[← hw.go,HNI.out k hlt,List.append_nil]
      have HOW:=ah hw.own;have HB:=ah hw.bel;clear hw HCO HMK HNI HST;go_wp2
      go_ret
      exact⟨a,cap,by rw[← HR.out];rfl,by rw[← HR.out];exact HOW.out,HB.out⟩
theorem GX{sp m:Nat}{xs:Nat→Ih}{s:SV}{n:Int}{v:IV}(c f:Int)(t:ByteArray)(w:World)(h:aV w sp xs s m)(hf:s.file n=some v)(hm:m+10<1000000000)(ht:t.size≤1000)(hr : -9223372036854775808≤f∧f≤9223372036854775807) :
  Calls Tryz.prog 185 #[.pointer (some ⟨(xs n.toNat).p,0,none⟩),.int .i64 c,.int .i64 f,.string t] w (bD w sp xs s (m+10) (s.upd n.toNat (v.write c f t),v.dB c f t)):=by
 obtain⟨i1,i2⟩:=h.jZ hf;exact(Ua c f t w i1.but i2 hm (Nat.le_refl _) ht hr).mono fun e w' hd=>bD.of h hf (by omega) (i2.write c f t (by omega)) hd
theorem C9{sp m:Nat}{xs:Nat→Ih}{s:SV}{n:Int}{v:IV}(c:Int)(t:ByteArray)(w:World)(h:aV w sp xs s m)(hf:s.file n=some v)(hm:m+10<1000000000) :
  Calls Tryz.prog 65 #[.pointer (some ⟨(xs n.toNat).p,0,none⟩),.int .i64 c,.string t] w (bD w sp xs s (m+10) (s.upd n.toNat (v.fill c t),v.dL c t)):=by
 obtain⟨i1,i2⟩:=h.jZ hf;exact(KX c t w i1.but i2 hm (Nat.le_refl _)).mono fun e w' hd=>bD.of h hf (by omega) (i2.fill c t (by omega)) hd
theorem BK{sp m:Nat}{xs:Nat→Ih}{s:SV}{n:Int}{v:IV}(c:Int)(w:World)(h:aV w sp xs s m)(hf:s.file n=some v)(hm:m+10<1000000000) :
  Calls Tryz.prog 63 #[.pointer (some ⟨(xs n.toNat).p,0,none⟩),.int .i64 c] w (bD w sp xs s (m+10) (s.upd n.toNat (v.clear c),v.dU c)):=by
 obtain⟨i1,i2⟩:=h.jZ hf;exact(I5 c w i1.but i2 hm (Nat.le_refl _)).mono fun e w' hd=>bD.of h hf (by omega) (i2.clear c (by omega)) hd
theorem OW{o t:ByteArray}{f n:Nat}(ht:t.size=n*16)(hp:f+n≤4):dR o 0 f++t++dR o (f+n) (4-(f+n))=o.extract 0 (f*16)++t++o.extract (f*16+t.size) 64:=by
 unfold dR;rw[show 0*16=0 by omega,show 0+f=f by omega,show(f+n)*16=f*16+t.size by omega,show(f+n+(4-(f+n)))*16=64 by omega]
theorem EH{sp m cap:Nat}{xs:Nat→Ih}{s:SV}{a:Option Addr}{C:Int}(x:Int)(r:List Int)(c f n b:Nat)(t:ByteArray)(w:World)(h:aV w sp xs s m)(hl:Nums w a (x::r))(hg:s.good C (x::r))(h5:(x::r).length≤100)(hm:m+10<1000000000)(hp:f+n≤4)(hc:(c:Int)<C)(ht:t.size=n*16) :
    Calls Tryz.prog 176 #[.pointer (some ⟨sp,6,none⟩),.slice a (x::r).length cap,.agg #[.int .i64 (c:Int),.int .i64 (f:Int),.int .i64 (n:Int),.int .i64 (b:Int)],.string t] w (bD w sp xs s (m+10) (s.lay (x::r) c f t)):=by
  obtain⟨v,hf,hvc⟩:=hg x List.mem_cons_self;obtain⟨x0,x5,_⟩:=SV.dJ hf;obtain⟨r1,r2⟩:=SV.kF hg h.ok (by simp) (c:=(c:Int)) ⟨by omega,hc⟩
  have HLY:Hid (s.lay (x::r) c f t=if (v.bH c).1=2 then (s.upd x.toNat (v.write c f t),v.dB c f t) else
      (s.upd x.toNat (v.fill c ((s.read (x::r) c).1.extract 0 (f*16)++t++(s.read (x::r) c).1.extract (f*16+t.size) 64)),v.dL c ((s.read (x::r) c).1.extract 0 (f*16)++t++(s.read (x::r) c).1.extract (f*16+t.size) 64))):=by
    unfold Hid;show(match s.file x with|none=>(s,(4:Int))|some v=>_)=_;rw[hf]
  have HKO:Hid (∀ W:World,Below w.heap.size w W→Calls Tryz.prog 184 #[.pointer (some ⟨(xs x.toNat).p,0,none⟩),.int .i64 (c:Int)] W fun e w'=>e=.returned (.int .i64 (v.bH c).1)∧Below W.heap.size W w'):=fun W hb=>wR (c:Int) W ((h.below hb).jZ hf).1
  have HWR:Hid (∀ W:World,Below w.heap.size w W→Calls Tryz.prog 185 #[.pointer (some ⟨(xs x.toNat).p,0,none⟩),.int .i64 (c:Int),.int .i64 (f:Int),.string t] W (bD w sp xs s (m+10) (s.upd x.toNat (v.write c f t),v.dB c f t))):=fun W hb =>
    (GX (c:Int) (f:Int) t W (h.below hb) hf hm (by omega) (by omega)).mono fun e w' hd=>hd.from hb
  have HFL:Hid (∀(T:ByteArray) (W:World),Below w.heap.size w W→Calls Tryz.prog 65 #[.pointer (some ⟨(xs x.toNat).p,0,none⟩),.int .i64 (c:Int),.string T] W (bD W sp xs s (m+10) (s.upd x.toNat (v.fill c T),v.dL c T))):=fun T W hb =>
    C9 (c:Int) T W (h.below hb) hf hm
  have HRD:Hid (∀ W:World,Below w.heap.size w W→Calls Tryz.prog 57 #[.pointer (some ⟨sp,6,none⟩),.slice a (x::r).length cap,.int .i64 (c:Int)] W fun e w'=>e=.returned (.tuple #[.string (s.read (x::r) c).1,.nilIface])∧Below W.heap.size W w'):=fun W hb=>by
    have:=yP (cap:=cap) (x::r) (c:Int) W (h.below hb) (hl.below hb) hg h5
    rw[r1,aB] at this;exact this
  have HKP:Hid (∀ k,w.heap.size≤k→¬fpS xs s k):=fun k hk hs=>by have:=h.jJ hs;omega
  have HCE:Hid (∀ W:World,Below w.heap.size w W→W.cell? ⟨sp,6+x.toNat,none⟩=some (.pointer (some ⟨(xs x.toNat).p,0,none⟩))):=fun W hb=>(h.below hb).oW hf
  obtain⟨g,o,ha,hcn⟩:=hl 0 (by simp)
  subst ha;have hcn':w.cell? ⟨g,o,none⟩=some (.int .i64 x):=hcn;have hgl:g<w.heap.size:=World.block_lt_of_cell? _ _ hcn;obtain⟨k,rfl⟩:∃ k:Nat,x=(k:Int):=⟨x.toNat,by omega⟩
  have hk:((k:Int)).toNat=k:=by omega
  rw[hk] at HKO HWR HFL HCE HLY;have k3:(0:Int)≤(k:Int):=by omega
  have k4:(k:Int)<5:=by omega
  have hn0:(0:Int)<(((k:Int)::r).length:Int):=by simp
  generalize hlen:((k:Int)::r).length=q at hn0 h5 HRD ⊢;generalize s.lay ((k:Int)::r) c f t=R at HLY ⊢;generalize (s.read ((k:Int)::r) c).1=old at r2 HRD HLY;generalize (v.bH c).1=y at HKO HLY;generalize (xs k).p=xp at HKO HWR HFL HCE;obtain⟨SG,hSG⟩:∃ SG:Int→Int→ByteArray,SG=fun x y=>dR old x.toNat y.toNat:=⟨_,rfl⟩
  obtain⟨bh,hbh⟩:∃ bh:Int,bh=(f:Int)+(n:Int):=⟨_,rfl⟩;obtain⟨rs,hrs⟩:∃ rs:Int,rs=4-bh:=⟨_,rfl⟩
  have HSE:Hid (∀(x y:Int) (W:World),(x=0∧y=(f:Int))∨(x=bh∧y=rs)→Calls Tryz.prog 177 #[.string old,.int .i64 x,.int .i64 y] W fun e w'=>e=.returned (.string (SG x y))∧w'=W):=fun x y W hxy=>by
    have e1:((x.toNat:Nat):Int)=x:=by omega
    have e2:((y.toNat:Nat):Int)=y:=by omega
    have:=Ah old x.toNat y.toNat W (by omega) (by omega)
    rw[e1,e2] at this;rw[hSG];exact this
  have hz1:(dR old 0 f).size=f*16:=qj (by omega)
  have hz2:(dR old (f+n) (4-(f+n))).size=(4-(f+n))*16:=qj (by omega)
  have hE1:SG 0 (f:Int)=dR old 0 f:=by rw[hSG];rfl
  have hE2:SG bh rs=dR old (f+n) (4-(f+n)):=by rw[hSG];show dR old bh.toNat rs.toNat=_;congr 1<;>omega
  have HOL:=ah (OW (o:=old) ht hp);rw[← hE1] at hz1 HOL;rw[← hE2] at hz2 HOL;clear hE1 hE2 hSG;have HB0:Hid (Below w.heap.size w (w.alloc (.cells #[.int .i64 (c:Int),.int .i64 (f:Int),.int .i64 (n:Int),.int .i64 (b:Int)] 224))):=(Below.refl _ _).alloc (Nat.le_refl _) _;have HX:Hid ((w.alloc (.cells #[.int .i64 (c:Int),.int .i64 (f:Int),.int .i64 (n:Int),.int .i64 (b:Int)] 224)).heap[w.heap.size]?=some (.cells #[.int .i64 (c:Int),.int .i64 (f:Int),.int .i64 (n:Int),.int .i64 (b:Int)] 224 (0,0))):=heap_alloc_new _ _;clear h hl hg hf hcn hvc hlen;go_enter Tryz.func176,Tryz.ntmps176
  go_wp2
  generalize w.alloc (.cells #[.int .i64 (c:Int),.int .i64 (f:Int),.int .i64 (n:Int),.int .i64 (b:Int)] 224)=w0 at HB0 HX ⊢;have d1:w0.cell? ⟨g,o,none⟩=some (.int .i64 (k:Int)):=(HB0.out.cell (p:=⟨g,o,none⟩) hgl).trans hcn';have d2:=HCE.out w0 HB0.out;have y0:w0.cell? ⟨w.heap.size,0,none⟩=some (.int .i64 (c:Int)):=by rw[cell_of_row _ _ _ _ _ _ HX.out];rfl
  have y1:w0.cell? ⟨w.heap.size,1,none⟩=some (.int .i64 (f:Int)):=by rw[cell_of_row _ _ _ _ _ _ HX.out];rfl
  have y2:w0.cell? ⟨w.heap.size,2,none⟩=some (.int .i64 (n:Int)):=by rw[cell_of_row _ _ _ _ _ _ HX.out];rfl
  have hXl:w.heap.size<w0.heap.size:=lt_of_some HX.out;go_region
  have HBD:Hid (Below w.heap.size w w0.drew):=HB0.out.drew;have e0:w0.drew.cell? ⟨w.heap.size,0,none⟩=some (.int .i64 (c:Int)):=y0;have e1:w0.drew.cell? ⟨w.heap.size,1,none⟩=some (.int .i64 (f:Int)):=y1;have e2:w0.drew.cell? ⟨w.heap.size,2,none⟩=some (.int .i64 (n:Int)):=y2;have HKW:=ah (HKO.out _ HBD.out);clear y0 y1 y2 d1 d2;go_wp2_with fail
  refine HKW.out.mono ?_;rintro e w1 ⟨rfl,hb1⟩;have HB1:=ah (HBD.out.trans (hb1.mono HBD.out.size));have z0:=(hb1.cell (World.block_lt_of_cell? _ _ e0)).trans e0;have z1:=(hb1.cell (World.block_lt_of_cell? _ _ e1)).trans e1;have z2:=(hb1.cell (World.block_lt_of_cell? _ _ e2)).trans e2;clear e0 e1 e2 hb1 HKO HKW;by_cases hy:y=2
  · have g1:(y==2)=true:=by simpa using hy
    have HR:Hid (R=(s.upd k (v.write c f t),v.dB c f t)):=by unfold Hid;rw[HLY.out,if_pos hy]
    have HW1:=ah (HWR.out _ HB1.out);rw[← HR.out] at HW1;clear hy HLY HFL HRD HWR;go_wp2_with fail
    refine HW1.out.mono ?_;rintro e w2 ⟨xs',rfl,h2,h3⟩;have HD:Hid (bD w sp xs s (m+10) R (.returned (erV R.2)) w2):=⟨xs',rfl,h2,h3⟩;clear h2 h3;go_wp2
    go_ret
    exact HD.out
  · have g1:(y==2)=false:=by simpa using hy
    have HR:Hid (R=(s.upd k (v.fill c (SG 0 (f:Int)++t++SG bh rs)),v.dL c (SG 0 (f:Int)++t++SG bh rs))):=by unfold Hid;rw[HOL.out,HLY.out,if_neg hy]
    clear hy HLY HWR;have HRW:=ah (HRD.out _ HB1.out);go_wp2_with fail
    refine HRW.out.mono ?_;rintro e w2 ⟨rfl,hb2⟩;have HB2:=ah (HB1.out.trans (hb2.mono HB1.out.size));have u0:=(hb2.cell (World.block_lt_of_cell? _ _ z0)).trans z0;have u1:=(hb2.cell (World.block_lt_of_cell? _ _ z1)).trans z1;have u2:=(hb2.cell (World.block_lt_of_cell? _ _ z2)).trans z2;clear z0 z1 z2 hb2 HRW HRD;have k5:IntKind.i64.wrap ((f:Int)+(n:Int))=bh:=by rw[hbh];exact IntWalk.i64_in _ (by omega)
    have k6:IntKind.i64.wrap (4-bh)=rs:=by rw[hrs];exact IntWalk.i64_in _ (by omega)
    have v0:w2.drew.cell? ⟨w.heap.size,0,none⟩=some (.int .i64 (c:Int)):=u0;have v1:w2.drew.cell? ⟨w.heap.size,1,none⟩=some (.int .i64 (f:Int)):=u1;have HB3:Hid (Below w.heap.size w w2.drew):=HB2.out.drew;generalize hA:SG 0 (f:Int)=SA at hz1 HR;generalize hB:SG bh rs=SB at hz2 HR;have k7:¬9223372036854775807<SA.size+t.size:=by omega
    have k8:¬9223372036854775807<SA.size+t.size+SB.size:=by omega
    have k9:¬9223372036854775807<(SA++t).size+SB.size:=by rw[ByteArray.size_append];omega
    have HF3:=ah (HFL.out (SA++t++SB) _ HB3.out);rw[← HR.out] at HF3;rw[← hA] at HF3 k7 k8 k9;rw[← hB] at HF3 k8 k9;clear hA hB HFL HOL ht hz1 hz2 r2 hbh hrs HR;go_wp2
    go_region_held3 (fun W=>W.cell? ⟨w.heap.size,0,none⟩=some (.int .i64 (c:Int))∧W.cell? ⟨w.heap.size,1,none⟩=some (.int .i64 (f:Int)))
      (first|(exact⟨v0,v1⟩)|assumption)
      (first
        | (go_at_call 177;refine(HSE.out _ _ _ ?_).mono ?_;(· first|exact .inl ⟨rfl,rfl⟩|exact .inr ⟨rfl,rfl⟩);rintro e w' ⟨rfl,rfl⟩)
        | (go_at_call 65;refine HF3.out.mono ?_;rintro e w4 ⟨xs',rfl,h2,h3⟩;have hS4:w4.cell? ⟨w.heap.size,0,none⟩=some (.int .i64 (c:Int))∧w4.cell? ⟨w.heap.size,1,none⟩=some (.int .i64 (f:Int)):=⟨(h3.cell (p:=⟨w.heap.size,0,none⟩) (World.block_lt_of_cell? _ _ v0) (HKP.out _ (Nat.le_refl _))).trans v0,(h3.cell (p:=⟨w.heap.size,1,none⟩) (World.block_lt_of_cell? _ _ v1) (HKP.out _ (Nat.le_refl _))).trans v1⟩))
    have HD:Hid (bD w sp xs s (m+10) R (.returned (erV R.2)) w4):=bD.from ⟨xs',rfl,h2,h3⟩ HB3.out;clear h2 h3 hS4;go_wp2
    go_ret
    exact HD.out
theorem TP{sp m cap:Nat}{xs:Nat→Ih}{s:SV}{a:Option Addr}{C:Int}(x:Int)(r:List Int)(c f n b:Nat)(w:World)(h:aV w sp xs s m)(hl:Nums w a (x::r))(hg:s.good C (x::r))(h5:(x::r).length≤100)(hm:m+10<1000000000)(hp:f+n≤4)(hc:(c:Int)<C) :
    Calls Tryz.prog 180 #[.pointer (some ⟨sp,6,none⟩),.slice a (x::r).length cap,.agg #[.int .i64 (c:Int),.int .i64 (f:Int),.int .i64 (n:Int),.int .i64 (b:Int)]] w (bD w sp xs s (m+10) (SV.bK (x::r) s ⟨c,f,n,b⟩)):=by
  obtain⟨v,hf,hvc⟩:=hg x List.mem_cons_self;obtain⟨x0,x5,_⟩:=SV.dJ hf
  have HLY:Hid (SV.bK (x::r) s ⟨c,f,n,b⟩=if n=4 then (s.upd x.toNat (v.clear c),v.dU c) else if (v.bH c).1=1 then (s,0) else s.lay (x::r) c f (eH (n*16))):=by
    unfold Hid;show(match s.file x with|none=>(s,(4:Int))|some v=>_)=_;rw[hf]
  have HKO:Hid (∀ W:World,Below w.heap.size w W→Calls Tryz.prog 184 #[.pointer (some ⟨(xs x.toNat).p,0,none⟩),.int .i64 (c:Int)] W fun e w'=>e=.returned (.int .i64 (v.bH c).1)∧Below W.heap.size W w'):=fun W hb=>wR (c:Int) W ((h.below hb).jZ hf).1
  have HCL:Hid (∀ W:World,Below w.heap.size w W→Calls Tryz.prog 63 #[.pointer (some ⟨(xs x.toNat).p,0,none⟩),.int .i64 (c:Int)] W (bD w sp xs s (m+10) (s.upd x.toNat (v.clear c),v.dU c))):=fun W hb =>
    (BK (c:Int) W (h.below hb) hf hm).mono fun e w' hd=>hd.from hb
  have HPP:Hid (∀ W:World,Below w.heap.size w W→Calls Tryz.prog 176 #[.pointer (some ⟨sp,6,none⟩),.slice a (x::r).length cap,.agg #[.int .i64 (c:Int),.int .i64 (f:Int),.int .i64 (n:Int),.int .i64 (b:Int)],.string (eH (n*16))] W (bD W sp xs s (m+10) (s.lay (x::r) c f (eH (n*16))))):=fun W hb =>
    EH x r c f n b (eH (n*16)) W (h.below hb) (hl.below hb) hg h5 hm hp hc (by show(List.replicate (n*16) (0:UInt8)).toArray.size=_;simp)
  have HNO:Hid (∀ W:World,Calls Tryz.prog 151 #[.int .i64 (n:Int)] W fun e w'=>e=.returned (.string (eH (n*16)))∧Below W.heap.size W w'):=fun W=>BN n W (by omega)
  have HSM:Hid (∀ W:World,Below w.heap.size w W→bD w sp xs s (m+10) (s,0) (.returned .nilIface) W):=fun W hb=>by rw[← aB];exact bD.same (h.more (by omega)) hb
  have HKP:Hid (∀ k,w.heap.size≤k→¬fpS xs s k):=fun k hk hs=>by have:=h.jJ hs;omega
  have HCE:Hid (∀ W:World,Below w.heap.size w W→W.cell? ⟨sp,6+x.toNat,none⟩=some (.pointer (some ⟨(xs x.toNat).p,0,none⟩))):=fun W hb=>(h.below hb).oW hf
  obtain⟨g,o,ha,hcn⟩:=hl 0 (by simp)
  subst ha;have hcn':w.cell? ⟨g,o,none⟩=some (.int .i64 x):=hcn;have hgl:g<w.heap.size:=World.block_lt_of_cell? _ _ hcn;obtain⟨k,rfl⟩:∃ k:Nat,x=(k:Int):=⟨x.toNat,by omega⟩
  have hk:((k:Int)).toNat=k:=by omega
  rw[hk] at HKO HCL HCE HLY;have k3:(0:Int)≤(k:Int):=by omega
  have k4:(k:Int)<5:=by omega
  have hn0:(0:Int)<(((k:Int)::r).length:Int):=by simp
  generalize hlen:((k:Int)::r).length=q at hn0 h5 HPP ⊢;generalize SV.bK ((k:Int)::r) s ⟨c,f,n,b⟩=R at HLY ⊢;generalize s.lay ((k:Int)::r) c f (eH (n*16))=RL at HLY HPP;generalize eH (n*16)=NB at HPP HNO;generalize (v.bH c).1=y at HKO HLY;generalize (xs k).p=xp at HKO HCL HCE;have HB0:Hid (Below w.heap.size w (w.alloc (.cells #[.int .i64 (c:Int),.int .i64 (f:Int),.int .i64 (n:Int),.int .i64 (b:Int)] 224))):=(Below.refl _ _).alloc (Nat.le_refl _) _;have HX:Hid ((w.alloc (.cells #[.int .i64 (c:Int),.int .i64 (f:Int),.int .i64 (n:Int),.int .i64 (b:Int)] 224)).heap[w.heap.size]?=some (.cells #[.int .i64 (c:Int),.int .i64 (f:Int),.int .i64 (n:Int),.int .i64 (b:Int)] 224 (0,0))):=heap_alloc_new _ _
  clear h hl hg hf hcn hvc hlen;go_enter Tryz.func180,Tryz.ntmps180
  go_wp2
  generalize w.alloc (.cells #[.int .i64 (c:Int),.int .i64 (f:Int),.int .i64 (n:Int),.int .i64 (b:Int)] 224)=w0 at HB0 HX ⊢;have d1:w0.cell? ⟨g,o,none⟩=some (.int .i64 (k:Int)):=(HB0.out.cell (p:=⟨g,o,none⟩) hgl).trans hcn';have d2:=HCE.out w0 HB0.out;have y0:w0.cell? ⟨w.heap.size,0,none⟩=some (.int .i64 (c:Int)):=by rw[cell_of_row _ _ _ _ _ _ HX.out];rfl
  have y1:w0.cell? ⟨w.heap.size,1,none⟩=some (.int .i64 (f:Int)):=by rw[cell_of_row _ _ _ _ _ _ HX.out];rfl
  have y2:w0.cell? ⟨w.heap.size,2,none⟩=some (.int .i64 (n:Int)):=by rw[cell_of_row _ _ _ _ _ _ HX.out];rfl
  have y3:w0.cell? ⟨w.heap.size,3,none⟩=some (.int .i64 (b:Int)):=by rw[cell_of_row _ _ _ _ _ _ HX.out];rfl
  have hXl:w.heap.size<w0.heap.size:=lt_of_some HX.out;go_region
  have HBD:Hid (Below w.heap.size w w0.drew):=HB0.out.drew;have e0:w0.drew.cell? ⟨w.heap.size,0,none⟩=some (.int .i64 (c:Int)):=y0;have e1:w0.drew.cell? ⟨w.heap.size,1,none⟩=some (.int .i64 (f:Int)):=y1;have e2:w0.drew.cell? ⟨w.heap.size,2,none⟩=some (.int .i64 (n:Int)):=y2;have e3:w0.drew.cell? ⟨w.heap.size,3,none⟩=some (.int .i64 (b:Int)):=y3;clear y0 y1 y2 y3 d1 d2;by_cases h4:n=4
  · have g1:((n:Int)==4)=true:=by simp;omega
    have HR:Hid (R=(s.upd k (v.clear c),v.dU c)):=by unfold Hid;rw[HLY.out,if_pos h4]
    have HC1:=ah (HCL.out _ HBD.out);rw[← HR.out] at HC1;clear h4 HLY HPP HNO HKO HCL;go_wp2_with fail
    refine HC1.out.mono ?_;rintro e w2 ⟨xs',rfl,h2,h3⟩;have HD:Hid (bD w sp xs s (m+10) R (.returned (erV R.2)) w2):=⟨xs',rfl,h2,h3⟩;clear h2 h3;go_wp2
    go_ret
    exact HD.out
  · have g1:((n:Int)==4)=false:=by simp;omega
    have HKW:=ah (HKO.out _ HBD.out);go_wp2_with fail
    refine HKW.out.mono ?_;rintro e w1 ⟨rfl,hb1⟩;have HB1:=ah (HBD.out.trans (hb1.mono HBD.out.size));have z0:=(hb1.cell (World.block_lt_of_cell? _ _ e0)).trans e0;have z1:=(hb1.cell (World.block_lt_of_cell? _ _ e1)).trans e1;have z2:=(hb1.cell (World.block_lt_of_cell? _ _ e2)).trans e2;have z3:=(hb1.cell (World.block_lt_of_cell? _ _ e3)).trans e3;clear e0 e1 e2 e3 hb1 HKO HKW;by_cases hy:y=1
    · have g2:(y==1)=true:=by simpa using hy
      have HR:Hid (R=(s,0)):=by unfold Hid;rw[HLY.out,if_neg h4,if_pos hy]
      have HD:=ah (HSM.out _ HB1.out);rw[← HR.out] at HD;clear hy HLY HPP HNO HCL HSM;go_wp2
      go_ret
      exact HD.out
    · have g2:(y==1)=false:=by simpa using hy
      have HR:Hid (R=RL):=by unfold Hid;rw[HLY.out,if_neg h4,if_neg hy]
      rw[← HR.out] at HPP;have u0:w1.drew.cell? ⟨w.heap.size,0,none⟩=some (.int .i64 (c:Int)):=z0;have u1:w1.drew.cell? ⟨w.heap.size,1,none⟩=some (.int .i64 (f:Int)):=z1;have u2:w1.drew.cell? ⟨w.heap.size,2,none⟩=some (.int .i64 (n:Int)):=z2;have u3:w1.drew.cell? ⟨w.heap.size,3,none⟩=some (.int .i64 (b:Int)):=z3;have HB2:Hid (Below w.heap.size w w1.drew):=HB1.out.drew;have hNl:w.heap.size<w1.drew.heap.size:=World.block_lt_of_cell? _ _ u0;clear hy HLY HCL HSM z0 z1 z2 z3;go_wp2
      go_region_held3 (fun W=>W.cell? ⟨w.heap.size,0,none⟩=some (.int .i64 (c:Int))∧W.cell? ⟨w.heap.size,1,none⟩=some (.int .i64 (f:Int))∧W.cell? ⟨w.heap.size,2,none⟩=some (.int .i64 (n:Int))∧W.cell? ⟨w.heap.size,3,none⟩=some (.int .i64 (b:Int)))
        (first|(exact⟨u0,u1,u2,u3⟩)|assumption)
        (first
          | (go_at_call 151;refine(HNO.out _).mono ?_;rintro e w3 ⟨rfl,hb3⟩;have hS3:w3.cell? ⟨w.heap.size,0,none⟩=some (.int .i64 (c:Int))∧w3.cell? ⟨w.heap.size,1,none⟩=some (.int .i64 (f:Int))∧w3.cell? ⟨w.heap.size,2,none⟩=some (.int .i64 (n:Int))∧w3.cell? ⟨w.heap.size,3,none⟩=some (.int .i64 (b:Int)):=⟨(hb3.cell (p:=⟨w.heap.size,0,none⟩) hNl).trans u0,(hb3.cell (p:=⟨w.heap.size,1,none⟩) hNl).trans u1,(hb3.cell (p:=⟨w.heap.size,2,none⟩) hNl).trans u2,(hb3.cell (p:=⟨w.heap.size,3,none⟩) hNl).trans u3⟩)
          | (go_at_call 176;refine(HPP.out w3 (HB2.out.trans (hb3.mono HB2.out.size))).mono ?_;rintro e w4 ⟨xs',rfl,h2,h3⟩;have hS4:w4.cell? ⟨w.heap.size,0,none⟩=some (.int .i64 (c:Int))∧w4.cell? ⟨w.heap.size,1,none⟩=some (.int .i64 (f:Int))∧w4.cell? ⟨w.heap.size,2,none⟩=some (.int .i64 (n:Int))∧w4.cell? ⟨w.heap.size,3,none⟩=some (.int .i64 (b:Int)):=⟨(h3.cell (p:=⟨w.heap.size,0,none⟩) (Nat.lt_of_lt_of_le hNl hb3.size) (HKP.out _ (Nat.le_refl _))).trans hS3.1,(h3.cell (p:=⟨w.heap.size,1,none⟩) (Nat.lt_of_lt_of_le hNl hb3.size) (HKP.out _ (Nat.le_refl _))).trans hS3.2.1,(h3.cell (p:=⟨w.heap.size,2,none⟩) (Nat.lt_of_lt_of_le hNl hb3.size) (HKP.out _ (Nat.le_refl _))).trans hS3.2.2.1,(h3.cell (p:=⟨w.heap.size,3,none⟩) (Nat.lt_of_lt_of_le hNl hb3.size) (HKP.out _ (Nat.le_refl _))).trans hS3.2.2.2⟩))
      have HD:Hid (bD w sp xs s (m+10) R (.returned (erV R.2)) w4):=bD.from ⟨xs',rfl,h2,h3⟩ (HB2.out.trans (hb3.mono HB2.out.size));clear h2 h3 hS3 hS4 hb3;go_wp2
      go_ret
      exact HD.out
end Go.Proofs.YtonhoahnieoebabGreatDoor
