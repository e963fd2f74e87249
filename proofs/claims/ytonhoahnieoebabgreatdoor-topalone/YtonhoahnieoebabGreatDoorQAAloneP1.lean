/- Copies of a yard's devices (J7). -/
import Derived.Test.YtonhoahnieoebabGreatDoorQAYardO5
set_option maxHeartbeats 2000000
set_option maxRecDepth 100000
namespace Go.Proofs.YtonhoahnieoebabGreatDoor
open Go.RowKit Go.Maps
attribute [local go_sem ↓] Go.wp_at_zero Go.wp_at_succ
theorem Rx:(Tryz.prog.info? 75).map (·.size)=some 5:=by kernel_rfl
theorem MN(P:Nat→Nat)(w:World):(Instr.index 75 (.agg #[.pointer (some ⟨P 0,0,none⟩),.pointer (some ⟨P 1,0,none⟩),.pointer (some ⟨P 2,0,none⟩),.pointer (some ⟨P 3,0,none⟩),.pointer (some ⟨P 4,0,none⟩)]) (.int .i64 0)).run Tryz.prog w=.ok (.pointer (some ⟨P 0,0,none⟩)) w:=by kernel_rfl
theorem MO(P:Nat→Nat)(w:World):(Instr.index 75 (.agg #[.pointer (some ⟨P 0,0,none⟩),.pointer (some ⟨P 1,0,none⟩),.pointer (some ⟨P 2,0,none⟩),.pointer (some ⟨P 3,0,none⟩),.pointer (some ⟨P 4,0,none⟩)]) (.int .i64 1)).run Tryz.prog w=.ok (.pointer (some ⟨P 1,0,none⟩)) w:=by kernel_rfl
theorem MP(P:Nat→Nat)(w:World):(Instr.index 75 (.agg #[.pointer (some ⟨P 0,0,none⟩),.pointer (some ⟨P 1,0,none⟩),.pointer (some ⟨P 2,0,none⟩),.pointer (some ⟨P 3,0,none⟩),.pointer (some ⟨P 4,0,none⟩)]) (.int .i64 2)).run Tryz.prog w=.ok (.pointer (some ⟨P 2,0,none⟩)) w:=by kernel_rfl
theorem MQ(P:Nat→Nat)(w:World):(Instr.index 75 (.agg #[.pointer (some ⟨P 0,0,none⟩),.pointer (some ⟨P 1,0,none⟩),.pointer (some ⟨P 2,0,none⟩),.pointer (some ⟨P 3,0,none⟩),.pointer (some ⟨P 4,0,none⟩)]) (.int .i64 3)).run Tryz.prog w=.ok (.pointer (some ⟨P 3,0,none⟩)) w:=by kernel_rfl
theorem MR(P:Nat→Nat)(w:World):(Instr.index 75 (.agg #[.pointer (some ⟨P 0,0,none⟩),.pointer (some ⟨P 1,0,none⟩),.pointer (some ⟨P 2,0,none⟩),.pointer (some ⟨P 3,0,none⟩),.pointer (some ⟨P 4,0,none⟩)]) (.int .i64 4)).run Tryz.prog w=.ok (.pointer (some ⟨P 4,0,none⟩)) w:=by kernel_rfl
theorem ML(P:Nat→Nat)(k:Nat)(hk:k<5)(w:World) :
  (Instr.index 75 (.agg #[.pointer (some ⟨P 0,0,none⟩),.pointer (some ⟨P 1,0,none⟩),.pointer (some ⟨P 2,0,none⟩),.pointer (some ⟨P 3,0,none⟩),.pointer (some ⟨P 4,0,none⟩)]) (.int .i64 (k:Int))).run Tryz.prog w=.ok (.pointer (some ⟨P k,0,none⟩)) w:=by
 match k,hk with
 | 0,_=>exact MN P w
 | 1,_=>exact MO P w
 | 2,_=>exact MP P w
 | 3,_=>exact MQ P w
 | 4,_=>exact MR P w
theorem iU.block{w:World}{B k cap:Nat}{a:Option Addr}{hs:Nat→Hd}{d:Nat→DV}(h:iU w B a k cap hs d):∀ r,(Value.slice a k cap).ownBlock=some r→∃ cur,w.heap[r]?=some (.cells cur 74 (0,0)):=fun r e=>by
 rcases h.row.2 with⟨h0,_⟩|⟨g,cap',cur,hv,_,hh,_⟩
 ·rw[h0] at e;cases e
 ·rw[hv] at e
  have e2:g=r:=by simpa [Value.ownBlock] using e
  rw[← e2];exact⟨cur,hh⟩
theorem ay.PX{w:World}{yp:Nat}{Y:Yh}{y:YV}(h:ay w yp Y y):w.rangeAt yp 0 [.pointer (some ⟨Y.dp y.s 0,0,none⟩),.pointer (some ⟨Y.dp y.s 1,0,none⟩),.pointer (some ⟨Y.dp y.s 2,0,none⟩),.pointer (some ⟨Y.dp y.s 3,0,none⟩),.pointer (some ⟨Y.dp y.s 4,0,none⟩)]:=fun j v hv=>by
 have c:=h.blk.cells.1
 match j,hv with
 | 0,hv=>cases hv;exact c 0 (by omega)
 | 1,hv=>cases hv;exact c 1 (by omega)
 | 2,hv=>cases hv;exact c 2 (by omega)
 | 3,hv=>cases hv;exact c 3 (by omega)
 | 4,hv=>cases hv;exact c 4 (by omega)
theorem Uo{yp:Nat}{Y:Yh}{y:YV}(w:World)(h:ay w yp Y y) :
  Calls Tryz.prog 129 #[.pointer (some ⟨yp,0,none⟩)] w fun e w'=>∃(a:Option Addr) (cap:Nat) (hs:Nat→Hd) (th:Hd),e=.returned (.tuple #[.slice a 5 cap,.pointer (some ⟨th.p,0,none⟩)])∧iU w' w.heap.size a 5 cap hs y.dev∧aH w.heap.size w' th y.top∧Below w.heap.size w w':=by
 obtain⟨i2,hi2,hy0,hy1,hy2⟩:=info_parts MW;have HR5:=ah h.PX;have HI5:Hid ((Tryz.prog.info? 75).map (·.size)=some ([.pointer (some ⟨Y.dp y.s 0,0,none⟩),.pointer (some ⟨Y.dp y.s 1,0,none⟩),.pointer (some ⟨Y.dp y.s 2,0,none⟩),.pointer (some ⟨Y.dp y.s 3,0,none⟩),.pointer (some ⟨Y.dp y.s 4,0,none⟩)]:List Value).length):=Rx
 have HIX:Hid (∀ k:Nat,k<5→∀ W:World,(Instr.index 75 (.agg #[.pointer (some ⟨Y.dp y.s 0,0,none⟩),.pointer (some ⟨Y.dp y.s 1,0,none⟩),.pointer (some ⟨Y.dp y.s 2,0,none⟩),.pointer (some ⟨Y.dp y.s 3,0,none⟩),.pointer (some ⟨Y.dp y.s 4,0,none⟩)]) (.int .i64 (k:Int))).run Tryz.prog W=.ok (.pointer (some ⟨Y.dp y.s k,0,none⟩)) W):=fun k hk W=>ML (Y.dp y.s) k hk W
 have HCP:Hid (∀(k:Nat) (W:World) (a:Option Addr) (cap:Nat) (hs:Nat→Hd),k<5→Below w.heap.size w W→iU W w.heap.size a k cap hs y.dev→Calls Tryz.prog 133 #[.pointer (some ⟨Y.dp y.s k,0,none⟩)] W fun e w'=>∃ h':Hd,e=.returned (.pointer (some ⟨h'.p,0,none⟩))∧aH W.heap.size w' h' (y.dev k)∧Below W.heap.size W w'):=fun k W a cap hs hk hb _=>by
  obtain⟨d1,d2,_⟩:=(h.below hb).tZ hk;rw[← d2];exact vW W d1.toaH
 have HCT:Hid (∀ W:World,Below w.heap.size w W→W.cell? ⟨yp,5,none⟩=some (.pointer (some ⟨Y.tp.p,0,none⟩))∧Calls Tryz.prog 133 #[.pointer (some ⟨Y.tp.p,0,none⟩)] W fun e w'=>∃ h':Hd,e=.returned (.pointer (some ⟨h'.p,0,none⟩))∧aH W.heap.size w' h' y.top∧Below W.heap.size W w'):=fun W hb=>⟨(h.below hb).blk.cells.2.1,vW W (h.below hb).top.toaH⟩
 clear h;generalize Y.dp y.s=P at HR5 HI5 HIX HCP;generalize Y.tp.p=tp at HCT;go_enter Tryz.func129,Tryz.ntmps129
 go_wp2_with (refine wpList_load_mid (by rfl) 75 (.tmp 9) (by rfl) yp 0 (by rfl) [.pointer (some ⟨P 0,0,none⟩),.pointer (some ⟨P 1,0,none⟩),.pointer (some ⟨P 2,0,none⟩),.pointer (some ⟨P 3,0,none⟩),.pointer (some ⟨P 4,0,none⟩)] _ HR5.out Tryz.underlying75 rfl HI5.out ?_)
 go_loopw [4,11] (fun u i wr=>∃(k:Nat) (a:Option Addr) (cap:Nat) (hs:Nat→Hd),k≤5∧i=.int .i64 (k:Int)∧u=.slice a k cap∧iU wr w.heap.size a k cap hs y.dev∧Below w.heap.size w wr) (fun _ i _=>5-(intOf i).toNat)
 case atStart=>exact⟨0,none,0,fun _=>⟨0,0,0,0,0,.nilIface⟩,by omega,rfl,rfl,iU.nil _ _ _ _,Below.refl _ _⟩
 case round =>
  obtain⟨k,a,cap,hs,hk,rfl,rfl,hL,hb⟩:=hrel;by_cases hlt:k<5
  ·have f1:=HIX.out k hlt
   have HC:=ah (HCP.out k wr a cap hs hlt hb hL);have HL:=ah hL;have HB:=ah hb;clear hL hb HIX HCP HCT HR5 HI5;generalize P k=pk at f1 HC;go_wp2_with fail
   refine HC.out.mono ?_;rintro e w1 ⟨h',rfl,hd1,hb1⟩;have hz:w.heap.size≤wr.heap.size:=HB.out.size;have HD1:=ah hd1;have HB1:=ah hb1;have HL1:=ah (HL.out.below hb1);have HO2:Hid ((w1.alloc (.cells #[.pointer (some ⟨h'.p,0,none⟩)] 74)).ownsRow w.heap.size 74 1 (.slice a k cap) k (nC hs k)):=HL1.out.row.alloc _;have HSA:Hid (w.heap.size≤(w1.alloc (.cells #[.pointer (some ⟨h'.p,0,none⟩)] 74)).heap.size):=by unfold Hid;have:=hb1.size;simp;omega
   have HBA:Hid (Below w.heap.size w (w1.alloc (.cells #[.pointer (some ⟨h'.p,0,none⟩)] 74))):=(HB.out.trans (hb1.mono hz)).alloc (Nat.le_trans hz hb1.size) _;have HSZ2:Hid ((w1.alloc (.cells #[.pointer (some ⟨h'.p,0,none⟩)] 74)).heap.size=w1.heap.size+1):=by unfold Hid;simp
   have HNW:Hid (∀ i y,([.pointer (some ⟨h'.p,0,none⟩)]:List Value)[i]?=some y→(w1.alloc (.cells #[.pointer (some ⟨h'.p,0,none⟩)] 74)).cell? ((⟨w1.heap.size,0,none⟩:Addr).add i)=some y):=cell_one_new _ _ _;clear hd1 hb1 HC;go_wp2_with (at_builtin;refine wpList_append_lies _ (by rfl) _ _ 81 (by rfl) w.heap.size 74 i2 (.pointer none) 1 8 Tryz.underlying81 hi2 hy0 hy1 hy2 rfl (by decide) (.slice a k cap) k (nC hs k) (by rfl) HO2.out ⟨w1.heap.size,0,none⟩ 1 1 [.pointer (some ⟨h'.p,0,none⟩)] (by rfl) (by rfl) HNW.out (fun u hu=>by simp at hu;subst hu;rfl) (by decide) (by unfold maxLen;omega) (by omega) HSA.out (w1.heap.size+1) HSZ2.out ?_;intro g3 cap3 w3 hown hgrow hat hlt3)
   have HLN:Hid (iU w3 w.heap.size (some ⟨g3,0,none⟩) (k+1) cap3 (setH hs k h') y.dev):=HL.out.snoc hz HB1.out HD1.out hown hgrow HL.out.block;have HBF:Hid (Below w.heap.size w w3):=HBA.out.grown hgrow HSA.out (fun r e=>(HO2.out.lt r e).1)
   clear hown hgrow hat hlt3;go_roundw
   case rel =>
    have fin:∃(k1:Nat) (a1:Option Addr) (cap1:Nat) (hs1:Nat→Hd),k1≤5∧Value.int .i64 ((k:Int)+1)=.int .i64 (k1:Int)∧Value.slice (some ⟨g3,0,none⟩) (k+1) cap3=.slice a1 k1 cap1∧iU w3 w.heap.size a1 k1 cap1 hs1 y.dev∧Below w.heap.size w w3 :=
     ⟨k+1,some ⟨g3,0,none⟩,cap3,setH hs k h',by omega,by go_num,rfl,HLN.out,HBF.out⟩
    first|exact fin|((repeat apply Exists.intro);exact⟨fin,rfl⟩)
   case measure=>simp[intOf];omega
  ·have hke:k=5:=by omega
   subst hke;obtain⟨c5,hct⟩:=HCT.out wr hb;have HC:=ah hct;have HL:=ah hL;have HB:=ah hb;clear hL hb HIX HCP HCT HR5 HI5 hct;go_wp2_with fail
   refine HC.out.mono ?_;rintro e w1 ⟨h',rfl,hd1,hb1⟩;have HD1:=ah hd1;have HB1:=ah hb1;clear hd1 hb1;go_wp2
   first
    | exact⟨a,cap,hs,h',rfl,HL.out.below HB1.out,HD1.out.sZ HB.out.size,HB.out.trans (HB1.out.mono HB.out.size)⟩
    | (go_ret2;exact⟨a,cap,hs,h',rfl,HL.out.below HB1.out,HD1.out.sZ HB.out.size,HB.out.trans (HB1.out.mono HB.out.size)⟩)
theorem iU.set{w w1:World}{B n cap g i:Nat}{hs:Nat→Hd}{d d':Nat→DV}{h':Hd}(h:iU w B (some ⟨g,0,none⟩) n cap hs d)(hi:i<n)(hB:B≤w.heap.size)(hb:Below w.heap.size w w1)(hd:aH w.heap.size w1 h' (d' i))(hd':∀ k,k≠i→d' k=d k):iU (w1.setCell ⟨g,i,none⟩ (.pointer (some ⟨h'.p,0,none⟩))) B (some ⟨g,0,none⟩) n cap (setH hs i h') d':=by
 have h1:=h.below hb;obtain⟨g2,e,_,_,cur,hcur⟩:=h1.ptrs (by omega)
 have e2:g2=g:=by injection e with e;injection e with e;exact e.symm
 subst e2;have hset:∀ b,b≠g2→(w1.setCell ⟨g2,i,none⟩ (.pointer (some ⟨h'.p,0,none⟩))).heap[b]?=w1.heap[b]?:=fun b hb=>heap_setCell_other _ _ _ _ hb
 refine⟨?_,fun k hk=>?_⟩
 ·have:=(h1.row.stored i (.pointer (some ⟨h'.p,0,none⟩))).1
  have e3:(nC hs n).set i (.pointer (some ⟨h'.p,0,none⟩))=nC (setH hs i h') n:=by
   apply List.ext_getElem?
   intro k;unfold nC;by_cases hk:k<n
   ·rw[List.getElem?_map,List.getElem?_range hk]
    by_cases e:i=k
    ·subst e
     rw[List.getElem?_set_self (by simpa using hk)]
     simp[setH]
    ·rw[List.getElem?_set_ne e,List.getElem?_map,List.getElem?_range hk]
     simp[setH,Ne.symm e]
   ·rw[List.getElem?_eq_none (by simp;omega),List.getElem?_eq_none (by simp;omega)]
  rw[← e3];exact this
 ·unfold setH
  by_cases e:k=i
  ·rw[if_pos e,e]
   exact(hd.sZ hB).keep fun b hf=>hset b fun e2=>by
    have hk1:=(hd.sZ hB).toG.oK hcur (by decide)
    exact hk1 (e2▸hf)
  ·rw[if_neg e,hd' k e]
   exact(h1.dev k hk).keep fun b hf=>hset b fun e2=>by
    have hk1:=(h1.dev k hk).toG.oK hcur (by decide)
    exact hk1 (e2▸hf)
def ny(l:List Int)(i k:Nat):Bool:=(l.take k).contains (i:Int)
theorem Nw(l:List Int)(i k:Nat)(hk:k<l.length):ny l i (k+1)=(ny l i k||(l.getD k 0==(i:Int))):=by
 unfold ny;rw[List.take_add_one,List.getElem?_eq_getElem hk];show(l.take k++[l[k]]).contains (i:Int)=_
 rw[List.getD_eq_getElem?_getD,List.getElem?_eq_getElem hk];simp only[List.contains_eq_mem,List.mem_append,List.mem_singleton,Option.getD_some];by_cases h1:(i:Int)∈l.take k
 ·simp[h1]
 ·by_cases h2:(i:Int)=l[k]
  ·simp[h2]
  ·have h3:¬l[k]=(i:Int):=fun e=>h2 e.symm
   simp[h1,h2,h3]
theorem Ba{y:YV}{k i:Nat}(h:i≠k):kZ y (k+1) i=kZ y k i:=by
 unfold kZ;by_cases hn:(i:Int)∈y.l
 ·rw[if_neg (fun q=>q.2 hn),if_neg (fun q=>q.2 hn)]
 ·by_cases e2:i<k
  ·rw[if_pos ⟨by omega,hn⟩,if_pos ⟨e2,hn⟩]
  ·rw[if_neg (by omega),if_neg (by omega)]
theorem Hz{y:YV}{k:Nat}(h:(k:Int)∈y.l):kZ y (k+1)=kZ y k:=by
 funext i
 by_cases e:i=k
 ·subst e
  unfold kZ;rw[if_neg (fun q=>q.2 h),if_neg (by omega)]
 ·exact Ba e
theorem H6{y:YV}{k:Nat}(h:(k:Int) ∉ y.l):kZ y (k+1) k=fH 1:=by
 unfold kZ;rw[if_pos ⟨by omega,h⟩]
def Lone(w:World)(y:YV)(g cap k:Nat)(wr:World):Prop:=(∃ hs,iU wr w.heap.size (some ⟨g,0,none⟩) 5 cap hs (kZ y k))∧Below w.heap.size w wr
structure lI(w:World)(y:YV)(g cap k ig io:Nat)(th:Hd)(wr:World):Prop where
 lone:Lone w y g cap k wr
 top:aH w.heap.size wr th y.top
 nums:Nums wr (some ⟨ig,io,none⟩) y.l
 ne:ig≠g
theorem lI.below{w:World}{y:YV}{g cap k ig io:Nat}{th:Hd}{wr W:World}(h:lI w y g cap k ig io th wr)(hb:Below wr.heap.size wr W):lI w y g cap k ig io th W:=by
 obtain⟨⟨⟨hs,h1⟩,h0⟩,h2,h3,h4⟩:=h;exact⟨⟨⟨hs,h1.below hb⟩,h0.trans (hb.mono h0.size)⟩,h2.keep fun b e=>hb.block b (h2.lt b e).2,h3.below hb,h4⟩
theorem H8{yp C m:Nat}{Y:Yh}{y:YV}(w:World)(h:ay w yp Y y)(hg:YG y C m)(hdk:jD y.top y.kd.root) :
  Calls Tryz.prog 51 #[.pointer (some ⟨yp,0,none⟩)] w fun e w'=>∃(yq:Nat) (Yq:Yh),e=.returned (.tuple #[.pointer (some ⟨yq,0,none⟩),.bool true])∧ay w' yq Yq (gK (iW y) y.top)∧Below w.heap.size w w':=by
 obtain⟨a1,a2,a3,a4,a5⟩:=hg.alone hdk;have hl5:=hg.ok.ch.len
 have HDV:Hid (Calls Tryz.prog 129 #[.pointer (some ⟨yp,0,none⟩)] w fun e w'=>∃(g cap:Nat) (th:Hd),e=.returned (.tuple #[.slice (some ⟨g,0,none⟩) 5 cap,.pointer (some ⟨th.p,0,none⟩)])∧Lone w y g cap 0 w'∧aH w.heap.size w' th y.top):=(Uo w h).mono fun e w' ⟨a,cap,hs,th,h1,h2,h3,h4⟩=>by
  obtain⟨g,rfl,_,_,_⟩:=h2.ptrs (by omega)
  have e0:kZ y 0=y.dev:=by funext i;unfold kZ;rw[if_neg (by omega)]
  exact⟨g,cap,th,h1,⟨⟨hs,by rw[e0];exact h2⟩,h4⟩,h3⟩
 have HLB:Hid (∀(g cap k:Nat) (W W':World),Lone w y g cap k W→Below W.heap.size W W'→Lone w y g cap k W'):=fun g cap k W W' ⟨⟨hs,h1⟩,hb⟩ hb1=>⟨⟨hs,h1.below hb1⟩,hb.trans (hb1.mono hb.size)⟩
 have HCH:Hid (∀ W:World,Below w.heap.size w W→Calls Tryz.prog 48 #[.pointer (some ⟨yp,0,none⟩)] W fun e w'=>∃(g o cap:Nat),e=.returned (.slice (some ⟨g,o,none⟩) y.l.length cap)∧Nums w' (some ⟨g,o,none⟩) y.l∧W.heap.size≤g∧g<w'.heap.size∧Below W.heap.size W w'):=fun W hb=>(Hf W (h.below hb) hg.ok).mono fun e w' ⟨g,o,cap,h1,h2,h3,h4,_,h6⟩=>⟨g,o,cap,h1,h2,h3,h4,h6⟩
 have HNW:Hid (∀(g cap k:Nat) (W:World),k<5→(k:Int) ∉ y.l→Lone w y g cap k W→Calls Tryz.prog 59 #[.int .i64 1] W fun e w'=>∃ dp:Nat,e=.returned (.tuple #[.pointer (some ⟨dp,0,none⟩),.nilIface])∧(∃ v,w'.cell? ⟨g,k,none⟩=some v)∧w'.frozen? ⟨g,k,none⟩=false∧Lone w y g cap (k+1) (w'.setCell ⟨g,k,none⟩ (.pointer (some ⟨dp,0,none⟩)))∧Below W.heap.size W w'):=fun g cap k W hk hnk ⟨⟨hs,h1⟩,hb⟩=>by
  refine(zJ 1 W (by omega) (by omega)).mono ?_
  rintro e w' ⟨h',rfl,hd1,hb1⟩;obtain⟨g2,e2,hgB,hp,cur,hcur⟩:=(h1.below hb1).ptrs (by omega)
  have e3:g2=g:=by injection e2 with e2;injection e2 with e2;exact e2.symm
  subst e3;have hc:=hp k hk;rw[Nat.zero_add] at hc;refine⟨h'.p,rfl,⟨_,hc⟩,frozen_of_row w' g2 k _ _ hcur,⟨⟨_,h1.set hk hb.size hb1 (by rw[H6 hnk];exact hd1) fun i hi=>Ba hi⟩,?_⟩,hb1⟩
  exact(hb.trans (hb1.mono hb.size)).setCell hgB _
 have HKP:Hid (∀(g cap k:Nat) (W:World),(k:Int)∈y.l→Lone w y g cap k W→Lone w y g cap (k+1) W):=fun g cap k W hk hL=>by
  unfold Lone at hL ⊢;rw[Hz hk];exact hL
 have HOP:Hid (∀(g cap:Nat) (th:Hd) (W:World),Lone w y g cap 5 W→aH w.heap.size W th y.top→Calls Tryz.prog 39 #[.slice (some ⟨g,0,none⟩) 5 cap,.pointer (some ⟨th.p,0,none⟩)] W fun e w'=>∃(yq:Nat) (Yq:Yh),e=.returned (.tuple #[.pointer (some ⟨yq,0,none⟩),.nilIface])∧ay w' yq Yq (gK (iW y) y.top)∧Below w.heap.size w w'):=fun g cap th W ⟨⟨hs,h1⟩,hb⟩ ht=>by
  obtain⟨g2,e2,hgB,hp,cur,hcur⟩:=h1.ptrs (by omega)
  have e3:g2=g:=by injection e2 with e2;injection e2 with e2;exact e2.symm
  subst e3;refine(UC (m:=m) W hp (fun i hi=>(h1.dev i hi).toG.noG) ht.toG.noG a1 hg.ok.top).mono fun e w' ⟨hb1,hO⟩=>?_
  rcases hO with⟨hne,_⟩|⟨_,yq,Yq,h2,h3,_,_⟩
  ·exact absurd a2 hne
  ·exact⟨yq,Yq,h2,h3,hb.trans (hb1.mono hb.size)⟩
 have HAB:Hid (∀(g cap k ig io:Nat) (th:Hd) (W W':World),lI w y g cap k ig io th W→Below W.heap.size W W'→lI w y g cap k ig io th W'):=fun g cap k ig io th W W' hA hb=>hA.below hb
 have HCS:Hid (∀(g cap:Nat) (th:Hd) (W:World),Lone w y g cap 0 W→aH w.heap.size W th y.top→Calls Tryz.prog 48 #[.pointer (some ⟨yp,0,none⟩)] W fun e w'=>∃(ig io ic:Nat),e=.returned (.slice (some ⟨ig,io,none⟩) y.l.length ic)∧lI w y g cap 0 ig io th w'):=fun g cap th W hL ht=>by
  refine(HCH.out W hL.2).mono ?_;rintro e w' ⟨ig,io,ic,rfl,h1,h2,h3,h4⟩;obtain⟨⟨hs,hD⟩,hb⟩:=hL;obtain⟨g2,e2,_,hp,_,hcur⟩:=hD.ptrs (by omega)
  have e3:g2=g:=by injection e2 with e2;injection e2 with e2;exact e2.symm
  subst e3;have hgl:=lt_of_some hcur;exact⟨ig,io,ic,rfl,⟨⟨hs,hD.below h4⟩,hb.trans (h4.mono hb.size)⟩,ht.keep fun b e=>h4.block b (ht.lt b e).2,h1,by omega⟩
 have HNS:Hid (∀(g cap k ig io:Nat) (th:Hd) (W:World),k<5→(k:Int) ∉ y.l→lI w y g cap k ig io th W→Calls Tryz.prog 59 #[.int .i64 1] W fun e w'=>∃ dp:Nat,e=.returned (.tuple #[.pointer (some ⟨dp,0,none⟩),.nilIface])∧(∃ v,w'.cell? ⟨g,k,none⟩=some v)∧w'.frozen? ⟨g,k,none⟩=false∧lI w y g cap (k+1) ig io th (w'.setCell ⟨g,k,none⟩ (.pointer (some ⟨dp,0,none⟩)))):=fun g cap k ig io th W hk hnk hA=>by
  obtain⟨⟨hs,hD⟩,_⟩:=hA.lone;obtain⟨g2,e2,_,hp,_,hcur⟩:=hD.ptrs (by omega)
  have e3:g2=g:=by injection e2 with e2;injection e2 with e2;exact e2.symm
  subst e3;have hth:=hA.top.toG.oK hcur (by decide)
  refine(HNW.out g2 cap k W hk hnk hA.lone).mono ?_;rintro e w' ⟨dp,rfl,q1,q2,hL,hb⟩;have h1:=hA.below hb;refine⟨dp,rfl,q1,q2,hL,h1.top.keep fun b e=>heap_setCell_other _ _ _ _ fun e2=>hth (by have e3:b=g2:=e2;rw[← e3];exact e),h1.nums.keep fun g' o' e=>heap_setCell_other _ _ _ _ fun e2=>?_,h1.ne⟩
  injection e with e
  injection e with e
  exact h1.ne (e.trans e2)
 have HKS:Hid (∀(g cap k ig io:Nat) (th:Hd) (W:World),(k:Int)∈y.l→lI w y g cap k ig io th W→lI w y g cap (k+1) ig io th W):=fun g cap k ig io th W hk hA=>⟨HKP.out g cap k W hk hA.lone,hA.top,hA.nums,hA.ne⟩
 have HNU:Hid (∀(g cap k ig io:Nat) (th:Hd) (W:World),lI w y g cap k ig io th W→∀ q,q<y.l.length→W.cell? ⟨ig,io+q,none⟩=some (.int .i64 (y.l.getD q 0))):=fun g cap k ig io th W hA q hq=>by
  obtain⟨g',o',e1,e2⟩:=hA.nums q hq;cases e1
  exact e2
 have HOS:Hid (∀(g cap ig io:Nat) (th:Hd) (W:World),lI w y g cap 5 ig io th W→Calls Tryz.prog 39 #[.slice (some ⟨g,0,none⟩) 5 cap,.pointer (some ⟨th.p,0,none⟩)] W fun e w'=>∃(yq:Nat) (Yq:Yh),e=.returned (.tuple #[.pointer (some ⟨yq,0,none⟩),.nilIface])∧ay w' yq Yq (gK (iW y) y.top)∧Below w.heap.size w w'):=fun g cap ig io th W hA=>HOP.out g cap th W hA.lone hA.top
 have HK0:Hid (∀ k:Nat,ny y.l k 0=false):=fun k=>rfl
 have HKU:Hid (∀(k q:Nat),q<y.l.length→ny y.l k (q+1)=(ny y.l k q||(y.l.getD q 0==(k:Int)))):=fun k q hq=>Nw y.l k q hq
 have HKT:Hid (∀ k:Nat,ny y.l k y.l.length=true→(k:Int)∈y.l):=fun k e=>by unfold ny at e;rw[List.take_length] at e;simpa using e
 have HKF:Hid (∀ k:Nat,ny y.l k y.l.length=false→(k:Int) ∉ y.l):=fun k e=>by unfold ny at e;rw[List.take_length] at e;simpa using e
 have HPO:Hid (∀(e:Ending) (W:World),(∃(yq:Nat) (Yq:Yh),e=.returned (.tuple #[.pointer (some ⟨yq,0,none⟩),.bool true])∧ay W yq Yq (gK (iW y) y.top)∧Below w.heap.size w W)→∃(yq:Nat) (Yq:Yh),e=.returned (.tuple #[.pointer (some ⟨yq,0,none⟩),.bool true])∧ay W yq Yq (gK (iW y) y.top)∧Below w.heap.size w W):=fun _ _ h=>h
 clear h hg hdk a1 a2 a3 a4 a5 HLB HCH HNW HKP HOP;generalize gK (iW y) y.top=Z at HOS HPO ⊢;generalize hkB:ny y.l=KB at HK0 HKU HKT HKF;generalize hln:y.l.length=ln at HCS HNU HKU HKT HKF hl5;clear hkB hln;go_enter Tryz.func51,Tryz.ntmps51
 go_wp2_with fail
 refine HDV.out.mono ?_;rintro e w1 ⟨g,cap,th,rfl,hL,hth⟩;have HC:=ah (HCS.out g cap th w1 hL hth);clear hL hth HCS HDV;go_wp2_with fail
 refine HC.out.mono ?_;rintro e w2 ⟨ig,io,ic,rfl,hA⟩;have HA:=ah hA;clear hA HC;go_wp2
 go_loopw [7] (fun i wr=>∃ k:Nat,k≤5∧i=.int .i64 (k:Int)∧lI w y g cap k ig io th wr) (fun i _=>5-(intOf i).toNat)
 case atStart=>exact⟨0,by omega,rfl,HA.out⟩
 case round =>
  clear HA;obtain⟨k,hk,rfl,hA⟩:=hrel;by_cases hlt:k<5
  ·have HA:=ah hA
   have HNq:=ah (HNU.out g cap k ig io th wr hA);have HU:=ah (HKU.out k);have H0:=ah (HK0.out k);have HT:=ah (fun e=>HKS.out g cap k ig io th wr (HKT.out k e) hA)
   have HN:=ah (fun e=>HNS.out g cap k ig io th wr hlt (HKF.out k e) hA)
   clear hA HKU HK0 HKT HKF HKS HNS HNU HOS HPO;generalize KB k=B at HU H0 HT HN;have k0:(0:Int)≤(k:Int):=by omega
   have k5:(k:Int)<5:=by omega
   have k2:((k:Int)).toNat=k:=by omega
   have k3:IntKind.i64.wrap ((k:Int)+1)=(k:Int)+1:=IntWalk.i64_in _ (by omega)
   go_wp2
   go_loopw [8,9] (fun kv j W=>∃ q:Nat,q≤ln∧j=.int .i64 (q:Int)∧kv=.bool (B q)∧W=wr) (fun _ j _=>ln-(intOf j).toNat)
   case atStart=>exact⟨0,Nat.zero_le _,rfl,by rw[H0.out],rfl⟩
   case round =>
    obtain⟨q,hq,rfl,rfl,hww⟩:=hrel;subst hww;have j0:(0:Int)≤(q:Int):=by omega
    have j2:((q:Int)).toNat=q:=by omega
    have j3:IntKind.i64.wrap ((q:Int)+1)=(q:Int)+1:=IntWalk.i64_in _ (by omega)
    by_cases hql:q<ln
    ·have cq:=HNq.out q hql
     have HU1:=ah (HU.out q hql);have j1:(q:Int)<(ln:Int):=by omega
     clear HT HN HU HNq HA
     cases hB:B q with
     | true =>
      have HU2:Hid (B (q+1)=true):=by unfold Hid;rw[HU1.out,hB];rfl
      clear HU1 hB;go_wp2
      refine⟨⟨q+1,by omega,by simp,by rw[HU2.out],trivial⟩,?_⟩
      simp only[intOf];omega
     | false =>
      have HU2:Hid (B (q+1)=(y.l.getD q 0==(k:Int))):=by unfold Hid;rw[HU1.out,hB,Bool.false_or]
      clear HU1 hB;generalize y.l.getD q 0=lq at cq HU2;go_wp2
      refine⟨⟨q+1,by omega,by simp,by rw[HU2.out],trivial⟩,?_⟩
      simp only[intOf];omega
    ·have hqe:q=ln:=by omega
     subst hqe;clear HU HNq HA
     cases hB:B q with
     | true =>
      have HX:=ah (HT.out hB);clear HT HN hB;go_wp2
      refine⟨⟨k+1,by omega,by simp,HX.out⟩,?_⟩
      simp only[intOf];omega
     | false =>
      have HX:=ah (HN.out hB);clear HT HN hB;go_wp2_with fail
      refine HX.out.mono ?_;rintro e w5 ⟨dp,rfl,⟨v5,q1⟩,q2,hA5⟩;have HA5:=ah hA5;clear hA5 HX;go_wp2
      refine⟨⟨k+1,by omega,by simp,HA5.out⟩,?_⟩
      simp only[intOf];omega
  ·have hke:k=5:=by omega
   subst hke;have HO:=ah (HOS.out g cap ig io th wr hA);clear hA HKU HK0 HKT HKF HKS HNS HNU HOS;go_wp2_with fail
   refine HO.out.mono ?_;rintro e w5 ⟨yq,Yq,rfl,hY,hb⟩;have HY:=ah hY;have HB:=ah hb;clear hY hb HO;go_wp2
   first
    | exact⟨yq,Yq,rfl,HY.out,HB.out⟩
    | (go_ret2;exact⟨yq,Yq,rfl,HY.out,HB.out⟩)
end Go.Proofs.YtonhoahnieoebabGreatDoor
