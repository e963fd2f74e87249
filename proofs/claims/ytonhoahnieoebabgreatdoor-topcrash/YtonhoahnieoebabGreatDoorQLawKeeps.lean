/- Copies of a yard's devices (J7). -/
import Derived.Test.YtonhoahnieoebabGreatDoorQYardO5
set_option maxHeartbeats 1000000
set_option maxRecDepth 100000
namespace Go.Proofs.YtonhoahnieoebabGreatDoor
open Go.RowKit Go.Maps
attribute [local go_sem ↓] Go.wp_at_zero Go.wp_at_succ
theorem UD:(Tryz.prog.info? 75).map (·.size)=some 5:=by kernel_rfl
theorem Rz(P:Nat→Nat)(w:World):(Instr.index 75 (.agg #[.pointer (some ⟨P 0,0,none⟩),.pointer (some ⟨P 1,0,none⟩),.pointer (some ⟨P 2,0,none⟩),.pointer (some ⟨P 3,0,none⟩),.pointer (some ⟨P 4,0,none⟩)]) (.int .i64 0)).run Tryz.prog w=.ok (.pointer (some ⟨P 0,0,none⟩)) w:=by kernel_rfl
theorem TS(P:Nat→Nat)(w:World):(Instr.index 75 (.agg #[.pointer (some ⟨P 0,0,none⟩),.pointer (some ⟨P 1,0,none⟩),.pointer (some ⟨P 2,0,none⟩),.pointer (some ⟨P 3,0,none⟩),.pointer (some ⟨P 4,0,none⟩)]) (.int .i64 1)).run Tryz.prog w=.ok (.pointer (some ⟨P 1,0,none⟩)) w:=by kernel_rfl
theorem JD(P:Nat→Nat)(w:World):(Instr.index 75 (.agg #[.pointer (some ⟨P 0,0,none⟩),.pointer (some ⟨P 1,0,none⟩),.pointer (some ⟨P 2,0,none⟩),.pointer (some ⟨P 3,0,none⟩),.pointer (some ⟨P 4,0,none⟩)]) (.int .i64 2)).run Tryz.prog w=.ok (.pointer (some ⟨P 2,0,none⟩)) w:=by kernel_rfl
theorem PY(P:Nat→Nat)(w:World):(Instr.index 75 (.agg #[.pointer (some ⟨P 0,0,none⟩),.pointer (some ⟨P 1,0,none⟩),.pointer (some ⟨P 2,0,none⟩),.pointer (some ⟨P 3,0,none⟩),.pointer (some ⟨P 4,0,none⟩)]) (.int .i64 3)).run Tryz.prog w=.ok (.pointer (some ⟨P 3,0,none⟩)) w:=by kernel_rfl
theorem N9(P:Nat→Nat)(w:World):(Instr.index 75 (.agg #[.pointer (some ⟨P 0,0,none⟩),.pointer (some ⟨P 1,0,none⟩),.pointer (some ⟨P 2,0,none⟩),.pointer (some ⟨P 3,0,none⟩),.pointer (some ⟨P 4,0,none⟩)]) (.int .i64 4)).run Tryz.prog w=.ok (.pointer (some ⟨P 4,0,none⟩)) w:=by kernel_rfl
theorem I5(P:Nat→Nat)(k:Nat)(hk:k<5)(w:World) :
  (Instr.index 75 (.agg #[.pointer (some ⟨P 0,0,none⟩),.pointer (some ⟨P 1,0,none⟩),.pointer (some ⟨P 2,0,none⟩),.pointer (some ⟨P 3,0,none⟩),.pointer (some ⟨P 4,0,none⟩)]) (.int .i64 (k:Int))).run Tryz.prog w=.ok (.pointer (some ⟨P k,0,none⟩)) w:=by
 match k,hk with
 | 0,_=>exact Rz P w
 | 1,_=>exact TS P w
 | 2,_=>exact JD P w
 | 3,_=>exact PY P w
 | 4,_=>exact N9 P w
theorem jD.block{w:World}{B k cap:Nat}{a:Option Addr}{hs:Nat→Hd}{d:Nat→DV}(h:jD w B a k cap hs d):∀ r,(Value.slice a k cap).ownBlock=some r→∃ cur,w.heap[r]?=some (.cells cur 74 (0,0)):=fun r e=>by
 rcases h.row.2 with⟨h0,_⟩|⟨g,cap',cur,hv,_,hh,_⟩
 ·rw[h0] at e;cases e
 ·rw[hv] at e
  have e2:g=r:=by simpa [Value.ownBlock] using e
  rw[← e2]
  exact⟨cur,hh⟩
theorem ay.Oa{w:World}{yp:Nat}{Y:Yh}{y:YV}(h:ay w yp Y y):w.rangeAt yp 0 [.pointer (some ⟨Y.dp y.s 0,0,none⟩),.pointer (some ⟨Y.dp y.s 1,0,none⟩),.pointer (some ⟨Y.dp y.s 2,0,none⟩),.pointer (some ⟨Y.dp y.s 3,0,none⟩),.pointer (some ⟨Y.dp y.s 4,0,none⟩)]:=fun j v hv=>by
 have c:=h.blk.cells.1
 match j,hv with
 | 0,hv=>cases hv;exact c 0 (by omega)
 | 1,hv=>cases hv;exact c 1 (by omega)
 | 2,hv=>cases hv;exact c 2 (by omega)
 | 3,hv=>cases hv;exact c 3 (by omega)
 | 4,hv=>cases hv;exact c 4 (by omega)
structure qj(w:World)(ka:Option Addr)(n:Nat)(ks:List (List Bool)):Prop where
 len:ks.length=n
 at_:∀ i,i<n→∃(g o:Nat) (a:Option Addr) (l c:Nat),ka=some ⟨g,o,none⟩∧w.cell? ⟨g,o+i,none⟩=some (.slice a l c)∧Bools w a l (ks.getD i [])∧l≤maxLen
theorem qj.below{w w':World}{ka:Option Addr}{n:Nat}{ks:List (List Bool)}(h:qj w ka n ks)(hb:Below w.heap.size w w'):qj w' ka n ks :=
 ⟨h.len,fun i hi=>by
  obtain⟨g,o,a,l,c,h1,h2,h3,h4⟩:=h.at_ i hi
  exact⟨g,o,a,l,c,h1,(hb.cell (p:=⟨g,o+i,none⟩) (World.block_lt_of_cell? _ _ h2)).trans h2,h3.below hb,h4⟩⟩
theorem lq.from{w W w':World}{d:Nat→DV}{t:DV}{e:Ending}(hb:Below w.heap.size w W)(h:lq W d t e w'):lq w d t e w':=by
 obtain⟨h1,h2⟩:=h
 have hz:=hb.size
 refine⟨hb.trans (h1.mono hz),?_⟩
 rcases h2 with h2|⟨h2,yp,Y,h3,h4,h5,h6⟩
 ·exact .inl h2
 ·exact .inr ⟨h2,yp,Y,h3,h4,fun b e=>Nat.le_trans hz (h5 b e),fun g o e1=>⟨Nat.le_trans hz (h6 g o e1).1,(h6 g o e1).2⟩⟩
theorem lq.shape{w w':World}{d:Nat→DV}{t:DV}{e:Ending}(h:lq w d t e w'):∃(po:Option Addr) (er:Value),e=.returned (.tuple #[.pointer po,er])∧lq w d t (.returned (.tuple #[.pointer po,er])) w':=by
 have h0:=h
 rcases h.2 with⟨_,rfl⟩|⟨_,yp,Y,rfl,_⟩
 ·exact⟨_,_,rfl,h0⟩
 ·exact⟨_,_,rfl,h0⟩
theorem RX{yp m C n kc:Nat}{ka:Option Addr}{ks:List (List Bool)}{Y:Yh}{y:YV}(w:World)(h:ay w yp Y y)(hY:YOk y C m)(hK:qj w ka n ks) :
  Calls Tryz.prog 33 #[.pointer (some ⟨yp,0,none⟩),.slice ka n kc] w fun e w'=>lq w (y.left ks) (ji y.top []) e w':=by
 obtain⟨i2,hi2,hy0,hy1,hy2⟩:=info_parts Ut
 have HR5:=ah h.Oa
 have HI5:Hid ((Tryz.prog.info? 75).map (·.size)=some ([.pointer (some ⟨Y.dp y.s 0,0,none⟩),.pointer (some ⟨Y.dp y.s 1,0,none⟩),.pointer (some ⟨Y.dp y.s 2,0,none⟩),.pointer (some ⟨Y.dp y.s 3,0,none⟩),.pointer (some ⟨Y.dp y.s 4,0,none⟩)]:List Value).length):=UD
 have HIX:Hid (∀ k:Nat,k<5→∀ W:World,(Instr.index 75 (.agg #[.pointer (some ⟨Y.dp y.s 0,0,none⟩),.pointer (some ⟨Y.dp y.s 1,0,none⟩),.pointer (some ⟨Y.dp y.s 2,0,none⟩),.pointer (some ⟨Y.dp y.s 3,0,none⟩),.pointer (some ⟨Y.dp y.s 4,0,none⟩)]) (.int .i64 (k:Int))).run Tryz.prog W=.ok (.pointer (some ⟨Y.dp y.s k,0,none⟩)) W):=fun k hk W=>I5 (Y.dp y.s) k hk W
 have HNC:Hid (∀ W:World,Bools W none 0 []):=fun W=>⟨rfl,fun i hi=>by cases hi⟩
 have HCP:Hid (∀(k:Nat) (W:World) (a:Option Addr) (l c:Nat),k<5→Below w.heap.size w W→Bools W a l (ks.getD k [])→l≤maxLen→Calls Tryz.prog 108 #[.pointer (some ⟨Y.dp y.s k,0,none⟩),.slice a l c] W fun e w'=>∃ h':Hd,e=.returned (.pointer (some ⟨h'.p,0,none⟩))∧aI W.heap.size w' h' (y.left ks k)∧Below W.heap.size W w'):=fun k W a l c hk hb hB hl=>by
  obtain⟨d1,d2,_⟩:=(h.below hb).uF hk
  rw[← d2]
  exact Bq a l c (ks.getD k []) W d1.toaI hB hl
 have HCT:Hid (∀ W:World,Below w.heap.size w W→W.cell? ⟨yp,5,none⟩=some (.pointer (some ⟨Y.tp.p,0,none⟩))∧Calls Tryz.prog 108 #[.pointer (some ⟨Y.tp.p,0,none⟩),.slice none 0 0] W fun e w'=>∃ h':Hd,e=.returned (.pointer (some ⟨h'.p,0,none⟩))∧aI W.heap.size w' h' (ji y.top [])∧Below W.heap.size W w'):=fun W hb=>⟨(h.below hb).blk.cells.2.1,Bq none 0 0 [] W (h.below hb).top.toaI (HNC.out W) (Nat.zero_le _)⟩
 have HKP:Hid (∀(k:Nat) (W:World),Below w.heap.size w W→k<n→∃(g o:Nat) (a:Option Addr) (l c:Nat),ka=some ⟨g,o,none⟩∧W.cell? ⟨g,o+k,none⟩=some (.slice a l c)∧Bools W a l (ks.getD k [])∧l≤maxLen):=fun k W hb hk=>(hK.below hb).at_ k hk
 have HKN:Hid (∀ k:Nat,¬k<n→ks.getD k []=[]):=fun k hk=>by rw[List.getD_eq_getElem?_getD,List.getElem?_eq_none (by have:=hK.len;omega)];rfl
 have HOP:Hid (∀(W W1:World) (a:Option Addr) (cap:Nat) (hs:Nat→Hd) (th:Hd),Below w.heap.size w W→jD W w.heap.size a 5 cap hs (y.left ks)→aI W.heap.size W1 th (ji y.top [])→Below W.heap.size W W1→Calls Tryz.prog 39 #[.slice a 5 cap,.pointer (some ⟨th.p,0,none⟩)] W1 fun e w'=>∃(po:Option Addr) (er:Value),e=.returned (.tuple #[.pointer po,er])∧lq w (y.left ks) (ji y.top []) (.returned (.tuple #[.pointer po,er])) w'):=fun W W1 a cap hs th hb hL ht hb1=>by
  obtain⟨g,rfl,_,hp,_⟩:=(hL.below hb1).ptrs (by omega)
  have hbw:=hb.trans (hb1.mono hb.size)
  exact(Ob (m:=m) W1 hp (fun i hi=>((hL.below hb1).dev i hi).toG.noG) ht.toG.noG (fun i=>yw (hY.dev i) _) (yw hY.top _)).mono fun e w' hO=>(hO.from hbw).shape
 clear h hY hK
 generalize lq w (y.left ks) (ji y.top [])=OP at HOP ⊢
 generalize y.left ks=D at HCP HOP
 generalize ji y.top []=T at HCT HOP
 generalize Y.dp y.s=P at HR5 HI5 HIX HCP
 generalize Y.tp.p=tp at HCT
 go_enter Tryz.func33,Tryz.ntmps33
 go_wp2_with (refine wpList_load_mid (by rfl) 75 (.tmp 12) (by rfl) yp 0 (by rfl) [.pointer (some ⟨P 0,0,none⟩),.pointer (some ⟨P 1,0,none⟩),.pointer (some ⟨P 2,0,none⟩),.pointer (some ⟨P 3,0,none⟩),.pointer (some ⟨P 4,0,none⟩)] _ HR5.out Tryz.underlying75 rfl HI5.out ?_)
 go_loopw [6,14] (fun u i wr=>∃(k:Nat) (a:Option Addr) (cap:Nat) (hs:Nat→Hd),k≤5∧i=.int .i64 (k:Int)∧u=.slice a k cap∧jD wr w.heap.size a k cap hs D∧Below w.heap.size w wr) (fun _ i _=>5-(intOf i).toNat)
 case atStart=>exact⟨0,none,0,fun _=>⟨0,0,0,0,0,.nilIface⟩,by omega,rfl,rfl,jD.nil _ _ _ _,Below.refl _ _⟩
 case round =>
  obtain⟨k,a,cap,hs,hk,rfl,rfl,hL,hb⟩:=hrel
  by_cases hlt:k<5
  ·have f1:=HIX.out k hlt
   have HL:=ah hL
   have HB:=ah hb
   by_cases hkn:k<n
   ·obtain⟨kg,ko,a1,l1,c1,rfl,ck,hB,hl1⟩:=HKP.out k wr hb hkn
    have HC:=ah (HCP.out k wr a1 l1 c1 hlt hb hB hl1)
    have g1:decide ((k:Int)<(n:Int))=true:=decide_eq_true (by omega)
    have k0:(0:Int)≤(k:Int):=by omega
    have k1:(k:Int)<(n:Int):=by omega
    have k2:((k:Int)).toNat=k:=by omega
    clear hL hb HIX HCP HCT HR5 HI5 hB hl1 HKP HKN HOP HNC
    generalize P k=pk at f1 HC
    go_wp2_with fail
    refine HC.out.mono ?_
    rintro e w1 ⟨h',rfl,hd1,hb1⟩
    have hz:w.heap.size≤wr.heap.size:=HB.out.size
    have HD1:=ah hd1
    have HB1:=ah hb1
    have HL1:=ah (HL.out.below hb1)
    have HO2:Hid ((w1.alloc (.cells #[.pointer (some ⟨h'.p,0,none⟩)] 74)).ownsRow w.heap.size 74 1 (.slice a k cap) k (nT hs k)):=HL1.out.row.alloc _
    have HSA:Hid (w.heap.size≤(w1.alloc (.cells #[.pointer (some ⟨h'.p,0,none⟩)] 74)).heap.size):=by unfold Hid;have:=hb1.size;simp;omega
    have HBA:Hid (Below w.heap.size w (w1.alloc (.cells #[.pointer (some ⟨h'.p,0,none⟩)] 74))):=(HB.out.trans (hb1.mono hz)).alloc (Nat.le_trans hz hb1.size) _
    have HSZ2:Hid ((w1.alloc (.cells #[.pointer (some ⟨h'.p,0,none⟩)] 74)).heap.size=w1.heap.size+1):=by unfold Hid;simp
    have HNW:Hid (∀ i y,([.pointer (some ⟨h'.p,0,none⟩)]:List Value)[i]?=some y→(w1.alloc (.cells #[.pointer (some ⟨h'.p,0,none⟩)] 74)).cell? ((⟨w1.heap.size,0,none⟩:Addr).add i)=some y):=cell_one_new _ _ _
    clear hd1 hb1 HC
    go_wp2_with (at_builtin;refine wpList_append_lies _ (by rfl) _ _ 81 (by rfl) w.heap.size 74 i2 (.pointer none) 1 8 Tryz.underlying81 hi2 hy0 hy1 hy2 rfl (by decide) (.slice a k cap) k (nT hs k) (by rfl) HO2.out ⟨w1.heap.size,0,none⟩ 1 1 [.pointer (some ⟨h'.p,0,none⟩)] (by rfl) (by rfl) HNW.out (fun u hu=>by simp at hu;subst hu;rfl) (by decide) (by unfold maxLen;omega) (by omega) HSA.out (w1.heap.size+1) HSZ2.out ?_;intro g3 cap3 w3 hown hgrow hat hlt3)
    have HLN:Hid (jD w3 w.heap.size (some ⟨g3,0,none⟩) (k+1) cap3 (setH hs k h') D):=HL.out.snoc hz HB1.out HD1.out hown hgrow HL.out.block
    have HBF:Hid (Below w.heap.size w w3):=HBA.out.grown hgrow HSA.out (fun r e=>(HO2.out.lt r e).1)
    clear hown hgrow hat hlt3
    go_roundw
    case rel =>
     have fin:∃(k1:Nat) (a1:Option Addr) (cap1:Nat) (hs1:Nat→Hd),k1≤5∧Value.int .i64 ((k:Int)+1)=.int .i64 (k1:Int)∧Value.slice (some ⟨g3,0,none⟩) (k+1) cap3=.slice a1 k1 cap1∧jD w3 w.heap.size a1 k1 cap1 hs1 D∧Below w.heap.size w w3 :=
      ⟨k+1,some ⟨g3,0,none⟩,cap3,setH hs k h',by omega,by go_num,rfl,HLN.out,HBF.out⟩
     first|exact fin|((repeat apply Exists.intro);exact⟨fin,rfl⟩)
    case measure=>simp[intOf];omega
   ·have hks:=HKN.out k hkn
    have hNC:=HNC.out wr
    rw[← hks] at hNC
    have HC:=ah (HCP.out k wr none 0 0 hlt hb hNC (Nat.zero_le _))
    have g1:decide ((k:Int)<(n:Int))=false:=decide_eq_false (by omega)
    clear hL hb HIX HCP HCT HR5 HI5 HKP HKN HOP HNC hNC hks
    generalize P k=pk at f1 HC
    go_wp2_with fail
    refine HC.out.mono ?_
    rintro e w1 ⟨h',rfl,hd1,hb1⟩
    have hz:w.heap.size≤wr.heap.size:=HB.out.size
    have HD1:=ah hd1
    have HB1:=ah hb1
    have HL1:=ah (HL.out.below hb1)
    have HO2:Hid ((w1.alloc (.cells #[.pointer (some ⟨h'.p,0,none⟩)] 74)).ownsRow w.heap.size 74 1 (.slice a k cap) k (nT hs k)):=HL1.out.row.alloc _
    have HSA:Hid (w.heap.size≤(w1.alloc (.cells #[.pointer (some ⟨h'.p,0,none⟩)] 74)).heap.size):=by unfold Hid;have:=hb1.size;simp;omega
    have HBA:Hid (Below w.heap.size w (w1.alloc (.cells #[.pointer (some ⟨h'.p,0,none⟩)] 74))):=(HB.out.trans (hb1.mono hz)).alloc (Nat.le_trans hz hb1.size) _
    have HSZ2:Hid ((w1.alloc (.cells #[.pointer (some ⟨h'.p,0,none⟩)] 74)).heap.size=w1.heap.size+1):=by unfold Hid;simp
    have HNW:Hid (∀ i y,([.pointer (some ⟨h'.p,0,none⟩)]:List Value)[i]?=some y→(w1.alloc (.cells #[.pointer (some ⟨h'.p,0,none⟩)] 74)).cell? ((⟨w1.heap.size,0,none⟩:Addr).add i)=some y):=cell_one_new _ _ _
    clear hd1 hb1 HC
    go_wp2_with (at_builtin;refine wpList_append_lies _ (by rfl) _ _ 81 (by rfl) w.heap.size 74 i2 (.pointer none) 1 8 Tryz.underlying81 hi2 hy0 hy1 hy2 rfl (by decide) (.slice a k cap) k (nT hs k) (by rfl) HO2.out ⟨w1.heap.size,0,none⟩ 1 1 [.pointer (some ⟨h'.p,0,none⟩)] (by rfl) (by rfl) HNW.out (fun u hu=>by simp at hu;subst hu;rfl) (by decide) (by unfold maxLen;omega) (by omega) HSA.out (w1.heap.size+1) HSZ2.out ?_;intro g3 cap3 w3 hown hgrow hat hlt3)
    have HLN:Hid (jD w3 w.heap.size (some ⟨g3,0,none⟩) (k+1) cap3 (setH hs k h') D):=HL.out.snoc hz HB1.out HD1.out hown hgrow HL.out.block
    have HBF:Hid (Below w.heap.size w w3):=HBA.out.grown hgrow HSA.out (fun r e=>(HO2.out.lt r e).1)
    clear hown hgrow hat hlt3
    go_roundw
    case rel =>
     have fin:∃(k1:Nat) (a1:Option Addr) (cap1:Nat) (hs1:Nat→Hd),k1≤5∧Value.int .i64 ((k:Int)+1)=.int .i64 (k1:Int)∧Value.slice (some ⟨g3,0,none⟩) (k+1) cap3=.slice a1 k1 cap1∧jD w3 w.heap.size a1 k1 cap1 hs1 D∧Below w.heap.size w w3 :=
      ⟨k+1,some ⟨g3,0,none⟩,cap3,setH hs k h',by omega,by go_num,rfl,HLN.out,HBF.out⟩
     first|exact fin|((repeat apply Exists.intro);exact⟨fin,rfl⟩)
    case measure=>simp[intOf];omega
  ·have hke:k=5:=by omega
   subst hke
   obtain⟨c5,hct⟩:=HCT.out wr hb
   have HC:=ah hct
   have HO:=ah (fun W1 th=>HOP.out wr W1 a cap hs th hb hL)
   clear hL hb HIX HCP HCT HR5 HI5 hct HKP HKN HOP HNC
   go_wp2_with fail
   refine HC.out.mono ?_
   rintro e w1 ⟨h',rfl,hd1,hb1⟩
   have HO1:=ah (HO.out w1 h' hd1 hb1)
   clear hd1 hb1 HO HC
   go_wp2_with fail
   refine HO1.out.mono ?_
   rintro e w2 ⟨po,er,rfl,hP⟩
   have HP:=ah hP
   clear hP HO1
   go_wp2
   exact HP.out
def ng(s:ByteArray)(g:GV)(k:Nat):GV:=⟨jh s g.now k,jh s g.cr k⟩
theorem LM{gp n:Nat}{G:Gh}{g:GV}(s:ByteArray)(w:World)(h:IsG w gp G n g)(hn:n≤1000)(hs:s.size=16*n)(hin:∀ k,k<n→chunk s k∈g.cr k)(hlen:∀ k,k<n→(g.cr k).length≤1000) :
  Calls Tryz.prog 46 #[.pointer (some ⟨gp,0,none⟩),.string s] w fun e w'=>e=.returned (.bool true)∧dS gp G n (ng s g n) w w':=by
 have HST:Hid (dS gp G n (ng s g 0) w w):=⟨G,by
  have e:∀ f:Nat→Rw,jh s f 0=f:=fun f=>by funext i;unfold jh;rw[if_neg (by omega)]
  unfold ng
  rw[e,e];exact h,Moved.refl _ _⟩
 have HSH:Hid (∀(k:Nat) (W:World),dS gp G n (ng s g k) w W→∃ a cap,W.cell? ⟨gp,0,none⟩=some (.slice a n cap)):=fun k W ⟨G1,h1,_⟩=>by
  obtain⟨a,cap,e⟩:=ownsRow_shape h1.now.own
  exact⟨a,cap,by rw[h1.cells.1,e]⟩
 have HRD:Hid (∀(k:Nat) (W:World),k<n→dS gp G n (ng s g k) w W→∃(b cap bc capc:Nat) (v:Value),W.cell? ⟨gp,0,none⟩=some (.slice (some ⟨b,0,none⟩) n cap)∧W.cell? ⟨gp,1,none⟩=some (.slice (some ⟨bc,0,none⟩) n capc)∧W.cell? ⟨bc,k,none⟩=some v∧(∃ u,W.cell? ⟨b,k,none⟩=some u)∧b<W.heap.size∧W.frozen? ⟨b,k,none⟩=false ∧
   (Calls Tryz.prog 145 #[v,.string (bytesOf (chunk s k))] W fun e w'=>e=.returned (.bool true)∧w'=W)∧gp<W.heap.size ∧
   ∀ W1:World,W1=(W.setCell ⟨b,k,none⟩ (.slice (some ⟨W.heap.size,0,none⟩) 1 1)).alloc (.cells #[.string (bytesOf (chunk s k))] 9)→W1.cell? ⟨gp,0,none⟩=some (.slice (some ⟨b,0,none⟩) n cap)∧W1.cell? ⟨gp,1,none⟩=some (.slice (some ⟨bc,0,none⟩) n capc)∧(∃ u,W1.cell? ⟨bc,k,none⟩=some u)∧bc<W1.heap.size∧gp<W1.heap.size∧W1.frozen? ⟨bc,k,none⟩=false ∧
    dS gp G n (ng s g (k+1)) w ((W1.setCell ⟨bc,k,none⟩ (.slice (some ⟨W1.heap.size,0,none⟩) 1 1)).alloc (.cells #[.string (bytesOf (chunk s k))] 9))):=fun k W hk ⟨G1,h1,h2⟩=>by
  obtain⟨b,cap,e1,e2,e3⟩:=h1.now.cell hk
  obtain⟨bc,capc,f1,f2,f3⟩:=h1.cr.cell hk
  have hrow:=h1.cr.row k hk
  have er:jh s g.cr k k=g.cr k:=by unfold jh;rw[if_neg (by omega)]
  rw[show(ng s g k).cr k=g.cr k from er] at hrow
  obtain⟨h3,h4⟩:=h1.Af hk e1 (chunk s k)
  have hbl:b<W.heap.size:=h1.now.lt (.inl (by rw[e1];rfl))
  rw[World.setCell_alloc_past _ _ _ _ hbl] at h3 h4
  refine⟨b,cap,bc,capc,G1.rc k,by rw[h1.cells.1,e1],by rw[h1.cells.2,f1],f2,⟨_,e2⟩,hbl,e3,DJ (chunk s k) W hrow (hin k hk) (hlen k hk),lt_of_some h1.blk,fun W1 hW1=>?_⟩
  rw[← hW1] at h3 h4
  obtain⟨bc2,capc2,f1',f2',f3'⟩:=h3.cr.cell hk
  have e9:bc2=bc∧capc2=capc:=by
   have:G1.vc=Value.slice (some ⟨bc2,0,none⟩) n capc2:=f1'
   rw[f1] at this
   cases this;exact⟨rfl,rfl⟩
  obtain⟨rfl,rfl⟩:=e9
  obtain⟨h5,h6⟩:=h3.JI hk f1' (chunk s k)
  have hbc:bc2<W1.heap.size:=h3.cr.lt (.inl (by rw[f1'];rfl))
  rw[World.setCell_alloc_past _ _ _ _ hbc] at h5 h6
  have hc3:=h3.cells
  refine⟨by rw[hc3.1];exact congrArg some e1,by rw[hc3.2];exact congrArg some f1',⟨_,f2'⟩,hbc,lt_of_some h3.blk,f3',_,?_,h2.trans (h4.trans h6)⟩
  unfold ng
  rw[← Ap,← Ap];exact h5
 have HSE:Hid (∀(k:Nat) (W:World),k<n→Calls Tryz.prog 144 #[.string s,.int .i64 (k:Int)] W fun e w'=>e=.returned (.string (bytesOf (chunk s k)))∧w'=W):=fun k W hk=>wP s k W (by omega) (by omega)
 obtain⟨a0,cap0,c0⟩:=HSH.out 0 w HST.out
 clear h hin hlen
 have g1:((s.size:Int) != 16*(n:Int))=false:=by simp;omega
 have k1:IntKind.i64.wrap (16*(n:Int))=16*(n:Int):=IntWalk.i64_in _ (by omega)
 go_enter Tryz.func46,Tryz.ntmps46
 go_wp2
 go_loopw [5] (fun i wr=>∃ k:Nat,k≤n∧i=.int .i64 (k:Int)∧dS gp G n (ng s g k) w wr) (fun i _=>n-(intOf i).toNat)
 case atStart=>exact⟨0,Nat.zero_le _,rfl,HST.out⟩
 case round =>
  obtain⟨k,hk,rfl,hd⟩:=hrel
  by_cases hlt:k<n
  ·obtain⟨b,cap,bc,capc,v,q0,q1,q2,⟨u0,q3⟩,q4,q5,hh,q6,hx⟩:=HRD.out k wr hlt hd
   have HH:=ah hh
   have HX:=ah hx
   have HS:=ah (HSE.out k wr hlt)
   clear hh hx hd c0
   generalize bytesOf (chunk s k)=T at HH HX HS
   have k0:(0:Int)≤(k:Int):=by omega
   have kn:(k:Int)<(n:Int):=by omega
   have k2:((k:Int)).toNat=k:=by omega
   go_wp2_with fail
   refine HS.out.mono ?_
   rintro e w' ⟨rfl,hw⟩
   have hw':=hw.symm
   subst hw'
   clear hw HS
   go_wp2_with fail
   refine HH.out.mono ?_
   rintro e w' ⟨rfl,hw⟩
   have hw':=hw.symm
   subst hw'
   clear hw HH
   go_upto_region 11 with fail
   obtain⟨r0,r1,⟨u1,r2⟩,r3,r4,r5,hfin⟩:=HX.out _ rfl
   have HF:=ah hfin
   clear hfin HX
   generalize hW1:(wr.setCell ⟨b,k,none⟩ (.slice (some ⟨wr.heap.size,0,none⟩) 1 1)).alloc (.cells #[.string T] 9)=W1 at HF r0 r1 r2 r3 r4 r5 ⊢
   clear hW1
   go_wp2
   refine⟨⟨k+1,by omega,by simp,HF.out⟩,?_⟩
   simp only[intOf]
   omega
  ·have hkn:k=n:=by omega
   obtain⟨a,cap,q0⟩:=HSH.out k wr hd
   have kn:¬(k:Int)<(n:Int):=by omega
   rw[hkn] at hd
   have HD:=ah hd
   clear hd
   go_wp2
   go_ret
   exact⟨rfl,HD.out⟩
theorem TK:(Tryz.prog.info? 41).map (fun i=>(i.zero,i.size,i.bytes))=some (some (.slice none 0 0),1,24):=by kernel_rfl
def je(x:aG)(i:Nat):Nat:=min ((min (max x.a 0) 9).toNat*i) x.kl
def yC(x:aG):List (List Bool):=(List.range 5).map fun i=>x.ks.drop (je x i)
def sU(x:aG)(f:Nat):Option Addr:=if x.kc=f then x.ka else x.ka.map fun a=>a.add f
def wO(x:aG)(f:Nat):Value:=.slice (sU x f) (x.kl-f) (x.kc-f)
def jA(x:aG)(k:Nat):List Value:=(List.range k).map fun i=>wO x (je x i)
theorem MI(x:aG)(k:Nat):jA x (k+1)=jA x k++[wO x (je x k)]:=by unfold jA;rw[List.range_succ,List.map_append];rfl
theorem Kq(x:aG)(w:World)(_hk:x.kl≤x.kc)(hk2:x.kc≤maxLen)(ha : -9223372036854775808≤x.a∧x.a≤9223372036854775807) :
  Calls Tryz.prog 32 #[.agg #[.string x.kind,.int .i64 x.a,.int .i64 x.b,.int .i64 x.c,.int .i64 x.d,.string x.s,.slice x.ka x.kl x.kc]] w fun e w'=>∃(a:Option Addr) (cap:Nat),e=.returned (.slice a 5 cap)∧w'.ownsRow w.heap.size 41 1 (.slice a 5 cap) 5 (jA x 5)∧Below w.heap.size w w':=by
 obtain⟨i2,hi2,hy0,hy1,hy2⟩:=info_parts TK
 have hk3:x.kc≤9223372036854775807:=hk2
 clear hk2
 obtain⟨A,hA,hA9⟩:∃ A:Nat,min (max x.a 0) 9=(A:Int)∧A≤9:=⟨(min (max x.a 0) 9).toNat,by omega,by omega⟩
 have HFK:Hid (∀ k:Nat,je x k=min (A*k) x.kl):=fun k=>by unfold je;rw[hA];rfl
 have HVS:=ah (MI x)
 have HV0:Hid (jA x 0=[]):=rfl
 have HB0:Hid (Below w.heap.size w (w.alloc (.cells #[.string x.kind,.int .i64 x.a,.int .i64 x.b,.int .i64 x.c,.int .i64 x.d,.string x.s,.slice x.ka x.kl x.kc] 43))):=(Below.refl _ _).alloc (Nat.le_refl _) _
 have HX:Hid ((w.alloc (.cells #[.string x.kind,.int .i64 x.a,.int .i64 x.b,.int .i64 x.c,.int .i64 x.d,.string x.s,.slice x.ka x.kl x.kc] 43)).heap[w.heap.size]?=some (.cells #[.string x.kind,.int .i64 x.a,.int .i64 x.b,.int .i64 x.c,.int .i64 x.d,.string x.s,.slice x.ka x.kl x.kc] 43 (0,0))):=heap_alloc_new _ _
 have HZ1:Hid ((w.alloc (.cells #[.string x.kind,.int .i64 x.a,.int .i64 x.b,.int .i64 x.c,.int .i64 x.d,.string x.s,.slice x.ka x.kl x.kc] 43)).heap.size=w.heap.size+1):=by unfold Hid;simp
 go_enter Tryz.func32,Tryz.ntmps32
 go_wp2
 generalize w.alloc (.cells #[.string x.kind,.int .i64 x.a,.int .i64 x.b,.int .i64 x.c,.int .i64 x.d,.string x.s,.slice x.ka x.kl x.kc] 43)=w0 at HB0 HX HZ1 ⊢
 go_loopw [3,4] (fun u i wr=>∃(k:Nat) (a:Option Addr) (cap:Nat),k≤5∧i=.int .i64 (k:Int)∧u=.slice a k cap∧wr.ownsRow (w.heap.size+1) 41 1 (.slice a k cap) k (jA x k)∧Below (w.heap.size+1) w0 wr) (fun _ i _=>5-(intOf i).toNat)
 case atStart=>exact⟨0,none,0,by omega,rfl,rfl,by rw[HV0.out];exact World.ownsRow_nil _ _ _ _,Below.refl _ _⟩
 case round =>
  obtain⟨k,a,cap,hk5,rfl,rfl,ho,hbel⟩:=hrel
  have hsz:w.heap.size+1≤wr.heap.size:=by have:=hbel.size;rw[HZ1.out] at this;exact this
  by_cases hlt:k<5
  ·have hbx:wr.heap[w.heap.size]?=_:=(hbel.block w.heap.size (by omega)).trans HX.out
   have c1:wr.cell? ⟨w.heap.size,1,none⟩=some (.int .i64 x.a):=by rw[cell_of_row _ _ _ _ _ _ hbx];rfl
   have c6:wr.cell? ⟨w.heap.size,6,none⟩=some (.slice x.ka x.kl x.kc):=by rw[cell_of_row _ _ _ _ _ _ hbx];rfl
   have hAk:A*k≤9*4:=Nat.mul_le_mul hA9 (by omega)
   have eAk:(A:Int)*(k:Int)=((A*k:Nat):Int):=by simp
   have m1:IntKind.i64.wrap ((A:Int)*(k:Int))=(A:Int)*(k:Int):=IntWalk.i64_in _ (by rw[eAk];omega)
   have HF:=ah (HFK.out k)
   have m2:(0:Int)≤min ((A:Int)*(k:Int)) (x.kl:Int):=by rw[eAk];omega
   have m3:min ((A:Int)*(k:Int)) (x.kl:Int)≤(x.kl:Int):=by omega
   have m4:(min ((A:Int)*(k:Int)) (x.kl:Int)).toNat=je x k:=by rw[HF.out,eAk];omega
   have m5:je x k≤x.kl:=by rw[HF.out];omega
   have HEK:=ah eAk
   by_cases hkf:x.kc=je x k
   ·have HVK:Hid (jA x (k+1)=jA x k++[.slice x.ka (x.kl-je x k) (x.kc-je x k)]):=by
     unfold Hid
     rw[HVS.out]
     unfold wO sU
     rw[if_pos hkf]
    clear hbx eAk hAk
    generalize hfk:je x k=f at m4 m5 HVK hkf
    have hkf2:(x.kc=f)=True:=eq_true hkf
    clear hkf
    clear hfk HF HFK HVS
    have HO2:Hid ((wr.alloc (.cells #[.slice x.ka (x.kl-f) (x.kc-f)] 41)).ownsRow (w.heap.size+1) 41 1 (.slice a k cap) k (jA x k)):=ho.alloc _
    have HSA:Hid (w.heap.size+1≤(wr.alloc (.cells #[.slice x.ka (x.kl-f) (x.kc-f)] 41)).heap.size):=by unfold Hid;simp;omega
    have HBA:Hid (Below (w.heap.size+1) w0 (wr.alloc (.cells #[.slice x.ka (x.kl-f) (x.kc-f)] 41))):=hbel.alloc hsz _
    have HSZ2:Hid ((wr.alloc (.cells #[.slice x.ka (x.kl-f) (x.kc-f)] 41)).heap.size=wr.heap.size+1):=by unfold Hid;simp
    have HNW:Hid (∀ i y,([.slice x.ka (x.kl-f) (x.kc-f)]:List Value)[i]?=some y→(wr.alloc (.cells #[.slice x.ka (x.kl-f) (x.kc-f)] 41)).cell? ((⟨wr.heap.size,0,none⟩:Addr).add i)=some y):=cell_one_new _ _ _
    clear ho hbel
    go_wp2_with (at_builtin;refine wpList_append_lies _ (by rfl) _ _ 65 (by rfl) (w.heap.size+1) 41 i2 (.slice none 0 0) 1 24 Tryz.underlying65 hi2 hy0 hy1 hy2 rfl (by decide) (.slice a k cap) k (jA x k) (by rfl) HO2.out ⟨wr.heap.size,0,none⟩ 1 1 [.slice x.ka (x.kl-f) (x.kc-f)] (by rfl) (by rfl) HNW.out (fun u hu=>by simp at hu;subst hu;rfl) (by decide) (by unfold maxLen;omega) (by omega) HSA.out (wr.heap.size+1) HSZ2.out ?_;intro g3 cap3 w3 hown hgrow hat hlt3)
    have HOF:Hid (w3.ownsRow (w.heap.size+1) 41 1 (.slice (some ⟨g3,0,none⟩) (k+1) cap3) (k+1) (jA x (k+1))):=by
     unfold Hid
     rw[HVK.out];exact hown
    have HBF:Hid (Below (w.heap.size+1) w0 w3):=HBA.out.grown hgrow HSA.out (fun r e=>(HO2.out.lt r e).1)
    clear hown hgrow hat hlt3
    go_roundw
    case rel =>
     have fin:∃(k1:Nat) (a1:Option Addr) (cap1:Nat),k1≤5∧Value.int .i64 ((k:Int)+1)=.int .i64 (k1:Int)∧Value.slice (some ⟨g3,0,none⟩) (k+1) cap3=.slice a1 k1 cap1∧w3.ownsRow (w.heap.size+1) 41 1 (.slice a1 k1 cap1) k1 (jA x k1)∧Below (w.heap.size+1) w0 w3 :=
      ⟨k+1,some ⟨g3,0,none⟩,cap3,by omega,by go_num,rfl,HOF.out,HBF.out⟩
     first|exact fin|((repeat apply Exists.intro);exact⟨fin,rfl⟩)
    case measure=>simp[intOf];omega
   ·have HVK:Hid (jA x (k+1)=jA x k++[.slice (x.ka.map fun a=>a.add (je x k)) (x.kl-je x k) (x.kc-je x k)]):=by
     unfold Hid
     rw[HVS.out]
     unfold wO sU
     rw[if_neg hkf]
    clear hbx eAk hAk
    generalize hfk:je x k=f at m4 m5 HVK hkf
    clear hfk HF HFK HVS
    have HO2:Hid ((wr.alloc (.cells #[.slice (x.ka.map fun a=>a.add f) (x.kl-f) (x.kc-f)] 41)).ownsRow (w.heap.size+1) 41 1 (.slice a k cap) k (jA x k)):=ho.alloc _
    have HSA:Hid (w.heap.size+1≤(wr.alloc (.cells #[.slice (x.ka.map fun a=>a.add f) (x.kl-f) (x.kc-f)] 41)).heap.size):=by unfold Hid;simp;omega
    have HBA:Hid (Below (w.heap.size+1) w0 (wr.alloc (.cells #[.slice (x.ka.map fun a=>a.add f) (x.kl-f) (x.kc-f)] 41))):=hbel.alloc hsz _
    have HSZ2:Hid ((wr.alloc (.cells #[.slice (x.ka.map fun a=>a.add f) (x.kl-f) (x.kc-f)] 41)).heap.size=wr.heap.size+1):=by unfold Hid;simp
    have HNW:Hid (∀ i y,([.slice (x.ka.map fun a=>a.add f) (x.kl-f) (x.kc-f)]:List Value)[i]?=some y→(wr.alloc (.cells #[.slice (x.ka.map fun a=>a.add f) (x.kl-f) (x.kc-f)] 41)).cell? ((⟨wr.heap.size,0,none⟩:Addr).add i)=some y):=cell_one_new _ _ _
    clear ho hbel
    go_wp2_with (at_builtin;refine wpList_append_lies _ (by rfl) _ _ 65 (by rfl) (w.heap.size+1) 41 i2 (.slice none 0 0) 1 24 Tryz.underlying65 hi2 hy0 hy1 hy2 rfl (by decide) (.slice a k cap) k (jA x k) (by rfl) HO2.out ⟨wr.heap.size,0,none⟩ 1 1 [.slice (x.ka.map fun a=>a.add f) (x.kl-f) (x.kc-f)] (by rfl) (by rfl) HNW.out (fun u hu=>by simp at hu;subst hu;rfl) (by decide) (by unfold maxLen;omega) (by omega) HSA.out (wr.heap.size+1) HSZ2.out ?_;intro g3 cap3 w3 hown hgrow hat hlt3)
    have HOF:Hid (w3.ownsRow (w.heap.size+1) 41 1 (.slice (some ⟨g3,0,none⟩) (k+1) cap3) (k+1) (jA x (k+1))):=by
     unfold Hid
     rw[HVK.out];exact hown
    have HBF:Hid (Below (w.heap.size+1) w0 w3):=HBA.out.grown hgrow HSA.out (fun r e=>(HO2.out.lt r e).1)
    clear hown hgrow hat hlt3
    go_roundw
    case rel =>
     have fin:∃(k1:Nat) (a1:Option Addr) (cap1:Nat),k1≤5∧Value.int .i64 ((k:Int)+1)=.int .i64 (k1:Int)∧Value.slice (some ⟨g3,0,none⟩) (k+1) cap3=.slice a1 k1 cap1∧w3.ownsRow (w.heap.size+1) 41 1 (.slice a1 k1 cap1) k1 (jA x k1)∧Below (w.heap.size+1) w0 w3 :=
      ⟨k+1,some ⟨g3,0,none⟩,cap3,by omega,by go_num,rfl,HOF.out,HBF.out⟩
     first|exact fin|((repeat apply Exists.intro);exact⟨fin,rfl⟩)
    case measure=>simp[intOf];omega
  ·have hke:k=5:=by omega
   subst hke
   have HBW:Hid (Below w.heap.size w wr):=HB0.out.trans (hbel.mono (Nat.le_succ _))
   have HOW:=ah (ownsRow_base ho (Nat.le_succ w.heap.size))
   clear ho hbel
   go_wp2
   go_ret
   exact⟨a,cap,rfl,HOW.out,HBW.out⟩
end Go.Proofs.YtonhoahnieoebabGreatDoor
