/- A row of a table as a sector (C2), in the program: what Row gives. -/
import Derived.Test.YtonhoahnieoebabGreatDoorQShapeEnt
set_option maxHeartbeats 1000000
set_option maxRecDepth 100000
namespace Go.Proofs.YtonhoahnieoebabGreatDoor
open Go.RowKit
attribute [local go_sem ↓] Go.wp_at_zero Go.wp_at_succ
def nU(w:World)(la:Option Addr)(len:Nat)(ts:List (Int × Int)):Prop :=
 ts.length=len∧∀ k,k<len→∃ b off,la=some ⟨b,off,none⟩∧w.cell? ⟨b,off+k*2,none⟩=some (.int .i64 (ts.getD k (0,0)).1)∧w.cell? ⟨b,off+k*2+1,none⟩=some (.int .i64 (ts.getD k (0,0)).2)
theorem nU.below{w w':World}{la:Option Addr}{len:Nat}{ts:List (Int × Int)}(h:nU w la len ts)(hb:Below w.heap.size w w'):nU w' la len ts:=by
 refine⟨h.1,fun k hk=>?_⟩
 obtain⟨b,off,e,h1,h2⟩:=h.2 k hk
 exact⟨b,off,e,by rw[hb.cell (World.block_lt_of_cell? w _ h1)];exact h1,by rw[hb.cell (World.block_lt_of_cell? w _ h2)];exact h2⟩
def dO(ts:List (Int × Int))(r k:Nat):List Int:=(List.range 16).map fun j=>if j / 2<k then (if j % 2=0 then (ts.getD (r*8+j / 2) (0,0)).1 else (ts.getD (r*8+j / 2) (0,0)).2) else 0
theorem vO(ts:List (Int × Int))(r k:Nat):(dO ts r k).length=16:=by simp[dO]
theorem Em(ts:List (Int × Int))(r:Nat):dO ts r 0=List.replicate 16 0:=by
 simp[dO,List.map_const']
theorem Dl(ts:List (Int × Int))(r k:Nat):dO ts r (k+1)=((dO ts r k).set (k*2) (ts.getD (r*8+k) (0,0)).1).set (k*2+1) (ts.getD (r*8+k) (0,0)).2:=by
 apply List.ext_getElem?
 intro j
 by_cases hj:j<16
 ·rw[List.getElem?_set,List.getElem?_set]
  by_cases e1:k*2+1=j
  ·have a1:j / 2=k:=by omega
   have a2:¬j % 2=0:=by omega
   simp[dO,hj,e1,a1,a2]
  ·rw[if_neg e1]
   by_cases e0:k*2=j
   ·have a1:j / 2=k:=by omega
    have a2:j % 2=0:=by omega
    simp[dO,hj,e0,a1,a2]
   ·rw[if_neg e0]
    have a1:j / 2<k+1↔j / 2<k:=by omega
    simp[dO,hj,a1]
 ·rw[List.getElem?_eq_none (by rw[vO];omega),List.getElem?_eq_none (by rw[List.length_set,List.length_set,vO];omega)]
theorem Nh(ts:List (Int × Int))(r k:Nat)(h:ts.length≤r*8+k):dO ts r k=dO ts r 8:=by
 unfold dO
 apply List.map_congr_left
 intro j hj
 have hj':=List.mem_range.1 hj
 have h8:j / 2<8:=by omega
 rw[if_pos h8]
 by_cases e:j / 2<k
 ·rw[if_pos e]
 ·rw[if_neg e]
  have:ts.getD (r*8+j / 2) (0,0)=(0,0):=by
   rw[List.getD_eq_getElem?_getD,List.getElem?_eq_none (by omega)];rfl
  rw[this];simp
def rowOk(ts:List (Int × Int))(r:Nat):Bool:=(List.range 8).all fun i=>bP (ts.getD (r*8+i) (0,0)).1 (ts.getD (r*8+i) (0,0)).2 40
def o8(ts:List (Int × Int))(row:Int):Bool:=decide (ts.length≤32∧0≤row∧row<aA ts.length)
def jL(ts:List (Int × Int))(row:Int):Int:=if o8 ts row=true then (if rowOk ts row.toNat=true then 0 else 2) else 1
def dG(ts:List (Int × Int))(row:Int):ByteArray:=if jL ts row=0 then strOfNums (dO ts row.toNat 8) else ⟨#[]⟩
theorem OT{ts:List (Int × Int)}{r i:Nat}(hi:i<8)(h:bP (ts.getD (r*8+i) (0,0)).1 (ts.getD (r*8+i) (0,0)).2 40=false):rowOk ts r=false:=by
 unfold rowOk
 rw[List.all_eq_false]
 exact⟨i,List.mem_range.2 hi,by rw[h];decide⟩
theorem Ho{ts:List (Int × Int)}{r k:Nat}(hk:ts.length≤r*8+k∨8≤k)(h:∀ i,i<k→bP (ts.getD (r*8+i) (0,0)).1 (ts.getD (r*8+i) (0,0)).2 40=true):rowOk ts r=true:=by
 unfold rowOk
 rw[List.all_eq_true]
 intro i hi
 have hi':=List.mem_range.1 hi
 by_cases e:i<k
 ·exact h i e
 ·have:ts.getD (r*8+i) (0,0)=(0,0):=by
   rw[List.getD_eq_getElem?_getD,List.getElem?_eq_none (by omega)];rfl
  rw[this];decide
structure jB(w:World)(N:Nat)(bs:List Int)(wr:World):Prop where
 blk:wr.heap[N]?=some (.cells (byV bs).toArray 260 (0,0))
 bel:Below w.heap.size w wr
 len:bs.length=16
 new:w.heap.size≤N
theorem jB.cell{w wr:World}{N:Nat}{bs:List Int}(h:jB w N bs wr)(j:Nat)(hj:j<16):wr.cell? ⟨N,j,none⟩=some (.int .u8 (bs.getD j 0)):=by
 rw[cell_of_row _ _ _ _ _ _ h.blk,List.getElem?_toArray]
 exact wK bs j (by rw[h.len];exact hj)
theorem jB.frozen{w wr:World}{N:Nat}{bs:List Int}(h:jB w N bs wr)(j:Nat):wr.frozen? ⟨N,j,none⟩=false:=frozen_of_row _ _ _ _ _ h.blk
theorem lF{w:World}{k:Nat}{o:Obj}(h:w.heap[k]?=some o):k<w.heap.size:=by
 rcases Nat.lt_or_ge k w.heap.size with h1|h1
 ·exact h1
 ·rw[Array.getElem?_eq_none h1] at h;cases h
theorem jB.below{w wr w2:World}{N:Nat}{bs:List Int}(h:jB w N bs wr)(hb:Below wr.heap.size wr w2):jB w N bs w2 :=
 ⟨by rw[hb.block N (lF h.blk)];exact h.blk,h.bel.trans (hb.mono h.bel.size),h.len,h.new⟩
theorem jB.set{w wr:World}{N:Nat}{bs:List Int}(h:jB w N bs wr)(j:Nat)(v:Int):jB w N (bs.set j v) (wr.setCell ⟨N,j,none⟩ (.int .u8 v)):=by
 refine⟨?_,h.bel.setCell h.new _,by rw[List.length_set];exact h.len,h.new⟩
 rw[heap_setCell_same wr N j _ _ _ h.blk]
 simp[byV,List.map_set]
theorem jB.start(w:World):jB w w.heap.size (List.replicate 16 0) (w.alloc (.cells #[.int .u8 0,.int .u8 0,.int .u8 0,.int .u8 0,.int .u8 0,.int .u8 0,.int .u8 0,.int .u8 0,.int .u8 0,.int .u8 0,.int .u8 0,.int .u8 0,.int .u8 0,.int .u8 0,.int .u8 0,.int .u8 0] 260)) :=
 ⟨heap_alloc_new w _,(Below.refl _ _).alloc (Nat.le_refl _) _,by simp,Nat.le_refl _⟩
theorem jB.conv{w wr:World}{N:Nat}{bs:List Int}(h:jB w N bs wr):(convert 206 9 (.slice (some ⟨N,0,none⟩) 16 16)).run Tryz.prog wr=.ok (.string (strOfNums bs)) wr :=
 run_convert_bytes_arg (P:=Tryz.prog) wr 206 5 Tryz.underlying206 Tryz.underlying5 N 0 16 16 bs h.len (fun i hi=>by rw[Nat.zero_add];exact h.cell i hi) 9 Tryz.underlying9
theorem OQ(la:Option Addr)(len cap:Nat)(ts:List (Int × Int))(row:Int)(w:World)(hT:nU w la len ts)(hlen:len≤50)(hr:o8 ts row=false) :
  Calls Tryz.prog 239 #[.slice la len cap,.int .i64 row] w fun e w'=>e=.returned (.tuple #[.string (dG ts row),erV (jL ts row)])∧Below w.heap.size w w':=by
 have e1:jL ts row=1:=by unfold jL;rw[if_neg (by rw[hr];decide)]
 have e2:dG ts row=⟨#[]⟩:=by unfold dG;rw[e1,if_neg (by decide)]
 rw[e2,e1,dM]
 have hl:=hT.1
 have hr':=of_decide_eq_false hr
 rw[hl] at hr'
 clear hT e1 e2 hr hl
 by_cases h32:32<len
 ·have g1:decide (32<(len:Int))=true:=by simp;omega
  clear hr'
  go_enter Tryz.func239,Tryz.ntmps239
  go_wp2
  go_ret2
  exact⟨rfl,Below.refl _ _⟩
 ·have g1:decide (32<(len:Int))=false:=by simp;omega
  have g2:inB row 0 ((aA len:Int)-1)=false:=oG (by omega)
  have g3:aA len≤7:=by unfold aA;omega
  have HR:=ah (pJ len w (by omega))
  generalize aA len=rn at g2 g3 HR
  clear hr'
  go_enter Tryz.func239,Tryz.ntmps239
  go_wp2_with (first|(go_at_call 155;refine HR.out.mono ?_;rintro e w' ⟨rfl,rfl⟩)|(go_at_call 211;refine(gU _ _ _ _).mono ?_;rintro e w' ⟨rfl,rfl⟩))
  go_ret2
  exact⟨rfl,Below.refl _ _⟩
theorem row_in(b off len cap:Nat)(ts:List (Int × Int))(r:Nat)(w:World)(hT:nU w (some ⟨b,off,none⟩) len ts)(hlen:len≤32)(hr:r<aA len)(hcap:len≤cap) :
  Calls Tryz.prog 239 #[.slice (some ⟨b,off,none⟩) len cap,.int .i64 (r:Int)] w fun e w'=>e=.returned (.tuple #[.string (dG ts r),erV (jL ts r)])∧Below w.heap.size w w':=by
 have hin:o8 ts r=true:=decide_eq_true (by rw[hT.1];omega)
 have HR:=ah (pJ len w (by omega))
 have g1:decide (32<(len:Int))=false:=by simp;omega
 have g2:inB r 0 ((aA len:Int)-1)=true:=bU (by omega)
 have hr8:r*8<len:=by unfold aA at hr;omega
 have hrn:aA len≤4:=by unfold aA;omega
 have HT:=ah hT
 have HI:=ah hin
 clear hT hin
 obtain⟨rn,hrn2⟩:∃ rn,rn=aA len:=⟨_,rfl⟩
 rw[← hrn2] at HR g2 hr hrn
 clear hrn2
 obtain⟨cnt,hc1,hc2,hc3⟩:∃ cnt:Nat,cnt≤8∧r*8+cnt≤len∧(cnt=8∨r*8+cnt=len):=by
  by_cases h:r*8+8≤len
  ·exact⟨8,by omega,h,.inl rfl⟩
  ·exact⟨len-r*8,by omega,by omega,.inr (by omega)⟩
 have hcnt:((r:Int)*8+8≤(len:Int)∧((r:Int)*8+8).toNat-r*8=cnt)∨(¬(r:Int)*8+8≤(len:Int)∧len-r*8=cnt):=by omega
 have HE2:Hid (∀ k,k<cnt→bP (ts.getD (r*8+k) (0,0)).1 (ts.getD (r*8+k) (0,0)).2 40=false→erV (jL ts r)=.iface 127 (.int .i64 2)∧dG ts r=⟨#[]⟩):=fun k hk he=>by
  have e1:jL ts r=2:=by unfold jL;rw[if_pos HI.out,if_neg (by rw[show(r:Int).toNat=r from rfl,OT (by omega) he];decide)]
  exact⟨by rw[e1];exact nH,by unfold dG;rw[e1,if_neg (by decide)]⟩
 have HE0:Hid ((∀ k,k<cnt→bP (ts.getD (r*8+k) (0,0)).1 (ts.getD (r*8+k) (0,0)).2 40=true)→erV (jL ts r)=.nilIface∧strOfNums (dO ts r cnt)=dG ts r):=fun h=>by
  have e1:jL ts r=0:=by unfold jL;rw[if_pos HI.out,if_pos (show rowOk ts (r:Int).toNat=true from Ho (by rw[HT.out.1];omega) h)]
  refine⟨by rw[e1];exact aB,?_⟩
  unfold dG
  rw[if_pos e1]
  rcases hc3 with rfl|h3
  ·rfl
  ·rw[Nh ts r cnt (by rw[HT.out.1];omega)];rfl
 clear hc3
 rcases hcnt with⟨h8,hA⟩|⟨h8,hA⟩
 ·have e8:cnt=8:=by omega
  clear hA
  subst e8
  go_enter Tryz.func239,Tryz.ntmps239
  go_wp2_with (first|(go_at_call 155;refine HR.out.mono ?_;rintro e w' ⟨rfl,hw⟩;have hw':=hw.symm;subst hw';clear hw)|(go_at_call 211;refine(gU _ _ _ _).mono ?_;rintro e w' ⟨rfl,hw⟩;have hw':=hw.symm;subst hw';clear hw))
  rw[show r*8+8-r*8=8 by omega]
  clear h8 g1 g2 HR
  go_loopw [34] (fun i wr=>∃ k:Nat,k≤8∧i=.int .i64 k∧jB w w.heap.size (dO ts r k) wr∧∀ j,j<k→bP (ts.getD (r*8+j) (0,0)).1 (ts.getD (r*8+j) (0,0)).2 40=true) (fun i _=>8-(intOf i).toNat)
  case atStart=>exact⟨0,Nat.zero_le _,rfl,by rw[Em];exact jB.start w,fun j hj=>by omega⟩
  case round =>
   obtain⟨k,hk,rfl,hR,hall⟩:=hrel
   by_cases hlt:k<8
   ·obtain⟨b',off',e,h1,h2⟩:=HT.out.2 (r*8+k) (by omega)
    cases e
    rw[← hR.bel.cell (World.block_lt_of_cell? w _ h1),show off+(r*8+k)*2=off+r*8*2+k*2 by omega] at h1
    rw[← hR.bel.cell (World.block_lt_of_cell? w _ h2),show off+(r*8+k)*2+1=off+r*8*2+k*2+1 by omega] at h2
    have HS:Hid (dO ts r (k+1)=((dO ts r k).set (k*2) (ts.getD (r*8+k) (0,0)).1).set (k*2+1) (ts.getD (r*8+k) (0,0)).2):=Dl ts r k
    have HN2:=ah (HE2.out k hlt)
    have hE:=qU (ts.getD (r*8+k) (0,0)).1 (ts.getD (r*8+k) (0,0)).2 (wr.alloc (.cells #[.int .i64 (ts.getD (r*8+k) (0,0)).1,.int .i64 (ts.getD (r*8+k) (0,0)).2] 211))
    cases he:bP (ts.getD (r*8+k) (0,0)).1 (ts.getD (r*8+k) (0,0)).2 40 with
    | false =>
     have HN3:=ah (HN2.out he)
     have HRA:=ah hR
     rw[he] at hE
     have HE:=ah hE
     clear hE he HS HN2 hall hR
     generalize (ts.getD (r*8+k) (0,0)).1=kk at h1 HE
     generalize (ts.getD (r*8+k) (0,0)).2=pp at h2 HE
     go_wp2_with fail
     refine HE.out.mono ?_
     rintro e w2 ⟨rfl,hb2⟩
     go_wp2
     go_ret2
     exact⟨by rw[HN3.out.1,HN3.out.2];rfl,(HRA.out.below (((Below.refl _ _).alloc (Nat.le_refl _) _).trans (hb2.mono (by simp)))).bel⟩
    | true =>
     have HA:Hid (∀ j,j<k+1→bP (ts.getD (r*8+j) (0,0)).1 (ts.getD (r*8+j) (0,0)).2 40=true):=fun j hj=>by
      by_cases e:j=k
      ·rw[e];exact he
      ·exact hall j (by omega)
     have HRA:=ah hR
     have hbd:=iG he
     rw[he] at hE
     have HE:=ah hE
     clear hE he HN2 hall hR
     generalize (ts.getD (r*8+k) (0,0)).1=kk at h1 HE HS hbd
     generalize (ts.getD (r*8+k) (0,0)).2=pp at h2 HE HS hbd
     have k0:0≤kk:=by omega
     have k1:kk<256:=by omega
     have p0:0≤pp:=by omega
     have p1:pp<256:=by omega
     clear hbd
     go_wp2_with fail
     refine HE.out.mono ?_
     rintro e w2 ⟨rfl,hb2⟩
     have hR2:=HRA.out.below (((Below.refl _ _).alloc (Nat.le_refl _) _).trans (hb2.mono (by simp)))
     have b0:w2.cell? ⟨wr.heap.size,0,none⟩=some (.int .i64 kk):=by rw[hb2.cell (by simp),cell_of_row _ _ _ _ _ _ (heap_alloc_new wr _)];rfl
     have b1:w2.cell? ⟨wr.heap.size,1,none⟩=some (.int .i64 pp):=by rw[hb2.cell (by simp),cell_of_row _ _ _ _ _ _ (heap_alloc_new wr _)];rfl
     have c0:=hR2.cell (k*2) (by omega)
     have c1:=hR2.cell (k*2+1) (by omega)
     have f0:=hR2.frozen (k*2)
     have f1:=hR2.frozen (k*2+1)
     have i0:(k:Int)*2<16:=by omega
     have i1:(k:Int)*2+1<16:=by omega
     have HR2:=ah hR2
     clear hR2 hb2 HE h1 h2
     go_wp2
     go_region
     go_wp2
     go_roundw
     case rel =>
      have hs:=(HR2.out.set (k*2) kk).set (k*2+1) pp
      rw[← HS.out] at hs
      have fin:∃ k1:Nat,k1≤8∧Value.int .i64 ((k:Int)+1)=.int .i64 k1∧jB w w.heap.size (dO ts r k1) ((w2.setCell ⟨w.heap.size,k*2,none⟩ (.int .u8 kk)).setCell ⟨w.heap.size,k*2+1,none⟩ (.int .u8 pp)).drew∧∀ j,j<k1→bP (ts.getD (r*8+j) (0,0)).1 (ts.getD (r*8+j) (0,0)).2 40=true:=⟨k+1,by omega,by go_num,hs.below ((Below.refl _ _).drew),HA.out⟩
      first|exact fin|((repeat apply Exists.intro);exact⟨fin,rfl⟩)
     case measure=>simp[intOf];omega
   ·have hkn:k=8:=by omega
    subst hkn
    have HN0:=ah (HE0.out hall)
    have hcv:=hR.conv
    have HRB:=ah hR.bel
    rw[HN0.out.2] at hcv
    clear hR hall
    go_wp2
    go_ret2
    exact⟨by rw[HN0.out.1];rfl,HRB.out⟩
 ·have HAA:=ah hA
  clear hA
  go_enter Tryz.func239,Tryz.ntmps239
  go_wp2_with (first|(go_at_call 155;refine HR.out.mono ?_;rintro e w' ⟨rfl,hw⟩;have hw':=hw.symm;subst hw';clear hw)|(go_at_call 211;refine(gU _ _ _ _).mono ?_;rintro e w' ⟨rfl,hw⟩;have hw':=hw.symm;subst hw';clear hw))
  rw[HAA.out]
  clear h8 HAA g1 g2 HR
  go_loopw [34] (fun i wr=>∃ k:Nat,k≤cnt∧i=.int .i64 k∧jB w w.heap.size (dO ts r k) wr∧∀ j,j<k→bP (ts.getD (r*8+j) (0,0)).1 (ts.getD (r*8+j) (0,0)).2 40=true) (fun i _=>cnt-(intOf i).toNat)
  case atStart=>exact⟨0,Nat.zero_le _,rfl,by rw[Em];exact jB.start w,fun j hj=>by omega⟩
  case round =>
   obtain⟨k,hk,rfl,hR,hall⟩:=hrel
   by_cases hlt:k<cnt
   ·obtain⟨b',off',e,h1,h2⟩:=HT.out.2 (r*8+k) (by omega)
    cases e
    rw[← hR.bel.cell (World.block_lt_of_cell? w _ h1),show off+(r*8+k)*2=off+r*8*2+k*2 by omega] at h1
    rw[← hR.bel.cell (World.block_lt_of_cell? w _ h2),show off+(r*8+k)*2+1=off+r*8*2+k*2+1 by omega] at h2
    have HS:Hid (dO ts r (k+1)=((dO ts r k).set (k*2) (ts.getD (r*8+k) (0,0)).1).set (k*2+1) (ts.getD (r*8+k) (0,0)).2):=Dl ts r k
    have HN2:=ah (HE2.out k hlt)
    have hE:=qU (ts.getD (r*8+k) (0,0)).1 (ts.getD (r*8+k) (0,0)).2 (wr.alloc (.cells #[.int .i64 (ts.getD (r*8+k) (0,0)).1,.int .i64 (ts.getD (r*8+k) (0,0)).2] 211))
    cases he:bP (ts.getD (r*8+k) (0,0)).1 (ts.getD (r*8+k) (0,0)).2 40 with
    | false =>
     have HN3:=ah (HN2.out he)
     have HRA:=ah hR
     rw[he] at hE
     have HE:=ah hE
     clear hE he HS HN2 hall hR
     generalize (ts.getD (r*8+k) (0,0)).1=kk at h1 HE
     generalize (ts.getD (r*8+k) (0,0)).2=pp at h2 HE
     go_wp2_with fail
     refine HE.out.mono ?_
     rintro e w2 ⟨rfl,hb2⟩
     go_wp2
     go_ret2
     exact⟨by rw[HN3.out.1,HN3.out.2];rfl,(HRA.out.below (((Below.refl _ _).alloc (Nat.le_refl _) _).trans (hb2.mono (by simp)))).bel⟩
    | true =>
     have HA:Hid (∀ j,j<k+1→bP (ts.getD (r*8+j) (0,0)).1 (ts.getD (r*8+j) (0,0)).2 40=true):=fun j hj=>by
      by_cases e:j=k
      ·rw[e];exact he
      ·exact hall j (by omega)
     have HRA:=ah hR
     have hbd:=iG he
     rw[he] at hE
     have HE:=ah hE
     clear hE he HN2 hall hR
     generalize (ts.getD (r*8+k) (0,0)).1=kk at h1 HE HS hbd
     generalize (ts.getD (r*8+k) (0,0)).2=pp at h2 HE HS hbd
     have k0:0≤kk:=by omega
     have k1:kk<256:=by omega
     have p0:0≤pp:=by omega
     have p1:pp<256:=by omega
     clear hbd
     go_wp2_with fail
     refine HE.out.mono ?_
     rintro e w2 ⟨rfl,hb2⟩
     have hR2:=HRA.out.below (((Below.refl _ _).alloc (Nat.le_refl _) _).trans (hb2.mono (by simp)))
     have b0:w2.cell? ⟨wr.heap.size,0,none⟩=some (.int .i64 kk):=by rw[hb2.cell (by simp),cell_of_row _ _ _ _ _ _ (heap_alloc_new wr _)];rfl
     have b1:w2.cell? ⟨wr.heap.size,1,none⟩=some (.int .i64 pp):=by rw[hb2.cell (by simp),cell_of_row _ _ _ _ _ _ (heap_alloc_new wr _)];rfl
     have c0:=hR2.cell (k*2) (by omega)
     have c1:=hR2.cell (k*2+1) (by omega)
     have f0:=hR2.frozen (k*2)
     have f1:=hR2.frozen (k*2+1)
     have i0:(k:Int)*2<16:=by omega
     have i1:(k:Int)*2+1<16:=by omega
     have HR2:=ah hR2
     clear hR2 hb2 HE h1 h2
     go_wp2
     go_region
     go_wp2
     go_roundw
     case rel =>
      have hs:=(HR2.out.set (k*2) kk).set (k*2+1) pp
      rw[← HS.out] at hs
      have fin:∃ k1:Nat,k1≤cnt∧Value.int .i64 ((k:Int)+1)=.int .i64 k1∧jB w w.heap.size (dO ts r k1) ((w2.setCell ⟨w.heap.size,k*2,none⟩ (.int .u8 kk)).setCell ⟨w.heap.size,k*2+1,none⟩ (.int .u8 pp)).drew∧∀ j,j<k1→bP (ts.getD (r*8+j) (0,0)).1 (ts.getD (r*8+j) (0,0)).2 40=true:=⟨k+1,by omega,by go_num,hs.below ((Below.refl _ _).drew),HA.out⟩
      first|exact fin|((repeat apply Exists.intro);exact⟨fin,rfl⟩)
     case measure=>simp[intOf];omega
   ·have hkn:k=cnt:=by omega
    subst hkn
    have HN0:=ah (HE0.out hall)
    have hcv:=hR.conv
    have HRB:=ah hR.bel
    rw[HN0.out.2] at hcv
    clear hR hall
    go_wp2
    go_ret2
    exact⟨by rw[HN0.out.1];rfl,HRB.out⟩
theorem Sv(la:Option Addr)(len cap:Nat)(ts:List (Int × Int))(row:Int)(w:World)(hT:nU w la len ts)(hlen:len≤50)(hcap:len≤cap) :
  Calls Tryz.prog 239 #[.slice la len cap,.int .i64 row] w fun e w'=>e=.returned (.tuple #[.string (dG ts row),erV (jL ts row)])∧Below w.heap.size w w':=by
 cases hr:o8 ts row with
 | false=>exact OQ la len cap ts row w hT hlen hr
 | true =>
  have hr':=of_decide_eq_true hr
  obtain⟨r,rfl⟩:=Int.eq_ofNat_of_zero_le hr'.2.1
  rw[hT.1] at hr'
  have hpos:0<len:=by
   rcases Nat.eq_zero_or_pos len with h|h
   ·subst h;simp[aA] at hr';omega
   ·exact h
  obtain⟨b,off,rfl,_⟩:=hT.2 0 hpos
  exact row_in b off len cap ts r w hT hr'.1 (by omega) hcap
end Go.Proofs.YtonhoahnieoebabGreatDoor
