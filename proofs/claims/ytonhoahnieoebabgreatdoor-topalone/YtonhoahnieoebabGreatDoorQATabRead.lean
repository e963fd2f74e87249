/- The next entry of a table that is being read (C2), in the program: what take gives. -/
import Derived.Test.YtonhoahnieoebabGreatDoorQAImgDefs
set_option maxHeartbeats 1000000
set_option maxRecDepth 100000
namespace Go.Proofs.YtonhoahnieoebabGreatDoor
open Go.RowKit
attribute [local go_sem ↓] Go.wp_at_zero Go.wp_at_succ
theorem SI{B N:Nat}{h:HV}{v:Value}{acc:List (Int × Int)}{tk:List Bool}(k p:Int)(w:World)(ht:dZ B w N h v acc tk)(hf:(acc.length:Int)=h.c) :
  Calls Tryz.prog 288 #[.pointer (some ⟨N,0,none⟩),.agg #[.int .i64 k,.int .i64 p]] w fun e w'=>e=.returned (.bool (decide (k=0∧p=0)))∧Below w.heap.size w w':=by
 obtain⟨c0,c1,c3,f3⟩:=(ht.below ((Below.refl w.heap.size w).alloc (Nat.le_refl _) (.cells #[.int .i64 k,.int .i64 p] 211))).cells;obtain⟨a,cap,hv⟩:=ht.form;rw[hv] at c3;rw[← hf] at c0;clear ht hv f3 c1 hf;go_enter Tryz.func288,Tryz.ntmps288
 go_wp2
 go_quiet (fail)
 by_cases hk:k=0
 ·by_cases hp:p=0
  ·subst hk hp
   go_wp2
   go_ret
   exact⟨by simp,below_drewN ((Below.refl _ _).alloc (Nat.le_refl _) _) _⟩
  ·obtain⟨v1,v2⟩:=jL hp
   subst hk;go_wp2
   go_ret
   exact⟨by simp,below_drewN ((Below.refl _ _).alloc (Nat.le_refl _) _) _⟩
 ·obtain⟨v1,v2⟩:=jL hk
  go_wp2
  go_ret
  exact⟨by simp[hk],below_drewN ((Below.refl _ _).alloc (Nat.le_refl _) _) _⟩
theorem SL{B N:Nat}{h:HV}{v:Value}{acc:List (Int × Int)}{tk:List Bool}(k p:Int)(w:World)(ht:dZ B w N h v acc tk)(hf:(acc.length:Int)≠h.c)(he:bM k p 40=false) :
  Calls Tryz.prog 288 #[.pointer (some ⟨N,0,none⟩),.agg #[.int .i64 k,.int .i64 p]] w fun e w'=>e=.returned (.bool false)∧Below w.heap.size w w':=by
 obtain⟨c0,c1,c3,f3⟩:=(ht.below ((Below.refl w.heap.size w).alloc (Nat.le_refl _) (.cells #[.int .i64 k,.int .i64 p] 211))).cells;obtain⟨a,cap,hv⟩:=ht.form;rw[hv] at c3;obtain⟨n1,n2⟩:=jL hf;have HE:Hid (∀ W:World,Calls Tryz.prog 271 #[.agg #[.int .i64 k,.int .i64 p]] W fun e w'=>e=.returned (.bool false)∧Below W.heap.size W w'):=fun W=>by have:=rJ k p W;rw[he] at this;exact this
 clear ht hv f3 c1 hf he;go_enter Tryz.func288,Tryz.ntmps288
 go_wp2
 go_quiet (fail)
 go_wp2_with fail
 refine(HE.out _).mono ?_;rintro e w2 ⟨rfl,hb2⟩;go_wp2
 go_ret
 have h1:=below_drewN ((Below.refl w.heap.size w).alloc (Nat.le_refl _) (.cells #[.int .i64 k,.int .i64 p] 211)) nq;exact⟨rfl,h1.trans (hb2.mono h1.size)⟩
theorem SN{B N:Nat}{h:HV}{v:Value}{acc:List (Int × Int)}{tk:List Bool}(k p:Int)(w:World)(ht:dZ B w N h v acc tk)(hf:(acc.length:Int)≠h.c)(hl:acc.length≤32)(he:bM k p 40=true)(hk:k≠2) :
    Calls Tryz.prog 288 #[.pointer (some ⟨N,0,none⟩),.agg #[.int .i64 k,.int .i64 p]] w fun e w'=>∃ v',e=.returned (.bool true)∧dZ B w' N h v' (acc++[(k,p)]) tk∧Below B w w':=by
  have ht1:=ht.below ((Below.refl w.heap.size w).alloc (Nat.le_refl _) (.cells #[.int .i64 k,.int .i64 p] 211));obtain⟨c0,c1,c3,f3⟩:=ht1.cells;obtain⟨i0,hi0,hz0,hz1,hz2⟩:=info_parts zu;obtain⟨a,cap,hv⟩:=ht.form;subst hv;obtain⟨n1,n2⟩:=jL hf;obtain⟨k1,k2⟩:=jL hk;have HE:Hid (∀ W:World,Calls Tryz.prog 271 #[.agg #[.int .i64 k,.int .i64 p]] W fun e w'=>e=.returned (.bool true)∧Below W.heap.size W w'):=fun W=>by have:=rJ k p W;rw[he] at this;exact this
  have HT1:=ah ht1;have HB0:Hid (B≤w.heap.size):=by unfold Hid;have:=ht.pB;have:=lG ht.blk;omega
  clear ht ht1 f3 c1 hf he hk;go_enter Tryz.func288,Tryz.ntmps288
  go_wp2
  go_quiet (fail)
  go_wp2_with fail
  refine(HE.out _).mono ?_;rintro e w2 ⟨rfl,hb2⟩;clear c0 c3;have h1:=below_drewN ((Below.refl w.heap.size w).alloc (Nat.le_refl _) (.cells #[.int .i64 k,.int .i64 p] 211)) nq;have HBA:Hid (Below w.heap.size w w2):=h1.trans (hb2.mono h1.size);have ht2:=(HT1.out.below (below_drewN (Below.refl _ _) nq)).below hb2;obtain⟨c0,c1,c3,f3⟩:=ht2.cells;have b0:w2.cell? ⟨w.heap.size,0,none⟩=some (.int .i64 k):=by rw[hb2.cell (by simp),World.cell?_drewN,cell_of_row _ _ _ _ _ _ (heap_alloc_new w _)];rfl
  have b1:w2.cell? ⟨w.heap.size,1,none⟩=some (.int .i64 p):=by rw[hb2.cell (by simp),World.cell?_drewN,cell_of_row _ _ _ _ _ _ (heap_alloc_new w _)];rfl
  have ht3:=ht2.below ((Below.refl _ _).drew);have HT3:=ah ht3;have HOW:Hid ((w2.alloc (.cells #[.int .i64 k,.int .i64 p] 211)).drew.ownsRow B 211 2 (.slice a acc.length cap) acc.length (fB acc)):=ht3.own.alloc _;have HSZ:Hid ((w2.alloc (.cells #[.int .i64 k,.int .i64 p] 211)).drew.heap.size=w2.heap.size+1):=by unfold Hid;simp
  have HBS:Hid (B≤(w2.alloc (.cells #[.int .i64 k,.int .i64 p] 211)).drew.heap.size):=by unfold Hid;rw[HSZ.out];have:=ht3.pB;have:=lG ht2.blk;omega
  have HBW:Hid (B≤w2.heap.size):=by unfold Hid;have:=ht3.pB;have:=lG ht2.blk;omega
  have HNL:Hid (N<w2.heap.size):=lG ht2.blk;have hEl:w.heap.size<w2.heap.size:=World.block_lt_of_cell? w2 _ b0;have a3:(w2.alloc (.cells #[.int .i64 k,.int .i64 p] 211)).cell? ⟨N,3,none⟩=some (.slice a acc.length cap):=by rw[World.cell?_alloc_past _ _ _ HNL.out];exact c3
  clear ht2 ht3 hb2 h1 c0 c1;go_wp2
  go_region_law (refine step_append_lies _ (by rfl) _ _ 128 (by rfl) B 211 i0 (.agg #[.int .i64 0,.int .i64 0]) 2 16 Tryz.underlying128 hi0 hz0 hz1 hz2 rfl (by decide) (.slice a acc.length cap) acc.length (fB acc) (by rfl) HOW.out ⟨w2.heap.size,0,none⟩ 1 1 [.int .i64 k,.int .i64 p] (by rfl) (by rfl) (Gv _ _ _ _) (fun u hu=>by simp at hu;rcases hu with rfl|rfl<;>rfl) (by decide) (by unfold maxLen;omega) (by omega) HBS.out (w2.heap.size+1) HSZ.out ?_;intro g cap2 w3 hown hgrow hat hlt2
                 have hp:=HT3.out.push k p g cap2 (.cells #[.int .i64 k,.int .i64 p] 211) hown hgrow;have s3:=hp.2.1;have fs:=hp.2.2;have HP:Hid (dZ B (w3.setCell ⟨N,3,none⟩ (.slice (some ⟨g,0,none⟩) (acc.length+1) cap2)) N h (.slice (some ⟨g,0,none⟩) (acc.length+1) cap2) (acc++[(k,p)]) tk):=hp.1;have HB3:Hid (Below B w (w3.setCell ⟨N,3,none⟩ (.slice (some ⟨g,0,none⟩) (acc.length+1) cap2))):=(((((HBA.out.mono HB0.out).alloc HBW.out _).drew).grown hgrow HBS.out (fun r e=>(HT3.out.own.lt r e).1)).setCell HT3.out.pB _)
                 clear hp hown hgrow hat hlt2)
  all_goals
    go_wp2
    go_ret
    exact⟨_,rfl,HP.out,HB3.out⟩
theorem SE{B N:Nat}{h:HV}{v:Value}{acc:List (Int × Int)}{tk:List Bool}(q:Nat)(w:World)(ht:dZ B w N h v acc tk)(hf:(acc.length:Int)≠h.c)(hl:acc.length≤32)(hq:q<40)(hqp:(q:Int)<h.p)(hb:tk.getD q false=false) :
    Calls Tryz.prog 288 #[.pointer (some ⟨N,0,none⟩),.agg #[.int .i64 2,.int .i64 (q:Int)]] w fun e w'=>∃ v',e=.returned (.bool true)∧dZ B w' N h v' (acc++[(2,(q:Int))]) (tk.set q true)∧Below B w w':=by
  have ht1:=ht.below ((Below.refl w.heap.size w).alloc (Nat.le_refl _) (.cells #[.int .i64 2,.int .i64 (q:Int)] 211));obtain⟨c0,c1,c3,f3⟩:=ht1.cells;obtain⟨i0,hi0,hz0,hz1,hz2⟩:=info_parts zu;obtain⟨a,cap,hv⟩:=ht.form;subst hv;obtain⟨n1,n2⟩:=jL hf;have he:bM 2 (q:Int) 40=true:=kS (.inl ⟨rfl,by omega,by omega⟩)
  have gq:decide (h.p≤(q:Int))=false:=decide_eq_false (by omega)
  have q0:(0:Int)≤(q:Int):=by omega
  have q1:(q:Int)<40:=by omega
  have HE:Hid (∀ W:World,Calls Tryz.prog 271 #[.agg #[.int .i64 2,.int .i64 (q:Int)]] W fun e w'=>e=.returned (.bool true)∧Below W.heap.size W w'):=fun W=>by have:=rJ 2 (q:Int) W;rw[he] at this;exact this
  have HT1:=ah ht1;have HB0:Hid (B≤w.heap.size):=by unfold Hid;have:=ht.pB;have:=lG ht.blk;omega
  have hNw:N<w.heap.size:=lG ht.blk;clear ht ht1 f3 c1 hf he hqp;go_enter Tryz.func288,Tryz.ntmps288
  go_wp2
  go_quiet (fail)
  go_wp2_with fail
  refine(HE.out _).mono ?_;rintro e w2 ⟨rfl,hb2⟩;clear c0 c3;have h1:=below_drewN ((Below.refl w.heap.size w).alloc (Nat.le_refl _) (.cells #[.int .i64 2,.int .i64 (q:Int)] 211)) nq;have HBA:Hid (Below w.heap.size w w2):=h1.trans (hb2.mono h1.size);have ht2:=(HT1.out.below (below_drewN (Below.refl _ _) nq)).below hb2;obtain⟨c0,c1,c3,f3⟩:=ht2.cells;have b0:w2.cell? ⟨w.heap.size,0,none⟩=some (.int .i64 2):=by rw[hb2.cell (by simp),World.cell?_drewN,cell_of_row _ _ _ _ _ _ (heap_alloc_new w _)];rfl
  have b1:w2.cell? ⟨w.heap.size,1,none⟩=some (.int .i64 (q:Int)):=by rw[hb2.cell (by simp),World.cell?_drewN,cell_of_row _ _ _ _ _ _ (heap_alloc_new w _)];rfl
  have hbt:=ht2.bit q hq;rw[hb] at hbt;obtain⟨bt,fb⟩:=hbt;have HT2:=ah ht2;clear ht2 hb2 h1 c0;go_wp2
  go_quiet (fail)
  go_wp2
  go_region
  have ht4:=(HT2.out.below (below_drewN (Below.refl _ _) (nq+1))).Q5 q hq;have HBA4:Hid (Below B w ((w2.drewN (nq+1)).setCell ⟨N,4+q,none⟩ (.bool true))):=(below_drewN (HBA.out.mono HB0.out) _).setCell ht4.pB _
  have b0':((w2.drewN (nq+1)).setCell ⟨N,4+q,none⟩ (.bool true)).cell? ⟨w.heap.size,0,none⟩=some (.int .i64 2):=by
    rw[World.cell?_setCell_other _ _ _ _ (fun e=>by have:=congrArg Addr.block e;simp at this;omega),World.cell?_drewN];exact b0
  have b1':((w2.drewN (nq+1)).setCell ⟨N,4+q,none⟩ (.bool true)).cell? ⟨w.heap.size,1,none⟩=some (.int .i64 (q:Int)):=by
    rw[World.cell?_setCell_other _ _ _ _ (fun e=>by have:=congrArg Addr.block e;simp at this;omega),World.cell?_drewN];exact b1
  clear b0 b1 bt fb c3 f3;generalize (w2.drewN (nq+1)).setCell ⟨N,4+q,none⟩ (.bool true)=w4 at ht4 HBA4 b0' b1' ⊢;obtain⟨c0,c1,c3,f3⟩:=ht4.cells;have ht3:=ht4.below ((Below.refl _ _).drew);have HT3:=ah ht3;have HOW:Hid ((w4.alloc (.cells #[.int .i64 2,.int .i64 (q:Int)] 211)).drew.ownsRow B 211 2 (.slice a acc.length cap) acc.length (fB acc)):=ht3.own.alloc _;have HSZ:Hid ((w4.alloc (.cells #[.int .i64 2,.int .i64 (q:Int)] 211)).drew.heap.size=w4.heap.size+1):=by unfold Hid;simp
  have HBS:Hid (B≤(w4.alloc (.cells #[.int .i64 2,.int .i64 (q:Int)] 211)).drew.heap.size):=by unfold Hid;rw[HSZ.out];have:=ht3.pB;have:=lG ht4.blk;omega
  have HBW:Hid (B≤w4.heap.size):=by unfold Hid;have:=ht3.pB;have:=lG ht4.blk;omega
  have HNL:Hid (N<w4.heap.size):=lG ht4.blk;have hEl:w.heap.size<w4.heap.size:=World.block_lt_of_cell? w4 _ b0';have a3:(w4.alloc (.cells #[.int .i64 2,.int .i64 (q:Int)] 211)).cell? ⟨N,3,none⟩=some (.slice a acc.length cap):=by rw[World.cell?_alloc_past _ _ _ HNL.out];exact c3
  clear ht4 ht3 c0 c1;go_wp2
  go_region_law (refine step_append_lies _ (by rfl) _ _ 128 (by rfl) B 211 i0 (.agg #[.int .i64 0,.int .i64 0]) 2 16 Tryz.underlying128 hi0 hz0 hz1 hz2 rfl (by decide) (.slice a acc.length cap) acc.length (fB acc) (by rfl) HOW.out ⟨w4.heap.size,0,none⟩ 1 1 [.int .i64 2,.int .i64 (q:Int)] (by rfl) (by rfl) (Gv _ _ _ _) (fun u hu=>by simp at hu;rcases hu with rfl|rfl<;>rfl) (by decide) (by unfold maxLen;omega) (by omega) HBS.out (w4.heap.size+1) HSZ.out ?_;intro g cap2 w3 hown hgrow hat hlt2
                 have hp:=HT3.out.push 2 (q:Int) g cap2 (.cells #[.int .i64 2,.int .i64 (q:Int)] 211) hown hgrow;have s3:=hp.2.1;have fs:=hp.2.2;have HP:Hid (dZ B (w3.setCell ⟨N,3,none⟩ (.slice (some ⟨g,0,none⟩) (acc.length+1) cap2)) N h (.slice (some ⟨g,0,none⟩) (acc.length+1) cap2) (acc++[(2,(q:Int))]) (tk.set q true)):=hp.1;have HB3:Hid (Below B w (w3.setCell ⟨N,3,none⟩ (.slice (some ⟨g,0,none⟩) (acc.length+1) cap2))):=((((HBA4.out.alloc HBW.out _).drew).grown hgrow HBS.out (fun r e=>(HT3.out.own.lt r e).1)).setCell HT3.out.pB _)
                 clear hp hown hgrow hat hlt2)
  all_goals
    go_wp2
    go_ret
    exact⟨_,rfl,HP.out,HB3.out⟩
theorem SS{B N:Nat}{h:HV}{v:Value}{acc:List (Int × Int)}{tk:List Bool}(q:Nat)(w:World)(ht:dZ B w N h v acc tk)(hf:(acc.length:Int)≠h.c)(hq:q<40)(hb:h.p≤(q:Int)∨((q:Int)<h.p∧tk.getD q false=true)) :
  Calls Tryz.prog 288 #[.pointer (some ⟨N,0,none⟩),.agg #[.int .i64 2,.int .i64 (q:Int)]] w fun e w'=>e=.returned (.bool false)∧Below w.heap.size w w':=by
 have ht1:=ht.below ((Below.refl w.heap.size w).alloc (Nat.le_refl _) (.cells #[.int .i64 2,.int .i64 (q:Int)] 211));obtain⟨c0,c1,c3,f3⟩:=ht1.cells;obtain⟨a,cap,hv⟩:=ht.form;subst hv;obtain⟨n1,n2⟩:=jL hf;have he:bM 2 (q:Int) 40=true:=kS (.inl ⟨rfl,by omega,by omega⟩)
 have q0:(0:Int)≤(q:Int):=by omega
 have q1:(q:Int)<40:=by omega
 have HE:Hid (∀ W:World,Calls Tryz.prog 271 #[.agg #[.int .i64 2,.int .i64 (q:Int)]] W fun e w'=>e=.returned (.bool true)∧Below W.heap.size W w'):=fun W=>by have:=rJ 2 (q:Int) W;rw[he] at this;exact this
 have HT1:=ah ht1;clear ht ht1 f3 c1 hf he;rcases hb with hb|⟨hb1,hb2⟩
 ·have gq:decide (h.p≤(q:Int))=true:=decide_eq_true hb
  go_enter Tryz.func288,Tryz.ntmps288
  go_wp2
  go_quiet (fail)
  go_wp2_with fail
  refine(HE.out _).mono ?_;rintro e w2 ⟨rfl,hb2⟩;clear c0 c3;have h1:=below_drewN ((Below.refl w.heap.size w).alloc (Nat.le_refl _) (.cells #[.int .i64 2,.int .i64 (q:Int)] 211)) nq;have HBA:Hid (Below w.heap.size w w2):=h1.trans (hb2.mono h1.size);have ht2:=(HT1.out.below (below_drewN (Below.refl _ _) nq)).below hb2;obtain⟨c0,c1,c3,f3⟩:=ht2.cells;have b0:w2.cell? ⟨w.heap.size,0,none⟩=some (.int .i64 2):=by rw[hb2.cell (by simp),World.cell?_drewN,cell_of_row _ _ _ _ _ _ (heap_alloc_new w _)];rfl
  have b1:w2.cell? ⟨w.heap.size,1,none⟩=some (.int .i64 (q:Int)):=by rw[hb2.cell (by simp),World.cell?_drewN,cell_of_row _ _ _ _ _ _ (heap_alloc_new w _)];rfl
  clear ht2 hb2 h1;go_wp2
  go_quiet (fail)
  go_wp2
  go_ret
  exact⟨rfl,below_drewN HBA.out _⟩
 ·have gq:decide (h.p≤(q:Int))=false:=decide_eq_false (by omega)
  go_enter Tryz.func288,Tryz.ntmps288
  go_wp2
  go_quiet (fail)
  go_wp2_with fail
  refine(HE.out _).mono ?_;rintro e w2 ⟨rfl,hbb⟩;clear c0 c3;have h1:=below_drewN ((Below.refl w.heap.size w).alloc (Nat.le_refl _) (.cells #[.int .i64 2,.int .i64 (q:Int)] 211)) nq;have HBA:Hid (Below w.heap.size w w2):=h1.trans (hbb.mono h1.size);have ht2:=(HT1.out.below (below_drewN (Below.refl _ _) nq)).below hbb;obtain⟨c0,c1,c3,f3⟩:=ht2.cells;have hbt:=ht2.bit q hq;rw[hb2] at hbt;obtain⟨bt,fb⟩:=hbt;have b0:w2.cell? ⟨w.heap.size,0,none⟩=some (.int .i64 2):=by rw[hbb.cell (by simp),World.cell?_drewN,cell_of_row _ _ _ _ _ _ (heap_alloc_new w _)];rfl
  have b1:w2.cell? ⟨w.heap.size,1,none⟩=some (.int .i64 (q:Int)):=by rw[hbb.cell (by simp),World.cell?_drewN,cell_of_row _ _ _ _ _ _ (heap_alloc_new w _)];rfl
  clear ht2 hbb h1;go_wp2
  go_quiet (fail)
  go_wp2
  go_ret
  exact⟨rfl,below_drewN HBA.out _⟩
theorem take_any{B N:Nat}{h:HV}{v:Value}{acc:List (Int × Int)}(k p:Int)(w:World)(ht:dZ B w N h v acc (dK acc))(hok:h.ok=true)(hl:(acc.length:Int)≤h.c) :
  Calls Tryz.prog 288 #[.pointer (some ⟨N,0,none⟩),.agg #[.int .i64 k,.int .i64 p]] w fun e w' =>
   ∃ v',e=.returned (.bool (stepT h acc (k,p)).isSome)∧(∀ acc',stepT h acc (k,p)=some acc'→dZ B w' N h v' acc' (dK acc'))∧Below B w w':=by
 have hb:=HV.fE hok;have hB:B≤w.heap.size:=by have:=ht.pB;have:=lG ht.blk;omega
 by_cases hf:(acc.length:Int)=h.c
 ·refine(SI k p w ht hf).mono ?_
  rintro e w' ⟨rfl,hbel⟩;by_cases hz:k=0∧p=0
  ·have e1:stepT h acc (k,p)=some acc:=by unfold stepT;rw[if_pos hf,if_pos (by rw[hz.1,hz.2])]
   exact⟨v,by rw[e1,decide_eq_true hz];rfl,fun acc' e2=>by rw[e1] at e2;cases e2;exact ht.below hbel,hbel.mono hB⟩
  ·have e1:stepT h acc (k,p)=none:=by unfold stepT;rw[if_pos hf,if_neg (fun e=>hz ⟨congrArg Prod.fst e,congrArg Prod.snd e⟩)]
   exact⟨v,by rw[e1,decide_eq_false hz];rfl,(fun acc' e2=>by rw[e1] at e2;cases e2),hbel.mono hB⟩
 ·cases he:bM k p 40 with
  | false =>
   have hn:=Kv he
   have e1:stepT h acc (k,p)=none:=by
    unfold stepT;rw[if_neg hf,if_neg (fun e=>hn (by have:=iK e.1;simp only at this;omega))]
   refine(SL k p w ht hf he).mono ?_;rintro e w' ⟨rfl,hbel⟩;exact⟨v,by rw[e1];rfl,(fun acc' e2=>by rw[e1] at e2;cases e2),hbel.mono hB⟩
  | true =>
   have hy:=iK he;by_cases hk:k=2
   ·subst hk
    obtain⟨q,rfl⟩:∃ q:Nat,p=(q:Int):=⟨p.toNat,by omega⟩
    have hq:q<40:=by omega
    by_cases hc:h.p≤(q:Int)∨((q:Int)<h.p∧(dK acc).getD q false=true)
    ·have e1:stepT h acc (2,(q:Int))=none:=by
      unfold stepT;rw[if_neg hf,if_neg];rintro⟨h1,h2⟩;rcases hc with hc|⟨_,hc⟩
      ·have:=iK h1;simp only at this;omega
      ·rw[AB acc q hq] at hc
       exact h2 ⟨rfl,of_decide_eq_true hc⟩
     refine(SS q w ht hf hq hc).mono ?_;rintro e w' ⟨rfl,hbel⟩;exact⟨v,by rw[e1];rfl,(fun acc' e2=>by rw[e1] at e2;cases e2),hbel.mono hB⟩
    ·have hqp:(q:Int)<h.p:=by omega
     have hbit:(dK acc).getD q false=false:=by
      cases hx:(dK acc).getD q false with
      | false=>rfl
      | true=>exact absurd (.inr ⟨hqp,hx⟩) hc
     have e1:stepT h acc (2,(q:Int))=some (acc++[(2,(q:Int))]):=by
      unfold stepT;rw[if_neg hf,if_pos];refine⟨kS (.inl ⟨rfl,by omega,hqp⟩),fun e=>?_⟩
      rw[AB acc q hq] at hbit;exact of_decide_eq_false hbit e.2
     refine(SE q w ht hf (by omega) hq hqp hbit).mono ?_
     rintro e w' ⟨v',rfl,ht',hbel⟩;exact⟨v',by rw[e1];rfl,fun acc' e2=>by rw[e1] at e2;cases e2;rw[Gp acc q hq];exact ht',hbel⟩
   ·have e1:stepT h acc (k,p)=some (acc++[(k,p)]):=by
     unfold stepT;rw[if_neg hf,if_pos];exact⟨kS (by show(k=2∧0≤p∧p<h.p)∨((k=0∨k=1)∧p=0);omega),fun e=>hk e.1⟩
    refine(SN k p w ht hf (by omega) he hk).mono ?_
    rintro e w' ⟨v',rfl,ht',hbel⟩;exact⟨v',by rw[e1];rfl,fun acc' e2=>by rw[e1] at e2;cases e2;rw[Gs acc k p hk];exact ht',hbel⟩
theorem Qg{N:Nat}(s:ByteArray)(w:World)(hs:s.size≠16) :
  Calls Tryz.prog 279 #[.pointer (some ⟨N,0,none⟩),.string s] w fun e w'=>e=.returned (.iface 127 (.int .i64 1))∧w'=w:=by
 have g1:((s.size:Int) != 16)=true:=by simp;omega
 clear hs;go_enter Tryz.func279,Tryz.ntmps279
 go_wp2
 go_ret
 exact⟨rfl,rfl⟩
def oN(h:HV)(acc:List (Int × Int))(s:ByteArray):Value:=if (iG h acc s 8).isSome then .nilIface else .iface 127 (.int .i64 2)
theorem Qe{B N:Nat}{h:HV}{v:Value}{acc:List (Int × Int)}(s:ByteArray)(w:World)(hs:s.size=16)(ht:dZ B w N h v acc (dK acc))(hok:h.ok=true)(hl:(acc.length:Int)≤h.c) :
  Calls Tryz.prog 279 #[.pointer (some ⟨N,0,none⟩),.string s] w fun e w' =>
   ∃ v',e=.returned (oN h acc s)∧(∀ acc',iG h acc s 8=some acc'→dZ B w' N h v' acc' (dK acc'))∧Below B w w':=by
 have g1:((s.size:Int) != 16)=false:=by simp;omega
 have HS:=ah hs;have HT:=ah ht;clear hs ht;go_enter Tryz.func279,Tryz.ntmps279
 go_wp2
 clear g1;go_loopw [11] (fun i wr=>∃(k:Nat) (a:List (Int × Int)) (v1:Value),k≤8∧i=.int .i64 k∧iG h acc s k=some a∧dZ B wr N h v1 a (dK a)∧Below B w wr) (fun i _=>8-(intOf i).toNat)
 case atStart=>exact⟨0,acc,v,Nat.zero_le _,rfl,rfl,HT.out,Below.refl _ _⟩
 case round =>
  obtain⟨k,a,v1,hk,rfl,hst,htr,hbel⟩:=hrel;have hal:=ER hl k a hst;have hB:B≤wr.heap.size:=by have:=htr.pB;have:=lG htr.blk;omega
  by_cases hlt:k<8
  ·have hst2:=xH hst
   have i0:k*2<s.size:=by rw[HS.out];omega
   have i1:k*2+1<s.size:=by rw[HS.out];omega
   have x0:=oz s (k*2) i0;have x1:=oz s (k*2+1) i1;have HST:Hid (iG h acc s (k+1)=stepT h a (bAt s (k*2),bAt s (k*2+1))):=hst2;obtain⟨l0,u0⟩:=fK s (k*2);obtain⟨l1,u1⟩:=fK s (k*2+1);generalize bAt s (k*2)=y0 at x0 HST l0 u0;generalize bAt s (k*2+1)=y1 at x1 HST l1 u1;have j0:(k:Int)*2<(s.size:Int):=by omega
   have j1:(k:Int)*2+1<(s.size:Int):=by omega
   have j2:(0:Int)≤(k:Int)*2+1:=by omega
   have j4:(0:Int)≤(k:Int)*2:=by omega
   have j5:((k:Int)*2).toNat=k*2:=by omega
   have j3:((k:Int)*2+1).toNat=k*2+1:=by omega
   have HBL:=ah hbel;have ht1:=htr.below (((Below.refl wr.heap.size wr).alloc (Nat.le_refl _) (.cells #[.int .i64 y0,.int .i64 y1] 211)).drew);have HTK:=ah (take_any y0 y1 (wr.alloc (.cells #[.int .i64 y0,.int .i64 y1] 211)).drew ht1 hok hal);clear hst hst2 htr hbel ht1
   cases hx:stepT h a (y0,y1) with
   | none =>
    have HN:Hid (oN h acc s=.iface 127 (.int .i64 2)∧iG h acc s 8=none):=by
     have e1:iG h acc s (k+1)=none:=HST.out.trans hx;have e2:=Ad e1 8 (by omega)
     exact⟨by unfold oN;rw[e2];rfl,e2⟩
    rw[hx] at HTK;clear hx HST;go_wp2
    go_region
    go_wp2_with fail
    refine HTK.out.mono ?_;rintro e w2 ⟨v2,rfl,_,hb2⟩;go_wp2
    go_ret
    exact⟨v2,by rw[HN.out.1];rfl,fun acc' e=>(by rw[HN.out.2] at e;cases e),(((HBL.out.alloc hB _).drew).trans hb2)⟩
   | some a2 =>
    have HN:Hid (iG h acc s (k+1)=some a2):=HST.out.trans hx;rw[hx] at HTK;clear hx HST;go_wp2
    go_region
    go_wp2_with fail
    refine HTK.out.mono ?_;rintro e w2 ⟨v2,rfl,ht2,hb2⟩;have HT2:=ah (ht2 a2 rfl);clear ht2;go_wp2
    go_roundw
    case rel =>
     have fin:∃(k1:Nat) (a1:List (Int × Int)) (v3:Value),k1≤8∧Value.int .i64 ((k:Int)+1)=.int .i64 k1∧iG h acc s k1=some a1∧dZ B w2 N h v3 a1 (dK a1)∧Below B w w2 :=
      ⟨k+1,a2,v2,by omega,by go_num,HN.out,HT2.out,(((HBL.out.alloc hB _).drew).trans hb2)⟩
     first|exact fin|((repeat apply Exists.intro);exact⟨fin,rfl⟩)
    case measure=>simp[intOf];omega
  ·have hk8:k=8:=by omega
   subst hk8;have HE:Hid (oN h acc s=.nilIface):=by unfold Hid oN;rw[hst];rfl
   have HTR:=ah htr;have HST:=ah hst;have HBL:=ah hbel;clear htr hst hbel;go_wp2
   go_ret
   exact⟨v1,by rw[HE.out];rfl,fun acc' e=>(by rw[HST.out] at e;cases e;exact HTR.out),HBL.out⟩
end Go.Proofs.YtonhoahnieoebabGreatDoor
