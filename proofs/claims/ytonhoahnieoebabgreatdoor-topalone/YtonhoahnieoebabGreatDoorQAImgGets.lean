/- A table of rows (C2), in the program: what ReadTable gives. -/
import Derived.Test.YtonhoahnieoebabGreatDoorQATabRead
import Derived.Maps.OwnSet
set_option maxHeartbeats 2000000
set_option maxRecDepth 100000
namespace Go.Proofs.YtonhoahnieoebabGreatDoor
open Go.RowKit
attribute [local go_sem ↓] Go.wp_at_zero Go.wp_at_succ
theorem Sr(w:World)(g o:Nat)(vs:List Value)(cur:Array Value)(t:TypeId)(hg:w.heap[g]?=some (.cells cur t (0,0)))(hfit:o+vs.length≤cur.size)(h1:∀ v∈vs,v.oneCell'=true) :
  w.setCells g o vs=w.setRow g (cur.toList.take o++vs++cur.toList.drop (o+vs.length)).toArray:=by
 have a:=run_storeCells_at (P:=Tryz.prog) g o t vs 0 cur w hg (by omega) h1
 have b:=run_storeCells_cells (P:=Tryz.prog) g o vs 0 w (fun j hj=>by rw[Nat.add_zero,cell_of_row _ _ _ _ _ _ hg];simp;omega) (fun j _=>frozen_of_row _ _ _ _ _ hg) h1
 rw[a] at b;simp only[Nat.add_zero] at b
 injection b with _ b
 exact b.symm
theorem Sz(w:World)(c:Array Value)(t:TypeId)(n:Nat)(h:c.size=n):(w.alloc (.cells c t)).there w.heap.size 0 n:=by
 intro j hj;rw[Nat.zero_add,cell_of_row _ _ _ _ _ _ (heap_alloc_new w _),frozen_of_row _ _ _ _ _ (heap_alloc_new w _)];exact⟨by simp;omega,rfl⟩
theorem Sm(w:World)(c:Array Value)(t:TypeId)(vs:List Value)(h:c.size=vs.length)(h1:∀ v∈vs,v.oneCell'=true):(w.alloc (.cells c t)).setCells w.heap.size 0 vs=w.alloc (.cells vs.toArray t):=by
 have e:List.take 0 c.toList++vs++List.drop (0+vs.length) c.toList=vs:=by
  rw[List.take_zero,List.nil_append,List.drop_of_length_le (by simp;omega),List.append_nil]
 rw[Sr _ _ _ _ c t (heap_alloc_new w _) (by omega) h1,World.setRow_alloc_new,e]
theorem Sv{P:Program}{ops:Array Oper}{rest:List Oper}{op:Oper}{a:Act}{w:World}{Q:Exit→Act→World→Prop}(hgd:op.guard=none)(ty t:TypeId)(x y:Operand)(ho:op.op=.store ty x y)
  (c cells:Array Value) (hx:a.eval x=.pointer (some ⟨w.heap.size,0,none⟩)) (hy:a.eval y=.agg cells)
  (hc:c.size=cells.size) (hi:(P.info? ty).map (·.size)=some cells.size) (h1:∀ v∈cells.toList,v.oneCell'=true)
  (h:wpList P ops Q rest (a.put op.dst undef) (w.alloc (.cells cells t))):wpList P ops Q (op::rest) a (w.alloc (.cells c t)):=by
 refine wpList_store_mid hgd ty x y ho w.heap.size 0 cells hx hy (Sz w c t _ hc) hi (by have:=all_oneCell_toArray h1;simpa using this) ?_
 rw[Sm w c t cells.toList (by simpa using hc) h1]
 simpa using h
theorem F8{h:HV}{rows:List ByteArray}(hi:lY h rows=false):iP h rows=1∧fG h rows=[]:=by
 unfold iP fG;rw[if_neg (by rw[hi];decide),if_neg (by rw[hi];decide)]
 exact⟨rfl,rfl⟩
theorem F9{h:HV}{rows:List ByteArray}(hi:lY h rows=true):iP h rows=(dI h rows rows.length).2∧fG h rows=(dI h rows rows.length).1:=by
 unfold iP fG;rw[if_pos hi,if_pos hi];exact⟨rfl,rfl⟩
theorem Rz:(Tryz.prog.info? 317).map (·.size)=some 44:=by kernel_rfl
theorem Sl(c p b:Int):∀ v∈[Value.int .i64 c,.int .i64 p,.int .i64 b,.slice none 0 0,.bool false,.bool false,.bool false,.bool false,.bool false,.bool false,.bool false,.bool false,.bool false,.bool false,.bool false,.bool false,.bool false,.bool false,.bool false,.bool false,.bool false,.bool false,.bool false,.bool false,.bool false,.bool false,.bool false,.bool false,.bool false,.bool false,.bool false,.bool false,.bool false,.bool false,.bool false,.bool false,.bool false,.bool false,.bool false,.bool false,.bool false,.bool false,.bool false,.bool false],v.oneCell'=true:=by
 intro v hv;have e:[Value.int .i64 c,.int .i64 p,.int .i64 b,.slice none 0 0,.bool false,.bool false,.bool false,.bool false,.bool false,.bool false,.bool false,.bool false,.bool false,.bool false,.bool false,.bool false,.bool false,.bool false,.bool false,.bool false,.bool false,.bool false,.bool false,.bool false,.bool false,.bool false,.bool false,.bool false,.bool false,.bool false,.bool false,.bool false,.bool false,.bool false,.bool false,.bool false,.bool false,.bool false,.bool false,.bool false,.bool false,.bool false,.bool false,.bool false]=[Value.int .i64 c,.int .i64 p,.int .i64 b,.slice none 0 0]++List.replicate 40 (.bool false):=rfl
 rw[e] at hv;rcases List.mem_append.1 hv with h|h
 ·simp only[List.mem_cons,List.not_mem_nil,or_false] at h
  rcases h with rfl|rfl|rfl|rfl<;>rfl
 ·rw[(List.mem_replicate.1 h).2];rfl
theorem CS(w:World):nK w none 0 []:=⟨rfl,fun k hk=>by omega⟩
def nM(B:Nat)(w:World)(lt:Option Addr)(cp:Nat)(ts:List (Int × Int)):Prop :=
 nK w lt ts.length ts∧w.ownsRow B 211 2 (.slice lt ts.length cp) ts.length (fB ts)
theorem xY(B:Nat)(w:World):nM B w none 0 []:=⟨CS w,World.ownsRow_nil _ _ _ _⟩
theorem Qk(c p b:Int)(la:Option Addr)(len cap:Nat)(rows:List ByteArray)(w:World)(hk:HV.ok ⟨c,p,b⟩=false) :
  Calls Tryz.prog 262 #[.agg #[.int .i64 c,.int .i64 p,.int .i64 b],.slice la len cap] w fun e w' =>
   ∃ lt cp,e=.returned (.tuple #[.slice lt (fG ⟨c,p,b⟩ rows).length cp,erV (iP ⟨c,p,b⟩ rows)])∧nM w.heap.size w' lt cp (fG ⟨c,p,b⟩ rows)∧Below w.heap.size w w':=by
 have hi:lY ⟨c,p,b⟩ rows=false:=by unfold lY;rw[hk];rfl
 obtain⟨e1,e2⟩:=F8 hi;rw[e1,e2,dM];have ef:HV.fault ⟨c,p,b⟩=1:=if_neg (by rw[hk];decide)
 have HC:Hid (∀ W:World,Calls Tryz.prog 100 #[.agg #[.int .i64 c,.int .i64 p,.int .i64 b]] W fun e w'=>e=.returned (.iface 127 (.int .i64 1))∧Below W.heap.size W w'):=fun W=>by have:=oZ c p b W;rw[ef,dM] at this;exact this
 clear hk hi e1 e2 ef;go_enter Tryz.func262,Tryz.ntmps262
 go_wp2_with fail
 refine(HC.out _).mono ?_;rintro e w1 ⟨rfl,hb1⟩;go_wp2
 go_ret2
 exact⟨none,0,rfl,xY _ _,((Below.refl _ _).alloc (Nat.le_refl _) _).trans (hb1.mono (by simp))⟩
theorem Qn(c p b:Int)(la:Option Addr)(len cap:Nat)(rows:List ByteArray)(w:World)(hT:Texts w la len rows)(hk:HV.ok ⟨c,p,b⟩=true)(hr:len≠aA c.toNat) :
  Calls Tryz.prog 262 #[.agg #[.int .i64 c,.int .i64 p,.int .i64 b],.slice la len cap] w fun e w' =>
   ∃ lt cp,e=.returned (.tuple #[.slice lt (fG ⟨c,p,b⟩ rows).length cp,erV (iP ⟨c,p,b⟩ rows)])∧nM w.heap.size w' lt cp (fG ⟨c,p,b⟩ rows)∧Below w.heap.size w w':=by
 have hi:lY ⟨c,p,b⟩ rows=false:=by unfold lY;rw[hk,hT.1,decide_eq_false hr];rfl
 obtain⟨e1,e2⟩:=F8 hi;rw[e1,e2,dM];have ef:HV.fault ⟨c,p,b⟩=0:=if_pos hk;have HC:Hid (∀ W:World,Calls Tryz.prog 100 #[.agg #[.int .i64 c,.int .i64 p,.int .i64 b]] W fun e w'=>e=.returned .nilIface∧Below W.heap.size W w'):=fun W=>by have:=oZ c p b W;rw[ef,aB] at this;exact this
 obtain⟨g1,g2,_⟩:=HV.fE hk;simp only at g1 g2;have HR:Hid (∀ W:World,Calls Tryz.prog 155 #[.int .i64 c] W fun e w'=>e=.returned (.int .i64 (aA c.toNat:Int))∧w'=W):=fun W=>by have:=qh c.toNat W (by omega);rw[show((c.toNat:Nat):Int)=c by omega] at this;exact this
 have hne:((len:Int) != (aA c.toNat:Int))=true:=by simp;omega
 generalize aA c.toNat=rn at HR hne;clear hk hi e1 e2 ef hT hr g1 g2;go_enter Tryz.func262,Tryz.ntmps262
 go_wp2_with fail
 refine(HC.out _).mono ?_;rintro e w1 ⟨rfl,hb1⟩;have x0:=qK hb1 0 _ rfl;go_wp2_with (go_at_call 155;refine(HR.out _).mono ?_;rintro e w' ⟨rfl,hw⟩;have hw':=hw.symm;subst hw';clear hw)
 go_ret2
 exact⟨none,0,rfl,xY _ _,((Below.refl _ _).alloc (Nat.le_refl _) _).trans (hb1.mono (by simp))⟩
theorem Qm(c p b:Int)(la:Option Addr)(len cap:Nat)(rows:List ByteArray)(w:World)(hT:Texts w la len rows)(hlen:len≤20)(hk:HV.ok ⟨c,p,b⟩=true)(hr:len=aA c.toNat) :
  Calls Tryz.prog 262 #[.agg #[.int .i64 c,.int .i64 p,.int .i64 b],.slice la len cap] w fun e w' =>
   ∃ lt cp,e=.returned (.tuple #[.slice lt (fG ⟨c,p,b⟩ rows).length cp,erV (iP ⟨c,p,b⟩ rows)])∧nM w.heap.size w' lt cp (fG ⟨c,p,b⟩ rows)∧Below w.heap.size w w':=by
 have hi:lY ⟨c,p,b⟩ rows=true:=by unfold lY;rw[hk,hT.1,decide_eq_true hr];rfl
 have ef:HV.fault ⟨c,p,b⟩=0:=if_pos hk;have HC:Hid (∀ W:World,Calls Tryz.prog 100 #[.agg #[.int .i64 c,.int .i64 p,.int .i64 b]] W fun e w'=>e=.returned .nilIface∧Below W.heap.size W w'):=fun W=>by have:=oZ c p b W;rw[ef,aB] at this;exact this
 obtain⟨g1,g2,_⟩:=HV.fE hk;simp only at g1 g2;have HR:Hid (∀ W:World,Calls Tryz.prog 155 #[.int .i64 c] W fun e w'=>e=.returned (.int .i64 (len:Int))∧w'=W):=fun W=>by have:=qh c.toNat W (by omega);rw[show((c.toNat:Nat):Int)=c by omega,← hr] at this;exact this
 have HT:=ah hT;have HK:=ah hk;have HI:=ah hi;clear hk hi ef hT hr;have HI2:Hid ((Tryz.prog.info? 317).map (·.size)=some (#[.int .i64 c,.int .i64 p,.int .i64 b,.slice none 0 0,.bool false,.bool false,.bool false,.bool false,.bool false,.bool false,.bool false,.bool false,.bool false,.bool false,.bool false,.bool false,.bool false,.bool false,.bool false,.bool false,.bool false,.bool false,.bool false,.bool false,.bool false,.bool false,.bool false,.bool false,.bool false,.bool false,.bool false,.bool false,.bool false,.bool false,.bool false,.bool false,.bool false,.bool false,.bool false,.bool false,.bool false,.bool false,.bool false,.bool false]:Array Value).size):=Rz
 have HZ:Hid (∀ v∈(#[.int .i64 c,.int .i64 p,.int .i64 b,.slice none 0 0,.bool false,.bool false,.bool false,.bool false,.bool false,.bool false,.bool false,.bool false,.bool false,.bool false,.bool false,.bool false,.bool false,.bool false,.bool false,.bool false,.bool false,.bool false,.bool false,.bool false,.bool false,.bool false,.bool false,.bool false,.bool false,.bool false,.bool false,.bool false,.bool false,.bool false,.bool false,.bool false,.bool false,.bool false,.bool false,.bool false,.bool false,.bool false,.bool false,.bool false]:Array Value).toList,v.oneCell'=true):=Sl c p b
 have hok:=HK.out;go_enter Tryz.func262,Tryz.ntmps262
 go_wp2_with fail
 refine(HC.out _).mono ?_;rintro e w1 ⟨rfl,hb1⟩;have x0:=qK hb1 0 _ rfl;have x1:=qK hb1 1 _ rfl;have x2:=qK hb1 2 _ rfl;have HB1:Hid (Below w.heap.size w w1):=((Below.refl _ _).alloc (Nat.le_refl _) _).trans (hb1.mono (by simp))
 have htab:dZ w.heap.size (w1.alloc (.cells #[.int .i64 c,.int .i64 p,.int .i64 b,.slice none 0 0,.bool false,.bool false,.bool false,.bool false,.bool false,.bool false,.bool false,.bool false,.bool false,.bool false,.bool false,.bool false,.bool false,.bool false,.bool false,.bool false,.bool false,.bool false,.bool false,.bool false,.bool false,.bool false,.bool false,.bool false,.bool false,.bool false,.bool false,.bool false,.bool false,.bool false,.bool false,.bool false,.bool false,.bool false,.bool false,.bool false,.bool false,.bool false,.bool false,.bool false] 317)) w1.heap.size ⟨c,p,b⟩ (.slice none 0 0) [] (dK []):=by
  rw[Gq];exact⟨heap_alloc_new w1 _,World.ownsRow_nil _ _ _ _,HB1.out.size,by simp⟩
 have HTAB:=ah htab;clear hb1 htab
 go_wp2_with (first
  | (go_at_call 155;refine(HR.out _).mono ?_;rintro e w' ⟨rfl,hw⟩;have hw':=hw.symm;subst hw';clear hw)
  | (refine Sv (by rfl) 317 317 (.tmp 7) (.tmp 24) (by rfl) _ #[.int .i64 c,.int .i64 p,.int .i64 b,.slice none 0 0,.bool false,.bool false,.bool false,.bool false,.bool false,.bool false,.bool false,.bool false,.bool false,.bool false,.bool false,.bool false,.bool false,.bool false,.bool false,.bool false,.bool false,.bool false,.bool false,.bool false,.bool false,.bool false,.bool false,.bool false,.bool false,.bool false,.bool false,.bool false,.bool false,.bool false,.bool false,.bool false,.bool false,.bool false,.bool false,.bool false,.bool false,.bool false,.bool false,.bool false] (by rfl) (by rfl) rfl HI2.out HZ.out ?_))
 clear x0 x1 x2 HI2 HZ HC HR;have HBT:Hid (Below w.heap.size w (w1.alloc (.cells #[.int .i64 c,.int .i64 p,.int .i64 b,.slice none 0 0,.bool false,.bool false,.bool false,.bool false,.bool false,.bool false,.bool false,.bool false,.bool false,.bool false,.bool false,.bool false,.bool false,.bool false,.bool false,.bool false,.bool false,.bool false,.bool false,.bool false,.bool false,.bool false,.bool false,.bool false,.bool false,.bool false,.bool false,.bool false,.bool false,.bool false,.bool false,.bool false,.bool false,.bool false,.bool false,.bool false,.bool false,.bool false,.bool false,.bool false] 317))):=HB1.out.alloc HB1.out.size _
 generalize w1.alloc (.cells #[.int .i64 c,.int .i64 p,.int .i64 b,.slice none 0 0,.bool false,.bool false,.bool false,.bool false,.bool false,.bool false,.bool false,.bool false,.bool false,.bool false,.bool false,.bool false,.bool false,.bool false,.bool false,.bool false,.bool false,.bool false,.bool false,.bool false,.bool false,.bool false,.bool false,.bool false,.bool false,.bool false,.bool false,.bool false,.bool false,.bool false,.bool false,.bool false,.bool false,.bool false,.bool false,.bool false,.bool false,.bool false,.bool false,.bool false] 317)=wt at HTAB HBT ⊢;generalize w1.heap.size=N at HTAB ⊢
 have HB0:Hid (w.heap.size≤w.heap.size):=Nat.le_refl _;have HLN:Hid (rows.length=len):=HT.out.1
 have HFT:Hid (∀(j:Nat) (f:Int),f≠0→j≤len→dI ⟨c,p,b⟩ rows j=([],f)→fG ⟨c,p,b⟩ rows=[]∧iP ⟨c,p,b⟩ rows=f):=fun j f hf hj e=>by
  obtain⟨e1,e2⟩:=F9 HI.out;have e3:=RZ hf e rows.length (by rw[HLN.out];exact hj)
  rw[e1,e2,e3];exact⟨rfl,rfl⟩
 go_loopw [27] (fun i wr=>∃(j:Nat) (v:Value),j≤len∧i=.int .i64 j∧(dI ⟨c,p,b⟩ rows j).2=0∧(((dI ⟨c,p,b⟩ rows j).1.length:Nat):Int)≤c∧dZ w.heap.size wr N ⟨c,p,b⟩ v (dI ⟨c,p,b⟩ rows j).1 (dK (dI ⟨c,p,b⟩ rows j).1)∧Below w.heap.size w wr) (fun i _=>len-(intOf i).toNat)
 case atStart=>exact⟨0,.slice none 0 0,Nat.zero_le _,rfl,rfl,(by show(0:Int)≤c;omega),HTAB.out,HBT.out⟩
 case round =>
  obtain⟨j,v,hj,rfl,hf0,hl,ht,hbel⟩:=hrel;by_cases hlt:j<len
  ·obtain⟨bb,off,rfl,hcell,hsz⟩:=HT.out.2 j hlt
   rw[← hbel.cell (World.block_lt_of_cell? w _ hcell)] at hcell;have j0:(0:Int)≤(j:Int):=by omega
   have j1:(j:Int)<(len:Int):=by omega
   have HBL:=ah hbel;by_cases hs:(rows.getD j ByteArray.empty).size=16
   ·have HRR:=ah (Qe (rows.getD j ByteArray.empty) wr hs ht hok hl)
    cases hx:iG ⟨c,p,b⟩ (dI ⟨c,p,b⟩ rows j).1 (rows.getD j ByteArray.empty) 8 with
    | none =>
     obtain⟨e1,e2⟩:=HFT.out (j+1) 2 (by decide) (by omega) (F6 hf0 hs hx)
     have HE1:=ah e1;have HE2:Hid (erV (iP ⟨c,p,b⟩ rows)=.iface 127 (.int .i64 2)):=by unfold Hid;rw[e2];exact mZ
     have er:oN ⟨c,p,b⟩ (dI ⟨c,p,b⟩ rows j).1 (rows.getD j ByteArray.empty)=.iface 127 (.int .i64 2):=by unfold oN;rw[hx];rfl
     rw[er] at HRR;clear er e1 e2 hx hs hsz hf0 hl ht hbel HFT;generalize rows.getD j ByteArray.empty=s at hcell HRR;go_wp2_with fail
     refine HRR.out.mono ?_;rintro e w2 ⟨v2,rfl,_,hb2⟩;go_wp2
     go_ret2
     exact⟨none,0,by rw[HE1.out,HE2.out];rfl,by rw[HE1.out];exact xY _ _,HBL.out.trans hb2⟩
    | some a2 =>
     have hg:=Au hf0 hs hx;have hl2:=ER (h:=⟨c,p,b⟩) hl 8 a2 hx;have HGG:=ah hg;have er:oN ⟨c,p,b⟩ (dI ⟨c,p,b⟩ rows j).1 (rows.getD j ByteArray.empty)=.nilIface:=by unfold oN;rw[hx];rfl
     rw[er,hx] at HRR;clear er hg hx hs hsz hf0 hl ht hbel HFT;generalize rows.getD j ByteArray.empty=s at hcell HRR;go_wp2_with fail
     refine HRR.out.mono ?_;rintro e w2 ⟨v2,rfl,ht2,hb2⟩;have HT2:=ah (ht2 a2 rfl);clear ht2 HRR;go_wp2
     go_roundw
     case rel =>
      have fin:∃(j1:Nat) (v3:Value),j1≤len∧Value.int .i64 ((j:Int)+1)=.int .i64 j1∧(dI ⟨c,p,b⟩ rows j1).2=0∧(((dI ⟨c,p,b⟩ rows j1).1.length:Nat):Int)≤c∧dZ w.heap.size w2 N ⟨c,p,b⟩ v3 (dI ⟨c,p,b⟩ rows j1).1 (dK (dI ⟨c,p,b⟩ rows j1).1)∧Below w.heap.size w w2:=by
       refine⟨j+1,v2,by omega,by go_num,?_,?_,?_,HBL.out.trans hb2⟩
       ·rw[HGG.out]
       ·rw[HGG.out];exact hl2
       ·rw[HGG.out];exact HT2.out
      first|exact fin|((repeat apply Exists.intro);exact⟨fin,rfl⟩)
     case measure=>simp[intOf];omega
   ·obtain⟨e1,e2⟩:=HFT.out (j+1) 1 (by decide) (by omega) (F7 hf0 hs)
    have HE1:=ah e1;have HE2:Hid (erV (iP ⟨c,p,b⟩ rows)=.iface 127 (.int .i64 1)):=by unfold Hid;rw[e2];exact dM
    have HRR:=ah (Qg (N:=N) (rows.getD j ByteArray.empty) wr hs);clear e1 e2 hs hsz hf0 hl ht hbel HFT;generalize rows.getD j ByteArray.empty=s at hcell HRR;go_wp2_with (go_at_call 279;refine HRR.out.mono ?_;rintro e w' ⟨rfl,hw⟩;have hw':=hw.symm;subst hw';clear hw)
    go_ret2
    exact⟨none,0,by rw[HE1.out,HE2.out];rfl,by rw[HE1.out];exact xY _ _,HBL.out⟩
  ·have hjl:j=rows.length:=by rw[HLN.out];omega
   obtain⟨e1,e2⟩:=F9 HI.out;rw[← hjl] at e1 e2;obtain⟨c0,c1,c3,f3⟩:=ht.cells;obtain⟨a,cp,hv⟩:=ht.form;rw[hv] at c3
   have HEN:Hid (nM w.heap.size wr a cp (dI ⟨c,p,b⟩ rows j).1):=by
    refine⟨?_,hv▸ht.own⟩;have ho:=ht.own;rw[hv] at ho;rcases ho.2 with⟨h0,hn⟩|⟨g,cp2,cur,hv2,_⟩
    ·have ea:a=none:=by injection h0
     rw[ea,List.length_eq_zero_iff.1 hn];exact CS _
    ·have ea:a=some ⟨g,0,none⟩:=by injection hv2
     rw[ea] at ho ⊢;exact CU ho _ (by rw[List.take_of_length_le (by rw[yV];exact Nat.le_refl _)]) (Nat.le_refl _) rfl
   have HE2:Hid (erV (iP ⟨c,p,b⟩ rows)=.nilIface):=by unfold Hid;rw[e1,hf0];exact aB
   have HE1:=ah e2;have HBL:=ah hbel;clear ht hbel hf0 hl e1 e2 c0 c1 f3 hv HFT hjl;go_wp2
   go_ret2
   exact⟨a,cp,by rw[HE1.out,HE2.out];rfl,by rw[HE1.out];exact HEN.out,HBL.out⟩
theorem Qj(c p b:Int)(la:Option Addr)(len cap:Nat)(rows:List ByteArray)(w:World)(hT:Texts w la len rows)(hlen:len≤20) :
  Calls Tryz.prog 262 #[.agg #[.int .i64 c,.int .i64 p,.int .i64 b],.slice la len cap] w fun e w' =>
   ∃ lt cp,e=.returned (.tuple #[.slice lt (fG ⟨c,p,b⟩ rows).length cp,erV (iP ⟨c,p,b⟩ rows)])∧nM w.heap.size w' lt cp (fG ⟨c,p,b⟩ rows)∧Below w.heap.size w w':=by
 cases hk:HV.ok ⟨c,p,b⟩ with
 | false=>exact Qk c p b la len cap rows w hk
 | true =>
  by_cases hr:len=aA c.toNat
  ·exact Qm c p b la len cap rows w hT hlen hk hr
  ·exact Qn c p b la len cap rows w hT hk hr
end Go.Proofs.YtonhoahnieoebabGreatDoor
namespace Go.Proofs.YtonhoahnieoebabGreatDoor
open Go.RowKit Go.Maps
theorem wS:Keyed Tryz.prog 3:=int_keyed Tryz.underlying3
def oH(l:List Nat):DataW Unit:=setOf (.agg []) (l.map fun q:Nat=>Lit.int .i64 (q:Int))
theorem DR(q:Nat)(h:q<1000):keyOf Tryz.prog 3 (.int .i64 (q:Int))=some (.int .i64 (q:Int)) :=
 keyOf_int_mk Tryz.underlying3 (WalkArith.wf_i64 (by omega))
structure Gd where
 g:Nat→Prop
 top:Nat
 lt:∀ k,g k→k<top
def Gd.of(n:Nat):Gd:=⟨fun k=>k<n,n,fun _ h=>h⟩
instance:Coe Nat Gd:=⟨Gd.of⟩
theorem Gd.fresh(B:Gd){n k:Nat}(h:B.top≤n)(hk:n≤k):¬B.g k:=fun e=>by have:=B.lt k e;omega
def KP(w:World)(k:Nat):Prop :=
 (∃ cur t,w.heap[k]?=some (.cells cur t (0,0))∧(t=264∨t=261∨t=266∨t=220))∨∃ es c,w.heap[k]?=some (.map es c)
def SP(B:Gd)(tb:Nat)(w:World)(k:Nat):Prop:=¬B.g k∧(KP w k∨k=tb)
def aP(B:Gd)(tb:Nat)(w w':World):Prop:=Kept (SP B tb w) w w'
theorem KP.of{w w':World}{k:Nat}(e:w'.heap[k]?=w.heap[k]?)(h:KP w' k):KP w k:=by
 rcases h with⟨cur,t,h1,h2⟩|⟨es,c,h1⟩
 ·exact .inl ⟨cur,t,by rw[← e];exact h1,h2⟩
 ·exact .inr ⟨es,c,by rw[← e];exact h1⟩
theorem aP.trans{B:Gd}{tb:Nat}{a b c:World}(h:aP B tb a b)(k:aP B tb b c):aP B tb a c:=by
 refine⟨k.os.trans h.os,k.tape.trans h.tape,k.output.trans h.output,Nat.le_trans h.size k.size,fun i hi hs=>?_⟩
 have e:=h.block i hi hs;rw[k.block i (Nat.lt_of_lt_of_le hi h.size) (fun s=>hs ⟨s.1,s.2.imp (fun x=>x.of e) id⟩),e]
theorem aP.refl(B:Gd)(tb:Nat)(w:World):aP B tb w w:=Kept.refl _ _
theorem aP.of_below{B:Gd}{tb:Nat}{w w':World}(h:Below w.heap.size w w'):aP B tb w w':=Below.kept h
theorem aP.box{B:Gd}{tb:Nat}{w w':World}(h:aP B tb w w'){k:Nat}{cur:Array Value}{t:TypeId}(hb:w.heap[k]?=some (.cells cur t (0,0)))(ht:¬(t=264∨t=261∨t=266∨t=220))(hk:k≠tb):w'.heap[k]?=some (.cells cur t (0,0)):=by
 rw[h.block k (lt_of_some hb) (fun s=>?_)]
 ·exact hb
 ·rcases s.2 with(⟨c2,t2,e1,p⟩|⟨es,c,e1⟩)|e1
  ·rw[hb] at e1
   cases e1
   exact ht p
  ·rw[hb] at e1;cases e1
  ·exact hk e1
structure bg(B:Gd)(w:World)(h:Hd)(d:DV):Prop extends aH 0 w h d where
 out:∀ k,h.fp k→¬B.g k
theorem bg.keep{B:Gd}{w w':World}{h:Hd}{d:DV}(hd:bg B w h d)(hk:∀ k,h.fp k→w'.heap[k]?=w.heap[k]?):bg B w' h d:=⟨hd.toaH.keep hk,hd.out⟩
theorem aH.base0{B:Nat}{w:World}{h:Hd}{d:DV}(hd:aH B w h d):aH 0 w h d:=⟨hd.ok,Nat.zero_le _,hd.blk,ownsRow_base hd.of (Nat.zero_le _),ownsRow_base hd.os (Nat.zero_le _),ownsRow_base hd.op (Nat.zero_le _),hd.ne,hd.pn⟩
theorem aH.toG{B:Nat}{w:World}{h:Hd}{d:DV}(hd:aH B w h d):bg B w h d:=⟨hd.base0,fun k hk=>Nat.not_lt.2 (hd.lt k hk).1⟩
theorem bg.nilled{B:Gd}{w w':World}{h:Hd}{d d':DV}(hd:bg B w h d)(h1:aH 0 w' { h with v2:=.slice none 0 0 } d'):bg B w' { h with v2:=.slice none 0 0 } d' :=
 ⟨h1,fun k hk=>by
  rcases hk with hk|hk|hk|hk
  ·exact hd.out k (.inl hk)
  ·exact hd.out k (.inr (.inl hk))
  ·exact hd.out k (.inr (.inr (.inl hk)))
  ·cases hk⟩
theorem bg.inP{B:Gd}{w:World}{h:Hd}{d:DV}(hd:bg B w h d)(tb:Nat):∀ k,h.fp k→SP B tb w k:=by
 intro k hk;obtain⟨cur,t,e,p⟩:=hd.kinds k hk;exact⟨hd.out k hk,.inl (.inl ⟨cur,t,e,by rcases p with p|p|p;exact .inl p;exact .inr (.inl p);exact .inr (.inr (.inl p))⟩)⟩
theorem bg.Ny{B:Gd}{tb:Nat}{w w':World}{h:Hd}{d:DV}(hd:bg B w h d)(hk:Kept h.fp w w'):aP B tb w w':=hk.mono fun k _ hs=>hd.inP tb k hs
theorem wu{B:Gd}{n m:Nat}{h:Hd}{d:DV}(i:Nat)(s:ByteArray)(w:World)(hd:bg B w h d)(hf:d.fine n m)(hm:m<1000000000)(hB:B.top≤w.heap.size)(hs:s.size=16)(hi:i<n) :
  Calls Tryz.prog 214 #[.pointer (some ⟨h.p,0,none⟩),.int .i64 (i:Int),.string s] w fun e w' =>
   ∃ v2,e=.returned (erV d.aQ)∧bg B w' { h with v2:=v2 } (d.put i s.data.toList)∧Kept h.fp w w':=by
 have hl:=hf.len;have hw:=hf.wr;unfold DV.put DV.aQ;by_cases h0:d.fail=0
 ·rw[if_pos h0,if_pos h0]
  refine(Ub (i:Int) s w hd.toaH hs (by unfold DV.has;simp;omega) h0).mono ?_
  rintro e w' ⟨rfl,h1,h2⟩;exact⟨h.v2,by simp[erV],⟨h1,hd.out⟩,h2⟩
 ·rw[if_neg h0,if_neg h0]
  refine(Uc i s w hd.toaH (Nat.zero_le _) hs (by omega) (by omega) h0).mono ?_
  rintro e w' ⟨v,rfl,h1,h2,h3⟩;refine⟨v,by simp[erV],⟨h1,fun k hk=>?_⟩,h2⟩
  rcases hk with hk|hk|hk|hk
  ·exact hd.out k (.inl hk)
  ·exact hd.out k (.inr (.inl hk))
  ·exact hd.out k (.inr (.inr (.inl hk)))
  ·rcases h3 k hk with h4|h4
   ·exact hd.out k (.inr (.inr (.inr h4)))
   ·exact B.fresh hB h4
structure Ih where
 p:Nat
 h:Hd
 tb:Nat
 tc:Nat
 m:Nat
structure aC(B:Gd)(w:World)(x:Ih)(v:IV):Prop where
 blk:w.heap[x.p]?=some (.cells #[.pointer (some ⟨x.h.p,0,none⟩),.int .i64 v.h.c,.int .i64 v.h.p,.int .i64 v.h.b,.slice (some ⟨x.tb,0,none⟩) v.t.length x.tc,.map (some x.m)] 220 (0,0))
 pB:¬B.g x.p∧¬B.g x.tb
 mB:¬B.g x.m
 dev:bg B w x.h v.d
 own:w.ownsRow 0 211 2 (.slice (some ⟨x.tb,0,none⟩) v.t.length x.tc) v.t.length (fB v.t)
 map:w.ownsMap Tryz.prog 3 (unitElem (H:=Unit)) x.m v.held.length (oH v.held)
theorem aC.cells{B:Gd}{w:World}{x:Ih}{v:IV}(h:aC B w x v) :
  w.cell? ⟨x.p,0,none⟩=some (.pointer (some ⟨x.h.p,0,none⟩))∧w.cell? ⟨x.p,1,none⟩=some (.int .i64 v.h.c)∧w.cell? ⟨x.p,2,none⟩=some (.int .i64 v.h.p)∧w.cell? ⟨x.p,3,none⟩=some (.int .i64 v.h.b) ∧
  w.cell? ⟨x.p,4,none⟩=some (.slice (some ⟨x.tb,0,none⟩) v.t.length x.tc)∧w.cell? ⟨x.p,5,none⟩=some (.map (some x.m))∧∀ j,w.frozen? ⟨x.p,j,none⟩=false:=by
 have hb:=h.blk;refine⟨?_,?_,?_,?_,?_,?_,fun j=>frozen_of_row w x.p j _ _ hb⟩<;>rw[cell_of_row w x.p _ _ _ _ hb]<;>rfl
theorem uD{P:Program}{k:TypeId}{R:Value→Option (DataW Unit × List MemPlace)}{w w':World}{b n:Nat}{D:DataW Unit}(h:w.ownsMap P k R b n D)(e:w'.heap[b]?=w.heap[b]?):w'.ownsMap P k R b n D:=by
 obtain⟨es,clock,hb,r⟩:=h;exact⟨es,clock,by rw[e];exact hb,r⟩
theorem rP{P:Program}{k:TypeId}{R:Value→Option (DataW Unit × List MemPlace)}{w:World}{b n:Nat}{D:DataW Unit}(h:w.ownsMap P k R b n D):∃ es c,w.heap[b]?=some (.map es c):=by
 obtain⟨es,clock,hb,r⟩:=h;exact⟨es,clock,hb⟩
theorem aC.tb{B:Gd}{w:World}{x:Ih}{v:IV}(h:aC B w x v):¬B.g x.tb∧∃ cur,w.heap[x.tb]?=some (.cells cur 211 (0,0)):=by
 obtain⟨_,cur,hh,_⟩:=gB h.own;exact⟨h.pB.2,cur,hh⟩
theorem aC.keep{B:Gd}{w w':World}{x:Ih}{v:IV}(h:aC B w x v)(hp:w'.heap[x.p]?=w.heap[x.p]?)(hm:w'.heap[x.m]?=w.heap[x.m]?)(ht:w'.heap[x.tb]?=w.heap[x.tb]?)(hd:∀ k,x.h.fp k→w'.heap[k]?=w.heap[k]?):aC B w' x v :=
 ⟨by rw[hp];exact h.blk,h.pB,h.mB,h.dev.keep hd,dA h.own (fun k e=>by
  have:x.tb=k:=by simpa [Value.ownBlock] using e
  subst this;exact ht),uD h.map hm⟩
theorem aC.lts{B:Gd}{w:World}{x:Ih}{v:IV}(h:aC B w x v):x.p<w.heap.size∧x.m<w.heap.size∧x.tb<w.heap.size:=by
 obtain⟨_,cur,hh⟩:=h.tb;obtain⟨es,c,hm⟩:=rP h.map;exact⟨lt_of_some h.blk,lt_of_some hm,lt_of_some hh⟩
theorem aC.below{B:Gd}{w w':World}{x:Ih}{v:IV}(h:aC B w x v)(hb:Below w.heap.size w w'):aC B w' x v:=by
 obtain⟨h1,h2,h3⟩:=h.lts;exact h.keep (hb.block _ h1) (hb.block _ h2) (hb.block _ h3) fun k hk=>hb.block _ (h.dev.lt k hk).2
theorem aC.drew{B:Gd}{w:World}{x:Ih}{v:IV}(h:aC B w x v):aC B w.drew x v:=h.keep rfl rfl rfl fun _ _=>rfl
theorem aC.tX{B:Gd}{w w':World}{x:Ih}{v:IV}(h:aC B w x v){h':Hd}{d':DV}(hd:bg B w' h' d')(hp:h'.p=x.h.p)(hk:Kept x.h.fp w w'):aC B w' { x with h:=h' } { v with d:=d' }∧aP B x.tb w w':=by
 have n1:¬x.h.fp x.p:=fun e=>by
  obtain⟨cur,t,e1,p⟩:=h.dev.kinds _ e;rw[h.blk] at e1;cases e1
  rcases p with p|p|p<;>cases p
 have n2:¬x.h.fp x.m:=fun e=>by
  obtain⟨cur,t,e1,p⟩:=h.dev.kinds _ e;obtain⟨es,c,e2⟩:=rP h.map;rw[e2] at e1;cases e1
 have n3:¬x.h.fp x.tb:=fun e=>by
  obtain⟨cur,t,e1,p⟩:=h.dev.kinds _ e;obtain⟨_,cur2,e2⟩:=h.tb;rw[e2] at e1;cases e1
  rcases p with p|p|p<;>cases p
 obtain⟨l1,l2,l3⟩:=h.lts
 refine⟨⟨?_,h.pB,h.mB,hd,dA h.own (fun k e=>by
  have:x.tb=k:=by simpa [Value.ownBlock] using e
  subst this;exact hk.block _ l3 n3),uD h.map (hk.block _ l2 n2)⟩,h.dev.Ny hk⟩
 show w'.heap[x.p]?=some (.cells #[.pointer (some ⟨h'.p,0,none⟩),_,_,_,_,_] _ _)
 rw[hp,hk.block _ l1 n1];exact h.blk
theorem Kw(ts:List (Int × Int))(c:Nat)(k p:Int):fB (ts.set c (k,p))=((fB ts).set (c*2) (.int .i64 k)).set (c*2+1) (.int .i64 p):=by
 induction ts generalizing c with
 | nil=>simp[fB]
 | cons e ts ih =>
  have e1:∀(y:Int × Int) (l:List (Int × Int)),fB (y::l)=.int .i64 y.1::.int .i64 y.2::fB l:=fun _ _=>rfl
  cases c with
  | zero=>simp[e1]
  | succ c =>
   rw[List.set_cons_succ,e1,ih c,e1,show(c+1)*2=c*2+1+1 by omega]
   simp
theorem aC.Fp{B:Gd}{w:World}{x:Ih}{v:IV}(h:aC B w x v)(c:Nat)(k p:Int) :
  aC B ((w.setCell ⟨x.tb,c*2,none⟩ (.int .i64 k)).setCell ⟨x.tb,c*2+1,none⟩ (.int .i64 p)) x { v with t:=v.t.set c (k,p) } ∧
  aP B x.tb w ((w.setCell ⟨x.tb,c*2,none⟩ (.int .i64 k)).setCell ⟨x.tb,c*2+1,none⟩ (.int .i64 p)):=by
 obtain⟨hbB,cur,hh,hc1,hc2,hc3,hc4⟩:=gB h.own;have n1:x.p≠x.tb:=fun e=>by have:=h.blk;rw[e,hh] at this;cases this
 have n2:x.m≠x.tb:=fun e=>by obtain⟨es,cc,e2⟩:=rP h.map;rw[e,hh] at e2;cases e2
 have n3:∀ k,x.h.fp k→k≠x.tb:=fun k hk e=>by
  obtain⟨cur2,t,e1,p⟩:=h.dev.kinds _ hk;rw[e,hh] at e1;cases e1
  rcases p with p|p|p<;>cases p
 have ho:∀ k,k≠x.tb→((w.setCell ⟨x.tb,c*2,none⟩ (.int .i64 k)).setCell ⟨x.tb,c*2+1,none⟩ (.int .i64 p)).heap[k]?=w.heap[k]?:=fun k hk=>by
  rw[heap_setCell_other _ _ _ _ hk,heap_setCell_other _ _ _ _ hk]
 have hkp:aP B x.tb w ((w.setCell ⟨x.tb,c*2,none⟩ (.int .i64 k)).setCell ⟨x.tb,c*2+1,none⟩ (.int .i64 p)):=((Kept.refl (SP B x.tb w) w).setCell (p:=⟨x.tb,c*2,none⟩) (.inl ⟨h.pB.2,.inr rfl⟩) _).setCell (p:=⟨x.tb,c*2+1,none⟩) (.inl ⟨h.pB.2,.inr rfl⟩) _;refine⟨⟨?_,h.pB,h.mB,h.dev.keep fun k hk=>?_,?_,uD h.map ?_⟩,hkp⟩
 ·rw[heap_setCell_other _ _ _ _ n1,heap_setCell_other _ _ _ _ n1]
  show _=some (Obj.cells #[_,_,_,_,.slice (some ⟨x.tb,0,none⟩) (v.t.set c (k,p)).length x.tc,_] _ _)
  rw[List.length_set];exact h.blk
 ·rw[heap_setCell_other _ _ _ _ (n3 _ hk),heap_setCell_other _ _ _ _ (n3 _ hk)]
 ·show World.ownsRow _ 0 _ 2 (.slice (some ⟨x.tb,0,none⟩) (v.t.set c (k,p)).length x.tc) (v.t.set c (k,p)).length (fB (v.t.set c (k,p)))
  rw[List.length_set];refine⟨by rw[yV,List.length_set],.inr ⟨x.tb,x.tc,(cur.setIfInBounds (c*2) (.int .i64 k)).setIfInBounds (c*2+1) (.int .i64 p),rfl,hbB,?_,hc1,hc2,by simpa using hc3,?_⟩⟩
  ·rw[heap_setCell_same _ _ _ _ _ _ (heap_setCell_same w x.tb _ _ _ _ hh)]
  ·rw[Kw,← hc4]
   simp only[Array.toList_setIfInBounds,List.take_set]
 ·rw[heap_setCell_other _ _ _ _ n2,heap_setCell_other _ _ _ _ n2]
def Ih.fp(x:Ih)(k:Nat):Prop:=k=x.p∨k=x.m∨k=x.tb∨x.h.fp k
theorem aC.out{B:Gd}{w:World}{x:Ih}{v:IV}(h:aC B w x v):∀ k,x.fp k→¬B.g k:=by
 rintro k (rfl|rfl|rfl|hk)
 ·exact h.pB.1
 ·exact h.mB
 ·exact h.pB.2
 ·exact h.dev.out k hk
theorem aC.jJ{B:Gd}{w:World}{x:Ih}{v:IV}(h:aC B w x v):∀ k,x.fp k→k<w.heap.size:=by
 obtain⟨l1,l2,l3⟩:=h.lts;rintro k (rfl|rfl|rfl|hk)
 ·exact l1
 ·exact l2
 ·exact l3
 ·exact(h.dev.lt k hk).2
theorem aC.re{B C:Gd}{w:World}{x:Ih}{v:IV}(h:aC B w x v)(hc:∀ k,x.fp k→¬C.g k):aC C w x v :=
 ⟨h.blk,⟨hc _ (.inl rfl),hc _ (.inr (.inr (.inl rfl)))⟩,hc _ (.inr (.inl rfl)),⟨h.dev.toaH,fun k hk=>hc k (.inr (.inr (.inr hk)))⟩,h.own,h.map⟩
theorem aC.lT{B:Gd}{w w':World}{x:Ih}{v:IV}(h:aC B w x v)(hk:∀ k,x.fp k→w'.heap[k]?=w.heap[k]?):aC B w' x v :=
 h.keep (hk _ (.inl rfl)) (hk _ (.inr (.inl rfl))) (hk _ (.inr (.inr (.inl rfl)))) fun k hf=>hk k (.inr (.inr (.inr hf)))
attribute [local go_sem ↓] Go.wp_at_zero Go.wp_at_succ
theorem yC(c p b:Int)(q:Nat)(w:World)(hk:HV.ok ⟨c,p,b⟩=true)(hq:q≤40) :
  Calls Tryz.prog 212 #[.agg #[.int .i64 c,.int .i64 p,.int .i64 b],.int .i64 (q:Int)] w fun e w'=>e=.returned (.int .i64 (aI ⟨c,p,b⟩ q:Int))∧Below w.heap.size w w':=by
 obtain⟨g1,g2,_⟩:=HV.fE hk;simp only at g1 g2;have HR:Hid (∀ W:World,Calls Tryz.prog 155 #[.int .i64 c] W fun e w'=>e=.returned (.int .i64 (aA c.toNat:Int))∧w'=W):=fun W=>by have:=qh c.toNat W (by omega);rw[show((c.toNat:Nat):Int)=c by omega] at this;exact this
 have HF:Hid (aI ⟨c,p,b⟩ q=1+aA c.toNat+4*q):=rfl;have hrn:aA c.toNat≤10:=by unfold aA;omega
 generalize aA c.toNat=rn at HR HF hrn;generalize aI ⟨c,p,b⟩ q=bn at HF ⊢;clear hk g1 g2;go_enter Tryz.func212,Tryz.ntmps212
 go_wp2_with (go_at_call 155;refine(HR.out _).mono ?_;rintro e w' ⟨rfl,hw⟩;have hw':=hw.symm;subst hw';clear hw)
 go_ret
 exact⟨uI (by have:=HF.out;omega),(Below.refl _ _).alloc (Nat.le_refl _) _⟩
theorem uq(c p b:Int)(w:World)(hk:HV.ok ⟨c,p,b⟩=true) :
  Calls Tryz.prog 101 #[.agg #[.int .i64 c,.int .i64 p,.int .i64 b]] w fun e w'=>e=.returned (.int .i64 (aJ ⟨c,p,b⟩:Int))∧Below w.heap.size w w':=by
 have hb:=HV.fE hk;simp only at hb
 have HB:Hid (∀ W:World,Calls Tryz.prog 212 #[.agg #[.int .i64 c,.int .i64 p,.int .i64 b],.int .i64 p] W fun e w'=>e=.returned (.int .i64 (aJ ⟨c,p,b⟩:Int))∧Below W.heap.size W w'):=fun W=>by
  have:=yC c p b p.toNat W hk (by omega)
  rw[show((p.toNat:Nat):Int)=p by omega] at this;exact this
 generalize aJ ⟨c,p,b⟩=n at HB ⊢;clear hk hb;go_enter Tryz.func101,Tryz.ntmps101
 go_wp2_with fail
 refine(HB.out _).mono ?_;rintro e w1 ⟨rfl,hb1⟩;go_wp2
 go_ret
 exact⟨rfl,((Below.refl _ _).alloc (Nat.le_refl _) _).trans (hb1.mono (by simp))⟩
theorem aC.jw{B:Gd}{w:World}{x:Ih}{v:IV}(h:aC B w x v){c:Nat}(hc:c<v.t.length) :
  w.cell? ⟨x.tb,c*2,none⟩=some (.int .i64 (v.t.getD c (0,0)).1)∧w.cell? ⟨x.tb,c*2+1,none⟩=some (.int .i64 (v.t.getD c (0,0)).2)∧∀ j,w.frozen? ⟨x.tb,j,none⟩=false:=by
 obtain⟨h1,h2⟩:=yU v.t c hc;refine⟨?_,?_,fun j=>h.own.frozenAt j⟩
 ·rw[h.own.cellAt (c*2) (by omega)];exact h1
 ·rw[h.own.cellAt (c*2+1) (by omega)];exact h2
def IV.gy(v:IV)(c:Int):Int:=if v.there c=true then 0 else 1
def IV.bH(v:IV)(c:Int):Int × Int:=if v.there c=true then v.ent c else (0,0)
theorem qC{B:Gd}{x:Ih}{v:IV}(c:Int)(w:World)(h:aC B w x v) :
  Calls Tryz.prog 163 #[.pointer (some ⟨x.p,0,none⟩),.int .i64 c] w fun e w' =>
   e=.returned (.tuple #[.agg #[.int .i64 (v.bH c).1,.int .i64 (v.bH c).2],erV (v.gy c)])∧Below w.heap.size w w':=by
 obtain⟨c0,c1,c2,c3,c4,c5,fz⟩:=h.cells;unfold IV.bH IV.gy
 cases hc:v.there c with
 | true =>
  obtain⟨h0,h1⟩:=IV.kH hc;obtain⟨k,rfl⟩:∃ k:Nat,c=(k:Int):=⟨c.toNat,by omega⟩
  obtain⟨t0,t1,_⟩:=h.jw (c:=k) (by omega)
  have HE:Hid (v.ent (k:Int)=v.t.getD k (0,0)):=rfl;rw[if_pos rfl,if_pos rfl,aB,HE.out];have g0:decide ((k:Int)<0)=false:=by simp
  have g1:decide ((v.t.length:Int)≤(k:Int))=false:=by simp;omega
  have hb:x.tb<w.heap.size:=h.lts.2.2;have hpp:x.p<w.heap.size:=h.lts.1;clear hc HE h c0 c1 c2 c3 c5 fz;generalize (v.t.getD k (0,0)).1=y0 at t0 ⊢;generalize (v.t.getD k (0,0)).2=y1 at t1 ⊢;generalize v.t.length=n at *
  go_enter Tryz.func163,Tryz.ntmps163
  go_wp2
  exact bodyPost_ret (v:=.tuple #[.agg #[.int .i64 y0,.int .i64 y1],.nilIface]) (by simp[results,Tryz.results163,go_sem]) rfl ⟨rfl,(by first|exact(Below.refl _ _).alloc (Nat.le_refl _) _|exact((((Below.refl _ _).alloc (Nat.le_refl _) _).setCell (Nat.le_refl _) _).setCell (Nat.le_refl _) _))⟩
 | false =>
  have h0:=IV.Gi hc;rw[if_neg (by simp),if_neg (by simp),dM]
  have hpp:x.p<w.heap.size:=h.lts.1;clear hc h c0 c1 c2 c3 c5 fz;generalize v.t.length=n at *
  by_cases hc0:c<0
  ·have g0:decide (c<0)=true:=by simpa using hc0
   go_enter Tryz.func163,Tryz.ntmps163
   go_wp2
   exact bodyPost_ret (v:=.tuple #[.agg #[.int .i64 0,.int .i64 0],.iface 127 (.int .i64 1)]) (by simp[results,Tryz.results163,go_sem]) rfl ⟨rfl,(by first|exact(Below.refl _ _).alloc (Nat.le_refl _) _|exact((((Below.refl _ _).alloc (Nat.le_refl _) _).setCell (Nat.le_refl _) _).setCell (Nat.le_refl _) _))⟩
  ·have g0:decide (c<0)=false:=by simpa using hc0
   have g1:decide ((n:Int)≤c)=true:=by simp;omega
   go_enter Tryz.func163,Tryz.ntmps163
   go_wp2
   exact bodyPost_ret (v:=.tuple #[.agg #[.int .i64 0,.int .i64 0],.iface 127 (.int .i64 1)]) (by simp[results,Tryz.results163,go_sem]) rfl ⟨rfl,(by first|exact(Below.refl _ _).alloc (Nat.le_refl _) _|exact((((Below.refl _ _).alloc (Nat.le_refl _) _).setCell (Nat.le_refl _) _).setCell (Nat.le_refl _) _))⟩
end Go.Proofs.YtonhoahnieoebabGreatDoor
