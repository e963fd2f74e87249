/- Sealed sectors (chapter 3), in the program and in the document's answer: what each call gives. -/
import Derived.Test.YtonhoahnieoebabGreatDoorQAShapeDefs
import Derived.Lib.ConvBytes
set_option maxHeartbeats 1000000
set_option maxRecDepth 100000
namespace Go.Proofs.YtonhoahnieoebabGreatDoor
open Go.RowKit
attribute [local go_sem ↓] Go.wp_at_zero Go.wp_at_succ
def byV(l:List Int):List Value:=l.map (Value.int .u8)
theorem Iy(l:List Int):∀ u∈byV l,u.oneCell'=true:=by
 intro u hu;obtain⟨n,_,rfl⟩:=List.mem_map.1 hu;rfl
theorem vT(l:List Int)(j:Nat)(hj:j<l.length):(byV l)[j]?=some (.int .u8 (l.getD j 0)):=by
 simp[byV,List.getElem?_eq_getElem hj,List.getD]
theorem RD:(Tryz.prog.info? 5).map (·.size)=some 1:=by kernel_rfl
def inB(n lo hi:Int):Bool:=decide (lo≤n∧n≤hi)
theorem Qz{a b:ByteArray}(h:a=b):Ending.returned (.string a)=.returned (.string b):=by rw[h]
theorem gU(n lo hi:Int)(w:World) :
  Calls Tryz.prog 211 #[.int .i64 n,.int .i64 lo,.int .i64 hi] w fun e w'=>e=.returned (.bool (inB n lo hi))∧w'=w:=by
 by_cases h0:lo≤n
 ·have g0:decide (lo≤n)=true:=by simpa using h0
  have HF:Hid (inB n lo hi=decide (n≤hi)):=by unfold Hid inB;simp[h0]
  go_enter Tryz.func211,Tryz.ntmps211
  go_wp2
  go_ret
  exact⟨rX HF.out.symm,rfl⟩
 ·have g0:decide (lo≤n)=false:=by simpa using h0
  have HF:Hid (inB n lo hi=false):=by unfold Hid inB;simp[h0]
  go_enter Tryz.func211,Tryz.ntmps211
  go_wp2
  go_ret
  exact⟨rX HF.out.symm,rfl⟩
theorem QM(w:World)(l:List Int)(b cap:Nat)(hl:l.length≤12)(hb:b<w.heap.size)(hc:∀ j,j<l.length→w.cell? ⟨b,j,none⟩=some (.int .u8 (l.getD j 0))) :
    (Builtin.copy_ #[206,206] 3 #[.slice (some ⟨w.heap.size,0,none⟩) 12 12,.slice (some ⟨b,0,none⟩) l.length cap]).run Tryz.prog (w.alloc (.cells #[.int .u8 0,.int .u8 0,.int .u8 0,.int .u8 0,.int .u8 0,.int .u8 0,.int .u8 0,.int .u8 0,.int .u8 0,.int .u8 0,.int .u8 0,.int .u8 0] 315)) =
      .ok (.int .i64 (l.length:Int)) (w.alloc (.cells (byV (kD l)).toArray 315)):=by
  have hm:(byV l).length=Nat.min l.length 12:=by
    rw[show Nat.min l.length 12=l.length from Nat.min_eq_left hl];simp[byV]
  have h:=run_copy_row (P:=Tryz.prog) (w.alloc (.cells #[.int .u8 0,.int .u8 0,.int .u8 0,.int .u8 0,.int .u8 0,.int .u8 0,.int .u8 0,.int .u8 0,.int .u8 0,.int .u8 0,.int .u8 0,.int .u8 0] 315)) 206 206 3 5 w.heap.size 0 12 12 ⟨b,0,none⟩ l.length cap _ 315 (byV l) Tryz.underlying206 RD (heap_alloc_new w _) hm
    (fun j v hj=>by
      have hjl:j<l.length:=by
        rcases Nat.lt_or_ge j l.length with h|h
        · exact h
        · rw[List.getElem?_eq_none (by simpa [byV] using h)] at hj;cases hj
      rw[vT l j hjl] at hj
      rw[Go.WideShapes.add_plain,Nat.zero_add,World.cell?_alloc_past _ _ _ hb,hc j hjl];exact hj)
    (by simp[byV];omega) (Iy l)
  have e1:(byV l).length=l.length:=by simp[byV]
  have e2:goInt (byV l).length=Value.int .i64 (l.length:Int):=by rw[e1];rfl
  have e3:(#[.int .u8 0,.int .u8 0,.int .u8 0,.int .u8 0,.int .u8 0,.int .u8 0,.int .u8 0,.int .u8 0,.int .u8 0,.int .u8 0,.int .u8 0,.int .u8 0]:Array Value).toList=List.replicate 12 (Value.int .u8 0):=rfl;have e4:byV (kD l)=byV l++List.replicate (12-l.length) (Value.int .u8 0):=by simp[byV,kD]
  rw[h,World.setRow_alloc_new,e2,e3,e1,List.take_zero,List.nil_append,Nat.zero_add,List.drop_replicate,← e4]
theorem QL(w:World)(l:List Int)(hl:l.length≤12) :
  (convert 206 9 (.slice (some ⟨w.heap.size,0,none⟩) 12 12)).run Tryz.prog (w.alloc (.cells (byV (kD l)).toArray 315))=.ok (.string (s12 l)) (w.alloc (.cells (byV (kD l)).toArray 315)):=by
 have hp:=zT l hl
 exact run_convert_bytes_arg (P:=Tryz.prog) _ 206 5 Tryz.underlying206 Tryz.underlying5 w.heap.size 0 12 12 (kD l) hp (fun i hi=>by
  rw[Nat.zero_add,cell_of_row _ _ _ _ _ _ (heap_alloc_new w _)];rw[List.getElem?_toArray]
  exact vT (kD l) i (by omega)) 9 Tryz.underlying9
theorem E8(l:List Int)(b cap:Nat)(w:World)(hl:l.length≤12)(hb:b<w.heap.size)(hc:∀ j,j<l.length→w.cell? ⟨b,j,none⟩=some (.int .u8 (l.getD j 0))) :
  Calls Tryz.prog 258 #[.slice (some ⟨b,0,none⟩) l.length cap] w fun e w'=>e=.returned (.string (aU l))∧Below w.heap.size w w':=by
 have hcp:=QM w l b cap hl hb hc;have hcv:=QL w l hl;have hsz:=xJ l hl;have HR:Hid (s12 l++four (Crc.total (s12 l).data.toList)=aU l):=rfl;have hf4:=Di (Crc.total (s12 l).data.toList);have htl:=Crc.AL (s12 l).data.toList;clear hc;generalize byV (kD l)=P at hcp hcv;generalize s12 l=S at hcv hsz HR hf4 htl;go_enter Tryz.func258,Tryz.ntmps258
 go_wp2_with fail
 refine(Ey S _ 1 _ (by unfold maxLen;omega) ?_).mono ?_
 ·simp[go_sem]
 rintro e w' ⟨rfl,rfl⟩;go_wp2_with fail
 refine(Bj _ _ htl).mono ?_;rintro e w' ⟨rfl,hb2⟩;go_wp2
 go_ret
 exact⟨Qz HR.out,(((Below.refl _ _).alloc (Nat.le_refl _) _).alloc (by simp) _).trans (hb2.mono (by simp;omega))⟩
theorem Qq(s:Nat)(w:World)(hs:s<4294967296) :
  Calls Tryz.prog 265 #[.int .u32 s] w fun e w'=>e=.returned (.string (four s))∧Below w.heap.size w w':=by
 have hcv:=run_convert_bytes_arg (P:=Tryz.prog) (w.alloc (.cells #[.int .u8 ((s:Int) % 256),.int .u8 ((s:Int) / 256 % 256),.int .u8 ((s:Int) / 65536 % 256),.int .u8 ((s:Int) / 16777216)] 5)) 206 5 Tryz.underlying206 Tryz.underlying5 w.heap.size 0 4 4 (zh s) rfl (cells4 w _ _ _ _) 9 Tryz.underlying9;go_enter Tryz.func265,Tryz.ntmps265
 go_wp2
 go_ret
 exact⟨rfl,(Below.refl _ _).alloc (Nat.le_refl _) _⟩
theorem ah{p:Prop}(h:p):Hid p:=h
theorem aB:erV 0=.nilIface:=by simp[erV]
theorem dM:erV 1=.iface 127 (.int .i64 1):=by simp[erV]
theorem mZ:erV 2=.iface 127 (.int .i64 2):=by simp[erV]
theorem KC:erV 3=.iface 127 (.int .i64 3):=by simp[erV]
theorem iw{a b:Value}(h:a=b):Ending.returned a=.returned b:=by rw[h]
theorem EN{a b:Int}(h:a=b):Ending.returned (.int .i64 a)=.returned (.int .i64 b):=by rw[h]
theorem QT(s:ByteArray)(h16:s.size=16):∃(T:Nat) (F:ByteArray),T<4294967296∧(uP s=(F.toList==(s.extract 12 s.size).toList)) ∧
  (∀(b:Nat) (W:World),W.cell? ⟨b,0,none⟩=some (.string (s.extract 0 12))→Calls Tryz.prog 264 #[.slice (some ⟨b,0,none⟩) 1 1] W fun e w'=>e=.returned (.int .u32 T)∧w'=W) ∧
  (∀ W:World,Calls Tryz.prog 263 #[.int .u32 T] W fun e w'=>e=.returned (.string F)∧Below W.heap.size W w') ∧
  (∀ W:World,Calls Tryz.prog 266 #[.string (s.extract 0 12)] W fun e w'=>e=.returned (.int .u32 T)∧w'=W) ∧
  (∀ W:World,Calls Tryz.prog 265 #[.int .u32 T] W fun e w'=>e=.returned (.string F)∧Below W.heap.size W w'):=by
 have hx:(s.extract 0 12).size≤12:=by rw[ByteArray.size_extract];omega
 have htl:=Crc.AL (s.extract 0 12).data.toList;exact⟨Crc.total (s.extract 0 12).data.toList,four (Crc.total (s.extract 0 12).data.toList),htl,rfl,fun b W h=>Ey _ b 1 W (by unfold maxLen;omega) h,fun W=>Bj _ W htl,fun W=>Qr _ W (by omega),fun W=>Qq _ W htl⟩
theorem o7(s:ByteArray)(w:World) :
    Calls Tryz.prog 232 #[.string s] w fun e w'=>e=.returned (erV (dX s))∧Below w.heap.size w w':=by
  by_cases h16:s.size=16
  · have g1:((s.size:Int) != 16)=false:=by simp;omega
    have g2:(12:Int)≤(s.size:Int):=by omega
    have hb0:Below w.heap.size w w.drew:=(Below.refl _ _).drew;obtain⟨T,F,htl,hq0,hOf,hBy,hSu,hFo⟩:=QT s h16;have HOf:=ah hOf;have HBy:=ah hBy;have HSu:=ah hSu;have HFo:=ah hFo;clear hOf hBy hSu hFo
    cases hq:uP s with
    | true =>
      have HF:Hid (erV (dX s)=.nilIface):=by unfold Hid dX;rw[if_pos h16,if_pos hq];exact aB
      rw[hq0] at hq;clear h16 hq0;go_enter Tryz.func232,Tryz.ntmps232
      go_wp2
      go_region_held3 (fun W=>Below w.heap.size w W) (first|(exact hb0)|assumption|(exact Below.alloc (by assumption) (Below.size (by assumption)) _))
        (first
          | (go_at_call 264;refine(HOf.out _ _ (cell_of_row _ _ _ _ _ _ (heap_alloc_new _ _))).mono ?_;rintro e w' ⟨rfl,rfl⟩)
          | (go_at_call 263;refine(HBy.out _).mono ?_;rintro e w5 ⟨rfl,hb5⟩;have hb6:=Below.trans (by assumption:Below w.heap.size w _) (hb5.mono (Below.size (by assumption)))))
      all_goals
        go_wp2
        go_ret
        exact⟨iw HF.out.symm,by assumption⟩
    | false =>
      have HF:Hid (erV (dX s)=.iface 127 (.int .i64 3)):=by unfold Hid dX;rw[if_pos h16,if_neg (by rw[hq];decide)];exact KC
      rw[hq0] at hq;clear h16 hq0;go_enter Tryz.func232,Tryz.ntmps232
      go_wp2
      go_region_held3 (fun W=>Below w.heap.size w W) (first|(exact hb0)|assumption|(exact Below.alloc (by assumption) (Below.size (by assumption)) _))
        (first
          | (go_at_call 264;refine(HOf.out _ _ (cell_of_row _ _ _ _ _ _ (heap_alloc_new _ _))).mono ?_;rintro e w' ⟨rfl,rfl⟩)
          | (go_at_call 263;refine(HBy.out _).mono ?_;rintro e w5 ⟨rfl,hb5⟩;have hb6:=Below.trans (by assumption:Below w.heap.size w _) (hb5.mono (Below.size (by assumption)))))
      all_goals
        go_wp2
        go_ret
        exact⟨iw HF.out.symm,by assumption⟩
  · have g1:((s.size:Int) != 16)=true:=by simp;omega
    have HF:Hid (erV (dX s)=.iface 127 (.int .i64 1)):=by unfold Hid dX;rw[if_neg h16];exact dM
    clear h16;go_enter Tryz.func232,Tryz.ntmps232
    go_wp2
    go_ret
    exact⟨iw HF.out.symm,Below.refl _ _⟩
theorem bT{n lo hi:Int}(h:lo≤n∧n≤hi):inB n lo hi=true:=decide_eq_true h
theorem oI{n lo hi:Int}(h:¬(lo≤n∧n≤hi)):inB n lo hi=false:=decide_eq_false h
theorem oZ(c p b:Int)(w:World) :
  Calls Tryz.prog 100 #[.agg #[.int .i64 c,.int .i64 p,.int .i64 b]] w fun e w'=>e=.returned (erV (HV.fault ⟨c,p,b⟩))∧Below w.heap.size w w':=by
 have hbel:Below w.heap.size w (w.alloc (.cells #[.int .i64 c,.int .i64 p,.int .i64 b] 103)):=(Below.refl _ _).alloc (Nat.le_refl _) _
 have hcase:(∃ H:Hid (erV (HV.fault ⟨c,p,b⟩)=.nilIface),inB c 1 32=true∧inB p 0 40=true∧inB b (-1) 4=true)∨∃ H:Hid (erV (HV.fault ⟨c,p,b⟩)=.iface 127 (.int .i64 1)),(inB c 1 32=false)∨(inB c 1 32=true∧inB p 0 40=false)∨(inB c 1 32=true∧inB p 0 40=true∧inB b (-1) 4=false):=by
  unfold Hid HV.fault HV.ok;simp only[decide_eq_true_eq];by_cases h1:1≤c∧c≤32
  ·by_cases h2:0≤p∧p≤40
   ·by_cases h3 : -1≤b∧b≤4
    ·exact .inl ⟨by rw[if_pos ⟨h1.1,h1.2,h2.1,h2.2,h3.1,h3.2⟩];exact aB,bT h1,bT h2,bT h3⟩
    ·exact .inr ⟨by rw[if_neg (by omega)];exact dM,.inr (.inr ⟨bT h1,bT h2,oI h3⟩)⟩
   ·exact .inr ⟨by rw[if_neg (by omega)];exact dM,.inr (.inl ⟨bT h1,oI h2⟩)⟩
  ·exact .inr ⟨by rw[if_neg (by omega)];exact dM,.inl (oI h1)⟩
 rcases hcase with⟨HF,g1,g2,g3⟩|⟨HF,g1|⟨g1,g2⟩|⟨g1,g2,g3⟩⟩
 ·go_enter Tryz.func100,Tryz.ntmps100
  go_wp2_with (go_at_call 211;refine(gU _ _ _ _).mono ?_;rintro e w' ⟨rfl,rfl⟩)
  go_ret
  exact⟨iw HF.out.symm,hbel⟩
 all_goals
  go_enter Tryz.func100,Tryz.ntmps100
  go_wp2_with (go_at_call 211;refine(gU _ _ _ _).mono ?_;rintro e w' ⟨rfl,rfl⟩)
  go_ret
  exact⟨iw HF.out.symm,hbel⟩
theorem lJ{W w1:World}(hb:Below W.heap.size W w1):(∀ b o,b<W.heap.size→w1.cell? ⟨b,o,none⟩=W.cell? ⟨b,o,none⟩)∧(∀ b o,b<W.heap.size→w1.frozen? ⟨b,o,none⟩=W.frozen? ⟨b,o,none⟩) :=
 ⟨fun b o h=>hb.cell (p:=⟨b,o,none⟩) h,fun b o h=>hb.frozen (p:=⟨b,o,none⟩) h⟩
theorem HV.fE{h:HV}(hk:h.ok=true):1≤h.c∧h.c≤32∧0≤h.p∧h.p≤40 ∧ -1≤h.b∧h.b≤4:=of_decide_eq_true hk
theorem BA(w:World)(l:List Int)(t:TypeId)(j:Nat)(hj:j<l.length):(w.alloc (.cells (byV l).toArray t)).cell? ⟨w.heap.size,j,none⟩=some (.int .u8 (l.getD j 0)):=by
 rw[cell_of_row _ _ _ _ _ _ (heap_alloc_new w _),List.getElem?_toArray];exact vT l j hj
theorem zq(c p b:Int)(w:World)(hk:HV.ok ⟨c,p,b⟩=true) :
  Calls Tryz.prog 240 #[.agg #[.int .i64 c,.int .i64 p,.int .i64 b]] w fun e w'=>e=.returned (.tuple #[.string (aU [83,89,c,p,b+1]),.nilIface])∧Below w.heap.size w w':=by
 have hch:=oZ c p b (w.alloc (.cells #[.int .i64 c,.int .i64 p,.int .i64 b] 103));have e0:erV (HV.fault ⟨c,p,b⟩)=.nilIface:=by unfold HV.fault;rw[if_pos hk];exact aB
 rw[e0] at hch;obtain⟨g1,g2,g3,g4,g5,g6⟩:=HV.fE hk;simp only at g1 g2 g3 g4 g5 g6;have HC:=ah hch;clear hch e0 hk;go_enter Tryz.func240,Tryz.ntmps240
 go_wp2_with fail
 refine HC.out.mono ?_;rintro e w1 ⟨rfl,hb1⟩;obtain⟨hc,hf⟩:=lJ hb1;have hz:w.heap.size<w1.heap.size:=by have:=hb1.size;simp at this;omega
 go_wp2_with fail
 refine(E8 [83,89,c,p,b+1] _ 5 _ (by simp) ?_ (BA w1 [83,89,c,p,b+1] 5)).mono ?_
 ·simp
 rintro e w2 ⟨rfl,hb2⟩;go_wp2
 go_ret2
 exact⟨rfl,((((Below.refl _ _).alloc (Nat.le_refl _) _).trans (hb1.mono (by simp))).alloc (by omega) _).trans (hb2.mono (by simp;omega))⟩
theorem Dy(c p b:Int)(w:World)(hk:HV.ok ⟨c,p,b⟩=false) :
  Calls Tryz.prog 240 #[.agg #[.int .i64 c,.int .i64 p,.int .i64 b]] w fun e w'=>e=.returned (.tuple #[.string ⟨#[]⟩,.iface 127 (.int .i64 1)])∧Below w.heap.size w w':=by
 have hch:=oZ c p b (w.alloc (.cells #[.int .i64 c,.int .i64 p,.int .i64 b] 103));have e0:erV (HV.fault ⟨c,p,b⟩)=.iface 127 (.int .i64 1):=by unfold HV.fault;rw[if_neg (by rw[hk];decide)];exact dM
 rw[e0] at hch;have HC:=ah hch;clear hch e0 hk;go_enter Tryz.func240,Tryz.ntmps240
 go_wp2_with fail
 refine HC.out.mono ?_;rintro e w1 ⟨rfl,hb1⟩;go_wp2
 go_ret2
 exact⟨rfl,((Below.refl _ _).alloc (Nat.le_refl _) _).trans (hb1.mono (by simp))⟩
theorem bZ{w w1 w2:World}{C:Array Value}{t:TypeId}{o:Obj}(hb1:Below (w.alloc (.cells C t)).heap.size (w.alloc (.cells C t)) w1)(hb2:Below (w1.alloc o).drew.heap.size (w1.alloc o).drew w2)(i:Nat)(v:Value)(hv:C[i]?=some v) :
  w2.cell? ⟨w.heap.size,i,none⟩=some v:=by
 have hz:=hb1.size;simp at hz
 rw[hb2.cell (by show w.heap.size<(w1.alloc o).heap.size;simp;omega)]
 show(w1.alloc o).cell? _=_
 rw[World.cell?_alloc_past _ _ _ (by show w.heap.size<w1.heap.size;omega),hb1.cell (by simp),cell_of_row _ _ _ _ _ _ (heap_alloc_new w _)]
 exact hv
theorem below3{w w1 w2:World}{o o':Obj}(hb1:Below (w.alloc o).heap.size (w.alloc o) w1)(hb2:Below (w1.alloc o').drew.heap.size (w1.alloc o').drew w2):Below w.heap.size w w2:=by
 have hz:=hb1.size;simp at hz
 have h1:Below w.heap.size w w1:=((Below.refl _ _).alloc (Nat.le_refl _) _).trans (hb1.mono (by simp))
 have h2:Below w.heap.size w (w1.alloc o').drew:=(h1.alloc h1.size _).drew;exact h2.trans (hb2.mono h2.size)
theorem rY{s:ByteArray}(hs:dX s=0):s.size=16:=by
 unfold dX at hs;split at hs
 ·assumption
 ·omega
theorem rW(s:ByteArray)(h:s.size=16):∃(h2:2<s.size) (h3:3<s.size) (h4:4<s.size),((s[2]'h2).toNat:Int)=bAt s 2∧((s[3]'h3).toNat:Int)=bAt s 3∧((s[4]'h4).toNat:Int)=bAt s 4 :=
 ⟨by omega,by omega,by omega,oz s 2 _,oz s 3 _,oz s 4 _⟩
theorem Qc(s:ByteArray)(w:World)(hs:dX s≠0) :
  Calls Tryz.prog 229 #[.string s] w fun e w'=>e=.returned (.tuple #[.agg (ji s).cells,erV (gZ s)])∧Below w.heap.size w w':=by
 have hch:=o7 s (w.alloc (.cells #[.int .i64 0,.int .i64 0,.int .i64 0] 103));have e1:gZ s=dX s:=by unfold gZ;rw[if_neg hs]
 have e2:ji s=HV.zero:=by unfold ji;rw[if_neg (fun h=>hs h.1)]
 have e3:erV (dX s)=.iface 127 (.int .i64 (dX s)):=by unfold erV;rw[if_neg hs]
 rw[e1,e2,e3];rw[e3] at hch;generalize dX s=f at hch;have HC:=ah hch;clear hch e1 e2 e3 hs;go_enter Tryz.func229,Tryz.ntmps229
 go_wp2_with fail
 refine HC.out.mono ?_;rintro e w1 ⟨rfl,hb1⟩;obtain⟨hc,hf⟩:=lJ hb1;have hz:w.heap.size<w1.heap.size:=by have:=hb1.size;simp at this;omega
 go_wp2
 exact bodyPost_ret (v:=.tuple #[.agg #[.int .i64 0,.int .i64 0,.int .i64 0],.iface 127 (.int .i64 f)]) (by simp[results,Tryz.results229,go_sem,hc]) rfl ⟨rfl,((((((Below.refl _ _).alloc (Nat.le_refl _) _).trans (hb1.mono (by simp))).setCell (by simp) _).setCell (by simp) _).setCell (by simp) _)⟩
theorem P9(s:ByteArray)(w:World)(hs:dX s=0)(hk:(lF s).ok=false) :
  Calls Tryz.prog 229 #[.string s] w fun e w'=>e=.returned (.tuple #[.agg (ji s).cells,erV (gZ s)])∧Below w.heap.size w w':=by
 have hch:=o7 s (w.alloc (.cells #[.int .i64 0,.int .i64 0,.int .i64 0] 103));have hg:ng s=false:=by unfold ng;rw[hk];rfl
 have e1:gZ s=2:=by unfold gZ;rw[if_pos hs,if_neg (by rw[hg];decide)]
 have e2:ji s=HV.zero:=by unfold ji;rw[if_neg (fun h=>by rw[hg] at h;exact absurd h.2 (by decide))]
 have h16:s.size=16:=rY hs;obtain⟨h2,h3,h4,b2,b3,b4⟩:=rW s h16;obtain⟨l2,u2⟩:=fK s 2;obtain⟨l3,u3⟩:=fK s 3;obtain⟨l4,u4⟩:=fK s 4;have HN:Hid (∀ W:World,Calls Tryz.prog 240 #[.agg #[.int .i64 (bAt s 2),.int .i64 (bAt s 3),.int .i64 (bAt s 4-1)]] W fun e w'=>e=.returned (.tuple #[.string ⟨#[]⟩,.iface 127 (.int .i64 1)])∧Below W.heap.size W w'):=fun W=>Dy _ _ _ W hk
 rw[e1,e2,mZ];rw[hs,aB] at hch;have HC:=ah hch;clear hch e1 e2 hs hk hg h16;generalize bAt s 2=x2 at b2 l2 u2 HN;generalize bAt s 3=x3 at b3 l3 u3 HN;generalize bAt s 4=x4 at b4 l4 u4 HN;go_enter Tryz.func229,Tryz.ntmps229
 go_wp2_with fail
 refine HC.out.mono ?_;rintro e w1 ⟨rfl,hb1⟩;obtain⟨hc,hf⟩:=lJ hb1;have hz:w.heap.size<w1.heap.size:=by have:=hb1.size;simp at this;omega
 go_wp2
 go_region
 go_wp2_with fail
 refine(HN.out _).mono ?_;rintro e w2 ⟨rfl,hb2⟩;obtain⟨hc2,hf2⟩:=lJ hb2;have hz2:w1.heap.size<w2.heap.size:=by have:=hb2.size;simp at this;omega
 go_wp2
 have q0:=bZ hb1 hb2 0 _ rfl;have q1:=bZ hb1 hb2 1 _ rfl;have q2:=bZ hb1 hb2 2 _ rfl;exact bodyPost_ret (v:=.tuple #[.agg #[.int .i64 0,.int .i64 0,.int .i64 0],.iface 127 (.int .i64 2)]) (by simp[results,Tryz.results229,go_sem,q0,q1,q2]) rfl ⟨rfl,(((below3 hb1 hb2).setCell (Nat.le_refl _) _).setCell (Nat.le_refl _) _).setCell (Nat.le_refl _) _⟩
theorem Qb(s:ByteArray)(w:World)(hs:dX s=0)(hk:(lF s).ok=true)(ht:((aU (lF s).bytes).toList==s.toList)=false) :
  Calls Tryz.prog 229 #[.string s] w fun e w'=>e=.returned (.tuple #[.agg (ji s).cells,erV (gZ s)])∧Below w.heap.size w w':=by
 have hch:=o7 s (w.alloc (.cells #[.int .i64 0,.int .i64 0,.int .i64 0] 103));have hg:ng s=false:=by unfold ng;rw[ht,Bool.and_false]
 have e1:gZ s=2:=by unfold gZ;rw[if_pos hs,if_neg (by rw[hg];decide)]
 have e2:ji s=HV.zero:=by unfold ji;rw[if_neg (fun h=>by rw[hg] at h;exact absurd h.2 (by decide))]
 have h16:s.size=16:=rY hs;obtain⟨h2,h3,h4,b2,b3,b4⟩:=rW s h16;obtain⟨l2,u2⟩:=fK s 2;obtain⟨l3,u3⟩:=fK s 3;obtain⟨l4,u4⟩:=fK s 4;obtain⟨X,hX⟩:∃ X:ByteArray,X=aU (lF s).bytes:=⟨_,rfl⟩;have HX:Hid (X=aU [83,89,bAt s 2,bAt s 3,bAt s 4-1+1]):=hX;have ht2:(X.toList==s.toList)=false:=by rw[hX];exact ht
 clear hX ht;have HN:Hid (∀ W:World,Calls Tryz.prog 240 #[.agg #[.int .i64 (bAt s 2),.int .i64 (bAt s 3),.int .i64 (bAt s 4-1)]] W fun e w'=>e=.returned (.tuple #[.string X,.nilIface])∧Below W.heap.size W w'):=fun W=>by rw[HX.out];exact zq _ _ _ W hk
 rw[e1,e2,mZ];rw[hs,aB] at hch;have HC:=ah hch;clear hch e1 e2 hs hk hg h16 HX;generalize bAt s 2=x2 at b2 l2 u2 HN;generalize bAt s 3=x3 at b3 l3 u3 HN;generalize bAt s 4=x4 at b4 l4 u4 HN;go_enter Tryz.func229,Tryz.ntmps229
 go_wp2_with fail
 refine HC.out.mono ?_;rintro e w1 ⟨rfl,hb1⟩;obtain⟨hc,hf⟩:=lJ hb1;have hz:w.heap.size<w1.heap.size:=by have:=hb1.size;simp at this;omega
 go_wp2
 go_region
 go_wp2_with fail
 refine(HN.out _).mono ?_;rintro e w2 ⟨rfl,hb2⟩;obtain⟨hc2,hf2⟩:=lJ hb2;have hz2:w1.heap.size<w2.heap.size:=by have:=hb2.size;simp at this;omega
 go_wp2
 have q0:=bZ hb1 hb2 0 _ rfl;have q1:=bZ hb1 hb2 1 _ rfl;have q2:=bZ hb1 hb2 2 _ rfl;exact bodyPost_ret (v:=.tuple #[.agg #[.int .i64 0,.int .i64 0,.int .i64 0],.iface 127 (.int .i64 2)]) (by simp[results,Tryz.results229,go_sem,q0,q1,q2]) rfl ⟨rfl,(((below3 hb1 hb2).setCell (Nat.le_refl _) _).setCell (Nat.le_refl _) _).setCell (Nat.le_refl _) _⟩
theorem Qa(s:ByteArray)(w:World)(hs:dX s=0)(hk:(lF s).ok=true)(ht:((aU (lF s).bytes).toList==s.toList)=true) :
  Calls Tryz.prog 229 #[.string s] w fun e w'=>e=.returned (.tuple #[.agg (ji s).cells,erV (gZ s)])∧Below w.heap.size w w':=by
 have hch:=o7 s (w.alloc (.cells #[.int .i64 0,.int .i64 0,.int .i64 0] 103));have hg:ng s=true:=by unfold ng;rw[ht,hk];rfl
 have e1:gZ s=0:=by unfold gZ;rw[if_pos hs,if_pos hg]
 have e2:ji s=⟨bAt s 2,bAt s 3,bAt s 4-1⟩:=by unfold ji;rw[if_pos ⟨hs,hg⟩];rfl
 have h16:s.size=16:=rY hs;obtain⟨h2,h3,h4,b2,b3,b4⟩:=rW s h16;obtain⟨l2,u2⟩:=fK s 2;obtain⟨l3,u3⟩:=fK s 3;obtain⟨l4,u4⟩:=fK s 4;obtain⟨X,hX⟩:∃ X:ByteArray,X=aU (lF s).bytes:=⟨_,rfl⟩;have HX:Hid (X=aU [83,89,bAt s 2,bAt s 3,bAt s 4-1+1]):=hX;have ht2:(X.toList==s.toList)=true:=by rw[hX];exact ht
 clear hX ht;have HN:Hid (∀ W:World,Calls Tryz.prog 240 #[.agg #[.int .i64 (bAt s 2),.int .i64 (bAt s 3),.int .i64 (bAt s 4-1)]] W fun e w'=>e=.returned (.tuple #[.string X,.nilIface])∧Below W.heap.size W w'):=fun W=>by rw[HX.out];exact zq _ _ _ W hk
 rw[e1,e2,aB];rw[hs,aB] at hch;have HC:=ah hch;clear hch e1 e2 hs hk hg h16 HX;generalize bAt s 2=x2 at b2 l2 u2 HN ⊢;generalize bAt s 3=x3 at b3 l3 u3 HN ⊢;generalize bAt s 4=x4 at b4 l4 u4 HN ⊢;go_enter Tryz.func229,Tryz.ntmps229
 go_wp2_with fail
 refine HC.out.mono ?_;rintro e w1 ⟨rfl,hb1⟩;obtain⟨hc,hf⟩:=lJ hb1;have hz:w.heap.size<w1.heap.size:=by have:=hb1.size;simp at this;omega
 go_wp2
 go_region
 go_wp2_with fail
 refine(HN.out _).mono ?_;rintro e w2 ⟨rfl,hb2⟩;obtain⟨hc2,hf2⟩:=lJ hb2;have hz2:w1.heap.size<w2.heap.size:=by have:=hb2.size;simp at this;omega
 go_wp2
 have q0:=bZ hb1 hb2 0 _ rfl;have q1:=bZ hb1 hb2 1 _ rfl;have q2:=bZ hb1 hb2 2 _ rfl;exact bodyPost_ret (v:=.tuple #[.agg #[.int .i64 x2,.int .i64 x3,.int .i64 (x4-1)],.nilIface]) (by simp[results,Tryz.results229,go_sem,q0,q1,q2]) rfl ⟨rfl,(((below3 hb1 hb2).setCell (Nat.le_refl _) _).setCell (Nat.le_refl _) _).setCell (Nat.le_refl _) _⟩
theorem EL(s:ByteArray)(w:World) :
  Calls Tryz.prog 229 #[.string s] w fun e w'=>e=.returned (.tuple #[.agg (ji s).cells,erV (gZ s)])∧Below w.heap.size w w':=by
 by_cases hs:dX s=0
 ·cases hk:(lF s).ok with
  | false=>exact P9 s w hs hk
  | true =>
   cases ht:((aU (lF s).bytes).toList==s.toList) with
   | false=>exact Qb s w hs hk ht
   | true=>exact Qa s w hs hk ht
 ·exact Qc s w hs
theorem dF{w w1 w2:World}{C:Array Value}{t:TypeId}{o:Obj}(hb1:Below (w.alloc (.cells C t)).heap.size (w.alloc (.cells C t)) w1)(hb2:Below (w1.alloc o).drew.heap.size (w1.alloc o).drew w2)(i:Nat) :
  w2.frozen? ⟨w.heap.size,i,none⟩=false:=by
 have hz:=hb1.size;simp at hz
 rw[hb2.frozen (by show w.heap.size<(w1.alloc o).heap.size;simp;omega)]
 show(w1.alloc o).frozen? _=_
 rw[World.frozen?_alloc_past _ _ _ (by show w.heap.size<w1.heap.size;omega),hb1.frozen (by simp),frozen_of_row _ _ _ _ _ (heap_alloc_new w _)]
theorem kN{w1 w2:World}{C:Array Value}{t:TypeId}(hb2:Below (w1.alloc (.cells C t)).drew.heap.size (w1.alloc (.cells C t)).drew w2)(i:Nat)(v:Value)(hv:C[i]?=some v):w2.cell? ⟨w1.heap.size,i,none⟩=some v:=by
 rw[hb2.cell (by show w1.heap.size<(w1.alloc (.cells C t)).heap.size;simp)]
 show(w1.alloc (.cells C t)).cell? _=_
 rw[cell_of_row _ _ _ _ _ _ (heap_alloc_new w1 _)];exact hv
theorem jL{a b:Int}(h:a≠b):(a==b)=false∧(a != b)=true:=by simp[h]
theorem qE{a b:Int}(h:a=b):(a==b)=true∧(a != b)=false:=by simp[h]
def bM(k p places:Int):Bool:=decide ((k=2∧0≤p∧p<places)∨((k=0∨k=1)∧p=0))
theorem kS{k p n:Int}(h:(k=2∧0≤p∧p<n)∨((k=0∨k=1)∧p=0)):bM k p n=true:=decide_eq_true h
theorem Ku{k p n:Int}(h:¬((k=2∧0≤p∧p<n)∨((k=0∨k=1)∧p=0))):bM k p n=false:=decide_eq_false h
theorem iK{k p n:Int}(h:bM k p n=true):(k=2∧0≤p∧p<n)∨((k=0∨k=1)∧p=0):=of_decide_eq_true h
theorem Kv{k p n:Int}(h:bM k p n=false):¬((k=2∧0≤p∧p<n)∨((k=0∨k=1)∧p=0)):=of_decide_eq_false h
theorem rJ(k p:Int)(w:World) :
  Calls Tryz.prog 271 #[.agg #[.int .i64 k,.int .i64 p]] w fun e w'=>e=.returned (.bool (bM k p 40))∧Below w.heap.size w w':=by
 have hbel:Below w.heap.size w (w.alloc (.cells #[.int .i64 k,.int .i64 p] 211)):=(Below.refl _ _).alloc (Nat.le_refl _) _;by_cases h0:k=0
 ·have HE:Hid (bM k p 40=(p==0)):=by
   unfold Hid;rw[Bool.eq_iff_iff,beq_iff_eq];exact⟨fun h=>by have:=iK h;omega,fun h=>kS (.inr ⟨.inl h0,h⟩)⟩
  obtain⟨v1,v2⟩:=qE h0;clear h0;go_enter Tryz.func271,Tryz.ntmps271
  go_wp2
  go_ret
  exact⟨rX HE.out.symm,hbel⟩
 ·by_cases h1:k=1
  ·have HE:Hid (bM k p 40=(p==0)):=by
    unfold Hid;rw[Bool.eq_iff_iff,beq_iff_eq];exact⟨fun h=>by have:=iK h;omega,fun h=>kS (.inr ⟨.inr h1,h⟩)⟩
   obtain⟨v1,v2⟩:=jL h0;obtain⟨v3,v4⟩:=qE h1;clear h0 h1;go_enter Tryz.func271,Tryz.ntmps271
   go_wp2
   go_ret
   exact⟨rX HE.out.symm,hbel⟩
  ·obtain⟨v1,v2⟩:=jL h0
   obtain⟨v3,v4⟩:=jL h1;by_cases h2:k=2
   ·have HE:Hid (bM k p 40=inB p 0 39):=by
     unfold Hid;rw[Bool.eq_iff_iff];exact⟨fun h=>bT (by have:=iK h;omega),fun h=>kS (.inl ⟨h2,by have:=of_decide_eq_true h;omega⟩)⟩
    obtain⟨v5,v6⟩:=qE h2;clear h0 h1 h2;go_enter Tryz.func271,Tryz.ntmps271
    go_wp2_with (go_at_call 211;refine(gU _ _ _ _).mono ?_;rintro e w' ⟨rfl,rfl⟩)
    go_ret
    exact⟨rX HE.out.symm,hbel⟩
   ·have HE:Hid (bM k p 40=false):=Ku (by omega)
    obtain⟨v5,v6⟩:=jL h2;clear h0 h1 h2;go_enter Tryz.func271,Tryz.ntmps271
    go_wp2
    go_ret
    exact⟨rX HE.out.symm,hbel⟩
def aA(n:Nat):Nat:=(n+7) / 8
theorem qh(n:Nat)(w:World)(h:n≤50) :
  Calls Tryz.prog 155 #[.int .i64 (n:Int)] w fun e w'=>e=.returned (.int .i64 (aA n:Int))∧w'=w:=by
 go_enter Tryz.func155,Tryz.ntmps155
 go_wp2
 go_ret
 exact⟨EN (by unfold aA;omega),rfl⟩
def nK(w:World)(la:Option Addr)(len:Nat)(ts:List (Int × Int)):Prop :=
 ts.length=len∧∀ k,k<len→∃ b off,la=some ⟨b,off,none⟩∧w.cell? ⟨b,off+k*2,none⟩=some (.int .i64 (ts.getD k (0,0)).1)∧w.cell? ⟨b,off+k*2+1,none⟩=some (.int .i64 (ts.getD k (0,0)).2)
theorem nK.below{w w':World}{la:Option Addr}{len:Nat}{ts:List (Int × Int)}(h:nK w la len ts)(hb:Below w.heap.size w w'):nK w' la len ts:=by
 refine⟨h.1,fun k hk=>?_⟩
 obtain⟨b,off,e,h1,h2⟩:=h.2 k hk;exact⟨b,off,e,by rw[hb.cell (World.block_lt_of_cell? w _ h1)];exact h1,by rw[hb.cell (World.block_lt_of_cell? w _ h2)];exact h2⟩
def dP(ts:List (Int × Int))(r k:Nat):List Int:=(List.range 16).map fun j=>if j / 2<k then (if j % 2=0 then (ts.getD (r*8+j / 2) (0,0)).1 else (ts.getD (r*8+j / 2) (0,0)).2) else 0
theorem xI(ts:List (Int × Int))(r k:Nat):(dP ts r k).length=16:=by simp[dP]
theorem ET(ts:List (Int × Int))(r:Nat):dP ts r 0=List.replicate 16 0:=by
 simp[dP,List.map_const']
theorem ES(ts:List (Int × Int))(r k:Nat):dP ts r (k+1)=((dP ts r k).set (k*2) (ts.getD (r*8+k) (0,0)).1).set (k*2+1) (ts.getD (r*8+k) (0,0)).2:=by
 apply List.ext_getElem?
 intro j;by_cases hj:j<16
 ·rw[List.getElem?_set,List.getElem?_set]
  by_cases e1:k*2+1=j
  ·have a1:j / 2=k:=by omega
   have a2:¬j % 2=0:=by omega
   simp[dP,hj,e1,a1,a2]
  ·rw[if_neg e1]
   by_cases e0:k*2=j
   ·have a1:j / 2=k:=by omega
    have a2:j % 2=0:=by omega
    simp[dP,hj,e0,a1,a2]
   ·rw[if_neg e0]
    have a1:j / 2<k+1↔j / 2<k:=by omega
    simp[dP,hj,a1]
 ·rw[List.getElem?_eq_none (by rw[xI];omega),List.getElem?_eq_none (by rw[List.length_set,List.length_set,xI];omega)]
theorem QC(ts:List (Int × Int))(r k:Nat)(h:ts.length≤r*8+k):dP ts r k=dP ts r 8:=by
 unfold dP;apply List.map_congr_left
 intro j hj;have hj':=List.mem_range.1 hj;have h8:j / 2<8:=by omega
 rw[if_pos h8];by_cases e:j / 2<k
 ·rw[if_pos e]
 ·rw[if_neg e]
  have:ts.getD (r*8+j / 2) (0,0)=(0,0):=by
   rw[List.getD_eq_getElem?_getD,List.getElem?_eq_none (by omega)];rfl
  rw[this];simp
def rowOk(ts:List (Int × Int))(r:Nat):Bool:=(List.range 8).all fun i=>bM (ts.getD (r*8+i) (0,0)).1 (ts.getD (r*8+i) (0,0)).2 40
def qg(ts:List (Int × Int))(row:Int):Bool:=decide (ts.length≤32∧0≤row∧row<aA ts.length)
def jM(ts:List (Int × Int))(row:Int):Int:=if qg ts row=true then (if rowOk ts row.toNat=true then 0 else 2) else 1
def dG(ts:List (Int × Int))(row:Int):ByteArray:=if jM ts row=0 then strOfNums (dP ts row.toNat 8) else ⟨#[]⟩
theorem QA{ts:List (Int × Int)}{r i:Nat}(hi:i<8)(h:bM (ts.getD (r*8+i) (0,0)).1 (ts.getD (r*8+i) (0,0)).2 40=false):rowOk ts r=false:=by
 unfold rowOk;rw[List.all_eq_false];exact⟨i,List.mem_range.2 hi,by rw[h];decide⟩
theorem EO{ts:List (Int × Int)}{r k:Nat}(hk:ts.length≤r*8+k∨8≤k)(h:∀ i,i<k→bM (ts.getD (r*8+i) (0,0)).1 (ts.getD (r*8+i) (0,0)).2 40=true):rowOk ts r=true:=by
 unfold rowOk;rw[List.all_eq_true];intro i hi;have hi':=List.mem_range.1 hi;by_cases e:i<k
 ·exact h i e
 ·have:ts.getD (r*8+i) (0,0)=(0,0):=by
   rw[List.getD_eq_getElem?_getD,List.getElem?_eq_none (by omega)];rfl
  rw[this];decide
structure jq(w:World)(N:Nat)(bs:List Int)(wr:World):Prop where
 blk:wr.heap[N]?=some (.cells (byV bs).toArray 260 (0,0))
 bel:Below w.heap.size w wr
 len:bs.length=16
 new:w.heap.size≤N
theorem jq.cell{w wr:World}{N:Nat}{bs:List Int}(h:jq w N bs wr)(j:Nat)(hj:j<16):wr.cell? ⟨N,j,none⟩=some (.int .u8 (bs.getD j 0)):=by
 rw[cell_of_row _ _ _ _ _ _ h.blk,List.getElem?_toArray];exact vT bs j (by rw[h.len];exact hj)
theorem jq.frozen{w wr:World}{N:Nat}{bs:List Int}(h:jq w N bs wr)(j:Nat):wr.frozen? ⟨N,j,none⟩=false:=frozen_of_row _ _ _ _ _ h.blk
theorem lG{w:World}{k:Nat}{o:Obj}(h:w.heap[k]?=some o):k<w.heap.size:=by
 rcases Nat.lt_or_ge k w.heap.size with h1|h1
 ·exact h1
 ·rw[Array.getElem?_eq_none h1] at h;cases h
theorem jq.below{w wr w2:World}{N:Nat}{bs:List Int}(h:jq w N bs wr)(hb:Below wr.heap.size wr w2):jq w N bs w2 :=
 ⟨by rw[hb.block N (lG h.blk)];exact h.blk,h.bel.trans (hb.mono h.bel.size),h.len,h.new⟩
theorem jq.set{w wr:World}{N:Nat}{bs:List Int}(h:jq w N bs wr)(j:Nat)(v:Int):jq w N (bs.set j v) (wr.setCell ⟨N,j,none⟩ (.int .u8 v)):=by
 refine⟨?_,h.bel.setCell h.new _,by rw[List.length_set];exact h.len,h.new⟩
 rw[heap_setCell_same wr N j _ _ _ h.blk];simp[byV,List.map_set]
theorem jq.start(w:World):jq w w.heap.size (List.replicate 16 0) (w.alloc (.cells #[.int .u8 0,.int .u8 0,.int .u8 0,.int .u8 0,.int .u8 0,.int .u8 0,.int .u8 0,.int .u8 0,.int .u8 0,.int .u8 0,.int .u8 0,.int .u8 0,.int .u8 0,.int .u8 0,.int .u8 0,.int .u8 0] 260)) :=
 ⟨heap_alloc_new w _,(Below.refl _ _).alloc (Nat.le_refl _) _,by simp,Nat.le_refl _⟩
theorem jq.conv{w wr:World}{N:Nat}{bs:List Int}(h:jq w N bs wr):(convert 206 9 (.slice (some ⟨N,0,none⟩) 16 16)).run Tryz.prog wr=.ok (.string (strOfNums bs)) wr :=
 run_convert_bytes_arg (P:=Tryz.prog) wr 206 5 Tryz.underlying206 Tryz.underlying5 N 0 16 16 bs h.len (fun i hi=>by rw[Nat.zero_add];exact h.cell i hi) 9 Tryz.underlying9
theorem QE(la:Option Addr)(len cap:Nat)(ts:List (Int × Int))(row:Int)(w:World)(hT:nK w la len ts)(hlen:len≤50)(hr:qg ts row=false) :
  Calls Tryz.prog 239 #[.slice la len cap,.int .i64 row] w fun e w'=>e=.returned (.tuple #[.string (dG ts row),erV (jM ts row)])∧Below w.heap.size w w':=by
 have e1:jM ts row=1:=by unfold jM;rw[if_neg (by rw[hr];decide)]
 have e2:dG ts row=⟨#[]⟩:=by unfold dG;rw[e1,if_neg (by decide)]
 rw[e2,e1,dM];have hl:=hT.1;have hr':=of_decide_eq_false hr;rw[hl] at hr';clear hT e1 e2 hr hl;by_cases h32:32<len
 ·have g1:decide (32<(len:Int))=true:=by simp;omega
  clear hr';go_enter Tryz.func239,Tryz.ntmps239
  go_wp2
  go_ret2
  exact⟨rfl,Below.refl _ _⟩
 ·have g1:decide (32<(len:Int))=false:=by simp;omega
  have g2:inB row 0 ((aA len:Int)-1)=false:=oI (by omega)
  have g3:aA len≤7:=by unfold aA;omega
  have HR:=ah (qh len w (by omega))
  generalize aA len=rn at g2 g3 HR;clear hr';go_enter Tryz.func239,Tryz.ntmps239
  go_wp2_with (first|(go_at_call 155;refine HR.out.mono ?_;rintro e w' ⟨rfl,rfl⟩)|(go_at_call 211;refine(gU _ _ _ _).mono ?_;rintro e w' ⟨rfl,rfl⟩))
  go_ret2
  exact⟨rfl,Below.refl _ _⟩
theorem row_in(b off len cap:Nat)(ts:List (Int × Int))(r:Nat)(w:World)(hT:nK w (some ⟨b,off,none⟩) len ts)(hlen:len≤32)(hr:r<aA len)(hcap:len≤cap) :
  Calls Tryz.prog 239 #[.slice (some ⟨b,off,none⟩) len cap,.int .i64 (r:Int)] w fun e w'=>e=.returned (.tuple #[.string (dG ts r),erV (jM ts r)])∧Below w.heap.size w w':=by
 have hin:qg ts r=true:=decide_eq_true (by rw[hT.1];omega)
 have HR:=ah (qh len w (by omega))
 have g1:decide (32<(len:Int))=false:=by simp;omega
 have g2:inB r 0 ((aA len:Int)-1)=true:=bT (by omega)
 have hr8:r*8<len:=by unfold aA at hr;omega
 have hrn:aA len≤4:=by unfold aA;omega
 have HT:=ah hT;have HI:=ah hin;clear hT hin;obtain⟨rn,hrn2⟩:∃ rn,rn=aA len:=⟨_,rfl⟩;rw[← hrn2] at HR g2 hr hrn;clear hrn2
 obtain⟨cnt,hc1,hc2,hc3⟩:∃ cnt:Nat,cnt≤8∧r*8+cnt≤len∧(cnt=8∨r*8+cnt=len):=by
  by_cases h:r*8+8≤len
  ·exact⟨8,by omega,h,.inl rfl⟩
  ·exact⟨len-r*8,by omega,by omega,.inr (by omega)⟩
 have hcnt:((r:Int)*8+8≤(len:Int)∧((r:Int)*8+8).toNat-r*8=cnt)∨(¬(r:Int)*8+8≤(len:Int)∧len-r*8=cnt):=by omega
 have HE2:Hid (∀ k,k<cnt→bM (ts.getD (r*8+k) (0,0)).1 (ts.getD (r*8+k) (0,0)).2 40=false→erV (jM ts r)=.iface 127 (.int .i64 2)∧dG ts r=⟨#[]⟩):=fun k hk he=>by
  have e1:jM ts r=2:=by unfold jM;rw[if_pos HI.out,if_neg (by rw[show(r:Int).toNat=r from rfl,QA (by omega) he];decide)]
  exact⟨by rw[e1];exact mZ,by unfold dG;rw[e1,if_neg (by decide)]⟩
 have HE0:Hid ((∀ k,k<cnt→bM (ts.getD (r*8+k) (0,0)).1 (ts.getD (r*8+k) (0,0)).2 40=true)→erV (jM ts r)=.nilIface∧strOfNums (dP ts r cnt)=dG ts r):=fun h=>by
  have e1:jM ts r=0:=by unfold jM;rw[if_pos HI.out,if_pos (show rowOk ts (r:Int).toNat=true from EO (by rw[HT.out.1];omega) h)]
  refine⟨by rw[e1];exact aB,?_⟩
  unfold dG;rw[if_pos e1];rcases hc3 with rfl|h3
  ·rfl
  ·rw[QC ts r cnt (by rw[HT.out.1];omega)];rfl
 clear hc3;rcases hcnt with⟨h8,hA⟩|⟨h8,hA⟩
 ·have e8:cnt=8:=by omega
  clear hA;subst e8;go_enter Tryz.func239,Tryz.ntmps239
  go_wp2_with (first|(go_at_call 155;refine HR.out.mono ?_;rintro e w' ⟨rfl,hw⟩;have hw':=hw.symm;subst hw';clear hw)|(go_at_call 211;refine(gU _ _ _ _).mono ?_;rintro e w' ⟨rfl,hw⟩;have hw':=hw.symm;subst hw';clear hw))
  rw[show r*8+8-r*8=8 by omega]
  clear h8 g1 g2 HR;go_loopw [34] (fun i wr=>∃ k:Nat,k≤8∧i=.int .i64 k∧jq w w.heap.size (dP ts r k) wr∧∀ j,j<k→bM (ts.getD (r*8+j) (0,0)).1 (ts.getD (r*8+j) (0,0)).2 40=true) (fun i _=>8-(intOf i).toNat)
  case atStart=>exact⟨0,Nat.zero_le _,rfl,by rw[ET];exact jq.start w,fun j hj=>by omega⟩
  case round =>
   obtain⟨k,hk,rfl,hR,hall⟩:=hrel;by_cases hlt:k<8
   ·obtain⟨b',off',e,h1,h2⟩:=HT.out.2 (r*8+k) (by omega)
    cases e
    rw[← hR.bel.cell (World.block_lt_of_cell? w _ h1),show off+(r*8+k)*2=off+r*8*2+k*2 by omega] at h1
    rw[← hR.bel.cell (World.block_lt_of_cell? w _ h2),show off+(r*8+k)*2+1=off+r*8*2+k*2+1 by omega] at h2
    have HS:Hid (dP ts r (k+1)=((dP ts r k).set (k*2) (ts.getD (r*8+k) (0,0)).1).set (k*2+1) (ts.getD (r*8+k) (0,0)).2):=ES ts r k;have HN2:=ah (HE2.out k hlt);have hE:=rJ (ts.getD (r*8+k) (0,0)).1 (ts.getD (r*8+k) (0,0)).2 (wr.alloc (.cells #[.int .i64 (ts.getD (r*8+k) (0,0)).1,.int .i64 (ts.getD (r*8+k) (0,0)).2] 211))
    cases he:bM (ts.getD (r*8+k) (0,0)).1 (ts.getD (r*8+k) (0,0)).2 40 with
    | false =>
     have HN3:=ah (HN2.out he);have HRA:=ah hR;rw[he] at hE;have HE:=ah hE;clear hE he HS HN2 hall hR;generalize (ts.getD (r*8+k) (0,0)).1=kk at h1 HE;generalize (ts.getD (r*8+k) (0,0)).2=pp at h2 HE;go_wp2_with fail
     refine HE.out.mono ?_;rintro e w2 ⟨rfl,hb2⟩;go_wp2
     go_ret2
     exact⟨by rw[HN3.out.1,HN3.out.2];rfl,(HRA.out.below (((Below.refl _ _).alloc (Nat.le_refl _) _).trans (hb2.mono (by simp)))).bel⟩
    | true =>
     have HA:Hid (∀ j,j<k+1→bM (ts.getD (r*8+j) (0,0)).1 (ts.getD (r*8+j) (0,0)).2 40=true):=fun j hj=>by
      by_cases e:j=k
      ·rw[e];exact he
      ·exact hall j (by omega)
     have HRA:=ah hR;have hbd:=iK he;rw[he] at hE;have HE:=ah hE;clear hE he HN2 hall hR;generalize (ts.getD (r*8+k) (0,0)).1=kk at h1 HE HS hbd;generalize (ts.getD (r*8+k) (0,0)).2=pp at h2 HE HS hbd;have k0:0≤kk:=by omega
     have k1:kk<256:=by omega
     have p0:0≤pp:=by omega
     have p1:pp<256:=by omega
     clear hbd;go_wp2_with fail
     refine HE.out.mono ?_;rintro e w2 ⟨rfl,hb2⟩;have hR2:=HRA.out.below (((Below.refl _ _).alloc (Nat.le_refl _) _).trans (hb2.mono (by simp)))
     have b0:w2.cell? ⟨wr.heap.size,0,none⟩=some (.int .i64 kk):=by rw[hb2.cell (by simp),cell_of_row _ _ _ _ _ _ (heap_alloc_new wr _)];rfl
     have b1:w2.cell? ⟨wr.heap.size,1,none⟩=some (.int .i64 pp):=by rw[hb2.cell (by simp),cell_of_row _ _ _ _ _ _ (heap_alloc_new wr _)];rfl
     have c0:=hR2.cell (k*2) (by omega)
     have c1:=hR2.cell (k*2+1) (by omega)
     have f0:=hR2.frozen (k*2);have f1:=hR2.frozen (k*2+1);have i0:(k:Int)*2<16:=by omega
     have i1:(k:Int)*2+1<16:=by omega
     have HR2:=ah hR2;clear hR2 hb2 HE h1 h2;go_wp2
     go_region
     go_wp2
     go_roundw
     case rel =>
      have hs:=(HR2.out.set (k*2) kk).set (k*2+1) pp;rw[← HS.out] at hs;have fin:∃ k1:Nat,k1≤8∧Value.int .i64 ((k:Int)+1)=.int .i64 k1∧jq w w.heap.size (dP ts r k1) ((w2.setCell ⟨w.heap.size,k*2,none⟩ (.int .u8 kk)).setCell ⟨w.heap.size,k*2+1,none⟩ (.int .u8 pp)).drew∧∀ j,j<k1→bM (ts.getD (r*8+j) (0,0)).1 (ts.getD (r*8+j) (0,0)).2 40=true:=⟨k+1,by omega,by go_num,hs.below ((Below.refl _ _).drew),HA.out⟩
      first|exact fin|((repeat apply Exists.intro);exact⟨fin,rfl⟩)
     case measure=>simp[intOf];omega
   ·have hkn:k=8:=by omega
    subst hkn;have HN0:=ah (HE0.out hall);have hcv:=hR.conv;have HRB:=ah hR.bel;rw[HN0.out.2] at hcv;clear hR hall;go_wp2
    go_ret2
    exact⟨by rw[HN0.out.1];rfl,HRB.out⟩
 ·have HAA:=ah hA
  clear hA;go_enter Tryz.func239,Tryz.ntmps239
  go_wp2_with (first|(go_at_call 155;refine HR.out.mono ?_;rintro e w' ⟨rfl,hw⟩;have hw':=hw.symm;subst hw';clear hw)|(go_at_call 211;refine(gU _ _ _ _).mono ?_;rintro e w' ⟨rfl,hw⟩;have hw':=hw.symm;subst hw';clear hw))
  rw[HAA.out];clear h8 HAA g1 g2 HR;go_loopw [34] (fun i wr=>∃ k:Nat,k≤cnt∧i=.int .i64 k∧jq w w.heap.size (dP ts r k) wr∧∀ j,j<k→bM (ts.getD (r*8+j) (0,0)).1 (ts.getD (r*8+j) (0,0)).2 40=true) (fun i _=>cnt-(intOf i).toNat)
  case atStart=>exact⟨0,Nat.zero_le _,rfl,by rw[ET];exact jq.start w,fun j hj=>by omega⟩
  case round =>
   obtain⟨k,hk,rfl,hR,hall⟩:=hrel;by_cases hlt:k<cnt
   ·obtain⟨b',off',e,h1,h2⟩:=HT.out.2 (r*8+k) (by omega)
    cases e
    rw[← hR.bel.cell (World.block_lt_of_cell? w _ h1),show off+(r*8+k)*2=off+r*8*2+k*2 by omega] at h1
    rw[← hR.bel.cell (World.block_lt_of_cell? w _ h2),show off+(r*8+k)*2+1=off+r*8*2+k*2+1 by omega] at h2
    have HS:Hid (dP ts r (k+1)=((dP ts r k).set (k*2) (ts.getD (r*8+k) (0,0)).1).set (k*2+1) (ts.getD (r*8+k) (0,0)).2):=ES ts r k;have HN2:=ah (HE2.out k hlt);have hE:=rJ (ts.getD (r*8+k) (0,0)).1 (ts.getD (r*8+k) (0,0)).2 (wr.alloc (.cells #[.int .i64 (ts.getD (r*8+k) (0,0)).1,.int .i64 (ts.getD (r*8+k) (0,0)).2] 211))
    cases he:bM (ts.getD (r*8+k) (0,0)).1 (ts.getD (r*8+k) (0,0)).2 40 with
    | false =>
     have HN3:=ah (HN2.out he);have HRA:=ah hR;rw[he] at hE;have HE:=ah hE;clear hE he HS HN2 hall hR;generalize (ts.getD (r*8+k) (0,0)).1=kk at h1 HE;generalize (ts.getD (r*8+k) (0,0)).2=pp at h2 HE;go_wp2_with fail
     refine HE.out.mono ?_;rintro e w2 ⟨rfl,hb2⟩;go_wp2
     go_ret2
     exact⟨by rw[HN3.out.1,HN3.out.2];rfl,(HRA.out.below (((Below.refl _ _).alloc (Nat.le_refl _) _).trans (hb2.mono (by simp)))).bel⟩
    | true =>
     have HA:Hid (∀ j,j<k+1→bM (ts.getD (r*8+j) (0,0)).1 (ts.getD (r*8+j) (0,0)).2 40=true):=fun j hj=>by
      by_cases e:j=k
      ·rw[e];exact he
      ·exact hall j (by omega)
     have HRA:=ah hR;have hbd:=iK he;rw[he] at hE;have HE:=ah hE;clear hE he HN2 hall hR;generalize (ts.getD (r*8+k) (0,0)).1=kk at h1 HE HS hbd;generalize (ts.getD (r*8+k) (0,0)).2=pp at h2 HE HS hbd;have k0:0≤kk:=by omega
     have k1:kk<256:=by omega
     have p0:0≤pp:=by omega
     have p1:pp<256:=by omega
     clear hbd;go_wp2_with fail
     refine HE.out.mono ?_;rintro e w2 ⟨rfl,hb2⟩;have hR2:=HRA.out.below (((Below.refl _ _).alloc (Nat.le_refl _) _).trans (hb2.mono (by simp)))
     have b0:w2.cell? ⟨wr.heap.size,0,none⟩=some (.int .i64 kk):=by rw[hb2.cell (by simp),cell_of_row _ _ _ _ _ _ (heap_alloc_new wr _)];rfl
     have b1:w2.cell? ⟨wr.heap.size,1,none⟩=some (.int .i64 pp):=by rw[hb2.cell (by simp),cell_of_row _ _ _ _ _ _ (heap_alloc_new wr _)];rfl
     have c0:=hR2.cell (k*2) (by omega)
     have c1:=hR2.cell (k*2+1) (by omega)
     have f0:=hR2.frozen (k*2);have f1:=hR2.frozen (k*2+1);have i0:(k:Int)*2<16:=by omega
     have i1:(k:Int)*2+1<16:=by omega
     have HR2:=ah hR2;clear hR2 hb2 HE h1 h2;go_wp2
     go_region
     go_wp2
     go_roundw
     case rel =>
      have hs:=(HR2.out.set (k*2) kk).set (k*2+1) pp;rw[← HS.out] at hs;have fin:∃ k1:Nat,k1≤cnt∧Value.int .i64 ((k:Int)+1)=.int .i64 k1∧jq w w.heap.size (dP ts r k1) ((w2.setCell ⟨w.heap.size,k*2,none⟩ (.int .u8 kk)).setCell ⟨w.heap.size,k*2+1,none⟩ (.int .u8 pp)).drew∧∀ j,j<k1→bM (ts.getD (r*8+j) (0,0)).1 (ts.getD (r*8+j) (0,0)).2 40=true:=⟨k+1,by omega,by go_num,hs.below ((Below.refl _ _).drew),HA.out⟩
      first|exact fin|((repeat apply Exists.intro);exact⟨fin,rfl⟩)
     case measure=>simp[intOf];omega
   ·have hkn:k=cnt:=by omega
    subst hkn;have HN0:=ah (HE0.out hall);have hcv:=hR.conv;have HRB:=ah hR.bel;rw[HN0.out.2] at hcv;clear hR hall;go_wp2
    go_ret2
    exact⟨by rw[HN0.out.1];rfl,HRB.out⟩
theorem QD(la:Option Addr)(len cap:Nat)(ts:List (Int × Int))(row:Int)(w:World)(hT:nK w la len ts)(hlen:len≤50)(hcap:len≤cap) :
  Calls Tryz.prog 239 #[.slice la len cap,.int .i64 row] w fun e w'=>e=.returned (.tuple #[.string (dG ts row),erV (jM ts row)])∧Below w.heap.size w w':=by
 cases hr:qg ts row with
 | false=>exact QE la len cap ts row w hT hlen hr
 | true =>
  have hr':=of_decide_eq_true hr;obtain⟨r,rfl⟩:=Int.eq_ofNat_of_zero_le hr'.2.1;rw[hT.1] at hr'
  have hpos:0<len:=by
   rcases Nat.eq_zero_or_pos len with h|h
   ·subst h;simp[aA] at hr';omega
   ·exact h
  obtain⟨b,off,rfl,_⟩:=hT.2 0 hpos;exact row_in b off len cap ts r w hT hr'.1 (by omega) hcap
end Go.Proofs.YtonhoahnieoebabGreatDoor
