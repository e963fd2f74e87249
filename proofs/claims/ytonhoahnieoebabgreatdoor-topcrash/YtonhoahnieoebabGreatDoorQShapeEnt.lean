/- Sealed sectors (chapter 3), in the program and in the document's answer: what each call gives. -/
import Derived.Test.YtonhoahnieoebabGreatDoorQShapeDefs
import Derived.Lib.ConvBytes
set_option maxHeartbeats 1000000
set_option maxRecDepth 100000
namespace Go.Proofs.YtonhoahnieoebabGreatDoor
open Go.RowKit
attribute [local go_sem ↓] Go.wp_at_zero Go.wp_at_succ
def byV(l:List Int):List Value:=l.map (Value.int .u8)
theorem PG(l:List Int):∀ u∈byV l,u.oneCell'=true:=by
 intro u hu
 obtain⟨n,_,rfl⟩:=List.mem_map.1 hu
 rfl
theorem wK(l:List Int)(j:Nat)(hj:j<l.length):(byV l)[j]?=some (.int .u8 (l.getD j 0)):=by
 simp[byV,List.getElem?_eq_getElem hj,List.getD]
theorem Ov:(Tryz.prog.info? 5).map (·.size)=some 1:=by kernel_rfl
def inB(n lo hi:Int):Bool:=decide (lo≤n∧n≤hi)
theorem Ol{a b:ByteArray}(h:a=b):Ending.returned (.string a)=.returned (.string b):=by rw[h]
theorem gU(n lo hi:Int)(w:World) :
  Calls Tryz.prog 211 #[.int .i64 n,.int .i64 lo,.int .i64 hi] w fun e w'=>e=.returned (.bool (inB n lo hi))∧w'=w:=by
 by_cases h0:lo≤n
 ·have g0:decide (lo≤n)=true:=by simpa using h0
  have HF:Hid (inB n lo hi=decide (n≤hi)):=by unfold Hid inB;simp[h0]
  go_enter Tryz.func211,Tryz.ntmps211
  go_wp2
  go_ret
  exact⟨qZ HF.out.symm,rfl⟩
 ·have g0:decide (lo≤n)=false:=by simpa using h0
  have HF:Hid (inB n lo hi=false):=by unfold Hid inB;simp[h0]
  go_enter Tryz.func211,Tryz.ntmps211
  go_wp2
  go_ret
  exact⟨qZ HF.out.symm,rfl⟩
theorem U0(w:World)(l:List Int)(b cap:Nat)(hl:l.length≤12)(hb:b<w.heap.size)(hc:∀ j,j<l.length→w.cell? ⟨b,j,none⟩=some (.int .u8 (l.getD j 0))) :
    (Builtin.copy_ #[206,206] 3 #[.slice (some ⟨w.heap.size,0,none⟩) 12 12,.slice (some ⟨b,0,none⟩) l.length cap]).run Tryz.prog (w.alloc (.cells #[.int .u8 0,.int .u8 0,.int .u8 0,.int .u8 0,.int .u8 0,.int .u8 0,.int .u8 0,.int .u8 0,.int .u8 0,.int .u8 0,.int .u8 0,.int .u8 0] 315)) =
      .ok (.int .i64 (l.length:Int)) (w.alloc (.cells (byV (kC l)).toArray 315)):=by
  have hm:(byV l).length=Nat.min l.length 12:=by
    rw[show Nat.min l.length 12=l.length from Nat.min_eq_left hl];simp[byV]
  have h:=run_copy_row (P:=Tryz.prog) (w.alloc (.cells #[.int .u8 0,.int .u8 0,.int .u8 0,.int .u8 0,.int .u8 0,.int .u8 0,.int .u8 0,.int .u8 0,.int .u8 0,.int .u8 0,.int .u8 0,.int .u8 0] 315)) 206 206 3 5 w.heap.size 0 12 12 ⟨b,0,none⟩ l.length cap _ 315 (byV l) Tryz.underlying206 Ov (heap_alloc_new w _) hm
    (fun j v hj=>by
      have hjl:j<l.length:=by
        rcases Nat.lt_or_ge j l.length with h|h
        · exact h
        · rw[List.getElem?_eq_none (by simpa [byV] using h)] at hj;cases hj
      rw[wK l j hjl] at hj
      rw[Go.WideShapes.add_plain,Nat.zero_add,World.cell?_alloc_past _ _ _ hb,hc j hjl];exact hj)
    (by simp[byV];omega) (PG l)
  have e1:(byV l).length=l.length:=by simp[byV]
  have e2:goInt (byV l).length=Value.int .i64 (l.length:Int):=by rw[e1];rfl
  have e3:(#[.int .u8 0,.int .u8 0,.int .u8 0,.int .u8 0,.int .u8 0,.int .u8 0,.int .u8 0,.int .u8 0,.int .u8 0,.int .u8 0,.int .u8 0,.int .u8 0]:Array Value).toList=List.replicate 12 (Value.int .u8 0):=rfl
  have e4:byV (kC l)=byV l++List.replicate (12-l.length) (Value.int .u8 0):=by simp[byV,kC]
  rw[h,World.setRow_alloc_new,e2,e3,e1,List.take_zero,List.nil_append,Nat.zero_add,List.drop_replicate,← e4]
theorem KW(w:World)(l:List Int)(hl:l.length≤12) :
  (convert 206 9 (.slice (some ⟨w.heap.size,0,none⟩) 12 12)).run Tryz.prog (w.alloc (.cells (byV (kC l)).toArray 315))=.ok (.string (s12 l)) (w.alloc (.cells (byV (kC l)).toArray 315)):=by
 have hp:=yU l hl
 exact run_convert_bytes_arg (P:=Tryz.prog) _ 206 5 Tryz.underlying206 Tryz.underlying5 w.heap.size 0 12 12 (kC l) hp (fun i hi=>by
  rw[Nat.zero_add,cell_of_row _ _ _ _ _ _ (heap_alloc_new w _)]
  rw[List.getElem?_toArray]
  exact wK (kC l) i (by omega)) 9 Tryz.underlying9
theorem CY(l:List Int)(b cap:Nat)(w:World)(hl:l.length≤12)(hb:b<w.heap.size)(hc:∀ j,j<l.length→w.cell? ⟨b,j,none⟩=some (.int .u8 (l.getD j 0))) :
  Calls Tryz.prog 258 #[.slice (some ⟨b,0,none⟩) l.length cap] w fun e w'=>e=.returned (.string (aU l))∧Below w.heap.size w w':=by
 have hcp:=U0 w l b cap hl hb hc
 have hcv:=KW w l hl
 have hsz:=vT l hl
 have HR:Hid (s12 l++four (Crc.total (s12 l).data.toList)=aU l):=rfl
 have hf4:=F8 (Crc.total (s12 l).data.toList)
 have htl:=Crc.yL (s12 l).data.toList
 clear hc
 generalize byV (kC l)=P at hcp hcv
 generalize s12 l=S at hcv hsz HR hf4 htl
 go_enter Tryz.func258,Tryz.ntmps258
 go_wp2_with fail
 refine(Hu S _ 1 _ (by unfold maxLen;omega) ?_).mono ?_
 ·simp[go_sem]
 rintro e w' ⟨rfl,rfl⟩
 go_wp2_with fail
 refine(DL _ _ htl).mono ?_
 rintro e w' ⟨rfl,hb2⟩
 go_wp2
 go_ret
 exact⟨Ol HR.out,(((Below.refl _ _).alloc (Nat.le_refl _) _).alloc (by simp) _).trans (hb2.mono (by simp;omega))⟩
theorem PZ(s:Nat)(w:World)(hs:s<4294967296) :
  Calls Tryz.prog 265 #[.int .u32 s] w fun e w'=>e=.returned (.string (four s))∧Below w.heap.size w w':=by
 have hcv:=run_convert_bytes_arg (P:=Tryz.prog) (w.alloc (.cells #[.int .u8 ((s:Int) % 256),.int .u8 ((s:Int) / 256 % 256),.int .u8 ((s:Int) / 65536 % 256),.int .u8 ((s:Int) / 16777216)] 5)) 206 5 Tryz.underlying206 Tryz.underlying5 w.heap.size 0 4 4 (zq s) rfl (cells4 w _ _ _ _) 9 Tryz.underlying9
 go_enter Tryz.func265,Tryz.ntmps265
 go_wp2
 go_ret
 exact⟨rfl,(Below.refl _ _).alloc (Nat.le_refl _) _⟩
theorem ah{p:Prop}(h:p):Hid p:=h
theorem aB:erV 0=.nilIface:=by simp[erV]
theorem dM:erV 1=.iface 127 (.int .i64 1):=by simp[erV]
theorem nH:erV 2=.iface 127 (.int .i64 2):=by simp[erV]
theorem P7:erV 3=.iface 127 (.int .i64 3):=by simp[erV]
theorem gY{a b:Value}(h:a=b):Ending.returned a=.returned b:=by rw[h]
theorem DR{a b:Int}(h:a=b):Ending.returned (.int .i64 a)=.returned (.int .i64 b):=by rw[h]
theorem Um(s:ByteArray)(h16:s.size=16):∃(T:Nat) (F:ByteArray),T<4294967296∧(vI s=(F.toList==(s.extract 12 s.size).toList)) ∧
  (∀(b:Nat) (W:World),W.cell? ⟨b,0,none⟩=some (.string (s.extract 0 12))→Calls Tryz.prog 264 #[.slice (some ⟨b,0,none⟩) 1 1] W fun e w'=>e=.returned (.int .u32 T)∧w'=W) ∧
  (∀ W:World,Calls Tryz.prog 263 #[.int .u32 T] W fun e w'=>e=.returned (.string F)∧Below W.heap.size W w') ∧
  (∀ W:World,Calls Tryz.prog 266 #[.string (s.extract 0 12)] W fun e w'=>e=.returned (.int .u32 T)∧w'=W) ∧
  (∀ W:World,Calls Tryz.prog 265 #[.int .u32 T] W fun e w'=>e=.returned (.string F)∧Below W.heap.size W w'):=by
 have hx:(s.extract 0 12).size≤12:=by rw[ByteArray.size_extract];omega
 have htl:=Crc.yL (s.extract 0 12).data.toList
 exact⟨Crc.total (s.extract 0 12).data.toList,four (Crc.total (s.extract 0 12).data.toList),htl,rfl,fun b W h=>Hu _ b 1 W (by unfold maxLen;omega) h,fun W=>DL _ W htl,fun W=>Nb _ W (by omega),fun W=>PZ _ W htl⟩
theorem pX(s:ByteArray)(w:World) :
    Calls Tryz.prog 232 #[.string s] w fun e w'=>e=.returned (erV (dV s))∧Below w.heap.size w w':=by
  by_cases h16:s.size=16
  · have g1:((s.size:Int) != 16)=false:=by simp;omega
    have g2:(12:Int)≤(s.size:Int):=by omega
    have hb0:Below w.heap.size w w.drew:=(Below.refl _ _).drew
    obtain⟨T,F,htl,hq0,hOf,hBy,hSu,hFo⟩:=Um s h16
    have HOf:=ah hOf
    have HBy:=ah hBy
    have HSu:=ah hSu
    have HFo:=ah hFo
    clear hOf hBy hSu hFo
    cases hq:vI s with
    | true =>
      have HF:Hid (erV (dV s)=.nilIface):=by unfold Hid dV;rw[if_pos h16,if_pos hq];exact aB
      rw[hq0] at hq
      clear h16 hq0
      go_enter Tryz.func232,Tryz.ntmps232
      go_wp2
      go_region_held3 (fun W=>Below w.heap.size w W) (first|(exact hb0)|assumption|(exact Below.alloc (by assumption) (Below.size (by assumption)) _))
        (first
          | (go_at_call 264;refine(HOf.out _ _ (cell_of_row _ _ _ _ _ _ (heap_alloc_new _ _))).mono ?_;rintro e w' ⟨rfl,rfl⟩)
          | (go_at_call 263;refine(HBy.out _).mono ?_;rintro e w5 ⟨rfl,hb5⟩;have hb6:=Below.trans (by assumption:Below w.heap.size w _) (hb5.mono (Below.size (by assumption)))))
      all_goals
        go_wp2
        go_ret
        exact⟨gY HF.out.symm,by assumption⟩
    | false =>
      have HF:Hid (erV (dV s)=.iface 127 (.int .i64 3)):=by unfold Hid dV;rw[if_pos h16,if_neg (by rw[hq];decide)];exact P7
      rw[hq0] at hq
      clear h16 hq0
      go_enter Tryz.func232,Tryz.ntmps232
      go_wp2
      go_region_held3 (fun W=>Below w.heap.size w W) (first|(exact hb0)|assumption|(exact Below.alloc (by assumption) (Below.size (by assumption)) _))
        (first
          | (go_at_call 264;refine(HOf.out _ _ (cell_of_row _ _ _ _ _ _ (heap_alloc_new _ _))).mono ?_;rintro e w' ⟨rfl,rfl⟩)
          | (go_at_call 263;refine(HBy.out _).mono ?_;rintro e w5 ⟨rfl,hb5⟩;have hb6:=Below.trans (by assumption:Below w.heap.size w _) (hb5.mono (Below.size (by assumption)))))
      all_goals
        go_wp2
        go_ret
        exact⟨gY HF.out.symm,by assumption⟩
  · have g1:((s.size:Int) != 16)=true:=by simp;omega
    have HF:Hid (erV (dV s)=.iface 127 (.int .i64 1)):=by unfold Hid dV;rw[if_neg h16];exact dM
    clear h16
    go_enter Tryz.func232,Tryz.ntmps232
    go_wp2
    go_ret
    exact⟨gY HF.out.symm,Below.refl _ _⟩
theorem bU{n lo hi:Int}(h:lo≤n∧n≤hi):inB n lo hi=true:=decide_eq_true h
theorem oG{n lo hi:Int}(h:¬(lo≤n∧n≤hi)):inB n lo hi=false:=decide_eq_false h
theorem pG(c p b:Int)(w:World) :
  Calls Tryz.prog 100 #[.agg #[.int .i64 c,.int .i64 p,.int .i64 b]] w fun e w'=>e=.returned (erV (HV.fault ⟨c,p,b⟩))∧Below w.heap.size w w':=by
 have hbel:Below w.heap.size w (w.alloc (.cells #[.int .i64 c,.int .i64 p,.int .i64 b] 103)):=(Below.refl _ _).alloc (Nat.le_refl _) _
 have hcase:(∃ H:Hid (erV (HV.fault ⟨c,p,b⟩)=.nilIface),inB c 1 32=true∧inB p 0 40=true∧inB b (-1) 4=true)∨∃ H:Hid (erV (HV.fault ⟨c,p,b⟩)=.iface 127 (.int .i64 1)),(inB c 1 32=false)∨(inB c 1 32=true∧inB p 0 40=false)∨(inB c 1 32=true∧inB p 0 40=true∧inB b (-1) 4=false):=by
  unfold Hid HV.fault HV.ok
  simp only[decide_eq_true_eq]
  by_cases h1:1≤c∧c≤32
  ·by_cases h2:0≤p∧p≤40
   ·by_cases h3 : -1≤b∧b≤4
    ·exact .inl ⟨by rw[if_pos ⟨h1.1,h1.2,h2.1,h2.2,h3.1,h3.2⟩];exact aB,bU h1,bU h2,bU h3⟩
    ·exact .inr ⟨by rw[if_neg (by omega)];exact dM,.inr (.inr ⟨bU h1,bU h2,oG h3⟩)⟩
   ·exact .inr ⟨by rw[if_neg (by omega)];exact dM,.inr (.inl ⟨bU h1,oG h2⟩)⟩
  ·exact .inr ⟨by rw[if_neg (by omega)];exact dM,.inl (oG h1)⟩
 rcases hcase with⟨HF,g1,g2,g3⟩|⟨HF,g1|⟨g1,g2⟩|⟨g1,g2,g3⟩⟩
 ·go_enter Tryz.func100,Tryz.ntmps100
  go_wp2_with (go_at_call 211;refine(gU _ _ _ _).mono ?_;rintro e w' ⟨rfl,rfl⟩)
  go_ret
  exact⟨gY HF.out.symm,hbel⟩
 all_goals
  go_enter Tryz.func100,Tryz.ntmps100
  go_wp2_with (go_at_call 211;refine(gU _ _ _ _).mono ?_;rintro e w' ⟨rfl,rfl⟩)
  go_ret
  exact⟨gY HF.out.symm,hbel⟩
theorem lX{W w1:World}(hb:Below W.heap.size W w1):(∀ b o,b<W.heap.size→w1.cell? ⟨b,o,none⟩=W.cell? ⟨b,o,none⟩)∧(∀ b o,b<W.heap.size→w1.frozen? ⟨b,o,none⟩=W.frozen? ⟨b,o,none⟩) :=
 ⟨fun b o h=>hb.cell (p:=⟨b,o,none⟩) h,fun b o h=>hb.frozen (p:=⟨b,o,none⟩) h⟩
theorem HV.eH{h:HV}(hk:h.ok=true):1≤h.c∧h.c≤32∧0≤h.p∧h.p≤40 ∧ -1≤h.b∧h.b≤4:=of_decide_eq_true hk
theorem Ij(w:World)(l:List Int)(t:TypeId)(j:Nat)(hj:j<l.length):(w.alloc (.cells (byV l).toArray t)).cell? ⟨w.heap.size,j,none⟩=some (.int .u8 (l.getD j 0)):=by
 rw[cell_of_row _ _ _ _ _ _ (heap_alloc_new w _),List.getElem?_toArray]
 exact wK l j hj
theorem zA(c p b:Int)(w:World)(hk:HV.ok ⟨c,p,b⟩=true) :
  Calls Tryz.prog 240 #[.agg #[.int .i64 c,.int .i64 p,.int .i64 b]] w fun e w'=>e=.returned (.tuple #[.string (aU [83,89,c,p,b+1]),.nilIface])∧Below w.heap.size w w':=by
 have hch:=pG c p b (w.alloc (.cells #[.int .i64 c,.int .i64 p,.int .i64 b] 103))
 have e0:erV (HV.fault ⟨c,p,b⟩)=.nilIface:=by unfold HV.fault;rw[if_pos hk];exact aB
 rw[e0] at hch
 obtain⟨g1,g2,g3,g4,g5,g6⟩:=HV.eH hk
 simp only at g1 g2 g3 g4 g5 g6
 have HC:=ah hch
 clear hch e0 hk
 go_enter Tryz.func240,Tryz.ntmps240
 go_wp2_with fail
 refine HC.out.mono ?_
 rintro e w1 ⟨rfl,hb1⟩
 obtain⟨hc,hf⟩:=lX hb1
 have hz:w.heap.size<w1.heap.size:=by have:=hb1.size;simp at this;omega
 go_wp2_with fail
 refine(CY [83,89,c,p,b+1] _ 5 _ (by simp) ?_ (Ij w1 [83,89,c,p,b+1] 5)).mono ?_
 ·simp
 rintro e w2 ⟨rfl,hb2⟩
 go_wp2
 go_ret2
 exact⟨rfl,((((Below.refl _ _).alloc (Nat.le_refl _) _).trans (hb1.mono (by simp))).alloc (by omega) _).trans (hb2.mono (by simp;omega))⟩
theorem CB(c p b:Int)(w:World)(hk:HV.ok ⟨c,p,b⟩=false) :
  Calls Tryz.prog 240 #[.agg #[.int .i64 c,.int .i64 p,.int .i64 b]] w fun e w'=>e=.returned (.tuple #[.string ⟨#[]⟩,.iface 127 (.int .i64 1)])∧Below w.heap.size w w':=by
 have hch:=pG c p b (w.alloc (.cells #[.int .i64 c,.int .i64 p,.int .i64 b] 103))
 have e0:erV (HV.fault ⟨c,p,b⟩)=.iface 127 (.int .i64 1):=by unfold HV.fault;rw[if_neg (by rw[hk];decide)];exact dM
 rw[e0] at hch
 have HC:=ah hch
 clear hch e0 hk
 go_enter Tryz.func240,Tryz.ntmps240
 go_wp2_with fail
 refine HC.out.mono ?_
 rintro e w1 ⟨rfl,hb1⟩
 go_wp2
 go_ret2
 exact⟨rfl,((Below.refl _ _).alloc (Nat.le_refl _) _).trans (hb1.mono (by simp))⟩
theorem bZ{w w1 w2:World}{C:Array Value}{t:TypeId}{o:Obj}(hb1:Below (w.alloc (.cells C t)).heap.size (w.alloc (.cells C t)) w1)(hb2:Below (w1.alloc o).drew.heap.size (w1.alloc o).drew w2)(i:Nat)(v:Value)(hv:C[i]?=some v) :
  w2.cell? ⟨w.heap.size,i,none⟩=some v:=by
 have hz:=hb1.size
 simp at hz
 rw[hb2.cell (by show w.heap.size<(w1.alloc o).heap.size;simp;omega)]
 show(w1.alloc o).cell? _=_
 rw[World.cell?_alloc_past _ _ _ (by show w.heap.size<w1.heap.size;omega),hb1.cell (by simp),cell_of_row _ _ _ _ _ _ (heap_alloc_new w _)]
 exact hv
theorem below3{w w1 w2:World}{o o':Obj}(hb1:Below (w.alloc o).heap.size (w.alloc o) w1)(hb2:Below (w1.alloc o').drew.heap.size (w1.alloc o').drew w2):Below w.heap.size w w2:=by
 have hz:=hb1.size
 simp at hz
 have h1:Below w.heap.size w w1:=((Below.refl _ _).alloc (Nat.le_refl _) _).trans (hb1.mono (by simp))
 have h2:Below w.heap.size w (w1.alloc o').drew:=(h1.alloc h1.size _).drew
 exact h2.trans (hb2.mono h2.size)
theorem rZ{s:ByteArray}(hs:dV s=0):s.size=16:=by
 unfold dV at hs
 split at hs
 ·assumption
 ·omega
theorem rX(s:ByteArray)(h:s.size=16):∃(h2:2<s.size) (h3:3<s.size) (h4:4<s.size),((s[2]'h2).toNat:Int)=bAt s 2∧((s[3]'h3).toNat:Int)=bAt s 3∧((s[4]'h4).toNat:Int)=bAt s 4 :=
 ⟨by omega,by omega,by omega,oz s 2 _,oz s 3 _,oz s 4 _⟩
theorem JR(s:ByteArray)(w:World)(hs:dV s≠0) :
  Calls Tryz.prog 229 #[.string s] w fun e w'=>e=.returned (.tuple #[.agg (iT s).cells,erV (gX s)])∧Below w.heap.size w w':=by
 have hch:=pX s (w.alloc (.cells #[.int .i64 0,.int .i64 0,.int .i64 0] 103))
 have e1:gX s=dV s:=by unfold gX;rw[if_neg hs]
 have e2:iT s=HV.zero:=by unfold iT;rw[if_neg (fun h=>hs h.1)]
 have e3:erV (dV s)=.iface 127 (.int .i64 (dV s)):=by unfold erV;rw[if_neg hs]
 rw[e1,e2,e3]
 rw[e3] at hch
 generalize dV s=f at hch
 have HC:=ah hch
 clear hch e1 e2 e3 hs
 go_enter Tryz.func229,Tryz.ntmps229
 go_wp2_with fail
 refine HC.out.mono ?_
 rintro e w1 ⟨rfl,hb1⟩
 obtain⟨hc,hf⟩:=lX hb1
 have hz:w.heap.size<w1.heap.size:=by have:=hb1.size;simp at this;omega
 go_wp2
 exact bodyPost_ret (v:=.tuple #[.agg #[.int .i64 0,.int .i64 0,.int .i64 0],.iface 127 (.int .i64 f)]) (by simp[results,Tryz.results229,go_sem,hc]) rfl ⟨rfl,((((((Below.refl _ _).alloc (Nat.le_refl _) _).trans (hb1.mono (by simp))).setCell (by simp) _).setCell (by simp) _).setCell (by simp) _)⟩
theorem IL(s:ByteArray)(w:World)(hs:dV s=0)(hk:(kX s).ok=false) :
  Calls Tryz.prog 229 #[.string s] w fun e w'=>e=.returned (.tuple #[.agg (iT s).cells,erV (gX s)])∧Below w.heap.size w w':=by
 have hch:=pX s (w.alloc (.cells #[.int .i64 0,.int .i64 0,.int .i64 0] 103))
 have hg:mG s=false:=by unfold mG;rw[hk];rfl
 have e1:gX s=2:=by unfold gX;rw[if_pos hs,if_neg (by rw[hg];decide)]
 have e2:iT s=HV.zero:=by unfold iT;rw[if_neg (fun h=>by rw[hg] at h;exact absurd h.2 (by decide))]
 have h16:s.size=16:=rZ hs
 obtain⟨h2,h3,h4,b2,b3,b4⟩:=rX s h16
 obtain⟨l2,u2⟩:=fH s 2
 obtain⟨l3,u3⟩:=fH s 3
 obtain⟨l4,u4⟩:=fH s 4
 have HN:Hid (∀ W:World,Calls Tryz.prog 240 #[.agg #[.int .i64 (bAt s 2),.int .i64 (bAt s 3),.int .i64 (bAt s 4-1)]] W fun e w'=>e=.returned (.tuple #[.string ⟨#[]⟩,.iface 127 (.int .i64 1)])∧Below W.heap.size W w'):=fun W=>CB _ _ _ W hk
 rw[e1,e2,nH]
 rw[hs,aB] at hch
 have HC:=ah hch
 clear hch e1 e2 hs hk hg h16
 generalize bAt s 2=x2 at b2 l2 u2 HN
 generalize bAt s 3=x3 at b3 l3 u3 HN
 generalize bAt s 4=x4 at b4 l4 u4 HN
 go_enter Tryz.func229,Tryz.ntmps229
 go_wp2_with fail
 refine HC.out.mono ?_
 rintro e w1 ⟨rfl,hb1⟩
 obtain⟨hc,hf⟩:=lX hb1
 have hz:w.heap.size<w1.heap.size:=by have:=hb1.size;simp at this;omega
 go_wp2
 go_region
 go_wp2_with fail
 refine(HN.out _).mono ?_
 rintro e w2 ⟨rfl,hb2⟩
 obtain⟨hc2,hf2⟩:=lX hb2
 have hz2:w1.heap.size<w2.heap.size:=by have:=hb2.size;simp at this;omega
 go_wp2
 have q0:=bZ hb1 hb2 0 _ rfl
 have q1:=bZ hb1 hb2 1 _ rfl
 have q2:=bZ hb1 hb2 2 _ rfl
 exact bodyPost_ret (v:=.tuple #[.agg #[.int .i64 0,.int .i64 0,.int .i64 0],.iface 127 (.int .i64 2)]) (by simp[results,Tryz.results229,go_sem,q0,q1,q2]) rfl ⟨rfl,(((below3 hb1 hb2).setCell (Nat.le_refl _) _).setCell (Nat.le_refl _) _).setCell (Nat.le_refl _) _⟩
theorem KT(s:ByteArray)(w:World)(hs:dV s=0)(hk:(kX s).ok=true)(ht:((aU (kX s).bytes).toList==s.toList)=false) :
  Calls Tryz.prog 229 #[.string s] w fun e w'=>e=.returned (.tuple #[.agg (iT s).cells,erV (gX s)])∧Below w.heap.size w w':=by
 have hch:=pX s (w.alloc (.cells #[.int .i64 0,.int .i64 0,.int .i64 0] 103))
 have hg:mG s=false:=by unfold mG;rw[ht,Bool.and_false]
 have e1:gX s=2:=by unfold gX;rw[if_pos hs,if_neg (by rw[hg];decide)]
 have e2:iT s=HV.zero:=by unfold iT;rw[if_neg (fun h=>by rw[hg] at h;exact absurd h.2 (by decide))]
 have h16:s.size=16:=rZ hs
 obtain⟨h2,h3,h4,b2,b3,b4⟩:=rX s h16
 obtain⟨l2,u2⟩:=fH s 2
 obtain⟨l3,u3⟩:=fH s 3
 obtain⟨l4,u4⟩:=fH s 4
 obtain⟨X,hX⟩:∃ X:ByteArray,X=aU (kX s).bytes:=⟨_,rfl⟩
 have HX:Hid (X=aU [83,89,bAt s 2,bAt s 3,bAt s 4-1+1]):=hX
 have ht2:(X.toList==s.toList)=false:=by rw[hX];exact ht
 clear hX ht
 have HN:Hid (∀ W:World,Calls Tryz.prog 240 #[.agg #[.int .i64 (bAt s 2),.int .i64 (bAt s 3),.int .i64 (bAt s 4-1)]] W fun e w'=>e=.returned (.tuple #[.string X,.nilIface])∧Below W.heap.size W w'):=fun W=>by rw[HX.out];exact zA _ _ _ W hk
 rw[e1,e2,nH]
 rw[hs,aB] at hch
 have HC:=ah hch
 clear hch e1 e2 hs hk hg h16 HX
 generalize bAt s 2=x2 at b2 l2 u2 HN
 generalize bAt s 3=x3 at b3 l3 u3 HN
 generalize bAt s 4=x4 at b4 l4 u4 HN
 go_enter Tryz.func229,Tryz.ntmps229
 go_wp2_with fail
 refine HC.out.mono ?_
 rintro e w1 ⟨rfl,hb1⟩
 obtain⟨hc,hf⟩:=lX hb1
 have hz:w.heap.size<w1.heap.size:=by have:=hb1.size;simp at this;omega
 go_wp2
 go_region
 go_wp2_with fail
 refine(HN.out _).mono ?_
 rintro e w2 ⟨rfl,hb2⟩
 obtain⟨hc2,hf2⟩:=lX hb2
 have hz2:w1.heap.size<w2.heap.size:=by have:=hb2.size;simp at this;omega
 go_wp2
 have q0:=bZ hb1 hb2 0 _ rfl
 have q1:=bZ hb1 hb2 1 _ rfl
 have q2:=bZ hb1 hb2 2 _ rfl
 exact bodyPost_ret (v:=.tuple #[.agg #[.int .i64 0,.int .i64 0,.int .i64 0],.iface 127 (.int .i64 2)]) (by simp[results,Tryz.results229,go_sem,q0,q1,q2]) rfl ⟨rfl,(((below3 hb1 hb2).setCell (Nat.le_refl _) _).setCell (Nat.le_refl _) _).setCell (Nat.le_refl _) _⟩
theorem Lp(s:ByteArray)(w:World)(hs:dV s=0)(hk:(kX s).ok=true)(ht:((aU (kX s).bytes).toList==s.toList)=true) :
  Calls Tryz.prog 229 #[.string s] w fun e w'=>e=.returned (.tuple #[.agg (iT s).cells,erV (gX s)])∧Below w.heap.size w w':=by
 have hch:=pX s (w.alloc (.cells #[.int .i64 0,.int .i64 0,.int .i64 0] 103))
 have hg:mG s=true:=by unfold mG;rw[ht,hk];rfl
 have e1:gX s=0:=by unfold gX;rw[if_pos hs,if_pos hg]
 have e2:iT s=⟨bAt s 2,bAt s 3,bAt s 4-1⟩:=by unfold iT;rw[if_pos ⟨hs,hg⟩];rfl
 have h16:s.size=16:=rZ hs
 obtain⟨h2,h3,h4,b2,b3,b4⟩:=rX s h16
 obtain⟨l2,u2⟩:=fH s 2
 obtain⟨l3,u3⟩:=fH s 3
 obtain⟨l4,u4⟩:=fH s 4
 obtain⟨X,hX⟩:∃ X:ByteArray,X=aU (kX s).bytes:=⟨_,rfl⟩
 have HX:Hid (X=aU [83,89,bAt s 2,bAt s 3,bAt s 4-1+1]):=hX
 have ht2:(X.toList==s.toList)=true:=by rw[hX];exact ht
 clear hX ht
 have HN:Hid (∀ W:World,Calls Tryz.prog 240 #[.agg #[.int .i64 (bAt s 2),.int .i64 (bAt s 3),.int .i64 (bAt s 4-1)]] W fun e w'=>e=.returned (.tuple #[.string X,.nilIface])∧Below W.heap.size W w'):=fun W=>by rw[HX.out];exact zA _ _ _ W hk
 rw[e1,e2,aB]
 rw[hs,aB] at hch
 have HC:=ah hch
 clear hch e1 e2 hs hk hg h16 HX
 generalize bAt s 2=x2 at b2 l2 u2 HN ⊢
 generalize bAt s 3=x3 at b3 l3 u3 HN ⊢
 generalize bAt s 4=x4 at b4 l4 u4 HN ⊢
 go_enter Tryz.func229,Tryz.ntmps229
 go_wp2_with fail
 refine HC.out.mono ?_
 rintro e w1 ⟨rfl,hb1⟩
 obtain⟨hc,hf⟩:=lX hb1
 have hz:w.heap.size<w1.heap.size:=by have:=hb1.size;simp at this;omega
 go_wp2
 go_region
 go_wp2_with fail
 refine(HN.out _).mono ?_
 rintro e w2 ⟨rfl,hb2⟩
 obtain⟨hc2,hf2⟩:=lX hb2
 have hz2:w1.heap.size<w2.heap.size:=by have:=hb2.size;simp at this;omega
 go_wp2
 have q0:=bZ hb1 hb2 0 _ rfl
 have q1:=bZ hb1 hb2 1 _ rfl
 have q2:=bZ hb1 hb2 2 _ rfl
 exact bodyPost_ret (v:=.tuple #[.agg #[.int .i64 x2,.int .i64 x3,.int .i64 (x4-1)],.nilIface]) (by simp[results,Tryz.results229,go_sem,q0,q1,q2]) rfl ⟨rfl,(((below3 hb1 hb2).setCell (Nat.le_refl _) _).setCell (Nat.le_refl _) _).setCell (Nat.le_refl _) _⟩
theorem BM(s:ByteArray)(w:World) :
  Calls Tryz.prog 229 #[.string s] w fun e w'=>e=.returned (.tuple #[.agg (iT s).cells,erV (gX s)])∧Below w.heap.size w w':=by
 by_cases hs:dV s=0
 ·cases hk:(kX s).ok with
  | false=>exact IL s w hs hk
  | true =>
   cases ht:((aU (kX s).bytes).toList==s.toList) with
   | false=>exact KT s w hs hk ht
   | true=>exact Lp s w hs hk ht
 ·exact JR s w hs
theorem dD{w w1 w2:World}{C:Array Value}{t:TypeId}{o:Obj}(hb1:Below (w.alloc (.cells C t)).heap.size (w.alloc (.cells C t)) w1)(hb2:Below (w1.alloc o).drew.heap.size (w1.alloc o).drew w2)(i:Nat) :
  w2.frozen? ⟨w.heap.size,i,none⟩=false:=by
 have hz:=hb1.size
 simp at hz
 rw[hb2.frozen (by show w.heap.size<(w1.alloc o).heap.size;simp;omega)]
 show(w1.alloc o).frozen? _=_
 rw[World.frozen?_alloc_past _ _ _ (by show w.heap.size<w1.heap.size;omega),hb1.frozen (by simp),frozen_of_row _ _ _ _ _ (heap_alloc_new w _)]
theorem kP{w1 w2:World}{C:Array Value}{t:TypeId}(hb2:Below (w1.alloc (.cells C t)).drew.heap.size (w1.alloc (.cells C t)).drew w2)(i:Nat)(v:Value)(hv:C[i]?=some v):w2.cell? ⟨w1.heap.size,i,none⟩=some v:=by
 rw[hb2.cell (by show w1.heap.size<(w1.alloc (.cells C t)).heap.size;simp)]
 show(w1.alloc (.cells C t)).cell? _=_
 rw[cell_of_row _ _ _ _ _ _ (heap_alloc_new w1 _)];exact hv
theorem jO{a b:Int}(h:a≠b):(a==b)=false∧(a != b)=true:=by simp[h]
theorem qp{a b:Int}(h:a=b):(a==b)=true∧(a != b)=false:=by simp[h]
def bP(k p places:Int):Bool:=decide ((k=2∧0≤p∧p<places)∨((k=0∨k=1)∧p=0))
theorem kY{k p n:Int}(h:(k=2∧0≤p∧p<n)∨((k=0∨k=1)∧p=0)):bP k p n=true:=decide_eq_true h
theorem UH{k p n:Int}(h:¬((k=2∧0≤p∧p<n)∨((k=0∨k=1)∧p=0))):bP k p n=false:=decide_eq_false h
theorem iG{k p n:Int}(h:bP k p n=true):(k=2∧0≤p∧p<n)∨((k=0∨k=1)∧p=0):=of_decide_eq_true h
theorem Qs{k p n:Int}(h:bP k p n=false):¬((k=2∧0≤p∧p<n)∨((k=0∨k=1)∧p=0)):=of_decide_eq_false h
theorem qU(k p:Int)(w:World) :
  Calls Tryz.prog 271 #[.agg #[.int .i64 k,.int .i64 p]] w fun e w'=>e=.returned (.bool (bP k p 40))∧Below w.heap.size w w':=by
 have hbel:Below w.heap.size w (w.alloc (.cells #[.int .i64 k,.int .i64 p] 211)):=(Below.refl _ _).alloc (Nat.le_refl _) _
 by_cases h0:k=0
 ·have HE:Hid (bP k p 40=(p==0)):=by
   unfold Hid
   rw[Bool.eq_iff_iff,beq_iff_eq]
   exact⟨fun h=>by have:=iG h;omega,fun h=>kY (.inr ⟨.inl h0,h⟩)⟩
  obtain⟨v1,v2⟩:=qp h0
  clear h0
  go_enter Tryz.func271,Tryz.ntmps271
  go_wp2
  go_ret
  exact⟨qZ HE.out.symm,hbel⟩
 ·by_cases h1:k=1
  ·have HE:Hid (bP k p 40=(p==0)):=by
    unfold Hid
    rw[Bool.eq_iff_iff,beq_iff_eq]
    exact⟨fun h=>by have:=iG h;omega,fun h=>kY (.inr ⟨.inr h1,h⟩)⟩
   obtain⟨v1,v2⟩:=jO h0
   obtain⟨v3,v4⟩:=qp h1
   clear h0 h1
   go_enter Tryz.func271,Tryz.ntmps271
   go_wp2
   go_ret
   exact⟨qZ HE.out.symm,hbel⟩
  ·obtain⟨v1,v2⟩:=jO h0
   obtain⟨v3,v4⟩:=jO h1
   by_cases h2:k=2
   ·have HE:Hid (bP k p 40=inB p 0 39):=by
     unfold Hid
     rw[Bool.eq_iff_iff]
     exact⟨fun h=>bU (by have:=iG h;omega),fun h=>kY (.inl ⟨h2,by have:=of_decide_eq_true h;omega⟩)⟩
    obtain⟨v5,v6⟩:=qp h2
    clear h0 h1 h2
    go_enter Tryz.func271,Tryz.ntmps271
    go_wp2_with (go_at_call 211;refine(gU _ _ _ _).mono ?_;rintro e w' ⟨rfl,rfl⟩)
    go_ret
    exact⟨qZ HE.out.symm,hbel⟩
   ·have HE:Hid (bP k p 40=false):=UH (by omega)
    obtain⟨v5,v6⟩:=jO h2
    clear h0 h1 h2
    go_enter Tryz.func271,Tryz.ntmps271
    go_wp2
    go_ret
    exact⟨qZ HE.out.symm,hbel⟩
def aA(n:Nat):Nat:=(n+7) / 8
theorem pJ(n:Nat)(w:World)(h:n≤50) :
  Calls Tryz.prog 155 #[.int .i64 (n:Int)] w fun e w'=>e=.returned (.int .i64 (aA n:Int))∧w'=w:=by
 go_enter Tryz.func155,Tryz.ntmps155
 go_wp2
 go_ret
 exact⟨DR (by unfold aA;omega),rfl⟩
end Go.Proofs.YtonhoahnieoebabGreatDoor
