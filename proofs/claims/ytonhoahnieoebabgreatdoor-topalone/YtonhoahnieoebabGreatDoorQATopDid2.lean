/- An act on a yard that leaves its guest alone. -/
import Derived.Test.YtonhoahnieoebabGreatDoorQAYardP9
import Derived.Test.YtonhoahnieoebabGreatDoorQAActBox
set_option maxHeartbeats 2000000
set_option maxRecDepth 100000
namespace Go.Proofs.YtonhoahnieoebabGreatDoor
open Go.RowKit Go.Maps
attribute [local go_sem ↓] Go.wp_at_zero Go.wp_at_succ
def iE(x:aN):Value:=.agg #[.string x.kind,.int .i64 x.a,.int .i64 x.b,.int .i64 x.c,.int .i64 x.d,.string x.s,.slice x.ka x.kl x.kc]
theorem Jy{yp gp:Nat}{P:World→Prop}(x:aN)(w:World)(hk:x.kind.toList=[98,108,97,110,107])(HC:∀ W:World,Below w.heap.size w W→Calls Tryz.prog 114 #[.pointer (some ⟨yp,0,none⟩),.int .i64 x.a] W fun e w'=>(∃ v,e=.returned v)∧P w') :
  Calls Tryz.prog 42 #[.pointer (some ⟨yp,0,none⟩),.pointer (some ⟨gp,0,none⟩),iE x] w fun e w'=>e=.returned (.tuple #[])∧P w':=by
 have g0:(x.kind.toList==[119,114,105,116,101])=false:=by rw[hk];rfl
 have g1:(x.kind.toList==[119,105,112,101])=false:=by rw[hk];rfl
 have g2:(x.kind.toList==[102,108,117,115,104])=false:=by rw[hk];rfl
 have g3:(x.kind.toList==[98,108,97,110,107])=true:=by rw[hk];rfl
 have HB0:Hid (Below w.heap.size w (w.alloc (eu x))):=(Below.refl _ _).alloc (Nat.le_refl _) _;have HC1:=ah (HC _ HB0.out);unfold eu at HB0 HC1;unfold iE;clear HC hk;go_enter Tryz.func42,Tryz.ntmps42
 go_wp2_with fail
 refine HC1.out.mono ?_;rintro e w1 ⟨⟨v,rfl⟩,hp⟩;have HP:=ah hp;clear hp HC1;go_wp2
 go_end0
 exact⟨rfl,HP.out⟩
theorem JE{yp gp:Nat}{P:World→Prop}(x:aN)(w:World)(hk:x.kind.toList=[115,110,97,112])(HC:∀ W:World,Below w.heap.size w W→Calls Tryz.prog 116 #[.pointer (some ⟨yp,0,none⟩),.int .i64 x.a] W fun e w'=>(∃ v,e=.returned v)∧P w') :
  Calls Tryz.prog 42 #[.pointer (some ⟨yp,0,none⟩),.pointer (some ⟨gp,0,none⟩),iE x] w fun e w'=>e=.returned (.tuple #[])∧P w':=by
 have g0:(x.kind.toList==[119,114,105,116,101])=false:=by rw[hk];rfl
 have g1:(x.kind.toList==[119,105,112,101])=false:=by rw[hk];rfl
 have g2:(x.kind.toList==[102,108,117,115,104])=false:=by rw[hk];rfl
 have g3:(x.kind.toList==[98,108,97,110,107])=false:=by rw[hk];rfl
 have g4:(x.kind.toList==[115,110,97,112])=true:=by rw[hk];rfl
 have HB0:Hid (Below w.heap.size w (w.alloc (eu x))):=(Below.refl _ _).alloc (Nat.le_refl _) _;have HC1:=ah (HC _ HB0.out);unfold eu at HB0 HC1;unfold iE;clear HC hk;go_enter Tryz.func42,Tryz.ntmps42
 go_wp2_with fail
 refine HC1.out.mono ?_;rintro e w1 ⟨⟨v,rfl⟩,hp⟩;have HP:=ah hp;clear hp HC1;go_wp2
 go_end0
 exact⟨rfl,HP.out⟩
theorem JF{yp gp:Nat}{P:World→Prop}(x:aN)(w:World)(hk:x.kind.toList=[115,116,97,114,116])(HC:∀ W:World,Below w.heap.size w W→Calls Tryz.prog 53 #[.pointer (some ⟨yp,0,none⟩),.int .i64 x.a,.int .i64 x.b,.int .i64 x.c,.int .i64 x.d] W fun e w'=>(∃ v,e=.returned v)∧P w') :
  Calls Tryz.prog 42 #[.pointer (some ⟨yp,0,none⟩),.pointer (some ⟨gp,0,none⟩),iE x] w fun e w'=>e=.returned (.tuple #[])∧P w':=by
 have g0:(x.kind.toList==[119,114,105,116,101])=false:=by rw[hk];rfl
 have g1:(x.kind.toList==[119,105,112,101])=false:=by rw[hk];rfl
 have g2:(x.kind.toList==[102,108,117,115,104])=false:=by rw[hk];rfl
 have g3:(x.kind.toList==[98,108,97,110,107])=false:=by rw[hk];rfl
 have g4:(x.kind.toList==[115,110,97,112])=false:=by rw[hk];rfl
 have g5:(x.kind.toList==[115,116,97,114,116])=true:=by rw[hk];rfl
 have HB0:Hid (Below w.heap.size w (w.alloc (eu x))):=(Below.refl _ _).alloc (Nat.le_refl _) _;have HC1:=ah (HC _ HB0.out);unfold eu at HB0 HC1;unfold iE;clear HC hk;go_enter Tryz.func42,Tryz.ntmps42
 go_wp2_with fail
 refine HC1.out.mono ?_;rintro e w1 ⟨⟨v,rfl⟩,hp⟩;have HP:=ah hp;clear hp HC1;go_wp2
 go_end0
 exact⟨rfl,HP.out⟩
theorem JD{yp gp:Nat}{P:World→Prop}(x:aN)(w:World)(hk:x.kind.toList=[112,105,118,111,116])(HC:∀ W:World,Below w.heap.size w W→Calls Tryz.prog 56 #[.pointer (some ⟨yp,0,none⟩)] W fun e w'=>(∃ v,e=.returned v)∧P w') :
  Calls Tryz.prog 42 #[.pointer (some ⟨yp,0,none⟩),.pointer (some ⟨gp,0,none⟩),iE x] w fun e w'=>e=.returned (.tuple #[])∧P w':=by
 have g0:(x.kind.toList==[119,114,105,116,101])=false:=by rw[hk];rfl
 have g1:(x.kind.toList==[119,105,112,101])=false:=by rw[hk];rfl
 have g2:(x.kind.toList==[102,108,117,115,104])=false:=by rw[hk];rfl
 have g3:(x.kind.toList==[98,108,97,110,107])=false:=by rw[hk];rfl
 have g4:(x.kind.toList==[115,110,97,112])=false:=by rw[hk];rfl
 have g5:(x.kind.toList==[115,116,97,114,116])=false:=by rw[hk];rfl
 have g6:(x.kind.toList==[112,105,118,111,116])=true:=by rw[hk];rfl
 have HB0:Hid (Below w.heap.size w (w.alloc (eu x))):=(Below.refl _ _).alloc (Nat.le_refl _) _;have HC1:=ah (HC _ HB0.out);unfold eu at HB0 HC1;unfold iE;clear HC hk;go_enter Tryz.func42,Tryz.ntmps42
 go_wp2_with fail
 refine HC1.out.mono ?_;rintro e w1 ⟨⟨v,rfl⟩,hp⟩;have HP:=ah hp;clear hp HC1;go_wp2
 go_end0
 exact⟨rfl,HP.out⟩
theorem Jz{yp gp:Nat}{P:World→Prop}(x:aN)(w:World)(hk:x.kind.toList=[99,97,110,99,101,108])(HC:∀ W:World,Below w.heap.size w W→Calls Tryz.prog 52 #[.pointer (some ⟨yp,0,none⟩)] W fun e w'=>(∃ v,e=.returned v)∧P w') :
  Calls Tryz.prog 42 #[.pointer (some ⟨yp,0,none⟩),.pointer (some ⟨gp,0,none⟩),iE x] w fun e w'=>e=.returned (.tuple #[])∧P w':=by
 have g0:(x.kind.toList==[119,114,105,116,101])=false:=by rw[hk];rfl
 have g1:(x.kind.toList==[119,105,112,101])=false:=by rw[hk];rfl
 have g2:(x.kind.toList==[102,108,117,115,104])=false:=by rw[hk];rfl
 have g3:(x.kind.toList==[98,108,97,110,107])=false:=by rw[hk];rfl
 have g4:(x.kind.toList==[115,110,97,112])=false:=by rw[hk];rfl
 have g5:(x.kind.toList==[115,116,97,114,116])=false:=by rw[hk];rfl
 have g6:(x.kind.toList==[112,105,118,111,116])=false:=by rw[hk];rfl
 have g7:(x.kind.toList==[99,97,110,99,101,108])=true:=by rw[hk];rfl
 have HB0:Hid (Below w.heap.size w (w.alloc (eu x))):=(Below.refl _ _).alloc (Nat.le_refl _) _;have HC1:=ah (HC _ HB0.out);unfold eu at HB0 HC1;unfold iE;clear HC hk;go_enter Tryz.func42,Tryz.ntmps42
 go_wp2_with fail
 refine HC1.out.mono ?_;rintro e w1 ⟨⟨v,rfl⟩,hp⟩;have HP:=ah hp;clear hp HC1;go_wp2
 go_end0
 exact⟨rfl,HP.out⟩
theorem JC{yp gp:Nat}{P:World→Prop}(x:aN)(w:World)(hk:x.kind.toList=[112,97,117,115,101])(HC:∀ W:World,Below w.heap.size w W→Calls Tryz.prog 121 #[.pointer (some ⟨yp,0,none⟩),.bool (decide (0<x.a))] W fun e w'=>(∃ v,e=.returned v)∧P w') :
  Calls Tryz.prog 42 #[.pointer (some ⟨yp,0,none⟩),.pointer (some ⟨gp,0,none⟩),iE x] w fun e w'=>e=.returned (.tuple #[])∧P w':=by
 have g0:(x.kind.toList==[119,114,105,116,101])=false:=by rw[hk];rfl
 have g1:(x.kind.toList==[119,105,112,101])=false:=by rw[hk];rfl
 have g2:(x.kind.toList==[102,108,117,115,104])=false:=by rw[hk];rfl
 have g3:(x.kind.toList==[98,108,97,110,107])=false:=by rw[hk];rfl
 have g4:(x.kind.toList==[115,110,97,112])=false:=by rw[hk];rfl
 have g5:(x.kind.toList==[115,116,97,114,116])=false:=by rw[hk];rfl
 have g6:(x.kind.toList==[112,105,118,111,116])=false:=by rw[hk];rfl
 have g7:(x.kind.toList==[99,97,110,99,101,108])=false:=by rw[hk];rfl
 have g8:(x.kind.toList==[112,97,117,115,101])=true:=by rw[hk];rfl
 have HB0:Hid (Below w.heap.size w (w.alloc (eu x))):=(Below.refl _ _).alloc (Nat.le_refl _) _;have HC1:=ah (HC _ HB0.out);unfold eu at HB0 HC1;unfold iE;clear HC hk;go_enter Tryz.func42,Tryz.ntmps42
 go_wp2_with fail
 refine HC1.out.mono ?_;rintro e w1 ⟨⟨v,rfl⟩,hp⟩;have HP:=ah hp;clear hp HC1;go_wp2
 go_end0
 exact⟨rfl,HP.out⟩
theorem JH{yp gp:Nat}{P:World→Prop}(x:aN)(w:World)(hk:x.kind.toList=[116,105,99,107])(HC:∀ W:World,Below w.heap.size w W→Calls Tryz.prog 123 #[.pointer (some ⟨yp,0,none⟩),.int .i64 x.a] W fun e w'=>(∃ v,e=.returned v)∧P w') :
  Calls Tryz.prog 42 #[.pointer (some ⟨yp,0,none⟩),.pointer (some ⟨gp,0,none⟩),iE x] w fun e w'=>e=.returned (.tuple #[])∧P w':=by
 have g0:(x.kind.toList==[119,114,105,116,101])=false:=by rw[hk];rfl
 have g1:(x.kind.toList==[119,105,112,101])=false:=by rw[hk];rfl
 have g2:(x.kind.toList==[102,108,117,115,104])=false:=by rw[hk];rfl
 have g3:(x.kind.toList==[98,108,97,110,107])=false:=by rw[hk];rfl
 have g4:(x.kind.toList==[115,110,97,112])=false:=by rw[hk];rfl
 have g5:(x.kind.toList==[115,116,97,114,116])=false:=by rw[hk];rfl
 have g6:(x.kind.toList==[112,105,118,111,116])=false:=by rw[hk];rfl
 have g7:(x.kind.toList==[99,97,110,99,101,108])=false:=by rw[hk];rfl
 have g8:(x.kind.toList==[112,97,117,115,101])=false:=by rw[hk];rfl
 have g9:(x.kind.toList==[116,105,99,107])=true:=by rw[hk];rfl
 have HB0:Hid (Below w.heap.size w (w.alloc (eu x))):=(Below.refl _ _).alloc (Nat.le_refl _) _;have HC1:=ah (HC _ HB0.out);unfold eu at HB0 HC1;unfold iE;clear HC hk;go_enter Tryz.func42,Tryz.ntmps42
 go_wp2_with fail
 refine HC1.out.mono ?_;rintro e w1 ⟨⟨v,rfl⟩,hp⟩;have HP:=ah hp;clear hp HC1;go_wp2
 go_end0
 exact⟨rfl,HP.out⟩
theorem JA{yp gp:Nat}{P:World→Prop}(x:aN)(w:World)(hk:x.kind.toList=[102,97,105,108])(HC:∀ W:World,Below w.heap.size w W→Calls Tryz.prog 125 #[.pointer (some ⟨yp,0,none⟩),.int .i64 x.a,.int .i64 x.b] W fun e w'=>(∃ v,e=.returned v)∧P w') :
  Calls Tryz.prog 42 #[.pointer (some ⟨yp,0,none⟩),.pointer (some ⟨gp,0,none⟩),iE x] w fun e w'=>e=.returned (.tuple #[])∧P w':=by
 have g0:(x.kind.toList==[119,114,105,116,101])=false:=by rw[hk];rfl
 have g1:(x.kind.toList==[119,105,112,101])=false:=by rw[hk];rfl
 have g2:(x.kind.toList==[102,108,117,115,104])=false:=by rw[hk];rfl
 have g3:(x.kind.toList==[98,108,97,110,107])=false:=by rw[hk];rfl
 have g4:(x.kind.toList==[115,110,97,112])=false:=by rw[hk];rfl
 have g5:(x.kind.toList==[115,116,97,114,116])=false:=by rw[hk];rfl
 have g6:(x.kind.toList==[112,105,118,111,116])=false:=by rw[hk];rfl
 have g7:(x.kind.toList==[99,97,110,99,101,108])=false:=by rw[hk];rfl
 have g8:(x.kind.toList==[112,97,117,115,101])=false:=by rw[hk];rfl
 have g9:(x.kind.toList==[116,105,99,107])=false:=by rw[hk];rfl
 have g10:(x.kind.toList==[102,97,105,108])=true:=by rw[hk];rfl
 have HB0:Hid (Below w.heap.size w (w.alloc (eu x))):=(Below.refl _ _).alloc (Nat.le_refl _) _;have HC1:=ah (HC _ HB0.out);unfold eu at HB0 HC1;unfold iE;clear HC hk;go_enter Tryz.func42,Tryz.ntmps42
 go_wp2_with fail
 refine HC1.out.mono ?_;rintro e w1 ⟨⟨v,rfl⟩,hp⟩;have HP:=ah hp;clear hp HC1;go_wp2
 go_end0
 exact⟨rfl,HP.out⟩
theorem JG{yp gp:Nat}{P:World→Prop}(x:aN)(w:World)(hk:x.kind.toList≠[119,114,105,116,101]∧x.kind.toList≠[119,105,112,101]∧x.kind.toList≠[102,108,117,115,104]∧x.kind.toList≠[98,108,97,110,107]∧x.kind.toList≠[115,110,97,112]∧x.kind.toList≠[115,116,97,114,116]∧x.kind.toList≠[112,105,118,111,116]∧x.kind.toList≠[99,97,110,99,101,108]∧x.kind.toList≠[112,97,117,115,101]∧x.kind.toList≠[116,105,99,107]∧x.kind.toList≠[102,97,105,108])(HC:∀ W:World,Below w.heap.size w W→Calls Tryz.prog 54 #[.pointer (some ⟨yp,0,none⟩)] W fun e w'=>(∃ b v,e=.returned (.tuple #[.bool b,v]))∧P w') :
  Calls Tryz.prog 42 #[.pointer (some ⟨yp,0,none⟩),.pointer (some ⟨gp,0,none⟩),iE x] w fun e w'=>e=.returned (.tuple #[])∧P w':=by
 obtain⟨n0,n1,n2,n3,n4,n5,n6,n7,n8,n9,n10⟩:=hk;have g0:(x.kind.toList==[119,114,105,116,101])=false:=by simpa using n0
 have g1:(x.kind.toList==[119,105,112,101])=false:=by simpa using n1
 have g2:(x.kind.toList==[102,108,117,115,104])=false:=by simpa using n2
 have g3:(x.kind.toList==[98,108,97,110,107])=false:=by simpa using n3
 have g4:(x.kind.toList==[115,110,97,112])=false:=by simpa using n4
 have g5:(x.kind.toList==[115,116,97,114,116])=false:=by simpa using n5
 have g6:(x.kind.toList==[112,105,118,111,116])=false:=by simpa using n6
 have g7:(x.kind.toList==[99,97,110,99,101,108])=false:=by simpa using n7
 have g8:(x.kind.toList==[112,97,117,115,101])=false:=by simpa using n8
 have g9:(x.kind.toList==[116,105,99,107])=false:=by simpa using n9
 have g10:(x.kind.toList==[102,97,105,108])=false:=by simpa using n10
 clear n0 n1 n2 n3 n4 n5 n6 n7 n8 n9 n10;have HB0:Hid (Below w.heap.size w (w.alloc (eu x))):=(Below.refl _ _).alloc (Nat.le_refl _) _;have HC1:=ah (HC _ HB0.out);unfold eu at HB0 HC1;unfold iE;clear HC;go_enter Tryz.func42,Tryz.ntmps42
 go_wp2_with fail
 refine HC1.out.mono ?_;rintro e w1 ⟨⟨b,v,rfl⟩,hp⟩;have HP:=ah hp;clear hp HC1;go_wp2
 go_end0
 exact⟨rfl,HP.out⟩
theorem OI(n:Nat)(w:World)(hn:n≤10000) :
  Calls Tryz.prog 72 #[.int .i64 (n:Int)] w fun e w'=>e=.returned (.string (bytesOf (List.replicate n 0)))∧Below w.heap.size w w':=by
 obtain⟨i0,hi0,hz0,hz1,hz2⟩:=info_parts Dz;obtain⟨w1,hmk,hown,hgr⟩:=run_make_full (P:=Tryz.prog) w w.heap.size 206 5 i0 (.int .u8 0) 1 Tryz.underlying206 hi0 hz0 hz1 .i64 .i64 n (by rw[hz2];omega) (by unfold maxLen;omega) (Nat.le_refl _)
 have hb:Below w.heap.size w w1:=(Below.refl _ _).grown hgr (Nat.le_refl _) (fun k e=>by cases e)
 have hr:w1.rangeAt w.heap.size 0 (cO (List.replicate n 0)):=fun j v hv=>by
  have hj:j<n:=by
   rcases Nat.lt_or_ge j n with q|q
   ·exact q
   ·rw[List.getElem?_eq_none (by rw[ql,List.length_replicate];exact q)] at hv;cases hv
  rw[Nat.zero_add,hown.cellAt j (by omega)]
  have e:(madeCells (Value.int .u8 0).cells (n*1)).toList=cO (List.replicate n 0):=by
   rw[Nat.mul_one];show(madeCells #[Value.int .u8 0] n).toList=_
   rw[toList_madeCells_one];simp[cO]
  rw[e];exact hv
 have hcv:=yL n n (by simp) hr
 have HB:Hid (Below w.heap.size w w1):=hb;clear hr hown hgr hb hi0 hz0 hz1 hz2;generalize bytesOf (List.replicate n 0)=S at hcv ⊢;go_enter Tryz.func72,Tryz.ntmps72
 go_wp2
 go_ret
 exact⟨rfl,HB.out⟩
theorem DI(F:Int)(w:World):Calls Tryz.prog 55 #[erV F,.int .i64 1] w fun e w'=>e=.returned (.bool (decide (F=1)))∧w'=w:=by
 by_cases h0:F=0
 ·rw[h0,aB]
  go_enter Tryz.func55,Tryz.ntmps55
  go_wp2
  go_ret
  exact⟨rfl,rfl⟩
 ·rw[aT h0]
  have he:decide (F=1)=(F==1):=by
   by_cases e:F=1
   ·rw[e];rfl
   ·rw[decide_eq_false e];symm;simpa using e
  rw[he];have hta:∀ w:World,(Instr.typeAssert (.iface 127 (.int .i64 F)) 33 127 true).run Tryz.prog w=.ok (.tuple #[.int .i64 F,.bool true]) w:=fun _=>by kernel_rfl
  clear he h0;go_enter Tryz.func55,Tryz.ntmps55
  go_wp2
  go_ret
  exact⟨rfl,rfl⟩
theorem JJ{yp gp:Nat}{P Q:World→Prop}{F:Int}(x:aN)(w:World)(hk:x.kind.toList=[119,114,105,116,101])
    (HC:∀ W:World,W=w.alloc (eu x)→Calls Tryz.prog 99 #[.pointer (some ⟨yp,0,none⟩),.int .i64 x.a,.string x.s] W fun e w'=>e=.returned (erV F)∧P w'∧kL w' w.heap.size x)
    (HN:F=1→∀ W,P W→Q W) (HW:F≠1→∀ W:World,P W→Calls Tryz.prog 141 #[.pointer (some ⟨gp,0,none⟩),.int .i64 x.a,.string x.s,.bool (decide (F=0))] W.drew fun e w'=>e=.returned (.tuple #[])∧Q w'∧kL w' w.heap.size x) :
    Calls Tryz.prog 42 #[.pointer (some ⟨yp,0,none⟩),.pointer (some ⟨gp,0,none⟩),iE x] w fun e w'=>e=.returned (.tuple #[])∧Q w':=by
  have g0:(x.kind.toList==[119,114,105,116,101])=true:=by rw[hk];rfl
  have HC1:=ah (HC _ rfl);have HIS:=ah (fun W=>DI F W)
  unfold eu at HC1;unfold iE;clear HC hk;by_cases h1:F=1
  · rw[decide_eq_true h1] at HIS
    have HN1:=ah (HN h1);clear HN HW;generalize erV F=E at HC1 HIS;go_enter Tryz.func42,Tryz.ntmps42
    go_wp2_with fail
    refine HC1.out.mono ?_;rintro e w1 ⟨rfl,hp,_⟩;have HQ:=ah (HN1.out _ hp);clear hp HC1 HN1;go_wp2_with fail
    refine(HIS.out _).mono ?_;rintro e w' ⟨rfl,hw⟩;have hw':=hw.symm;subst hw';clear hw HIS;go_wp2
    go_end0
    exact⟨rfl,HQ.out⟩
  · rw[decide_eq_false h1] at HIS
    have HW1:=ah (HW h1);clear HN HW
    have hE:(erV F=.nilIface∧decide (F=0)=true)∨(erV F=.iface 127 (.int .i64 F)∧decide (F=0)=false):=by
      by_cases h0:F=0
      · exact .inl ⟨by rw[h0,aB],decide_eq_true h0⟩
      · exact .inr ⟨aT h0,decide_eq_false h0⟩
    rcases hE with⟨hE,hD⟩|⟨hE,hD⟩<;>rw[hE] at HC1 HIS<;>rw[hD] at HW1<;>clear hE hD
    all_goals
      go_enter Tryz.func42,Tryz.ntmps42
      go_wp2_with fail
      refine HC1.out.mono ?_;rintro e w1 ⟨rfl,hp,ha⟩;have HW2:=ah (HW1.out _ hp);obtain⟨z1,z2,z5⟩:=ha.cells;have HS1:Hid (w1.drew.cell? ⟨w.heap.size,1,none⟩=some (.int .i64 x.a)∧w1.drew.cell? ⟨w.heap.size,5,none⟩=some (.string x.s)):=⟨z1,z5⟩;clear hp ha HC1 HW1 z1 z2 z5;go_wp2_with fail
      refine(HIS.out _).mono ?_;rintro e w' ⟨rfl,hw⟩;have hw':=hw.symm;subst hw';clear hw HIS;go_upto_region 6 with fail
      go_region_held3 (fun W=>W.cell? ⟨w.heap.size,1,none⟩=some (.int .i64 x.a)∧W.cell? ⟨w.heap.size,5,none⟩=some (.string x.s))
        (first|(exact HS1.out)|assumption)
        (first
          | (go_at_call 141;refine HW2.out.mono ?_;rintro e w2 ⟨rfl,hq,ha2⟩;have HQ:=ah hq;have hS2:w2.cell? ⟨w.heap.size,1,none⟩=some (.int .i64 x.a)∧w2.cell? ⟨w.heap.size,5,none⟩=some (.string x.s):=⟨ha2.cells.1,ha2.cells.2.2⟩;clear hq ha2))
      go_wp2
      go_end0
      exact⟨rfl,HQ.out⟩
theorem JI{yp gp:Nat}{P Q:World→Prop}{F:Int}(x:aN)(w:World)(hk:x.kind.toList=[119,105,112,101])
    (HC:∀ W:World,W=w.alloc (eu x)→Calls Tryz.prog 111 #[.pointer (some ⟨yp,0,none⟩),.int .i64 x.a,.int .i64 x.b] W fun e w'=>e=.returned (erV F)∧P w'∧kL w' w.heap.size x)
    (HN:F=1→∀ W,P W→Q W) (HB:F≠1→0≤x.b∧x.b≤200) (HW:F≠1→∀ W W':World,P W→Below W.heap.size W W'→Calls Tryz.prog 141 #[.pointer (some ⟨gp,0,none⟩),.int .i64 x.a,.string (eH (x.b.toNat*16)),.bool (decide (F=0))] W' fun e w'=>e=.returned (.tuple #[])∧Q w'∧kL w' w.heap.size x) :
    Calls Tryz.prog 42 #[.pointer (some ⟨yp,0,none⟩),.pointer (some ⟨gp,0,none⟩),iE x] w fun e w'=>e=.returned (.tuple #[])∧Q w':=by
  have g0:(x.kind.toList==[119,114,105,116,101])=false:=by rw[hk];rfl
  have g1:(x.kind.toList==[119,105,112,101])=true:=by rw[hk];rfl
  have HC1:=ah (HC _ rfl);have HIS:=ah (fun W=>DI F W)
  unfold eu at HC1;unfold iE;clear HC hk;by_cases h1:F=1
  · rw[decide_eq_true h1] at HIS
    have HN1:=ah (HN h1);clear HN HW HB;generalize erV F=E at HC1 HIS;go_enter Tryz.func42,Tryz.ntmps42
    go_wp2_with fail
    refine HC1.out.mono ?_;rintro e w1 ⟨rfl,hp,_⟩;have HQ:=ah (HN1.out _ hp);clear hp HC1 HN1;go_wp2_with fail
    refine(HIS.out _).mono ?_;rintro e w' ⟨rfl,hw⟩;have hw':=hw.symm;subst hw';clear hw HIS;go_wp2
    go_end0
    exact⟨rfl,HQ.out⟩
  · rw[decide_eq_false h1] at HIS
    have HW1:=ah (HW h1);obtain⟨nb,hnb⟩:∃ nb:Nat,x.b=(nb:Int):=⟨x.b.toNat,by have:=HB h1;omega⟩
    have hnb2:nb≤200:=by have:=HB h1;omega
    have HNO:Hid (∀ W:World,Calls Tryz.prog 72 #[.int .i64 (16*x.b)] W fun e w'=>e=.returned (.string (eH (x.b.toNat*16)))∧Below W.heap.size W w'):=fun W=>by
      have:=OI (16*nb) W (by omega)
      rw[show((16*nb:Nat):Int)=16*(nb:Int) by omega] at this
      rw[hnb,show((nb:Int)).toNat*16=16*nb by omega]
      exact this
    have kw:IntKind.i64.wrap (16*x.b)=16*x.b:=IntWalk.i64_in _ (by omega)
    clear hnb hnb2;generalize eH (x.b.toNat*16)=T at HW1 HNO;clear HN HW HB
    have hE:(erV F=.nilIface∧decide (F=0)=true)∨(erV F=.iface 127 (.int .i64 F)∧decide (F=0)=false):=by
      by_cases h0:F=0
      · exact .inl ⟨by rw[h0,aB],decide_eq_true h0⟩
      · exact .inr ⟨aT h0,decide_eq_false h0⟩
    rcases hE with⟨hE,hD⟩|⟨hE,hD⟩<;>rw[hE] at HC1 HIS<;>rw[hD] at HW1<;>clear hE hD
    all_goals
      go_enter Tryz.func42,Tryz.ntmps42
      go_wp2_with fail
      refine HC1.out.mono ?_;rintro e w1 ⟨rfl,hp,ha⟩;have HW2:=ah (fun W' hb=>HW1.out w1 W' hp hb)
      have HA1:Hid (kL w1 w.heap.size x):=ha;obtain⟨z1,z2,z5⟩:=ha.cells;have HS1:Hid (w1.drew.cell? ⟨w.heap.size,1,none⟩=some (.int .i64 x.a)∧w1.drew.cell? ⟨w.heap.size,2,none⟩=some (.int .i64 x.b)):=⟨z1,z2⟩;clear hp ha HC1 HW1 z1 z2 z5;go_wp2_with fail
      refine(HIS.out _).mono ?_;rintro e w' ⟨rfl,hw⟩;have hw':=hw.symm;subst hw';clear hw HIS;go_upto_region 10 with fail
      go_region_held3 (fun W=>W.cell? ⟨w.heap.size,1,none⟩=some (.int .i64 x.a)∧W.cell? ⟨w.heap.size,2,none⟩=some (.int .i64 x.b))
        (first|(exact HS1.out)|assumption)
        (first
          | (go_at_call 72;refine(HNO.out _).mono ?_;rintro e w3 ⟨rfl,hb3⟩;have hb3':Below w1.heap.size w1 w3:=⟨hb3.os,hb3.tape,hb3.output,hb3.size,hb3.block⟩;have HW3:=ah (HW2.out w3 hb3');have ha3:kL w3 w.heap.size x:=⟨(hb3'.block _ (lt_of_some HA1.out.blk)).trans HA1.out.blk⟩;have hS3:w3.cell? ⟨w.heap.size,1,none⟩=some (.int .i64 x.a)∧w3.cell? ⟨w.heap.size,2,none⟩=some (.int .i64 x.b):=⟨ha3.cells.1,ha3.cells.2.1⟩;clear hb3 hb3' ha3)
          | (go_at_call 141;refine HW3.out.mono ?_;rintro e w2 ⟨rfl,hq,ha2⟩;have HQ:=ah hq;have hS2:w2.cell? ⟨w.heap.size,1,none⟩=some (.int .i64 x.a)∧w2.cell? ⟨w.heap.size,2,none⟩=some (.int .i64 x.b):=⟨ha2.cells.1,ha2.cells.2.1⟩;clear hq ha2))
      go_wp2
      go_end0
      exact⟨rfl,HQ.out⟩
theorem JB{yp gp:Nat}{P Q:World→Prop}(x:aN)(w:World)(hk:x.kind.toList=[102,108,117,115,104])
  (HC:∀ W:World,Below w.heap.size w W→Calls Tryz.prog 112 #[.pointer (some ⟨yp,0,none⟩)] W fun e w'=>e=.returned (.tuple #[])∧P w')
  (HW:∀ W:World,P W→Calls Tryz.prog 142 #[.pointer (some ⟨gp,0,none⟩)] W fun e w'=>e=.returned (.tuple #[])∧Q w') :
  Calls Tryz.prog 42 #[.pointer (some ⟨yp,0,none⟩),.pointer (some ⟨gp,0,none⟩),iE x] w fun e w'=>e=.returned (.tuple #[])∧Q w':=by
 have g0:(x.kind.toList==[119,114,105,116,101])=false:=by rw[hk];rfl
 have g1:(x.kind.toList==[119,105,112,101])=false:=by rw[hk];rfl
 have g2:(x.kind.toList==[102,108,117,115,104])=true:=by rw[hk];rfl
 have HB0:Hid (Below w.heap.size w (w.alloc (eu x))):=(Below.refl _ _).alloc (Nat.le_refl _) _;have HC1:=ah (HC _ HB0.out);have HW1:=ah HW;unfold eu at HC1 HB0;unfold iE;clear HC HW hk;go_enter Tryz.func42,Tryz.ntmps42
 go_wp2_with fail
 refine HC1.out.mono ?_;rintro e w1 ⟨rfl,hp⟩;have HW2:=ah (HW1.out _ hp);clear hp HC1 HW1;go_wp2_with fail
 refine HW2.out.mono ?_;rintro e w2 ⟨rfl,hq⟩;have HQ:=ah hq;clear hq HW2;go_wp2
 go_end0
 exact⟨rfl,HQ.out⟩
end Go.Proofs.YtonhoahnieoebabGreatDoor
