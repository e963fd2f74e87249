/- A set of small numbers (package bits): how it lies in memory, and what each of its small calls gives. -/
import Derived.Test.YtonhoahnieoebabGreatDoorQAOnes4
import Derived.Laws.Bits64
import Derived.Laws.Bits64b
import Derived.Lib.TrailingZeros
import Derived.RangeFuncNested
import Derived.RangeFuncBound
import Derived.RangeFuncCalls
import Derived.RangeFuncLeaves
import Derived.Shelf.Abstract
import Derived.Shelf.RegionOpen
import Derived.OwnWalkIn
import Derived.TacticsInMore
import Derived.LoopNIn
import Derived.LoopIn
set_option maxHeartbeats 2000000
set_option maxRecDepth 100000
namespace Go.Proofs.YtonhoahnieoebabGreatDoor.S4
open Go.RowKit
attribute [local go_sem ↓] Go.wp_at_zero Go.wp_at_succ
def fU(w:World)(p n x:Nat):Prop:=w.heap[p]?=some (.cells #[.int .i64 (n:Int),.int .u64 (x:Int)] 252 (0,0))
structure je(n x:Nat):Prop where
 n1:n≤64
 hi:∀ i,n≤i→x.testBit i=false
theorem je.lt{n x:Nat}(h:je n x):x<18446744073709551616:=by
 have:x<2 ^ 64:=Nat.lt_pow_two_of_testBit x (fun i hi=>h.hi i (Nat.le_trans h.n1 hi))
 exact this
theorem fU.cells{w:World}{p n x:Nat}(h:fU w p n x):w.cell? ⟨p,0,none⟩=some (.int .i64 (n:Int))∧w.cell? ⟨p,1,none⟩=some (.int .u64 (x:Int))∧w.frozen? ⟨p,1,none⟩=false:=by
 have h':w.heap[p]?=_:=h;refine⟨?_,?_,?_⟩<;>simp[World.cell?,World.frozen?,h']
theorem fU.below{w w':World}{p n x:Nat}(h:fU w p n x)(hb:Below w.heap.size w w'):fU w' p n x:=(hb.block p (lt_of_some h)).trans h
theorem fU.set{w:World}{p n x:Nat}(h:fU w p n x)(y:Nat):fU (w.setCell ⟨p,1,none⟩ (.int .u64 (y:Int))) p n y:=by
 unfold fU;rw[heap_setCell_same w p 1 _ _ _ h];rfl
theorem Ou(w:World)(o:Obj):(w.alloc o).heap[w.heap.size]?=some o:=by
 show(w.heap.push o)[w.heap.size]?=some o
 simp
def jK(n:Nat)(i:Int):Bool:=decide (0≤i∧i<(n:Int))
def hasB(n x:Nat)(i:Int):Bool:=jK n i&&x.testBit i.toNat
theorem RG(n:Nat)(w:World)(h:n≤64) :
  Calls Tryz.prog 200 #[.int .i64 (n:Int)] w fun e w'=>e=.returned (.tuple #[.pointer (some ⟨w.heap.size,0,none⟩),.nilIface])∧fU w' w.heap.size n 0∧Below w.heap.size w w':=by
 have g1:decide ((n:Int)<0)=false:=decide_eq_false (by omega)
 have g2:decide (64<(n:Int))=false:=decide_eq_false (by omega)
 go_enter Tryz.func200,Tryz.ntmps200
 go_wp2
 go_ret2
 exact⟨rfl,Ou w _,(Below.refl _ w).alloc (Nat.le_refl _) _⟩
theorem FK(n:Nat)(h:n≤64):je n 0:=⟨h,fun i _=>Nat.zero_testBit i⟩
theorem FT{p n x:Nat}(i:Int)(w:World)(h:fU w p n x) :
  Calls Tryz.prog 253 #[.pointer (some ⟨p,0,none⟩),.int .i64 i] w fun e w'=>e=.returned (.bool (jK n i))∧w'=w:=by
 obtain⟨c0,c1,fz⟩:=h.cells;clear h;by_cases h0:0≤i
 ·have g0:decide (0≤i)=true:=decide_eq_true h0
  have HF:Hid (decide (i<(n:Int))=jK n i):=by unfold Hid jK;simp[h0]
  go_enter Tryz.func253,Tryz.ntmps253
  go_wp2
  go_ret
  exact⟨nD HF.out,rfl⟩
 ·have g0:decide (0≤i)=false:=decide_eq_false h0
  have HF:Hid (false=jK n i):=by unfold Hid jK;simp[h0]
  go_enter Tryz.func253,Tryz.ntmps253
  go_wp2
  go_ret
  exact⟨nD HF.out,rfl⟩
theorem Iq(x k:Nat)(hx:x<18446744073709551616):(bits BinOp.and .u64 ((x:Int) / 2 ^ k) 1==1)=x.testBit k:=by
 have h1:x / 2 ^ k<18446744073709551616:=Nat.lt_of_le_of_lt (Nat.div_le_self _ _) hx;have e1:bits BinOp.and .u64 ((x / 2 ^ k:Nat):Int) ((1:Nat):Int)=((x / 2 ^ k &&& 1:Nat):Int):=bits_and_u64_nat _ 1 h1 (by decide)
 have e2:((x / 2 ^ k:Nat):Int)=(x:Int) / 2 ^ k:=by rw[Int.natCast_ediv,Int.natCast_pow];rfl
 rw[← e2];show(bits BinOp.and .u64 ((x / 2 ^ k:Nat):Int) ((1:Nat):Int)==1)=_
 rw[e1,Nat.testBit_eq_decide_div_mod_eq,Nat.and_one_is_mod];rcases Nat.mod_two_eq_zero_or_one (x / 2 ^ k) with q|q<;>rw[q]<;>rfl
theorem Rt{p n x:Nat}(i:Int)(w:World)(h:fU w p n x)(hok:je n x) :
  Calls Tryz.prog 254 #[.pointer (some ⟨p,0,none⟩),.int .i64 i] w fun e w'=>e=.returned (.bool (hasB n x i))∧w'=w:=by
 have h1:=FT i w h;obtain⟨c0,c1,fz⟩:=h.cells;have hx:=hok.lt;have hn:=hok.n1;clear h hok
 cases hm:jK n i with
 | false =>
  rw[hm] at h1;have HF:Hid (false=hasB n x i):=by unfold Hid hasB;simp[hm]
  go_enter Tryz.func254,Tryz.ntmps254
  go_wp2_with fail
  refine h1.mono ?_;rintro e w' ⟨rfl,hw⟩;have hw':=hw.symm;subst hw';clear hw;go_wp2
  go_ret
  exact⟨nD HF.out,rfl⟩
 | true =>
  rw[hm] at h1;obtain⟨k,rfl⟩:∃ k:Nat,i=k:=⟨i.toNat,by unfold jK at hm;simp at hm;omega⟩
  have hk:k<n:=by unfold jK at hm;simp at hm;omega
  have HF:Hid ((bits BinOp.and .u64 ((x:Int) / 2 ^ k) 1==1)=hasB n x (k:Int)):=by
   unfold Hid hasB;rw[hm,Bool.true_and,Int.toNat_natCast,Iq x k hx]
  go_enter Tryz.func254,Tryz.ntmps254
  go_wp2_with fail
  refine h1.mono ?_;rintro e w' ⟨rfl,hw⟩;have hw':=hw.symm;subst hw';clear hw;go_wp2
  go_ret
  exact⟨nD HF.out,rfl⟩
theorem Ig(a:Nat)(ha:a<9223372036854775808):bits .and .i64 (a:Int) 127=((a % 128:Nat):Int):=by
 have h1:(BitVec.ofInt 64 (a:Int)).toNat=a:=by
  rw[BitVec.ofInt_natCast,BitVec.toNat_ofNat];exact Nat.mod_eq_of_lt (by omega)
 have h2:(BitVec.ofInt 64 (127:Int)).toNat=127:=by decide
 have h3:a &&& 127=a % 128:=Nat.and_two_pow_sub_one_eq_mod a 7;show IntKind.i64.wrap ((BitVec.ofInt 64 (a:Int) &&& BitVec.ofInt 64 (127:Int)).toNat:Int)=_
 rw[BitVec.toNat_and,h1,h2,h3];exact IntWalk.i64_in _ (by omega)
theorem yw(a:Nat)(ha:a<18446744073709551616):IntKind.u64.wrap (a:Int)=(a:Int):=by
 rw[IntKind.wrap_u64];omega
theorem sW(a m:Nat)(ha:a<18446744073709551616)(hm:m<18446744073709551616):bits .and .u64 (a:Int) (m:Int)=((a &&& m:Nat):Int):=bits_and_u64_nat a m ha hm
theorem PU(x:Nat)(hx:x<18446744073709551616):IntKind.u64.wrap (bits .and .u64 ((x:Int) / 2) 6148914691236517205+bits .and .u64 (x:Int) 6148914691236517205)=((o1 x:Nat):Int):=by
 have e1:=sW (x / 2) 6148914691236517205 (by omega) (by decide)
 have e2:=sW x 6148914691236517205 hx (by decide)
 have e3:((x / 2:Nat):Int)=(x:Int) / 2:=by omega
 rw[e3] at e1;have e1':bits .and .u64 ((x:Int) / 2) 6148914691236517205=((x / 2 &&& 6148914691236517205:Nat):Int):=e1;have e2':bits .and .u64 (x:Int) 6148914691236517205=((x &&& 6148914691236517205:Nat):Int):=e2;rw[e1',e2',← Int.natCast_add];exact yw _ (zM x hx)
theorem PV(y:Nat)(hy:y<18446744073709551616)(hl:o2 y<18446744073709551616):IntKind.u64.wrap (bits .and .u64 ((y:Int) / 4) 3689348814741910323+bits .and .u64 (y:Int) 3689348814741910323)=((o2 y:Nat):Int):=by
 have e1:=sW (y / 4) 3689348814741910323 (by omega) (by decide)
 have e2:=sW y 3689348814741910323 hy (by decide)
 have e3:((y / 4:Nat):Int)=(y:Int) / 4:=by omega
 rw[e3] at e1;have e1':bits .and .u64 ((y:Int) / 4) 3689348814741910323=((y / 4 &&& 3689348814741910323:Nat):Int):=e1;have e2':bits .and .u64 (y:Int) 3689348814741910323=((y &&& 3689348814741910323:Nat):Int):=e2;rw[e1',e2',← Int.natCast_add];exact yw _ hl
theorem PW(y:Nat)(hy:y<4919131752989213765):IntKind.u64.wrap ((y:Int) / 16+(y:Int))=((y / 16+y:Nat):Int)∧bits .and .u64 ((y / 16+y:Nat):Int) 1085102592571150095=((o3 y:Nat):Int):=by
 constructor
 ·rw[IntKind.wrap_u64];omega
 ·exact sW (y / 16+y) 1085102592571150095 (by omega) (by decide)
theorem Aa(y d:Nat)(h:y+y / d<18446744073709551616):IntKind.u64.wrap ((y:Int)+(y:Int) / (d:Int))=((y+y / d:Nat):Int):=by
 rw[← Int.natCast_ediv,← Int.natCast_add];exact yw _ h
theorem OY(x:Nat)(w:World)(hx:x<18446744073709551616) :
  Calls Tryz.prog 209 #[.int .u64 (x:Int)] w fun e w'=>e=.returned (.int .i64 (cnt x 64:Nat))∧w'=w:=by
 have q1:=PU x hx;have b1:=zM x hx;have b2:=OQ x hx;obtain⟨b3,b4,b5,b6,hlast⟩:=OZ x hx;generalize o1 x=y1 at q1 b1 b2 b3 b4 b5 b6 hlast;have q2:=PV y1 b1 (by omega)
 generalize o2 y1=y2 at q2 b2 b3 b4 b5 b6 hlast;obtain⟨q3,q3'⟩:=PW y2 b2;generalize y2 / 16+y2=z2 at q3 q3';generalize o3 y2=y3 at q3' b3 b4 b5 b6 hlast;have q4:=Aa y3 256 (show o4 y3<_ by omega)
 have q4':IntKind.u64.wrap ((y3:Int)+(y3:Int) / 256)=((o4 y3:Nat):Int):=q4;generalize o4 y3=y4 at q4' b4 b5 b6 hlast;have q5:=Aa y4 65536 (show o5 y4<_ by omega)
 have q5':IntKind.u64.wrap ((y4:Int)+(y4:Int) / 65536)=((o5 y4:Nat):Int):=q5;generalize o5 y4=y5 at q5' b5 b6 hlast;have q6:=Aa y5 4294967296 (show o6 y5<_ by omega)
 have q6':IntKind.u64.wrap ((y5:Int)+(y5:Int) / 4294967296)=((o6 y5:Nat):Int):=q6;generalize o6 y5=y6 at q6' b6 hlast;have q7:=Ig y6 (by omega)
 have q8:IntKind.i64.wrap (y6:Int)=(y6:Int):=IntWalk.i64_in _ (by omega)
 rw[hlast] at q7;generalize cnt x 64=c at q7 ⊢;clear q4 q5 q6 b1 b2 b3 b4 b5 b6 hlast hx;go_enter Tryz.func209,Tryz.ntmps209
 go_wp2
 go_ret
 exact⟨rfl,rfl⟩
theorem EZ{p n x:Nat}(w:World)(h:fU w p n x)(hok:je n x) :
  Calls Tryz.prog 97 #[.pointer (some ⟨p,0,none⟩)] w fun e w'=>e=.returned (.int .i64 (cnt x 64:Nat))∧w'=w:=by
 have h1:=OY x w hok.lt;obtain⟨c0,c1,fz⟩:=h.cells;clear h hok;generalize cnt x 64=c at h1 ⊢;go_enter Tryz.func97,Tryz.ntmps97
 go_wp2_with fail
 refine h1.mono ?_;rintro e w' ⟨rfl,hw⟩;have hw':=hw.symm;subst hw';clear hw;go_wp2
 go_ret
 exact⟨rfl,rfl⟩
def kE(n x:Nat)(i:Int)(b:Bool):Bool:=jK n i&&(hasB n x i != b)
def eP(n x:Nat)(i:Int)(b:Bool):Nat:=if kE n x i b then x ^^^ 2 ^ i.toNat else x
theorem xu{n x:Nat}(h:je n x)(i:Int)(b:Bool):je n (eP n x i b):=by
 unfold eP;split
 ·rename_i q
  have hm:jK n i=true:=by unfold kE at q;simp at q;exact q.1
  unfold jK at hm;simp at hm
  refine⟨h.n1,fun j hj=>?_⟩
  rw[Nat.testBit_xor,h.hi j hj,Nat.testBit_two_pow_of_ne (by omega)]
  rfl
 ·exact h
theorem pV{n x:Nat}(i:Int)(b:Bool)(j:Nat):(eP n x i b).testBit j=if jK n i=true∧i=(j:Int) then b else x.testBit j:=by
 unfold eP kE
 cases hm:jK n i with
 | false=>simp
 | true =>
  obtain⟨k,rfl⟩:∃ k:Nat,i=k:=⟨i.toNat,by unfold jK at hm;simp at hm;omega⟩
  have hh:hasB n x (k:Int)=x.testBit k:=by unfold hasB;rw[hm,Bool.true_and,Int.toNat_natCast]
  rw[hh,Bool.true_and,Int.toNat_natCast];by_cases e:k=j
  ·subst e
   rw[if_pos (⟨rfl,rfl⟩:true=true∧(k:Int)=(k:Int))];by_cases q:x.testBit k=b
   ·have:¬(x.testBit k != b)=true:=by simp[q]
    rw[if_neg this];exact q
   ·have:(x.testBit k != b)=true:=by simpa using q
    rw[if_pos this,Nat.testBit_xor,Nat.testBit_two_pow_self]
    revert q
    cases x.testBit k<;>cases b<;>simp
  ·have e':¬(true=true∧(k:Int)=(j:Int)):=fun h=>e (by have:=h.2;omega)
   rw[if_neg e'];split
   ·rw[Nat.testBit_xor,Nat.testBit_two_pow_of_ne e];simp
   ·rfl
theorem Ui(x k:Nat)(hx:x<18446744073709551616)(hk:k<64):bits BinOp.xor .u64 (x:Int) (IntKind.u64.wrap (2 ^ k))=((x ^^^ 2 ^ k:Nat):Int):=by
 have h1:2 ^ k<18446744073709551616:=Nat.pow_lt_pow_right (by decide) hk
 have e:(2:Int) ^ k=((2 ^ k:Nat):Int):=by rw[Int.natCast_pow];rfl
 rw[e,yw _ h1];exact bits_xor_u64_nat _ _ hx h1
theorem xU{p n x:Nat}(i:Int)(b:Bool)(w:World)(h:fU w p n x)(hok:je n x) :
  Calls Tryz.prog 196 #[.pointer (some ⟨p,0,none⟩),.int .i64 i,.bool b] w fun e w'=>e=.returned (.bool (kE n x i b))∧fU w' p n (eP n x i b)∧Kept (fun k=>k=p) w w':=by
 have h1:=FT i w h;have h2:=Rt i w h hok;have HH:=ah h;obtain⟨c0,c1,fz⟩:=h.cells;have hx:=hok.lt;have hn:=hok.n1;clear h hok
 cases hm:jK n i with
 | false =>
  rw[hm] at h1;have e1:kE n x i b=false:=by unfold kE;simp[hm]
  have e2:eP n x i b=x:=by unfold eP;simp[e1]
  rw[e1,e2];go_enter Tryz.func196,Tryz.ntmps196
  go_wp2_with fail
  refine h1.mono ?_;rintro e w' ⟨rfl,hw⟩;have hw':=hw.symm;subst hw';clear hw;go_wp2
  go_ret
  exact⟨rfl,HH.out,Kept.refl _ w⟩
 | true =>
  rw[hm] at h1;have e0:kE n x i b=(hasB n x i != b):=by unfold kE;simp[hm]
  generalize hh:hasB n x i=hb at h2 e0
  cases hq:(hb != b) with
  | false =>
   have e1:kE n x i b=false:=e0.trans hq;have e2:eP n x i b=x:=by unfold eP;simp[e1]
   have e3:(hb==b)=true:=by revert hq;cases hb<;>cases b<;>simp
   rw[e1,e2];clear e0 e1 e2 hq hh;go_enter Tryz.func196,Tryz.ntmps196
   go_wp2_with fail
   refine h1.mono ?_;rintro e w' ⟨rfl,hw⟩;have hw':=hw.symm;subst hw';clear hw;go_wp2_with fail
   refine h2.mono ?_;rintro e w' ⟨rfl,hw⟩;have hw':=hw.symm;subst hw';clear hw;go_wp2
   go_ret
   exact⟨rfl,HH.out,Kept.refl _ w⟩
  | true =>
   have e1:kE n x i b=true:=e0.trans hq;have e2:eP n x i b=x ^^^ 2 ^ i.toNat:=by unfold eP;simp[e1]
   have e3:(hb==b)=false:=by revert hq;cases hb<;>cases b<;>simp
   rw[e1,e2];clear e0 e1 e2 hq hh;obtain⟨k,rfl⟩:∃ k:Nat,i=k:=⟨i.toNat,by unfold jK at hm;simp at hm;omega⟩
   have hk:k<64:=by unfold jK at hm;simp at hm;omega
   rw[Int.toNat_natCast];have HX:Hid (bits BinOp.xor .u64 (x:Int) (IntKind.u64.wrap (2 ^ k))=((x ^^^ 2 ^ k:Nat):Int)):=Ui x k hx hk;go_enter Tryz.func196,Tryz.ntmps196
   go_wp2_with fail
   refine h1.mono ?_;rintro e w' ⟨rfl,hw⟩;have hw':=hw.symm;subst hw';clear hw;go_wp2_with fail
   refine h2.mono ?_;rintro e w' ⟨rfl,hw⟩;have hw':=hw.symm;subst hw';clear hw;go_wp2_with fail
   go_region
   go_wp2
   go_ret
   exact⟨rfl,by rw[HX.out];exact HH.out.set _,(Kept.setCell (S:=fun k=>k=p) (Kept.refl _ w) (p:=⟨p,1,none⟩) (.inl rfl) _).drew⟩
open Go.Shelf
def jh(x:Nat):Nat→List Nat
 | 0=>[]
 | k+1=>jh x k++if x.testBit k then [k] else []
def elems(x:Nat):List Nat:=jh x 64
theorem yR(x k:Nat):(jh x k).length=cnt x k:=by
 induction k with
 | zero=>rfl
 | succ k ih =>
  show(jh x k++_).length=cnt x k+_
  rw[List.length_append,ih];split<;>rfl
theorem JZ(k:Nat):jh 0 k=[]:=by
 induction k with
 | zero=>rfl
 | succ k ih=>show jh 0 k++_=[];rw[ih];simp
theorem yS(x k j:Nat):j∈jh x k↔j<k∧x.testBit j=true:=by
 induction k with
 | zero=>simp[jh]
 | succ k ih =>
  show j∈jh x k++_↔_
  rw[List.mem_append,ih];by_cases h:x.testBit k=true
  ·rw[if_pos h,List.mem_singleton]
   constructor
   ·rintro(⟨h1,h2⟩|rfl)
    ·exact⟨by omega,h2⟩
    ·exact⟨by omega,h⟩
   ·rintro⟨h1,h2⟩
    by_cases e:j=k
    ·exact .inr e
    ·exact .inl ⟨by omega,h2⟩
  ·rw[if_neg h]
   constructor
   ·rintro(⟨h1,h2⟩|h1)
    ·exact⟨by omega,h2⟩
    ·cases h1
   ·rintro⟨h1,h2⟩
    by_cases e:j=k
    ·subst e;exact absurd h2 h
    ·exact .inl ⟨by omega,h2⟩
theorem NV(x:Nat)(h0:x≠0)(hx:x<18446744073709551616):∃ m,x=2 ^ Lib.ctz 64 x*(2*m+1)∧Lib.ctz 64 x<64:=by
 have:=Lib.ctzFrom_spec 64 x (by omega) hx
 unfold Lib.ctz;rw[if_neg h0];exact this
theorem zD(c m j:Nat):(2 ^ c*(2*m+1)).testBit j=(decide (c≤j)&&(2*m+1).testBit (j-c)):=Nat.testBit_two_pow_mul ..
theorem Qy(c m j:Nat):((2 ^ c*(2*m+1)) &&& (2 ^ c*(2*m+1)-1)).testBit j=((2 ^ c*(2*m+1)).testBit j&&decide (j≠c)):=by
 have hp:0<2 ^ c:=Nat.pow_pos (by decide)
 have e:2 ^ c*(2*m+1)-1=2 ^ c*(2*m)+(2 ^ c-1):=by
  rw[Nat.mul_add,Nat.mul_one];omega
 rw[Nat.testBit_and,e,Nat.testBit_two_pow_mul_add _ (by omega),zD]
 by_cases h:j<c
 ·simp[show ¬c≤j by omega]
 ·rw[if_neg h]
  have h1:decide (c≤j)=true:=decide_eq_true (by omega)
  rw[h1,Bool.true_and];by_cases hj:j=c
  ·subst hj
   simp[Nat.testBit_zero]
  ·obtain⟨k,hk⟩:∃ k,j-c=k+1:=⟨j-c-1,by omega⟩
   rw[hk,Nat.testBit_succ,Nat.testBit_succ,show(2*m+1) / 2=m by omega,show 2*m / 2=m by omega]
   simp[hj]
theorem J8(x:Nat)(h0:x≠0)(hx:x<18446744073709551616):elems x=Lib.ctz 64 x::elems (x &&& (x-1))∧(x &&& (x-1))<x∧Lib.ctz 64 x<64:=by
 obtain⟨m,e,hc⟩:=NV x h0 hx;generalize Lib.ctz 64 x=c at e hc;refine⟨?_,Nat.lt_of_le_of_lt Nat.and_le_right (by omega),hc⟩
 have hb:∀ j,j<c→x.testBit j=false:=fun j hj=>by rw[e,zD];simp[show ¬c≤j by omega]
 have hcb:x.testBit c=true:=by rw[e,zD];simp[Nat.testBit_zero]
 have hr:∀ j,(x &&& (x-1)).testBit j=(x.testBit j&&decide (j≠c)):=fun j=>by
  rw[e];exact Qy c m j
 generalize x &&& (x-1)=y at hr
 have z1:∀ k,k≤c→jh x k=[]∧jh y k=[]:=by
  intro k
  induction k with
  | zero=>intro _;exact⟨rfl,rfl⟩
  | succ k ih =>
   intro hk;obtain⟨i1,i2⟩:=ih (by omega)
   have b1:=hb k (by omega)
   have b2:y.testBit k=false:=by rw[hr,b1];rfl
   refine⟨?_,?_⟩
   ·show jh x k++_=[];rw[i1,b1];rfl
   ·show jh y k++_=[];rw[i2,b2];rfl
 have z2:∀ k,jh x (c+1+k)=c::jh y (c+1+k):=by
  intro k
  induction k with
  | zero =>
   obtain⟨i1,i2⟩:=z1 c (Nat.le_refl _);have b2:y.testBit c=false:=by rw[hr];simp
   show jh x c++_=c::(jh y c++_)
   rw[i1,i2,hcb,b2];rfl
  | succ k ih =>
   have es:∀ z,jh z (c+1+(k+1))=jh z (c+1+k)++if z.testBit (c+1+k) then [c+1+k] else []:=fun z=>rfl
   have:decide (c+1+k≠c)=true:=decide_eq_true (by omega)
   rw[es,es,ih,hr,List.cons_append,this,Bool.and_true]
 have:=z2 (63-c)
 rw[show c+1+(63-c)=64 by omega] at this
 exact this
theorem J9:elems 0=[]:=JZ 64
def Tab(w:World):Prop:=∀ j,j<Lib.deBruijn64tab.length→w.cell? ⟨0,j,none⟩=some (.int .u8 (Lib.deBruijn64tab.getD j 0:Nat))
theorem Tt(x a:Nat)(hx:x<18446744073709551616)(hx0:x≠0)(hlow:x &&& (18446744073709551616-x)=a) :
  IntKind.u64.wrap (bits BinOp.and IntKind.u64 (x:Int) (IntKind.u64.wrap (-(x:Int)))*285870213051353865) / 288230376151711744=((a*285870213051353865 % 18446744073709551616 / 288230376151711744:Nat):Int):=by
 have e1:IntKind.u64.wrap (-(x:Int))=((18446744073709551616-x:Nat):Int):=by rw[IntKind.wrap_u64];omega
 rw[e1,bits_and_u64_nat x _ hx (by omega),hlow,IntKind.wrap_u64]
 omega
theorem Tq(x k idx:Nat)(w:World)(hx0:((x:Int)==0)=false)
  (key:IntKind.u64.wrap (bits BinOp.and IntKind.u64 (x:Int) (IntKind.u64.wrap (-(x:Int)))*285870213051353865) / 288230376151711744=(idx:Int))
  (hi:idx<64) (hk:k<64) (hcell:w.cell? ⟨0,idx,none⟩=some (.int .u8 (k:Int))) :
  Calls Tryz.prog 278 #[.int .u64 (x:Int)] w fun e w'=>e=.returned (.int .i64 (k:Int))∧w'=w:=by
 go_enter Tryz.func278,Tryz.ntmps278
 go_wp2_with (simp only[key])
 go_ret
 exact⟨rfl,rfl⟩
theorem Tn(x:Nat)(w:World)(h0:x≠0)(hx:x<18446744073709551616)(hT:Tab w) :
  Calls Tryz.prog 278 #[.int .u64 (x:Int)] w fun e w'=>e=.returned (.int .i64 ((Lib.ctz 64 x:Nat):Int))∧w'=w:=by
 obtain⟨hlow,hk⟩:=Lib.lowest_bit 64 x h0 hx;obtain⟨hi,htab⟩:=Lib.deBruijn64_at _ hk;have hcell:=hT _ hi;rw[htab] at hcell;exact Tq x _ _ w (by simp;omega) (Tt x _ hx h0 hlow) hi hk hcell
theorem EX{p n x:Nat}(w:World)(h:fU w p n x) :
  Calls Tryz.prog 251 #[.pointer (some ⟨p,0,none⟩)] w fun e w'=>e=.returned (.func (.func 277) #[] #[.pointer (some ⟨w.heap.size,0,none⟩)])∧w'=w.alloc (.cells #[.int .u64 (x:Int)] 250):=by
 have hmf:∀(fn:Fn) (first cap:Array Value) (w:World),(Instr.makeFunc fn first cap).run Tryz.prog w=.ok (.func fn first cap) w:=fun _ _ _ _=>rfl
 obtain⟨c0,c1,fz⟩:=h.cells;clear h;go_enter Tryz.func251,Tryz.ntmps251
 go_wp2
 go_ret
 exact⟨rfl,rfl⟩
end Go.Proofs.YtonhoahnieoebabGreatDoor.S4
namespace Go.Proofs.YtonhoahnieoebabGreatDoor.S4
open Go.RowKit Go.Shelf
attribute [local go_sem] Oper.semAt_some
def qV(W W':World):Prop:=Tab W→Tab W'
theorem Ie(v:Nat)(h0:v≠0)(hv:v<18446744073709551616):IntKind.u64.wrap ((v:Int)-1)=((v-1:Nat):Int)∧bits .and .u64 (v:Int) ((v-1:Nat):Int)=((v &&& (v-1):Nat):Int):=by
 refine⟨?_,bits_and_u64_nat _ _ hv (by omega)⟩
 rw[IntKind.wrap_u64];omega
theorem Eo{n:Nat}:Fence.wide.depth.isSome=true→1≤n:=fun h=>by cases h
structure jV(v:Nat)(rest:List Nat):Prop where
 eq:rest=elems v
theorem jV.zero{rest:List Nat}(h:jV 0 rest):rest=[]:=h.eq.trans J9
theorem jV.len{v:Nat}{rest:List Nat}(h:jV v rest):rest.length≤64:=by
 rw[h.eq];unfold elems;rw[yR];exact cnt_le v 64
theorem jV.step{v:Nat}{rest:List Nat}(h:jV v rest)(h0:v≠0)(hv:v<18446744073709551616):∃ r,rest=Lib.ctz 64 v::r∧jV (v &&& (v-1)) r∧(v &&& (v-1))<v:=by
 obtain⟨s1,s2,_⟩:=J8 v h0 hv;exact⟨_,h.eq.trans s1,⟨rfl⟩,s2⟩
theorem all1_in(n:Nat)(l Bn x:Nat)(xs:List Nat)(HXS:jV x xs)(hx:x<18446744073709551616)(J Jx:List Nat→World→Prop)
    (hY:∀ pre y W,J pre W→pre.length<64→YieldAt Fence.wide (n-1) Tryz.prog l #[.int .i64 ((y:Nat):Int)] W fun e W' =>
      (e=.returned (.bool true)∧J (pre++[y]) W'∧qV W W')∨(e=.returned (.bool false)∧Jx (pre++[y]) W'))
    (W:World) (hBn:W.cell? ⟨Bn,0,none⟩=some (.int .u64 (x:Int))) (hT:Tab W) (h0:J [] W) :
    CallsIn Fence.wide n Tryz.prog 277 #[.func (.yield l) #[] #[],.pointer (some ⟨Bn,0,none⟩)] W fun e W'=>(∃ v,e=.returned v) ∧
      ((∃ ys,ys=xs∧J ys W')∨(∃ pre,pre <+: xs∧Jx pre W')):=by
  have HT:=ah hT;clear hT;have HLE:Hid (xs.length≤64):=HXS.len;refine callsIn_of_wp Tryz.func277 rfl trivial ?_ rfl;simp only[Tryz.ntmps277,List.size_toArray,List.length_cons,List.length_nil,Nat.reduceAdd,Nat.reduceSub,Array.replicate_succ,Array.replicate_zero,List.push_toArray,List.append_toArray,List.nil_append,List.cons_append]
  gi_wp2
  gi_loopw [3] (fun q wr=>∃(pre rest:List Nat) (v:Nat),q=.int .u64 (v:Int)∧v<18446744073709551616∧xs=pre++rest∧jV v rest∧Tab wr∧J pre wr)
    (fun q wr=>(intOf q).toNat)
  case atStart =>
    exact⟨[],xs,x,rfl,hx,rfl,HXS,HT.out,h0⟩
  case round =>
    obtain⟨pre,rest,v,rfl,hv,he,hr,hT,hJs⟩:=hrel;have HT1:=ah hT;clear hT;by_cases hv0:v=0
    · subst hv0
      have hr0:=hr.zero;subst hr0;have g0:(((0:Nat):Int) != 0)=false:=rfl
      gi_wp2
      go_end0
      exact⟨⟨_,rfl⟩,.inl ⟨pre,by simp[he],hJs⟩⟩
    · have g0:((v:Int) != 0)=true:=by simp;omega
      obtain⟨r,s1,s3,s2⟩:=hr.step hv0 hv;obtain⟨d1,d2⟩:=Ie v hv0 hv;have HTZ:=ah (Tn v wr hv0 hv HT1.out);generalize Lib.ctz 64 v=c at s1 HTZ;subst s1;have hlen:pre.length<64:=by have:=HLE.out;rw[he] at this;simp at this;omega
      have hY1:=hY pre c wr hJs hlen;obtain⟨fn,tmps,assign,body,hy,hR⟩:=hY1;have HE:=ah he;clear he;generalize v &&& (v-1)=v2 at s2 s3 d2;have h2:v2<18446744073709551616:=by omega
      generalize v-1=v1 at d1 d2
      gi_wp2_with fail
      refine⟨trivial,Eo,(callsIn_wide.2 HTZ.out).mono ?_⟩;rintro e w' ⟨rfl,hw⟩;have hw':=hw.symm;subst hw';clear hw
      gi_wp2_with fail
      refine⟨Eo,hR.mono ?_⟩;rintro e W3 (⟨rfl,hJ3,hk3⟩|⟨rfl,hJx3⟩)
      · have HT3:=ah (hk3 HT1.out)
        clear hk3
        gi_wp2
        go_roundw
        case rel=>exact⟨pre++[c],r,v2,rfl,h2,by simp[HE.out],s3,HT3.out,hJ3⟩
        case measure=>simp[intOf];omega
      · gi_wp2
        refine bodyPost_ret (results_none rfl _ _ _) rfl ?_;exact⟨⟨_,rfl⟩,.inr ⟨pre++[c],⟨r,by simp[HE.out]⟩,hJx3⟩⟩
theorem all_stops(n:Nat)(Bn x:Nat)(xs:List Nat)(HXS:jV x xs)(hx:x<18446744073709551616)(w:World)(hBn:w.cell? ⟨Bn,0,none⟩=some (.int .u64 (x:Int)))(hT:Tab w) :
  SeqStopsK Fence.wide n Tryz.prog 277 #[.pointer (some ⟨Bn,0,none⟩)] (fun y:Nat => #[Value.int .i64 (y:Int)]) qV (fun ys=>ys=xs) (fun pre=>pre <+: xs) 64 w:=fun l J Jx W hW _ _ hY h0 =>
 all1_in n l Bn x xs HXS hx J Jx hY W ((hW.cell (p:=⟨Bn,0,none⟩) (World.block_lt_of_cell? w _ hBn)).trans hBn) (fun j hj=>(hW.cell (p:=⟨0,j,none⟩) (World.block_lt_of_cell? w _ (hT j hj))).trans (hT j hj)) h0
theorem DN{A B C:World}(h:qV A B)(k:qV B C):qV A C:=fun t=>k (h t)
theorem DL(W:World)(l:Nat)(o o':Obj)(h:W.heap[l]?=some o)(hc:o.isCells=false):qV W (W.putObj l o'):=fun t j hj=>by
 have ht:=t j hj
 have hne:(0:Nat)≠l:=fun e=>by
  subst e;unfold World.cell? at ht;rw[h] at ht;cases o<;>simp[Obj.isCells] at hc ht
 have e:(W.putObj l o').heap[0]?=W.heap[0]?:=World.putObj_heap_other hne;exact(World.cell?_of_block e).trans ht
theorem yF{W W':World}{row:Option Nat}{B D:Nat}{t:TypeId}{v:Value}(h:Boxed W B t v)(hg:W.grownBy W' row)(hr:∀ r,row=some r→D≤r∧∃ o:Obj,W.heap[r]?=some o∧o.isCells=false):Boxed W' B t v :=
 h.kept hg (fun e=>by
  obtain⟨_,o,ho,hc⟩:=hr B e.symm
  rw[show W.heap[B]?=_ from h] at ho;cases ho;cases hc)
theorem Tab.below{w W:World}{n:Nat}(h:Tab w)(hb:Below n w W)(h0:0<n):Tab W:=fun j hj=>(hb.cell (p:=⟨0,j,none⟩) h0).trans (h j hj)
def pR(xs:List Nat)(from_:Int):Int:=match xs.find? (fun k:Nat=>decide (from_≤(k:Int))) with
 | some k=>(k:Int)
 | none=>((xs.headD 0:Nat):Int)
def rO(xs:List Nat):Bool := !xs.isEmpty
theorem OC{xs pre:List Nat}{y:Nat}{from_:Int}(h:pre++[y] <+: xs)(h1:∀ z∈pre,(z:Int)<from_)(h2:from_≤(y:Int)):pR xs from_=(y:Int)∧rO xs=true:=by
 obtain⟨r,rfl⟩:=h
 constructor
 ·have:((pre++[y])++r).find? (fun k:Nat=>decide (from_≤(k:Int)))=some y:=by
   rw[List.append_assoc,List.find?_append];rw[List.find?_eq_none.2 (fun z hz=>by simpa using h1 z hz)]
   simp[h2]
  unfold pR;rw[this]
 ·unfold rO;cases pre<;>simp
theorem OE{xs:List Nat}{from_:Int}(h1:∀ z∈xs,(z:Int)<from_):pR xs from_=((xs.headD 0:Nat):Int):=by
 unfold pR;rw[List.find?_eq_none.2 (fun z hz=>by simpa using h1 z hz)]
theorem Nz(W:World)(D:Nat)(o:Obj):Kept (fun k=>k=D) W (W.putObj D o) :=
 ⟨rfl,rfl,rfl,by simp,fun k _ hs=>World.putObj_heap_other hs⟩
theorem wV{P:Program}{fn:Func}{tmps:Array Value}{R:Ending→World→Prop}{n:Nat}:∀(ds:List Nat) (W:World),(∀ D∈ds,W.heap[D]?=some (.deferred (some [])))→ds.Nodup →
  (∀ W',Kept (fun k=>k∈ds) W W'→LeavesInM Fence.wide n P fn tmps R [] .returning W') →
  LeavesInM Fence.wide n P fn tmps R (ds.map fun D=>{ target:=.collected D,args := #[] }) .returning W
 | [],W,_,_,hfin=>hfin W (Kept.refl _ W)
 | D::ds,W,hall,hnd,hfin=>by
  refine⟨by simp,.inl ⟨D,_,rfl,run_takeDeferred (hall D (by simp)),?_⟩⟩
  rw[List.nodup_cons] at hnd;refine wV ds _ (fun D' hD'=>?_) hnd.2 (fun W' hk=>hfin W' ?_)
  ·have hne:D'≠D:=fun e=>hnd.1 (by rw[← e];exact hD')
   rw[World.putObj_heap_other hne];exact hall D' (by simp[hD'])
  ·exact((Nz W D _).mono (fun k _ e=>by simp[show k=D from e])).trans (hk.mono (fun k _ e=>List.mem_cons_of_mem _ e))
theorem Ec{W W':World}{B D:Nat}{row:Option Nat}(h:W.heap[D]?=some (.deferred (some [])))(hD:D<B)(hg:W.grownBy W' row)(hr:∀ r,row=some r→B≤r∧∃ o:Obj,W.heap[r]?=some o∧o.isCells=false):W'.heap[D]?=some (.deferred (some [])) :=
 (hg.block D (lt_of_some h) (fun e=>by have:=(hr D e.symm).1;omega)).trans h
theorem rM{W:World}{D b o:Nat}{v:Value}(h:W.heap[D]?=some (.deferred (some [])))(hne:D≠b):(W.setCell ⟨b,o,none⟩ v).heap[D]?=some (.deferred (some [])) :=
 (heap_setCell_other W ⟨b,o,none⟩ D v hne).trans h
structure NxI(w W:World)(B:Nat)(f v:Int)(b:Bool):Prop where
 b0:Boxed W B 3 (.int .i64 f)
 b1:Boxed W (B+1) 3 (.int .i64 v)
 b2:Boxed W (B+1+1) 4 (.bool b)
 bel:Below w.heap.size w W
theorem NxI.own{w W W':World}{B D:Nat}{f v:Int}{b:Bool}{row:Option Nat}(h:NxI w W B f v b)(hD:w.heap.size≤D)(hg:W.grownBy W' row)(hr:∀ r,row=some r→D≤r∧∃ o:Obj,W.heap[r]?=some o∧o.isCells=false):NxI w W' B f v b :=
 ⟨yF h.b0 hg hr,yF h.b1 hg hr,yF h.b2 hg hr,h.bel.grown hg h.bel.size (fun k e=>Nat.le_trans hD (hr k e).1)⟩
theorem NxI.alloc{w W:World}{B:Nat}{f v:Int}{b:Bool}(h:NxI w W B f v b)(o:Obj):NxI w (W.alloc o) B f v b:=⟨h.b0.alloc o,h.b1.alloc o,h.b2.alloc o,h.bel.alloc h.bel.size o⟩
theorem NxI.put{w W:World}{B:Nat}{f v:Int}{b:Bool}(h:NxI w W B f v b)(hB:w.heap.size≤B)(v':Int)(b':Bool):NxI w ((W.setCell ⟨B+1,0,none⟩ (.int .i64 v')).setCell ⟨B+1+1,0,none⟩ (.bool b')) B f v' b' :=
 ⟨(h.b0.other (by omega) _).other (by omega) _,(h.b1.set _).other (by omega) _,(h.b2.other (by omega) _).set _,(h.bel.setCell (p:=⟨B+1,0,none⟩) (show w.heap.size≤B+1 by omega) _).setCell (p:=⟨B+1+1,0,none⟩) (show w.heap.size≤B+1+1 by omega) _⟩
theorem NxI.kept{w W W':World}{B:Nat}{f v:Int}{b:Bool}{S:Nat→Prop}(h:NxI w W B f v b)(hk:Kept S W W')(hS:∀ k,S k→B+1+1<k∧w.heap.size≤k):NxI w W' B f v b :=
 ⟨(hk.block _ h.b0.lt (fun s=>by have:=hS _ s;omega)).trans h.b0,(hk.block _ h.b1.lt (fun s=>by have:=hS _ s;omega)).trans h.b1,(hk.block _ h.b2.lt (fun s=>by have:=hS _ s;omega)).trans h.b2,h.bel.trans (hk.below h.bel.size (fun k s=>(hS k s).2))⟩
theorem zK{w W:World}{f v v':Int}{b b':Bool}(tmps:Array Value)(t4:tmps.getD 4 undef=.pointer (some ⟨w.heap.size+1,0,none⟩))(t5:tmps.getD 5 undef=.pointer (some ⟨w.heap.size+1+1,0,none⟩))(h:NxI w W w.heap.size f v b)(ev:v'=v)(eb:b'=b) :
  LeavesInM Fence.wide 9 Tryz.prog Tryz.f192 tmps (fun e w'=>e=.returned (.tuple #[.int .i64 v',.bool b'])∧Below w.heap.size w w') [] .returning W:=by
 subst ev eb;have c1:=h.b1.cell;have c2:=h.b2.cell;refine⟨.tuple #[.int .i64 v',.bool b'],?_,rfl,h.bel⟩;have t4':tmps[4]?.getD undef=.pointer (some ⟨w.heap.size+1,0,none⟩):=by simpa using t4
 have t5':tmps[5]?.getD undef=.pointer (some ⟨w.heap.size+1+1,0,none⟩):=by simpa using t5
 simp[results,Tryz.f192,go_sem,c1,c2,t4',t5']
theorem uY{p n x:Nat}(xs:List Nat)(HXS:jV x xs)(f:Int)(w:World)(h:fU w p n x)(hok:je n x)(hT:Tab w) :
    Calls Tryz.prog 192 #[.pointer (some ⟨p,0,none⟩),.int .i64 f] w fun e w'=>e=.returned (.tuple #[.int .i64 (pR xs f),.bool (rO xs)])∧Below w.heap.size w w':=by
  have HS:=ah h;have HT:=ah hT;have hx:=hok.lt;have hw0:0<w.heap.size:=World.block_lt_of_cell? w _ (hT 0 (by decide))
  have HX:=ah HXS;clear h hT hok HXS;refine(callsIn_wide (n:=9)).1 ?_;refine callsIn_of_wp_marks Tryz.func192 rfl trivial ?_ rfl;simp only[Tryz.ntmps192,List.size_toArray,List.length_cons,List.length_nil,Nat.reduceAdd,Nat.reduceSub,Array.replicate_succ,Array.replicate_zero,List.push_toArray,List.append_toArray,List.nil_append,List.cons_append];have hs3:(((w.alloc (.cells #[.int .i64 f] 3)).alloc (.cells #[.int .i64 0] 3)).alloc (.cells #[.bool false] 4)).heap.size=w.heap.size+3:=by simp
  have HN3:Hid (NxI w (((w.alloc (.cells #[.int .i64 f] 3)).alloc (.cells #[.int .i64 0] 3)).alloc (.cells #[.bool false] 4)) w.heap.size f 0 false):=by
    refine⟨((Boxed.new w _ _).alloc _).alloc _,?_,?_,(((Below.refl _ w).alloc (Nat.le_refl _) _).alloc (by simp) _).alloc (by simp;omega) _⟩
    · have:=(Boxed.new (w.alloc (.cells #[.int .i64 f] 3)) 3 (.int .i64 0)).alloc (.cells #[.bool false] 4)
      rw[World.size_alloc] at this;exact this
    · have:=Boxed.new ((w.alloc (.cells #[.int .i64 f] 3)).alloc (.cells #[.int .i64 0] 3)) 4 (.bool false)
      rw[World.size_alloc,World.size_alloc] at this;exact this
  gi_wp2_with fail
  generalize ((w.alloc (.cells #[.int .i64 f] 3)).alloc (.cells #[.int .i64 0] 3)).alloc (.cells #[.bool false] 4)=W3 at hs3 HN3 ⊢;refine⟨trivial,(callsIn_wide.2 (EX _ (HS.out.below HN3.out.bel))).mono ?_⟩;rintro e w' ⟨rfl,hw⟩;subst hw;have HN4:=ah (HN3.out.alloc (.cells #[.int .u64 (x:Int)] 250));have hs4:Hid ((W3.alloc (.cells #[.int .u64 (x:Int)] 250)).heap.size=w.heap.size+4):=by unfold Hid;simp;omega
  have hB3:(W3.alloc (.cells #[.int .u64 (x:Int)] 250)).cell? ⟨W3.heap.size,0,none⟩=some (.int .u64 (x:Int)):=(Boxed.new W3 _ _).cell;rw[hs3] at hB3
  gi_wp2_with fail
  generalize W3.alloc (.cells #[.int .u64 (x:Int)] 250)=W4 at hs4 HN4 hB3 ⊢;clear HN3 hs3
  refine wpIn_rangeFunc_ownG rfl (by omega) (gf:=277) (lb := #[.pointer (some ⟨w.heap.size+3,0,none⟩)]) rfl trivial (enters_of Tryz.func277 (by kernel_rfl) rfl)
    (all_stops 8 (w.heap.size+3) x xs HX.out hx W4 hB3 (HT.out.below HN4.out.bel hw0)) DN (fun W l o o' _ h hc _=>DL W l o o' h hc) (Below.refl _ _) (fun _=>rfl)
    (fun pre W=>(∀ z∈pre,((z:Nat):Int)<f)∧NxI w W w.heap.size f 0 false)
    (fun c pre W=>c=.ret∧∃(pre':List Nat) (y:Nat),pre=pre'++[y]∧(∀ z∈pre',((z:Nat):Int)<f)∧f≤(y:Int)∧NxI w W w.heap.size f y true)
    (fun s A B row hs hg hr=>⟨hs.1,hs.2.own (by have:=hs4.out;omega) hg hr⟩)
    (fun c s A B row hs hg hr=>by
      obtain⟨h1,pre',y,h2,h3,h4,h5⟩:=hs
      exact⟨h1,pre',y,h2,h3,h4,h5.own (by have:=hs4.out;omega) hg hr⟩)
    ⟨fun _ h=>(by cases h),HN4.out⟩
    (fun y=>{ tmps := #[.pointer (some ⟨p,0,none⟩),.int .i64 f,undef,.pointer (some ⟨w.heap.size,0,none⟩),.pointer (some ⟨w.heap.size+1,0,none⟩),.pointer (some ⟨w.heap.size+1+1,0,none⟩),.int .i64 ((y:Nat):Int),undef,.pointer (some ⟨p,0,none⟩),.func (.func 277) #[] #[.pointer (some ⟨w.heap.size+3,0,none⟩)],.int .i64 ((y:Nat):Int),undef,undef,undef,undef,undef,undef,undef,undef],defers:=[] }) ?assign ?body ?done ?stop
  case assign =>
    intro l y W K hK
    gi_wp2
    exact hK
  case body =>
    rintro l pre y W ⟨hp,hn⟩ _;have HN:=ah hn;have c0:=hn.b0.cell;have c1:=hn.b1.cell;have c2:=hn.b2.cell;have f1:=hn.b1.frozen;have f2:=hn.b2.frozen;clear hn;by_cases hf:f≤(y:Int)
    · have g:decide (f≤(y:Int))=true:=decide_eq_true hf
      gi_wp2
      exact⟨((KeepsOthers.setCell _ _ _).trans (KeepsOthers.setCell _ _ _)).from _,rfl,pre,y,rfl,hp,hf,HN.out.put (Nat.le_refl _) _ _⟩
    · have g:decide (f≤(y:Int))=false:=decide_eq_false hf
      gi_wp2
      exact⟨KeepsFrom.refl _ _,fun t=>t,fun z hz=>(List.mem_append.1 hz).elim (hp z) (fun e=>by rw[List.mem_singleton] at e;subst e;omega),HN.out⟩
  case stop =>
    rintro D c pre W hD hpre ⟨rfl,pre',y,rfl,h1,h2,hn⟩ hK;obtain⟨e1,e2⟩:=OC hpre h1 h2
    gi_wp2
    refine wV [D] W (fun D' h=>by rw[List.mem_singleton] at h;subst h;exact hK) (by simp) (fun W' hk=>zK _ rfl rfl (hn.kept hk (fun k h=>by rw[List.mem_singleton] at h;have:=hs4.out;omega)) e1 e2)
  case done =>
    rintro D ys W hD hys ⟨hp,hn⟩ hK;subst hys;have HM:=ah (OE hp);have HN5:=ah (hn.alloc (.cells #[.int .u64 (x:Int)] 250));have HS5:=ah (EX W (HS.out.below hn.bel));have hK5:Hid ((W.alloc (.cells #[.int .u64 (x:Int)] 250)).heap[D]?=some (.deferred (some []))):=(Below.heap_alloc W _ D (lt_of_some hK)).trans hK;have hB5:Hid ((W.alloc (.cells #[.int .u64 (x:Int)] 250)).cell? ⟨W.heap.size,0,none⟩=some (.int .u64 (x:Int))):=(Boxed.new W _ _).cell;have hD5:Hid (w.heap.size+4≤D∧D<(W.alloc (.cells #[.int .u64 (x:Int)] 250)).heap.size):=⟨by have:=hs4.out;omega,by have:=lt_of_some hK;simp;omega⟩
    clear hp hn hK hD hB3 HN4 hs4
    gi_wp2_with fail
    refine⟨trivial,(callsIn_wide.2 HS5.out).mono ?_⟩;rintro e w' ⟨rfl,hw⟩;subst hw;clear HS5
    gi_wp2_with fail
    generalize W.alloc (.cells #[.int .u64 (x:Int)] 250)=W5 at HN5 hK5 hB5 hD5 ⊢;generalize W.heap.size=B5 at hB5 ⊢
    refine wpIn_rangeFunc_ownG rfl (by omega) (gf:=277) (lb := #[.pointer (some ⟨B5,0,none⟩)]) rfl trivial (enters_of Tryz.func277 (by kernel_rfl) rfl)
      (all_stops 8 B5 x ys HX.out hx W5 hB5.out (HT.out.below HN5.out.bel hw0)) DN (fun W l o o' _ h hc _=>DL W l o o' h hc) (Below.refl _ _) (fun _=>rfl)
      (fun pre W=>pre=[]∧W.heap[D]?=some (.deferred (some []))∧NxI w W w.heap.size f 0 false)
      (fun c pre W=>c=.ret∧W.heap[D]?=some (.deferred (some []))∧∃(y:Nat),pre=[y]∧NxI w W w.heap.size f y true)
      (fun s A B row hs hg hr=>⟨hs.1,Ec hs.2.1 hD5.out.2 hg hr,hs.2.2.own (by have:=hD5.out;omega) hg hr⟩)
      (fun c s A B row hs hg hr=>by
        obtain⟨h1,h2,y,h3,h4⟩:=hs
        exact⟨h1,Ec h2 hD5.out.2 hg hr,y,h3,h4.own (by have:=hD5.out;omega) hg hr⟩)
      ⟨rfl,hK5.out,HN5.out⟩
      (fun y=>{ tmps := #[.pointer (some ⟨p,0,none⟩),.int .i64 f,undef,.pointer (some ⟨w.heap.size,0,none⟩),.pointer (some ⟨w.heap.size+1,0,none⟩),.pointer (some ⟨w.heap.size+1+1,0,none⟩),undef,.int .i64 ((y:Nat):Int),.pointer (some ⟨p,0,none⟩),.func (.func 277) #[] #[.pointer (some ⟨w.heap.size+3,0,none⟩)],undef,undef,undef,undef,undef,.pointer (some ⟨p,0,none⟩),.func (.func 277) #[] #[.pointer (some ⟨B5,0,none⟩)],.int .i64 ((y:Nat):Int),undef],defers:=[] }) ?assign2 ?body2 ?done2 ?stop2
    case assign2 =>
      intro l y W K hK
      gi_wp2
      exact hK
    case body2 =>
      rintro l pre y W ⟨rfl,hk,hn⟩ _;have HN:=ah hn;have HK:=ah hk;have c1:=hn.b1.cell;have c2:=hn.b2.cell;have f1:=hn.b1.frozen;have f2:=hn.b2.frozen;clear hn hk
      gi_wp2
      exact⟨((KeepsOthers.setCell _ _ _).trans (KeepsOthers.setCell _ _ _)).from _,rfl,rM (rM HK.out (by have:=hD5.out;omega)) (by have:=hD5.out;omega),y,rfl,HN.out.put (Nat.le_refl _) _ _⟩
    case stop2 =>
      rintro D2 c pre W hD2 hpre ⟨rfl,hk,y,rfl,hn⟩ hK2
      have e1:ys.headD 0=y∧rO ys=true:=by
        obtain⟨r,rfl⟩:=hpre;exact⟨rfl,rfl⟩
      gi_wp2
      refine wV [D2,D] W (fun D' h=>by
        simp at h
        rcases h with rfl|rfl
        · exact hK2
        · exact hk) (by have:=hD5.out;simp;omega) (fun W' hk'=>zK _ rfl rfl (hn.kept hk' (fun k h=>by simp at h;have:=hD5.out;omega)) (HM.out.trans (by rw[e1.1])) e1.2)
    case done2 =>
      rintro D2 zs W hD2 hzs ⟨h0,hk,hn⟩ hK2;subst hzs;subst h0;have HN:=ah hn;have HK:=ah hk;have c1:=hn.b1.cell;have c2:=hn.b2.cell;have f1:=hn.b1.frozen;have f2:=hn.b2.frozen;have HK2:=ah hK2;clear hn hk hK2
      gi_wp2
      refine wV [D2,D] _ (fun D' h=>by
        simp at h
        rcases h with rfl|rfl
        · exact rM (rM HK2.out (by have:=hD5.out;omega)) (by have:=hD5.out;omega)
        · exact rM (rM HK.out (by have:=hD5.out;omega)) (by have:=hD5.out;omega)) (by have:=hD5.out;simp;omega) (fun W' hk'=>zK _ rfl rfl ((HN.out.put (Nat.le_refl _) 0 false).kept hk' (fun k h=>by simp at h;have:=hD5.out;omega)) HM.out rfl)
end Go.Proofs.YtonhoahnieoebabGreatDoor.S4
