/- The program's shelf in memory: five cells of a yard's block. -/
import Derived.Test.YtonhoahnieoebabGreatDoorQAChainMem
set_option maxHeartbeats 1000000
set_option maxRecDepth 100000
namespace Go.Proofs.YtonhoahnieoebabGreatDoor
open Go.RowKit Go.Maps
def fJ(x:Ih):Option IV→Value
 | none=>.pointer none
 | some _=>.pointer (some ⟨x.p,0,none⟩)
def fpS(xs:Nat→Ih)(s:SV)(k:Nat):Prop:=∃ i,i<5∧s i≠none∧(xs i).fp k
def qw(xs:Nat→Ih)(i:Nat)(x:Ih):Nat→Ih:=fun j=>if j=i then x else xs j
structure aV(w:World)(sp:Nat)(xs:Nat→Ih)(s:SV)(m:Nat):Prop where
 is_:∃ cur,w.heap[sp]?=some (.cells cur 168 (0,0))∧(∀ i,i<5→cur[6+i]?=some (fJ (xs i) (s i)))∧∀ i,i<5→s i≠none→cur[i]?=some (.pointer (some ⟨(xs i).h.p,0,none⟩))
 img:∀ i v,i<5→s i=some v→aC Gd.no w (xs i) v
 ok:s.ok m
 apart:∀ i j,i<5→j<5→i≠j→s i≠none→s j≠none→∀ k,(xs i).fp k→¬(xs j).fp k
theorem aV.is{w:World}{sp m:Nat}{xs:Nat→Ih}{s:SV}(h:aV w sp xs s m):∃ cur,w.heap[sp]?=some (.cells cur 168 (0,0)):=by
 obtain⟨c,h1,_,_⟩:=h.is_;exact⟨c,h1⟩
theorem aV.lt{w:World}{sp m:Nat}{xs:Nat→Ih}{s:SV}(h:aV w sp xs s m):sp<w.heap.size:=by
 obtain⟨c,h1⟩:=h.is;exact lt_of_some h1
theorem aV.more{w:World}{sp m m':Nat}{xs:Nat→Ih}{s:SV}(h:aV w sp xs s m)(hm:m≤m'):aV w sp xs s m':=⟨h.is_,h.img,h.ok.more hm,h.apart⟩
theorem aV.jJ{w:World}{sp m:Nat}{xs:Nat→Ih}{s:SV}(h:aV w sp xs s m){k:Nat}(hk:fpS xs s k):k<w.heap.size:=by
 obtain⟨i,hi,hs,hf⟩:=hk
 cases hv:s i with
 | none=>exact absurd hv hs
 | some v=>exact(h.img i v hi hv).jJ k hf
theorem aC.Ep{B:Gd}{w:World}{x:Ih}{v:IV}(h:aC B w x v){k:Nat}{cur:Array Value}{t:TypeId}(hb:w.heap[k]?=some (.cells cur t (0,0)))(ht:¬(t=264∨t=261∨t=266∨t=220∨t=211)):¬x.fp k:=by
 rintro(rfl|rfl|rfl|hk)
 ·have:=h.blk
  rw[hb] at this;cases this
  exact ht (.inr (.inr (.inr (.inl rfl))))
 ·obtain⟨es,c,e2⟩:=rP h.map
  rw[hb] at e2;cases e2
 ·obtain⟨_,cur2,e2⟩:=h.tb
  rw[hb] at e2;cases e2
  exact ht (.inr (.inr (.inr (.inr rfl))))
 ·obtain⟨cur2,t2,e1,p⟩:=h.dev.kinds k hk
  rw[hb] at e1;cases e1
  rcases p with p|p|p
  ·exact ht (.inl p)
  ·exact ht (.inr (.inl p))
  ·exact ht (.inr (.inr (.inl p)))
theorem aV.xk{w:World}{sp m:Nat}{xs:Nat→Ih}{s:SV}(h:aV w sp xs s m){k:Nat}{cur:Array Value}{t:TypeId}(hb:w.heap[k]?=some (.cells cur t (0,0)))(ht:¬(t=264∨t=261∨t=266∨t=220∨t=211)):¬fpS xs s k:=by
 rintro⟨i,hi,hs,hf⟩
 cases hv:s i with
 | none=>exact absurd hv hs
 | some v=>exact(h.img i v hi hv).Ep hb ht hf
theorem aV.Es{w:World}{sp m:Nat}{xs:Nat→Ih}{s:SV}(h:aV w sp xs s m):¬fpS xs s sp:=by
 obtain⟨c,h1⟩:=h.is;exact h.xk h1 (by decide)
theorem aV.keep{w w':World}{sp m:Nat}{xs:Nat→Ih}{s:SV}(h:aV w sp xs s m)(hp:w'.heap[sp]?=w.heap[sp]?)(hk:∀ k,fpS xs s k→w'.heap[k]?=w.heap[k]?):aV w' sp xs s m :=
 ⟨by rw[hp];exact h.is_,fun i v hi hv=>(h.img i v hi hv).lT fun k hf=>hk k ⟨i,hi,(by rw[hv];intro e;cases e),hf⟩,h.ok,h.apart⟩
theorem aV.below{w w':World}{sp m:Nat}{xs:Nat→Ih}{s:SV}(h:aV w sp xs s m)(hb:Below w.heap.size w w'):aV w' sp xs s m :=
 h.keep (hb.block _ h.lt) fun _ hk=>hb.block _ (h.jJ hk)
theorem aV.beside{S S':Nat→Prop}{w w':World}{sp m:Nat}{xs:Nat→Ih}{s:SV}(h:aV w sp xs s m)(hm:Moved S w S' w')(hp:¬S sp)(hs:∀ k,fpS xs s k→¬S k):aV w' sp xs s m :=
 h.keep (hm.block h.lt hp) fun k hk=>hm.block (h.jJ hk) (hs k hk)
theorem aV.cell{w:World}{sp m:Nat}{xs:Nat→Ih}{s:SV}(h:aV w sp xs s m){i:Nat}(hi:i<5):w.cell? ⟨sp,6+i,none⟩=some (fJ (xs i) (s i)):=by
 obtain⟨c,h1,h2,_⟩:=h.is_;rw[cell_of_row w sp _ _ _ _ h1];exact h2 i hi
theorem aV.oW{w:World}{sp m:Nat}{xs:Nat→Ih}{s:SV}(h:aV w sp xs s m){n:Int}{v:IV}(hf:s.file n=some v):w.cell? ⟨sp,6+n.toNat,none⟩=some (.pointer (some ⟨(xs n.toNat).p,0,none⟩)):=by
 obtain⟨h0,h1,h2⟩:=SV.dJ hf;rw[h.cell (by omega),h2];rfl
theorem aV.jZ{w:World}{sp m:Nat}{xs:Nat→Ih}{s:SV}(h:aV w sp xs s m){n:Int}{v:IV}(hf:s.file n=some v):aC Gd.no w (xs n.toNat) v∧v.ok m:=by
 obtain⟨h0,h1,h2⟩:=SV.dJ hf;exact⟨h.img _ v (by omega) h2,h.ok _ v h2⟩
theorem aV.oU{w w':World}{sp m m':Nat}{xs:Nat→Ih}{s:SV}(h:aV w sp xs s m){n:Int}{v V:IV}(hf:s.file n=some v){x':Ih}(hm:m≤m')(hV:V.ok m')(hx:x'.p=(xs n.toNat).p)(hy:x'.h.p=(xs n.toNat).h.p)(hI:aC Gd.no w' x' V)(hM:Moved (xs n.toNat).fp w x'.fp w') :
  aV w' sp (qw xs n.toNat x') (s.upd n.toNat V) m'∧Moved (fpS xs s) w (fpS (qw xs n.toNat x') (s.upd n.toNat V)) w':=by
 obtain⟨h0,h1,h2⟩:=SV.dJ hf;have hn:n.toNat<5:=by omega
 have hne:s n.toNat≠none:=by rw[h2];intro e;cases e
 generalize n.toNat=i at hx hy hM h2 hn hne ⊢;have hin:∀ k,(xs i).fp k→fpS xs s k:=fun k hk=>⟨i,hn,hne,hk⟩
 have hsp:¬(xs i).fp sp:=fun e=>h.Es (hin _ e)
 have hU:∀ j,s.upd i V j≠none→s j≠none:=fun j hj=>by
  unfold SV.upd at hj;split at hj
  ·next e=>rw[e];exact hne
  ·exact hj
 have ho:∀ j,j<5→j≠i→s j≠none→∀ k,(xs j).fp k→k<w.heap.size∧¬(xs i).fp k:=fun j hj hji hs k hk=>⟨h.jJ ⟨j,hj,hs,hk⟩,h.apart j i hj hn hji hs hne k hk⟩
 refine⟨⟨?_,?_,h.ok.upd hm hV,?_⟩,⟨hM.kept.mono fun k _ hk=>hin k hk,?_⟩⟩
 ·obtain⟨c,h8,h9,h10⟩:=h.is_
  refine⟨c,(hM.block h.lt hsp).trans h8,fun j hj=>?_,fun j hj hs=>?_⟩
  rotate_left
  ·rw[h10 j hj (hU j hs)]
   unfold qw;by_cases e:j=i
   ·rw[if_pos e,hy,e]
   ·rw[if_neg e]
  have hp:∀ j,fJ (qw xs i x' j) (s.upd i V j)=fJ (xs j) (s j):=fun j=>by
   unfold qw SV.upd;by_cases e:j=i
   ·rw[if_pos e,if_pos e,e,h2];show Value.pointer (some ⟨x'.p,0,none⟩)=_;rw[hx];rfl
   ·rw[if_neg e,if_neg e]
  rw[hp];exact h9 j hj
 ·intro j u hj hu
  unfold SV.upd at hu;unfold qw;by_cases e:j=i
  ·rw[if_pos e] at hu ⊢
   cases hu
   exact hI
  ·rw[if_neg e] at hu ⊢
   exact(h.img j u hj hu).lT fun k hk=>by
    obtain⟨l1,l2⟩:=ho j hj e (by rw[hu];intro e;cases e) k hk
    exact hM.block l1 l2
 ·intro a b ha hb hab hsa hsb k hk
  have hsa':=hU a hsa;have hsb':=hU b hsb;unfold qw at hk ⊢;by_cases ea:a=i
  ·have eb:b≠i:=fun e=>hab (by rw[ea,e])
   rw[if_pos ea] at hk;rw[if_neg eb];intro hk2;obtain⟨l1,l2⟩:=ho b hb eb hsb' k hk2;exact hM.out l1 l2 hk
  ·rw[if_neg ea] at hk
   by_cases eb:b=i
   ·rw[if_pos eb]
    obtain⟨l1,l2⟩:=ho a ha ea hsa' k hk;exact hM.out l1 l2
   ·rw[if_neg eb];exact h.apart a b ha hb hab hsa' hsb' k hk
 ·rintro k ⟨j,hj,hs,hk⟩
  unfold qw at hk;by_cases e:j=i
  ·rw[if_pos e] at hk
   rcases hM.new k hk with h3|h3
   ·exact .inl (hin k h3)
   ·exact .inr h3
  ·rw[if_neg e] at hk
   exact .inl ⟨j,hj,hU j hs,hk⟩
def bD(w:World)(sp:Nat)(xs:Nat→Ih)(s:SV)(m:Nat)(R:SV × Int)(e:Ending)(w':World):Prop :=
 ∃ xs':Nat→Ih,e=.returned (erV R.2)∧aV w' sp xs' R.1 m∧Moved (fpS xs s) w (fpS xs' R.1) w'
theorem bD.of{w:World}{sp m m':Nat}{xs:Nat→Ih}{s:SV}(h:aV w sp xs s m){n:Int}{v V:IV}(hf:s.file n=some v)(hm:m≤m')(hV:V.ok m'){f:Int}{e:Ending}{w':World}
  (hd:Did (Gd.but w (xs n.toNat).fp) w (xs n.toNat) V f e w'):bD w sp xs s m' (s.upd n.toNat V,f) e w':=by
 obtain⟨x',h1,h2,h3,h4,h5⟩:=hd.exact;obtain⟨h6,h7⟩:=h.oU hf hm hV h2 h3 h4 h5;exact⟨_,h1,h6,h7⟩
theorem bD.from{w w1 w':World}{sp m:Nat}{xs:Nat→Ih}{s:SV}{R:SV × Int}{e:Ending}(h:bD w1 sp xs s m R e w')(hb:Below w.heap.size w w1):bD w sp xs s m R e w':=by
 obtain⟨xs',h1,h2,h3⟩:=h;exact⟨xs',h1,h2,(Moved.of_below hb).trans h3⟩
theorem bD.same{w w':World}{sp m:Nat}{xs:Nat→Ih}{s:SV}{f:Int}(h:aV w sp xs s m)(hb:Below w.heap.size w w'):bD w sp xs s m (s,f) (.returned (erV f)) w':=⟨xs,rfl,h.below hb,Moved.of_below hb⟩
end Go.Proofs.YtonhoahnieoebabGreatDoor
namespace Go.Proofs.YtonhoahnieoebabGreatDoor
open Go.RowKit
structure gI(h:HV)(a:List (Int × Int)):Prop where
 ents:∀ e∈a,bM e.1 e.2 h.p=true
 once:∀ i j,i<j→j<a.length→(a.getD j (0,0)).1=2→a.getD i (0,0)≠a.getD j (0,0)
theorem gI.nil(h:HV):gI h []:=⟨fun e he=>(by cases he),fun i j _ hj=>(by cases hj)⟩
theorem zi{l r:List (Int × Int)}{i:Nat}(h:i<l.length):(l++r).getD i (0,0)=l.getD i (0,0):=by
 rw[List.getD_eq_getElem?_getD,List.getD_eq_getElem?_getD,List.getElem?_append_left h]
theorem L6(l:List (Int × Int))(e:Int × Int):(l++[e]).getD l.length (0,0)=e:=by
 rw[List.getD_eq_getElem?_getD,List.getElem?_append_right (Nat.le_refl _)];simp
theorem getD_mem{l:List (Int × Int)}{i:Nat}(h:i<l.length):l.getD i (0,0)∈l:=by
 rw[List.getD_eq_getElem?_getD,List.getElem?_eq_getElem h];exact List.getElem_mem _
theorem RI{h:HV}{acc a:List (Int × Int)}{e:Int × Int}(hs:stepT h acc e=some a)(hg:gI h acc)(hl:(acc.length:Int)≤h.c):gI h a∧(a.length:Int)=min h.c (acc.length+1):=by
 unfold stepT at hs;split at hs
 ·next hc =>
  split at hs
  ·cases hs;exact⟨hg,by omega⟩
  ·cases hs
 ·next hc =>
  split at hs
  ·next he =>
   cases hs
   refine⟨⟨fun x hx=>?_,fun i j hij hj h2=>?_⟩,by rw[List.length_append];simp;omega⟩
   ·rcases List.mem_append.1 hx with h1|h1
    ·exact hg.ents x h1
    ·simp only[List.mem_singleton] at h1;rw[h1];exact he.1
   ·rw[List.length_append] at hj
    simp only[List.length_cons,List.length_nil] at hj;by_cases hjl:j<acc.length
    ·rw[zi hjl] at h2 ⊢
     rw[zi (by omega)]
     exact hg.once i j hij hjl h2
    ·have:j=acc.length:=by omega
     subst this;rw[L6] at h2 ⊢;rw[zi hij];intro heq;exact he.2 ⟨h2,heq▸getD_mem hij⟩
  ·cases hs
theorem QB{h:HV}{acc:List (Int × Int)}{s:ByteArray}(hg:gI h acc)(hl:(acc.length:Int)≤h.c):∀(i:Nat) (a:List (Int × Int)),iG h acc s i=some a→gI h a∧(a.length:Int)=min h.c (acc.length+i):=by
 intro i
 induction i with
 | zero=>intro a e;cases e;exact⟨hg,by omega⟩
 | succ i ih =>
  intro a e
  cases e2:iG h acc s i with
  | none=>rw[Ad e2 (i+1) (by omega)] at e;cases e
  | some x =>
   rw[xH e2] at e;obtain⟨h1,h2⟩:=ih x e2;obtain⟨h3,h4⟩:=RI e h1 (by omega)
   exact⟨h3,by omega⟩
theorem Si{h:HV}{rows:List ByteArray}(h0:0≤h.c):∀ j,(dI h rows j).2=0→gI h (dI h rows j).1∧((dI h rows j).1.length:Int)=min h.c (8*j):=by
 intro j
 induction j with
 | zero=>intro _;exact⟨gI.nil h,by show((0:Nat):Int)=_;omega⟩
 | succ j ih =>
  intro e;by_cases e0:(dI h rows j).2=0
  ·obtain⟨h1,h2⟩:=ih e0
   by_cases hs:(rows.getD j ByteArray.empty).size=16
   ·cases hr:iG h (dI h rows j).1 (rows.getD j ByteArray.empty) 8 with
    | none=>rw[F6 e0 hs hr] at e;cases e
    | some a =>
     rw[Au e0 hs hr];obtain⟨h3,h4⟩:=QB h1 (by omega) 8 a hr
     refine⟨h3,?_⟩;show(a.length:Int)=_
     omega
   ·rw[F7 e0 hs] at e;cases e
  ·have:dI h rows (j+1)=([],(dI h rows j).2):=by
    show(if (dI h rows j).2=0 then _ else _)=_
    rw[if_neg e0]
   rw[this] at e;exact absurd e e0
theorem Gf{h:HV}{rows:List ByteArray}(hf:iP h rows=0):h.ok=true∧rows.length=aA h.c.toNat∧gI h (fG h rows)∧((fG h rows).length:Int)=h.c:=by
 unfold iP at hf;split at hf
 ·next hi =>
  unfold fG;rw[if_pos hi];have hi2:=hi;unfold lY at hi2;rw[Bool.and_eq_true] at hi2;have hl:rows.length=aA h.c.toNat:=of_decide_eq_true hi2.2;have hb:=HV.fE hi2.1;obtain⟨h1,h2⟩:=Si (by omega) _ hf
  refine⟨hi2.1,hl,h1,?_⟩;rw[h2,hl];unfold aA;omega
 ·cases hf
def bU(d:DV):HV:=ji (bytesOf (d.seen.getD 0 []))
def nT(d:DV)(k:Nat):ByteArray:=bytesOf (d.seen.getD (1+k) [])
def jA(d:DV):List ByteArray:=(List.range (aA (bU d).c.toNat)).map (nT d)
def fO(d:DV):Int :=
 if gZ (bytesOf (d.seen.getD 0 []))=0 then (if d.fl.length<aJ (bU d) then 1 else iP (bU d) (jA d)) else gZ (bytesOf (d.seen.getD 0 []))
def jB(d:DV):IV:=⟨d,bU d,fG (bU d) (jA d),[]⟩
theorem MG{s:ByteArray}(h:gZ s=0):(ji s).ok=true:=by
 unfold gZ at h;split at h
 ·next hs =>
  split at h
  ·next hg =>
   unfold ji;rw[if_pos ⟨hs,hg⟩];unfold ng at hg;rw[Bool.and_eq_true] at hg;exact hg.1
  ·cases h
 ·next hs=>exact absurd h hs
theorem Pj{d:DV}{m:Nat}(hd:d.fine d.fl.length m)(hf:fO d=0):(jB d).ok m∧gI (bU d) (jB d).t:=by
 unfold fO at hf;split at hf
 ·next h1 =>
  split at hf
  ·cases hf
  ·next h2 =>
   obtain⟨h3,h4,h5,h6⟩:=Gf hf;exact⟨⟨hd,h3,h6,h5.ents,by show aJ (bU d)≤d.fl.length;omega,(fun q hq=>by cases hq),Nat.zero_le _⟩,h5⟩
 ·next h1=>exact absurd hf h1
open Go.Maps
attribute [local go_sem ↓] Go.wp_at_zero Go.wp_at_succ
theorem DZ{B:Gd}{tb tc:Nat}{h:Hd}{d:DV}(c p b:Int)(ts:List (Int × Int))(w:World)(hd:bg B w h d)(hB:B.top≤w.heap.size)(ho:w.ownsRow 0 211 2 (.slice (some ⟨tb,0,none⟩) ts.length tc) ts.length (fB ts))(htb:¬B.g tb) :
  Calls Tryz.prog 154 #[.pointer (some ⟨h.p,0,none⟩),.agg #[.int .i64 c,.int .i64 p,.int .i64 b],.slice (some ⟨tb,0,none⟩) ts.length tc] w fun e w' =>
   ∃ x:Ih,x.h=h∧x.tb=tb∧x.tc=tc∧e=.returned (.pointer (some ⟨x.p,0,none⟩))∧aC B w' x ⟨d,⟨c,p,b⟩,ts,[]⟩∧Below w.heap.size w w':=by
 have hmm := @run_makeMap Tryz.prog;have HD:=ah hd;have HO:=ah ho;clear hd ho;go_enter Tryz.func154,Tryz.ntmps154
 go_wp2
 go_ret
 have hb1:Below w.heap.size w (w.alloc (.cells #[.int .i64 c,.int .i64 p,.int .i64 b] 103)):=(Below.refl _ _).alloc (Nat.le_refl _) _;have hb2:=hb1.alloc hb1.size (.map #[] 0);have hb3:=hb2.alloc hb2.size (.cells #[.pointer (some ⟨h.p,0,none⟩),.int .i64 c,.int .i64 p,.int .i64 b,.slice (some ⟨tb,0,none⟩) ts.length tc,.map (some (w.heap.size+1))] 220);refine⟨⟨w.heap.size+2,h,tb,tc,w.heap.size+1⟩,rfl,rfl,rfl,by simp,⟨?_,⟨B.fresh hB (Nat.le_add_right _ 2),htb⟩,B.fresh hB (Nat.le_add_right _ 1),?_,?_,?_⟩,hb3⟩
 ·have e:=heap_alloc_new ((w.alloc (.cells #[.int .i64 c,.int .i64 p,.int .i64 b] 103)).alloc (.map #[] 0)) (.cells #[.pointer (some ⟨h.p,0,none⟩),.int .i64 c,.int .i64 p,.int .i64 b,.slice (some ⟨tb,0,none⟩) ts.length tc,.map (some (w.heap.size+1))] 220)
  rw[show((w.alloc (.cells #[.int .i64 c,.int .i64 p,.int .i64 b] 103)).alloc (.map #[] 0)).heap.size=w.heap.size+2 by simp] at e
  exact e
 ·exact HD.out.keep fun k hk=>hb3.block k (HD.out.lt k hk).2
 ·exact dA HO.out fun k hk=>hb3.block k (HO.out.lt k hk).2
 ·have e:=World.ownsMap_made (w.alloc (.cells #[.int .i64 c,.int .i64 p,.int .i64 b] 103)) Tryz.prog 3 (unitElem (H:=Unit))
  rw[show(w.alloc (.cells #[.int .i64 c,.int .i64 p,.int .i64 b] 103)).heap.size=w.heap.size+1 by simp] at e
  refine uD e ?_;exact Below.heap_alloc _ _ _ (by simp)
def iY(d:DV)(k:Nat):List ByteArray:=(List.range k).map (nT d)
theorem EU(d:DV)(k:Nat):(iY d k).length=k:=by simp[iY]
theorem QI(d:DV)(k:Nat):iY d (k+1)=iY d k++[nT d k]:=by unfold iY;rw[List.range_succ,List.map_append];rfl
theorem QH(d:DV)(n k:Nat)(h:k<n):(iY d n).getD k ByteArray.empty=nT d k:=by
 unfold iY;rw[List.getD_eq_getElem?_getD,List.getElem?_map,List.getElem?_range h];rfl
def nI(l:List ByteArray):List Value:=l.map Value.string
theorem SX{w:World}{B n cap:Nat}{a:Option Addr}{l:List ByteArray}(ho:w.ownsRow B 9 1 (.slice a n cap) n (nI l))(hl:l.length=n)(hs:∀ k,k<n→(l.getD k ByteArray.empty).size≤maxLen):Texts w a n l:=by
 refine⟨hl,fun k hk=>?_⟩
 obtain⟨g,cap2,hv,hc,_,_⟩:=rQ ho k hk
 injection hv with hv1 hv2 hv3
 refine⟨g,0,hv1,?_,hs k hk⟩;rw[Nat.zero_add,hc];have hkl:k<l.length:=by omega
 simp[nI,List.getElem?_eq_getElem hkl,List.getD]
theorem Ql{B:Gd}{h:Hd}{d:DV}(c p b:Int)(w:World)(hd:bg B w h d)(hk:HV.ok ⟨c,p,b⟩=true)(hn:aA c.toNat<d.fl.length) :
  Calls Tryz.prog 230 #[.pointer (some ⟨h.p,0,none⟩),.agg #[.int .i64 c,.int .i64 p,.int .i64 b]] w fun e w' =>
   ∃ lt cp,e=.returned (.tuple #[.slice lt (fG ⟨c,p,b⟩ (iY d (aA c.toNat))).length cp,erV (iP ⟨c,p,b⟩ (iY d (aA c.toNat)))])∧nM w.heap.size w' lt cp (fG ⟨c,p,b⟩ (iY d (aA c.toNat)))∧Below w.heap.size w w':=by
 have hbo:=HV.fE hk;simp only at hbo;have HR:Hid (∀ W:World,Calls Tryz.prog 155 #[.int .i64 c] W fun e w'=>e=.returned (.int .i64 (aA c.toNat:Int))∧w'=W):=fun W=>by have:=qh c.toNat W (by omega);rw[show((c.toNat:Nat):Int)=c by omega] at this;exact this
 have hrn:aA c.toNat≤5:=by unfold aA;omega
 generalize aA c.toNat=n at HR hrn hn ⊢;obtain⟨i2,hi2,hy0,hy1,hy2⟩:=info_parts MX;have h16:=hd.ok.l2;have hsm:=hd.ok.same
 have HSZ:Hid (∀ k,k<n→(nT d k).size=16):=fun k hkn=>by
  have hx:1+k<d.seen.length:=by omega
  have:(d.seen.getD (1+k) []).length=16:=by rw[List.getD_eq_getElem?_getD,List.getElem?_eq_getElem hx];exact h16 _ (List.getElem_mem hx)
  show(d.seen.getD (1+k) []).toArray.size=16
  simpa using this
 have HRD:Hid (∀(k:Nat) (W:World),k<n→bg B W h d→Calls Tryz.prog 135 #[.pointer (some ⟨h.p,0,none⟩),.int .i64 (1+(k:Int))] W fun e w'=>e=.returned (.tuple #[.string (nT d k),.nilIface])∧w'=W):=fun k W hkn hi=>by
  have:=kF (1+k) W hi.toaH (by omega)
  rw[show(((1+k:Nat):Int))=1+(k:Int) by omega] at this;exact this
 have HTB:Hid (∀(W:World) (a:Option Addr) (cap:Nat),W.ownsRow w.heap.size 9 1 (.slice a n cap) n (nI (iY d n))→Calls Tryz.prog 262 #[.agg #[.int .i64 c,.int .i64 p,.int .i64 b],.slice a n cap] W fun e w' =>
   ∃ lt cp,e=.returned (.tuple #[.slice lt (fG ⟨c,p,b⟩ (iY d n)).length cp,erV (iP ⟨c,p,b⟩ (iY d n))])∧nM W.heap.size w' lt cp (fG ⟨c,p,b⟩ (iY d n))∧Below W.heap.size W w'):=fun W a cap ho =>
  Qj c p b a n cap (iY d n) W (SX ho (EU d n) fun k hkn=>by rw[QH d n k hkn,HSZ.out k hkn];unfold maxLen;omega) (by omega)
 have HDK:Hid (∀ W:World,Below w.heap.size w W→bg B W h d):=fun W hb=>hd.keep fun k hk=>hb.block k (hd.lt k hk).2
 have HS0:Hid (iY d 0=[]):=rfl;have HSS:Hid (∀ k,iY d (k+1)=iY d k++[nT d k]):=QI d;have HSL:Hid (∀ k,(iY d k).length=k):=EU d;generalize nT d=R at HSZ HRD HSS;generalize hT:fG ⟨c,p,b⟩ (iY d n)=T at HTB ⊢;generalize hF:iP ⟨c,p,b⟩ (iY d n)=Fa at HTB ⊢;clear hT hF;generalize iY d=L at HTB HS0 HSS HSL;clear hd hk hbo h16 hsm;go_enter Tryz.func230,Tryz.ntmps230
 go_wp2_with (go_at_call 155;refine(HR.out _).mono ?_;rintro e w' ⟨rfl,hw⟩;have hw':=hw.symm;subst hw';clear hw)
 have HB0:Hid (Below w.heap.size w (w.alloc (.cells #[.int .i64 c,.int .i64 p,.int .i64 b] 103))):=(Below.refl _ _).alloc (Nat.le_refl _) _;have HX:Hid ((w.alloc (.cells #[.int .i64 c,.int .i64 p,.int .i64 b] 103)).heap[w.heap.size]?=some (.cells #[.int .i64 c,.int .i64 p,.int .i64 b] 103 (0,0))):=heap_alloc_new _ _;have HZ1:Hid ((w.alloc (.cells #[.int .i64 c,.int .i64 p,.int .i64 b] 103)).heap.size=w.heap.size+1):=by unfold Hid;simp
 generalize w.alloc (.cells #[.int .i64 c,.int .i64 p,.int .i64 b] 103)=w0 at HB0 HX HZ1 ⊢;go_loopw [6,13] (fun u i wr=>∃(k:Nat) (a:Option Addr) (cap:Nat),k≤n∧i=.int .i64 k∧u=.slice a k cap∧wr.ownsRow (w.heap.size+1) 9 1 (.slice a k cap) k (nI (L k))∧Below (w.heap.size+1) w0 wr) (fun _ i _=>n-(intOf i).toNat)
 case atStart=>exact⟨0,none,0,Nat.zero_le _,rfl,rfl,by rw[HS0.out];exact World.ownsRow_nil _ _ _ _,Below.refl _ _⟩
 case round =>
  obtain⟨k,a,cap,hkn,rfl,rfl,ho,hbel⟩:=hrel;have hb0:Below w.heap.size w wr:=HB0.out.trans (hbel.mono (Nat.le_succ _));have hsz:w.heap.size+1≤wr.heap.size:=by have:=hbel.size;rw[HZ1.out] at this;exact this
  by_cases hlt:k<n
  ·have HRK:=ah (HRD.out k wr hlt (HDK.out wr hb0))
   have HST:=ah (HSS.out k);have HO2:Hid ((wr.alloc (.cells #[.string (R k)] 9)).ownsRow (w.heap.size+1) 9 1 (.slice a k cap) k (nI (L k))):=ho.alloc _;have HSA:Hid (w.heap.size+1≤(wr.alloc (.cells #[.string (R k)] 9)).heap.size):=by unfold Hid;simp;omega
   have HBA:Hid (Below (w.heap.size+1) w0 (wr.alloc (.cells #[.string (R k)] 9))):=hbel.alloc hsz _;have HSZ2:Hid ((wr.alloc (.cells #[.string (R k)] 9)).heap.size=wr.heap.size+1):=by unfold Hid;simp
   have HNW:Hid (∀ i y,([.string (R k)]:List Value)[i]?=some y→(wr.alloc (.cells #[.string (R k)] 9)).cell? ((⟨wr.heap.size,0,none⟩:Addr).add i)=some y):=cell_one_new _ _ _;have hk1:IntKind.i64.wrap (1+(k:Int))=1+(k:Int):=IntWalk.i64_in _ (by omega)
   clear ho hbel hb0 HRD HSS HDK HTB;generalize R k=S at HRK HST HO2 HSA HBA HSZ2 HNW;go_wp2_with fail
   refine HRK.out.mono ?_;rintro e w' ⟨rfl,hw⟩;have hw':=hw.symm;subst hw';clear hw;go_wp2_with (at_builtin;refine wpList_append_lies _ (by rfl) _ _ 72 (by rfl) (w.heap.size+1) 9 i2 (.string ⟨#[]⟩) 1 16 Tryz.underlying72 hi2 hy0 hy1 hy2 rfl (by decide) (.slice a k cap) k (nI (L k)) (by rfl) HO2.out ⟨wr.heap.size,0,none⟩ 1 1 [.string S] (by rfl) (by rfl) HNW.out (fun u hu=>by simp at hu;subst hu;rfl) (by decide) (by unfold maxLen;omega) (by omega) HSA.out (wr.heap.size+1) HSZ2.out ?_;intro g3 cap3 w3 hown hgrow hat hlt3)
   have HOF:Hid (w3.ownsRow (w.heap.size+1) 9 1 (.slice (some ⟨g3,0,none⟩) (k+1) cap3) (k+1) (nI (L (k+1)))):=by
    unfold Hid;have e2:nI (L (k+1))=nI (L k)++[.string S]:=by rw[HST.out];simp[nI]
    rw[e2];exact hown
   have HBF:Hid (Below (w.heap.size+1) w0 w3):=HBA.out.grown hgrow HSA.out (fun r e=>(HO2.out.lt r e).1)
   clear hown hgrow hat hlt3;go_roundw
   case rel =>
    have fin:∃(k1:Nat) (a1:Option Addr) (cap1:Nat),k1≤n∧Value.int .i64 ((k:Int)+1)=.int .i64 k1∧Value.slice (some ⟨g3,0,none⟩) (k+1) cap3=.slice a1 k1 cap1∧w3.ownsRow (w.heap.size+1) 9 1 (.slice a1 k1 cap1) k1 (nI (L k1))∧Below (w.heap.size+1) w0 w3 :=
     ⟨k+1,some ⟨g3,0,none⟩,cap3,by omega,by go_num,rfl,HOF.out,HBF.out⟩
    first|exact fin|((repeat apply Exists.intro);exact⟨fin,rfl⟩)
   case measure=>simp[intOf];omega
  ·have hke:k=n:=by omega
   subst hke;have HTW:=ah (HTB.out wr a cap (ownsRow_base ho (Nat.le_succ _)));have hx:wr.heap[w.heap.size]?=some (.cells #[.int .i64 c,.int .i64 p,.int .i64 b] 103 (0,0)):=by rw[hbel.block _ (by omega)];exact HX.out
   have y0:wr.cell? ⟨w.heap.size,0,none⟩=some (.int .i64 c):=by rw[cell_of_row _ _ _ _ _ _ hx];rfl
   have y1:wr.cell? ⟨w.heap.size,1,none⟩=some (.int .i64 p):=by rw[cell_of_row _ _ _ _ _ _ hx];rfl
   have y2:wr.cell? ⟨w.heap.size,2,none⟩=some (.int .i64 b):=by rw[cell_of_row _ _ _ _ _ _ hx];rfl
   have HB4:=ah hb0;clear ho hbel hb0 HRD HSS HDK HTB hx;go_wp2_with fail
   refine HTW.out.mono ?_;rintro e w4 ⟨lt,cp,rfl,hto,hb4⟩;have HTO:Hid (nM w.heap.size w4 lt cp T):=⟨hto.1,ownsRow_base hto.2 HB4.out.size⟩;have HB5:=ah (HB4.out.trans (hb4.mono HB4.out.size));clear hto hb4;go_wp2
   go_ret2
   exact⟨lt,cp,rfl,HTO.out,HB5.out⟩
end Go.Proofs.YtonhoahnieoebabGreatDoor
