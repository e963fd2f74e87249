/- A row of a table as a sector (C2), in the document's answer: what RowOf gives; two tables held against each other. -/
import Derived.Test.YtonhoahnieoebabGreatDoorQAShapeRow
import Derived.Laws.AppendOwnNone
namespace Go.Proofs.YtonhoahnieoebabGreatDoor
open Go.RowKit
attribute [local go_sem ↓] Go.wp_at_zero Go.wp_at_succ
theorem zQ{w w':World}{B e size n:Nat}{v:Value}{xs:List Value}(h:w.ownsRow B e size v n xs)(hk:∀ k,v.ownBlock=some k→w'.heap[k]?=w.heap[k]?):w'.ownsRow B e size v n xs:=by
 refine⟨h.1,?_⟩;rcases h.2 with h0|⟨g,cap,cur,hv,h1,h2,h3,h4,h5,h6⟩
 ·exact .inl h0
 ·exact .inr ⟨g,cap,cur,hv,h1,by rw[hk g (by rw[hv];rfl)];exact h2,h3,h4,h5,h6⟩
theorem Gv(w:World)(x y:Value)(t:TypeId):∀ j u,[x,y][j]?=some u→(w.alloc (.cells #[x,y] t)).cell? ((⟨w.heap.size,0,none⟩:Addr).add j)=some u:=by
 intro j u hj;rw[Go.WideShapes.add_plain,Nat.zero_add,cell_of_row _ _ _ _ _ _ (heap_alloc_new w _)]
 simpa using hj
def fB(ts:List (Int × Int)):List Value:=ts.flatMap fun e=>[.int .i64 e.1,.int .i64 e.2]
theorem yV(ts:List (Int × Int)):(fB ts).length=ts.length*2:=by
 induction ts with
 | nil=>rfl
 | cons e ts ih=>simp only[fB,List.flatMap_cons,List.length_append,List.length_cons,List.length_nil] at ih ⊢;omega
theorem yU(ts:List (Int × Int))(k:Nat)(hk:k<ts.length):(fB ts)[k*2]?=some (.int .i64 (ts.getD k (0,0)).1)∧(fB ts)[k*2+1]?=some (.int .i64 (ts.getD k (0,0)).2):=by
 induction ts generalizing k with
 | nil=>simp at hk
 | cons e ts ih =>
  cases k with
  | zero=>exact⟨rfl,rfl⟩
  | succ k =>
   have h:=ih k (by simpa using hk)
   have e1:fB (e::ts)=[.int .i64 e.1,.int .i64 e.2]++fB ts:=rfl;rw[e1,show(k+1)*2=2+k*2 by omega,show 2+k*2+1=2+(k*2+1) by omega,List.getElem?_append_right (by simp),List.getElem?_append_right (by simp)]
   simpa [show 2+k*2-2=k*2 by omega,show 2+(k*2+1)-2=k*2+1 by omega] using h
theorem zu:(Tryz.prog.info? 211).map (fun i=>(i.zero,i.size,i.bytes))=some (some (.agg #[.int .i64 0,.int .i64 0]),2,16):=by kernel_rfl
theorem CU{w:World}{B g n cap:Nat}{ts:List (Int × Int)}{xs:List Value}(ho:w.ownsRow B 211 2 (.slice (some ⟨g,0,none⟩) n cap) n xs)(k:Nat)(hx:xs.take (k*2)=fB ts)(hk:k≤n)(hl:ts.length=k):nK w (some ⟨g,0,none⟩) k ts:=by
 refine⟨hl,fun i hi=>⟨g,0,rfl,?_,?_⟩⟩
 ·have ha:=(yU ts i (by omega)).1
  rw[← hx,List.getElem?_take_of_lt (by omega)] at ha
  rw[Nat.zero_add,ho.cellAt (i*2) (by omega)];exact ha
 ·have ha:=(yU ts i (by omega)).2
  rw[← hx,List.getElem?_take_of_lt (by omega)] at ha
  rw[Nat.zero_add,ho.cellAt (i*2+1) (by omega)];exact ha
theorem qK{w w2:World}{C:Array Value}{t:TypeId}(hb:Below (w.alloc (.cells C t)).heap.size (w.alloc (.cells C t)) w2)(i:Nat)(v:Value)(hv:C[i]?=some v):w2.cell? ⟨w.heap.size,i,none⟩=some v:=by
 rw[hb.cell (by simp),cell_of_row _ _ _ _ _ _ (heap_alloc_new w _)];exact hv
end Go.Proofs.YtonhoahnieoebabGreatDoor
namespace Go.Proofs.YtonhoahnieoebabGreatDoor
open Go.RowKit
def stepT(h:HV)(acc:List (Int × Int))(e:Int × Int):Option (List (Int × Int)) :=
 if (acc.length:Int)=h.c then (if e=(0,0) then some acc else none)
 else if bM e.1 e.2 h.p=true∧¬(e.1=2∧e∈acc) then some (acc++[e]) else none
def jw(s:ByteArray)(i:Nat):Int × Int:=(bAt s (i*2),bAt s (i*2+1))
def iG(h:HV)(acc:List (Int × Int))(s:ByteArray):Nat→Option (List (Int × Int))
 | 0=>some acc
 | i+1=>match iG h acc s i with
  | none=>none
  | some a=>stepT h a (jw s i)
theorem Ad{h:HV}{acc:List (Int × Int)}{s:ByteArray}{i:Nat}(e:iG h acc s i=none):∀ j,i≤j→iG h acc s j=none:=by
 intro j hj
 induction j with
 | zero=>rw[show(0:Nat)=i by omega];exact e
 | succ j ih =>
  by_cases e2:i=j+1
  ·rw[← e2];exact e
  ·have h1:=ih (by omega)
   show(match iG h acc s j with|none=>none|some a=>stepT h a (jw s j))=none
   rw[h1]
theorem xH{h:HV}{acc a:List (Int × Int)}{s:ByteArray}{i:Nat}(e:iG h acc s i=some a):iG h acc s (i+1)=stepT h a (jw s i):=by
 show(match iG h acc s i with|none=>none|some a=>stepT h a (jw s i))=_
 rw[e]
theorem RJ{h:HV}{acc a:List (Int × Int)}{e:Int × Int}(hs:stepT h acc e=some a)(hl:(acc.length:Int)≤h.c):(a.length:Int)≤h.c:=by
 unfold stepT at hs;split at hs
 ·split at hs
  ·cases hs;exact hl
  ·cases hs
 ·split at hs
  ·cases hs;rw[List.length_append];simp;omega
  ·cases hs
theorem ER{h:HV}{acc:List (Int × Int)}{s:ByteArray}(hl:(acc.length:Int)≤h.c):∀(i:Nat) (a:List (Int × Int)),iG h acc s i=some a→(a.length:Int)≤h.c:=by
 intro i
 induction i with
 | zero=>intro a e;cases e;exact hl
 | succ i ih =>
  intro a e
  cases e2:iG h acc s i with
  | none=>rw[Ad e2 (i+1) (by omega)] at e;cases e
  | some x=>rw[xH e2] at e;exact RJ e (ih x e2)
def dI(h:HV)(rows:List ByteArray):Nat→List (Int × Int) × Int
 | 0=>([],0)
 | j+1=>if (dI h rows j).2=0 then (if (rows.getD j ByteArray.empty).size=16 then (match iG h (dI h rows j).1 (rows.getD j ByteArray.empty) 8 with|some a=>(a,0)|none=>([],2)) else ([],1)) else ([],(dI h rows j).2)
def lY(h:HV)(rows:List ByteArray):Bool:=h.ok&&decide (rows.length=aA h.c.toNat)
def fG(h:HV)(rows:List ByteArray):List (Int × Int):=if lY h rows=true then (dI h rows rows.length).1 else []
def iP(h:HV)(rows:List ByteArray):Int:=if lY h rows=true then (dI h rows rows.length).2 else 1
theorem RZ{h:HV}{rows:List ByteArray}{j:Nat}{f:Int}(hf:f≠0)(e:dI h rows j=([],f)):∀ i,j≤i→dI h rows i=([],f):=by
 intro i hi
 induction i with
 | zero=>rw[show(0:Nat)=j by omega];exact e
 | succ i ih =>
  by_cases e2:j=i+1
  ·rw[← e2];exact e
  ·have h1:=ih (by omega)
   unfold dI;rw[h1,if_neg hf]
theorem F7{h:HV}{rows:List ByteArray}{j:Nat}(e:(dI h rows j).2=0)(hs:(rows.getD j ByteArray.empty).size≠16):dI h rows (j+1)=([],1):=by
 show(if (dI h rows j).2=0 then _ else _)=_
 rw[if_pos e,if_neg hs]
theorem F6{h:HV}{rows:List ByteArray}{j:Nat}(e:(dI h rows j).2=0)(hs:(rows.getD j ByteArray.empty).size=16)(hr:iG h (dI h rows j).1 (rows.getD j ByteArray.empty) 8=none):dI h rows (j+1)=([],2):=by
 show(if (dI h rows j).2=0 then _ else _)=_
 rw[if_pos e,if_pos hs,hr]
theorem Au{h:HV}{rows:List ByteArray}{j:Nat}{a:List (Int × Int)}(e:(dI h rows j).2=0)(hs:(rows.getD j ByteArray.empty).size=16)(hr:iG h (dI h rows j).1 (rows.getD j ByteArray.empty) 8=some a):dI h rows (j+1)=(a,0):=by
 show(if (dI h rows j).2=0 then _ else _)=_
 rw[if_pos e,if_pos hs,hr]
def dK(acc:List (Int × Int)):List Bool:=(List.range 40).map fun q:Nat=>decide (((2:Int),(q:Int))∈acc)
theorem xZ(acc:List (Int × Int)):(dK acc).length=40:=by simp[dK]
theorem AB(acc:List (Int × Int))(q:Nat)(hq:q<40):(dK acc).getD q false=decide (((2:Int),(q:Int))∈acc):=by
 simp[dK,List.getD,hq]
theorem Gq:dK []=List.replicate 40 false:=by
 simp[dK,List.map_const']
theorem Gs(acc:List (Int × Int))(k p:Int)(hk:k≠2):dK (acc++[(k,p)])=dK acc:=by
 unfold dK;apply List.map_congr_left
 intro q _;have:((2:Int),(q:Int))≠(k,p):=fun e=>hk (congrArg Prod.fst e).symm
 simp[this]
theorem Gp(acc:List (Int × Int))(q:Nat)(hq:q<40):dK (acc++[(2,(q:Int))])=(dK acc).set q true:=by
 apply List.ext_getElem?
 intro i;rw[List.getElem?_set];by_cases e:q=i
 ·subst e
  rw[if_pos rfl,if_pos (by rw[xZ];exact hq)]
  simp[dK,hq]
 ·rw[if_neg e]
  by_cases hi:i<40
  ·simp[dK,hi]
   intro e2;omega
  ·rw[List.getElem?_eq_none (by rw[xZ];omega),List.getElem?_eq_none (by rw[xZ];omega)]
def uZ(h:HV)(v:Value)(tk:List Bool):List Value:=[.int .i64 h.c,.int .i64 h.p,.int .i64 h.b,v]++tk.map .bool
structure dZ(B:Nat)(w:World)(N:Nat)(h:HV)(v:Value)(acc:List (Int × Int))(tk:List Bool):Prop where
 blk:w.heap[N]?=some (.cells (uZ h v tk).toArray 317 (0,0))
 own:w.ownsRow B 211 2 v acc.length (fB acc)
 pB:B≤N
 tk40:tk.length=40
theorem dZ.below{B N:Nat}{w w':World}{h:HV}{v:Value}{acc:List (Int × Int)}{tk:List Bool}(ht:dZ B w N h v acc tk)(hb:Below w.heap.size w w'):dZ B w' N h v acc tk :=
 ⟨by rw[hb.block N (lG ht.blk)];exact ht.blk,zQ ht.own (fun q e=>hb.block q (ht.own.lt q e).2),ht.pB,ht.tk40⟩
theorem dZ.cells{B N:Nat}{w:World}{h:HV}{v:Value}{acc:List (Int × Int)}{tk:List Bool}(ht:dZ B w N h v acc tk) :
  w.cell? ⟨N,0,none⟩=some (.int .i64 h.c)∧w.cell? ⟨N,1,none⟩=some (.int .i64 h.p)∧w.cell? ⟨N,3,none⟩=some v∧w.frozen? ⟨N,3,none⟩=false:=by
 refine⟨?_,?_,?_,frozen_of_row _ _ _ _ _ ht.blk⟩<;>(rw[cell_of_row _ _ _ _ _ _ ht.blk];rfl)
theorem dZ.bit{B N:Nat}{w:World}{h:HV}{v:Value}{acc:List (Int × Int)}{tk:List Bool}(ht:dZ B w N h v acc tk)(q:Nat)(hq:q<40) :
  w.cell? ⟨N,4+q,none⟩=some (.bool (tk.getD q false))∧w.frozen? ⟨N,4+q,none⟩=false:=by
 refine⟨?_,frozen_of_row _ _ _ _ _ ht.blk⟩;have hq':q<tk.length:=by rw[ht.tk40];exact hq
 rw[cell_of_row _ _ _ _ _ _ ht.blk,List.getElem?_toArray,uZ,List.getElem?_append_right (by simp)]
 simp[List.getElem?_eq_getElem hq',List.getD]
theorem dZ.form{B N:Nat}{w:World}{h:HV}{v:Value}{acc:List (Int × Int)}{tk:List Bool}(ht:dZ B w N h v acc tk):∃ a cap,v=.slice a acc.length cap:=by
 rcases ht.own.2 with⟨h0,hn⟩|⟨g,cap,cur,hv,_⟩
 ·exact⟨none,0,by rw[h0,hn]⟩
 ·exact⟨_,cap,hv⟩
theorem dZ.apart{B N:Nat}{w:World}{h:HV}{v:Value}{acc:List (Int × Int)}{tk:List Bool}(ht:dZ B w N h v acc tk):v.ownBlock≠some N:=fun e=>by
 rcases ht.own.2 with⟨h0,_⟩|⟨g,cap,cur,hv,_,hh,_⟩
 ·rw[h0] at e;cases e
 ·rw[hv] at e
  have:g=N:=by simpa [Value.ownBlock] using e
  rw[this,ht.blk] at hh;cases hh
theorem dZ.Q5{B N:Nat}{w:World}{h:HV}{v:Value}{acc:List (Int × Int)}{tk:List Bool}(ht:dZ B w N h v acc tk)(q:Nat)(hq:q<40) :
  dZ B (w.setCell ⟨N,4+q,none⟩ (.bool true)) N h v acc (tk.set q true):=by
 refine⟨?_,zQ ht.own (fun r e=>heap_setCell_other _ _ _ _ (fun e2=>ht.apart (e.trans (congrArg some e2)))),ht.pB,by rw[List.length_set];exact ht.tk40⟩
 rw[heap_setCell_same w N (4+q) _ _ _ ht.blk]
 congr 2
 have:q<tk.length:=by rw[ht.tk40];exact hq
 simp only[uZ,List.setIfInBounds_toArray];rw[List.set_append_right _ _ (by simp)]
 simp[List.map_set]
theorem dZ.push{B N:Nat}{w w2:World}{h:HV}{v:Value}{acc:List (Int × Int)}{tk:List Bool}(ht:dZ B w N h v acc tk)(k p:Int)(g cap:Nat)(C:Obj)
  (hown:w2.ownsRow B 211 2 (.slice (some ⟨g,0,none⟩) (acc.length+1) cap) (acc.length+1) (fB acc++[.int .i64 k,.int .i64 p])) (hg:(w.alloc C).grownBy w2 v.ownBlock) :
  dZ B (w2.setCell ⟨N,3,none⟩ (.slice (some ⟨g,0,none⟩) (acc.length+1) cap)) N h (.slice (some ⟨g,0,none⟩) (acc.length+1) cap) (acc++[(k,p)]) tk∧w2.cell? ⟨N,3,none⟩=some v∧w2.frozen? ⟨N,3,none⟩=false:=by
 have hNl:=lG ht.blk
 have hN2:w2.heap[N]?=some (.cells (uZ h v tk).toArray 317 (0,0)):=by
  rw[hg.block N (by simp;omega) (Ne.symm ht.apart),Below.heap_alloc _ _ _ hNl];exact ht.blk
 have hgN:g≠N:=fun e=>by
  rcases hown.2 with⟨_,h0⟩|⟨g',cap',cur,hv,_,hh,_⟩
  ·omega
  ·have:g=g':=by simpa [Value.ownBlock] using congrArg Value.ownBlock hv
   rw[← this,e,hN2] at hh;cases hh
 refine⟨⟨?_,?_,ht.pB,ht.tk40⟩,by rw[cell_of_row _ _ _ _ _ _ hN2];rfl,frozen_of_row _ _ _ _ _ hN2⟩
 ·rw[heap_setCell_same w2 N 3 _ _ _ hN2]
  simp[uZ]
 ·have e1:fB (acc++[(k,p)])=fB acc++[.int .i64 k,.int .i64 p]:=by simp[fB]
  rw[e1,List.length_append]
  exact zQ hown (fun r e=>by
   have:g=r:=by simpa [Value.ownBlock] using e
   subst this
   exact heap_setCell_other _ _ _ _ hgN)
def DV.put(d:DV)(i:Nat)(s:List UInt8):DV:=if d.fail=0 then d.failing (-1) else d.iC.wrote i s
def DV.aQ(d:DV):Int:=if d.fail=0 then 7 else 0
structure DV.fine(d:DV)(n m:Nat):Prop where
 ok:d.ok
 sn:d.sn
 len:d.fl.length=n
 wr:d.wr≤m
theorem DV.fine.more{d:DV}{n m m':Nat}(h:d.fine n m)(hm:m≤m'):d.fine n m':=⟨h.ok,h.sn,h.len,Nat.le_trans h.wr hm⟩
theorem DV.ok.iC{d:DV}(h:d.ok):d.iC.ok:=by
 unfold DV.iC;split
 ·exact h
 ·exact h.failing (by have:=h.f1;omega) (by have:=h.f2;omega)
theorem DV.fine.put{d:DV}{n m:Nat}(h:d.fine n m){i:Nat}{s:List UInt8}(hi:i<n)(hs:s.length=16)(hm:m<1000000000):(d.put i s).fine n (m+1):=by
 have hw:=h.wr;unfold DV.put;split
 ·exact⟨h.ok.failing (by omega) (by omega),yZ h.sn _,h.len,by show d.wr≤m+1;omega⟩
 ·exact⟨h.ok.iC.wrote (by rw[DV.Gm,h.len];exact hi) hs (by rw[DV.Gn];omega),Uf (Td h.sn) _ _,by show d.iC.fl.length=n;rw[DV.Gm];exact h.len,by show d.iC.wr+1≤m+1;rw[DV.Gn];omega⟩
theorem DV.fine.flushed{d:DV}{n m:Nat}(h:d.fine n m):d.flushed.fine n m:=⟨h.ok.flushed,LC _,by show d.seen.length=n;rw[h.ok.same];exact h.len,h.wr⟩
theorem DV.pU(d:DV):d.aQ=0∧d.fail≠0∨d.aQ=7∧d.fail=0:=by
 unfold DV.aQ;by_cases h:d.fail=0
 ·rw[if_pos h];exact .inr ⟨rfl,h⟩
 ·rw[if_neg h];exact .inl ⟨rfl,h⟩
def DV.puts(d:DV)(a:Nat)(s:ByteArray):Nat→DV × Int
 | 0=>(d,0)
 | k+1=>if (d.puts a s k).2=0 then ((d.puts a s k).1.put (a+k) (chunk s k),(d.puts a s k).1.aQ) else d.puts a s k
theorem DV.pY{d:DV}{a:Nat}{s:ByteArray}{k:Nat}(h:(d.puts a s k).2=0):d.puts a s (k+1)=((d.puts a s k).1.put (a+k) (chunk s k),(d.puts a s k).1.aQ):=by
 show(if (d.puts a s k).2=0 then _ else _)=_
 rw[if_pos h]
theorem DV.pX{d:DV}{a:Nat}{s:ByteArray}{k:Nat}(h:(d.puts a s k).2≠0):∀ j,k≤j→d.puts a s j=d.puts a s k:=by
 intro j hj
 induction j with
 | zero=>rw[show(0:Nat)=k by omega]
 | succ j ih =>
  by_cases e:k=j+1
  ·rw[← e]
  ·have h1:=ih (by omega)
   show(if (d.puts a s j).2=0 then _ else d.puts a s j)=_
   rw[h1,if_neg h]
theorem DV.zZ(d:DV)(a:Nat)(s:ByteArray)(k:Nat):(d.puts a s k).2=0∨(d.puts a s k).2=7:=by
 induction k with
 | zero=>exact .inl rfl
 | succ k ih =>
  rcases ih with h|h
  ·rw[DV.pY h]
   rcases DV.pU (d.puts a s k).1 with h2|h2
   ·exact .inl h2.1
   ·exact .inr h2.1
  ·right
   rw[DV.pX (k:=k) (by omega) (k+1) (by omega)];exact h
theorem DV.fine.puts{d:DV}{n m:Nat}(h:d.fine n m){a:Nat}{s:ByteArray}{c:Nat}(hs:s.size=c*16)(ha:a+c≤n)(hm:m+c<1000000000):∀ k,k≤c→(d.puts a s k).1.fine n (m+k):=by
 intro k
 induction k with
 | zero=>intro _;exact h
 | succ k ih =>
  intro hk;have h1:=ih (by omega)
  by_cases h0:(d.puts a s k).2=0
  ·rw[DV.pY h0]
   exact h1.put (by omega) (IW s c k hs (by omega)) (by omega)
  ·rw[DV.pX h0 (k+1) (by omega)]
   exact h1.more (by omega)
structure IV where
 d:DV
 h:HV
 t:List (Int × Int)
 held:List Nat
def aI(h:HV)(q:Nat):Nat:=1+aA h.c.toNat+4*q
def aJ(h:HV):Nat:=aI h h.p.toNat
structure IV.ok(v:IV)(m:Nat):Prop where
 d:v.d.fine v.d.fl.length m
 h:v.h.ok=true
 len:(v.t.length:Int)=v.h.c
 ents:∀ e∈v.t,bM e.1 e.2 v.h.p=true
 need:aJ v.h≤v.d.fl.length
 held:∀ q∈v.held,q<40
 few:v.held.length≤m
theorem IV.ok.more{v:IV}{m m':Nat}(h:v.ok m)(hm:m≤m'):v.ok m':=⟨h.d.more hm,h.h,h.len,h.ents,h.need,h.held,Nat.le_trans h.few hm⟩
theorem IV.ok.dev{v:IV}{m m':Nat}(h:v.ok m){d:DV}(hd:d.fine v.d.fl.length m')(hm:m≤m'):({ v with d:=d }:IV).ok m' :=
 ⟨by show d.fine d.fl.length m';rw[hd.len];exact hd,h.h,h.len,h.ents,by show aJ v.h≤d.fl.length;rw[hd.len];exact h.need,h.held,Nat.le_trans h.few hm⟩
def IV.ent(v:IV)(c:Int):Int × Int:=v.t.getD c.toNat (0,0)
def IV.there(v:IV)(c:Int):Bool:=decide (0≤c∧c<v.t.length)
theorem IV.kH{v:IV}{c:Int}(h:v.there c=true):0≤c∧c<v.t.length:=of_decide_eq_true h
theorem IV.Gi{v:IV}{c:Int}(h:v.there c=false):¬(0≤c∧c<v.t.length):=of_decide_eq_false h
theorem IV.ok.ent{v:IV}{m:Nat}(h:v.ok m){c:Int}(hc:v.there c=true):bM (v.ent c).1 (v.ent c).2 v.h.p=true:=by
 obtain⟨h0,h1⟩:=IV.kH hc;apply h.ents
 unfold IV.ent;have hl:c.toNat<v.t.length:=by omega
 rw[List.getD_eq_getElem?_getD,List.getElem?_eq_getElem hl];exact List.getElem_mem _
def lH(d:DV)(a:Nat):Nat→List UInt8
 | 0=>[]
 | k+1=>lH d a k++d.seen.getD (a+k) []
def sO:List UInt8:=List.replicate 64 0
def IV.jm(v:IV)(c:Int):List UInt8 :=
 if v.there c=true then (if (v.ent c).1=2 then lH v.d (aI v.h (v.ent c).2.toNat) 4 else if (v.ent c).1=1 then sO else []) else []
def IV.kU(v:IV)(c:Int):Int:=if v.there c=true then (if (v.ent c).1=0 then 4 else 0) else 1
def IV.vk(v:IV)(q:Nat):Bool:=v.t.any fun e=>decide (e=(2,(q:Int)))
def IV.uh(v:IV)(q:Nat):Bool:=v.held.any fun x=>decide (x=q)
def IV.lX(v:IV)(q:Nat):Bool := !v.vk q && !v.uh q
def IV.lu(v:IV)(k:Nat):List Nat:=(List.range k).filter v.lX
def IV.fD(v:IV):List Nat:=v.lu v.h.p.toNat
theorem IV.LM(v:IV)(k:Nat):v.lu (k+1)=v.lu k++(if v.lX k=true then [k] else []):=by
 unfold IV.lu;rw[List.range_succ,List.filter_append]
 congr 1
 by_cases h:v.lX k=true
 ·rw[if_pos h,List.filter_cons_of_pos h];rfl
 ·rw[if_neg h,List.filter_cons_of_neg h];rfl
theorem IV.LK(v:IV)(k:Nat):(v.lu k).length≤k:=by
 unfold IV.lu;have:=List.length_filter_le v.lX (List.range k)
 rw[List.length_range] at this;exact this
theorem IV.pz{v:IV}{k q:Nat}(h:q∈v.lu k):q<k∧v.lX q=true:=by
 unfold IV.lu at h;rw[List.mem_filter,List.mem_range] at h;exact h
def IV.dO(v:IV)(c:Nat)(e:Int × Int):DV:=v.d.put (1+c / 8) (dG (v.t.set c e) (((c / 8:Nat):Int))).data.toList
def IV.set(v:IV)(c:Nat)(e:Int × Int):IV :=
 if v.d.aQ=0 then ⟨v.dO c e,v.h,v.t.set c e,if (v.t.getD c (0,0)).1=2 then v.held++[(v.t.getD c (0,0)).2.toNat] else v.held⟩ else { v with d:=v.dO c e }
def IV.flush(v:IV):IV:={ v with d:=v.d.flushed,held:=[] }
def kK(v:IV)(c from_:Int)(s:ByteArray):Bool:=v.there c&&decide (0≤from_∧from_≤4∧s.size % 16=0∧(s.size:Int)≤16*(4-from_))
def IV.qP(v:IV)(c from_:Int)(s:ByteArray):DV × Int:=v.d.puts (aI v.h (v.ent c).2.toNat+from_.toNat) s (s.size / 16)
def IV.dB(v:IV)(c from_:Int)(s:ByteArray):Int:=if kK v c from_ s=true then (if (v.ent c).1=2 then (v.qP c from_ s).2 else 4) else 1
def IV.write(v:IV)(c from_:Int)(s:ByteArray):IV:=if kK v c from_ s=true∧(v.ent c).1=2 then { v with d:=(v.qP c from_ s).1 } else v
def IV.dV(v:IV)(q:Nat)(s:ByteArray):DV × Int:=v.d.puts (aI v.h q+0) s 4
def IV.fZ(v:IV)(q:Nat)(s:ByteArray):IV:=({ v with d:=(v.dV q s).1 }:IV).flush
def IV.dL(v:IV)(c:Int)(s:ByteArray):Int :=
 if v.there c=true∧s.size=64 then
  if (v.ent c).1=2 then 5 else match v.fD with
   | []=>6
   | q::_=>if (v.dV q s).2=0 then (v.fZ q s).d.aQ else (v.dV q s).2
 else 1
def IV.fill(v:IV)(c:Int)(s:ByteArray):IV :=
 if v.there c=true∧s.size=64 then
  if (v.ent c).1=2 then v else match v.fD with
   | []=>v
   | q::_=>if (v.dV q s).2=0 then (v.fZ q s).set c.toNat (2,(q:Int)) else { v with d:=(v.dV q s).1 }
 else v
def IV.dU(v:IV)(c:Int):Int:=if v.there c=true then (if (v.ent c).1=1 then 0 else v.d.aQ) else 1
def IV.clear(v:IV)(c:Int):IV:=if v.there c=true∧(v.ent c).1≠1 then v.set c.toNat (1,0) else v
def IV.gJ(v:IV)(h:HV):IV :=
 if v.flush.d.aQ=0 then { (({ v.flush with d:=v.flush.d.put 0 (aU h.bytes).data.toList }:IV).flush) with h:=h } else { v.flush with d:=v.flush.d.put 0 (aU h.bytes).data.toList }
def IV.lV(v:IV)(back:Int):HV:=⟨v.h.c,v.h.p,back⟩
def IV.kC(v:IV)(back:Int):Int:=if (v.lV back).ok=true then v.flush.d.aQ else 1
def IV.link(v:IV)(back:Int):IV:=if (v.lV back).ok=true then v.gJ (v.lV back) else v
theorem Kt{k p:Int}{h:HV}(hk:h.ok=true)(he:bM k p h.p=true):bM k p 40=true:=by
 have hb:=HV.fE hk;rcases iK he with h1|h1
 ·exact kS (.inl ⟨h1.1,h1.2.1,by omega⟩)
 ·exact kS (.inr h1)
theorem uM{ts:List (Int × Int)}{h:HV}(hk:h.ok=true)(hl:(ts.length:Int)=h.c)(he:∀ e∈ts,bM e.1 e.2 h.p=true)(r:Nat)(hr:r<aA ts.length):jM ts (r:Int)=0∧(dG ts (r:Int)).size=16:=by
 have hb:=HV.fE hk;have h1:qg ts (r:Int)=true:=decide_eq_true ⟨by omega,by omega,by omega⟩
 have h2:rowOk ts ((r:Int)).toNat=true:=EO (k:=8) (.inr (Nat.le_refl _)) fun i _=>by
  rcases Nat.lt_or_ge (((r:Int)).toNat*8+i) ts.length with hx|hx
  ·rw[List.getD_eq_getElem?_getD,List.getElem?_eq_getElem hx]
   exact Kt hk (he _ (List.getElem_mem hx))
  ·rw[List.getD_eq_getElem?_getD,List.getElem?_eq_none hx];decide
 have h3:jM ts (r:Int)=0:=by unfold jM;rw[if_pos h1,if_pos h2]
 refine⟨h3,?_⟩;unfold dG;rw[if_pos h3,strOfNums_size,xI]
theorem wF{ts:List (Int × Int)}{p:Int}(he:∀ e∈ts,bM e.1 e.2 p=true)(c:Nat)(x:Int × Int)(hx:bM x.1 x.2 p=true):∀ e∈ts.set c x,bM e.1 e.2 p=true:=by
 intro e hm;rcases List.mem_or_eq_of_mem_set hm with h|h
 ·exact he e h
 ·rw[h];exact hx
theorem kV{n c:Nat}(h:c<n):c / 8<aA n:=by unfold aA;omega
theorem kM{h:HV}(hk:h.ok=true){n:Nat}(hn:aJ h≤n):aA h.c.toNat<n∧∀ q:Nat,(q:Int)<h.p→aI h q+4≤n:=by
 have hb:=HV.fE hk;unfold aJ aI at hn;refine⟨by omega,fun q hq=>?_⟩
 unfold aI;omega
theorem IV.ok.dO{v:IV}{m:Nat}(h:v.ok m){c:Nat}(hc:c<v.t.length){e:Int × Int}(he:bM e.1 e.2 v.h.p=true)(hm:m<1000000000):(v.dO c e).fine v.d.fl.length (m+1):=by
 have hr:=uM (ts:=v.t.set c e) h.h (by rw[List.length_set];exact h.len) (wF h.ents c e he) (c / 8) (by rw[List.length_set];exact kV hc)
 have hl:=h.len;have hb:=(kM h.h h.need).1;have hr2:=kV hc;have e1:v.h.c.toNat=v.t.length:=by omega
 rw[e1] at hb;exact h.d.put (by omega) (by simpa using hr.2) hm
theorem IV.ok.set{v:IV}{m:Nat}(h:v.ok m){c:Nat}(hc:c<v.t.length){e:Int × Int}(he:bM e.1 e.2 v.h.p=true)(hm:m<1000000000):(v.set c e).ok (m+1):=by
 have hd:=h.dO hc he hm;unfold IV.set;split
 ·refine⟨by show(v.dO c e).fine (v.dO c e).fl.length _;rw[hd.len];exact hd,h.h,by show((v.t.set c e).length:Int)=_;rw[List.length_set];exact h.len,wF h.ents c e he,by show aJ v.h≤(v.dO c e).fl.length;rw[hd.len];exact h.need,?_,?_⟩
  ·intro q hq
   have hq':q∈(if (v.t.getD c (0,0)).1=2 then v.held++[(v.t.getD c (0,0)).2.toNat] else v.held):=hq
   split at hq'
   ·next h2 =>
    rcases List.mem_append.1 hq' with hx|hx
    ·exact h.held q hx
    ·have h3:bM (v.t.getD c (0,0)).1 (v.t.getD c (0,0)).2 v.h.p=true:=by
      rw[List.getD_eq_getElem?_getD,List.getElem?_eq_getElem hc];exact h.ents _ (List.getElem_mem hc)
     have hb:=HV.fE h.h;simp only[List.mem_singleton] at hx;rcases iK h3 with h4|h4
     ·omega
     ·omega
   ·exact h.held q hq'
  ·show(if (v.t.getD c (0,0)).1=2 then v.held++[(v.t.getD c (0,0)).2.toNat] else v.held).length≤m+1
   have:=h.few
   split
   ·rw[List.length_append];simp;omega
   ·omega
 ·exact(h.dev hd (Nat.le_succ m))
theorem IV.ok.flush{v:IV}{m:Nat}(h:v.ok m):v.flush.ok m :=
 ⟨by show v.d.flushed.fine v.d.flushed.fl.length m;rw[h.d.flushed.len];exact h.d.flushed,h.h,h.len,h.ents,by show aJ v.h≤v.d.flushed.fl.length;rw[h.d.flushed.len];exact h.need,(fun q hq=>by cases hq),Nat.zero_le _⟩
theorem IV.ok.place{v:IV}{m:Nat}(h:v.ok m){c:Int}(hc:v.there c=true)(h2:(v.ent c).1=2):0≤(v.ent c).2∧(v.ent c).2<v.h.p∧aI v.h (v.ent c).2.toNat+4≤v.d.fl.length:=by
 rcases iK (h.ent hc) with h3|h3
 ·exact⟨h3.2.1,h3.2.2,(kM h.h h.need).2 _ (by omega)⟩
 ·omega
theorem yu{v:IV}{c from_:Int}{s:ByteArray}(h:kK v c from_ s=true):v.there c=true∧0≤from_∧from_≤4∧s.size % 16=0∧(s.size:Int)≤16*(4-from_):=by
 unfold kK at h;rw[Bool.and_eq_true] at h;exact⟨h.1,of_decide_eq_true h.2⟩
theorem IV.ok.write{v:IV}{m:Nat}(h:v.ok m)(c from_:Int)(s:ByteArray)(hm:m+10≤1000000000):(v.write c from_ s).ok (m+10):=by
 unfold IV.write;split
 ·next hx =>
  obtain⟨h1,h2,h3,h4,h5⟩:=yu hx.1;obtain⟨p0,p1,p2⟩:=h.place h1 hx.2;exact h.dev ((h.d.puts (c:=s.size / 16) (by omega) (by omega) (by omega) (s.size / 16) (Nat.le_refl _)).more (by omega)) (by omega)
 ·exact h.more (by omega)
theorem IV.ok.dV{v:IV}{m:Nat}(h:v.ok m){q:Nat}(hq:q∈v.fD){s:ByteArray}(hs:s.size=64)(hm:m+10≤1000000000):(v.dV q s).1.fine v.d.fl.length (m+4):=by
 have hb:=HV.fE h.h;have:=(IV.pz hq).1
 have h2:=(kM h.h h.need).2 q (by omega)
 exact h.d.puts (c:=4) (by omega) (by omega) (by omega) 4 (Nat.le_refl _)
theorem IV.ok.fZ{v:IV}{m:Nat}(h:v.ok m){q:Nat}(hq:q∈v.fD){s:ByteArray}(hs:s.size=64)(hm:m+10≤1000000000):(v.fZ q s).ok (m+4) :=
 (h.dev (h.dV hq hs hm) (by omega)).flush
theorem wQ{v:IV}{m:Nat}(h:v.ok m){q:Nat}(hq:q∈v.fD):bM 2 (q:Int) v.h.p=true:=by
 have hb:=HV.fE h.h;have:=(IV.pz hq).1
 exact kS (.inl ⟨rfl,by omega,by omega⟩)
theorem IV.ok.fill{v:IV}{m:Nat}(h:v.ok m)(c:Int)(s:ByteArray)(hm:m+10≤1000000000):(v.fill c s).ok (m+10):=by
 unfold IV.fill;split
 ·next hx =>
  obtain⟨h0,h1⟩:=IV.kH hx.1;split
  ·exact h.more (by omega)
  ·split
   ·exact h.more (by omega)
   ·next q r hq =>
    have hm1:q∈v.fD:=by rw[hq];exact List.mem_cons_self
    split
    ·exact((h.fZ hm1 hx.2 hm).set (by show c.toNat<v.t.length;omega) (wQ h hm1) (by omega)).more (by omega)
    ·exact(h.dev (h.dV hm1 hx.2 hm) (by omega)).more (by omega)
 ·exact h.more (by omega)
theorem IV.ok.clear{v:IV}{m:Nat}(h:v.ok m)(c:Int)(hm:m+10≤1000000000):(v.clear c).ok (m+10):=by
 unfold IV.clear;split
 ·next hx =>
  obtain⟨h0,h1⟩:=IV.kH hx.1;exact(h.set (by omega) (kS (.inr ⟨.inr rfl,rfl⟩)) (by omega)).more (by omega)
 ·exact h.more (by omega)
theorem HV.Bo(h:HV):(aU h.bytes).size=16:=xK _ (by show 5≤12;omega)
theorem IV.ok.gJ{v:IV}{m:Nat}(h:v.ok m){x:HV}(hx:x.ok=true)(hc:x.c=v.h.c)(hp:x.p=v.h.p)(hm:m+10≤1000000000):(v.gJ x).ok (m+10):=by
 have h1:=h.flush;have hn:=(kM h.h h.need).1;have hl:v.d.flushed.fl.length=v.d.fl.length:=h.d.flushed.len;have h2:(v.flush.d.put 0 (aU x.bytes).data.toList).fine v.flush.d.fl.length (m+1):=h1.d.put (by show 0<v.d.flushed.fl.length;omega) (by have:=HV.Bo x;simpa using this) (by omega)
 have h3:=h1.dev h2 (Nat.le_succ m);unfold IV.gJ;split
 ·have h4:=h3.flush
  refine IV.ok.more (m:=m+1) ?_ (by omega)
  refine⟨h4.d,hx,h4.len.trans hc.symm,?_,?_,h4.held,h4.few⟩
  ·intro e he;show bM e.1 e.2 x.p=true;rw[hp];exact h4.ents e he
  ·have:=h4.need
   show aJ x≤_
   have e:aJ x=aJ v.h:=by unfold aJ aI;rw[hc,hp]
   rw[e];exact this
 ·exact h3.more (by omega)
theorem IV.ok.link{v:IV}{m:Nat}(h:v.ok m)(back:Int)(hm:m+10≤1000000000):(v.link back).ok (m+10):=by
 unfold IV.link;split
 ·next hx=>exact h.gJ hx rfl rfl hm
 ·exact h.more (by omega)
end Go.Proofs.YtonhoahnieoebabGreatDoor
