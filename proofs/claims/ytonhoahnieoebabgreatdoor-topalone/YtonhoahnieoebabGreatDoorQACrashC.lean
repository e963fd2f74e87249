/- A guest in memory: two tables of rows of texts, what each sector may be now and behind a crash; how a row is set. -/
import Derived.Test.YtonhoahnieoebabGreatDoorQAImgCreate2
namespace Go.Proofs.YtonhoahnieoebabGreatDoor
open Go.RowKit Go.Maps
abbrev Rw:=List (List UInt8)
def fF(vs:Nat→Value)(k:Nat)(v:Value):Nat→Value:=fun j=>if j=k then v else vs j
def iH(rows:Nat→Rw)(k:Nat)(l:Rw):Nat→Rw:=fun j=>if j=k then l else rows j
structure IsT(w:World)(v:Value)(n:Nat)(vs:Nat→Value)(rows:Nat→Rw):Prop where
 own:w.ownsRow 0 202 1 v n ((List.range n).map vs)
 row:∀ k,k<n→w.ownsRow 0 9 1 (vs k) (rows k).length (flS (rows k))
 inj:∀ i j,i<n→j<n→i≠j→∀ b,(vs i).ownBlock=some b→(vs j).ownBlock≠some b
def fpT(v:Value)(n:Nat)(vs:Nat→Value)(k:Nat):Prop:=v.ownBlock=some k∨∃ i,i<n∧(vs i).ownBlock=some k
theorem IsT.lt{w:World}{v:Value}{n:Nat}{vs:Nat→Value}{rows:Nat→Rw}(h:IsT w v n vs rows){k:Nat}(hk:fpT v n vs k):k<w.heap.size:=by
 rcases hk with hk|⟨i,hi,hk⟩
 ·exact(h.own.lt k hk).2
 ·exact((h.row i hi).lt k hk).2
theorem IsT.keep{w w':World}{v:Value}{n:Nat}{vs:Nat→Value}{rows:Nat→Rw}(h:IsT w v n vs rows)(hk:∀ k,fpT v n vs k→w'.heap[k]?=w.heap[k]?):IsT w' v n vs rows :=
 ⟨dA h.own fun k e=>hk k (.inl e),fun i hi=>dA (h.row i hi) fun k e=>hk k (.inr ⟨i,hi,e⟩),h.inj⟩
theorem IsT.kind{w:World}{v:Value}{n:Nat}{vs:Nat→Value}{rows:Nat→Rw}(h:IsT w v n vs rows){k:Nat}(hk:fpT v n vs k):∃ cur t,w.heap[k]?=some (.cells cur t (0,0))∧(t=202∨t=9):=by
 rcases hk with hk|⟨i,hi,hk⟩
 ·obtain⟨c,e⟩:=ownsRow_kind h.own k hk;exact⟨c,_,e,.inl rfl⟩
 ·obtain⟨c,e⟩:=ownsRow_kind (h.row i hi) k hk;exact⟨c,_,e,.inr rfl⟩
theorem IsT.uJ{w:World}{v:Value}{n:Nat}{vs:Nat→Value}{rows:Nat→Rw}(h:IsT w v n vs rows){i b:Nat}(hi:i<n)(hb:(vs i).ownBlock=some b):v.ownBlock≠some b:=fun e=>by
 obtain⟨c,e1⟩:=ownsRow_kind h.own b e;obtain⟨c2,e2⟩:=ownsRow_kind (h.row i hi) b hb;rw[e1] at e2;cases e2
theorem IsT.cell{w:World}{v:Value}{n:Nat}{vs:Nat→Value}{rows:Nat→Rw}(h:IsT w v n vs rows){k:Nat}(hk:k<n):∃ g cap,v=.slice (some ⟨g,0,none⟩) n cap∧w.cell? ⟨g,k,none⟩=some (vs k)∧w.frozen? ⟨g,k,none⟩=false:=by
 obtain⟨g,cap,h1,h2,_,h4⟩:=rQ h.own k hk;refine⟨g,cap,h1,?_,h4⟩;rw[h2,List.getElem?_map,List.getElem?_range hk];rfl
theorem map_set(vs:Nat→Value)(n i:Nat)(u:Value):(List.range n).map (fF vs i u)=((List.range n).map vs).set i u:=by
 refine List.ext_getElem? fun k=>?_
 rw[List.getElem?_map,List.getElem?_set,List.getElem?_map,List.length_map,List.length_range];unfold fF;by_cases hk:k<n
 ·rw[List.getElem?_range hk]
  by_cases e:i=k
  ·subst e;simp[hk]
  ·simp[e,Ne.symm e]
 ·rw[List.getElem?_eq_none (by simp;omega)]
  by_cases e:i=k
  ·subst e;simp[hk]
  ·simp[e]
theorem IsT.set{w w1:World}{v:Value}{n:Nat}{vs:Nat→Value}{rows:Nat→Rw}(h:IsT w v n vs rows){i g cap:Nat}(hv:v=.slice (some ⟨g,0,none⟩) n cap)(hg:w1.heap[g]?=w.heap[g]?)(hr:∀ j,j<n→j≠i→∀ b,(vs j).ownBlock=some b→w1.heap[b]?=w.heap[b]?)
  {u:Value} {l:Rw} (ho:w1.ownsRow 0 9 1 u l.length (flS l)) (hu:∀ j,j<n→j≠i→∀ b,(vs j).ownBlock=some b→u.ownBlock≠some b) :
  IsT (w1.setCell ⟨g,i,none⟩ u) v n (fF vs i u) (iH rows i l):=by
 subst hv
 have hown:w1.ownsRow 0 202 1 (.slice (some ⟨g,0,none⟩) n cap) n ((List.range n).map vs):=dA h.own fun k e=>by
  have:g=k:=by simpa [Value.ownBlock] using e
  subst this;exact hg
 obtain⟨cg,hgk⟩:=ownsRow_kind hown g rfl;have hne:∀ b c,w1.heap[b]?=some (.cells c 9 (0,0))→b≠g:=fun b c e e2=>by rw[e2,hgk] at e;cases e
 refine⟨?_,fun k hk=>?_,fun a b ha hb hab c e=>?_⟩
 ·rw[map_set];exact(hown.stored i u).1
 ·unfold fF iH
  by_cases e:k=i
  ·rw[if_pos e,if_pos e]
   refine dA ho fun b hb=>?_
   obtain⟨c2,hc2⟩:=ownsRow_kind ho b hb;exact heap_setCell_other _ _ _ _ (hne b c2 hc2)
  ·rw[if_neg e,if_neg e]
   have hrow:=dA (w':=w1) (h.row k hk) fun b hb=>hr k hk e b hb
   refine dA hrow fun b hb=>?_
   obtain⟨c2,hc2⟩:=ownsRow_kind hrow b hb;exact heap_setCell_other _ _ _ _ (hne b c2 hc2)
 ·unfold fF at e ⊢
  by_cases ea:a=i
  ·have eb:b≠i:=fun e=>hab (by rw[ea,e])
   rw[if_pos ea] at e;rw[if_neg eb];exact fun e2=>hu b hb eb c e2 e
  ·rw[if_neg ea] at e
   by_cases eb:b=i
   ·rw[if_pos eb];exact hu a ha ea c e
   ·rw[if_neg eb];exact h.inj a b ha hb hab c e
structure Gh where
 vn:Value
 vc:Value
 rn:Nat→Value
 rc:Nat→Value
structure GV where
 now:Nat→Rw
 cr:Nat→Rw
def fpG(gp:Nat)(G:Gh)(n:Nat)(k:Nat):Prop:=k=gp∨fpT G.vn n G.rn k∨fpT G.vc n G.rc k
structure IsG(w:World)(gp:Nat)(G:Gh)(n:Nat)(g:GV):Prop where
 blk:w.heap[gp]?=some (.cells #[G.vn,G.vc] 200 (0,0))
 now:IsT w G.vn n G.rn g.now
 cr:IsT w G.vc n G.rc g.cr
 apart:∀ k,fpT G.vn n G.rn k→¬fpT G.vc n G.rc k
theorem IsG.lt{w:World}{gp:Nat}{G:Gh}{n:Nat}{g:GV}(h:IsG w gp G n g){k:Nat}(hk:fpG gp G n k):k<w.heap.size:=by
 rcases hk with rfl|hk|hk
 ·exact lt_of_some h.blk
 ·exact h.now.lt hk
 ·exact h.cr.lt hk
theorem IsG.kind{w:World}{gp:Nat}{G:Gh}{n:Nat}{g:GV}(h:IsG w gp G n g){k:Nat}(hk:fpG gp G n k):∃ cur t,w.heap[k]?=some (.cells cur t (0,0))∧(t=200∨t=202∨t=9):=by
 rcases hk with rfl|hk|hk
 ·exact⟨_,_,h.blk,.inl rfl⟩
 ·obtain⟨c,t,e,p⟩:=h.now.kind hk;exact⟨c,t,e,.inr p⟩
 ·obtain⟨c,t,e,p⟩:=h.cr.kind hk;exact⟨c,t,e,.inr p⟩
theorem IsG.keep{w w':World}{gp:Nat}{G:Gh}{n:Nat}{g:GV}(h:IsG w gp G n g)(hk:∀ k,fpG gp G n k→w'.heap[k]?=w.heap[k]?):IsG w' gp G n g :=
 ⟨by rw[hk _ (.inl rfl)];exact h.blk,h.now.keep fun k e=>hk k (.inr (.inl e)),h.cr.keep fun k e=>hk k (.inr (.inr e)),h.apart⟩
theorem IsG.below{w w':World}{gp:Nat}{G:Gh}{n:Nat}{g:GV}(h:IsG w gp G n g)(hb:Below w.heap.size w w'):IsG w' gp G n g:=h.keep fun _ hk=>hb.block _ (h.lt hk)
theorem IsG.beside{S S':Nat→Prop}{w w':World}{gp:Nat}{G:Gh}{n:Nat}{g:GV}(h:IsG w gp G n g)(hm:Moved S w S' w')(hs:∀ k,fpG gp G n k→¬S k):IsG w' gp G n g:=h.keep fun k hk=>hm.block (h.lt hk) (hs k hk)
theorem IsG.rG{w:World}{gp:Nat}{G:Gh}{n:Nat}{g:GV}(h:IsG w gp G n g):¬fpT G.vn n G.rn gp∧¬fpT G.vc n G.rc gp:=by
 have hb:=h.blk
 constructor
 ·intro e
  obtain⟨c,t,e1,p⟩:=h.now.kind e;rw[hb] at e1;cases e1
  rcases p with p|p<;>cases p
 ·intro e
  obtain⟨c,t,e1,p⟩:=h.cr.kind e;rw[hb] at e1;cases e1
  rcases p with p|p<;>cases p
theorem IsG.cells{w:World}{gp:Nat}{G:Gh}{n:Nat}{g:GV}(h:IsG w gp G n g):w.cell? ⟨gp,0,none⟩=some G.vn∧w.cell? ⟨gp,1,none⟩=some G.vc:=by
 refine⟨?_,?_⟩<;>rw[cell_of_row w gp _ _ _ _ h.blk]<;>rfl
theorem IsG.Fz{w w1:World}{gp:Nat}{G:Gh}{n:Nat}{g:GV}(h:IsG w gp G n g){i b cap:Nat}(hi:i<n)(hv:G.vn=.slice (some ⟨b,0,none⟩) n cap)(hk:Kept (fun k=>(G.rn i).ownBlock=some k) w w1){u:Value}{l:Rw}(ho:w1.ownsRow 0 9 1 u l.length (flS l))(hu:∀ k,u.ownBlock=some k→(G.rn i).ownBlock=some k∨w.heap.size≤k) :
  IsG (w1.setCell ⟨b,i,none⟩ u) gp { G with rn:=fF G.rn i u } n { g with now:=iH g.now i l }∧Moved (fpG gp G n) w (fpG gp { G with rn:=fF G.rn i u } n) (w1.setCell ⟨b,i,none⟩ u):=by
 have hbb:G.vn.ownBlock=some b:=by rw[hv];rfl
 have hbl:=h.now.lt (.inl hbb);have hin:∀ k,(G.rn i).ownBlock=some k→fpT G.vn n G.rn k:=fun k e=>.inr ⟨i,hi,e⟩
 have hT:=h.now.set (w1:=w1) (i:=i) hv (hk.block b hbl fun e=>h.now.uJ hi e hbb) (fun j hj hji k e=>hk.block k ((h.now.row j hj).lt k e).2 fun e2=>h.now.inj j i hj hi hji k e e2) ho (fun j hj hji k e e2=>by
  rcases hu k e2 with e3|e3
  ·exact h.now.inj j i hj hi hji k e e3
  ·have:=((h.now.row j hj).lt k e).2;omega)
 have hset:∀ k,k<w.heap.size→¬(G.rn i).ownBlock=some k→k≠b→(w1.setCell ⟨b,i,none⟩ u).heap[k]?=w.heap[k]?:=fun k h1 h2 h3=>by rw[heap_setCell_other _ _ _ _ h3];exact hk.block k h1 h2
 have hfp:∀ k,fpT G.vn n (fF G.rn i u) k→fpT G.vn n G.rn k∨w.heap.size≤k:=fun k e=>by
  rcases e with e|⟨j,hj,e⟩
  ·exact .inl (.inl e)
  ·unfold fF at e
   by_cases ej:j=i
   ·rw[if_pos ej] at e
    rcases hu k e with e2|e2
    ·exact .inl (hin k e2)
    ·exact .inr e2
   ·rw[if_neg ej] at e;exact .inl (.inr ⟨j,hj,e⟩)
 refine⟨⟨?_,hT,?_,fun k e e2=>?_⟩,⟨?_,fun k e=>?_⟩⟩
 ·rw[hset gp (lt_of_some h.blk) (fun e=>h.rG.1 (hin _ e)) (fun e=>h.rG.1 (by rw[e];exact .inl hbb))];exact h.blk
 ·exact h.cr.keep fun k e=>hset k (h.cr.lt e) (fun e2=>h.apart k (hin k e2) e) (fun e2=>h.apart k (by rw[e2];exact .inl hbb) e)
 ·rcases hfp k e with e3|e3
  ·exact h.apart k e3 e2
  ·have:=h.cr.lt e2;omega
 ·refine⟨hk.os,hk.tape,hk.output,by simpa [World.setCell] using hk.size,fun k h1 h2=>hset k h1 (fun e=>h2 (.inr (.inl (hin k e)))) (fun e=>h2 (.inr (.inl (by rw[e];exact .inl hbb))))⟩
 ·rcases e with e|e|e
  ·exact .inl (.inl e)
  ·rcases hfp k e with e2|e2
   ·exact .inl (.inr (.inl e2))
   ·exact .inr e2
  ·exact .inl (.inr (.inr e))
theorem IsG.Q8{w w1:World}{gp:Nat}{G:Gh}{n:Nat}{g:GV}(h:IsG w gp G n g){i b cap:Nat}(hi:i<n)(hv:G.vc=.slice (some ⟨b,0,none⟩) n cap)(hk:Kept (fun k=>(G.rc i).ownBlock=some k) w w1){u:Value}{l:Rw}(ho:w1.ownsRow 0 9 1 u l.length (flS l))(hu:∀ k,u.ownBlock=some k→(G.rc i).ownBlock=some k∨w.heap.size≤k) :
  IsG (w1.setCell ⟨b,i,none⟩ u) gp { G with rc:=fF G.rc i u } n { g with cr:=iH g.cr i l }∧Moved (fpG gp G n) w (fpG gp { G with rc:=fF G.rc i u } n) (w1.setCell ⟨b,i,none⟩ u):=by
 have hbb:G.vc.ownBlock=some b:=by rw[hv];rfl
 have hbl:=h.cr.lt (.inl hbb);have hin:∀ k,(G.rc i).ownBlock=some k→fpT G.vc n G.rc k:=fun k e=>.inr ⟨i,hi,e⟩
 have hT:=h.cr.set (w1:=w1) (i:=i) hv (hk.block b hbl fun e=>h.cr.uJ hi e hbb) (fun j hj hji k e=>hk.block k ((h.cr.row j hj).lt k e).2 fun e2=>h.cr.inj j i hj hi hji k e e2) ho (fun j hj hji k e e2=>by
  rcases hu k e2 with e3|e3
  ·exact h.cr.inj j i hj hi hji k e e3
  ·have:=((h.cr.row j hj).lt k e).2;omega)
 have hset:∀ k,k<w.heap.size→¬(G.rc i).ownBlock=some k→k≠b→(w1.setCell ⟨b,i,none⟩ u).heap[k]?=w.heap[k]?:=fun k h1 h2 h3=>by rw[heap_setCell_other _ _ _ _ h3];exact hk.block k h1 h2
 have hfp:∀ k,fpT G.vc n (fF G.rc i u) k→fpT G.vc n G.rc k∨w.heap.size≤k:=fun k e=>by
  rcases e with e|⟨j,hj,e⟩
  ·exact .inl (.inl e)
  ·unfold fF at e
   by_cases ej:j=i
   ·rw[if_pos ej] at e
    rcases hu k e with e2|e2
    ·exact .inl (hin k e2)
    ·exact .inr e2
   ·rw[if_neg ej] at e;exact .inl (.inr ⟨j,hj,e⟩)
 refine⟨⟨?_,?_,hT,fun k e e2=>?_⟩,⟨?_,fun k e=>?_⟩⟩
 ·rw[hset gp (lt_of_some h.blk) (fun e=>h.rG.2 (hin _ e)) (fun e=>h.rG.2 (by rw[e];exact .inl hbb))];exact h.blk
 ·exact h.now.keep fun k e=>hset k (h.now.lt e) (fun e2=>h.apart k e (hin k e2)) (fun e2=>h.apart k e (by rw[e2];exact .inl hbb))
 ·rcases hfp k e2 with e3|e3
  ·exact h.apart k e e3
  ·have:=h.now.lt e;omega
 ·refine⟨hk.os,hk.tape,hk.output,by simpa [World.setCell] using hk.size,fun k h1 h2=>hset k h1 (fun e=>h2 (.inr (.inr (hin k e)))) (fun e=>h2 (.inr (.inr (by rw[e];exact .inl hbb))))⟩
 ·rcases e with e|e|e
  ·exact .inl (.inl e)
  ·exact .inl (.inr (.inl e))
  ·rcases hfp k e with e2|e2
   ·exact .inl (.inr (.inr e2))
   ·exact .inr e2
theorem one_row(w:World)(s:List UInt8):(w.alloc (.cells #[.string (bytesOf s)] 9)).ownsRow 0 9 1 (.slice (some ⟨w.heap.size,0,none⟩) 1 1) [s].length (flS [s]) :=
 ⟨rfl,.inr ⟨w.heap.size,1, #[.string (bytesOf s)],rfl,Nat.zero_le _,heap_alloc_new w _,Nat.le_refl _,by unfold maxLen;decide,rfl,rfl⟩⟩
theorem IsG.OX{w:World}{gp:Nat}{G:Gh}{n:Nat}{g:GV}(h:IsG w gp G n g){i b cap:Nat}(hi:i<n)(hv:G.vn=.slice (some ⟨b,0,none⟩) n cap)(s:List UInt8) :
  IsG ((w.alloc (.cells #[.string (bytesOf s)] 9)).setCell ⟨b,i,none⟩ (.slice (some ⟨w.heap.size,0,none⟩) 1 1)) gp { G with rn:=fF G.rn i (.slice (some ⟨w.heap.size,0,none⟩) 1 1) } n { g with now:=iH g.now i [s] }∧Moved (fpG gp G n) w (fpG gp { G with rn:=fF G.rn i (.slice (some ⟨w.heap.size,0,none⟩) 1 1) } n) ((w.alloc (.cells #[.string (bytesOf s)] 9)).setCell ⟨b,i,none⟩ (.slice (some ⟨w.heap.size,0,none⟩) 1 1)) :=
 h.Fz hi hv ((Kept.refl _ w).alloc _) (one_row w s) fun k e=>by
  have:w.heap.size=k:=by simpa [Value.ownBlock] using e
  exact .inr (by omega)
end Go.Proofs.YtonhoahnieoebabGreatDoor
namespace Go.Proofs.YtonhoahnieoebabGreatDoor
open Go.RowKit
def DV.ver(d:DV)(i:Nat)(s:List UInt8):Prop:=s=d.fl.getD i []∨∃ x∈d.pend,x.1=i∧x.2=s
theorem L8(l:List (List UInt8))(j i:Nat)(v:List UInt8):((l.set j v).getD i []=v∧j=i)∨(l.set j v).getD i []=l.getD i []:=by
 by_cases h:j=i
 ·subst h
  by_cases hl:j<l.length
  ·left;refine⟨?_,rfl⟩
   rw[List.getD_eq_getElem?_getD,List.getElem?_set_self hl];rfl
  ·right;rw[List.getD_eq_getElem?_getD,List.getD_eq_getElem?_getD,List.getElem?_eq_none (by rw[List.length_set];omega),List.getElem?_eq_none (by omega)]
 ·right;rw[List.getD_eq_getElem?_getD,List.getD_eq_getElem?_getD,List.getElem?_set_ne h]
theorem getD_set_ne(l:List (List UInt8)){j i:Nat}(v:List UInt8)(h:j≠i):(l.set j v).getD i []=l.getD i []:=by
 rw[List.getD_eq_getElem?_getD,List.getD_eq_getElem?_getD,List.getElem?_set_ne h]
theorem Py{p:List (Nat × List UInt8)}{k:Nat}(h:k<p.length):p.getD k (0,[])∈p:=by
 rw[List.getD_eq_getElem?_getD,List.getElem?_eq_getElem h];exact List.getElem_mem _
theorem Tz{d:DV}{l:List (List UInt8)}{k:Nat}(hk:k<d.pend.length)(h:∀ i,d.ver i (l.getD i [])):∀ i,d.ver i ((l.set (d.pend.getD k (0,[])).1 (d.pend.getD k (0,[])).2).getD i []):=by
 intro i;rcases L8 l (d.pend.getD k (0,[])).1 i (d.pend.getD k (0,[])).2 with⟨h1,h2⟩|h1
 ·rw[h1];exact .inr ⟨_,Py hk,h2,rfl⟩
 ·rw[h1];exact h i
theorem TA(d:DV):∀ k,k≤d.pend.length→∀ i,d.ver i ((nZ d.pend d.fl k).getD i []):=by
 intro k
 induction k with
 | zero=>intro _ i;exact .inl rfl
 | succ k ih=>intro hk;exact Tz (by omega) (ih (by omega))
theorem AO{d:DV}(hs:d.sn)(i:Nat):d.ver i (d.seen.getD i []):=by
 rw[show d.seen=nZ d.pend d.fl d.pend.length from hs];exact TA d _ (Nat.le_refl _) i
theorem AA(d:DV):d.iC.fl=d.fl∧d.iC.pend=d.pend∧d.iC.seen=d.seen:=by
 unfold DV.iC;split<;>exact⟨rfl,rfl,rfl⟩
theorem su{d:DV}{j i:Nat}{s t:List UInt8}(h:(d.put j s).ver i t):d.ver i t∨(j=i∧s=t):=by
 unfold DV.put at h;split at h
 ·exact .inl h
 ·obtain⟨e1,e2,_⟩:=AA d
  rcases h with h|⟨x,hx,h1,h2⟩
  ·left;left;rw[h];show d.iC.fl.getD i []=_;rw[e1]
  ·have hx2:x∈d.pend++[(j,s)]:=by rw[← e2];exact hx
   rcases List.mem_append.1 hx2 with h3|h3
   ·exact .inl (.inr ⟨x,h3,h1,h2⟩)
   ·simp only[List.mem_singleton] at h3
    subst h3;exact .inr ⟨h1,h2⟩
theorem nG(d:DV){j i:Nat}(s:List UInt8)(h:j≠i):(d.put j s).seen.getD i []=d.seen.getD i []:=by
 unfold DV.put;split
 ·rfl
 ·show(d.iC.seen.set j s).getD i []=_
  rw[(AA d).2.2,getD_set_ne _ _ h]
theorem qM(d:DV){j:Nat}(s:List UInt8)(h:d.aQ=0)(hj:j<d.seen.length):(d.put j s).seen.getD j []=s:=by
 have hf:d.fail≠0:=by rcases d.pU with⟨_,h1⟩|⟨h1,_⟩;exact h1;omega
 unfold DV.put;rw[if_neg hf];show(d.iC.seen.set j s).getD j []=_
 rw[(AA d).2.2,List.getD_eq_getElem?_getD,List.getElem?_set_self hj];rfl
theorem pW{d:DV}(j:Nat)(s:List UInt8)(h:d.aQ≠0):d.put j s=d.failing (-1):=by
 have hf:d.fail=0:=by rcases d.pU with⟨h1,_⟩|⟨_,h1⟩;exact absurd h1 h;exact h1
 unfold DV.put;rw[if_pos hf]
theorem xA(d:DV)(a:Nat)(s:ByteArray):∀ k i,i<a→(∀ t,(d.puts a s k).1.ver i t→d.ver i t)∧(d.puts a s k).1.seen.getD i []=d.seen.getD i []:=by
 intro k
 induction k with
 | zero=>intro i _;exact⟨fun t h=>h,rfl⟩
 | succ k ih =>
  intro i hi;obtain⟨h1,h2⟩:=ih i hi;by_cases h0:(d.puts a s k).2=0
  ·rw[DV.pY h0]
   refine⟨fun t h=>?_,?_⟩
   ·rcases su h with h3|h3
    ·exact h1 t h3
    ·omega
   ·show((d.puts a s k).1.put (a+k) (chunk s k)).seen.getD i []=_
    rw[nG _ _ (by omega)];exact h2
  ·rw[DV.pX h0 (k+1) (by omega)];exact⟨h1,h2⟩
def Sub(U T:List (Int × Int)):Prop:=T.length=U.length∧∀ c,T.getD c (0,0)=U.getD c (0,0)∨T.getD c (0,0)=(0,0)∨T.getD c (0,0)=(1,0)
theorem Sub.refl(U:List (Int × Int)):Sub U U:=⟨rfl,fun _=>.inl rfl⟩
theorem CO(p:Int):bM 0 0 p=true:=kS (.inr ⟨.inl rfl,rfl⟩)
theorem CP(p:Int):bM 1 0 p=true:=kS (.inr ⟨.inr rfl,rfl⟩)
theorem uo{l:List (Int × Int)}{e:Int × Int}(h:e∈l):∃ i,i<l.length∧l.getD i (0,0)=e:=by
 obtain⟨i,hi,h1⟩:=List.getElem_of_mem h;exact⟨i,hi,by rw[List.getD_eq_getElem?_getD,List.getElem?_eq_getElem hi];exact h1⟩
theorem gI.at{h:HV}{U:List (Int × Int)}(hg:gI h U)(c:Nat):bM (U.getD c (0,0)).1 (U.getD c (0,0)).2 h.p=true:=by
 by_cases hc:c<U.length
 ·exact hg.ents _ (getD_mem hc)
 ·rw[List.getD_eq_getElem?_getD,List.getElem?_eq_none (by omega)];exact CO _
theorem Sub.bM{h:HV}{U T:List (Int × Int)}(hg:gI h U)(hs:Sub U T)(c:Nat):bM (T.getD c (0,0)).1 (T.getD c (0,0)).2 h.p=true:=by
 rcases hs.2 c with e|e|e
 ·rw[e];exact hg.at c
 ·rw[e];exact CO _
 ·rw[e];exact CP _
theorem Sub.data{U T:List (Int × Int)}(hs:Sub U T){c:Nat}(h2:(T.getD c (0,0)).1=2):T.getD c (0,0)=U.getD c (0,0):=by
 rcases hs.2 c with e|e|e
 ·exact e
 ·rw[e] at h2;cases h2
 ·rw[e] at h2;cases h2
theorem Sub.good{h:HV}{U T:List (Int × Int)}(hg:gI h U)(hs:Sub U T):gI h T:=by
 refine⟨fun e he=>?_,fun i j hij hj h2 heq=>?_⟩
 ·obtain⟨i,_,rfl⟩:=uo he
  exact hs.bM hg i
 ·have hjd:=hs.data h2
  have hid:T.getD i (0,0)=U.getD i (0,0):=hs.data (by rw[heq];exact h2)
  exact hg.once i j hij (by rw[← hs.1];exact hj) (by rw[← hjd];exact h2) (by rw[← hid,heq,hjd])
theorem EP{T T':List (Int × Int)}{r:Nat}(hl:T.length=T'.length)(h:∀ i,i<8→T.getD (r*8+i) (0,0)=T'.getD (r*8+i) (0,0)):dG T (r:Int)=dG T' (r:Int):=by
 have e1:qg T (r:Int)=qg T' (r:Int):=by unfold qg;rw[hl]
 have e2:rowOk T ((r:Int)).toNat=rowOk T' ((r:Int)).toNat:=by
  unfold rowOk;rw[Bool.eq_iff_iff,List.all_eq_true,List.all_eq_true]
  constructor
  ·intro g i hi
   have:=g i hi
   rw[show((r:Int)).toNat=r by omega] at this ⊢
   rw[← h i (List.mem_range.1 hi)];exact this
  ·intro g i hi
   have:=g i hi
   rw[show((r:Int)).toNat=r by omega] at this ⊢
   rw[h i (List.mem_range.1 hi)];exact this
 have e3:dP T ((r:Int)).toNat 8=dP T' ((r:Int)).toNat 8:=by
  unfold dP;apply List.map_congr_left
  intro j hj;have hj':=List.mem_range.1 hj;rw[show((r:Int)).toNat=r by omega,h (j / 2) (by omega)]
 unfold dG jM;rw[e1,e2,e3]
theorem uK{h:HV}{T:List (Int × Int)}(hk:h.ok=true)(hl:(T.length:Int)=h.c)(he:∀ c,bM (T.getD c (0,0)).1 (T.getD c (0,0)).2 h.p=true){r:Nat}(hr:r<aA T.length){i:Nat}(hi:i<8) :
  jw (dG T (r:Int)) i=T.getD (r*8+i) (0,0):=by
 have hrow:=uM hk hl (fun e hm=>by obtain⟨j,_,rfl⟩:=uo hm;exact he j) r hr
 have hb:=HV.fE hk;have hv:=iK (he (r*8+i));have e1:dG T (r:Int)=strOfNums (dP T r 8):=by unfold dG;rw[if_pos hrow.1];rfl
 have key:∀ j,j<16→0≤(dP T r 8).getD j 0∧(dP T r 8).getD j 0<256→bAt (strOfNums (dP T r 8)) j=(dP T r 8).getD j 0:=by
  intro j hj hbd;have hjl:j<(dP T r 8).length:=by rw[xI];exact hj
  have e2:(strOfNums (dP T r 8)).data.toList=(dP T r 8).map fun n=>UInt8.ofNat n.toNat:=by unfold strOfNums;simp
  unfold bAt;have g:(dP T r 8).getD j 0=(dP T r 8)[j]:=by rw[List.getD_eq_getElem?_getD,List.getElem?_eq_getElem hjl];rfl
  rw[g] at hbd ⊢;rw[e2,List.getD_eq_getElem?_getD,List.getElem?_map,List.getElem?_eq_getElem hjl];simp only[Option.map_some,Option.getD_some,UInt8.toNat_ofNat'];omega
 have g0:(dP T r 8).getD (i*2) 0=(T.getD (r*8+i) (0,0)).1:=by
  have a1:i*2 / 2=i:=by omega
  have a3:i*2<16:=by omega
  simp[dP,List.getD_eq_getElem?_getD,a3,a1,hi]
 have g1:(dP T r 8).getD (i*2+1) 0=(T.getD (r*8+i) (0,0)).2:=by
  have a1:(i*2+1) / 2=i:=by omega
  have a3:i*2+1<16:=by omega
  have a4:(i*2+1) % 2=1:=by omega
  simp[dP,List.getD_eq_getElem?_getD,a3,a1,hi,a4]
 unfold jw;rw[e1,key (i*2) (by omega) (by rw[g0];omega),key (i*2+1) (by omega) (by rw[g1];omega),g0,g1]
structure Safe(v:IV)(U:List (Int × Int)):Prop where
 good:gI v.h U
 sub:Sub U v.t
 head:∀ s,v.d.ver 0 s→s=(aU v.h.bytes).data.toList
 rows:∀ r,r<aA v.t.length→∀ s,v.d.ver (1+r) s→∃ T,Sub U T∧s=(dG T (r:Int)).data.toList
 seen:∀ r,r<aA v.t.length→v.d.seen.getD (1+r) []=(dG v.t (r:Int)).data.toList
def jS(n:Nat)(T:Nat→List (Int × Int)):List (Int × Int):=(List.range n).map fun c=>(T (c / 8)).getD c (0,0)
theorem nS(n:Nat)(T:Nat→List (Int × Int)):(jS n T).length=n:=by simp[jS]
theorem zF{n:Nat}{T:Nat→List (Int × Int)}{c:Nat}(h:c<n):(jS n T).getD c (0,0)=(T (c / 8)).getD c (0,0):=by
 simp[jS,List.getD_eq_getElem?_getD,h]
theorem Ee{U:List (Int × Int)}{T:Nat→List (Int × Int)}(h:∀ r,r<aA U.length→Sub U (T r)):Sub U (jS U.length T):=by
 refine⟨nS _ _,fun c=>?_⟩
 by_cases hc:c<U.length
 ·rw[zF hc];exact(h (c / 8) (kV hc)).2 c
 ·right;left
  rw[List.getD_eq_getElem?_getD,List.getElem?_eq_none (by rw[nS];omega)];rfl
theorem SQ{l:List (Int × Int)}{c:Nat}(h:c<l.length):l.take (c+1)=l.take c++[l.getD c (0,0)]:=by
 rw[List.take_add_one,List.getD_eq_getElem?_getD,List.getElem?_eq_getElem h];rfl
theorem Og{h:HV}{U:List (Int × Int)}{T:Nat→List (Int × Int)}{rs:List ByteArray}(hk:h.ok=true)(hl:(U.length:Int)=h.c)(hg:gI h U)(hT:∀ r,r<aA U.length→Sub U (T r))
  (hrl:rs.length=aA U.length) (hr:∀ r,r<aA U.length→rs.getD r ByteArray.empty=dG (T r) (r:Int)) :
  iP h rs=0∧fG h rs=jS U.length T:=by
 have hsub:=Ee hT;have hmg:=hsub.good hg;have hnl:h.c.toNat=U.length:=by omega
 have key:∀ j,j≤aA U.length→dI h rs j=((jS U.length T).take (8*j),0):=by
  intro j
  induction j with
  | zero=>intro _;rfl
  | succ j ih =>
   intro hj;have ej:=ih (by omega)
   have hjr:j<aA U.length:=by omega
   have hTl:((T j).length:Int)=h.c:=by rw[(hT j hjr).1];exact hl
   have hTe:=fun c=>(hT j hjr).bM hg c
   have hrow:∀ i,i≤8→iG h ((jS U.length T).take (8*j)) (dG (T j) (j:Int)) i=some ((jS U.length T).take (8*j+i)):=by
    intro i
    induction i with
    | zero=>intro _;rfl
    | succ i ihi =>
     intro hi;rw[xH (ihi (by omega)),uK hk hTl hTe (by rw[(hT j hjr).1];exact hjr) (by omega)]
     by_cases hc:8*j+i<U.length
     ·have hc8:(8*j+i) / 8=j:=by omega
      have e1:(T j).getD (j*8+i) (0,0)=(jS U.length T).getD (8*j+i) (0,0):=by
       rw[zF hc,hc8,show j*8+i=8*j+i by omega]
      have hlen:((jS U.length T).take (8*j+i)).length=8*j+i:=by rw[List.length_take,nS];omega
      unfold stepT;rw[hlen,if_neg (by omega),e1,if_pos]
      ·rw[show 8*j+(i+1)=8*j+i+1 by omega,SQ (by rw[nS];exact hc)]
      ·refine⟨hsub.bM hg _,fun ⟨h2,hm⟩=>?_⟩
       obtain⟨c2,hc2,he2⟩:=uo hm;rw[hlen] at hc2
       have he3:((jS U.length T).take (8*j+i)).getD c2 (0,0)=(jS U.length T).getD c2 (0,0):=by
        rw[List.getD_eq_getElem?_getD,List.getD_eq_getElem?_getD,List.getElem?_take_of_lt hc2]
       exact hmg.once c2 (8*j+i) hc2 (by rw[nS];exact hc) h2 (by rw[← he3];exact he2)
     ·have e1:(T j).getD (j*8+i) (0,0)=(0,0):=by
       rw[List.getD_eq_getElem?_getD,List.getElem?_eq_none (by rw[(hT j hjr).1];omega)];rfl
      have hta:∀ k,U.length≤k→(jS U.length T).take k=jS U.length T:=fun k hk2=>List.take_of_length_le (by rw[nS];exact hk2)
      unfold stepT;rw[hta _ (by omega),hta _ (by omega),nS,if_pos hl,e1,if_pos rfl]
   have hsz:(rs.getD j ByteArray.empty).size=16:=by
    rw[hr j hjr];exact(uM hk hTl (fun e hm=>by obtain⟨i,_,rfl⟩:=uo hm;exact hTe i) j (by rw[(hT j hjr).1];exact hjr)).2
   have:=Au (h:=h) (rows:=rs) (j:=j) (a:=(jS U.length T).take (8*j+8)) (by rw[ej]) hsz (by rw[ej,hr j hjr];exact hrow 8 (Nat.le_refl _))
   rw[this,show 8*(j+1)=8*j+8 by omega]
 have hin:lY h rs=true:=by unfold lY;rw[hk,hnl];simp[hrl]
 have hend:=key (aA U.length) (Nat.le_refl _);refine⟨?_,?_⟩
 ·unfold iP;rw[if_pos hin,hrl,hend]
 ·unfold fG;rw[if_pos hin,hrl,hend]
  exact List.take_of_length_le (by rw[nS];unfold aA;omega)
theorem Safe.opens{v:IV}{U:List (Int × Int)}{m:Nat}(hs:Safe v U)(hok:v.ok m){d:DV}(hl:d.fl.length=v.d.fl.length)(hv:∀ i,v.d.ver i (d.seen.getD i [])) :
  fO d=0∧bU d=v.h∧Sub U (jB d).t∧∀ r,r<aA v.t.length→d.seen.getD (1+r) []=(dG (jB d).t (r:Int)).data.toList:=by
 have hlen:v.t.length=U.length:=hs.sub.1;have hUl:(U.length:Int)=v.h.c:=by rw[← hlen];exact hok.len
 have hex:∀ r,∃ T,r<aA U.length→Sub U T∧d.seen.getD (1+r) []=(dG T (r:Int)).data.toList:=fun r=>by
  by_cases hr:r<aA U.length
  ·obtain⟨T,h1,h2⟩:=hs.rows r (by rw[hlen];exact hr) _ (hv (1+r))
   exact⟨T,fun _=>⟨h1,h2⟩⟩
  ·exact⟨[],fun h=>absurd h hr⟩
 have hch:∃ T:Nat→List (Int × Int),∀ r,r<aA U.length→Sub U (T r)∧d.seen.getD (1+r) []=(dG (T r) (r:Int)).data.toList:=⟨fun r=>Classical.choose (hex r),fun r=>Classical.choose_spec (hex r)⟩
 obtain⟨T,hT⟩:=hch;have h0:bytesOf (d.seen.getD 0 [])=aU v.h.bytes:=by rw[hs.head _ (hv 0),qB]
 obtain⟨g1,g2⟩:=MH v.h hok.h;have hH:bU d=v.h:=by unfold bU;rw[h0];exact g1
 have hnl:v.h.c.toNat=U.length:=by omega
 have hrs:(jA d).length=aA U.length:=by unfold jA;rw[List.length_map,List.length_range,hH,hnl]
 have hrr:∀ r,r<aA U.length→(jA d).getD r ByteArray.empty=dG (T r) (r:Int):=fun r hr=>by
  unfold jA;rw[hH,hnl,List.getD_eq_getElem?_getD,List.getElem?_map,List.getElem?_range hr];show nT d r=_
  unfold nT;rw[(hT r hr).2,qB]
 obtain⟨k1,k2⟩:=Og hok.h hUl hs.good (fun r hr=>(hT r hr).1) hrs hrr
 have hsub:=Ee (fun r hr=>(hT r hr).1)
 have ht:(jB d).t=jS U.length T:=by show fG (bU d) (jA d)=_;rw[hH];exact k2
 refine⟨?_,hH,by rw[ht];exact hsub,fun r hr=>?_⟩
 ·unfold fO
  rw[h0,if_pos g2,hH,if_neg (by have:=hok.need;omega)]
  exact k1
 ·have hr2:r<aA U.length:=by rw[← hlen];exact hr
  rw[(hT r hr2).2,ht]
  congr 2
  refine EP (by rw[(hT r hr2).1.1,nS]) fun i hi=>?_
  by_cases hc:r*8+i<U.length
  ·rw[zF hc,show(r*8+i) / 8=r by omega]
  ·rw[List.getD_eq_getElem?_getD,List.getD_eq_getElem?_getD,List.getElem?_eq_none (by rw[(hT r hr2).1.1];omega),List.getElem?_eq_none (by rw[nS];omega)]
theorem Safe.low{v:IV}{U:List (Int × Int)}(hs:Safe v U){d:DV}(h1:∀ i,i<1+aA v.t.length→∀ t,d.ver i t→v.d.ver i t)(h2:∀ i,i<1+aA v.t.length→d.seen.getD i []=v.d.seen.getD i [])(held:List Nat):Safe ⟨d,v.h,v.t,held⟩ U :=
 ⟨hs.good,hs.sub,fun s h=>hs.head s (h1 0 (by omega) s h),fun r hr s h=>hs.rows r hr s (h1 (1+r) (by have:r<aA v.t.length:=hr;omega) s h),fun r hr=>by
  show d.seen.getD (1+r) []=_
  rw[h2 (1+r) (by have:r<aA v.t.length:=hr;omega)];exact hs.seen r hr⟩
theorem Safe.flush{v:IV}{U:List (Int × Int)}(hs:Safe v U)(hsn:v.d.sn):Safe v.flush v.t:=by
 have hone:∀ i s,v.d.flushed.ver i s→s=v.d.seen.getD i []:=fun i s h=>by
  rcases h with h|⟨x,hx,_⟩
  ·exact h
  ·cases hx
 refine⟨hs.sub.good hs.good,Sub.refl _,fun s h=>?_,fun r hr s h=>⟨v.t,Sub.refl _,?_⟩,hs.seen⟩
 ·rw[hone 0 s h];exact hs.head _ (AO hsn 0)
 ·rw[hone _ s h];exact hs.seen r hr
theorem Safe.set{v:IV}{U:List (Int × Int)}{m:Nat}(hs:Safe v U)(hok:v.ok m){c:Nat}(hc:c<v.t.length){e:Int × Int}(he:e=U.getD c (0,0)∨e=(0,0)∨e=(1,0)):Safe (v.set c e) U:=by
 have hb:=(kM hok.h hok.need).1;have hnl:v.h.c.toNat=v.t.length:=by have:=hok.len;omega
 rw[hnl] at hb;have hcr:=kV hc
 have gs:∀ k,(v.t.set c e).getD k (0,0)=(if c=k then e else v.t.getD k (0,0)):=fun k=>by
  rw[List.getD_eq_getElem?_getD,List.getD_eq_getElem?_getD];by_cases h:c=k
  ·subst h;rw[List.getElem?_set_self hc,if_pos rfl];rfl
  ·rw[List.getElem?_set_ne h,if_neg h]
 have hsub:Sub U (v.t.set c e):=⟨by rw[List.length_set];exact hs.sub.1,fun k=>by
  rw[gs k];split
  ·next h=>subst h;exact he
  ·exact hs.sub.2 k⟩
 unfold IV.set;by_cases h0:v.d.aQ=0
 ·rw[if_pos h0]
  refine⟨hs.good,hsub,fun s h=>?_,fun r hr s h=>?_,fun r hr=>?_⟩
  ·rcases su h with h1|⟨h1,_⟩
   ·exact hs.head s h1
   ·omega
  ·have hr2:r<aA v.t.length:=by have:r<aA (v.t.set c e).length:=hr;rw[List.length_set] at this;exact this
   rcases su h with h1|⟨h1,h2⟩
   ·exact hs.rows r hr2 s h1
   ·have:r=c / 8:=by omega
    subst this;exact⟨_,hsub,h2.symm⟩
  ·have hr2:r<aA v.t.length:=by have:r<aA (v.t.set c e).length:=hr;rw[List.length_set] at this;exact this
   show(v.dO c e).seen.getD (1+r) []=(dG (v.t.set c e) (r:Int)).data.toList
   unfold IV.dO;by_cases hrc:r=c / 8
   ·subst hrc
    exact qM _ _ h0 (by have:=hok.d.ok.same;omega)
   ·rw[nG _ _ (by omega),hs.seen r hr2]
    congr 2
    refine EP (by rw[List.length_set]) fun i hi=>?_
    rw[gs,if_neg (by omega)]
 ·rw[if_neg h0]
  unfold IV.dO;rw[pW _ _ h0];exact hs.low (d:=v.d.failing (-1)) (fun i _ t h=>h) (fun i _=>rfl) _
theorem qX{v:IV}{m:Nat}(hok:v.ok m)(q:Nat):1+aA v.t.length≤aI v.h q:=by
 have:v.h.c.toNat=v.t.length:=by have:=hok.len;omega
 unfold aI;rw[this];omega
theorem Safe.puts{v:IV}{U:List (Int × Int)}(hs:Safe v U){a:Nat}(ha:1+aA v.t.length≤a)(s:ByteArray)(k:Nat):Safe { v with d:=(v.d.puts a s k).1 } U :=
 hs.low (fun i hi t h=>(xA v.d a s k i (by omega)).1 t h) (fun i hi=>(xA v.d a s k i (by omega)).2) _
theorem Safe.write{v:IV}{U:List (Int × Int)}{m:Nat}(hs:Safe v U)(hok:v.ok m)(c fr:Int)(s:ByteArray):Safe (v.write c fr s) U:=by
 unfold IV.write;split
 ·unfold IV.qP
  exact hs.puts (by have:=qX hok (v.ent c).2.toNat;omega) s _
 ·exact hs
theorem Safe.clear{v:IV}{U:List (Int × Int)}{m:Nat}(hs:Safe v U)(hok:v.ok m)(c:Int):Safe (v.clear c) U:=by
 unfold IV.clear;split
 ·next h =>
  obtain⟨h1,h2⟩:=IV.kH h.1;exact hs.set hok (by omega) (.inr (.inr rfl))
 ·exact hs
theorem Safe.fail{v:IV}{U:List (Int × Int)}(hs:Safe v U)(n:Int):Safe { v with d:=v.d.failing n } U :=
 hs.low (d:=v.d.failing n) (fun _ _ _ h=>h) (fun _ _=>rfl) _
theorem Safe.fill{v:IV}{U:List (Int × Int)}{m:Nat}(hs:Safe v U)(hok:v.ok m)(hm:m+10≤1000000000)(c:Int)(s:ByteArray):∃ U',Safe (v.fill c s) U':=by
  unfold IV.fill;split
  · next h1 =>
    split
    · exact⟨U,hs⟩
    · next h2 =>
      cases hq:v.fD with
      | nil=>exact⟨U,hs⟩
      | cons q tl =>
        have hs2:Safe { v with d:=(v.dV q s).1 } U:=by
          unfold IV.dV;exact hs.puts (by have:=qX hok q;omega) s 4
        show ∃ U',Safe (if (v.dV q s).2=0 then (v.fZ q s).set c.toNat (2,(q:Int)) else { v with d:=(v.dV q s).1 }) U'
        by_cases h0:(v.dV q s).2=0
        · rw[if_pos h0]
          have hqm:q∈v.fD:=by rw[hq];exact List.mem_cons_self
          have hfd:=hok.dV hqm h1.2 hm;have hs3:Safe (v.fZ q s) v.t:=hs2.flush hfd.sn;obtain⟨t0,t1⟩:=IV.kH h1.1;have hc:c.toNat<v.t.length:=by omega
          have hcd:v.t.getD c.toNat (0,0)=(0,0)∨v.t.getD c.toNat (0,0)=(1,0):=by
            have hb:=iK (hok.ent h1.1);unfold IV.ent at hb h2;generalize v.t.getD c.toNat (0,0)=y at hb h2 ⊢;obtain⟨y0,y1⟩:=y;simp only at hb h2;rcases hb with hb|⟨hb|hb,hb2⟩
            · exact absurd hb.1 h2
            · left;rw[hb,hb2]
            · right;rw[hb,hb2]
          have hop:=(IV.pz hqm).2;unfold IV.lX IV.vk at hop;simp only[Bool.and_eq_true,Bool.not_eq_true',List.any_eq_false,decide_eq_true_eq] at hop
          have gs:∀ k,(v.t.set c.toNat (2,(q:Int))).getD k (0,0)=(if c.toNat=k then (2,(q:Int)) else v.t.getD k (0,0)):=fun k=>by
            rw[List.getD_eq_getElem?_getD,List.getD_eq_getElem?_getD];by_cases h:c.toNat=k
            · subst h;rw[List.getElem?_set_self hc,if_pos rfl];rfl
            · rw[List.getElem?_set_ne h,if_neg h]
          have hgood:gI v.h (v.t.set c.toNat (2,(q:Int))):=by
            refine⟨wF hs3.good.ents _ _ (wQ hok hqm),fun i j hij hj hd heq=>?_⟩
            rw[List.length_set] at hj;rw[gs j] at hd heq;rw[gs i] at heq;by_cases hi2:c.toNat=i
            · rw[if_pos hi2,if_neg (by omega)] at heq
              exact hop.1 _ (getD_mem hj) heq.symm
            · rw[if_neg hi2] at heq
              by_cases hj2:c.toNat=j
              · rw[if_pos hj2] at heq
                exact hop.1 _ (getD_mem (by omega)) heq
              · rw[if_neg hj2] at heq hd
                exact hs3.good.once i j hij hj hd heq
          have hsub:Sub (v.t.set c.toNat (2,(q:Int))) v.t:=⟨by rw[List.length_set],fun k=>by
            rw[gs k];by_cases h:c.toNat=k
            · subst h;exact .inr hcd
            · rw[if_neg h];exact .inl rfl⟩
          have hone:∀ i x,(v.fZ q s).d.ver i x→x=(v.fZ q s).d.seen.getD i []:=fun i x h=>by
            rcases h with h|⟨x,hx,_⟩
            · exact h
            · cases hx
          have hs4:Safe (v.fZ q s) (v.t.set c.toNat (2,(q:Int))):=⟨hgood,hsub,hs3.head,fun r hr x h=>⟨v.t,hsub,by rw[hone _ x h];exact hs3.seen r hr⟩,hs3.seen⟩
          exact⟨_,hs4.set (hok.fZ hqm h1.2 hm) (c:=c.toNat) hc (.inl (by rw[gs,if_pos rfl]))⟩
        · rw[if_neg h0];exact⟨U,hs2⟩
  · exact⟨U,hs⟩
theorem EW{v:IV}{m:Nat}(hok:v.ok m)(hg:gI v.h v.t)(hse:∀ r,r<aA v.t.length→v.d.seen.getD (1+r) []=(dG v.t (r:Int)).data.toList){h:HV}(hp:h.p=v.h.p)(h0:v.flush.d.aQ=0):Safe (v.gJ h) v.t:=by
 unfold IV.gJ;rw[if_pos h0];have hb:=(kM hok.h hok.need).1;have hsm:=hok.d.ok.same
 have hone:∀ i x,(v.flush.d.put 0 (aU h.bytes).data.toList).flushed.ver i x→x=(v.flush.d.put 0 (aU h.bytes).data.toList).seen.getD i []:=fun i x hx=>by
  rcases hx with hx|⟨y,hy,_⟩
  ·exact hx
  ·cases hy
 have hrow:∀ r,r<aA v.t.length→(v.flush.d.put 0 (aU h.bytes).data.toList).seen.getD (1+r) []=(dG v.t (r:Int)).data.toList:=fun r hr=>by
  rw[nG _ _ (by omega)];exact hse r hr
 refine⟨⟨fun e he=>?_,hg.once⟩,Sub.refl _,fun s hs=>?_,fun r hr s hs=>⟨v.t,Sub.refl _,?_⟩,hrow⟩
 ·show bM e.1 e.2 h.p=true
  rw[hp];exact hg.ents e he
 ·rw[hone 0 s hs,qM _ _ h0 (by show 0<v.d.seen.length;omega)]
 ·rw[hone _ s hs];exact hrow r hr
theorem Safe.link{v:IV}{U:List (Int × Int)}{m:Nat}(hs:Safe v U)(hok:v.ok m)(b:Int):∃ U',Safe (v.link b) U':=by
 unfold IV.link;split
 ·by_cases h0:v.flush.d.aQ=0
  ·exact⟨_,EW hok (hs.sub.good hs.good) hs.seen rfl h0⟩
  ·refine⟨v.t,?_⟩
   unfold IV.gJ;rw[if_neg h0,pW _ _ h0];exact(hs.flush hok.d.sn).low (d:=v.flush.d.failing (-1)) (fun i _ t h=>h) (fun i _=>rfl) _
 ·exact⟨U,hs⟩
theorem QG{d:DV}{t:List (Int × Int)}(hl:∀ k,k≤aA t.length→(d.dQ t k).1.seen.length=d.seen.length)(hn:aA t.length<d.seen.length):∀ k,k≤aA t.length→(d.dQ t k).2=0→∀ r,r<k→(d.dQ t k).1.seen.getD (1+r) []=(dG t (r:Int)).data.toList:=by
 intro k
 induction k with
 | zero=>intro _ _ r hr;omega
 | succ k ih =>
  intro hk h0 r hr;by_cases e0:(d.dQ t k).2=0
  ·rw[DV.uN e0] at h0 ⊢
   show((d.dQ t k).1.put (1+k) (dG t (k:Int)).data.toList).seen.getD (1+r) []=_
   by_cases hrk:r=k
   ·subst hrk
    exact qM _ _ h0 (by rw[hl r (by omega)];omega)
   ·rw[nG _ _ (by omega)]
    exact ih (by omega) e0 r (by omega)
  ·rw[DV.Ae e0 (k+1) (by omega)] at h0
   exact absurd h0 e0
theorem yO{d:DV}{m:Nat}{h:HV}(hd:d.fine d.fl.length m)(hk:h.ok=true)(hn:aJ h≤d.fl.length)(hm:m+20<1000000000)(hf:crF d h=0):Safe (crV d h) (crT h):=by
 unfold crF at hf;rw[if_pos hk,if_neg (by omega)] at hf
 by_cases h0:(crD d h).2=0
 ·rw[if_pos h0] at hf
  have hok:=yN hd hk hn (by omega)
  have hcl:=vY h hk;have hrl:aA (crT h).length=aA h.c.toNat:=by unfold crT;rw[List.length_replicate]
  have hb:=(kM hk hn).1;refine EW (v:=lM d h) hok ⟨yM h,fun i j hij hj h2=>?_⟩ (fun r hr=>?_) rfl hf
  ·have:(lM d h).t.getD j (0,0)=(0,0):=by
    show(List.replicate h.c.toNat ((0:Int),(0:Int))).getD j (0,0)=_
    rw[List.getD_eq_getElem?_getD];by_cases hj2:j<h.c.toNat
    ·rw[List.getElem?_replicate,if_pos hj2];rfl
    ·rw[List.getElem?_replicate,if_neg hj2];rfl
   rw[this] at h2;cases h2
  ·have hsl:∀ k,k≤aA (crT h).length→(d.dQ (crT h) k).1.seen.length=d.seen.length:=fun k hk2=>by
    have hx:=vX hd hk hn (by omega) k (by rw[← hrl];exact hk2)
    rw[hx.ok.same,hx.len,hd.ok.same]
   have:=QG hsl (by rw[hrl,hd.ok.same];omega) (aA (crT h).length) (Nat.le_refl _) (by rw[hrl];exact h0) r hr
   rw[hrl] at this;exact this
 ·rw[if_neg h0] at hf;exact absurd hf h0
end Go.Proofs.YtonhoahnieoebabGreatDoor
