/- A guest in memory: two tables of rows of texts, what each sector may be now and behind a crash; how a row is set. -/
import Derived.Test.YtonhoahnieoebabGreatDoorQImgOpen
namespace Go.Proofs.YtonhoahnieoebabGreatDoor
open Go.RowKit Go.Maps
abbrev Rw:=List (List UInt8)
def eu(vs:Nat→Value)(k:Nat)(v:Value):Nat→Value:=fun j=>if j=k then v else vs j
def gJ(rows:Nat→Rw)(k:Nat)(l:Rw):Nat→Rw:=fun j=>if j=k then l else rows j
structure IsT(w:World)(v:Value)(n:Nat)(vs:Nat→Value)(rows:Nat→Rw):Prop where
 own:w.ownsRow 0 202 1 v n ((List.range n).map vs)
 row:∀ k,k<n→w.ownsRow 0 9 1 (vs k) (rows k).length (flS (rows k))
 inj:∀ i j,i<n→j<n→i≠j→∀ b,(vs i).ownBlock=some b→(vs j).ownBlock≠some b
def fpT(v:Value)(n:Nat)(vs:Nat→Value)(k:Nat):Prop:=v.ownBlock=some k∨∃ i,i<n∧(vs i).ownBlock=some k
theorem IsT.lt{w:World}{v:Value}{n:Nat}{vs:Nat→Value}{rows:Nat→Rw}(h:IsT w v n vs rows){k:Nat}(hk:fpT v n vs k):k<w.heap.size:=by
 rcases hk with hk|⟨i,hi,hk⟩
 ·exact(h.own.lt k hk).2
 ·exact((h.row i hi).lt k hk).2
theorem IsT.keep{w w':World}{v:Value}{n:Nat}{vs:Nat→Value}{rows:Nat→Rw}(h:IsT w v n vs rows)(hk:∀ k,fpT v n vs k→w'.heap[k]?=w.heap[k]?):IsT w' v n vs rows :=
 ⟨dB h.own fun k e=>hk k (.inl e),fun i hi=>dB (h.row i hi) fun k e=>hk k (.inr ⟨i,hi,e⟩),h.inj⟩
theorem IsT.kind{w:World}{v:Value}{n:Nat}{vs:Nat→Value}{rows:Nat→Rw}(h:IsT w v n vs rows){k:Nat}(hk:fpT v n vs k):∃ cur t,w.heap[k]?=some (.cells cur t (0,0))∧(t=202∨t=9):=by
 rcases hk with hk|⟨i,hi,hk⟩
 ·obtain⟨c,e⟩:=ownsRow_kind h.own k hk;exact⟨c,_,e,.inl rfl⟩
 ·obtain⟨c,e⟩:=ownsRow_kind (h.row i hi) k hk;exact⟨c,_,e,.inr rfl⟩
theorem IsT.vk{w:World}{v:Value}{n:Nat}{vs:Nat→Value}{rows:Nat→Rw}(h:IsT w v n vs rows){i b:Nat}(hi:i<n)(hb:(vs i).ownBlock=some b):v.ownBlock≠some b:=fun e=>by
 obtain⟨c,e1⟩:=ownsRow_kind h.own b e
 obtain⟨c2,e2⟩:=ownsRow_kind (h.row i hi) b hb
 rw[e1] at e2;cases e2
theorem IsT.cell{w:World}{v:Value}{n:Nat}{vs:Nat→Value}{rows:Nat→Rw}(h:IsT w v n vs rows){k:Nat}(hk:k<n):∃ g cap,v=.slice (some ⟨g,0,none⟩) n cap∧w.cell? ⟨g,k,none⟩=some (vs k)∧w.frozen? ⟨g,k,none⟩=false:=by
 obtain⟨g,cap,h1,h2,_,h4⟩:=qm h.own k hk
 refine⟨g,cap,h1,?_,h4⟩
 rw[h2,List.getElem?_map,List.getElem?_range hk];rfl
theorem map_set(vs:Nat→Value)(n i:Nat)(u:Value):(List.range n).map (eu vs i u)=((List.range n).map vs).set i u:=by
 refine List.ext_getElem? fun k=>?_
 rw[List.getElem?_map,List.getElem?_set,List.getElem?_map,List.length_map,List.length_range]
 unfold eu
 by_cases hk:k<n
 ·rw[List.getElem?_range hk]
  by_cases e:i=k
  ·subst e;simp[hk]
  ·simp[e,Ne.symm e]
 ·rw[List.getElem?_eq_none (by simp;omega)]
  by_cases e:i=k
  ·subst e;simp[hk]
  ·simp[e]
theorem IsT.set{w w1:World}{v:Value}{n:Nat}{vs:Nat→Value}{rows:Nat→Rw}(h:IsT w v n vs rows){i g cap:Nat}(hv:v=.slice (some ⟨g,0,none⟩) n cap)(hg:w1.heap[g]?=w.heap[g]?)(hr:∀ j,j<n→j≠i→∀ b,(vs j).ownBlock=some b→w1.heap[b]?=w.heap[b]?)
  {u:Value} {l:Rw} (ho:w1.ownsRow 0 9 1 u l.length (flS l)) (hu:∀ j,j<n→j≠i→∀ b,(vs j).ownBlock=some b→u.ownBlock≠some b) :
  IsT (w1.setCell ⟨g,i,none⟩ u) v n (eu vs i u) (gJ rows i l):=by
 subst hv
 have hown:w1.ownsRow 0 202 1 (.slice (some ⟨g,0,none⟩) n cap) n ((List.range n).map vs):=dB h.own fun k e=>by
  have:g=k:=by simpa [Value.ownBlock] using e
  subst this;exact hg
 obtain⟨cg,hgk⟩:=ownsRow_kind hown g rfl
 have hne:∀ b c,w1.heap[b]?=some (.cells c 9 (0,0))→b≠g:=fun b c e e2=>by rw[e2,hgk] at e;cases e
 refine⟨?_,fun k hk=>?_,fun a b ha hb hab c e=>?_⟩
 ·rw[map_set];exact(hown.stored i u).1
 ·unfold eu gJ
  by_cases e:k=i
  ·rw[if_pos e,if_pos e]
   refine dB ho fun b hb=>?_
   obtain⟨c2,hc2⟩:=ownsRow_kind ho b hb
   exact heap_setCell_other _ _ _ _ (hne b c2 hc2)
  ·rw[if_neg e,if_neg e]
   have hrow:=dB (w':=w1) (h.row k hk) fun b hb=>hr k hk e b hb
   refine dB hrow fun b hb=>?_
   obtain⟨c2,hc2⟩:=ownsRow_kind hrow b hb
   exact heap_setCell_other _ _ _ _ (hne b c2 hc2)
 ·unfold eu at e ⊢
  by_cases ea:a=i
  ·have eb:b≠i:=fun e=>hab (by rw[ea,e])
   rw[if_pos ea] at e
   rw[if_neg eb]
   exact fun e2=>hu b hb eb c e2 e
  ·rw[if_neg ea] at e
   by_cases eb:b=i
   ·rw[if_pos eb];exact hu a ha ea c e
   ·rw[if_neg eb];exact h.inj a b ha hb hab c e
structure Gh where
 vn:Value
 vc:Value
 rn:Nat→Value
 rc:Nat→Value
structure GV where
 now:Nat→Rw
 cr:Nat→Rw
def fpG(gp:Nat)(G:Gh)(n:Nat)(k:Nat):Prop:=k=gp∨fpT G.vn n G.rn k∨fpT G.vc n G.rc k
structure IsG(w:World)(gp:Nat)(G:Gh)(n:Nat)(g:GV):Prop where
 blk:w.heap[gp]?=some (.cells #[G.vn,G.vc] 200 (0,0))
 now:IsT w G.vn n G.rn g.now
 cr:IsT w G.vc n G.rc g.cr
 apart:∀ k,fpT G.vn n G.rn k→¬fpT G.vc n G.rc k
theorem IsG.lt{w:World}{gp:Nat}{G:Gh}{n:Nat}{g:GV}(h:IsG w gp G n g){k:Nat}(hk:fpG gp G n k):k<w.heap.size:=by
 rcases hk with rfl|hk|hk
 ·exact lt_of_some h.blk
 ·exact h.now.lt hk
 ·exact h.cr.lt hk
theorem IsG.kind{w:World}{gp:Nat}{G:Gh}{n:Nat}{g:GV}(h:IsG w gp G n g){k:Nat}(hk:fpG gp G n k):∃ cur t,w.heap[k]?=some (.cells cur t (0,0))∧(t=200∨t=202∨t=9):=by
 rcases hk with rfl|hk|hk
 ·exact⟨_,_,h.blk,.inl rfl⟩
 ·obtain⟨c,t,e,p⟩:=h.now.kind hk;exact⟨c,t,e,.inr p⟩
 ·obtain⟨c,t,e,p⟩:=h.cr.kind hk;exact⟨c,t,e,.inr p⟩
theorem IsG.keep{w w':World}{gp:Nat}{G:Gh}{n:Nat}{g:GV}(h:IsG w gp G n g)(hk:∀ k,fpG gp G n k→w'.heap[k]?=w.heap[k]?):IsG w' gp G n g :=
 ⟨by rw[hk _ (.inl rfl)];exact h.blk,h.now.keep fun k e=>hk k (.inr (.inl e)),h.cr.keep fun k e=>hk k (.inr (.inr e)),h.apart⟩
theorem IsG.below{w w':World}{gp:Nat}{G:Gh}{n:Nat}{g:GV}(h:IsG w gp G n g)(hb:Below w.heap.size w w'):IsG w' gp G n g:=h.keep fun _ hk=>hb.block _ (h.lt hk)
theorem IsG.beside{S S':Nat→Prop}{w w':World}{gp:Nat}{G:Gh}{n:Nat}{g:GV}(h:IsG w gp G n g)(hm:Moved S w S' w')(hs:∀ k,fpG gp G n k→¬S k):IsG w' gp G n g:=h.keep fun k hk=>hm.block (h.lt hk) (hs k hk)
theorem IsG.rW{w:World}{gp:Nat}{G:Gh}{n:Nat}{g:GV}(h:IsG w gp G n g):¬fpT G.vn n G.rn gp∧¬fpT G.vc n G.rc gp:=by
 have hb:=h.blk
 constructor
 ·intro e
  obtain⟨c,t,e1,p⟩:=h.now.kind e
  rw[hb] at e1
  cases e1
  rcases p with p|p<;>cases p
 ·intro e
  obtain⟨c,t,e1,p⟩:=h.cr.kind e
  rw[hb] at e1
  cases e1
  rcases p with p|p<;>cases p
theorem IsG.cells{w:World}{gp:Nat}{G:Gh}{n:Nat}{g:GV}(h:IsG w gp G n g):w.cell? ⟨gp,0,none⟩=some G.vn∧w.cell? ⟨gp,1,none⟩=some G.vc:=by
 refine⟨?_,?_⟩<;>rw[cell_of_row w gp _ _ _ _ h.blk]<;>rfl
theorem IsG.CW{w w1:World}{gp:Nat}{G:Gh}{n:Nat}{g:GV}(h:IsG w gp G n g){i b cap:Nat}(hi:i<n)(hv:G.vn=.slice (some ⟨b,0,none⟩) n cap)(hk:Kept (fun k=>(G.rn i).ownBlock=some k) w w1){u:Value}{l:Rw}(ho:w1.ownsRow 0 9 1 u l.length (flS l))(hu:∀ k,u.ownBlock=some k→(G.rn i).ownBlock=some k∨w.heap.size≤k) :
  IsG (w1.setCell ⟨b,i,none⟩ u) gp { G with rn:=eu G.rn i u } n { g with now:=gJ g.now i l }∧Moved (fpG gp G n) w (fpG gp { G with rn:=eu G.rn i u } n) (w1.setCell ⟨b,i,none⟩ u):=by
 have hbb:G.vn.ownBlock=some b:=by rw[hv];rfl
 have hbl:=h.now.lt (.inl hbb)
 have hin:∀ k,(G.rn i).ownBlock=some k→fpT G.vn n G.rn k:=fun k e=>.inr ⟨i,hi,e⟩
 have hT:=h.now.set (w1:=w1) (i:=i) hv (hk.block b hbl fun e=>h.now.vk hi e hbb) (fun j hj hji k e=>hk.block k ((h.now.row j hj).lt k e).2 fun e2=>h.now.inj j i hj hi hji k e e2) ho (fun j hj hji k e e2=>by
  rcases hu k e2 with e3|e3
  ·exact h.now.inj j i hj hi hji k e e3
  ·have:=((h.now.row j hj).lt k e).2;omega)
 have hset:∀ k,k<w.heap.size→¬(G.rn i).ownBlock=some k→k≠b→(w1.setCell ⟨b,i,none⟩ u).heap[k]?=w.heap[k]?:=fun k h1 h2 h3=>by rw[heap_setCell_other _ _ _ _ h3];exact hk.block k h1 h2
 have hfp:∀ k,fpT G.vn n (eu G.rn i u) k→fpT G.vn n G.rn k∨w.heap.size≤k:=fun k e=>by
  rcases e with e|⟨j,hj,e⟩
  ·exact .inl (.inl e)
  ·unfold eu at e
   by_cases ej:j=i
   ·rw[if_pos ej] at e
    rcases hu k e with e2|e2
    ·exact .inl (hin k e2)
    ·exact .inr e2
   ·rw[if_neg ej] at e;exact .inl (.inr ⟨j,hj,e⟩)
 refine⟨⟨?_,hT,?_,fun k e e2=>?_⟩,⟨?_,fun k e=>?_⟩⟩
 ·rw[hset gp (lt_of_some h.blk) (fun e=>h.rW.1 (hin _ e)) (fun e=>h.rW.1 (by rw[e];exact .inl hbb))];exact h.blk
 ·exact h.cr.keep fun k e=>hset k (h.cr.lt e) (fun e2=>h.apart k (hin k e2) e) (fun e2=>h.apart k (by rw[e2];exact .inl hbb) e)
 ·rcases hfp k e with e3|e3
  ·exact h.apart k e3 e2
  ·have:=h.cr.lt e2;omega
 ·refine⟨hk.os,hk.tape,hk.output,by simpa [World.setCell] using hk.size,fun k h1 h2=>hset k h1 (fun e=>h2 (.inr (.inl (hin k e)))) (fun e=>h2 (.inr (.inl (by rw[e];exact .inl hbb))))⟩
 ·rcases e with e|e|e
  ·exact .inl (.inl e)
  ·rcases hfp k e with e2|e2
   ·exact .inl (.inr (.inl e2))
   ·exact .inr e2
  ·exact .inl (.inr (.inr e))
theorem IsG.CJ{w w1:World}{gp:Nat}{G:Gh}{n:Nat}{g:GV}(h:IsG w gp G n g){i b cap:Nat}(hi:i<n)(hv:G.vc=.slice (some ⟨b,0,none⟩) n cap)(hk:Kept (fun k=>(G.rc i).ownBlock=some k) w w1){u:Value}{l:Rw}(ho:w1.ownsRow 0 9 1 u l.length (flS l))(hu:∀ k,u.ownBlock=some k→(G.rc i).ownBlock=some k∨w.heap.size≤k) :
  IsG (w1.setCell ⟨b,i,none⟩ u) gp { G with rc:=eu G.rc i u } n { g with cr:=gJ g.cr i l }∧Moved (fpG gp G n) w (fpG gp { G with rc:=eu G.rc i u } n) (w1.setCell ⟨b,i,none⟩ u):=by
 have hbb:G.vc.ownBlock=some b:=by rw[hv];rfl
 have hbl:=h.cr.lt (.inl hbb)
 have hin:∀ k,(G.rc i).ownBlock=some k→fpT G.vc n G.rc k:=fun k e=>.inr ⟨i,hi,e⟩
 have hT:=h.cr.set (w1:=w1) (i:=i) hv (hk.block b hbl fun e=>h.cr.vk hi e hbb) (fun j hj hji k e=>hk.block k ((h.cr.row j hj).lt k e).2 fun e2=>h.cr.inj j i hj hi hji k e e2) ho (fun j hj hji k e e2=>by
  rcases hu k e2 with e3|e3
  ·exact h.cr.inj j i hj hi hji k e e3
  ·have:=((h.cr.row j hj).lt k e).2;omega)
 have hset:∀ k,k<w.heap.size→¬(G.rc i).ownBlock=some k→k≠b→(w1.setCell ⟨b,i,none⟩ u).heap[k]?=w.heap[k]?:=fun k h1 h2 h3=>by rw[heap_setCell_other _ _ _ _ h3];exact hk.block k h1 h2
 have hfp:∀ k,fpT G.vc n (eu G.rc i u) k→fpT G.vc n G.rc k∨w.heap.size≤k:=fun k e=>by
  rcases e with e|⟨j,hj,e⟩
  ·exact .inl (.inl e)
  ·unfold eu at e
   by_cases ej:j=i
   ·rw[if_pos ej] at e
    rcases hu k e with e2|e2
    ·exact .inl (hin k e2)
    ·exact .inr e2
   ·rw[if_neg ej] at e;exact .inl (.inr ⟨j,hj,e⟩)
 refine⟨⟨?_,?_,hT,fun k e e2=>?_⟩,⟨?_,fun k e=>?_⟩⟩
 ·rw[hset gp (lt_of_some h.blk) (fun e=>h.rW.2 (hin _ e)) (fun e=>h.rW.2 (by rw[e];exact .inl hbb))];exact h.blk
 ·exact h.now.keep fun k e=>hset k (h.now.lt e) (fun e2=>h.apart k e (hin k e2)) (fun e2=>h.apart k e (by rw[e2];exact .inl hbb))
 ·rcases hfp k e2 with e3|e3
  ·exact h.apart k e e3
  ·have:=h.now.lt e;omega
 ·refine⟨hk.os,hk.tape,hk.output,by simpa [World.setCell] using hk.size,fun k h1 h2=>hset k h1 (fun e=>h2 (.inr (.inr (hin k e)))) (fun e=>h2 (.inr (.inr (by rw[e];exact .inl hbb))))⟩
 ·rcases e with e|e|e
  ·exact .inl (.inl e)
  ·exact .inl (.inr (.inl e))
  ·rcases hfp k e with e2|e2
   ·exact .inl (.inr (.inr e2))
   ·exact .inr e2
theorem one_row(w:World)(s:List UInt8):(w.alloc (.cells #[.string (bytesOf s)] 9)).ownsRow 0 9 1 (.slice (some ⟨w.heap.size,0,none⟩) 1 1) [s].length (flS [s]) :=
 ⟨rfl,.inr ⟨w.heap.size,1, #[.string (bytesOf s)],rfl,Nat.zero_le _,heap_alloc_new w _,Nat.le_refl _,by unfold maxLen;decide,rfl,rfl⟩⟩
theorem IsG.Af{w:World}{gp:Nat}{G:Gh}{n:Nat}{g:GV}(h:IsG w gp G n g){i b cap:Nat}(hi:i<n)(hv:G.vn=.slice (some ⟨b,0,none⟩) n cap)(s:List UInt8) :
  IsG ((w.alloc (.cells #[.string (bytesOf s)] 9)).setCell ⟨b,i,none⟩ (.slice (some ⟨w.heap.size,0,none⟩) 1 1)) gp { G with rn:=eu G.rn i (.slice (some ⟨w.heap.size,0,none⟩) 1 1) } n { g with now:=gJ g.now i [s] }∧Moved (fpG gp G n) w (fpG gp { G with rn:=eu G.rn i (.slice (some ⟨w.heap.size,0,none⟩) 1 1) } n) ((w.alloc (.cells #[.string (bytesOf s)] 9)).setCell ⟨b,i,none⟩ (.slice (some ⟨w.heap.size,0,none⟩) 1 1)) :=
 h.CW hi hv ((Kept.refl _ w).alloc _) (one_row w s) fun k e=>by
  have:w.heap.size=k:=by simpa [Value.ownBlock] using e
  exact .inr (by omega)
theorem IsG.JI{w:World}{gp:Nat}{G:Gh}{n:Nat}{g:GV}(h:IsG w gp G n g){i b cap:Nat}(hi:i<n)(hv:G.vc=.slice (some ⟨b,0,none⟩) n cap)(s:List UInt8) :
  IsG ((w.alloc (.cells #[.string (bytesOf s)] 9)).setCell ⟨b,i,none⟩ (.slice (some ⟨w.heap.size,0,none⟩) 1 1)) gp { G with rc:=eu G.rc i (.slice (some ⟨w.heap.size,0,none⟩) 1 1) } n { g with cr:=gJ g.cr i [s] }∧Moved (fpG gp G n) w (fpG gp { G with rc:=eu G.rc i (.slice (some ⟨w.heap.size,0,none⟩) 1 1) } n) ((w.alloc (.cells #[.string (bytesOf s)] 9)).setCell ⟨b,i,none⟩ (.slice (some ⟨w.heap.size,0,none⟩) 1 1)) :=
 h.CJ hi hv ((Kept.refl _ w).alloc _) (one_row w s) fun k e=>by
  have:w.heap.size=k:=by simpa [Value.ownBlock] using e
  exact .inr (by omega)
end Go.Proofs.YtonhoahnieoebabGreatDoor
namespace Go.Proofs.YtonhoahnieoebabGreatDoor
open Go.RowKit
def DV.ver(d:DV)(i:Nat)(s:List UInt8):Prop:=s=d.fl.getD i []∨∃ x∈d.pend,x.1=i∧x.2=s
theorem Ri(l:List (List UInt8))(j i:Nat)(v:List UInt8):((l.set j v).getD i []=v∧j=i)∨(l.set j v).getD i []=l.getD i []:=by
 by_cases h:j=i
 ·subst h
  by_cases hl:j<l.length
  ·left;refine⟨?_,rfl⟩
   rw[List.getD_eq_getElem?_getD,List.getElem?_set_self hl];rfl
  ·right;rw[List.getD_eq_getElem?_getD,List.getD_eq_getElem?_getD,List.getElem?_eq_none (by rw[List.length_set];omega),List.getElem?_eq_none (by omega)]
 ·right;rw[List.getD_eq_getElem?_getD,List.getD_eq_getElem?_getD,List.getElem?_set_ne h]
theorem getD_set_ne(l:List (List UInt8)){j i:Nat}(v:List UInt8)(h:j≠i):(l.set j v).getD i []=l.getD i []:=by
 rw[List.getD_eq_getElem?_getD,List.getD_eq_getElem?_getD,List.getElem?_set_ne h]
theorem JE{p:List (Nat × List UInt8)}{k:Nat}(h:k<p.length):p.getD k (0,[])∈p:=by
 rw[List.getD_eq_getElem?_getD,List.getElem?_eq_getElem h];exact List.getElem_mem _
theorem G8{d:DV}{l:List (List UInt8)}{k:Nat}(hk:k<d.pend.length)(h:∀ i,d.ver i (l.getD i [])):∀ i,d.ver i ((l.set (d.pend.getD k (0,[])).1 (d.pend.getD k (0,[])).2).getD i []):=by
 intro i
 rcases Ri l (d.pend.getD k (0,[])).1 i (d.pend.getD k (0,[])).2 with⟨h1,h2⟩|h1
 ·rw[h1];exact .inr ⟨_,JE hk,h2,rfl⟩
 ·rw[h1];exact h i
theorem Iq(d:DV):∀ k,k≤d.pend.length→∀ i,d.ver i ((nD d.pend d.fl k).getD i []):=by
 intro k
 induction k with
 | zero=>intro _ i;exact .inl rfl
 | succ k ih=>intro hk;exact G8 (by omega) (ih (by omega))
theorem Ik(d:DV)(ks:List Bool):∀ k,k≤d.pend.length→∀ i,d.ver i ((fO d.pend ks d.fl k).getD i []):=by
 intro k
 induction k with
 | zero=>intro _ i;exact .inl rfl
 | succ k ih =>
  intro hk
  cases e:ks.getD k false with
  | true=>rw[Gv e];exact G8 (by omega) (ih (by omega))
  | false=>rw[Gj e];exact ih (by omega)
theorem Dq{d:DV}(hs:d.sn)(i:Nat):d.ver i (d.seen.getD i []):=by
 rw[show d.seen=nD d.pend d.fl d.pend.length from hs];exact Iq d _ (Nat.le_refl _) i
theorem Am(d:DV):d.ig.fl=d.fl∧d.ig.pend=d.pend∧d.ig.seen=d.seen:=by
 unfold DV.ig;split<;>exact⟨rfl,rfl,rfl⟩
theorem rQ{d:DV}{j i:Nat}{s t:List UInt8}(h:(d.put j s).ver i t):d.ver i t∨(j=i∧s=t):=by
 unfold DV.put at h
 split at h
 ·exact .inl h
 ·obtain⟨e1,e2,_⟩:=Am d
  rcases h with h|⟨x,hx,h1,h2⟩
  ·left;left;rw[h];show d.ig.fl.getD i []=_;rw[e1]
  ·have hx2:x∈d.pend++[(j,s)]:=by rw[← e2];exact hx
   rcases List.mem_append.1 hx2 with h3|h3
   ·exact .inl (.inr ⟨x,h3,h1,h2⟩)
   ·simp only[List.mem_singleton] at h3
    subst h3
    exact .inr ⟨h1,h2⟩
theorem nC(d:DV){j i:Nat}(s:List UInt8)(h:j≠i):(d.put j s).seen.getD i []=d.seen.getD i []:=by
 unfold DV.put
 split
 ·rfl
 ·show(d.ig.seen.set j s).getD i []=_
  rw[(Am d).2.2,getD_set_ne _ _ h]
theorem qE(d:DV){j:Nat}(s:List UInt8)(h:d.aQ=0)(hj:j<d.seen.length):(d.put j s).seen.getD j []=s:=by
 have hf:d.fail≠0:=by rcases d.qh with⟨_,h1⟩|⟨h1,_⟩;exact h1;omega
 unfold DV.put
 rw[if_neg hf]
 show(d.ig.seen.set j s).getD j []=_
 rw[(Am d).2.2,List.getD_eq_getElem?_getD,List.getElem?_set_self hj];rfl
theorem pI{d:DV}(j:Nat)(s:List UInt8)(h:d.aQ≠0):d.put j s=d.failing (-1):=by
 have hf:d.fail=0:=by rcases d.qh with⟨h1,_⟩|⟨_,h1⟩;exact absurd h1 h;exact h1
 unfold DV.put;rw[if_pos hf]
theorem wS(d:DV)(a:Nat)(s:ByteArray):∀ k i,i<a→(∀ t,(d.puts a s k).1.ver i t→d.ver i t)∧(d.puts a s k).1.seen.getD i []=d.seen.getD i []:=by
 intro k
 induction k with
 | zero=>intro i _;exact⟨fun t h=>h,rfl⟩
 | succ k ih =>
  intro i hi
  obtain⟨h1,h2⟩:=ih i hi
  by_cases h0:(d.puts a s k).2=0
  ·rw[DV.o9 h0]
   refine⟨fun t h=>?_,?_⟩
   ·rcases rQ h with h3|h3
    ·exact h1 t h3
    ·omega
   ·show((d.puts a s k).1.put (a+k) (chunk s k)).seen.getD i []=_
    rw[nC _ _ (by omega)];exact h2
  ·rw[DV.pz h0 (k+1) (by omega)];exact⟨h1,h2⟩
def Sub(U T:List (Int × Int)):Prop:=T.length=U.length∧∀ c,T.getD c (0,0)=U.getD c (0,0)∨T.getD c (0,0)=(0,0)∨T.getD c (0,0)=(1,0)
theorem Sub.refl(U:List (Int × Int)):Sub U U:=⟨rfl,fun _=>.inl rfl⟩
theorem FB(p:Int):bP 0 0 p=true:=kY (.inr ⟨.inl rfl,rfl⟩)
theorem BK(p:Int):bP 1 0 p=true:=kY (.inr ⟨.inr rfl,rfl⟩)
theorem uo{l:List (Int × Int)}{e:Int × Int}(h:e∈l):∃ i,i<l.length∧l.getD i (0,0)=e:=by
 obtain⟨i,hi,h1⟩:=List.getElem_of_mem h
 exact⟨i,hi,by rw[List.getD_eq_getElem?_getD,List.getElem?_eq_getElem hi];exact h1⟩
theorem gQ.at{h:HV}{U:List (Int × Int)}(hg:gQ h U)(c:Nat):bP (U.getD c (0,0)).1 (U.getD c (0,0)).2 h.p=true:=by
 by_cases hc:c<U.length
 ·exact hg.ents _ (getD_mem hc)
 ·rw[List.getD_eq_getElem?_getD,List.getElem?_eq_none (by omega)];exact FB _
theorem Sub.bP{h:HV}{U T:List (Int × Int)}(hg:gQ h U)(hs:Sub U T)(c:Nat):bP (T.getD c (0,0)).1 (T.getD c (0,0)).2 h.p=true:=by
 rcases hs.2 c with e|e|e
 ·rw[e];exact hg.at c
 ·rw[e];exact FB _
 ·rw[e];exact BK _
theorem Sub.data{U T:List (Int × Int)}(hs:Sub U T){c:Nat}(h2:(T.getD c (0,0)).1=2):T.getD c (0,0)=U.getD c (0,0):=by
 rcases hs.2 c with e|e|e
 ·exact e
 ·rw[e] at h2;cases h2
 ·rw[e] at h2;cases h2
theorem Sub.good{h:HV}{U T:List (Int × Int)}(hg:gQ h U)(hs:Sub U T):gQ h T:=by
 refine⟨fun e he=>?_,fun i j hij hj h2 heq=>?_⟩
 ·obtain⟨i,_,rfl⟩:=uo he
  exact hs.bP hg i
 ·have hjd:=hs.data h2
  have hid:T.getD i (0,0)=U.getD i (0,0):=hs.data (by rw[heq];exact h2)
  exact hg.once i j hij (by rw[← hs.1];exact hj) (by rw[← hjd];exact h2) (by rw[← hid,heq,hjd])
theorem BI{T T':List (Int × Int)}{r:Nat}(hl:T.length=T'.length)(h:∀ i,i<8→T.getD (r*8+i) (0,0)=T'.getD (r*8+i) (0,0)):dG T (r:Int)=dG T' (r:Int):=by
 have e1:o8 T (r:Int)=o8 T' (r:Int):=by unfold o8;rw[hl]
 have e2:rowOk T ((r:Int)).toNat=rowOk T' ((r:Int)).toNat:=by
  unfold rowOk
  rw[Bool.eq_iff_iff,List.all_eq_true,List.all_eq_true]
  constructor
  ·intro g i hi
   have:=g i hi
   rw[show((r:Int)).toNat=r by omega] at this ⊢
   rw[← h i (List.mem_range.1 hi)];exact this
  ·intro g i hi
   have:=g i hi
   rw[show((r:Int)).toNat=r by omega] at this ⊢
   rw[h i (List.mem_range.1 hi)];exact this
 have e3:dO T ((r:Int)).toNat 8=dO T' ((r:Int)).toNat 8:=by
  unfold dO
  apply List.map_congr_left
  intro j hj
  have hj':=List.mem_range.1 hj
  rw[show((r:Int)).toNat=r by omega,h (j / 2) (by omega)]
 unfold dG jL
 rw[e1,e2,e3]
theorem tH{h:HV}{T:List (Int × Int)}(hk:h.ok=true)(hl:(T.length:Int)=h.c)(he:∀ c,bP (T.getD c (0,0)).1 (T.getD c (0,0)).2 h.p=true){r:Nat}(hr:r<aA T.length){i:Nat}(hi:i<8) :
  gV (dG T (r:Int)) i=T.getD (r*8+i) (0,0):=by
 have hrow:=qQ hk hl (fun e hm=>by obtain⟨j,_,rfl⟩:=uo hm;exact he j) r hr
 have hb:=HV.eH hk
 have hv:=iG (he (r*8+i))
 have e1:dG T (r:Int)=strOfNums (dO T r 8):=by unfold dG;rw[if_pos hrow.1];rfl
 have key:∀ j,j<16→0≤(dO T r 8).getD j 0∧(dO T r 8).getD j 0<256→bAt (strOfNums (dO T r 8)) j=(dO T r 8).getD j 0:=by
  intro j hj hbd
  have hjl:j<(dO T r 8).length:=by rw[vO];exact hj
  have e2:(strOfNums (dO T r 8)).data.toList=(dO T r 8).map fun n=>UInt8.ofNat n.toNat:=by unfold strOfNums;simp
  unfold bAt
  have g:(dO T r 8).getD j 0=(dO T r 8)[j]:=by rw[List.getD_eq_getElem?_getD,List.getElem?_eq_getElem hjl];rfl
  rw[g] at hbd ⊢
  rw[e2,List.getD_eq_getElem?_getD,List.getElem?_map,List.getElem?_eq_getElem hjl]
  simp only[Option.map_some,Option.getD_some,UInt8.toNat_ofNat']
  omega
 have g0:(dO T r 8).getD (i*2) 0=(T.getD (r*8+i) (0,0)).1:=by
  have a1:i*2 / 2=i:=by omega
  have a3:i*2<16:=by omega
  simp[dO,List.getD_eq_getElem?_getD,a3,a1,hi]
 have g1:(dO T r 8).getD (i*2+1) 0=(T.getD (r*8+i) (0,0)).2:=by
  have a1:(i*2+1) / 2=i:=by omega
  have a3:i*2+1<16:=by omega
  have a4:(i*2+1) % 2=1:=by omega
  simp[dO,List.getD_eq_getElem?_getD,a3,a1,hi,a4]
 unfold gV
 rw[e1,key (i*2) (by omega) (by rw[g0];omega),key (i*2+1) (by omega) (by rw[g1];omega),g0,g1]
end Go.Proofs.YtonhoahnieoebabGreatDoor
