/- How a device lies in memory (package dev): what is flushed, seen and pending, as lists of bytes; frames by sets of blocks. -/
import Derived.Test.YtonhoahnieoebabGreatDoorRows
import Derived.WalkKit
import Derived.WalkSpells
import Derived.WalkLawsBesides
import Derived.Deep.MidRow
import Derived.Deep.AppendLies
import Derived.Laws.CopyOwn
import Derived.Deep.QuietTactic
import Derived.BigQuiet
import Derived.Laws.BytesArg
set_option maxHeartbeats 400000
set_option maxRecDepth 100000
namespace Go.Proofs.YtonhoahnieoebabGreatDoor
open Go.RowKit
structure Kept(S:Nat→Prop)(w w':World):Prop where
 os:w'.os=w.os
 tape:w'.tape=w.tape
 output:w'.output=w.output
 size:w.heap.size≤w'.heap.size
 block:∀ k,k<w.heap.size→¬S k→w'.heap[k]?=w.heap[k]?
theorem Kept.refl(S:Nat→Prop)(w:World):Kept S w w:=⟨rfl,rfl,rfl,Nat.le_refl _,fun _ _ _=>rfl⟩
theorem Kept.trans{S:Nat→Prop}{a b c:World}(h:Kept S a b)(k:Kept S b c):Kept S a c :=
 ⟨k.os.trans h.os,k.tape.trans h.tape,k.output.trans h.output,Nat.le_trans h.size k.size,fun i hi hs=>(k.block i (Nat.lt_of_lt_of_le hi h.size) hs).trans (h.block i hi hs)⟩
theorem Kept.mono{S T:Nat→Prop}{a b:World}(h:Kept S a b)(hs:∀ k,k<a.heap.size→S k→T k):Kept T a b :=
 ⟨h.os,h.tape,h.output,h.size,fun i hi ht=>h.block i hi fun s=>ht (hs i hi s)⟩
theorem Kept.drew{S:Nat→Prop}{a w:World}(h:Kept S a w):Kept S a w.drew:=⟨h.os,h.tape,h.output,h.size,h.block⟩
theorem Kept.alloc{S:Nat→Prop}{a w:World}(h:Kept S a w)(o:Obj):Kept S a (w.alloc o) :=
 ⟨h.os,h.tape,h.output,by have:=h.size;simp;omega,fun k hk hs=>(Below.heap_alloc w o k (Nat.lt_of_lt_of_le hk h.size)).trans (h.block k hk hs)⟩
theorem Kept.setCell{S:Nat→Prop}{a w:World}(h:Kept S a w){p:Addr}(hp:S p.block∨a.heap.size≤p.block)(u:Value):Kept S a (w.setCell p u) :=
 ⟨h.os,h.tape,h.output,by simpa [World.setCell] using h.size,fun k hk hs=>(heap_setCell_other w p k u (fun e=>by rcases hp with hp|hp;exact hs (e▸hp);omega)).trans (h.block k hk hs)⟩
theorem Kept.grown{S:Nat→Prop}{a w w':World}{row:Option Nat}(h:Kept S a w)(hg:w.grownBy w' row)(hr:∀ k,row=some k→S k∨a.heap.size≤k):Kept S a w' :=
 ⟨hg.os.trans h.os,hg.tape.trans h.tape,hg.output.trans h.output,Nat.le_trans h.size hg.size,fun k hk hs=>(hg.block k (Nat.lt_of_lt_of_le hk h.size) (fun e=>by rcases hr k e.symm with hp|hp;exact hs hp;omega)).trans (h.block k hk hs)⟩
theorem Kept.below{S:Nat→Prop}{a w:World}{B:Nat}(h:Kept S a w)(hB:B≤a.heap.size)(hs:∀ k,S k→B≤k):Below B a w :=
 ⟨h.os,h.tape,h.output,h.size,fun k hk=>h.block k (Nat.lt_of_lt_of_le hk hB) fun s=>by have:=hs k s;omega⟩
theorem Below.kept{S:Nat→Prop}{a w:World}(h:Below a.heap.size a w):Kept S a w:=⟨h.os,h.tape,h.output,h.size,fun k hk _=>h.block k hk⟩
def cO(s:List UInt8):List Value:=s.map fun b=>.int .u8 (b.toNat:Int)
def dw(l:List (List UInt8)):List Value:=(l.map cO).flatten
def wrV(x:Nat × List UInt8):List Value:=.int .i64 (x.1:Int)::cO x.2
def iZ(l:List (Nat × List UInt8)):List Value:=(l.map wrV).flatten
structure DV where
 fl:List (List UInt8)
 seen:List (List UInt8)
 pend:List (Nat × List UInt8)
 wr:Nat
 fail:Int
structure DV.ok(d:DV):Prop where
 n1:1≤d.fl.length
 n2:d.fl.length≤200
 same:d.seen.length=d.fl.length
 l1:∀ s∈d.fl,s.length=16
 l2:∀ s∈d.seen,s.length=16
 l3:∀ x∈d.pend,x.1<d.fl.length∧x.2.length=16
 few:d.pend.length≤d.wr
 few2:d.wr≤1000000000
 f1 : -1≤d.fail
 f2:d.fail≤9223372036854775807
structure Hd where
 p:Nat
 bf:Nat
 cf:Nat
 bs:Nat
 cs:Nat
 v2:Value
def Hd.fp(h:Hd)(k:Nat):Prop:=k=h.p∨k=h.bf∨k=h.bs∨h.v2.ownBlock=some k
structure aH(B:Nat)(w:World)(h:Hd)(d:DV):Prop where
 ok:d.ok
 pB:B≤h.p
 blk:w.heap[h.p]?=some (.cells #[.slice (some ⟨h.bf,0,none⟩) d.fl.length h.cf,.slice (some ⟨h.bs,0,none⟩) d.fl.length h.cs,h.v2,.int .i64 (d.wr:Int),.int .i64 d.fail] 264 (0,0))
 of:w.ownsRow B 261 16 (.slice (some ⟨h.bf,0,none⟩) d.fl.length h.cf) d.fl.length (dw d.fl)
 os:w.ownsRow B 261 16 (.slice (some ⟨h.bs,0,none⟩) d.fl.length h.cs) d.fl.length (dw d.seen)
 op:w.ownsRow B 266 17 h.v2 d.pend.length (iZ d.pend)
 ne:h.bf≠h.bs
 pn:d.pend=[]→h.v2=.slice none 0 0
theorem gB{w:World}{B e size g n cap:Nat}{xs:List Value}(h:w.ownsRow B e size (.slice (some ⟨g,0,none⟩) n cap) n xs) :
  B≤g∧∃ cur,w.heap[g]?=some (.cells cur e (0,0))∧n≤cap∧cap≤maxLen∧cur.size=cap*size∧cur.toList.take (n*size)=xs:=by
 rcases h.2 with⟨h0,_⟩|⟨g',cap',cur,hv,hb,hh,h1,h2,h3,h4⟩
 ·cases h0
 ·cases hv
  exact⟨hb,cur,hh,h1,h2,h3,h4⟩
theorem dA{w w':World}{B e size n:Nat}{v:Value}{xs:List Value}(h:w.ownsRow B e size v n xs)(hk:∀ k,v.ownBlock=some k→w'.heap[k]?=w.heap[k]?):w'.ownsRow B e size v n xs:=by
 obtain⟨h1,h2⟩:=h;refine⟨h1,?_⟩;rcases h2 with h2|⟨g,cap,cur,hv,hb,hh,r⟩
 ·exact .inl h2
 ·exact .inr ⟨g,cap,cur,hv,hb,by rw[hk g (by rw[hv];rfl)];exact hh,r⟩
theorem ownsRow_base{w:World}{B B' e size n:Nat}{v:Value}{xs:List Value}(h:w.ownsRow B' e size v n xs)(hB:B≤B'):w.ownsRow B e size v n xs:=by
 refine⟨h.1,?_⟩;rcases h.2 with h0|⟨g2,cap2,cur2,hv,hb,r⟩
 ·exact .inl h0
 ·exact .inr ⟨g2,cap2,cur2,hv,by omega,r⟩
theorem lt_of_some{w:World}{k:Nat}{o:Obj}(h:w.heap[k]?=some o):k<w.heap.size:=by
 rcases Nat.lt_or_ge k w.heap.size with h'|h'
 ·exact h'
 ·rw[Array.getElem?_eq_none h'] at h;cases h
theorem aH.keep{B:Nat}{w w':World}{h:Hd}{d:DV}(hd:aH B w h d)(hk:∀ k,h.fp k→w'.heap[k]?=w.heap[k]?):aH B w' h d :=
 ⟨hd.ok,hd.pB,by rw[hk _ (.inl rfl)];exact hd.blk,dA hd.of (fun k e=>hk k (.inr (.inl (by simpa [Value.ownBlock] using e.symm)))),dA hd.os (fun k e=>hk k (.inr (.inr (.inl (by simpa [Value.ownBlock] using e.symm))))),dA hd.op (fun k e=>hk k (.inr (.inr (.inr e)))),hd.ne,hd.pn⟩
theorem aH.lt{B:Nat}{w:World}{h:Hd}{d:DV}(hd:aH B w h d):∀ k,h.fp k→B≤k∧k<w.heap.size:=by
 intro k hk;rcases hk with rfl|rfl|rfl|hk
 ·exact⟨hd.pB,lt_of_some hd.blk⟩
 ·obtain⟨hb,cur,hh,_⟩:=gB hd.of;exact⟨hb,lt_of_some hh⟩
 ·obtain⟨hb,cur,hh,_⟩:=gB hd.os;exact⟨hb,lt_of_some hh⟩
 ·exact hd.op.lt k hk
theorem aH.cells{B:Nat}{w:World}{h:Hd}{d:DV}(hd:aH B w h d) :
  w.cell? ⟨h.p,0,none⟩=some (.slice (some ⟨h.bf,0,none⟩) d.fl.length h.cf)∧w.cell? ⟨h.p,1,none⟩=some (.slice (some ⟨h.bs,0,none⟩) d.fl.length h.cs) ∧
  w.cell? ⟨h.p,2,none⟩=some h.v2∧w.cell? ⟨h.p,3,none⟩=some (.int .i64 (d.wr:Int))∧w.cell? ⟨h.p,4,none⟩=some (.int .i64 d.fail)∧∀ j,w.frozen? ⟨h.p,j,none⟩=false:=by
 have hb:=hd.blk;refine⟨?_,?_,?_,?_,?_,fun j=>frozen_of_row w h.p j _ _ hb⟩<;>rw[cell_of_row w h.p _ _ _ _ hb]<;>rfl
theorem aH.v2{B:Nat}{w:World}{h:Hd}{d:DV}(hd:aH B w h d):∃ a cap,h.v2=.slice a d.pend.length cap:=by
 rcases hd.op.2 with⟨h0,h1⟩|⟨g,cap,cur,hv,_⟩
 ·exact⟨none,0,by rw[h0,h1]⟩
 ·exact⟨_,cap,hv⟩
theorem aH.apart{B:Nat}{w:World}{h:Hd}{d:DV}(hd:aH B w h d):h.bf≠h.p∧h.bs≠h.p∧h.v2.ownBlock≠some h.p∧h.v2.ownBlock≠some h.bf∧h.v2.ownBlock≠some h.bs:=by
 obtain⟨_,cf,hf2,_⟩:=gB hd.of;obtain⟨_,cs,hs2,_⟩:=gB hd.os;have hp:=hd.blk;refine⟨fun e=>?_,fun e=>?_,fun e=>?_,fun e=>?_,fun e=>?_⟩
 ·rw[← e,hf2] at hp;cases hp
 ·rw[← e,hs2] at hp;cases hp
 all_goals
  rcases hd.op.2 with⟨h0,_⟩|⟨g,cap,cur,hv,_,hh,_⟩
  ·rw[h0] at e;cases e
  ·rw[hv] at e
   simp only[Value.ownBlock,Option.some.injEq] at e;rw[e] at hh
   first|(rw[hh] at hp;cases hp)|(rw[hh] at hf2;cases hf2)|(rw[hh] at hs2;cases hs2)
theorem xE{a b:Bool}(h:a=b):Ending.returned (.bool a)=.returned (.bool b):=by rw[h]
theorem uI{a b:Int}(h:a=b):Ending.returned (.int .i64 a)=.returned (.int .i64 b):=by rw[h]
theorem size_any{B:Nat}{h:Hd}{d:DV}(w:World)(hd:aH B w h d) :
  Calls Tryz.prog 153 #[.pointer (some ⟨h.p,0,none⟩)] w fun e w'=>e=.returned (.int .i64 (d.fl.length:Int))∧w'=w:=by
 obtain⟨c0,c1,c2,c3,c4,fz⟩:=hd.cells;clear hd;go_enter Tryz.func153,Tryz.ntmps153
 go_wp2
 go_ret
 exact⟨rfl,rfl⟩
def DV.has(d:DV)(at_:Int):Bool:=decide (0≤at_∧at_<d.fl.length)
theorem zo{B:Nat}{h:Hd}{d:DV}(at_:Int)(w:World)(hd:aH B w h d) :
  Calls Tryz.prog 231 #[.pointer (some ⟨h.p,0,none⟩),.int .i64 at_] w fun e w'=>e=.returned (.bool (d.has at_))∧w'=w:=by
 obtain⟨c0,c1,c2,c3,c4,fz⟩:=hd.cells;clear hd;by_cases h0:0≤at_
 ·have g0:decide (0≤at_)=true:=by simpa using h0
  have HF:Hid (d.has at_=decide (at_<(d.fl.length:Int))):=by unfold Hid DV.has;simp[h0]
  go_enter Tryz.func231,Tryz.ntmps231
  go_wp2
  go_ret
  exact⟨xE HF.out.symm,rfl⟩
 ·have g0:decide (0≤at_)=false:=by simpa using h0
  have HF:Hid (d.has at_=false):=by unfold Hid DV.has;simp[h0]
  go_enter Tryz.func231,Tryz.ntmps231
  go_wp2
  go_ret
  exact⟨xE HF.out.symm,rfl⟩
theorem aH.FB{B:Nat}{w:World}{h:Hd}{d d':DV}(hd:aH B w h d)(v2:Value)(i:Nat)(u:Value)(hok:d'.ok)(hf:d'.fl=d.fl)(hs:d'.seen=d.seen)
  (hc:(#[.slice (some ⟨h.bf,0,none⟩) d.fl.length h.cf,.slice (some ⟨h.bs,0,none⟩) d.fl.length h.cs,h.v2,.int .i64 (d.wr:Int),.int .i64 d.fail]:Array Value).setIfInBounds i u = #[.slice (some ⟨h.bf,0,none⟩) d.fl.length h.cf,.slice (some ⟨h.bs,0,none⟩) d.fl.length h.cs,v2,.int .i64 (d'.wr:Int),.int .i64 d'.fail])
  (hp:w.ownsRow B 266 17 v2 d'.pend.length (iZ d'.pend)) (hpn:d'.pend=[]→v2=.slice none 0 0):aH B (w.setCell ⟨h.p,i,none⟩ u) { h with v2:=v2 } d':=by
 obtain⟨_,cf,hf2,_⟩:=gB hd.of;obtain⟨_,cs,hs2,_⟩:=gB hd.os
 have npf:h.bf≠h.p:=fun e=>by
  have h1:=hd.blk;rw[← e,hf2] at h1;cases h1
 have nps:h.bs≠h.p:=fun e=>by
  have h1:=hd.blk;rw[← e,hs2] at h1;cases h1
 have npp:∀ k,v2.ownBlock=some k→k≠h.p:=fun k hk e=>by
  have h1:=hd.blk;rcases hp.2 with⟨h0,_⟩|⟨g,cap,cur,hv,_,hh,_⟩
  ·rw[h0] at hk;cases hk
  ·rw[hv] at hk
   have:g=k:=by simpa [Value.ownBlock] using hk
   rw[← e,← this,hh] at h1;cases h1
 refine⟨hok,hd.pB,?_,?_,?_,dA hp (fun k e=>heap_setCell_other _ _ _ _ (npp k e)),hd.ne,hpn⟩
 ·rw[hf]
  show _=some (Obj.cells #[.slice (some ⟨h.bf,0,none⟩) d.fl.length h.cf,.slice (some ⟨h.bs,0,none⟩) d.fl.length h.cs,v2,.int .i64 (d'.wr:Int),.int .i64 d'.fail] 264 (0,0))
  rw[heap_setCell_same w h.p i _ _ u hd.blk,hc]
 ·rw[hf];exact dA hd.of (fun k e=>heap_setCell_other _ _ _ _ (by
   have:h.bf=k:=by simpa [Value.ownBlock] using e
   rw[← this];exact npf))
 ·rw[hf,hs];exact dA hd.os (fun k e=>heap_setCell_other _ _ _ _ (by
   have:h.bs=k:=by simpa [Value.ownBlock] using e
   rw[← this];exact nps))
def DV.failing(d:DV)(n:Int):DV:={ d with fail:=n }
theorem DV.ok.failing{d:DV}(h:d.ok){n:Int}(h1 : -1≤n)(h2:n≤9223372036854775807):(d.failing n).ok :=
 ⟨h.n1,h.n2,h.same,h.l1,h.l2,h.l3,h.few,h.few2,h1,h2⟩
theorem aH.failing{B:Nat}{w:World}{h:Hd}{d:DV}(hd:aH B w h d){n:Int}(h1 : -1≤n)(h2:n≤9223372036854775807):aH B (w.setCell ⟨h.p,4,none⟩ (.int .i64 n)) h (d.failing n) :=
 hd.FB h.v2 4 (.int .i64 n) (hd.ok.failing h1 h2) rfl rfl rfl hd.op hd.pn
theorem yX{B:Nat}{h:Hd}{d:DV}(n:Int)(w:World)(_hd:aH B w h d)(hn:n<0) :
  Calls Tryz.prog 222 #[.pointer (some ⟨h.p,0,none⟩),.int .i64 n] w fun e w'=>e=.returned (.iface 127 (.int .i64 1))∧w'=w:=by
 go_enter Tryz.func222,Tryz.ntmps222
 go_wp2
 go_ret
 exact⟨rfl,rfl⟩
theorem yY{B:Nat}{h:Hd}{d:DV}(n:Int)(w:World)(hd:aH B w h d)(hn:0≤n)(hm:n≤9223372036854775807) :
  Calls Tryz.prog 222 #[.pointer (some ⟨h.p,0,none⟩),.int .i64 n] w fun e w'=>e=.returned .nilIface∧aH B w' h (d.failing n)∧Kept h.fp w w':=by
 obtain⟨c0,c1,c2,c3,c4,fz⟩:=hd.cells;have HD:Hid (aH B w h d):=hd;clear hd;go_enter Tryz.func222,Tryz.ntmps222
 go_wp2
 go_ret
 exact⟨rfl,HD.out.failing (by omega) hm,(Kept.refl _ _).setCell (.inl (.inl rfl)) _⟩
theorem KH{B:Nat}{h:Hd}{d:DV}(w:World)(hd:aH B w h d)(hn:d.fail = -1) :
  Calls Tryz.prog 259 #[.pointer (some ⟨h.p,0,none⟩)] w fun e w'=>e=.returned (.bool false)∧w'=w:=by
 obtain⟨c0,c1,c2,c3,c4,fz⟩:=hd.cells;rw[hn] at c4;clear hd hn;go_enter Tryz.func259,Tryz.ntmps259
 go_wp2
 go_ret
 exact⟨rfl,rfl⟩
theorem KI{B:Nat}{h:Hd}{d:DV}(w:World)(hd:aH B w h d)(hn:0≤d.fail) :
  Calls Tryz.prog 259 #[.pointer (some ⟨h.p,0,none⟩)] w fun e w'=>e=.returned (.bool (decide (d.fail=0)))∧aH B w' h (d.failing (d.fail-1))∧Kept h.fp w w':=by
 obtain⟨c0,c1,c2,c3,c4,fz⟩:=hd.cells;have HD:Hid (aH B w h (d)):=hd;have hm:=hd.ok.f2;have g1:(d.fail == -1)=false:=beq_eq_false_iff_ne.2 (by omega)
 have HE:Hid ((d.fail-1 == -1)=decide (d.fail=0)):=by
  unfold Hid;rw[Bool.eq_iff_iff,beq_iff_eq,decide_eq_true_eq];omega
 clear hd;go_enter Tryz.func259,Tryz.ntmps259
 go_wp2
 go_ret
 exact⟨xE HE.out,HD.out.failing (by omega) (by omega),(Kept.refl _ _).setCell (.inl (.inl rfl)) _⟩
def qR:Value:=.agg #[.int .u8 0,.int .u8 0,.int .u8 0,.int .u8 0,.int .u8 0,.int .u8 0,.int .u8 0,.int .u8 0,.int .u8 0,.int .u8 0,.int .u8 0,.int .u8 0,.int .u8 0,.int .u8 0,.int .u8 0,.int .u8 0]
def AY:Value:=.agg #[.int .i64 0,.int .u8 0,.int .u8 0,.int .u8 0,.int .u8 0,.int .u8 0,.int .u8 0,.int .u8 0,.int .u8 0,.int .u8 0,.int .u8 0,.int .u8 0,.int .u8 0,.int .u8 0,.int .u8 0,.int .u8 0,.int .u8 0]
theorem DC:(Tryz.prog.info? 261).map (fun i=>(i.zero,i.size,i.bytes))=some (some qR,16,16):=by kernel_rfl
theorem DF:(Tryz.prog.info? 266).map (fun i=>(i.zero,i.size,i.bytes))=some (some AY,17,24):=by kernel_rfl
theorem ql(s:List UInt8):(cO s).length=s.length:=by simp[cO]
theorem xM(l:List (List UInt8))(h:∀ s∈l,s.length=16):(dw l).length=l.length*16:=by
 induction l with
 | nil=>simp[dw]
 | cons s l ih =>
  have h1:=h s (by simp)
  have h2:=ih (fun x hx=>h x (by simp[hx]))
  simp only[dw,List.map_cons,List.flatten_cons,List.length_append,List.length_cons] at h2 ⊢;rw[ql,h1,h2];omega
theorem uQ(s:List UInt8):∀ u∈cO s,u.oneCell'=true:=by
 intro u hu;obtain⟨b,_,rfl⟩:=List.mem_map.1 hu;rfl
theorem Fb(l:List (List UInt8)):∀ u∈dw l,u.oneCell'=true:=by
 intro u hu;simp only[dw,List.mem_flatten,List.mem_map] at hu;obtain⟨x,⟨s,_,rfl⟩,hx⟩:=hu;exact uQ s u hx
theorem GK(x:Nat × List UInt8):(wrV x).length=x.2.length+1:=by simp[wrV,cO]
theorem Uh(l:List (Nat × List UInt8))(h:∀ x∈l,x.2.length=16):(iZ l).length=l.length*17:=by
 induction l with
 | nil=>simp[iZ]
 | cons s l ih =>
  have h1:=h s (by simp)
  have h2:=ih (fun x hx=>h x (by simp[hx]))
  simp only[iZ,List.map_cons,List.flatten_cons,List.length_append,List.length_cons] at h2 ⊢;rw[GK,h1,h2];omega
theorem G8(l:List (Nat × List UInt8)):∀ u∈iZ l,u.oneCell'=true:=by
 intro u hu;simp only[iZ,List.mem_flatten,List.mem_map] at hu;obtain⟨x,⟨s,_,rfl⟩,hx⟩:=hu;simp only[wrV,List.mem_cons] at hx;rcases hx with rfl|hx
 ·rfl
 ·exact uQ s.2 u hx
theorem zO{w:World}{B e size g n cap:Nat}{xs:List Value}(h:w.ownsRow B e size (.slice (some ⟨g,0,none⟩) n cap) n xs) :
  ∀ j u,xs[j]?=some u→w.cell? ((⟨g,0,none⟩:Addr).add j)=some u:=h.cells (g:=g) rfl
theorem EG(w:World)(e size:Nat):(w.alloc (.cells #[] e)).ownsRow w.heap.size e size (.slice (some ⟨w.heap.size,0,none⟩) 0 0) 0 [] :=
 ⟨by simp,.inr ⟨w.heap.size,0, #[],rfl,Nat.le_refl _,heap_alloc_new w _,Nat.le_refl _,by unfold maxLen;omega,by simp,by simp⟩⟩
theorem yI{B g cap:Nat}(l:List (List UInt8))(w:World)(h1:1≤l.length)(h2:l.length≤200)(hl:∀ s∈l,s.length=16)
  (ho:w.ownsRow B 261 16 (.slice (some ⟨g,0,none⟩) l.length cap) l.length (dw l)) :
  Calls Tryz.prog 217 #[.slice (some ⟨g,0,none⟩) l.length cap] w fun e w' =>
   ∃ g' cap',e=.returned (.slice (some ⟨g',0,none⟩) l.length cap')∧w'.ownsRow w.heap.size 261 16 (.slice (some ⟨g',0,none⟩) l.length cap') l.length (dw l)∧Below w.heap.size w w':=by
 obtain⟨i0,hi,hz0,hz1,hz2⟩:=info_parts DC;have hn:=zO ho;have hlen:=xM l hl;have h1c:=Fb l;obtain⟨_,cur,hh,_⟩:=gB ho;have hg:g<w.heap.size:=lt_of_some hh
 have HN:Hid (∀ j u,(dw l)[j]?=some u→(w.alloc (.cells #[] 261)).cell? ((⟨g,0,none⟩:Addr).add j)=some u):=fun j u hj=>by
  have:=hn j u hj
  rw[World.cell?_alloc_lt _ _ _ (World.block_lt_of_cell? w _ this)];exact this
 have hq:∀ w:World,(binOp .eql 208 (.slice (some ⟨g,0,none⟩) l.length cap) (.slice none 0 0)).run Tryz.prog w=.ok (.bool false) w:=fun w=>by
  simpa using Lib.run_eql_slice_nil (P:=Tryz.prog) w 208 261 (some ⟨g,0,none⟩) l.length cap 0 0 Tryz.underlying208
 clear hn hh;go_enter Tryz.func217,Tryz.ntmps217
 go_wp2_with (at_builtin;refine wpList_append_lies _ rfl _ _ 208 rfl w.heap.size 261 i0 qR 16 16 Tryz.underlying208 hi hz0 hz1 hz2 rfl (by decide) _ 0 [] rfl (EG w 261 16) ⟨g,0,none⟩ l.length cap (dw l) rfl hlen HN.out h1c (by omega) (by unfold maxLen;omega) (by omega) (by simp) _ rfl ?_;intro g' cap' w1 hown hgrow hat hlt)
 rw[Nat.zero_add] at hown;go_ret
 exact⟨g',cap',rfl,by simpa using hown,((Below.refl _ _).alloc (Nat.le_refl _) _).grown (row:=some w.heap.size) hgrow (by simp) (fun k e=>by
  have:w.heap.size=k:=by simpa using e
  omega)⟩
def DV.made(l:List (List UInt8))(wr:Nat):DV:=⟨l,l,[],wr,-1⟩
theorem DV.D5{l:List (List UInt8)}{wr:Nat}(h1:1≤l.length)(h2:l.length≤200)(hl:∀ s∈l,s.length=16)(hw:wr≤1000000000):(DV.made l wr).ok :=
 ⟨h1,h2,rfl,hl,hl,(fun x hx=>by cases hx),Nat.zero_le _,hw,(by show(-1:Int) ≤ -1;decide),(by show(-1:Int)≤_;decide)⟩
theorem NW{B g cap:Nat}(l:List (List UInt8))(wr:Nat)(w:World)(h1:1≤l.length)(h2:l.length≤200)(hl:∀ s∈l,s.length=16)(hw:wr≤1000000000)
  (ho:w.ownsRow B 261 16 (.slice (some ⟨g,0,none⟩) l.length cap) l.length (dw l)) (hB:B≤w.heap.size) :
  Calls Tryz.prog 152 #[.slice (some ⟨g,0,none⟩) l.length cap,.int .i64 (wr:Int)] w fun e w' =>
   ∃ h:Hd,e=.returned (.pointer (some ⟨h.p,0,none⟩))∧aH B w' h (DV.made l wr)∧Below w.heap.size w w'∧h.bf=g∧w.heap.size≤h.p∧w.heap.size≤h.bs∧h.v2=.slice none 0 0:=by
 have HO:Hid (w.ownsRow B 261 16 (.slice (some ⟨g,0,none⟩) l.length cap) l.length (dw l)):=ho;obtain⟨hbg,cur,hh,_⟩:=gB ho;have hg:g<w.heap.size:=lt_of_some hh;clear ho hh;go_enter Tryz.func152,Tryz.ntmps152
 go_wp2_with fail
 refine(yI l w h1 h2 hl HO.out).mono ?_;rintro e w1 ⟨g',cap',rfl,ho1,hb1⟩;have HO1:Hid (w1.ownsRow w.heap.size 261 16 (.slice (some ⟨g',0,none⟩) l.length cap') l.length (dw l)):=ho1;clear ho1;go_wp2
 go_ret
 have hs1:=hb1.size;obtain⟨hbg1,cur1,hh1,_⟩:=gB HO1.out;have hg1:g'<w1.heap.size:=lt_of_some hh1;refine⟨⟨w1.heap.size,g,cap,g',cap',.slice none 0 0⟩,rfl,⟨DV.D5 h1 h2 hl hw,by show B≤w1.heap.size;omega,?_,?_,?_,World.ownsRow_nil _ _ _ _,?_,fun _=>rfl⟩,hb1.alloc hs1 _,rfl,hs1,hbg1,rfl⟩
 ·exact heap_alloc_new w1 _
 ·refine dA HO.out (fun k e=>?_)
  have:g=k:=by simpa [Value.ownBlock] using e
  subst this;rw[Below.heap_alloc w1 _ g (by omega),hb1.block g hg]
 ·exact ownsRow_base (HO1.out.alloc _) hB
 ·show g≠g';omega
def noughts:List UInt8:=List.replicate 16 0
theorem QY(n:Nat):dw (List.replicate n noughts)=List.replicate (n*16) (.int .u8 0):=by
 have:cO noughts=List.replicate 16 (.int .u8 0):=rfl
 unfold dw;rw[List.map_replicate,this,List.flatten_replicate_replicate]
theorem NZ(n:Nat):(madeCells qR.cells (n*16)).toList=dw (List.replicate n noughts):=by
 rw[QY];apply List.ext_getElem?
 intro j;have hz:qR.cells=Array.replicate 16 (.int .u8 0):=rfl;by_cases hj:j<n*16
 ·have h16:j % 16<16:=Nat.mod_lt _ (by omega)
  have hsz:qR.cells.size=16:=rfl
  have h2:qR.cells[j % 16]! = .int .u8 0:=by
   rw[hz,getElem!_pos _ _ (by simpa using h16),Array.getElem_replicate]
  simp[madeCells,hj,hsz,h2]
 ·simp[madeCells,hj]
theorem Oc{n:Nat}:∀ s∈List.replicate n noughts,s.length=16:=by
 intro s hs;rw[List.eq_of_mem_replicate hs];rfl
theorem zJ(n:Nat)(w:World)(h1:1≤n)(h2:n≤200) :
  Calls Tryz.prog 59 #[.int .i64 (n:Int)] w fun e w' =>
   ∃ h:Hd,e=.returned (.tuple #[.pointer (some ⟨h.p,0,none⟩),.nilIface])∧aH w.heap.size w' h (DV.made (List.replicate n noughts) 0)∧Below w.heap.size w w':=by
 have g1:decide ((n:Int)<1)=false:=by simp;omega
 have g2:decide (200<(n:Int))=false:=by simp;omega
 obtain⟨i0,hi,hz0,hz1,hz2⟩:=info_parts DC;obtain⟨w1,hmk,hown,hgr⟩:=run_make_full (P:=Tryz.prog) w w.heap.size 208 261 i0 qR 16 Tryz.underlying208 hi hz0 hz1 .i64 .i64 n (by rw[hz2];omega) (by unfold maxLen;omega) (Nat.le_refl _)
 rw[NZ] at hown;have HO:Hid (w1.ownsRow w.heap.size 261 16 (.slice (some ⟨w.heap.size,0,none⟩) n n) n (dw (List.replicate n noughts))):=hown;have HB:Hid (Below w.heap.size w w1):=(Below.refl _ _).grown hgr (Nat.le_refl _) (fun k e=>by cases e)
 clear hown hgr hi hz0 hz1 hz2;have hmd:=NW (g:=w.heap.size) (cap:=n) (List.replicate n noughts) 0 w1 (by simpa using h1) (by simpa using h2) Oc (by omega) (by simpa using HO.out) HB.out.size
 rw[List.length_replicate] at hmd;have HM:=hmd;clear hmd;go_enter Tryz.func59,Tryz.ntmps59
 go_wp2_with fail
 refine HM.mono ?_;rintro e w2 ⟨h,rfl,hd,hb,_⟩;clear HM;go_wp2
 go_ret2
 exact⟨h,rfl,hd,HB.out.trans (hb.mono HB.out.size)⟩
theorem SH(l:List (List UInt8))(i:Nat)(h:∀ s∈l,s.length=16)(hi:i<l.length):((dw l).drop (i*16)).take 16=cO (l.getD i []):=by
 induction l generalizing i with
 | nil=>simp at hi
 | cons s l ih =>
  have hs:=h s (by simp)
  have hsl:(cO s).length=16:=by rw[ql,hs]
  have e:dw (s::l)=cO s++dw l:=by simp[dw]
  rw[e]
  cases i with
  | zero=>simp[List.take_append_of_le_length (show 16≤(cO s).length by omega),List.take_of_length_le (show(cO s).length≤16 by omega)]
  | succ i =>
   have h2:=ih i (fun x hx=>h x (by simp[hx])) (by simpa using hi)
   rw[show(i+1)*16=(cO s).length+i*16 by omega,List.drop_append]
   simp only[Nat.add_sub_cancel_left,List.getD_cons_succ];rw[List.drop_of_length_le (by omega),List.nil_append]
   exact h2
theorem QX{w:World}{B g cap:Nat}{l:List (List UInt8)}(ho:w.ownsRow B 261 16 (.slice (some ⟨g,0,none⟩) l.length cap) l.length (dw l))(hl:∀ s∈l,s.length=16)(i:Nat)(hi:i<l.length) :
  w.rangeAt g (i*16) (cO (l.getD i [])):=by
 intro j v hv;rw[← SH l i hl hi] at hv
 rw[ho.cellAt (i*16+j) (by
  have:j<16:=by
   rcases Nat.lt_or_ge j 16 with h|h
   ·exact h
   ·rw[List.getElem?_eq_none (by simp;omega)] at hv;cases hv
  omega)]
 rcases Nat.lt_or_ge j 16 with h|h
 ·rw[List.getElem?_take_of_lt h,List.getElem?_drop] at hv;exact hv
 ·rw[List.getElem?_eq_none (by simp;omega)] at hv;cases hv
def bytesOf(s:List UInt8):ByteArray:=⟨s.toArray⟩
theorem yL{w:World}{g o:Nat}{s:List UInt8}(n cap:Nat)(hn:s.length=n)(h:w.rangeAt g o (cO s)):(convert 206 9 (.slice (some ⟨g,o,none⟩) n cap)).run Tryz.prog w=.ok (.string (bytesOf s)) w:=by
 have:=run_convert_bytes_arg (P:=Tryz.prog) w 206 5 Tryz.underlying206 Tryz.underlying5 g o n cap (s.map fun b=>(b.toNat:Int)) (by simpa using hn) (fun i hi=>by
  have hi':i<s.length:=by omega
  rw[h i (.int .u8 ((s[i]'hi').toNat:Int)) (by simp[cO,List.getElem?_eq_getElem hi'])]
  simp[List.getD,List.getElem?_eq_getElem hi']) 9 Tryz.underlying9
 rw[this]
 congr 2
 simp only[strOfNums,List.map_map,bytesOf]
 congr 2
 have e:((fun n:Int=>UInt8.ofNat n.toNat) ∘ fun b:UInt8=>(b.toNat:Int))=id:=by
  funext b;simp
 rw[e,List.map_id]
theorem kF{B:Nat}{h:Hd}{d:DV}(i:Nat)(w:World)(hd:aH B w h d)(hi:i<d.fl.length) :
  Calls Tryz.prog 135 #[.pointer (some ⟨h.p,0,none⟩),.int .i64 (i:Int)] w fun e w'=>e=.returned (.tuple #[.string (bytesOf (d.seen.getD i [])),.nilIface])∧w'=w:=by
 have HH:=zo i w hd;rw[show d.has (i:Int)=true by unfold DV.has;simp;omega] at HH
 obtain⟨c0,c1,c2,c3,c4,fz⟩:=hd.cells;have hs:=hd.os;rw[← hd.ok.same] at hs hi;have hr:=QX hs hd.ok.l2 i hi
 have hl16:(d.seen.getD i []).length=16:=by
  rw[List.getD_eq_getElem?_getD,List.getElem?_eq_getElem hi];exact hd.ok.l2 _ (List.getElem_mem hi)
 have hcv:=yL 16 16 hl16 hr;have h200:=hd.ok.n2;rw[← hd.ok.same] at c1 c0;have h2:d.seen.length≤200:=by rw[hd.ok.same];exact h200
 clear hd hs hr hl16 h200;generalize d.seen.getD i []=s at hcv ⊢;have HH2:Hid (Calls Tryz.prog 231 #[.pointer (some ⟨h.p,0,none⟩),.int .i64 (i:Int)] w fun e w'=>e=.returned (.bool true)∧w'=w):=HH
 clear HH;go_enter Tryz.func135,Tryz.ntmps135
 go_wp2_with fail
 refine HH2.out.mono ?_;rintro e w' ⟨rfl,hw⟩;have hw':=hw.symm;subst hw';clear hw;go_wp2
 go_ret2
 exact⟨rfl,rfl⟩
end Go.Proofs.YtonhoahnieoebabGreatDoor
