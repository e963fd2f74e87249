/- A write that goes well: from its bounds on. -/
import Derived.Test.YtonhoahnieoebabGreatDoorQADevWrite
import Derived.ProofKit
import Derived.OpenShut
import Derived.ShutString
import Derived.Deep.Grids
import Derived.BigRegion
set_option maxHeartbeats 1000000
set_option maxRecDepth 100000
namespace Go.Proofs.YtonhoahnieoebabGreatDoor
open Go.RowKit
attribute [local go_sem ↓] Go.wp_at_zero Go.wp_at_succ
theorem TV{P:Program}{ops:Array Oper}{rest:List Oper}{op:Oper}{a:Act}{w:World}{Q:Exit→Act→World→Prop}(hgd:op.guard=none)(ty t:TypeId)(x y:Operand)(ho:op.op=.store ty x y)
  (c cells:Array Value) (hx:a.eval x=.pointer (some ⟨w.heap.size,0,none⟩)) (hy:a.eval y=.agg cells)
  (hc:c.size=cells.size) (hi:(P.info? ty).map (·.size)=some cells.size) (h1:∀ v∈cells.toList,v.oneCell'=true)
  (h:wpList P ops Q rest (a.put op.dst undef) (w.alloc (.cells cells t))):wpList P ops Q (op::rest) a (w.alloc (.cells c t)):=by
 refine wpList_store_mid hgd ty x y ho w.heap.size 0 cells hx hy (SY w c t _ hc) hi (by have:=all_oneCell_toArray h1;simpa using this) ?_
 rw[Q7 w c t cells.toList (by simpa using hc) h1]
 simpa using h
theorem GU{B:Nat}{h:Hd}{d1:DV}(i:Nat)(s:ByteArray)(w w1:World)(hd1:aH B w1 h d1)(hB:B≤w1.heap.size)(hs:s.size=16)(hi:i<d1.fl.length)(hw:d1.wr<1000000000)
  (HH:Hid (Calls Tryz.prog 231 #[.pointer (some ⟨h.p,0,none⟩),.int .i64 (i:Int)] w fun e w'=>e=.returned (.bool true)∧w'=w))
  (HF:Hid (Calls Tryz.prog 259 #[.pointer (some ⟨h.p,0,none⟩)] w fun e w'=>e=.returned (.bool false)∧w'=w1)) :
  Calls Tryz.prog 214 #[.pointer (some ⟨h.p,0,none⟩),.int .i64 (i:Int),.string s] w fun e w' =>
   ∃ v:Value,e=.returned .nilIface∧aH B w' { h with v2:=v } (d1.wrote i s.data.toList)∧Kept h.fp w1 w'∧(v.ownBlock=h.v2.ownBlock∨v.ownBlock=some (w1.heap.size+2)):=by
 have h16:((s.size:Int) != 16)=false:=by simp;omega
 have hsl:s.data.toList.length=16:=by simpa using hs
 obtain⟨c0,c1,c2,c3,c4,fz⟩:=hd1.cells;obtain⟨i0,hi0,hz0,hz1,hz2⟩:=info_parts DF;have hlen:(wrV (i,s.data.toList)).length=17:=by rw[GK];simpa using hs
 have hone:∀ u∈wrV (i,s.data.toList),u.oneCell'=true:=fun u hu=>G8 [(i,s.data.toList)] u (by simpa [iZ] using hu)
 have hpl:h.p<w1.heap.size:=(hd1.lt _ (.inl rfl)).2;have hwr:=hd1.ok.few;have fz2:=fz 2;have HD:Hid (aH B w1 h d1):=hd1
 have hzone:∀ v∈([.int .i64 (i:Int),.int .u8 0,.int .u8 0,.int .u8 0,.int .u8 0,.int .u8 0,.int .u8 0,.int .u8 0,.int .u8 0,.int .u8 0,.int .u8 0,.int .u8 0,.int .u8 0,.int .u8 0,.int .u8 0,.int .u8 0,.int .u8 0]:List Value),v.oneCell'=true:=fun v hv=>by
  simp only[List.mem_cons,List.not_mem_nil,or_false] at hv;rcases hv with rfl|rfl|rfl|rfl|rfl|rfl|rfl|rfl|rfl|rfl|rfl|rfl|rfl|rfl|rfl|rfl|rfl<;>rfl
 have hcp:=Jd w1 i s hs;have HZ:Hid (∀ v∈(#[.int .i64 (i:Int),.int .u8 0,.int .u8 0,.int .u8 0,.int .u8 0,.int .u8 0,.int .u8 0,.int .u8 0,.int .u8 0,.int .u8 0,.int .u8 0,.int .u8 0,.int .u8 0,.int .u8 0,.int .u8 0,.int .u8 0,.int .u8 0]:Array Value).toList,v.oneCell'=true):=hzone;have HI2:Hid ((Tryz.prog.info? 266).map (·.size)=some (#[.int .i64 (i:Int),.int .u8 0,.int .u8 0,.int .u8 0,.int .u8 0,.int .u8 0,.int .u8 0,.int .u8 0,.int .u8 0,.int .u8 0,.int .u8 0,.int .u8 0,.int .u8 0,.int .u8 0,.int .u8 0,.int .u8 0,.int .u8 0]:Array Value).size):=RF
 obtain⟨x0,x1,x2,x3,x4,x5,x6,x7,x8,x9,x10,x11,x12,x13,x14,x15,x16,hcs⟩:=NR _ hlen;have HCS:Hid (wrV (i,s.data.toList)=[x0,x1,x2,x3,x4,x5,x6,x7,x8,x9,x10,x11,x12,x13,x14,x15,x16]):=hcs;rw[hcs] at hcp hone;have HONE:Hid (∀ u∈[x0,x1,x2,x3,x4,x5,x6,x7,x8,x9,x10,x11,x12,x13,x14,x15,x16],u.oneCell'=true):=hone;have HMX:Hid (d1.pend.length+1≤maxLen):=by unfold Hid maxLen;omega
 have HNB:Hid ((((w1.alloc (.cells #[x0,x1,x2,x3,x4,x5,x6,x7,x8,x9,x10,x11,x12,x13,x14,x15,x16] 266)).alloc (.cells #[x0,x1,x2,x3,x4,x5,x6,x7,x8,x9,x10,x11,x12,x13,x14,x15,x16] 266)).drew).heap[w1.heap.size+1]?=some (.cells #[x0,x1,x2,x3,x4,x5,x6,x7,x8,x9,x10,x11,x12,x13,x14,x15,x16] 266 (0,0))):=heap_alloc2_new w1 _ _;have HOW:Hid ((((w1.alloc (.cells #[x0,x1,x2,x3,x4,x5,x6,x7,x8,x9,x10,x11,x12,x13,x14,x15,x16] 266)).alloc (.cells #[x0,x1,x2,x3,x4,x5,x6,x7,x8,x9,x10,x11,x12,x13,x14,x15,x16] 266)).drew).ownsRow B 266 17 h.v2 d1.pend.length (iZ d1.pend)):=(hd1.op.alloc _).alloc _;have HSZ:Hid ((((w1.alloc (.cells #[x0,x1,x2,x3,x4,x5,x6,x7,x8,x9,x10,x11,x12,x13,x14,x15,x16] 266)).alloc (.cells #[x0,x1,x2,x3,x4,x5,x6,x7,x8,x9,x10,x11,x12,x13,x14,x15,x16] 266)).drew).heap.size=w1.heap.size+2):=by unfold Hid;simp
 have HBS:Hid (B≤(((w1.alloc (.cells #[x0,x1,x2,x3,x4,x5,x6,x7,x8,x9,x10,x11,x12,x13,x14,x15,x16] 266)).alloc (.cells #[x0,x1,x2,x3,x4,x5,x6,x7,x8,x9,x10,x11,x12,x13,x14,x15,x16] 266)).drew).heap.size):=by unfold Hid;rw[HSZ.out];omega
 have HP:Hid (h.p<(((w1.alloc (.cells #[x0,x1,x2,x3,x4,x5,x6,x7,x8,x9,x10,x11,x12,x13,x14,x15,x16] 266)).alloc (.cells #[x0,x1,x2,x3,x4,x5,x6,x7,x8,x9,x10,x11,x12,x13,x14,x15,x16] 266)).drew).heap.size):=by unfold Hid;rw[HSZ.out];omega
 have HNE:Hid (some h.p≠h.v2.ownBlock):=Ne.symm hd1.apart.2.2.1
 have HC2:Hid ((((w1.alloc (.cells #[x0,x1,x2,x3,x4,x5,x6,x7,x8,x9,x10,x11,x12,x13,x14,x15,x16] 266)).alloc (.cells #[x0,x1,x2,x3,x4,x5,x6,x7,x8,x9,x10,x11,x12,x13,x14,x15,x16] 266)).drew).cell? ⟨h.p,2,none⟩=some h.v2):=by
  unfold Hid;show((w1.alloc (.cells #[x0,x1,x2,x3,x4,x5,x6,x7,x8,x9,x10,x11,x12,x13,x14,x15,x16] 266)).alloc (.cells #[x0,x1,x2,x3,x4,x5,x6,x7,x8,x9,x10,x11,x12,x13,x14,x15,x16] 266)).cell? ⟨h.p,2,none⟩=some h.v2
  rw[World.cell?_alloc_past _ _ _ (by simp;omega),World.cell?_alloc_past _ _ _ hpl];exact c2
 have HF2:Hid ((((w1.alloc (.cells #[x0,x1,x2,x3,x4,x5,x6,x7,x8,x9,x10,x11,x12,x13,x14,x15,x16] 266)).alloc (.cells #[x0,x1,x2,x3,x4,x5,x6,x7,x8,x9,x10,x11,x12,x13,x14,x15,x16] 266)).drew).frozen? ⟨h.p,2,none⟩=false):=by
  unfold Hid;show((w1.alloc (.cells #[x0,x1,x2,x3,x4,x5,x6,x7,x8,x9,x10,x11,x12,x13,x14,x15,x16] 266)).alloc (.cells #[x0,x1,x2,x3,x4,x5,x6,x7,x8,x9,x10,x11,x12,x13,x14,x15,x16] 266)).frozen? ⟨h.p,2,none⟩=false
  rw[World.frozen?_alloc_past _ _ _ (by simp;omega),World.frozen?_alloc_past _ _ _ hpl];exact fz2
 clear hd1 fz hcs hlen hone hzone c0 c1 c3 c4;go_enter Tryz.func214,Tryz.ntmps214
 go_wp2_with fail
 refine HH.out.mono ?_;rintro e w' ⟨rfl,hww⟩;have hw':=hww.symm;subst hw';clear hww;go_wp2_with fail
 refine HF.out.mono ?_;rintro e w' ⟨rfl,hww⟩;have hw':=hww.symm;subst hw';clear hww HH HF h16;go_wp2_with (refine TV (by rfl) 266 266 (.tmp 7) (.tmp 22) (by rfl) _ #[.int .i64 (i:Int),.int .u8 0,.int .u8 0,.int .u8 0,.int .u8 0,.int .u8 0,.int .u8 0,.int .u8 0,.int .u8 0,.int .u8 0,.int .u8 0,.int .u8 0,.int .u8 0,.int .u8 0,.int .u8 0,.int .u8 0,.int .u8 0] (by rfl) (by rfl) rfl HI2.out HZ.out ?_)
 clear hcp HZ HI2;go_region_law (refine step_append_lies _ (by rfl) _ _ 262 (by rfl) B 266 i0 AY 17 24 Tryz.underlying262 hi0 hz0 hz1 hz2 rfl (by decide) h.v2 d1.pend.length (iZ d1.pend) (by rfl) HOW.out ⟨w1.heap.size+1,0,none⟩ 1 1 [x0,x1,x2,x3,x4,x5,x6,x7,x8,x9,x10,x11,x12,x13,x14,x15,x16] (by rfl) (by rfl) (World.news_of_block HNB.out) HONE.out (by decide) HMX.out (by omega) HBS.out (w1.heap.size+2) HSZ.out ?_;intro g cap w2 hown hgrow hat hlt;have q2:=(hgrow.cell_far ⟨h.p,2,none⟩ HP.out HNE.out).trans HC2.out;have q3:=(hgrow.frozen_far ⟨h.p,2,none⟩ HP.out HNE.out).trans HF2.out)
 all_goals
  clear q2 q3;go_wp2_with fail
  have m:Mid B w1 (w2.setCell ⟨h.p,2,none⟩ (.slice (some ⟨g,0,none⟩) (d1.pend.length+1) cap)) h d1 i s.data.toList (.slice (some ⟨g,0,none⟩) (d1.pend.length+1) cap) :=
   Oe HD.out i s.data.toList g cap (by rw[HCS.out];exact hown) (by rw[HCS.out];exact hgrow) hat
  have M:Hid (Mid B w1 (w2.setCell ⟨h.p,2,none⟩ (.slice (some ⟨g,0,none⟩) (d1.pend.length+1) cap)) h d1 i s.data.toList (.slice (some ⟨g,0,none⟩) (d1.pend.length+1) cap)):=m;clear m hown hgrow hat hlt HMX HNB HOW HSZ HBS HP HNE HC2 HF2 HONE HCS c2 fz2 hi0 hz0 hz1 hz2;generalize w2.setCell ⟨h.p,2,none⟩ (.slice (some ⟨g,0,none⟩) (d1.pend.length+1) cap)=w3 at M ⊢;obtain⟨s1,s2,s3⟩:=M.out.reads HD.out hi;have hcl:(cO s.data.toList).length=16:=by rw[ql];exact hsl
  have hone2:=uQ s.data.toList;have hu71:=Tryz.underlying261;have hi71:(Tryz.prog.info? 261).map (·.size)=some (cO s.data.toList).length:=by rw[hcl];exact Ry
  have hii0:(0:Int)≤(i:Int):=by omega
  have hii1:(i:Int)<(d1.fl.length:Int):=by omega
  have hpbs:h.p≠h.bs:=Ne.symm HD.out.apart.2.1;have hNbs:w1.heap.size≠h.bs:=by have:=(HD.out.lt h.bs (.inr (.inr (.inl rfl)))).2;omega
  obtain⟨sv,hsv⟩:∃ sv,sv=cO s.data.toList:=⟨_,rfl⟩;have HSV:Hid (sv=cO s.data.toList):=hsv;rw[← hsv] at s2 hcl hone2 hi71;clear hsv
  go_region_held3 (fun w'=>w'.cell? ⟨h.p,1,none⟩=some (.slice (some ⟨h.bs,0,none⟩) d1.fl.length h.cs)∧w'.rangeAt w1.heap.size 1 sv∧w'.there h.bs (i*16) 16)
   ((go_split_ands;(try simp only[World.rangeAt_drew,World.there_drew] at *);refine⟨?_,?_,?_⟩<;>first|assumption|(apply World.there_setCells;assumption)|(refine World.rangeAt_setCells_apart (by assumption) _ _ _ (by omega))|(rw[World.cell?_setCells_out _ _ _ _ _ (fun e=>absurd e hpbs)];assumption)))
   (fail)
  have hfin:=M.out.fin (w4:=w3.drew) HD.out hi hsl hw rfl ⟨rfl,rfl,rfl⟩;rw[← HSV.out] at hfin;obtain⟨f1,f2,f3,f4⟩:=hfin;have HAT:Hid ((Value.slice (some ⟨g,0,none⟩) (d1.pend.length+1) cap).ownBlock=h.v2.ownBlock∨(Value.slice (some ⟨g,0,none⟩) (d1.pend.length+1) cap).ownBlock=some (w1.heap.size+2)):=M.out.at_;clear s1 s2 s3 hcl hone2 hi71 hu71 hii0 hii1 hpbs hNbs HSV M;have F1:Hid (aH B ((w3.drew.setCells h.bs (i*16) sv).setCell ⟨h.p,3,none⟩ (.int .i64 ((d1.wr:Int)+1))) { h with v2:=.slice (some ⟨g,0,none⟩) (d1.pend.length+1) cap } (d1.wrote i s.data.toList)):=f1
  have F2:Hid (Kept h.fp w1 ((w3.drew.setCells h.bs (i*16) sv).setCell ⟨h.p,3,none⟩ (.int .i64 ((d1.wr:Int)+1)))):=f2;clear f1 f2;generalize w3.drew.setCells h.bs (i*16) sv=w5 at F1 F2 f3 f4 ⊢;go_wp2
  go_ret
  exact⟨_,rfl,F1.out,F2.out,HAT.out⟩
def DV.iC(d:DV):DV:=if d.fail = -1 then d else d.failing (d.fail-1)
theorem DV.Gm(d:DV):d.iC.fl=d.fl:=by unfold DV.iC;split<;>rfl
theorem DV.Gn(d:DV):d.iC.wr=d.wr:=by unfold DV.iC;split<;>rfl
theorem KJ{B:Nat}{h:Hd}{d:DV}(w:World)(hd:aH B w h d)(hn:0<d.fail) :
  Calls Tryz.prog 259 #[.pointer (some ⟨h.p,0,none⟩)] w fun e w'=>e=.returned (.bool false)∧w'=w.setCell ⟨h.p,4,none⟩ (.int .i64 (d.fail-1)):=by
 obtain⟨c0,c1,c2,c3,c4,fz⟩:=hd.cells;have hm:=hd.ok.f2;have g1:(d.fail == -1)=false:=beq_eq_false_iff_ne.2 (by omega)
 have HE:Hid ((d.fail-1 == -1)=false):=beq_eq_false_iff_ne.2 (by omega)
 clear hd;go_enter Tryz.func259,Tryz.ntmps259
 go_wp2
 go_ret
 exact⟨xE HE.out,rfl⟩
theorem Uc{B:Nat}{h:Hd}{d:DV}(i:Nat)(s:ByteArray)(w:World)(hd:aH B w h d)(hB:B≤w.heap.size)(hs:s.size=16)(hi:i<d.fl.length)(hw:d.wr<1000000000)(hf:d.fail≠0) :
  Calls Tryz.prog 214 #[.pointer (some ⟨h.p,0,none⟩),.int .i64 (i:Int),.string s] w fun e w' =>
   ∃ v:Value,e=.returned .nilIface∧aH B w' { h with v2:=v } (d.iC.wrote i s.data.toList)∧Kept h.fp w w'∧∀ k,v.ownBlock=some k→h.v2.ownBlock=some k∨w.heap.size≤k:=by
 have HH:Hid (Calls Tryz.prog 231 #[.pointer (some ⟨h.p,0,none⟩),.int .i64 (i:Int)] w fun e w'=>e=.returned (.bool true)∧w'=w):=by
  have:=zo (i:Int) w hd
  rw[show d.has (i:Int)=true by unfold DV.has;simp;omega] at this
  exact this
 by_cases h1:d.fail = -1
 ·have e:d.iC=d:=by unfold DV.iC;rw[if_pos h1]
  rw[e];refine(GU i s w w hd hB hs hi hw HH (KH w hd h1)).mono ?_;rintro e w' ⟨v,rfl,a,b,c⟩;exact⟨v,rfl,a,b,fun k hk=>by rcases c with c|c<;>rw[c] at hk;exact .inl hk;right;simp at hk;omega⟩
 ·have h2:=hd.ok.f1
  have h3:=hd.ok.f2;have e:d.iC=d.failing (d.fail-1):=by unfold DV.iC;rw[if_neg h1]
  rw[e];have hsz:(w.setCell ⟨h.p,4,none⟩ (.int .i64 (d.fail-1))).heap.size=w.heap.size:=by simp[World.setCell]
  refine(GU i s w (w.setCell ⟨h.p,4,none⟩ (.int .i64 (d.fail-1))) (hd.failing (by omega) (by omega)) (by rw[hsz];exact hB) hs hi hw HH (KJ w hd (by omega))).mono ?_
  rintro e w' ⟨v,rfl,a,b,c⟩;refine⟨v,rfl,a,((Kept.refl _ w).setCell (.inl (.inl rfl)) _).trans b,fun k hk=>?_⟩
  rw[hsz] at c;rcases c with c|c<;>rw[c] at hk
  ·exact .inl hk
  ·right;simp at hk;omega
def chunk(s:ByteArray)(i:Nat):List UInt8:=(s.data.toList.drop (i*16)).take 16
theorem IW(s:ByteArray)(n i:Nat)(hs:s.size=n*16)(hi:i<n):(chunk s i).length=16:=by
 have:s.data.toList.length=n*16:=by simpa using hs
 simp only[chunk,List.length_take,List.length_drop];omega
end Go.Proofs.YtonhoahnieoebabGreatDoor
namespace Go.Proofs.YtonhoahnieoebabGreatDoor
open Go.RowKit Go.ChangeShapes Go.WideShapes
structure aN where
 kind:ByteArray
 a:Int
 b:Int
 c:Int
 d:Int
 s:ByteArray
 ka:Option Addr
 kl:Nat
 kc:Nat
 ks:List Bool
def aN.none_:aN:=⟨⟨#[]⟩,0,0,0,0,⟨#[]⟩,none,0,0,[]⟩
def aN.cells(x:aN):List Value:=[.string x.kind,.int .i64 x.a,.int .i64 x.b,.int .i64 x.c,.int .i64 x.d,.string x.s,.slice x.ka x.kl x.kc]
structure qU(w:World)(x:aN):Prop where
 k1:x.kind.size≤maxLen
 s1:x.s.size≤maxLen
 a1 : -9223372036854775808≤x.a∧x.a≤9223372036854775807
 kl1:x.kl≤maxLen
 keep:Bools w x.ka x.kl x.ks
 kn:x.ka=none→x.kc=0
def lZ(w:World)(la:Option Addr)(len:Nat)(xs:List aN):Prop :=
 xs.length=len∧∀ k,k<len→∃ b off,la=some ⟨b,off,none⟩∧w.rangeAt b (off+k*7) (xs.getD k aN.none_).cells∧qU w (xs.getD k aN.none_)
theorem PY{w w':World}{b o:Nat}{cs:List Value}(h:w.rangeAt b o cs)(hb:Below w.heap.size w w'):w'.rangeAt b o cs:=fun j v hv=>by
 have:=h j v hv
 rw[hb.cell (World.block_lt_of_cell? w _ this)];exact this
theorem lZ.below{w w':World}{la:Option Addr}{len:Nat}{xs:List aN}(h:lZ w la len xs)(hb:Below w.heap.size w w'):lZ w' la len xs:=by
 refine⟨h.1,fun k hk=>?_⟩
 obtain⟨b,off,e,hr,ho⟩:=h.2 k hk;exact⟨b,off,e,PY hr hb,ho.k1,ho.s1,ho.a1,ho.kl1,ho.keep.below hb,ho.kn⟩
section
variable {H:Type} {enc:TypeId × Value→H}
theorem O7{w:World}{fuel:Nat}{v:Value}{x:DataW H × List MemPlace}(h:DataW.trod enc Tryz.prog w 0 (fun _=>true) true fuel 41 [v]=some x) :
  ∃ ka kl kc ks,v=.slice ka kl kc∧kl≤maxLen∧Bools w ka kl ks∧(ka=none→kc=0):=by
 rcases Go.Deep.open_bools Tryz.underlying41 Tryz.underlying4 (by kernel_rfl) h with⟨hcs,_⟩|⟨a,len,cap,Bf,hcs,_,hl,hm,_,hcell⟩
 ·have:v=.slice none 0 0:=by simpa using hcs
  exact⟨none,0,0,[],this,by unfold maxLen;omega,⟨rfl,fun j hj=>by omega⟩,fun _=>rfl⟩
 ·have:v=.slice (some a) len cap:=by simpa using hcs
  refine⟨some a,len,cap,(List.range len).map Bf,this,by omega,⟨by simp,fun j hj=>?_⟩,fun e=>by cases e⟩
  obtain⟨b,off,spot⟩:=a;have h0:=hcell 0 (by omega)
  have hspot:spot=none:=by simpa [Addr.add] using World.cell?_spot h0
  subst hspot;refine⟨b,off,rfl,?_⟩;rw[← Go.WideShapes.add_plain,hcell j (by omega)]
  simp[List.getD,hj]
theorem O3{w:World}{fuel:Nat}{cs:List Value}{x:DataW H × List MemPlace}(h:DataW.trod enc Tryz.prog w 0 (fun _=>true) true fuel 43 cs=some x) :
  ∃ y:aN,cs=y.cells∧qU w y:=by
 obtain⟨xs,n,_,_,hl,hlen,hf⟩:=DataW.trod_struct Tryz.underlying43 h;have h7:cs.length=7:=by rw[hl];kernel_rfl
 have c9:Tryz.prog.cellsOf 9=1:=by kernel_rfl
 have c3:Tryz.prog.cellsOf 3=1:=by kernel_rfl
 have c45:Tryz.prog.cellsOf 41=1:=by kernel_rfl
 match cs,h7,xs,hlen with
 | [v0,v1,v2,v3,v4,v5,v6],_,[y0,y1,y2,y3,y4,y5,y6],_ =>
  have f0:DataW.trod enc Tryz.prog w 0 (fun _=>true) true n 9 [v0]=some y0:=by simpa [c9] using hf 0 _ rfl
  have f1:DataW.trod enc Tryz.prog w 0 (fun _=>true) true n 3 [v1]=some y1:=by simpa [c3] using hf 1 _ rfl
  have f2:DataW.trod enc Tryz.prog w 0 (fun _=>true) true n 3 [v2]=some y2:=by simpa [c3] using hf 2 _ rfl
  have f3:DataW.trod enc Tryz.prog w 0 (fun _=>true) true n 3 [v3]=some y3:=by simpa [c3] using hf 3 _ rfl
  have f4:DataW.trod enc Tryz.prog w 0 (fun _=>true) true n 3 [v4]=some y4:=by simpa [c3] using hf 4 _ rfl
  have f5:DataW.trod enc Tryz.prog w 0 (fun _=>true) true n 9 [v5]=some y5:=by simpa [c9] using hf 5 _ rfl
  have f6:DataW.trod enc Tryz.prog w 0 (fun _=>true) true n 41 [v6]=some y6:=by simpa [c45] using hf 6 _ rfl
  obtain⟨s0,e0,_,m0⟩:=DataW.trod_string Tryz.underlying9 f0;obtain⟨a1,e1,_,w1⟩:=DataW.trod_int Tryz.underlying3 f1;obtain⟨a2,e2,_,_⟩:=DataW.trod_int Tryz.underlying3 f2;obtain⟨a3,e3,_,_⟩:=DataW.trod_int Tryz.underlying3 f3;obtain⟨a4,e4,_,_⟩:=DataW.trod_int Tryz.underlying3 f4;obtain⟨s5,e5,_,m5⟩:=DataW.trod_string Tryz.underlying9 f5;obtain⟨ka,kl,kc,ks,e6,m6,hk,hkn⟩:=O7 f6;simp only[List.cons.injEq,and_true] at e0 e1 e2 e3 e4 e5;subst e0 e1 e2 e3 e4 e5 e6;have b1:=bounds_i64 w1;exact⟨⟨s0,a1,a2,a3,a4,s5,ka,kl,kc,ks⟩,rfl,m0,m5,⟨b1.1,b1.2⟩,m6,hk,hkn⟩
theorem O5{w:World}{la:Option Addr}{len cap fuel:Nat}{x:DataW H × List MemPlace}(h:DataW.trod enc Tryz.prog w 0 (fun _=>true) true fuel 23 [.slice la len cap]=some x) :
  ∃ xs,lZ w la len xs∧len≤maxLen:=by
 rcases Go.Deep.open_slice Tryz.underlying23 h with⟨hcs,_⟩|⟨a,len',cap',m,n,D,Pl,hcs,_,hl,hm,hmm,_,hx⟩
 ·simp at hcs
  obtain⟨rfl,rfl,rfl⟩:=hcs;exact⟨[],⟨rfl,fun k hk=>by omega⟩,by unfold maxLen;omega⟩
 ·simp at hcs
  obtain⟨rfl,rfl,rfl⟩:=hcs;have c47:Tryz.prog.cellsOf 43=7:=by kernel_rfl
  simp only[if_true] at hmm;subst hmm
  have:∀ i,i<len→∃ y:aN,(∀ j,j<7→w.cell? (a.add (i*7+j))=y.cells[j]?)∧qU w y:=fun i hi=>by
   obtain⟨cs',h1,h2⟩:=hx i (by omega)
   obtain⟨y,rfl,hok⟩:=O3 h2;obtain⟨_,_,hc⟩:=World.cells?_some h1;rw[c47] at hc;exact⟨y,fun j hj=>by rw[← Go.Deep.add_add];exact hc j hj,hok⟩
  refine⟨(List.range len).attach.map fun i=>Classical.choose (this i.1 (List.mem_range.1 i.2)),⟨by simp,fun k hk=>?_⟩,by omega⟩
  have hk':=this k hk
  have e:((List.range len).attach.map fun i=>Classical.choose (this i.1 (List.mem_range.1 i.2))).getD k aN.none_=Classical.choose (this k hk):=by
   simp[List.getD,hk]
  rw[e];obtain⟨hc,hok⟩:=Classical.choose_spec (this k hk);obtain⟨b,off,spot⟩:=a;have hc0:=(Classical.choose_spec (this 0 (by omega))).1 0 (by omega)
  have hspot:spot=none:=by
   have h0:w.cell? ((⟨b,off,spot⟩:Addr).add (0*7+0))=some (.string (Classical.choose (this 0 (by omega))).kind):=hc0.trans rfl
   simpa [Addr.add] using World.cell?_spot h0
  subst hspot;refine⟨b,off,rfl,fun j v hv=>?_,hok⟩
  have hj:j<7:=by
   rcases Nat.lt_or_ge j 7 with q|q
   ·exact q
   ·rw[List.getElem?_eq_none (by exact q)] at hv;cases hv
  have:=hc j hj
  rw[Go.WideShapes.add_plain,hv] at this;rw[show off+k*7+j=off+(k*7+j) by omega];exact this
end
def lU(xs:List aN)(most:Nat):Bool:=decide (xs.length≤most∧∀ k,k<xs.length→(xs.getD k aN.none_).s.size≤700∧(xs.getD k aN.none_).kl≤300)
theorem nD{a b:Bool}(h:a=b):Ending.returned (.bool a)=.returned (.bool b):=by rw[h]
theorem zB(la:Option Addr)(len cap most:Nat)(xs:List aN)(w:World)(hT:lZ w la len xs)(_hn:len≤maxLen)(hm:most≤100) :
  Calls Tryz.prog 13 #[.slice la len cap,.int .i64 (most:Int)] w fun e w'=>e=.returned (.bool (lU xs most))∧w'=w:=by
 obtain⟨hlen,hT⟩:=hT;by_cases h20:most<len
 ·have HF:Hid (lU xs most=false):=by unfold Hid lU;simp;omega
  clear hT;go_enter Tryz.func13,Tryz.ntmps13
  go_wp2
  go_ret
  exact⟨nD HF.out.symm,rfl⟩
 ·have HT:Hid (∀ k,k<len→∃ b off,la=some ⟨b,off,none⟩∧w.rangeAt b (off+k*7) (xs.getD k aN.none_).cells∧qU w (xs.getD k aN.none_)):=hT
  have HL:Hid (xs.length=len):=hlen;clear hT hlen;go_enter Tryz.func13,Tryz.ntmps13
  go_wp2
  go_loop [5] (fun i=>∃ k:Nat,k≤len∧i=.int .i64 k∧∀ j,j<k→(xs.getD j aN.none_).s.size≤700∧(xs.getD j aN.none_).kl≤300) (fun i=>len-(intOf i).toNat)
  case atStart=>exact⟨0,Nat.zero_le _,rfl,fun j hj=>by omega⟩
  case round =>
   obtain⟨k,hk,rfl,hall⟩:=hrel;by_cases hlt:k<len
   ·obtain⟨b,off,rfl,hr,hok⟩:=HT.out k hlt
    have c5:w.cell? ⟨b,off+k*7+5,none⟩=some (.string (xs.getD k aN.none_).s):=hr 5 _ rfl;have c6:w.cell? ⟨b,off+k*7+6,none⟩=some (.slice (xs.getD k aN.none_).ka (xs.getD k aN.none_).kl (xs.getD k aN.none_).kc):=hr 6 _ rfl;have hs1:=hok.s1;have hk1:=hok.kl1;unfold maxLen at hs1 hk1
    have HA:Hid ((xs.getD k aN.none_).s.size≤700→(xs.getD k aN.none_).kl≤300→∀ j,j<k+1→(xs.getD j aN.none_).s.size≤700∧(xs.getD j aN.none_).kl≤300):=by
     intro h1 h2 j hj;by_cases e:j=k
     ·rw[e];exact⟨h1,h2⟩
     ·exact hall j (by omega)
    have HF:Hid ((700<(xs.getD k aN.none_).s.size∨300<(xs.getD k aN.none_).kl)→lU xs most=false):=by
     intro h;unfold lU;simp only[decide_eq_false_iff_not];rintro⟨_,q⟩;have:=q k (by rw[HL.out];exact hlt)
     omega
    clear hall hr hok;generalize xs.getD k aN.none_=x at c5 c6 hs1 hk1 HA HF;by_cases h7:700<x.s.size
    ·have g7:decide (700<(x.s.size:Int))=true:=by simp;omega
     go_wp2
     go_ret
     exact⟨nD (HF.out (.inl h7)).symm,rfl⟩
    ·have g7:decide (700<(x.s.size:Int))=false:=by simp;omega
     by_cases h3:300<x.kl
     ·have g3:decide (300<(x.kl:Int))=true:=by simp;omega
      go_wp2
      go_ret
      exact⟨nD (HF.out (.inr h3)).symm,rfl⟩
     ·have g3:decide (300<(x.kl:Int))=false:=by simp;omega
      go_wp2
      go_round
      case rel=>exact⟨k+1,by omega,by go_num,HA.out (by omega) (by omega)⟩
      case measure=>simp[intOf];omega
   ·have HF:Hid (lU xs most=true):=by
     unfold Hid lU;simp only[decide_eq_true_eq];exact⟨by rw[HL.out];omega,fun j hj=>hall j (by have:=HL.out;omega)⟩
    clear hall;go_wp2
    go_ret
    exact⟨nD HF.out.symm,rfl⟩
theorem Et(w:World) :
  Calls Tryz.prog 72 #[.int .i64 16] w fun e w'=>e=.returned (.string (bytesOf noughts))∧Below w.heap.size w w':=by
 obtain⟨i0,hi0,hz0,hz1,hz2⟩:=info_parts Dz;obtain⟨w1,hmk,hown,hgr⟩:=run_make_full (P:=Tryz.prog) w w.heap.size 206 5 i0 (.int .u8 0) 1 Tryz.underlying206 hi0 hz0 hz1 .i64 .i64 16 (by rw[hz2];omega) (by unfold maxLen;omega) (Nat.le_refl _)
 have hmk':(Instr.makeSlice 206 (.int .i64 16) (.int .i64 16)).run Tryz.prog w=.ok (.slice (some ⟨w.heap.size,0,none⟩) 16 16) w1:=hmk;clear hmk;have hb:Below w.heap.size w w1:=(Below.refl _ _).grown hgr (Nat.le_refl _) (fun k e=>by cases e)
 have hr:w1.rangeAt w.heap.size 0 (cO noughts):=fun j v hv=>by
  have hj:j<16:=by
   rcases Nat.lt_or_ge j 16 with q|q
   ·exact q
   ·rw[List.getElem?_eq_none (by exact q)] at hv;cases hv
  rw[Nat.zero_add,hown.cellAt j (by omega)]
  have e:(madeCells (Value.int .u8 0).cells (16*1)).toList=cO noughts:=by
   show(madeCells #[Value.int .u8 0] 16).toList=_
   rw[toList_madeCells_one];rfl
  rw[e];exact hv
 have hcv:=yL 16 16 rfl hr;have HB:Hid (Below w.heap.size w w1):=hb;clear hr hown hgr hb hi0 hz0 hz1 hz2;go_enter Tryz.func72,Tryz.ntmps72
 go_wp2
 go_ret
 exact⟨rfl,HB.out⟩
end Go.Proofs.YtonhoahnieoebabGreatDoor
namespace Go.Proofs.YtonhoahnieoebabGreatDoor
open Go.RowKit
attribute [local go_sem ↓] Go.wp_at_zero Go.wp_at_succ
structure Rh where
 p:Nat
 bf:Nat
 cf:Nat
 v1:Value
 v2:Value
def flS(l:List (List UInt8)):List Value:=l.map fun s=>.string (bytesOf s)
def Rh.fp(q:Rh)(k:Nat):Prop:=k=q.p∨k=q.bf∨q.v1.ownBlock=some k∨q.v2.ownBlock=some k
theorem MX:(Tryz.prog.info? 9).map (fun i=>(i.zero,i.size,i.bytes))=some (some (.string ⟨#[]⟩),1,16):=by kernel_rfl
theorem zx:(Tryz.prog.info? 3).map (fun i=>(i.zero,i.size,i.bytes))=some (some (.int .i64 0),1,8):=by kernel_rfl
theorem ownsRow_kind{w:World}{B e size n:Nat}{v:Value}{xs:List Value}(h:w.ownsRow B e size v n xs)(k:Nat)(hk:v.ownBlock=some k):∃ cur,w.heap[k]?=some (.cells cur e (0,0)):=by
 rcases h.2 with⟨q,_⟩|⟨g,cap,cur,q,_,hg,_⟩
 ·rw[q] at hk;cases hk
 ·rw[q] at hk
  have:g=k:=by simpa [Value.ownBlock] using hk
  subst this;exact⟨cur,hg⟩
theorem aH.kinds{B:Nat}{w:World}{h:Hd}{d:DV}(hd:aH B w h d)(k:Nat)(hk:h.fp k):∃ cur t,w.heap[k]?=some (.cells cur t (0,0))∧(t=264∨t=261∨t=266):=by
 rcases hk with rfl|rfl|rfl|hk
 ·exact⟨_,_,hd.blk,.inl rfl⟩
 ·obtain⟨_,cur,hh,_⟩:=gB hd.of;exact⟨cur,_,hh,.inr (.inl rfl)⟩
 ·obtain⟨_,cur,hh,_⟩:=gB hd.os;exact⟨cur,_,hh,.inr (.inl rfl)⟩
 ·obtain⟨cur,hh⟩:=ownsRow_kind hd.op k hk;exact⟨cur,_,hh,.inr (.inr rfl)⟩
theorem ownsRow_shape{w:World}{B e size n:Nat}{v:Value}{xs:List Value}(h:w.ownsRow B e size v n xs):∃ a cap,v=.slice a n cap:=by
 rcases h.2 with⟨h0,h1⟩|⟨g,cap,cur,hv,_⟩
 ·exact⟨none,0,by rw[h0,h1]⟩
 ·exact⟨_,cap,hv⟩
theorem rQ{w:World}{B e n:Nat}{v:Value}{xs:List Value}(h:w.ownsRow B e 1 v n xs)(k:Nat)(hk:k<n):∃ g cap,v=.slice (some ⟨g,0,none⟩) n cap∧w.cell? ⟨g,k,none⟩=xs[k]?∧g<w.heap.size∧w.frozen? ⟨g,k,none⟩=false:=by
 obtain⟨g,cap,hv,_,hg⟩:=h.form (by omega)
 subst hv;exact⟨g,cap,rfl,h.cellAt k (by omega),hg,h.frozenAt k⟩
theorem qB(s:ByteArray):bytesOf s.data.toList=s:=by
 apply ByteArray.ext
 simp[bytesOf]
def nZ(pend:List (Nat × List UInt8))(l:List (List UInt8)):Nat→List (List UInt8)
 | 0=>l
 | k+1=>(nZ pend l k).set (pend.getD k (0,[])).1 (pend.getD k (0,[])).2
def DV.sn(d:DV):Prop:=d.seen=nZ d.pend d.fl d.pend.length
theorem Lc(l:List (List UInt8)):(flS l).length=l.length:=by simp[flS]
theorem Ld(l:List (List UInt8)):∀ u∈flS l,u.oneCell'=true:=by
 intro u hu;obtain⟨x,_,rfl⟩:=List.mem_map.1 hu;rfl
end Go.Proofs.YtonhoahnieoebabGreatDoor
namespace Go.Proofs.YtonhoahnieoebabGreatDoor
open Go.RowKit
theorem N7(l:List (List UInt8))(wr:Nat):(DV.made l wr).sn:=rfl
theorem yZ{d:DV}(h:d.sn)(n:Int):(d.failing n).sn:=h
theorem Td{d:DV}(h:d.sn):d.iC.sn:=by
 unfold DV.iC;split
 ·exact h
 ·exact yZ h _
theorem LC(d:DV):d.flushed.sn:=rfl
theorem Rk(p r:List (Nat × List UInt8))(l:List (List UInt8))(k:Nat)(hk:k≤p.length):nZ (p++r) l k=nZ p l k:=by
 induction k with
 | zero=>rfl
 | succ k ih =>
  show(nZ (p++r) l k).set _ _=(nZ p l k).set _ _
  rw[ih (by omega)]
  have e:(p++r).getD k (0,[])=p.getD k (0,[]):=by
   rw[List.getD_eq_getElem?_getD,List.getD_eq_getElem?_getD,List.getElem?_append_left (by omega)]
  rw[e]
theorem Uf{d:DV}(h:d.sn)(i:Nat)(s:List UInt8):(d.wrote i s).sn:=by
 unfold DV.sn DV.wrote;show d.seen.set i s=nZ (d.pend++[(i,s)]) d.fl (d.pend++[(i,s)]).length
 rw[List.length_append];show _=(nZ (d.pend++[(i,s)]) d.fl d.pend.length).set _ _
 rw[Rk _ _ _ _ (Nat.le_refl _),← h]
 have e:(d.pend++[(i,s)]).getD d.pend.length (0,[])=(i,s):=by
  rw[List.getD_eq_getElem?_getD,List.getElem?_append_right (Nat.le_refl _)];simp
 rw[e]
end Go.Proofs.YtonhoahnieoebabGreatDoor
namespace Go.Proofs.YtonhoahnieoebabGreatDoor.Crc
def poly:Nat:=3988292384
def stp(s:Nat):Nat:=if s % 2=1 then (s / 2) ^^^ poly else s / 2
def many:Nat→Nat→Nat
 | 0,s=>s
 | n+1,s=>many n (stp s)
theorem D6(a b s:Nat):many (a+b) s=many b (many a s):=by
 induction a generalizing s with
 | zero=>simp[many]
 | succ a ih=>rw[Nat.succ_add];simp only[many];exact ih (stp s)
theorem D9(n s:Nat):many (n+1) s=stp (many n s):=by
 rw[D6 n 1 s];rfl
theorem He(x y:Nat):(x ^^^ y) % 2=(x % 2+y % 2) % 2:=by
 have h:=Nat.testBit_xor x y 0;simp only[Nat.testBit_zero] at h;have h1:(x ^^^ y) % 2=0∨(x ^^^ y) % 2=1:=by omega
 have hx:x % 2=0∨x % 2=1:=by omega
 have hy:y % 2=0∨y % 2=1:=by omega
 rcases h1 with h1|h1<;>rcases hx with hx|hx<;>rcases hy with hy|hy<;>simp[h1,hx,hy] at h ⊢
theorem G9(x y:Nat):(x ^^^ y) / 2=(x / 2) ^^^ (y / 2):=Nat.xor_div_two
theorem RX(x y:Nat):stp (x ^^^ y)=stp x ^^^ stp y:=by
 unfold stp;rw[He,G9];have hx:x % 2=0∨x % 2=1:=by omega
 have hy:y % 2=0∨y % 2=1:=by omega
 rcases hx with hx|hx<;>rcases hy with hy|hy<;>simp[hx,hy]
 ·rw[Nat.xor_assoc]
 ·rw[Nat.xor_assoc,Nat.xor_assoc,Nat.xor_comm (y / 2) poly]
 ·rw[Nat.xor_assoc,← Nat.xor_assoc poly,Nat.xor_comm poly (y / 2),Nat.xor_assoc,Nat.xor_self,Nat.xor_zero]
theorem Ea(n x y:Nat):many n (x ^^^ y)=many n x ^^^ many n y:=by
 induction n generalizing x y with
 | zero=>rfl
 | succ n ih=>simp only[many];rw[RX,ih]
theorem RS(x:Nat):stp (2*x)=x:=by
 unfold stp;rw[if_neg (by omega)];omega
theorem D8(n x:Nat):many n (2 ^ n*x)=x:=by
 induction n generalizing x with
 | zero=>simp[many]
 | succ n ih =>
  simp only[many];rw[Nat.pow_succ,Nat.mul_assoc,Nat.mul_left_comm,RS,ih]
theorem F5(x:Nat)(h:x<4294967296):stp x<4294967296:=by
 unfold stp;split
 ·exact Nat.xor_lt_two_pow (n:=32) (by omega) (by unfold poly;omega)
 ·omega
theorem D7(n x:Nat)(h:x<4294967296):many n x<4294967296:=by
 induction n generalizing x with
 | zero=>exact h
 | succ n ih=>exact ih _ (F5 x h)
def num:List UInt8→Nat
 | []=>0
 | b::l=>b.toNat+256*num l
theorem OM(l:List UInt8):num l<2 ^ (8*l.length):=by
 induction l with
 | nil=>simp[num]
 | cons b l ih =>
  have hb:=b.toNat_lt;simp only[num,List.length_cons];rw[show 8*(l.length+1)=8+8*l.length by omega,Nat.pow_add]
  have:(2:Nat) ^ 8=256:=rfl
  rw[this];omega
theorem add_eq_xor(i x y:Nat)(h:x<2 ^ i):x+2 ^ i*y=x ^^^ (2 ^ i*y):=by
 apply Nat.eq_of_testBit_eq
 intro j;rw[Nat.testBit_xor,Nat.add_comm,Nat.testBit_two_pow_mul_add y h,Nat.testBit_two_pow_mul];by_cases hj:j<i
 ·have:¬j≥i:=by omega
  simp[hj,this]
 ·have hz:x.testBit j=false:=Nat.testBit_lt_two_pow (Nat.lt_of_lt_of_le h (Nat.pow_le_pow_right (by omega) (by omega)))
  have:j≥i:=by omega
  simp[hj,this,hz]
def byt(s:Nat)(b:UInt8):Nat:=many 8 (s ^^^ b.toNat)
def crc(s:Nat)(l:List UInt8):Nat:=l.foldl byt s
theorem BX(s:Nat)(l m:List UInt8):crc s (l++m)=crc (crc s l) m:=by
 simp[crc]
theorem Jj(s:Nat)(l:List UInt8):crc s l=many (8*l.length) (s ^^^ num l):=by
 induction l generalizing s with
 | nil=>simp[crc,num,many]
 | cons b l ih =>
  have e:crc s (b::l)=crc (byt s b) l:=rfl;have hb:=b.toNat_lt
  have hn:num (b::l)=b.toNat ^^^ (2 ^ 8*num l):=by
   rw[← add_eq_xor 8 _ _ (by omega)];rfl
  rw[e,ih,hn,List.length_cons,show 8*(l.length+1)=8+8*l.length by omega,D6,← Nat.xor_assoc,Ea 8,D8];rfl
theorem Iz(s:Nat)(b:UInt8)(h:s<4294967296):byt s b<4294967296:=by
 have hb:=b.toNat_lt;exact D7 _ _ (Nat.xor_lt_two_pow (n:=32) (by omega) (by omega))
theorem BZ(s:Nat)(l:List UInt8)(h:s<4294967296):crc s l<4294967296:=by
 induction l generalizing s with
 | nil=>exact h
 | cons b l ih=>exact ih _ (Iz s b h)
def ones:Nat:=4294967295
def more(s:Nat)(l:List UInt8):Nat:=crc (s ^^^ ones) l ^^^ ones
def total(l:List UInt8):Nat:=crc ones l ^^^ ones
theorem AL(l:List UInt8):total l<4294967296 :=
 Nat.xor_lt_two_pow (n:=32) (BZ _ _ (by unfold ones;omega)) (by unfold ones;omega)
theorem Oi(l m:List UInt8):more (total l) m=total (l++m):=by
 unfold more total;rw[Nat.xor_assoc,Nat.xor_self,Nat.xor_zero,BX]
theorem Tj:total []=0:=by simp[total,crc]
def bitwise(n i:Nat):Nat:=many i (ones ^^^ (n % 2 ^ i))
theorem Bd(n:Nat):bitwise n 0=ones:=by simp[bitwise,many,Nat.mod_one]
theorem Bc(n i:Nat):bitwise n (i+1)=stp (bitwise n i ^^^ (n / 2 ^ i % 2)):=by
 have h:n % 2 ^ (i+1)=(n % 2 ^ i) ^^^ (2 ^ i*(n / 2 ^ i % 2)):=by
  rw[← add_eq_xor i _ _ (Nat.mod_lt _ (Nat.two_pow_pos i)),Nat.pow_succ,Nat.mod_mul]
 unfold bitwise;rw[h,← Nat.xor_assoc,D9,Ea,D8]
theorem Iu(n i:Nat):bitwise n i<4294967296:=by
 induction i with
 | zero=>rw[Bd];unfold ones;omega
 | succ i ih =>
  rw[Bc];exact F5 _ (Nat.xor_lt_two_pow (n:=32) ih (by have:=Nat.mod_lt (n / 2 ^ i) (show 0<2 by omega);omega))
theorem Ir(l:List UInt8):bitwise (num l) (8*l.length)=crc ones l:=by
 rw[Jj];unfold bitwise;rw[Nat.mod_eq_of_lt (OM l)]
theorem OL(l:List UInt8)(i:Nat)(h:i<8*l.length):num l / 2 ^ i % 2=(l[i / 8]'(by omega)).toNat / 2 ^ (i % 8) % 2:=by
 induction l generalizing i with
 | nil=>simp at h
 | cons b l ih =>
  have hb:=b.toNat_lt;by_cases hi:i<8
  ·have e0:i / 8=0:=by omega
   have e1:i % 8=i:=by omega
   simp only[e0,e1,List.getElem_cons_zero,num]
   have h8:(256:Nat)=2 ^ i*(2*2 ^ (7-i)):=by
    rw[← Nat.mul_assoc,Nat.mul_comm (2 ^ i) 2,Nat.mul_assoc,← Nat.pow_add,show i+(7-i)=7 by omega]
   rw[h8,Nat.mul_assoc,Nat.add_mul_div_left _ _ (Nat.two_pow_pos i),Nat.mul_assoc,Nat.add_mul_mod_self_left]
  ·obtain⟨j,rfl⟩:∃ j,i=j+8:=⟨i-8,by omega⟩
   have e0:(j+8) / 8=j / 8+1:=by omega
   have e1:(j+8) % 8=j % 8:=by omega
   simp only[e0,e1,List.getElem_cons_succ,num];rw[← ih j (by simp only[List.length_cons] at h;omega),Nat.pow_add,Nat.mul_comm (2 ^ j),← Nat.div_div_eq_div_mul]
   congr 2
   have:(2:Nat) ^ 8=256:=rfl
   rw[this];omega
theorem FZ(s b:Nat)(hb:b<2):stp (s ^^^ b)=if (s % 2) ^^^ b=1 then (s / 2) ^^^ poly else s / 2:=by
 unfold stp;rw[He,G9];have hs:s % 2=0∨s % 2=1:=by omega
 have hb':b=0∨b=1:=by omega
 rcases hs with hs|hs<;>rcases hb' with rfl|rfl<;>simp[hs]
end Go.Proofs.YtonhoahnieoebabGreatDoor.Crc
