/- A bucket of tokens (package bucket), and the document's own (package stackyardref): how each lies in memory, and what each call on it gives. -/
import Derived.Test.YtonhoahnieoebabGreatDoorQABitsNext
import Derived.Lib.Slices
set_option maxHeartbeats 400000
set_option maxRecDepth 100000
namespace Go.Proofs.YtonhoahnieoebabGreatDoor.S4
open Go.RowKit
attribute [local go_sem ↓] Go.wp_at_zero Go.wp_at_succ
def Three(t:TypeId)(w:World)(p:Nat)(r b l:Int):Prop:=w.heap[p]?=some (.cells #[.int .i64 r,.int .i64 b,.int .i64 l] t (0,0))
theorem Three.cells{t:TypeId}{w:World}{p:Nat}{r b l:Int}(h:Three t w p r b l) :
  w.cell? ⟨p,0,none⟩=some (.int .i64 r)∧w.cell? ⟨p,1,none⟩=some (.int .i64 b)∧w.cell? ⟨p,2,none⟩=some (.int .i64 l)∧w.frozen? ⟨p,2,none⟩=false:=by
 have h':w.heap[p]?=_:=h;refine⟨?_,?_,?_,?_⟩<;>simp[World.cell?,World.frozen?,h']
theorem Three.set{t:TypeId}{w:World}{p:Nat}{r b l:Int}(h:Three t w p r b l)(l':Int):Three t (w.setCell ⟨p,2,none⟩ (.int .i64 l')) p r b l':=by
 unfold Three;rw[heap_setCell_same w p 2 _ _ _ h];rfl
theorem Three.below{t:TypeId}{w w':World}{p:Nat}{r b l:Int}(h:Three t w p r b l)(hb:Below w.heap.size w w'):Three t w' p r b l :=
 (hb.block p (lt_of_some h)).trans h
theorem Oz(w:World)(o:Obj):(w.alloc o).heap[w.heap.size]?=some o:=by
 show(w.heap.push o)[w.heap.size]?=some o
 simp
def inB(n most:Int):Bool:=decide (0≤n∧n≤most)
theorem gU(n most:Int)(w:World):Calls Tryz.prog 197 #[.int .i64 n,.int .i64 most] w fun e w'=>e=.returned (.bool (inB n most))∧w'=w:=by
 by_cases h0:0≤n
 ·have g0:decide (0≤n)=true:=decide_eq_true h0
  have HF:Hid (decide (n≤most)=inB n most):=by unfold Hid inB;simp[h0]
  go_enter Tryz.func197,Tryz.ntmps197
  go_wp2
  go_ret
  exact⟨nD HF.out,rfl⟩
 ·have g0:decide (0≤n)=false:=decide_eq_false h0
  have HF:Hid (false=inB n most):=by unfold Hid inB;simp[h0]
  go_enter Tryz.func197,Tryz.ntmps197
  go_wp2
  go_ret
  exact⟨nD HF.out,rfl⟩
theorem Iw(r b:Int)(w:World)(h:(inB r 1000&&inB b 1000)=false) :
  Calls Tryz.prog 83 #[.int .i64 r,.int .i64 b] w fun e w'=>e=.returned (.tuple #[.pointer none,.iface 127 (.int .i64 1)])∧w'=w:=by
 have h1:=gU r 1000 w;have h2:=gU b 1000 w
 cases e1:inB r 1000 with
 | false =>
  rw[e1] at h1;go_enter Tryz.func83,Tryz.ntmps83
  go_wp2_with fail
  refine h1.mono ?_;rintro e w' ⟨rfl,hw⟩;have hw':=hw.symm;subst hw';clear hw;go_wp2
  go_ret2
  exact⟨rfl,rfl⟩
 | true =>
  have e2:inB b 1000=false:=by simpa [e1] using h
  rw[e1] at h1;rw[e2] at h2;go_enter Tryz.func83,Tryz.ntmps83
  go_wp2_with fail
  refine h1.mono ?_;rintro e w' ⟨rfl,hw⟩;have hw':=hw.symm;subst hw';clear hw;go_wp2_with fail
  refine h2.mono ?_;rintro e w' ⟨rfl,hw⟩;have hw':=hw.symm;subst hw';clear hw;go_wp2
  go_ret2
  exact⟨rfl,rfl⟩
theorem Bh(r b:Int)(w:World)(e1:inB r 1000=true)(e2:inB b 1000=true) :
  Calls Tryz.prog 83 #[.int .i64 r,.int .i64 b] w fun e w'=>e=.returned (.tuple #[.pointer (some ⟨w.heap.size,0,none⟩),.nilIface])∧Three 245 w' w.heap.size r b b∧Below w.heap.size w w':=by
 have h1:=gU r 1000 w;have h2:=gU b 1000 w;rw[e1] at h1;rw[e2] at h2;go_enter Tryz.func83,Tryz.ntmps83
 go_wp2_with fail
 refine h1.mono ?_;rintro e w' ⟨rfl,hw⟩;have hw':=hw.symm;subst hw';clear hw;go_wp2_with fail
 refine h2.mono ?_;rintro e w' ⟨rfl,hw⟩;have hw':=hw.symm;subst hw';clear hw h1 h2;go_wp2
 go_ret2
 exact⟨rfl,Oz w _,(Below.refl _ w).alloc (Nat.le_refl _) _⟩
theorem S9{p:Nat}(n:Int)(w:World)(h:inB n 100000=false) :
  Calls Tryz.prog 205 #[.pointer (some ⟨p,0,none⟩),.int .i64 n] w fun e w'=>e=.returned (.iface 127 (.int .i64 1))∧w'=w:=by
 have h1:=gU n 100000 w;rw[h] at h1;go_enter Tryz.func205,Tryz.ntmps205
 go_wp2_with fail
 refine h1.mono ?_;rintro e w' ⟨rfl,hw⟩;have hw':=hw.symm;subst hw';clear hw;go_wp2
 go_ret
 exact⟨rfl,rfl⟩
def nJ(r b l n:Int):Int:=if b<l+n*r then b else l+n*r
theorem Three.drew{t:TypeId}{w:World}{p:Nat}{r b l:Int}(h:Three t w p r b l):Three t w.drew p r b l:=h
theorem Tc{p:Nat}{r b l:Int}(n:Int)(w:World)(h:Three 245 w p r b l)(hn:inB n 100000=true)(hr:0≤r∧r≤1000)(hl:0≤l∧l≤1000) :
  Calls Tryz.prog 205 #[.pointer (some ⟨p,0,none⟩),.int .i64 n] w fun e w'=>e=.returned .nilIface∧Three 245 w' p r b (nJ r b l n)∧Kept (fun k=>k=p) w w':=by
 have HH:Hid (Three 245 w p r b l):=h;obtain⟨c0,c1,c2,fz⟩:=h.cells;clear h;have h1:=gU n 100000 w;rw[hn] at h1;have hn':0≤n∧n≤100000:=by unfold inB at hn;simpa using hn
 have e1:IntKind.i64.wrap (n*r)=n*r:=by
  have:0≤n*r:=Int.mul_nonneg hn'.1 hr.1
  have:n*r≤100000*1000:=Int.mul_le_mul hn'.2 hr.2 hr.1 (by omega)
  exact IntWalk.i64_in _ (by omega)
 have e2:IntKind.i64.wrap (l+n*r)=l+n*r:=by
  have:0≤n*r:=Int.mul_nonneg hn'.1 hr.1
  have:n*r≤100000*1000:=Int.mul_le_mul hn'.2 hr.2 hr.1 (by omega)
  exact IntWalk.i64_in _ (by omega)
 by_cases hb:b<l+n*r
 ·have HV:Hid (nJ r b l n=b):=by unfold Hid nJ;rw[if_pos hb]
  go_enter Tryz.func205,Tryz.ntmps205
  go_wp2_with fail
  refine h1.mono ?_;rintro e w' ⟨rfl,hw⟩;have hw':=hw.symm;subst hw';clear hw;go_wp2_with fail
  go_region
  go_wp2
  go_ret
  exact⟨rfl,by rw[HV.out];first|exact(HH.out.set _).drew|(rw[show min (l+n*r) b=b by omega];exact(HH.out.set _).drew),(Kept.setCell (S:=fun k=>k=p) (Kept.refl _ w) (p:=⟨p,2,none⟩) (.inl rfl) _).drew⟩
 ·have HV:Hid (nJ r b l n=l+n*r):=by unfold Hid nJ;rw[if_neg hb]
  go_enter Tryz.func205,Tryz.ntmps205
  go_wp2_with fail
  refine h1.mono ?_;rintro e w' ⟨rfl,hw⟩;have hw':=hw.symm;subst hw';clear hw;go_wp2_with fail
  go_region
  go_wp2
  go_ret
  exact⟨rfl,by rw[HV.out];first|exact(HH.out.set _).drew|(rw[show min (l+n*r) b=l+n*r by omega];exact(HH.out.set _).drew),(Kept.setCell (S:=fun k=>k=p) (Kept.refl _ w) (p:=⟨p,2,none⟩) (.inl rfl) _).drew⟩
def jU(l n:Int):Int:=if inB n l then l-n else l
theorem vS{p:Nat}{r b l:Int}(n:Int)(w:World)(h:Three 245 w p r b l)(hl:0≤l∧l≤1000) :
  Calls Tryz.prog 193 #[.pointer (some ⟨p,0,none⟩),.int .i64 n] w fun e w'=>e=.returned (.bool (inB n l))∧Three 245 w' p r b (jU l n)∧Kept (fun k=>k=p) w w':=by
 have HH:Hid (Three 245 w p r b l):=h;obtain⟨c0,c1,c2,fz⟩:=h.cells;clear h;have h1:=gU n l w
 cases hn:inB n l with
 | false =>
  rw[hn] at h1;have HV:Hid (jU l n=l):=by unfold Hid jU;simp[hn]
  go_enter Tryz.func193,Tryz.ntmps193
  go_wp2_with fail
  refine h1.mono ?_;rintro e w' ⟨rfl,hw⟩;have hw':=hw.symm;subst hw';clear hw;go_wp2
  go_ret
  exact⟨rfl,by rw[HV.out];exact HH.out,Kept.refl _ w⟩
 | true =>
  rw[hn] at h1;have hn':0≤n∧n≤l:=by unfold inB at hn;simpa using hn
  have HV:Hid (jU l n=l-n):=by unfold Hid jU;simp[hn]
  have e2:IntKind.i64.wrap (l-n)=l-n:=IntWalk.i64_in _ (by omega)
  go_enter Tryz.func193,Tryz.ntmps193
  go_wp2_with fail
  refine h1.mono ?_;rintro e w' ⟨rfl,hw⟩;have hw':=hw.symm;subst hw';clear hw;go_wp2
  go_ret
  exact⟨rfl,by rw[HV.out];exact HH.out.set _,Kept.setCell (S:=fun k=>k=p) (Kept.refl _ w) (p:=⟨p,2,none⟩) (.inl rfl) _⟩
theorem Gl{r b l n:Int}(hr:0≤r)(hl:0≤l)(hb:0≤b)(hn:0≤n):0≤nJ r b l n∧nJ r b l n≤b:=by
 have h0:0≤n*r:=Int.mul_nonneg hn hr;unfold nJ;split<;>omega
end Go.Proofs.YtonhoahnieoebabGreatDoor.S4
namespace Go.Proofs.YtonhoahnieoebabGreatDoor
open Go.RowKit
structure JV where
 rt:Int
 kind:Int
 file:Int
 rate:Int
 burst:Int
 l:List Int
 deep:Nat
 n:Nat
 x:Nat
 last:Int
 stage:Int
 lv:Int
def JV.above(j:JV):List Int:=j.l.take j.deep
def JV.eY(j:JV)(s:SV)(c:Int):Bool:=if j.kind=1 then true else if j.kind=2 then decide (0<s.found j.above c) else decide (0≤s.found j.above c)
def JV.state(j:JV):Int:=if j.stage=1∧S4.cnt j.x 64=0 then 3 else j.stage
def JV.into(j:JV):Int:=if j.kind=2 then j.l.headD 0 else j.file
def JV.some(j:JV):Bool:=S4.rO (S4.elems j.x)
def JV.pick(j:JV):Int:=S4.pR (S4.elems j.x) (j.last+1)
def JV.took(j:JV):JV:={ j with lv:=j.lv-4 }
def JV.went(j:JV)(c:Int):JV:={ j with x:=S4.eP j.n j.x c false,last:=c,lv:=j.lv-4 }
def JV.put(j:JV)(x:Nat):JV:={ j with x:=x }
def JV.at(j:JV)(st:Int):JV:={ j with stage:=st }
def JV.fell(j:JV):JV:={ j with stage:=5,lv:=j.lv-4 }
def JV.moved(j:JV)(s:SV)(c:Int):SV × Int:=s.move j.into c (s.read j.l c).1
def stepS(s:SV)(j:JV):SV:=if j.stage=1∧j.some=true∧S4.inB 4 j.lv=true∧j.eY s j.pick=true then (j.moved s j.pick).1 else s
def stepJ(s:SV)(j:JV):JV:=if j.stage=1∧j.some=true∧S4.inB 4 j.lv=true then (if j.eY s j.pick=true∧(j.moved s j.pick).2≠0 then j.fell else j.went j.pick) else j
def jG(s:SV)(j:JV):Bool:=decide (j.stage=1∧j.some=true∧S4.inB 4 j.lv=true∧¬(j.eY s j.pick=true∧(j.moved s j.pick).2≠0))
def eU(s:SV)(j:JV):Int:=if j.stage=1 then (if j.some=true∧S4.inB 4 j.lv=true∧j.eY s j.pick=true then (j.moved s j.pick).2 else 0) else 9
def SV.cZ(s:SV)(n:Int):SV:=match s.file n with
 | none=>s
 | some v=>s.upd n.toNat v.flush
def SV.bQ(s:SV)(l:List Int):SV:=l.foldl SV.cZ s
theorem SV.y8(s:SV)(l:List Int)(n:Int):s.bQ (l++[n])=(s.bQ l).cZ n:=by
 unfold SV.bQ;rw[List.foldl_append];rfl
def bI(s:SV)(n back:Int):SV × Int:=match s.file n with
 | none=>(s,4)
 | some v=>(s.upd n.toNat (v.link back),v.kC back)
def aF(s:SV)(j:JV):SV:=if j.state=3 then (if j.kind=2 then (bI s (j.l.headD 0) j.file).1 else s.bQ (s.walk j.file).1) else s
def dH(s:SV)(j:JV):Int:=if j.state=3 then (if j.kind=2 then (bI s (j.l.headD 0) j.file).2 else (s.walk j.file).2) else 9
def aK(s:SV)(j:JV):JV:=if j.state=3∧j.kind=2∧(bI s (j.l.headD 0) j.file).2≠0 then j.at 5 else j
def gQ(j:JV)(on:Bool):JV:=if on=true then (if j.stage=1 then j.at 2 else j) else (if j.stage=2 then j.at 1 else j)
def mJ(j:JV)(on:Bool):Int:=if on=true then (if j.stage=1 then 0 else 9) else (if j.stage=2 then 0 else 9)
def dD(j:JV)(c:Int):JV:=if j.kind=2∨4≤j.stage then j else j.put (S4.eP j.n j.x c true)
def gG(j:JV)(n:Int):JV:=if S4.inB n 100000=true then { j with lv:=S4.nJ j.rate j.burst j.lv n } else j
def kR(j:JV)(well:Bool):JV:=j.at (if well=true then 4 else 5)
structure JOk(s:SV)(C:Nat)(j:JV):Prop where
 good:s.good (C:Int) j.l
 ne:j.l≠[]
 len:j.l.length≤5
 n:j.n=C
 c40:C≤40
 set:S4.je j.n j.x
 kind:j.kind=1∨j.kind=2∨j.kind=3
 file:j.kind≠2→∃ v,s.file j.file=some v
 deep:j.deep≤j.l.length
 idx:j.kind≠1→(Lib.idxOf j.l j.file=(j.deep:Int)∧j.deep<j.l.length)∨(Lib.idxOf j.l j.file = -1∧j.deep=j.l.length)
 stage:j.stage=1∨j.stage=2∨j.stage=4∨j.stage=5
 last : -1≤j.last∧j.last<64
 rate:0≤j.rate∧j.rate≤1000
 lv:0≤j.lv∧j.lv≤j.burst∧j.burst≤1000
theorem OD{x:Nat}{f:Int}(h:S4.rO (S4.elems x)=true):∃ k:Nat,S4.pR (S4.elems x) f=(k:Int)∧k∈S4.elems x:=by
 unfold S4.pR;split
 ·next k hk=>exact⟨k,rfl,List.mem_of_find?_eq_some hk⟩
 ·cases hx:S4.elems x with
  | nil=>rw[hx] at h;cases h
  | cons y r=>exact⟨y,rfl,List.mem_cons_self⟩
theorem JOk.pick{s:SV}{C:Nat}{j:JV}(h:JOk s C j)(hs:j.some=true):∃ k:Nat,j.pick=(k:Int)∧k<C∧k<64:=by
 obtain⟨k,h1,h2⟩:=OD (f:=j.last+1) hs;obtain⟨h3,h4⟩:=(S4.yS j.x 64 k).1 h2;refine⟨k,h1,?_,h3⟩;have hn:=h.n;by_cases hk:k<j.n
 ·omega
 ·rw[h.set.hi k (by omega)] at h4;cases h4
theorem JOk.root{s:SV}{C:Nat}{j:JV}(h:JOk s C j):∃(n:Int) (r:List Int) (v:IV),j.l=n::r∧s.file n=some v∧v.h.c=C:=by
 cases hl:j.l with
 | nil=>exact absurd hl h.ne
 | cons n r =>
  obtain⟨v,h1,h2⟩:=h.good n (by rw[hl];exact List.mem_cons_self)
  exact⟨n,r,v,rfl,h1,h2⟩
theorem JOk.into{s:SV}{C:Nat}{j:JV}(h:JOk s C j):∃ v,s.file j.into=some v:=by
 unfold JV.into;by_cases hk:j.kind=2
 ·rw[if_pos hk]
  obtain⟨n,r,v,h1,h2,_⟩:=h.root;rw[h1];exact⟨v,h2⟩
 ·rw[if_neg hk];exact h.file hk
theorem JOk.read{s:SV}{C m:Nat}{j:JV}(h:JOk s C j)(hok:s.ok m){k:Nat}(hk:k<C):(s.read j.l (k:Int)).2=0∧(s.read j.l (k:Int)).1.size=64 :=
 SV.kF h.good hok h.ne ⟨by omega,by omega⟩
structure SV.alike(s z:SV):Prop where
 head:∀ n v,s.file n=some v→∃ u,z.file n=some u∧u.h.c=v.h.c
theorem SV.alike.refl(s:SV):s.alike s:=⟨fun _ v h=>⟨v,h,rfl⟩⟩
theorem SV.alike.trans{a b c:SV}(h:a.alike b)(k:b.alike c):a.alike c:=⟨fun n v hv=>by
 obtain⟨u,h1,h2⟩:=h.head n v hv;obtain⟨t,h3,h4⟩:=k.head n u h1
 exact⟨t,h3,h4.trans h2⟩⟩
theorem SV.alike.upd{s:SV}{n:Int}{v u:IV}(hf:s.file n=some v)(hc:u.h.c=v.h.c):s.alike (s.upd n.toNat u):=⟨fun k t ht=>by
 rw[SV.fM hf];by_cases e:k=n
 ·rw[if_pos e]
  rw[e,hf] at ht;cases ht
  exact⟨u,rfl,hc⟩
 ·rw[if_neg e];exact⟨t,ht,rfl⟩⟩
theorem IV.NK(v:IV)(b:Int):(v.link b).h.c=v.h.c:=by
 unfold IV.link;split
 ·unfold IV.gJ
  split<;>rfl
 ·rfl
theorem SV.alike.move(s:SV)(n c:Int)(t:ByteArray):s.alike (s.move n c t).1:=by
 unfold SV.move;split
 ·exact .refl s
 ·next v hf =>
  split
  ·exact .upd hf (by rw[IV.rC])
  ·split
   ·exact .upd hf (by rw[IV.yx])
   ·exact .upd hf (by rw[IV.wK])
theorem SV.alike.link(s:SV)(n b:Int):s.alike (bI s n b).1:=by
 unfold bI;split
 ·exact .refl s
 ·next v hf=>exact .upd hf (IV.NK v b)
theorem SV.alike.cZ(s:SV)(n:Int):s.alike (s.cZ n):=by
 unfold SV.cZ;split
 ·exact .refl s
 ·next v hf=>exact .upd hf rfl
theorem SV.alike.bQ(l:List Int):∀ s:SV,s.alike (s.bQ l):=by
 induction l with
 | nil=>intro s;exact .refl s
 | cons n r ih=>intro s;exact(SV.alike.cZ s n).trans (ih _)
theorem JOk.over{s z:SV}{C:Nat}{j:JV}(h:JOk s C j)(ha:s.alike z):JOk z C j :=
 { h with
  good:=fun n hn=>by
   obtain⟨v,h1,h2⟩:=h.good n hn;obtain⟨u,h3,h4⟩:=ha.head n v h1;exact⟨u,h3,h4.trans h2⟩
  file:=fun hk=>by
   obtain⟨v,h1⟩:=h.file hk;obtain⟨u,h3,_⟩:=ha.head _ v h1
   exact⟨u,h3⟩ }
theorem JOk.at{s:SV}{C:Nat}{j:JV}(h:JOk s C j){st:Int}(hs:st=1∨st=2∨st=4∨st=5):JOk s C (j.at st):={ h with stage:=hs }
theorem JOk.put{s:SV}{C:Nat}{j:JV}(h:JOk s C j)(c:Int)(b:Bool):JOk s C (j.put (S4.eP j.n j.x c b)):={ h with set:=S4.xu h.set c b }
theorem JOk.went{s:SV}{C:Nat}{j:JV}(h:JOk s C j)(hl:S4.inB 4 j.lv=true){k:Nat}(hk:k<64):JOk s C (j.went (k:Int)):=by
 have h4:4≤j.lv:=by unfold S4.inB at hl;simp at hl;omega
 exact { h with set:=S4.xu h.set _ _,last:=⟨by show -1≤(k:Int);omega,by show(k:Int)<64;omega⟩,lv:=⟨by show 0≤j.lv-4;omega,by show j.lv-4≤j.burst;have:=h.lv;omega,h.lv.2.2⟩ }
theorem JOk.fell{s:SV}{C:Nat}{j:JV}(h:JOk s C j)(hl:S4.inB 4 j.lv=true):JOk s C j.fell:=by
 have h4:4≤j.lv:=by unfold S4.inB at hl;simp at hl;omega
 exact { h with stage:=.inr (.inr (.inr rfl)),lv:=⟨by show 0≤j.lv-4;omega,by show j.lv-4≤j.burst;have:=h.lv;omega,h.lv.2.2⟩ }
theorem JOk.step{s:SV}{C:Nat}{j:JV}(h:JOk s C j):JOk (stepS s j) C (stepJ s j):=by
 have ha:s.alike (stepS s j):=by
  unfold stepS;split
  ·exact .move s _ _ _
  ·exact .refl s
 have hj:JOk s C (stepJ s j):=by
  unfold stepJ;split
  ·next hx =>
   obtain⟨k,h1,_,h3⟩:=h.pick hx.2.1;split
   ·exact h.fell hx.2.2
   ·rw[h1];exact h.went hx.2.2 h3
  ·exact h
 exact hj.over ha
theorem JOk.settle{s:SV}{C:Nat}{j:JV}(h:JOk s C j):JOk (aF s j) C (aK s j):=by
 have ha:s.alike (aF s j):=by
  unfold aF;split
  ·split
   ·exact .link s _ _
   ·exact .bQ _ s
  ·exact .refl s
 have hj:JOk s C (aK s j):=by
  unfold aK;split
  ·exact h.at (.inr (.inr (.inr rfl)))
  ·exact h
 exact hj.over ha
theorem JOk.pause{s:SV}{C:Nat}{j:JV}(h:JOk s C j)(on:Bool):JOk s C (gQ j on):=by
 unfold gQ;split
 ·split
  ·exact h.at (.inr (.inl rfl))
  ·exact h
 ·split
  ·exact h.at (.inl rfl)
  ·exact h
theorem JOk.dirty{s:SV}{C:Nat}{j:JV}(h:JOk s C j)(c:Int):JOk s C (dD j c):=by
 unfold dD;split
 ·exact h
 ·exact h.put c true
theorem JOk.tick{s:SV}{C:Nat}{j:JV}(h:JOk s C j)(n:Int):JOk s C (gG j n):=by
 unfold gG;split
 ·next hx =>
  have hn:0≤n:=by unfold S4.inB at hx;simp at hx;omega
  have:=S4.Gl (r:=j.rate) (b:=j.burst) (l:=j.lv) (n:=n) h.rate.1 h.lv.1 (by have:=h.lv;omega) hn
  exact { h with lv:=⟨this.1,this.2,h.lv.2.2⟩ }
 ·exact h
def Linked(s:SV):Int→List Int→Prop
 | n,[]=>n = -1
 | n,k::r=>n=k∧n ≠ -1∧∃ v,s.file n=some v∧Linked s v.h.b r
theorem Linked.only{s:SV}:∀(a b:List Int) (n:Int),Linked s n a→Linked s n b→a=b:=by
 intro a
 induction a with
 | nil =>
  intro b n ha hb
  cases b with
  | nil=>rfl
  | cons k r=>exact absurd ha hb.2.1
 | cons k r ih =>
  intro b n ha hb
  cases b with
  | nil=>exact absurd hb ha.2.1
  | cons k' r' =>
   obtain⟨h1,_,v,h2,h3⟩:=ha;obtain⟨h4,_,v',h5,h6⟩:=hb;rw[h2] at h5;cases h5
   rw[← h1,← h4,ih r' _ h3 h6]
theorem Linked.part{s:SV}:∀(p q:List Int) (k n:Int),Linked s n (p++k::q)→Linked s k (k::q):=by
 intro p
 induction p with
 | nil=>intro q k n h;have:=h.1;rw[this] at h;exact h
 | cons a r ih=>intro q k n h;obtain⟨_,_,v,_,h3⟩:=h;exact ih q k _ h3
theorem Linked.nodup{s:SV}:∀(a:List Int) (n:Int),Linked s n a→a.Nodup:=by
 intro a
 induction a with
 | nil=>intro n _;exact List.nodup_nil
 | cons k r ih =>
  intro n h;have h0:=h;obtain⟨h1,_,v,h2,h3⟩:=h;refine List.nodup_cons.2 ⟨fun hm=>?_,ih _ h3⟩
  obtain⟨p,q,hpq⟩:=List.append_of_mem hm;have h4:=Linked.part (k::p) q k n (by rw[hpq] at h0;exact h0)
  rw[h1] at h0;have h5:=Linked.only _ _ _ h0 h4;rw[hpq] at h5;have:=congrArg List.length h5
  simp at this
  omega
theorem SV.TJ{s:SV}{rc:Int}:∀(k:Nat) (l:List Int) (n:Int),(s.iI rc k l n).2=0→∃ r,(s.iI rc k l n).1=l++r∧Linked s n r:=by
 intro k
 induction k with
 | zero=>intro l n h;exact absurd h (by show ¬(10:Int)=0;decide)
 | succ k ih =>
  intro l n h;by_cases hn:n = -1
  ·subst hn;rw[SV.sG];exact⟨[],by simp,rfl⟩
  ·cases hf:s.file n with
   | none=>rw[SV.vF hn hf] at h;exact absurd h (by decide)
   | some v =>
    by_cases h5:l.length=5
    ·rw[SV.vw hn hf h5] at h;exact absurd h (by decide)
    ·by_cases hc:v.h.c=rc
     ·rw[SV.sJ hn hf h5 hc] at h ⊢
      obtain⟨r,h1,h2⟩:=ih _ _ h;exact⟨n::r,by rw[h1,List.append_assoc];rfl,rfl,hn,v,hf,h2⟩
     ·rw[SV.walk_other hn hf h5 hc] at h;exact absurd h (by decide)
theorem SV.sH{s:SV}{root:Int}(h:(s.walk root).2=0):Linked s root (s.walk root).1:=by
 obtain⟨r,h1,h2⟩:=SV.TJ 6 [] root h;have:(s.walk root).1=r:=h1
 rw[this];exact h2
theorem SV.TL{s:SV}{root:Int}(h:(s.walk root).2=0)(hl:(s.walk root).1≠[]):∃ r,(s.walk root).1=root::r:=by
 have h1:=SV.sH h
 cases hw:(s.walk root).1 with
 | nil=>exact absurd hw hl
 | cons k r=>rw[hw] at h1;exact⟨r,by rw[h1.1]⟩
structure aS where
 root:Int
 kind:Int
 file:Int
 rate:Int
 burst:Int
def qN(s:SV)(l:List Int)(f:Int):Int:=match s.file f with
 | none=>4
 | some v=>if l.contains f=true∨v.h.b ≠ -1∨v.h.c≠s.fV l then 2 else 0
def lK(s:SV)(l:List Int)(d:aS):Int :=
 if d.kind=1 then qN s l d.file
 else if d.kind=2∨d.kind=3 then (if d.kind=2∧d.file = -1∨(l.drop 1).contains d.file=true then 0 else 4)
 else 1
def newF(s:SV)(d:aS):Int :=
 if (s.walk d.root).2≠0 then (s.walk d.root).2
 else if (s.walk d.root).1=[] then 4
 else if (S4.inB d.rate 1000&&S4.inB d.burst 1000)=false then 1
 else lK s (s.walk d.root).1 d
def lQ(l:List Int)(d:aS):Nat:=if d.kind=1 then 0 else if Lib.idxOf l d.file = -1 then l.length else (Lib.idxOf l d.file).toNat
def dW(s:SV)(d:aS):JV:=⟨d.root,d.kind,d.file,d.rate,d.burst,(s.walk d.root).1,lQ (s.walk d.root).1 d,(s.fV (s.walk d.root).1).toNat,0,-1,2,d.burst⟩
def kJ(s:SV)(j:JV):Nat→Nat
 | 0=>0
 | k+1=>S4.eP j.n (kJ s j k) (k:Int) (j.eY s (k:Int))
def iL(s:SV)(d:aS):JV:=(dW s d).put (kJ s (dW s d) (dW s d).n)
theorem GH(s:SV)(j:JV)(hn:j.n≤64):∀ k,S4.je j.n (kJ s j k):=by
 intro k
 induction k with
 | zero=>exact S4.FK _ hn
 | succ k ih=>exact S4.xu ih _ _
theorem pJ(l:List Int)(f:Int)(h:l.Nodup):(Lib.idxOf l f = -1∧f ∉ l)∨∃ k:Nat,Lib.idxOf l f=(k:Int)∧k<l.length∧l.getD k 0=f:=by
 by_cases hm:f∈l
 ·right
  obtain⟨k,hk,e⟩:=List.getElem_of_mem hm;have hd:l.getD k 0=f:=by rw[List.getD_eq_getElem?_getD,List.getElem?_eq_getElem hk];exact e
  have h1:=Lib.idxOf_hit l l.length k f hk (Nat.le_refl _) hd (fun j hj e2=>by
   have hj2:j<l.length:=by omega
   rw[List.getD_eq_getElem?_getD,List.getElem?_eq_getElem hj2] at e2;have e3:l[j]=l[k]:=by rw[e];exact e2
   exact List.pairwise_iff_getElem.1 h j k hj2 hk hj e3)
  rw[List.take_length] at h1;exact⟨k,h1,hk,hd⟩
 ·left
  refine⟨?_,hm⟩
  have h1:=Lib.idxOf_miss l l.length f (fun j hj e=>hm (by
   rw[List.getD_eq_getElem?_getD,List.getElem?_eq_getElem hj] at e;have e':l[j]=f:=e
   rw[← e'];exact List.getElem_mem hj))
  rw[List.take_length] at h1;exact h1
structure vO(s:SV)(d:aS)(m:Nat):Prop where
 ok:s.ok m
 w0:(s.walk d.root).2=0
 ne:(s.walk d.root).1≠[]
 rt:S4.inB d.rate 1000=true
 bu:S4.inB d.burst 1000=true
 ck:lK s (s.walk d.root).1 d=0
theorem wZ{s:SV}{d:aS}{m:Nat}(hok:s.ok m)(h:newF s d=0):vO s d m:=by
 unfold newF at h;split at h
 ·next h0=>exact absurd h h0
 ·next h0 =>
  split at h
  ·cases h
  ·next h1 =>
   split at h
   ·cases h
   ·next h2 =>
    have h2':(S4.inB d.rate 1000&&S4.inB d.burst 1000)=true:=by simpa using h2
    rw[Bool.and_eq_true] at h2';exact⟨hok,Classical.byContradiction h0,h1,h2'.1,h2'.2,h⟩
theorem BG{s:SV}{l:List Int}{d:aS}(h:lK s l d=0):d.kind=1∨d.kind=2∨d.kind=3:=by
 unfold lK at h;split at h
 ·next e=>exact .inl e
 ·split at h
  ·next e=>exact .inr e
  ·cases h
theorem vO.jok{s:SV}{d:aS}{m:Nat}(h:vO s d m):∃ C:Nat,JOk s C (dW s d)∧s.fV (s.walk d.root).1=(C:Int)∧1≤C:=by
 obtain⟨hg,hl5,_,_⟩:=s.walk_good d.root;have hnd:=Linked.nodup _ _ (SV.sH h.w0);have hcl:=hg.fV h.ne
 obtain⟨n,r,hl⟩:∃ n r,(s.walk d.root).1=n::r:=by
  cases hx:(s.walk d.root).1 with
  | nil=>exact absurd hx h.ne
  | cons n r=>exact⟨n,r,rfl⟩
 obtain⟨v,hv,hvc⟩:=hg n (by rw[hl];exact List.mem_cons_self)
 have hh:=(h.ok _ _ (SV.dJ hv).2.2).h;have hb:=HV.fE hh;have hkd:=BG h.ck;have hr:=h.rt;have hbu:=h.bu;unfold S4.inB at hr hbu;simp at hr hbu
 refine⟨(s.fV (s.walk d.root).1).toNat,⟨?_,h.ne,hl5,rfl,by omega,S4.FK _ (by show(s.fV (s.walk d.root).1).toNat≤64;omega),hkd,?_,?_,?_,.inr (.inl rfl),⟨by show(-1:Int) ≤ -1;omega,by show(-1:Int)<64;omega⟩,⟨hr.1,hr.2⟩,⟨hbu.1,Int.le_refl _,hbu.2⟩⟩,by omega,by omega⟩
 ·show s.good (((s.fV (s.walk d.root).1).toNat:Nat):Int) (s.walk d.root).1
  rw[show(((s.fV (s.walk d.root).1).toNat:Nat):Int)=s.fQ d.root by omega]
  exact hg
 ·intro hk2
  have hk2':d.kind≠2:=hk2;show ∃ v,s.file d.file=some v
  have hck:=h.ck;unfold lK at hck;by_cases h1:d.kind=1
  ·rw[if_pos h1] at hck
   unfold qN at hck
   cases hf:s.file d.file with
   | none=>rw[hf] at hck;cases hck
   | some u=>exact⟨u,rfl⟩
  ·have h3:d.kind=3:=by omega
   rw[if_neg h1,if_pos (.inr h3)] at hck;split at hck
   ·next e =>
    rcases e with e|e
    ·exact absurd e.1 hk2'
    ·have hm:d.file∈(s.walk d.root).1.drop 1:=by simpa using e
     obtain⟨u,hu,_⟩:=hg d.file (List.mem_of_mem_drop hm);exact⟨u,hu⟩
   ·cases hck
 ·show lQ (s.walk d.root).1 d≤(s.walk d.root).1.length
  unfold lQ;split
  ·exact Nat.zero_le _
  ·rcases pJ _ d.file hnd with⟨e,_⟩|⟨k,e,hk,_⟩
   ·rw[if_pos e];exact Nat.le_refl _
   ·rw[e,if_neg (by omega)];omega
 ·intro hk1
  have hk1':d.kind≠1:=hk1;show(Lib.idxOf (s.walk d.root).1 d.file=((lQ (s.walk d.root).1 d:Nat):Int)∧lQ (s.walk d.root).1 d<(s.walk d.root).1.length)∨(Lib.idxOf (s.walk d.root).1 d.file = -1∧lQ (s.walk d.root).1 d=(s.walk d.root).1.length)
  unfold lQ;rw[if_neg hk1'];rcases pJ _ d.file hnd with⟨e,_⟩|⟨k,e,hk,_⟩
  ·rw[if_pos e];exact .inr ⟨e,rfl⟩
  ·rw[e,if_neg (by omega)];exact .inl ⟨by omega,by omega⟩
theorem JOk.newX{s:SV}{C:Nat}{j:JV}(h:JOk s C j)(k:Nat):JOk s C (j.put (kJ s j k)):={ h with set:=GH s j (by have:=h.n;have:=h.c40;omega) k }
theorem CG{l:List Int}{f:Int}(h:l.Nodup):(l.drop 1).contains f=true↔1≤Lib.idxOf l f:=by
 have hc:(l.drop 1).contains f=true↔f∈l.drop 1:=by simp
 rw[hc]
 constructor
 ·intro hm
  rcases pJ l f h with⟨_,hn⟩|⟨k,e,hk,hd⟩
  ·exact absurd (List.mem_of_mem_drop hm) hn
  ·rw[e]
   cases k with
   | zero =>
    exfalso
    cases l with
    | nil=>cases hm
    | cons x r =>
     have hx:x=f:=hd;rw[List.nodup_cons] at h;exact h.1 (by rw[hx];exact hm)
   | succ k=>omega
 ·intro h1
  rcases pJ l f h with⟨e,_⟩|⟨k,e,hk,hd⟩
  ·omega
  ·rw[e] at h1
   cases l with
   | nil=>simp at hk
   | cons x r =>
    cases k with
    | zero=>omega
    | succ k =>
     have hk':k<r.length:=by simpa using hk
     have hd':r.getD k 0=f:=hd;rw[List.getD_eq_getElem?_getD,List.getElem?_eq_getElem hk'] at hd';have e':r[k]=f:=hd';show f∈r
     rw[← e'];exact List.getElem_mem hk'
open Go.Maps
attribute [local go_sem ↓] Go.wp_at_zero Go.wp_at_succ
structure Qh where
 p:Nat
 d:Rh
 vt:Value
 vh:Value
def Qh.fp(q:Qh)(k:Nat):Prop:=k=q.p∨q.vt.ownBlock=some k∨q.vh.ownBlock=some k∨q.d.fp k
end Go.Proofs.YtonhoahnieoebabGreatDoor
namespace Go.Proofs.YtonhoahnieoebabGreatDoor
open Go.RowKit Go.Maps
def Gd.no:Gd:=⟨fun _=>False,0,fun _ h=>h.elim⟩
def Gd.but(w:World)(S:Nat→Prop):Gd:=⟨fun k=>k<w.heap.size∧¬S k,w.heap.size,fun _ h=>h.1⟩
structure Moved(S:Nat→Prop)(w:World)(S':Nat→Prop)(w':World):Prop where
 kept:Kept S w w'
 new:∀ k,S' k→S k∨w.heap.size≤k
theorem Moved.trans{S S1 S2:Nat→Prop}{w w1 w2:World}(a:Moved S w S1 w1)(b:Moved S1 w1 S2 w2):Moved S w S2 w2 :=
 ⟨⟨b.kept.os.trans a.kept.os,b.kept.tape.trans a.kept.tape,b.kept.output.trans a.kept.output,Nat.le_trans a.kept.size b.kept.size,fun k hk hs=>by
  rw[b.kept.block k (Nat.lt_of_lt_of_le hk a.kept.size) (fun h1=>by rcases a.new k h1 with h|h;exact hs h;omega),a.kept.block k hk hs]⟩,fun k hk=>by
  rcases b.new k hk with h|h
  ·exact a.new k h
  ·exact .inr (Nat.le_trans a.kept.size h)⟩
theorem Moved.of_below{S:Nat→Prop}{w w':World}(h:Below w.heap.size w w'):Moved S w S w':=⟨Below.kept h,fun _ h=>.inl h⟩
theorem Moved.refl(S:Nat→Prop)(w:World):Moved S w S w:=⟨Kept.refl _ _,fun _ h=>.inl h⟩
theorem Moved.size{S S':Nat→Prop}{w w':World}(h:Moved S w S' w'):w.heap.size≤w'.heap.size:=h.kept.size
theorem Moved.block{S S':Nat→Prop}{w w':World}(h:Moved S w S' w'){k:Nat}(hk:k<w.heap.size)(hs:¬S k):w'.heap[k]?=w.heap[k]?:=h.kept.block k hk hs
theorem Moved.cell{S S':Nat→Prop}{w w':World}(h:Moved S w S' w'){p:Addr}(hk:p.block<w.heap.size)(hs:¬S p.block):w'.cell? p=w.cell? p:=World.cell?_of_block (h.block hk hs)
theorem Moved.out{S S':Nat→Prop}{w w':World}(h:Moved S w S' w'){k:Nat}(hk:k<w.heap.size)(hs:¬S k):¬S' k:=fun e=>by
 rcases h.new k e with h1|h1
 ·exact hs h1
 ·omega
theorem Moved.below{S S':Nat→Prop}{w w':World}{B:Nat}(h:Moved S w S' w')(hB:B≤w.heap.size)(hs:∀ k,S k→B≤k):Below B w w':=h.kept.below hB hs
theorem aC.but{B:Gd}{w:World}{x:Ih}{v:IV}(h:aC B w x v):aC (Gd.but w x.fp) w x v:=h.re fun _ hk hg=>hg.2 hk
theorem qZ{S S':Nat→Prop}{w w':World}{T:Nat→Prop}(hk:Kept T w w')(ht:∀ k,T k→¬(Gd.but w S).g k)(hn:∀ k,S' k→¬(Gd.but w S).g k):Moved S w S' w' :=
 ⟨hk.mono fun k hl hs=>Classical.byContradiction fun hx=>ht k hs ⟨hl,hx⟩,fun k h=>by
  rcases Nat.lt_or_ge k w.heap.size with hl|hl
  ·exact .inl (Classical.byContradiction fun hx=>hn k h ⟨hl,hx⟩)
  ·exact .inr hl⟩
theorem Did.exact{w w':World}{x:Ih}{V:IV}{f:Int}{e:Ending}(hd:Did (Gd.but w x.fp) w x V f e w') :
  ∃ x':Ih,e=.returned (erV f)∧x'.p=x.p∧x'.h.p=x.h.p∧aC Gd.no w' x' V∧Moved x.fp w x'.fp w':=by
 obtain⟨y,h1,h2,h3,h4⟩:=hd;exact⟨{ x with h:=y },h1,rfl,h2,h3.re fun _ _ h=>h,qZ h4 (fun _ h=>h.1) h3.out⟩
def Nums(w:World)(a:Option Addr)(l:List Int):Prop:=∀ k,k<l.length→∃ g o,a=some ⟨g,o,none⟩∧w.cell? ⟨g,o+k,none⟩=some (.int .i64 (l.getD k 0))
theorem Nums.keep{w w':World}{a:Option Addr}{l:List Int}(h:Nums w a l)(hk:∀ g o,a=some ⟨g,o,none⟩→w'.heap[g]?=w.heap[g]?):Nums w' a l:=fun k hl=>by
 obtain⟨g,o,h1,h2⟩:=h k hl;exact⟨g,o,h1,by rw[World.cell?_of_block (hk g o h1)];exact h2⟩
theorem Nums.lt{w:World}{a:Option Addr}{l:List Int}(h:Nums w a l)(h0:l≠[]){g o:Nat}(e:a=some ⟨g,o,none⟩):g<w.heap.size:=by
 cases l with
 | nil=>exact absurd rfl h0
 | cons n r =>
  obtain⟨g',o',h1,h2⟩:=h 0 (by simp)
  rw[e] at h1;cases h1
  exact World.block_lt_of_cell? _ _ h2
theorem Nums.nil(w:World)(a:Option Addr):Nums w a []:=fun _ h=>by cases h
theorem Nums.below{w w':World}{a:Option Addr}{l:List Int}(h:Nums w a l)(hb:Below w.heap.size w w'):Nums w' a l:=by
 by_cases h0:l=[]
 ·rw[h0];exact Nums.nil _ _
 ·exact h.keep fun g o e=>hb.block g (h.lt h0 e)
def Apart(a:Option Addr)(S:Nat→Prop):Prop:=∀ g o,a=some ⟨g,o,none⟩→¬S g
theorem Nums.moved{S S':Nat→Prop}{w w':World}{a:Option Addr}{l:List Int}(h:Nums w a l)(hm:Moved S w S' w')(ha:Apart a S):Nums w' a l:=by
 by_cases h0:l=[]
 ·rw[h0];exact Nums.nil _ _
 ·exact h.keep fun g o e=>hm.block (h.lt h0 e) (ha g o e)
theorem Apart.moved{S S':Nat→Prop}{w w':World}{a:Option Addr}{l:List Int}(ha:Apart a S)(h:Nums w a l)(h0:l≠[])(hm:Moved S w S' w'):Apart a S':=fun g o e=>hm.out (h.lt h0 e) (ha g o e)
end Go.Proofs.YtonhoahnieoebabGreatDoor
