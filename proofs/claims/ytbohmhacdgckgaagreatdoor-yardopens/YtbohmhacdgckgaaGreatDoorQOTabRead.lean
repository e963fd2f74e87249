/- An image as plain data (D1 to D4): its device, its head, its table, the places that are held; what each call makes of it, and its fault's number. -/
import Derived.Test.YtbohmhacdgckgaaGreatDoorQOTabDefs
set_option linter.all false
set_option maxHeartbeats 1000000
set_option maxRecDepth 100000
namespace Go.Proofs.YtbohmhacdgckgaaGreatDoor
open Go.RowKit renaming Below->β
open Go renaming World->ω, Value->υ, Calls->κ
open Option renaming none->O, some->S
open Go.Proofs.Tryz Go.RowKit
attribute [local go_sem ↓] Go.wp_at_zero Go.wp_at_succ
def DV.put(d:DV)(i:Nat)(s:List UInt8):DV:=if d.fail=0 then d.failing (-1) else d.iJ.wrote i s
def DV.aU(d:DV):Int:=if d.fail=0 then 7 else 0
structure DV.fine(d:DV)(n m:Nat):Prop where
 ok:d.ok
 sn:d.sn
 len:d.fl.length=n
 wr:d.wr<=m
def DV.fine.more{d:DV}{n m m':Nat}(h:d.fine n m)(a:m<=m'):d.fine n m':=⟨h.ok,h.sn,h.len,ja4 h.wr a⟩
theorem DV.ok.iJ{d:DV}(h:d.ok):d.iJ.ok:=by
 unfold DV.iJ;split
 .exact h
 .exact h.failing (by have:=h.f1;omega) (by have:=h.f2;omega)
theorem DV.fine.put{d:DV}{n m:Nat}(h:d.fine n m){i:Nat}{s:List UInt8}(b:i<n)(a:s.length=16)(f:m<1000000000):(d.put i s).fine n (m+1):=by
 have c:=h.wr;unfold DV.put;split
 .exact⟨h.ok.failing (by omega) (by omega),zX h.sn _,h.len,by show d.wr<=m+1;omega⟩
 .exact⟨h.ok.iJ.wrote (by rw[DV.IC,h.len];exact b) a (by rw[DV.IE];omega),VD (U4 h.sn) _ _,by show d.iJ.fl.length=n;rw[DV.IC];exact h.len,by show d.iJ.wr+1<=m+1;rw[DV.IE];omega⟩
theorem DV.fine.flushed{d:DV}{n m:Nat}(h:d.fine n m):d.flushed.fine n m:=⟨h.ok.flushed,Nh _,by show d.seen.length=n;rw[h.ok.same];exact h.len,h.wr⟩
def DV.nN(d:DV):d.aU=0/\d.fail≠0\/d.aU=7/\d.fail=0:=by
 unfold DV.aU;omega
def DV.puts(d:DV)(a:Nat)(s:ByteArray):Nat->DV × Int
 | 0=>(d,0)
 | k+1=>if (d.puts a s k).2=0 then ((d.puts a s k).1.put (a+k) (chunk s k),(d.puts a s k).1.aU) else d.puts a s k
def DV.yj{d:DV}{a:Nat}{s:ByteArray}{k:Nat}(h:(d.puts a s k).2=0):d.puts a s (k+1)=((d.puts a s k).1.put (a+k) (chunk s k),(d.puts a s k).1.aU):=by
 show(if (d.puts a s k).2=0 then _ else _)=_
 rw[if_pos h]
def DV.yh{d:DV}{a:Nat}{s:ByteArray}{k:Nat}(h:(d.puts a s k).2≠0):∀ j,k<=j->d.puts a s j=d.puts a s k:=by
 intro j c
 induction j with
 | zero=>simp_all
 | succ j b =>
  by_cases e:k=j+1
  .rw[<- e]
  .show(if (d.puts a s j).2=0 then _ else d.puts a s j)=_
   rw[(b (by omega)),if_neg h]
def DV.rV(d:DV)(a:Nat)(s:ByteArray)(k:Nat):(d.puts a s k).2=0\/(d.puts a s k).2=7:=by
 induction k with
 | zero=>exact .inl rfl
 | succ k b =>
  rcases b with h|h
  .rw[DV.yj h]
   rcases DV.nN (d.puts a s k).1 with c|c
   .omega
   .omega
  .right
   rw[DV.yh (k:=k) (by omega) _ (by omega)];exact h
theorem DV.fine.puts{d:DV}{n m:Nat}(h:d.fine n m){a:Nat}{s:ByteArray}{c:Nat}(i:s.size=c*16)(o:a+c<=n)(j:m+c<1000000000):∀ k,k<=c->(d.puts a s k).1.fine n (m+k):=by
 intro k
 induction k with
 | zero=>intro _;exact h
 | succ k g =>
  intro l;have b:=g (by omega)
  by_cases f:(d.puts a s k).2=0
  .rw[DV.yj f]
   exact b.put (by omega) (KC s c k i (by omega)) (by omega)
  .rw[DV.yh f _ (by omega)]
   exact b.more (by omega)
structure IV where
 d:DV
 h:HV
 t:List (Int × Int)
 held:List Nat
def dw(h:HV)(q:Nat):Nat:=1+ay h.c.toNat+4*q
def aQ(h:HV):Nat:=dw h h.p.toNat
structure IV.ok(v:IV)(m:Nat):Prop where
 d:v.d.fine v.d.fl.length m
 h:v.h.ok=true
 len:(v.t.length:Int)=v.h.c
 ents:∀ e∈v.t,bI e.1 e.2 v.h.p=true
 need:aQ v.h<=v.d.fl.length
 held:∀ q∈v.held,q<40
 few:v.held.length<=m
theorem IV.ok.more{v:IV}{m m':Nat}(h:v.ok m)(a:m<=m'):v.ok m':=⟨h.d.more a,h.h,h.len,h.ents,h.need,h.held,ja4 h.few a⟩
def IV.ok.dev{v:IV}{m m':Nat}(h:v.ok m){d:DV}(hd:d.fine v.d.fl.length m')(a:m<=m'):({v with d:=d}:IV).ok m' :=
 ⟨by rw[hd.len];exact hd,h.h,h.len,h.ents,by rw[hd.len];exact h.need,h.held,ja4 h.few a⟩
def IV.ent(v:IV)(c:Int):Int × Int:=v.t.getD c.toNat (0,0)
def IV.there(v:IV)(c:Int):Bool:=decide (0<=c/\c<v.t.length)
def IV.nP{v:IV}{c:Int}(h:v.there c=true):0<=c/\c<v.t.length:=of_decide_eq_true h
def IV.UZ{v:IV}{c:Int}(h:v.there c=false):¬(0<=c/\c<v.t.length):=of_decide_eq_false h
theorem IV.ok.ent{v:IV}{m:Nat}(h:v.ok m){c:Int}(a:v.there c=true):bI (v.ent c).1 (v.ent c).2 v.h.p=true:=by
 obtain⟨d,b⟩:=IV.nP a;apply h.ents
 unfold IV.ent
 simp_all
def jO(d:DV)(a:Nat):Nat->List UInt8
 | 0=>[]
 | k+1=>jO d a k++d.seen.getD (a+k) []
def qX:List UInt8:=List.replicate 64 0
def IV.fZ(v:IV)(c:Int):List UInt8 :=
 if v.there c=true then (if (v.ent c).1=2 then jO v.d (dw v.h (v.ent c).2.toNat) 4 else if (v.ent c).1=1 then qX else []) else []
def IV.iI(v:IV)(c:Int):Int:=if v.there c=true then (if (v.ent c).1=0 then 4 else 0) else 1
def IV.yZ(v:IV)(q:Nat):Bool:=v.t.any λe=>decide (e=(2,(q:Int)))
def IV.oI(v:IV)(q:Nat):Bool:=v.held.any λx=>decide (x=q)
def IV.iT(v:IV)(q:Nat):Bool := !v.yZ q && !v.oI q
def IV.iD(v:IV)(k:Nat):List Nat:=(List.range k).filter v.iT
def IV.iR(v:IV):List Nat:=v.iD v.h.p.toNat
def IV.Aj(v:IV)(k:Nat):v.iD (k+1)=v.iD k++(if v.iT k=true then [k] else []):=by
 unfold IV.iD;rw[jb9,List.filter_append]
 congr 1
 by_cases h:v.iT k=true
 .simp_all
 .simp_all
def IV.Nk(v:IV)(k:Nat):(v.iD k).length<=k:=by
 have:=List.length_filter_le v.iT (List.range k)
 rw[List.length_range] at this;exact this
def IV.Ai{v:IV}{k q:Nat}(h:q∈v.iD k):q<k/\v.iT q=true:=by
 unfold IV.iD at h
 simp_all
def IV.fG(v:IV)(c:Nat)(e:Int × Int):DV:=v.d.put (1+c / 8) (eP (v.t.set c e) (((c / 8:Nat):Int))).data.toList
def IV.set(v:IV)(c:Nat)(e:Int × Int):IV :=
 if v.d.aU=0 then ⟨v.fG c e,v.h,v.t.set c e,if (v.t.getD c (0,0)).1=2 then v.held++[(v.t.getD c (0,0)).2.toNat] else v.held⟩ else {v with d:=v.fG c e}
def IV.flush(v:IV):IV:={v with d:=v.d.flushed,held:=[]}
def oq(v:IV)(c a:Int)(s:ByteArray):Bool:=v.there c&&decide (0<=a/\a<=4/\s.size % 16=0/\(s.size:Int)<=16*(4-a))
def IV.qU(v:IV)(c a:Int)(s:ByteArray):DV × Int:=v.d.puts (dw v.h (v.ent c).2.toNat+a.toNat) s (s.size / 16)
def IV.dJ(v:IV)(c a:Int)(s:ByteArray):Int:=if oq v c a s=true then (if (v.ent c).1=2 then (v.qU c a s).2 else 4) else 1
def IV.write(v:IV)(c a:Int)(s:ByteArray):IV:=if oq v c a s=true/\(v.ent c).1=2 then {v with d:=(v.qU c a s).1} else v
def IV.fC(v:IV)(q:Nat)(s:ByteArray):DV × Int:=v.d.puts (dw v.h q+0) s 4
def IV.jL(v:IV)(q:Nat)(s:ByteArray):IV:=({v with d:=(v.fC q s).1}:IV).flush
def IV.dD(v:IV)(c:Int)(s:ByteArray):Int :=
 if v.there c=true/\s.size=64 then
  if (v.ent c).1=2 then 5 else match v.iR with
   | []=>6
   | q::_=>if (v.fC q s).2=0 then (v.jL q s).d.aU else (v.fC q s).2
 else 1
def IV.fill(v:IV)(c:Int)(s:ByteArray):IV :=
 if v.there c=true/\s.size=64 then
  if (v.ent c).1=2 then v else match v.iR with
   | []=>v
   | q::_=>if (v.fC q s).2=0 then (v.jL q s).set c.toNat (2,(q:Int)) else {v with d:=(v.fC q s).1}
 else v
def IV.fB(v:IV)(c:Int):Int:=if v.there c=true then (if (v.ent c).1=1 then 0 else v.d.aU) else 1
def IV.clear(v:IV)(c:Int):IV:=if v.there c=true/\(v.ent c).1≠1 then v.set c.toNat (1,0) else v
def IV.jZ(v:IV)(h:HV):IV :=
 if v.flush.d.aU=0 then {(({v.flush with d:=v.flush.d.put 0 (fO h.bytes).data.toList}:IV).flush) with h:=h} else {v.flush with d:=v.flush.d.put 0 (fO h.bytes).data.toList}
def IV.oJ(v:IV)(back:Int):HV:=⟨v.h.c,v.h.p,back⟩
def IV.iV(v:IV)(back:Int):Int:=if (v.oJ back).ok=true then v.flush.d.aU else 1
def IV.link(v:IV)(back:Int):IV:=if (v.oJ back).ok=true then v.jZ (v.oJ back) else v
def LX{k p:Int}{h:HV}(b:h.ok=true)(c:bI k p h.p=true):bI k p 40=true:=by
 have d:=HV.dK b;rcases jh c with a|a
 .exact kN (.inl ⟨a.1,a.2.1,by omega⟩)
 .exact kN (.inr a)
def yD{ts:List (Int × Int)}{h:HV}(b:h.ok=true)(j:(ts.length:Int)=h.c)(f:∀ e∈ts,bI e.1 e.2 h.p=true)(r:Nat)(l:r<ay ts.length):gV ts (r:Int)=0/\(eP ts (r:Int)).size=16:=by
 have m:=HV.dK b;have k:qJ ts (r:Int)=true:=decide_eq_true ⟨by omega,by omega,by omega⟩
 have g  := BG  (.inr (ja1 _)) λi _=>by
  rcases jat (((r:Int)).toNat*8+i) _ with a|a
  .rw[ja6,ja8 a]
   exact LX b (f _ (jac a))
  .rw[ja6,jaj a];decide
 have d:gV ts (r:Int)=0:=by unfold gV;simp_all
 refine⟨d,?_⟩;unfold eP;rw[if_pos d,strOfNums_size,BH]
def wZ{ts:List (Int × Int)}{p:Int}(b:∀ e∈ts,bI e.1 e.2 p=true)(c:Nat)(x:Int × Int)(d:bI x.1 x.2 p=true):∀ e∈ts.set c x,bI e.1 e.2 p=true:=by
 intro e a;rcases jb8 a with h|h
 .exact b e h
 .simp_all
def yE{n c:Nat}(h:c<n):c / 8<ay n:=by unfold ay;omega
def mM{h:HV}(a:h.ok=true){n:Nat}(b:aQ h<=n):ay h.c.toNat<n/\∀ q:Nat,(q:Int)<h.p->dw h q+4<=n:=by
 have d:=HV.dK a;unfold aQ dw at b;refine⟨by omega,λq f=>?_⟩
 unfold dw;omega
theorem IV.ok.fG{v:IV}{m:Nat}(h:v.ok m){c:Nat}(a:c<v.t.length){e:Int × Int}(g:bI e.1 e.2 v.h.p=true)(b:m<1000000000):(v.fG c e).fine v.d.fl.length (m+1):=by
 have l:=yD  h.h (by rw[jag];exact h.len) (wZ h.ents c e g) _ (by rw[jag];exact yE a)
 have j:=h.len;have i:=(mM h.h h.need).1;have k:=yE a;have f:v.h.c.toNat=v.t.length:=by omega
 rw[f] at i;exact h.d.put (by omega) (by simp_all) b
theorem IV.ok.set{v:IV}{m:Nat}(h:v.ok m){c:Nat}(a:c<v.t.length){e:Int × Int}(f:bI e.1 e.2 v.h.p=true)(g:m<1000000000):(v.set c e).ok (m+1):=by
 have hd:=h.fG a f g;unfold IV.set;split
 .refine⟨by rw[hd.len];exact hd,h.h,by rw[jag];exact h.len,wZ h.ents c e f,by rw[hd.len];exact h.need,?_,?_⟩
  .intro q i
   have d  := i;split at d
   .next l =>
    rcases List.mem_append.1 d with b|b
    .exact h.held q b
    .have k:bI (v.t.getD c (0,0)).1 (v.t.getD c (0,0)).2 v.h.p=true:=by
      rw[ja6,ja8 a];exact h.ents _ (jac a)
     have n:=HV.dK h.h;simp only[jaK] at b;rcases jh k with j|j
     .omega
     .omega
   .exact h.held q d
  .show(if (v.t.getD c _).1=2 then v.held++[(v.t.getD c _).2.toNat] else v.held).length<=m+1
   have:=h.few
   split
   .simp;omega
   .omega
 .exact(h.dev hd (jb5 m))
theorem IV.ok.flush{v:IV}{m:Nat}(h:v.ok m):v.flush.ok m :=
 ⟨by show v.d.flushed.fine v.d.flushed.fl.length m;rw[h.d.flushed.len];exact h.d.flushed,h.h,h.len,h.ents,by show aQ v.h<=v.d.flushed.fl.length;rw[h.d.flushed.len];exact h.need,(λq a=>by cases a),ja5 _⟩
def IV.ok.place{v:IV}{m:Nat}(h:v.ok m){c:Int}(b:v.there c=true)(f:(v.ent c).1=2):0<=(v.ent c).2/\(v.ent c).2<v.h.p/\dw v.h (v.ent c).2.toNat+4<=v.d.fl.length:=by
 rcases jh (h.ent b) with a|a
 .exact⟨a.2.1,a.2.2,(mM h.h h.need).2 _ (by omega)⟩
 .omega
def CQ{v:IV}{c a:Int}{s:ByteArray}(h:oq v c a s=true):v.there c=true/\0<=a/\a<=4/\s.size % 16=0/\(s.size:Int)<=16*(4-a):=by
 unfold oq at h
 simp_all
theorem IV.ok.write{v:IV}{m:Nat}(h:v.ok m)(c f:Int)(s:ByteArray)(g:m+10<=1000000000):(v.write c f s).ok (m+10):=by
 unfold IV.write;split
 .next a =>
  obtain⟨b,k,q,l,o⟩:=CQ a.1;obtain⟨j,i,n⟩:=h.place b a.2;exact h.dev ((h.d.puts  (by omega) (by omega) (by omega) _ (ja1 _)).more (by omega)) (by omega)
 .exact h.more (by omega)
theorem IV.ok.fC{v:IV}{m:Nat}(h:v.ok m){q:Nat}(a:q∈v.iR){s:ByteArray}(f:s.size=64)(b:m+10<=1000000000):(v.fC q s).1.fine v.d.fl.length (m+4):=by
 have:=(IV.Ai a).1
 have c:=(mM h.h h.need).2 q (by omega)
 exact h.d.puts  (by omega) (by omega) (by omega) 4 (ja1 _)
theorem IV.ok.jL{v:IV}{m:Nat}(h:v.ok m){q:Nat}(b:q∈v.iR){s:ByteArray}(c:s.size=64)(a:m+10<=1000000000):(v.jL q s).ok (m+4) :=
 (h.dev (h.fC b c a) (by omega)).flush
def Ak{v:IV}{m:Nat}(h:v.ok m){q:Nat}(a:q∈v.iR):bI 2 (q:Int) v.h.p=true:=by
 have b:=HV.dK h.h;have:=(IV.Ai a).1
 exact kN (.inl ⟨rfl,by omega,by omega⟩)
theorem IV.ok.fill{v:IV}{m:Nat}(h:v.ok m)(c:Int)(s:ByteArray)(d:m+10<=1000000000):(v.fill c s).ok (m+10):=by
 unfold IV.fill;split
 .next b =>
  obtain⟨i,g⟩:=IV.nP b.1;split
  .exact h.more (by omega)
  .split
   .exact h.more (by omega)
   .next q r f =>
    have a:q∈v.iR:=by simp_all
    split
    .exact((h.jL a b.2 d).set (by show c.toNat<v.t.length;omega) (Ak h a) (by omega)).more (by omega)
    .exact(h.dev (h.fC a b.2 d) (by omega)).more (by omega)
 .exact h.more (by omega)
theorem IV.ok.clear{v:IV}{m:Nat}(h:v.ok m)(c:Int)(f:m+10<=1000000000):(v.clear c).ok (m+10):=by
 unfold IV.clear;split
 .next a =>
  obtain⟨d,b⟩:=IV.nP a.1;exact(h.set (by omega) (kN (.inr ⟨.inr rfl,rfl⟩)) (by omega)).more (by omega)
 .exact h.more (by omega)
def HV.wJ(h:HV):(fO h.bytes).size=16:=yF _ (by show 5<=12;omega)
theorem IV.ok.jZ{v:IV}{m:Nat}(h:v.ok m){x:HV}(l:x.ok=true)(i:x.c=v.h.c)(b:x.p=v.h.p)(n:m+10<=1000000000):(v.jZ x).ok (m+10):=by
 have f:=h.flush;have q:=(mM h.h h.need).1;have o  := h.d.flushed.len;have k:(v.flush.d.put 0 (fO _).data.toList).fine _ _:=f.d.put (by show 0<v.d.flushed.fl.length;omega) (by have:=HV.wJ x;simpa using this) (by omega)
 have g:=f.dev k (jb5 m);unfold IV.jZ;split
 .have a:=g.flush
  refine IV.ok.more (m:=m+1) ?_ (by omega)
  refine⟨a.d,l,a.len.trans i.symm,?_,?_,a.held,a.few⟩
  .intro e j;rw[b];exact a.ents e j
  .have:=a.need
   have e:aQ x=aQ v.h:=by unfold aQ dw;rw[i,b]
   rw[e];exact this
 .exact g.more (by omega)
theorem IV.ok.link{v:IV}{m:Nat}(h:v.ok m)(back:Int)(a:m+10<=1000000000):(v.link back).ok (m+10):=by
 unfold IV.link;split
 .next b=>exact h.jZ b rfl rfl a
 .exact h.more (by omega)
def UO{B N:Nat}{h:HV}{v:υ}{f:List (Int × Int)}{tk:List Bool}(k p:Int)(w:ω)(d:fJ B w N h v f tk)(i:(f.length:Int)=h.c) :
  κ prog 270 #[N,.agg #[k,p]] w λe j=>e=.returned (.bool (decide (k=0/\p=0)))/\β w w j:=by
 obtain⟨l,c1,c3,n⟩:=(d.below ((ja0 w.heap.size w).alloc (ja1 _) (.cells #[k,p] 168))).cells;obtain⟨a,cap,m⟩:=d.form;rw[m] at c3;rw[<- i] at l;go_enter func270,ntmps270
 go_wp2
 go_quiet (fail)
 by_cases b:k=0
 .by_cases g:p=0
  .subst b g
   go_wp2
   go_ret
   exact⟨by simp,below_drewN ((ja0 _ _).alloc (ja1 _) _) _⟩
  .subst b
   go_wp2
   go_ret
   exact⟨by simp,below_drewN ((ja0 _ _).alloc (ja1 _) _) _⟩
 .go_wp2
  go_ret
  exact⟨by simp[b],below_drewN ((ja0 _ _).alloc (ja1 _) _) _⟩
def UR{B N:Nat}{h:HV}{v:υ}{f:List (Int × Int)}{tk:List Bool}(k p:Int)(w:ω)(b:fJ B w N h v f tk)(n:(f.length:Int)≠h.c)(l:bI k p 40=false) :
  κ prog 270 #[N,.agg #[k,p]] w λe g=>e=.returned false/\β w w g:=by
 obtain⟨o,c1,c3,q⟩:=(b.below ((ja0 w.heap.size w).alloc (ja1 _) (.cells #[k,p] 168))).cells;obtain⟨a,cap,j⟩:=b.form;rw[j] at c3;have m:Hid _:=λW=>by have:=tX k p W;rw[l] at this;exact this
 go_enter func270,ntmps270
 go_wp2
 go_quiet (fail)
 go_wp2_with fail
 refine cEq (m.out _) λr i=>?_
 go_wp2
 go_ret
 have d:=below_drewN ((ja0 w.heap.size w).alloc (ja1 _) (.cells #[k,p] 168)) nq;exact⟨rfl,d.trans (i.mono d.size)⟩
def UU{B N:Nat}{h:HV}{v:υ}{b:List (Int × Int)}{tk:List Bool}(k p:Int)(w:ω)(j:fJ B w N h v b tk)(P:(b.length:Int)≠h.c)(hl:b.length<=32)(X:bI k p 40=true)(J:k≠2) :
    κ prog 270 #[N,.agg #[k,p]] w λe i=>∃ E,e=.returned true/\fJ B i N h E (b++[(k,p)]) tk/\β B w i:=by
  have z:=j.below ((ja0 w.heap.size w).alloc (ja1 _) (.cells #[k,p] 168));obtain⟨Z,c1,c3,V⟩:=z.cells;obtain⟨M,a0,F,L,O⟩:=info_parts tK;obtain⟨a,cap,U⟩:=j.form;subst U;obtain⟨n1,n2⟩:=pq P;obtain⟨k1,k2⟩:=pq J;have Y:Hid (∀ W:ω,κ prog 229 #[.agg #[k,p]] W λe i=>e=.returned true/\β W W i):=λW=>by have:=tX k p W;rw[X] at this;exact this
  have R:=ah z;have D:Hid (B<=w.heap.size):=by unfold Hid;have:=j.pB;have:=lY j.blk;omega
  go_enter func270,ntmps270
  go_wp2
  go_quiet (fail)
  go_wp2_with fail
  refine cEq (Y.out _) λd n=>?_
  have y:=below_drewN ((ja0 w.heap.size w).alloc (ja1 _) (.cells #[k,p] 168)) nq;have H:Hid (β w w d):=y.trans (n.mono y.size);have f:=(R.out.below (below_drewN (ja0 _ _) nq)).below n;obtain⟨Z,c1,c3,V⟩:=f.cells;have b0:d.cell? ⟨w,0,none⟩=some (k:υ):=by rw[n.cell (by simp),jaA,cell_of_row _ _ _ _ _ _ (heap_alloc_new w _)];rfl
  have b1:d.cell? ⟨w,1,none⟩=some (p:υ):=by rw[n.cell (by simp),jaA,cell_of_row _ _ _ _ _ _ (heap_alloc_new w _)];rfl
  have o:=f.below ((ja0 _ _).drew);have s:=ah o;have T:Hid ((d.alloc (.cells #[k,p] 168)).drew.ownsRow B 168 2 (.slice a b.length cap) b.length (jB b)):=o.own.alloc _;have A:Hid ((d.alloc (.cells #[k,p] 168)).drew.heap.size=d.heap.size+1):=by unfold Hid;simp
  have C:Hid (B<=(d.alloc (.cells #[k,p] 168)).drew.heap.size):=by unfold Hid;rw[A.out];have:=o.pB;have:=lY f.blk;omega
  have Q:Hid (B<=d.heap.size):=by unfold Hid;have:=o.pB;have:=lY f.blk;omega
  have K:Hid (N<d.heap.size):=lY f.blk;have a3:(d.alloc (.cells #[k,p] 168)).cell? ⟨N,3,none⟩=some (.slice a b.length cap):=by rw[jar _ _ _ K.out];exact c3
  go_wp2
  go_region_law (refine step_append_lies _ (by rfl) _ _ 144 (by rfl) B 168 M (.agg #[(0:Int),(0:Int)]) 2 16 underlying144 a0 F L O rfl (by decide) (.slice a b.length cap) b.length (jB b) (by rfl) T.out ⟨d,0,none⟩ 1 1 [k,p] (by rfl) (by rfl) (uz _ _ _ _) (λu hu=>by simp at hu;rcases hu with rfl|rfl<;>rfl) (by decide) (by unfold maxLen;omega) (by omega) C.out (d.heap.size+1) A.out ?_;intro g l x t q G S
                 have m:=s.out.push k p g l (.cells #[k,p] 168) t q;have s3:=m.2.1;have fs:=m.2.2;have HP:Hid (fJ B (x.setCell ⟨N,3,none⟩ (.slice (some ⟨g,0,none⟩) (b.length+1) l)) N h (.slice (some ⟨g,0,none⟩) (b.length+1) l) (b++[(k,p)]) tk):=m.1;have I:Hid (β B w (x.setCell ⟨N,3,none⟩ (.slice (some ⟨g,0,none⟩) (b.length+1) l))):=(((((H.out.mono D.out).alloc Q.out _).drew).grown q C.out (λr e=>(s.out.own.lt r e).1)).setCell s.out.pB _)
                 clear m t q G S)
  all_goals
    go_wp2
    go_ret
    exact⟨_,rfl,HP.out,I.out⟩
def UL{B N:Nat}{h:HV}{v:υ}{b:List (Int × Int)}{tk:List Bool}(q:Nat)(w:ω)(i:fJ B w N h v b tk)(hf:(b.length:Int)≠h.c)(hl:b.length<=32)(F:q<40)(a8:(q:Int)<h.p)(K:tk.getD q false=false) :
    κ prog 270 #[N,.agg #[(2:Int),(q:Int)]] w λe k=>∃ v',e=.returned true/\fJ B k N h v' (b++[(2,(q:Int))]) (tk.set q true)/\β B w k:=by
  have y:=i.below ((ja0 w.heap.size w).alloc (ja1 _) (.cells #[(2:Int),(q:Int)] 168));obtain⟨C,c1,c3,I⟩:=y.cells;obtain⟨i0,Y,a0,a2,R⟩:=info_parts tK;obtain⟨a,cap,V⟩:=i.form;subst V;obtain⟨n1,n2⟩:=pq hf;have U:bI 2 (q:Int) 40=true:=kN (.inl ⟨rfl,by omega,by omega⟩)
  have gq  := decide_eq_false (by omega)
  have q0:(0:Int)<=(q:Int):=by omega
  have q1:(q:Int)<40:=by omega
  have HE:Hid (∀ W:ω,κ prog 229 #[.agg #[(2:Int),(q:Int)]] W λe k=>e=.returned true/\β W W k):=λW=>by have:=tX 2 (q:Int) W;rw[U] at this;exact this
  have S:=ah y;have J:Hid (B<=w.heap.size):=by unfold Hid;have:=i.pB;have:=lY i.blk;omega
  have a7  := lY i.blk;go_enter func270,ntmps270
  go_wp2
  go_quiet (fail)
  go_wp2_with fail
  refine cEq (HE.out _) λf n=>?_
  have G:=below_drewN ((ja0 w.heap.size w).alloc (ja1 _) (.cells #[(2:Int),(q:Int)] 168)) nq;have L:Hid (β w w f):=G.trans (n.mono G.size);have o:=(S.out.below (below_drewN (ja0 _ _) nq)).below n;obtain⟨C,c1,c3,I⟩:=o.cells;have O:f.cell? ⟨w,0,none⟩=some (.int .i64 2):=by rw[n.cell (by simp),jaA,cell_of_row _ _ _ _ _ _ (heap_alloc_new w _)];rfl
  have b1:f.cell? ⟨w,1,none⟩=some (.int .i64 (q:Int)):=by rw[n.cell (by simp),jaA,cell_of_row _ _ _ _ _ _ (heap_alloc_new w _)];rfl
  have x:=o.bit q F;rw[K] at x;obtain⟨bt,fb⟩:=x;have X:=ah o;go_wp2
  go_quiet (fail)
  go_wp2
  go_region
  have d:=(X.out.below (below_drewN (ja0 _ _) (nq+1))).yJ q F;have A:Hid (β B w ((f.drewN (nq+1)).setCell ⟨N,4+q,none⟩ true)):=(below_drewN (L.out.mono J.out) _).setCell d.pB _
  have Z:((f.drewN (nq+1)).setCell ⟨N,4+q,none⟩ true).cell? ⟨w,0,none⟩=some (.int .i64 2):=by
    rw[jah _ _ _ _ (λe=>by have:=congrArg Addr.block e;simp at this;omega),jaA];exact O
  have a6:((f.drewN (nq+1)).setCell ⟨N,4+q,none⟩ true).cell? ⟨w,1,none⟩=some (.int .i64 (q:Int)):=by
    rw[jah _ _ _ _ (λe=>by have:=congrArg Addr.block e;simp at this;omega),jaA];exact b1
  generalize (f.drewN (nq+1)).setCell ⟨N,4+q,none⟩ true=w4 at d A Z a6 |-;obtain⟨C,c1,c3,I⟩:=d.cells;have j:=d.below ((ja0 _ _).drew);have t:=ah j;have T:Hid ((w4.alloc (.cells #[(2:Int),(q:Int)] 168)).drew.ownsRow B 168 2 (.slice a b.length cap) b.length (jB b)):=j.own.alloc _;have z:Hid ((w4.alloc (.cells #[(2:Int),(q:Int)] 168)).drew.heap.size=w4.heap.size+1):=by unfold Hid;simp
  have H:Hid (B<=(w4.alloc (.cells #[(2:Int),(q:Int)] 168)).drew.heap.size):=by unfold Hid;rw[z.out];have:=j.pB;have:=lY d.blk;omega
  have a4:Hid (B<=w4.heap.size):=by unfold Hid;have:=j.pB;have:=lY d.blk;omega
  have Q:Hid (N<w4.heap.size):=lY d.blk;have a3:(w4.alloc (.cells #[(2:Int),(q:Int)] 168)).cell? ⟨N,3,none⟩=some (.slice a b.length cap):=by rw[jar _ _ _ Q.out];exact c3
  go_wp2
  go_region_law (refine step_append_lies _ (by rfl) _ _ 144 (by rfl) B 168 i0 (.agg #[(0:Int),(0:Int)]) 2 16 underlying144 Y a0 a2 R rfl (by decide) (.slice a b.length cap) b.length (jB b) (by rfl) T.out ⟨w4,0,none⟩ 1 1 [(2:Int),(q:Int)] (by rfl) (by rfl) (uz _ _ _ _) (λu hu=>by simp at hu;rcases hu with rfl|rfl<;>rfl) (by decide) (by unfold maxLen;omega) (by omega) H.out (w4.heap.size+1) z.out ?_;intro g l E D s a1 a5
                 have m:=t.out.push 2 (q:Int) g l (.cells #[(2:Int),(q:Int)] 168) D s;have s3:=m.2.1;have fs:=m.2.2;have P:Hid (fJ B (E.setCell ⟨N,3,none⟩ (.slice (some ⟨g,0,none⟩) (b.length+1) l)) N h (.slice (some ⟨g,0,none⟩) (b.length+1) l) (b++[(2,(q:Int))]) (tk.set q true)):=m.1;have M:Hid (β B w (E.setCell ⟨N,3,none⟩ (.slice (some ⟨g,0,none⟩) (b.length+1) l))):=((((A.out.alloc a4.out _).drew).grown s H.out (λr e=>(t.out.own.lt r e).1)).setCell t.out.pB _)
                 clear m D s a1 a5)
  all_goals
    go_wp2
    go_ret
    exact⟨_,rfl,P.out,M.out⟩
def UY{B N:Nat}{h:HV}{v:υ}{o:List (Int × Int)}{tk:List Bool}(q:Nat)(w:ω)(m:fJ B w N h v o tk)(D:(o.length:Int)≠h.c)(z:q<40)(k:h.p<=(q:Int)\/((q:Int)<h.p/\tk.getD q false=true)) :
  κ prog 270 #[N,.agg #[(2:Int),(q:Int)]] w λe j=>e=.returned false/\β w w j:=by
 have s:=m.below ((ja0 w.heap.size w).alloc (ja1 _) (.cells #[(2:Int),(q:Int)] 168));obtain⟨r,c1,c3,u⟩:=s.cells;obtain⟨a,cap,F⟩:=m.form;subst F;obtain⟨J,L⟩:=pq D;have E:bI 2 (q:Int) 40=true:=kN (.inl ⟨rfl,by omega,by omega⟩)
 have G:(0:Int)<=(q:Int):=by omega
 have H:(q:Int)<40:=by omega
 have x:Hid (∀ W:ω,κ prog 229 #[.agg #[(2:Int),(q:Int)]] W λe j=>e=.returned true/\β W W j):=λW=>by have:=tX 2 (q:Int) W;rw[E] at this;exact this
 have t:=ah s;rcases k with k|⟨K,d⟩
 .have A  := decide_eq_true k
  go_enter func270,ntmps270
  go_wp2
  go_quiet (fail)
  go_wp2_with fail
  refine cEq (x.out _) λb d=>?_
  have f:=below_drewN ((ja0 w.heap.size w).alloc (ja1 _) (.cells #[(2:Int),(q:Int)] 168)) nq;have l:Hid (β w w b):=f.trans (d.mono f.size);have i:=(t.out.below (below_drewN (ja0 _ _) nq)).below d;obtain⟨r,c1,c3,u⟩:=i.cells;have C:b.cell? ⟨w,0,O⟩=S (.int .i64 2):=by rw[d.cell (by simp),jaA,cell_of_row _ _ _ _ _ _ (heap_alloc_new w _)];rfl
  have y:b.cell? ⟨w,1,O⟩=S (.int .i64 (q:Int)):=by rw[d.cell (by simp),jaA,cell_of_row _ _ _ _ _ _ (heap_alloc_new w _)];rfl
  go_wp2
  go_quiet (fail)
  go_wp2
  go_ret
  exact⟨rfl,below_drewN l.out _⟩
 .have A:decide (h.p<=(q:Int))=false:=decide_eq_false (by omega)
  go_enter func270,ntmps270
  go_wp2
  go_quiet (fail)
  go_wp2_with fail
  refine cEq (x.out _) λb g=>?_
  have f:=below_drewN ((ja0 w.heap.size w).alloc (ja1 _) (.cells #[(2:Int),(q:Int)] 168)) nq;have l:Hid (β w w b):=f.trans (g.mono f.size);have i:=(t.out.below (below_drewN (ja0 _ _) nq)).below g;obtain⟨r,c1,c3,u⟩:=i.cells;have n:=i.bit q z;rw[d] at n;obtain⟨M,I⟩:=n;have C:b.cell? ⟨w,0,O⟩=S (.int .i64 2):=by rw[g.cell (by simp),jaA,cell_of_row _ _ _ _ _ _ (heap_alloc_new w _)];rfl
  have y:b.cell? ⟨w,1,O⟩=S (.int .i64 (q:Int)):=by rw[g.cell (by simp),jaA,cell_of_row _ _ _ _ _ _ (heap_alloc_new w _)];rfl
  go_wp2
  go_quiet (fail)
  go_wp2
  go_ret
  exact⟨rfl,below_drewN l.out _⟩
def take_any{B N:Nat}{h:HV}{v:υ}{a:List (Int × Int)}(k p:Int)(w:ω)(j:fJ B w N h v a (fH a))(C:h.ok=true)(E:(a.length:Int)<=h.c) :
  κ prog 270 #[N,.agg #[k,p]] w λe l =>
   ∃ n,e=.returned (.bool (stepT h a (k,p)).isSome)/\(∀ i,stepT h a (k,p)=S i->fJ B l N h n i (fH i))/\β B w l:=by
 have F:=HV.dK C;have u:B<=w.heap.size:=by have:=j.pB;have:=lY j.blk;omega
 by_cases f:(a.length:Int)=h.c
 .refine cEq (UO k p w j f) λl g=>?_
  by_cases r:k=0/\p=0
  .have b:stepT h a (k,p)=S a:=by unfold stepT;rw[if_pos f,if_pos (by rw[r.1,r.2])]
   exact⟨v,by rw[b,decide_eq_true r];rfl,λi d=>by rw[b] at d;cases d;exact j.below g,g.mono u⟩
  .have b:stepT h a (k,p)=none:=by unfold stepT;rw[if_pos f,if_neg (λe=>r ⟨congrArg Prod.fst e,congrArg Prod.snd e⟩)]
   exact⟨v,by rw[b,decide_eq_false r];rfl,(λi d=>by rw[b] at d;cases d),g.mono u⟩
 .cases t:bI k p 40 with
  | false =>
   have b:stepT h a (k,p)=none:=by
    unfold stepT;rw[if_neg f,if_neg (λe=>(LY t) (by have:=jh e.1;simp only at this;omega))]
   refine cEq (UR k p w j f t) λl g=>?_
   exact⟨v,by rw[b];rfl,(λi d=>by rw[b] at d;cases d),g.mono u⟩
  | true =>
   have D:=jh t;by_cases s:k=2
   .subst s
    obtain⟨q,rfl⟩:∃ q:Nat,p=(q:Int):=⟨p.toNat,by omega⟩
    have o:q<40:=by omega
    by_cases m:h.p<=(q:Int)\/((q:Int)<h.p/\(fH a).getD q false=true)
    .have b:stepT h a (2,(q:Int))=none:=by
      unfold stepT;rw[if_neg f,if_neg];rintro⟨h1,h2⟩;rcases m with m|⟨_,m⟩
      .have:=jh h1;simp only at this;omega
      .rw[CG a q o] at m
       exact h2 ⟨rfl,of_decide_eq_true m⟩
     refine cEq (UY q w j f o m) λl g=>?_
     exact⟨v,by rw[b];rfl,(λi d=>by rw[b] at d;cases d),g.mono u⟩
    .have z:(q:Int)<h.p:=by omega
     have y:(fH a).getD q false=false:=by
      cases A:(fH a).getD q false with
      | false=>rfl
      | true=>exact absurd (.inr ⟨z,A⟩) m
     have b:stepT h a (2,(q:Int))=S (a++[(2,(q:Int))]):=by
      unfold stepT;rw[if_neg f,if_pos];refine⟨kN (.inl ⟨rfl,by omega,z⟩),λe=>?_⟩
      rw[CG a q o] at y;exact of_decide_eq_false y e.2
     refine(UL q w j f (by omega) o z y).mono ?_
     rintro e l ⟨n,rfl,x,g⟩;exact⟨n,by rw[b];rfl,λi d=>by rw[b] at d;cases d;rw[IG a q o];exact x,g⟩
   .have b:stepT h a (k,p)=S (a++[(k,p)]):=by
     unfold stepT;rw[if_neg f,if_pos];exact⟨kN (by show(k=2/\0<=p/\p<h.p)\/((k=0\/k=1)/\p=0);omega),λe=>s e.1⟩
    refine(UU k p w j f (by omega) t s).mono ?_
    rintro e l ⟨n,rfl,x,g⟩;exact⟨n,by rw[b];rfl,λi d=>by rw[b] at d;cases d;rw[IJ a k p s];exact x,g⟩
def QV{N:Nat}(s:ByteArray)(w:ω)(b:s.size≠16) :
  κ prog 247 #[N,s] w λe a=>e=.returned (.iface 96 (.int .i64 1))/\a=w:=by
 go_enter func247,ntmps247
 go_wp2
 go_ret
 simp_all
def pI(h:HV)(a:List (Int × Int))(s:ByteArray):Value:=if (fD h a s 8).isSome then .nilIface else .iface 96 (.int .i64 2)
def QU{B N:Nat}{h:HV}{v:υ}{b:List (Int × Int)}(s:ByteArray)(w:ω)(A:s.size=16)(u:fJ B w N h v b (fH b))(O:h.ok=true)(J:(b.length:Int)<=h.c) :
  κ prog 247 #[N,s] w λe t =>
   ∃ F,e=.returned (pI h b s)/\(∀ d,fD h b s 8=some d->fJ B t N h F d (fH d))/\β B w t:=by
 have g1:((s.size:Int) != 16)=false:=by simp;omega
 have z:=ah A;have U:=ah u;clear A u;go_enter func247,ntmps247
 go_wp2
 go_loopw [11] (λi wr=>∃(k:Nat) (a:List (Int × Int)) (o:υ),k<=8/\i=.int .i64 k/\fD h b s k=some a/\fJ B wr N h o a (fH a)/\β B w wr) (λi _=>8-(intOf i).toNat)
 case atStart=>exact⟨0,b,v,ja5 _,rfl,rfl,U.out,ja0 _ _⟩
 case round =>
  obtain⟨k,a,o,Y,rfl,f,j,C⟩:=hrel;have Q:=GY J k a f;have D:B<=wr.heap.size:=by have:=j.pB;have:=lY j.blk;omega
  by_cases V:k<8
  .have L:=yC f
   have H:k*2<s.size:=by rw[z.out];omega
   have M:k*2+1<s.size:=by rw[z.out];omega
   have E:=nT s (k*2) H;have R:=nT s (k*2+1) M;have n:Hid (fD h b s (k+1)=stepT h a (bAt s (k*2),bAt s (k*2+1))):=L;obtain⟨I,u0⟩:=iP s (k*2);obtain⟨P,u1⟩:=iP s (k*2+1);generalize bAt s (k*2)=y0 at E n I u0;generalize bAt s (k*2+1)=y1 at R n P u1;have Z:(k:Int)*2<(s.size:Int):=by omega
   have W:(k:Int)*2+1<(s.size:Int):=by omega
   have j2:(0:Int)<=(k:Int)*2+1:=by omega
   have X:(0:Int)<=(k:Int)*2:=by omega
   have y:=ah C;have g:=ah (take_any y0 y1 (wr.alloc (.cells #[y0,y1] 168)).drew (j.below (((ja0 wr.heap.size wr).alloc (ja1 _) (.cells #[y0,y1] 168)).drew)) O Q)
   cases m:stepT h a (y0,y1) with
   | none =>
    have l:Hid (pI h b s=.iface 96 (.int .i64 2)/\fD h b s 8=none):=by
     have x:=vG (n.out.trans m) 8 (by omega)
     exact⟨by unfold pI;rw[x];rfl,x⟩
    rw[m] at g;go_wp2
    go_region
    go_wp2_with fail
    refine g.out.mono ?_;rintro e T ⟨v2,rfl,_,q⟩;go_wp2
    go_ret
    exact⟨v2,by rw[l.out.1];rfl,λd e=>(by rw[l.out.2] at e;cases e),(((y.out.alloc D _).drew).trans q)⟩
   | some r =>
    have l:Hid (fD h b s (k+1)=some r):=n.out.trans m;rw[m] at g;go_wp2
    go_region
    go_wp2_with fail
    refine g.out.mono ?_;rintro e T ⟨v2,rfl,K,q⟩;go_wp2
    go_roundw
    case rel =>
     exact⟨k+1,r,v2,by omega,by go_num,l.out,(K r rfl),(((y.out.alloc D _).drew).trans q)⟩
    case measure=>simp[intOf];omega
  .have G:k=8:=by omega
   subst G;have S:Hid (pI h b s=.nilIface):=by unfold Hid pI;rw[f];rfl
   go_wp2
   go_ret
   exact⟨o,by rw[S.out];rfl,λd e=>(by rw[f] at e;cases e;exact j),C⟩
