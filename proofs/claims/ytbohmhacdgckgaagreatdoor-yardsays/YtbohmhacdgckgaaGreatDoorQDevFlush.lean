/- Short steps of a walk: a call whose ending is known. -/
import Derived.Test.YtbohmhacdgckgaaGreatDoorQB0
import Derived.Test.YtbohmhacdgckgaaGreatDoorProg
import Derived.Calls
import Derived.Below
import Derived.Test.YtbohmhacdgckgaaGreatDoorRows
import Derived.WalkKit
import Derived.WalkSpells
import Derived.WalkLawsBesides
import Derived.Deep.MidRow
import Derived.Deep.AppendLies
import Derived.Laws.CopyOwn
import Derived.Deep.QuietTactic
import Derived.BigQuiet
import Derived.Laws.BytesArg
import Derived.Deep.RegionHeld3
import Derived.Deep.DrawnRows
import Derived.Deep.AppendSrc
import Derived.Deep.WholeRow
set_option linter.all false
set_option maxHeartbeats 1000000
set_option maxRecDepth 100000
namespace Go.Proofs.YtbohmhacdgckgaaGreatDoor
open Go.RowKit renaming Below->β
open Go renaming World->ω, Value->υ, Calls->κ
open Option renaming none->O, some->S
open Go.Proofs.Tryz Go.RowKit
attribute [local go_sem ↓] Go.wp_at_zero Go.wp_at_succ
def ah{p:Prop}(h:p):Hid p:=h
def cSt{P:Program}{f:FuncId}{a:Array υ}{w W:ω}{v:Ending}{R:Ending->ω->Prop}(h:κ P f a w λe b=>e=v/\b=W)(k:R v W):κ P f a w R:=h.mono λ_ _ ⟨d,c⟩=>by simp_all
def cEq{P:Program}{f:FuncId}{a:Array υ}{w:ω}{v:Ending}{S:ω->Prop}{R:Ending->ω->Prop}(h:κ P f a w λe b=>e=v/\S b)(k:∀ W,S W->R v W):κ P f a w R:=h.mono λ_ _ ⟨d,c⟩=>by simp_all
def cHd{P:Program}{f:FuncId}{a:Array υ}{w:ω}{v:Ending}{S:ω->Prop}{R:Ending->ω->Prop}(h:κ P f a w λe b=>e=v/\S b)(k:∀ W,Hid (S W)->R v W):κ P f a w R:=cEq h k
def cBl{P:Program}{f:FuncId}{a:Array υ}{w b:ω}{v:Ending}{R:Ending->ω->Prop}(h:κ P f a w λe d=>e=v/\β w w d)(c:β b b w)(k:∀ W,Hid (β b b W)->R v W):κ P f a w R:=cEq h λ_ h=>k _ (c.trans (h.mono c.size))
structure Kept(S:Nat->Prop)(w w':ω):Prop where
 os:w'.os=w.os
 tape:w'.tape=w.tape
 output:w'.output=w.output
 size:w.heap.size<=w'.heap.size
 block:∀ k,k<w.heap.size->¬S k->w'.heap[k]?=w.heap[k]?
def Kept.refl(S:Nat->Prop)(w:ω):Kept S w w:=⟨rfl,rfl,rfl,ja1 _,λ_ _ _=>rfl⟩
theorem Kept.trans{S:Nat->Prop}{a b c:ω}(h:Kept S a b)(k:Kept S b c):Kept S a c :=
 ⟨k.os.trans h.os,k.tape.trans h.tape,k.output.trans h.output,ja4 h.size k.size,λi f d=>(k.block i (ja9 f h.size) d).trans (h.block i f d)⟩
def Kept.mono{S T:Nat->Prop}{a b:ω}(h:Kept S a b)(f:∀ k,k<a.heap.size->S k->T k):Kept T a b :=
 ⟨h.os,h.tape,h.output,h.size,λi c d=>h.block i c λs=>d (f i c s)⟩
theorem Kept.drew{S:Nat->Prop}{a w:ω}(h:Kept S a w):Kept S a w.drew:=⟨h.os,h.tape,h.output,h.size,h.block⟩
theorem Kept.alloc{S:Nat->Prop}{a w:ω}(h:Kept S a w)(o:Obj):Kept S a (w.alloc o) :=
 ⟨h.os,h.tape,h.output,by have:=h.size;simp;omega,λk b c=>(jal w o k (ja9 b h.size)).trans (h.block k b c)⟩
theorem Kept.setCell{S:Nat->Prop}{a w:ω}(h:Kept S a w){p:Addr}(b:S p.block\/a.heap.size<=p.block)(u:υ):Kept S a (w.setCell p u) :=
 ⟨h.os,h.tape,h.output,by simpa [World.setCell] using h.size,λk d c=>(heap_setCell_other w p k u (λe=>by rcases b with b|b;exact c (e▸b);omega)).trans (h.block k d c)⟩
def Kept.grown{S:Nat->Prop}{a w f:ω}{row:Option Nat}(h:Kept S a w)(b:w.grownBy f row)(i:∀ k,row=some k->S k\/a.heap.size<=k):Kept S a f :=
 ⟨b.os.trans h.os,b.tape.trans h.tape,b.output.trans h.output,ja4 h.size b.size,λk d g=>(b.block k (ja9 d h.size) (λe=>by rcases i k e.symm with c|c;exact g c;omega)).trans (h.block k d g)⟩
def Kept.below{S:Nat->Prop}{a w:ω}{B:Nat}(h:Kept S a w)(c:B<=a.heap.size)(d:∀ k,S k->B<=k):β B a w :=
 ⟨h.os,h.tape,h.output,h.size,λk b=>h.block k (ja9 b c) λs=>by have:=d k s;omega⟩
def Below.kept{S:Nat->Prop}{a w:ω}(h:β a a w):Kept S a w:=⟨h.os,h.tape,h.output,h.size,λk b _=>h.block k b⟩
def aY(s:List UInt8):List Value:=s.map λb=>.int .u8 (b.toNat:Int)
def bM(l:List (List UInt8)):List Value:=(l.map aY).flatten
def wrV(x:Nat × List UInt8):List Value:=.int .i64 (x.1:Int)::aY x.2
def iM(l:List (Nat × List UInt8)):List Value:=(l.map wrV).flatten
structure DV where
 fl:List (List UInt8)
 seen:List (List UInt8)
 pend:List (Nat × List UInt8)
 wr:Nat
 fail:Int
structure DV.ok(d:DV):Prop where
 n1:1<=d.fl.length
 n2:d.fl.length<=200
 same:d.seen.length=d.fl.length
 l1:∀ s∈d.fl,s.length=16
 l2:∀ s∈d.seen,s.length=16
 l3:∀ x∈d.pend,x.1<d.fl.length/\x.2.length=16
 few:d.pend.length<=d.wr
 few2:d.wr<=1000000000
 f1 : -1<=d.fail
 f2:d.fail<=9223372036854775807
structure Hd where
 p:Nat
 bf:Nat
 cf:Nat
 bs:Nat
 cs:Nat
 v2:υ
def Hd.fp(h:Hd)(k:Nat):Prop:=k=h.p\/k=h.bf\/k=h.bs\/h.v2.ownBlock=S k
structure aO(B:Nat)(w:ω)(h:Hd)(d:DV):Prop where
 ok:d.ok
 pB:B<=h.p
 blk:w.heap[h.p]?=S (.cells #[.slice (S ⟨h.bf,0,O⟩) d.fl.length h.cf,.slice (S ⟨h.bs,0,O⟩) d.fl.length h.cs,h.v2,(d.wr:Int),d.fail] 178 (0,0))
 of:w.ownsRow B 175 16 (.slice (S ⟨h.bf,0,O⟩) d.fl.length h.cf) d.fl.length (bM d.fl)
 os:w.ownsRow B 175 16 (.slice (S ⟨h.bs,0,O⟩) d.fl.length h.cs) d.fl.length (bM d.seen)
 op:w.ownsRow B 180 17 h.v2 d.pend.length (iM d.pend)
 ne:h.bf≠h.bs
 pn:d.pend=[]->h.v2=.slice O 0 0
def dQ{w:ω}{B e size g n cap:Nat}{b:List υ}(h:w.ownsRow B e size (.slice (S ⟨g,0,O⟩) n cap) n b) :
  B<=g/\∃ a,w.heap[g]?=S (.cells a e (0,0))/\n<=cap/\cap<=maxLen/\a.size=cap*size/\a.toList.take (n*size)=b:=by
 rcases h.2 with⟨c,_⟩|⟨l,i,a,m,k,f,q,d,j,o⟩
 .cases c
 .simp_all
def aZ{w b:ω}{B e size n:Nat}{v:υ}{c:List υ}(h:w.ownsRow B e size v n c)(l:∀ k,v.ownBlock=S k->b.heap[k]?=w.heap[k]?):b.ownsRow B e size v n c:=by
 obtain⟨m,a⟩:=h;refine⟨m,?_⟩;rcases a with a|⟨g,cap,f,d,j,i,r⟩
 .exact .inl a
 .exact .inr ⟨g,cap,f,d,j,by rw[l g (by rw[d];rfl)];exact i,r⟩
def ownsRow_base{w:ω}{B a e size n:Nat}{v:υ}{b:List υ}(h:w.ownsRow a e size v n b)(i:B<=a):w.ownsRow B e size v n b:=by
 refine⟨h.1,?_⟩;rcases h.2 with f|⟨g2,g,c,d,j,r⟩
 .exact .inl f
 .exact .inr ⟨g2,g,c,d,by omega,r⟩
def lt_of_some{w:ω}{k:Nat}{o:Obj}(h:w.heap[k]?=S o):k<w.heap.size:=by
 rcases jaq k _ with a|a
 .exact a
 .simp_all
def aO.keep{B:Nat}{w b:ω}{h:Hd}{d:DV}(hd:aO B w h d)(a:∀ k,h.fp k->b.heap[k]?=w.heap[k]?):aO B b h d :=
 ⟨hd.ok,hd.pB,by rw[a _ (.inl rfl)];exact hd.blk,aZ hd.of (λk e=>a k (.inr (.inl (by simpa [Value.ownBlock] using e.symm)))),aZ hd.os (λk e=>a k (.inr (.inr (.inl (by simpa [Value.ownBlock] using e.symm))))),aZ hd.op (λk e=>a k (.inr (.inr (.inr e)))),hd.ne,hd.pn⟩
theorem aO.lt{B:Nat}{w:ω}{h:Hd}{d:DV}(hd:aO B w h d):∀ k,h.fp k->B<=k/\k<w.heap.size:=by
 intro k a;rcases a with rfl|rfl|rfl|a
 .exact⟨hd.pB,lt_of_some hd.blk⟩
 .obtain⟨c,f,b,_⟩:=dQ hd.of;exact⟨c,lt_of_some b⟩
 .obtain⟨c,f,b,_⟩:=dQ hd.os;exact⟨c,lt_of_some b⟩
 .exact hd.op.lt k a
def aO.cells{B:Nat}{w:ω}{h:Hd}{d:DV}(hd:aO B w h d) :
  w.cell? ⟨h.p,0,O⟩=S (.slice (S ⟨h.bf,0,O⟩) d.fl.length h.cf)/\w.cell? ⟨h.p,1,O⟩=S (.slice (S ⟨h.bs,0,O⟩) d.fl.length h.cs) /\
  w.cell? ⟨h.p,2,O⟩=S h.v2/\w.cell? ⟨h.p,3,O⟩=S (.int .i64 (d.wr:Int))/\w.cell? ⟨h.p,4,O⟩=S (d.fail:υ)/\∀ j,w.frozen? ⟨h.p,j,O⟩=false:=by
 have a:=hd.blk;refine⟨?_,?_,?_,?_,?_,λj=>frozen_of_row w h.p j _ _ a⟩<;>rw[cell_of_row w h.p _ _ _ _ a]<;>rfl
theorem aO.v2{B:Nat}{w:ω}{h:Hd}{d:DV}(hd:aO B w h d):∃ a cap,h.v2=.slice a d.pend.length cap:=by
 rcases hd.op.2 with⟨i,f⟩|⟨g,cap,b,c,_⟩
 .simp_all
 .simp_all
def aO.apart{B:Nat}{w:ω}{h:Hd}{d:DV}(hd:aO B w h d):h.bf≠h.p/\h.bs≠h.p/\h.v2.ownBlock≠S h.p/\h.v2.ownBlock≠S h.bf/\h.v2.ownBlock≠S h.bs:=by
 obtain⟨_,k,f,_⟩:=dQ hd.of;obtain⟨_,l,m,_⟩:=dQ hd.os;have c:=hd.blk;refine⟨λe=>?_,λe=>?_,λe=>?_,λe=>?_,λe=>?_⟩
 .simp_all
 .simp_all
 all_goals
  rcases hd.op.2 with⟨a,_⟩|⟨g,cap,b,i,_,j,_⟩
  .rw[a] at e;cases e
  .simp only[Value.ownBlock,Option.some.injEq] at e
   simp_all
def pG{a b:Bool}(h:a=b):Ending.returned a=.returned b:=by rw[h]
def mg{a b:Int}(h:a=b):Ending.returned a=.returned b:=by rw[h]
def size_any{B:Nat}{h:Hd}{d:DV}(w:ω)(hd:aO B w h d) :
  κ prog 99 #[h.p] w λe a=>e=.returned (d.fl.length:Int)/\a=w:=by
 obtain⟨c,c1,c2,c3,c4,b⟩:=hd.cells;go_enter func99,ntmps99
 go_wp2
 go_ret
 exact⟨rfl,rfl⟩
def Qv{B:Nat}{h:Hd}{d:DV}(w:ω)(hd:aO B w h d) :
  κ prog 142 #[h.p] w λe b=>e=.returned (d.pend.length:Int)/\b=w:=by
 obtain⟨f,c1,c2,c3,c4,c⟩:=hd.cells;obtain⟨a,cap,g⟩:=hd.v2;go_enter func142,ntmps142
 go_wp2
 go_ret
 simp_all
def VB{B:Nat}{h:Hd}{d:DV}(w:ω)(hd:aO B w h d) :
  κ prog 143 #[h.p] w λe a=>e=.returned (d.wr:Int)/\a=w:=by
 obtain⟨c,c1,c2,c3,c4,b⟩:=hd.cells;go_enter func143,ntmps143
 go_wp2
 go_ret
 simp_all
def DV.has(d:DV)(a:Int):Bool:=decide (0<=a/\a<d.fl.length)
def Aq{B:Nat}{h:Hd}{d:DV}(a:Int)(w:ω)(hd:aO B w h d) :
  κ prog 150 #[h.p,a] w λe f=>e=.returned (.bool (d.has a))/\f=w:=by
 obtain⟨i,c1,c2,c3,c4,g⟩:=hd.cells;by_cases c:0<=a
 .have b:Hid (d.has a=decide (a<(d.fl.length:Int))):=by unfold Hid DV.has;simp[c]
  go_enter func150,ntmps150
  go_wp2
  go_ret
  exact⟨pG b.out.symm,rfl⟩
 .have b:Hid (d.has a=false):=by unfold Hid DV.has;simp[c]
  go_enter func150,ntmps150
  go_wp2
  go_ret
  exact⟨pG b.out.symm,rfl⟩
def aO.oM{B:Nat}{w:ω}{h:Hd}{d a:DV}(hd:aO B w h d)(v2:υ)(i:Nat)(u:υ)(q:a.ok)(c:a.fl=d.fl)(n:a.seen=d.seen)
  (s:(#[.slice (S ⟨h.bf,0,O⟩) d.fl.length h.cf,.slice (S ⟨h.bs,0,O⟩) d.fl.length h.cs,h.v2,(d.wr:Int),d.fail]:Array υ).setIfInBounds i u = #[.slice (S ⟨h.bf,0,O⟩) d.fl.length h.cf,.slice (S ⟨h.bs,0,O⟩) d.fl.length h.cs,v2,.int .i64 (a.wr:Int),.int .i64 a.fail])
  (f:w.ownsRow B 180 17 v2 a.pend.length (iM a.pend)) (o:a.pend=[]->v2=.slice O 0 0):aO B (w.setCell ⟨h.p,i,O⟩ u) {h with v2:=v2} a:=by
 obtain⟨_,y,A,_⟩:=dQ hd.of;obtain⟨_,C,z,_⟩:=dQ hd.os
 have v:h.bf≠h.p:=λe=>by
  have j:=hd.blk
  simp_all
 have D:h.bs≠h.p:=λe=>by
  have j:=hd.blk
  simp_all
 have l:∀ k,v2.ownBlock=S k->k≠h.p:=λk b e=>by
  have j:=hd.blk;rcases f.2 with⟨m,_⟩|⟨g,cap,t,r,_,x,_⟩
  .rw[m] at b;cases b
  .rw[r] at b
   have:g=k:=by simpa [Value.ownBlock] using b
   simp_all
 refine⟨q,hd.pB,?_,?_,?_,aZ f (λk e=>heap_setCell_other _ _ _ _ (l k e)),hd.ne,o⟩
 .rw[c]
  rw[heap_setCell_same w _ i _ _ u hd.blk,s]
 .rw[c];exact aZ hd.of (λk e=>heap_setCell_other _ _ _ _ (by
   have:h.bf=k:=by simpa [Value.ownBlock] using e
   simp_all))
 .rw[c,n];exact aZ hd.os (λk e=>heap_setCell_other _ _ _ _ (by
   have:h.bs=k:=by simpa [Value.ownBlock] using e
   simp_all))
def DV.failing(d:DV)(n:Int):DV:={d with fail:=n}
theorem DV.ok.failing{d:DV}(h:d.ok){n:Int}(a : -1<=n)(b:n<=9223372036854775807):(d.failing n).ok :=
 ⟨h.n1,h.n2,h.same,h.l1,h.l2,h.l3,h.few,h.few2,a,b⟩
theorem aO.failing{B:Nat}{w:ω}{h:Hd}{d:DV}(hd:aO B w h d){n:Int}(a : -1<=n)(b:n<=9223372036854775807):aO B (w.setCell ⟨h.p,4,O⟩ n) h (d.failing n) :=
 hd.oM _ 4 _ (hd.ok.failing a b) rfl rfl rfl hd.op hd.pn
def zV{B:Nat}{h:Hd}{d:DV}(n:Int)(w:ω)(b:aO B w h d)(c:n<0) :
  κ prog 136 #[h.p,n] w λe a=>e=.returned (.iface 96 (.int .i64 1))/\a=w:=by
 go_enter func136,ntmps136
 go_wp2
 go_ret
 simp_all
def zW{B:Nat}{h:Hd}{d:DV}(n:Int)(w:ω)(hd:aO B w h d)(g:0<=n)(b:n<=9223372036854775807) :
  κ prog 136 #[h.p,n] w λe a=>e=.returned .nilIface/\aO B a h (d.failing n)/\Kept h.fp w a:=by
 obtain⟨i,c1,c2,c3,c4,f⟩:=hd.cells;have c:Hid _:=hd;go_enter func136,ntmps136
 go_wp2
 go_ret
 exact⟨rfl,c.out.failing (by omega) b,(Kept.refl _ _).setCell (.inl (.inl rfl)) _⟩
def MC{B:Nat}{h:Hd}{d:DV}(w:ω)(hd:aO B w h d)(f:d.fail = -1) :
  κ prog 177 #[h.p] w λe a=>e=.returned false/\a=w:=by
 obtain⟨c,c1,c2,c3,c4,b⟩:=hd.cells;go_enter func177,ntmps177
 go_wp2
 go_ret
 simp_all
def MF{B:Nat}{h:Hd}{d:DV}(w:ω)(hd:aO B w h d)(i:0<=d.fail) :
  κ prog 177 #[h.p] w λe a=>e=.returned (.bool (decide (d.fail=0)))/\aO B a h (d.failing (d.fail-1))/\Kept h.fp w a:=by
 obtain⟨j,c1,c2,c3,c4,f⟩:=hd.cells;have c:Hid _:=hd;have g:=hd.ok.f2
 have b:Hid ((d.fail-1 == -1)=decide (d.fail=0)):=by
  unfold Hid;rw[jaD,beq_iff_eq,decide_eq_true_eq];omega
 go_enter func177,ntmps177
 go_wp2
 go_ret
 exact⟨pG b.out,c.out.failing (by omega) (by omega),(Kept.refl _ _).setCell (.inl (.inl rfl)) _⟩
def uH:Value:=.agg #[.int .u8 0,.int .u8 0,.int .u8 0,.int .u8 0,.int .u8 0,.int .u8 0,.int .u8 0,.int .u8 0,.int .u8 0,.int .u8 0,.int .u8 0,.int .u8 0,.int .u8 0,.int .u8 0,.int .u8 0,.int .u8 0]
def CX:Value:=.agg #[(0:Int),.int .u8 0,.int .u8 0,.int .u8 0,.int .u8 0,.int .u8 0,.int .u8 0,.int .u8 0,.int .u8 0,.int .u8 0,.int .u8 0,.int .u8 0,.int .u8 0,.int .u8 0,.int .u8 0,.int .u8 0,.int .u8 0]
def EM:(prog.info? 175).map (λi=>(i.zero,i.size,i.bytes))=S (S uH,16,16):=by kernel_rfl
def EO:(prog.info? 180).map (λi=>(i.zero,i.size,i.bytes))=S (S CX,17,24):=by kernel_rfl
def ni(s:List UInt8):(aY s).length=s.length:=by simp[aY]
def rZ(l:List (List UInt8))(h:∀ s∈l,s.length=16):(bM l).length=l.length*16:=by
 induction l with
 | nil=>simp[bM]
 | cons s l b =>
  have d:=h s (by simp)
  have a:=b (λx c=>h x (by simp[c]))
  simp only[bM,List.map_cons,List.flatten_cons,jak,jax] at a |-;rw[ni,a];omega
def rY(s:List UInt8):∀ u∈aY s,u.oneCell'=true:=by
 intro u a;obtain⟨b,_,rfl⟩:=List.mem_map.1 a;rfl
def Hq(l:List (List UInt8)):∀ u∈bM l,u.oneCell'=true:=by
 intro u a;simp only[bM,List.mem_flatten,List.mem_map] at a;obtain⟨x,⟨s,_,rfl⟩,b⟩:=a;exact rY s u b
def zi(x:Nat × List UInt8):(wrV x).length=x.2.length+1:=by simp[wrV,aY]
def VE(l:List (Nat × List UInt8))(h:∀ x∈l,x.2.length=16):(iM l).length=l.length*17:=by
 induction l with
 | nil=>simp[iM]
 | cons s l b =>
  have d:=h s (by simp)
  have a:=b (λx c=>h x (by simp[c]))
  simp only[iM,List.map_cons,List.flatten_cons,jak,jax] at a |-;rw[zi,a];omega
def CS(l:List (Nat × List UInt8)):∀ u∈iM l,u.oneCell'=true:=by
 intro u b;simp only[iM,List.mem_flatten,List.mem_map] at b;obtain⟨x,⟨s,_,rfl⟩,a⟩:=b;simp only[wrV,List.mem_cons] at a;rcases a with rfl|a
 .rfl
 .exact rY _ u a
def uZ{w:ω}{B e size g n cap:Nat}{a:List υ}(h:w.ownsRow B e size (.slice (S ⟨g,0,O⟩) n cap) n a) :
  ∀ j u,a[j]?=S u->w.cell? ((⟨g,0,O⟩:Addr).add j)=S u:=h.cells  rfl
def F8(w:ω)(e size:Nat):(w.alloc (.cells #[] e)).ownsRow w.heap.size e size (.slice (S ⟨w,0,O⟩) 0 0) 0 [] :=
 ⟨by simp,.inr ⟨w,0, #[],rfl,ja1 _,heap_alloc_new w _,ja1 _,by omega,by simp,by simp⟩⟩
def wP{B g cap:Nat}(l:List (List UInt8))(w:ω)(I:1<=l.length)(E:l.length<=200)(m:∀ s∈l,s.length=16)
  (c:w.ownsRow B 175 16 (.slice (S ⟨g,0,O⟩) l.length cap) l.length (bM l)) :
  κ prog 113 #[.slice (S ⟨g,0,O⟩) l.length cap] w λe d =>
   ∃ b a,e=.returned (.slice (S ⟨b,0,O⟩) l.length a)/\d.ownsRow w.heap.size 175 16 (.slice (S ⟨b,0,O⟩) l.length a) l.length (bM l)/\β w w d:=by
 obtain⟨f,q,o,v,h⟩:=info_parts EM;have r:=uZ c;have y:=rZ l m;have i:=Hq l;obtain⟨_,z,F,_⟩:=dQ c
 have n:Hid (∀ j u,(bM l)[j]?=S u->(w.alloc (.cells #[] 175)).cell? ((⟨g,0,O⟩:Addr).add j)=S u):=λj u t=>by
  have:=r j u t
  rw[jb1 _ _ _ (ja2 w _ this)];exact this
 have H  := λw=>by
  simpa using jbm (P:=prog) w 163 175 (S ⟨g,0,O⟩) l.length cap 0 0 underlying163
 go_enter func113,ntmps113
 go_wp2_with (at_builtin;refine wpList_append_lies _ rfl _ _ 163 rfl w.heap.size 175 f uH 16 16 underlying163 q o v h rfl (by decide) _ 0 [] rfl (F8 w _ 16) _ _ _ _ rfl y n.out i (by omega) (by omega) (by omega) (by simp) _ rfl ?_;intro b a A C x G D)
 go_ret
 exact⟨b,a,rfl,by simp_all,((ja0 _ _).alloc (ja1 _) _).grown (row:=S _) x (by simp) (λk e=>by
  simp_all)⟩
def DV.made(l:List (List UInt8))(wr:Nat):DV:=⟨l,l,[],wr,-1⟩
def DV.AP{l:List (List UInt8)}{wr:Nat}(d:1<=l.length)(c:l.length<=200)(a:∀ s∈l,s.length=16)(b:wr<=1000000000):(DV.made l wr).ok :=
 ⟨d,c,rfl,a,a,(λx f=>by cases f),ja6 _,b,(by show(-1:Int) <= -1;decide),(by show(-1:Int)<=_;decide)⟩
def Fb{B g cap:Nat}(l:List (List UInt8))(wr:Nat)(w:ω)(q:1<=l.length)(j:l.length<=200)(m:∀ s∈l,s.length=16)(r:wr<=1000000000)
  (c:w.ownsRow B 175 16 (.slice (S ⟨g,0,O⟩) l.length cap) l.length (bM l)) (z:B<=w.heap.size) :
  κ prog 97 #[.slice (S ⟨g,0,O⟩) l.length cap,(wr:Int)] w λe i =>
   ∃ h:Hd,e=.returned h.p/\aO B i h (DV.made l wr)/\β w w i/\h.bf=g/\w.heap.size<=h.p/\w.heap.size<=h.bs/\h.v2=.slice O 0 0:=by
 have f:Hid (w.ownsRow B 175 16 (.slice (S ⟨g,0,O⟩) l.length cap) l.length (bM l)):=c;obtain⟨C,A,u,_⟩:=dQ c;have y  := lt_of_some u;go_enter func97,ntmps97
 go_wp2_with fail
 refine(wP l w q j m f.out).mono ?_;rintro e a ⟨o,x,rfl,t,b⟩;have n:Hid (a.ownsRow _ 175 16 _ l.length (bM l)):=t;go_wp2
 go_ret
 have d:=b.size;obtain⟨v,E,D,_⟩:=dQ n.out;refine⟨⟨a.heap.size,g,cap,o,x,.slice O 0 0⟩,rfl,⟨DV.AP q j m r,by show B<=a.heap.size;omega,?_,?_,?_,jae _ _ _ _,?_,λ_=>rfl⟩,b.alloc d _,rfl,d,v,rfl⟩
 .exact heap_alloc_new a _
 .refine aZ f.out (λk e=>?_)
  have:g=k:=by simpa [Value.ownBlock] using e
  subst this;rw[jal a _ g (by omega),b.block g y]
 .exact ownsRow_base (n.out.alloc _) z
 .show g≠o;omega
def noughts:List UInt8:=List.replicate 16 0
def TI(n:Nat):bM (List.replicate n noughts)=List.replicate (n*16) (.int .u8 0):=by
 have:aY noughts=List.replicate 16 (.int _ 0):=rfl
 unfold bM;rw[List.map_replicate,this,List.flatten_replicate_replicate]
def OW(n:Nat):(madeCells uH.cells (n*16)).toList=bM (List.replicate n noughts):=by
 rw[TI];apply jbB
 intro j;have f:uH.cells=Array.replicate 16 _:=rfl;by_cases a:j<n*16
 .have d:j % 16<16:=Nat.mod_lt _ (by omega)
  have c:uH.cells.size=16:=rfl
  have b:uH.cells[j % 16]! = .int .u8 0:=by
   simp_all
  simp[madeCells,a,c,b]
 .simp[madeCells,a]
def O1{n:Nat}:∀ s∈List.replicate n noughts,s.length=16:=by
 intro s a;rw[jbe a];rfl
def FQ(n:Nat)(w:ω)(s:1<=n)(l:n<=200) :
  κ prog 28 #[(n:Int)] w λe b =>
   ∃ h:Hd,e=.returned (.tuple #[h.p,.nilIface])/\aO w.heap.size b h (DV.made (List.replicate n noughts) 0)/\β w w b:=by
 have g1:decide ((n:Int)<1)=false:=by simp;omega
 obtain⟨d,r,m,t,f⟩:=info_parts EM;obtain⟨i,u,j,o⟩:=run_make_full  w _ _ _ d _ 16 underlying163 r m t .i64 .i64 n (by rw[f];omega) (by unfold maxLen;omega) (ja1 _)
 rw[OW] at j;have a:Hid _:=(ja0 _ _).grown o (ja1 _) (λk e=>by cases e)
 have c:=Fb (g:=w.heap.size) (cap:=n) _ 0 i (by simpa using s) (by simpa using l) O1 (by omega) (by simp_all) a.out.size
 rw[jaw] at c;go_enter func28,ntmps28
 go_wp2_with fail
 refine c.mono ?_;rintro e v ⟨h,rfl,hd,q,_⟩;go_wp2
 go_ret2
 exact⟨h,rfl,hd,a.out.trans (q.mono a.out.size)⟩
def UM(l:List (List UInt8))(i:Nat)(h:∀ s∈l,s.length=16)(a:i<l.length):((bM l).drop (i*16)).take 16=aY (l.getD i []):=by
 induction l generalizing i with
 | nil=>simp at a
 | cons s l b =>
  have c:(aY s).length=16:=by rw[ni,(h s (by simp))]
  have e:bM (s::l)=aY s++bM l:=by simp[bM]
  rw[e]
  cases i with
  | zero=>simp_all
  | succ i =>
   rw[show(i+1)*16=(aY s).length+i*16 by omega,jbH]
   rw[jbi (by omega)]
   simp_all
def Ho{w:ω}{B g cap:Nat}{l:List (List UInt8)}(b:w.ownsRow B 175 16 (.slice (S ⟨g,0,O⟩) l.length cap) l.length (bM l))(c:∀ s∈l,s.length=16)(i:Nat)(d:i<l.length) :
  w.rangeAt g (i*16) (aY (l.getD i [])):=by
 intro j v a;rw[<- UM l i c d] at a
 rw[b.cellAt _ (by
  have:j<16:=by
   rcases jaq j 16 with h|h
   .exact h
   .rw[jaf (by simp;omega)] at a;cases a
  omega)]
 rcases jaq j 16 with h|h
 .simp_all
 .rw[jaf (by simp;omega)] at a;cases a
def bytesOf(s:List UInt8):ByteArray:=⟨s.toArray⟩
def uM{w:ω}{g o:Nat}{s:List UInt8}(n cap:Nat)(c:s.length=n)(h:w.rangeAt g o (aY s)):(convert 185 9 (.slice (S ⟨g,o,O⟩) n cap)).run prog w=.ok (.string (bytesOf s)) w:=by
 have:=run_convert_bytes_arg  w _ 5 underlying185 underlying5 g o n cap (s.map λb=>(b.toNat:Int)) (by simpa using c) (λi d=>by
  have a:i<s.length:=by omega
  rw[h i (.int .u8 ((s[i]'a).toNat:Int)) (by simp[aY,ja7 a])]
  simp_all) 9 underlying9
 rw[this]
 congr 2
 simp only[strOfNums,List.map_map,bytesOf]
 congr 2
 have e:((λn:Int=>UInt8.ofNat n.toNat) ∘ λb:UInt8=>(b.toNat:Int))=id:=by
  funext b;simp
 simp_all
def kS{B:Nat}{h:Hd}{d:DV}(i:Nat)(w:ω)(hd:aO B w h d)(a:i<d.fl.length) :
  κ prog 75 #[h.p,(i:Int)] w λe g=>e=.returned (.tuple #[.string (bytesOf (d.seen.getD i [])),.nilIface])/\g=w:=by
 have c:=Aq i w hd;rw[show d.has (i:Int)=true by unfold DV.has;simp;omega] at c
 obtain⟨k,c1,c2,c3,c4,m⟩:=hd.cells;have b:=hd.os;rw[<- hd.ok.same] at b a
 have f:(d.seen.getD i []).length=16:=by
  rw[ja5,ja7 a];exact hd.ok.l2 _ (jab a)
 have l:=uM 16 16 f (Ho b hd.ok.l2 i a);have n:=hd.ok.n2;rw[<- hd.ok.same] at c1 k;generalize d.seen.getD i []=s at l |-;have j:Hid _:=c;go_enter func75,ntmps75
 go_wp2_with fail
 refine cSt j.out ?_;go_wp2
 go_ret2
 exact⟨rfl,rfl⟩
def Tv(w:ω)(g1 g2:Nat)(n c1 c2:Nat)(b:Array υ)(t:TypeId)(a:List υ)(g:w.heap[g1]?=S (.cells b t (0,0)))(c:a.length=n*16)(i:n*16<=b.size)
  (f:∀ j u,a[j]?=S u->w.cell? ((⟨g2,0,O⟩:Addr).add j)=S u) (d:∀ u∈a,u.oneCell'=true) :
  (Builtin.copy_ #[163,163] 3 #[.slice (S ⟨g1,0,O⟩) n c1,.slice (S ⟨g2,0,O⟩) n c2]).run prog w=.ok (.int .i64 (n:Int)) (w.setRow g1 (a++b.toList.drop (n*16)).toArray):=by
 have h:∀ w:ω,(sizeOf 175).run prog w=.ok 16 w:=λ_=>by kernel_rfl
 simp[Builtin.copy_,run_underlying _,Builtin.lenOf,h,(run_firstCells_some (P:=prog) w 16 n _ n c2 a c f),(run_storeCells_at (P:=prog) g1 0 t a 0 b w g (by omega) d),goInt,c]
theorem Kept.setRow{S:Nat->Prop}{a w:ω}(h:Kept S a w){g:Nat}(b:S g\/a.heap.size<=g)(c:Array υ):Kept S a (w.setRow g c) :=
 ⟨h.os,h.tape,h.output,by simpa [World.setRow] using h.size,λk f d=>(setRow_other w g k c (λe=>by rcases b with b|b;exact d (e▸b);omega)).trans (h.block k f d)⟩
def aO.yK{B:Nat}{w:ω}{h:Hd}{d:DV}(hd:aO B w h d)(l:List (List UInt8))(a:Array υ)(c:({d with fl:=l}:DV).ok)(b:l.length=d.fl.length)(r:a.toList.take (l.length*16)=bM l)(o:a.size=h.cf*16) :
  aO B (w.setRow h.bf a) h {d with fl:=l}:=by
 obtain⟨n,u,v,f,x⟩:=hd.apart;obtain⟨m,g,j,t,q,s,y⟩:=dQ hd.of;refine⟨c,hd.pB,?_,?_,?_,aZ hd.op (λk e=>setRow_other _ _ _ _ (λi=>f (by rw[e,i]))),hd.ne,hd.pn⟩
 .rw[setRow_other _ _ _ _ (jaG n)]
  rw[b];exact hd.blk
 .show(w.setRow h.bf a).ownsRow B 175 16 _ l.length _
  exact⟨rZ l c.l1,.inr ⟨h.bf,h.cf,a,rfl,m,setRow_heap w h.bf g a _ _ j,by omega,q,o,r⟩⟩
 .rw[b]
  exact aZ hd.os (λk e=>setRow_other _ _ _ _ (by
   have:h.bs=k:=by simpa [Value.ownBlock] using e
   rw[<- this];exact jaG hd.ne))
theorem aO.drew{B:Nat}{w:ω}{h:Hd}{d:DV}(hd:aO B w h d):aO B w.drew h d:=hd.keep λ_ _=>rfl
def DV.flushed(d:DV):DV:={d with fl:=d.seen,pend:=[]}
theorem DV.ok.flushed{d:DV}(h:d.ok):d.flushed.ok :=
 ⟨by show 1<=d.seen.length;rw[h.same];exact h.n1,by show d.seen.length<=200;rw[h.same];exact h.n2,rfl,h.l2,h.l2,(λx a=>by cases a),ja6 _,h.few2,h.f1,h.f2⟩
def DV.ok.over{d:DV}(h:d.ok):({d with fl:=d.seen}:DV).ok :=
 ⟨by rw[h.same];exact h.n1,by rw[h.same];exact h.n2,rfl,h.l2,h.l2,(λx a=>by rw[h.same];exact h.l3 x a),h.few,h.few2,h.f1,h.f2⟩
def flush_any{B:Nat}{h:Hd}{d:DV}(w:ω)(hd:aO B w h d) :
  κ prog 106 #[h.p] w λe g=>e=.returned (.tuple #[])/\aO B g {h with v2:=.slice O 0 0} d.flushed/\Kept (λk=>k=h.p\/k=h.bf) w g:=by
 obtain⟨C,c1,c2,c3,c4,x⟩:=hd.cells;obtain⟨z,a,t,y,A,i,D⟩:=dQ hd.of;have c:(bM d.seen).length=d.fl.length*16:=by rw[rZ _ hd.ok.l2,hd.ok.same]
 have n:=λW (hW:W.heap=w.heap)=>Tv W h.bf h.bs d.fl.length h.cf h.cs a 175 (bM d.seen) (by rw[hW];exact t) c (by rw[i];omega) (λj u v=>by
   have:=(uZ hd.os) j u v
   rw[jad (w:=w) (by rw[hW])];exact this) (Hq _)
 have q:=n w.drew rfl
 have b:Hid (aO B (w.drew.setRow h.bf (bM d.seen++a.toList.drop (d.fl.length*16)).toArray) h _) :=
  hd.drew.yK d.seen _ hd.ok.over hd.ok.same (by
   show(bM d.seen++a.toList.drop _).take _=bM d.seen
   rw[hd.ok.same,<- c];simp) (by simp[c,i];omega)
 have f:Hid (Kept (λk=>k=h.p\/k=h.bf) w (w.drew.setRow h.bf (bM d.seen++a.toList.drop (d.fl.length*16)).toArray)):=(Kept.refl _ w).drew.setRow (.inl (.inr rfl)) _
 obtain⟨_,_,l,_,_,r⟩:=b.out.cells;have m:=r 2;have o:Hid _:=hd.ok.flushed;generalize (bM d.seen++a.toList.drop _).toArray=s at q b f l m;go_enter func106,ntmps106
 go_wp2
 go_region
 generalize w.drew.setRow h.bf s=W at b f l m |-;go_wp2
 go_end0
 exact⟨rfl,b.out.oM  _ 2 _ o.out rfl rfl rfl (jae _ _ _ _) (λ_=>rfl),f.out.setCell (.inl (.inl rfl)) _⟩
theorem heap_setCells_other(b k:Nat)(a:k≠b):∀(c:List υ) (o:Nat) (w:ω),(w.setCells b o c).heap[k]?=w.heap[k]?
 | [],_,_=>rfl
 | v::r,o,w=>by
  show((w.setCell ⟨b,o,O⟩ v).setCells b (o+1) r).heap[k]?=_
  rw[heap_setCells_other b k a r];exact heap_setCell_other w ⟨b,o,O⟩ k v a
theorem size_setCells(b:Nat):∀(a:List υ) (o:Nat) (w:ω),(w.setCells b o a).heap.size=w.heap.size
 | [],_,_=>rfl
 | v::r,o,w=>by
  show((w.setCell ⟨b,o,O⟩ v).setCells b (o+1) r).heap.size=_
  rw[size_setCells b r];simp[World.setCell]
theorem zY(b:Nat):∀(a:List υ) (o:Nat) (w:ω),(w.setCells b o a).os=w.os/\(w.setCells b o a).tape=w.tape/\(w.setCells b o a).output=w.output
 | [],_,_=>⟨rfl,rfl,rfl⟩
 | v::r,o,w=>by
  show((w.setCell ⟨b,o,O⟩ v).setCells b (o+1) r).os=_/\_/\_
  exact zY b r (o+1) (w.setCell ⟨b,o,O⟩ v)
theorem Kept.setCells{S:Nat->Prop}{a w:ω}(h:Kept S a w){b:Nat}(c:S b\/a.heap.size<=b)(o:Nat)(d:List υ):Kept S a (w.setCells b o d):=by
 obtain⟨j,g,l⟩:=zY b d o w;exact⟨j.trans h.os,g.trans h.tape,l.trans h.output,by rw[size_setCells];exact h.size,λk i f=>(heap_setCells_other b k (λe=>by rcases c with c|c;exact f (e▸c);omega) d o w).trans (h.block k i f)⟩
theorem Below.setCells{B:Nat}{a w:ω}(h:β B a w){b:Nat}(i:B<=b)(o:Nat)(c:List υ):β B a (w.setCells b o c):=by
 obtain⟨f,d,g⟩:=zY b c o w;exact h.trans ⟨f,d,g,by rw[size_setCells];omega,λk j=>heap_setCells_other b k (by omega) c o w⟩
def vS(w:ω)(c:Array υ)(t:TypeId)(n:Nat)(h:c.size=n):(w.alloc (.cells c t)).there w.heap.size 0 n:=by
 intro j a
 simp_all
def xE:(prog.info? 5).map (λi=>(i.zero,i.size,i.bytes))=S (S (.int .u8 0),1,1):=by kernel_rfl
def Cb:(prog.info? 175).map (·.size)=S 16:=by kernel_rfl
def yH(l:List (List UInt8)):bM l=aY l.flatten:=by
 unfold bM aY
 simp_all
def UW(l:List (List UInt8))(k:Nat)(h:k<l.length):bM (l.take (k+1))=bM (l.take k)++aY (l.getD k []):=by
 rw[jay h];unfold bM;rw[jbb,List.flatten_append]
 simp_all
def Kv{B:Nat}{h:Hd}{d:DV}(w:ω)(hd:aO B w h d) :
  κ prog 144 #[h.p] w λe w'=>e=.returned (.string (bytesOf d.fl.flatten))/\β w w w':=by
 obtain⟨c0,c1,c2,c3,c4,fz⟩:=hd.cells;have an:=hd.ok.n2;have a3:=hd.of;have O:Hid (w.ownsRow B 175 16 (.slice (some ⟨h.bf,0,none⟩) d.fl.length h.cf) d.fl.length (bM d.fl)):=a3;have f:Hid (∀ s∈d.fl,s.length=16):=hd.ok.l1;obtain⟨N,F,G,K,D⟩:=info_parts xE;obtain⟨m,ae,a9,ad⟩:=run_make_own (P:=prog) w w.heap.size 185 5 N (.int .u8 0) 1 underlying185 F G K .i64 .i64 (d.fl.length*16) (by rw[D];omega) (by unfold maxLen;omega) (ja1 _)
 rw[show((d.fl.length*16:Nat):Int)=(d.fl.length:Int)*16 by omega] at ae
 have S:β w w m:=(ja0 _ _).grown ad (ja1 _) (λk e=>by cases e)
 have Y:h.p<w.heap.size:=(hd.lt _ (.inl rfl)).2;have ao:m.cell? ⟨h.p,0,none⟩=some (.slice (some ⟨h.bf,0,none⟩) d.fl.length h.cf):=by rw[S.cell Y];exact c0
 have a7:Hid (m.ownsRow w.heap.size 5 1 (.slice (some ⟨w,0,none⟩) 0 (d.fl.length*16)) 0 []):=a9;have a6:Hid (β w w m):=S;go_enter func144,ntmps144
 go_wp2
 go_loopw [3,18] (λv i wr=>∃ k:Nat,∃ g cap:Nat,k<=d.fl.length/\i=.int .i64 k/\v=.slice (some ⟨g,0,none⟩) (k*16) cap/\wr.ownsRow w.heap.size 5 1 (.slice (some ⟨g,0,none⟩) (k*16) cap) (k*16) (bM (d.fl.take k))/\β w w wr) (λ_ i _=>d.fl.length-(intOf i).toNat)
 case atStart=>exact⟨0,w.heap.size,d.fl.length*16,ja6 _,rfl,by simp,by simpa [bM] using a7.out,a6.out⟩
 case round =>
  obtain⟨k,g,cap,hk,rfl,rfl,U,l⟩:=hrel;by_cases n:k<d.fl.length
  .have a4:=Ho O.out f.out k n
   obtain⟨_,ai,hh,_⟩:=dQ O.out;have W  := lt_of_some hh
   have y:wr.rangeAt h.bf (k*16) (aY (d.fl.getD k [])):=λj v b=>by
    rw[l.cell (p:=⟨h.bf,k*16+j,none⟩) W];exact a4 j v b
   have c:(aY (d.fl.getD k [])).length=16:=by
    rw[ni,ja5,ja7 n];exact f.out _ (jab n)
   have z:Hid (bM (d.fl.take (k+1))=bM (d.fl.take k)++aY (d.fl.getD k [])):=UW d.fl k n;have r:=rY (d.fl.getD k []);have M:Hid (wr.rangeAt h.bf (k*16) (aY (d.fl.getD k []))):=y;have t:Hid (wr.ownsRow w.heap.size 5 1 (.slice (some ⟨g,0,none⟩) (k*16) cap) (k*16) (bM (d.fl.take k))):=U;generalize aY (d.fl.getD k [])=a at c z r M;generalize bM (d.fl.take k)=Q at z t;have T:Hid ((prog.info? 175).map (·.size)=some a.length):=by unfold Hid;rw[c];exact Cb
   have ac:Hid ((wr.alloc (.cells #[.int .u8 0,.int .u8 0,.int .u8 0,.int .u8 0,.int .u8 0,.int .u8 0,.int .u8 0,.int .u8 0,.int .u8 0,.int .u8 0,.int .u8 0,.int .u8 0,.int .u8 0,.int .u8 0,.int .u8 0,.int .u8 0] 175)).there wr.heap.size 0 a.toArray.size):=vS wr _ _ _ (by simp[c])
   have HA:Hid (a.toArray.all (·.oneCell')=true):=all_oneCell_toArray r
   have X:Hid ((prog.info? 175).map (·.size)=some a.toArray.size):=by unfold Hid;simp only[jaC];exact T.out
   have a1:Hid (((wr.alloc (.cells #[.int .u8 0,.int .u8 0,.int .u8 0,.int .u8 0,.int .u8 0,.int .u8 0,.int .u8 0,.int .u8 0,.int .u8 0,.int .u8 0,.int .u8 0,.int .u8 0,.int .u8 0,.int .u8 0,.int .u8 0,.int .u8 0] 175)).setCells wr.heap.size 0 a).rangeAt wr.heap.size 0 a):=World.rangeAt_setCells_same _ _ _ _ (vS wr _ _ _ (by simp[c]))
   have af:=(dQ t.out).2;obtain⟨al,a2,_⟩:=af;have a8  := lt_of_some a2
   have I:Hid (((wr.alloc (.cells #[.int .u8 0,.int .u8 0,.int .u8 0,.int .u8 0,.int .u8 0,.int .u8 0,.int .u8 0,.int .u8 0,.int .u8 0,.int .u8 0,.int .u8 0,.int .u8 0,.int .u8 0,.int .u8 0,.int .u8 0,.int .u8 0] 175)).setCells wr.heap.size 0 a).ownsRow w.heap.size 5 1 (.slice (some ⟨g,0,none⟩) (k*16) cap) (k*16) Q):=aZ t.out (λq e=>by
    have:g=q:=by simpa [Value.ownBlock] using e
    subst this
    rw[heap_setCells_other _ _ (by omega),jal _ _ _ a8])
   have A:=l.size;have R:Hid (((wr.alloc (.cells #[.int .u8 0,.int .u8 0,.int .u8 0,.int .u8 0,.int .u8 0,.int .u8 0,.int .u8 0,.int .u8 0,.int .u8 0,.int .u8 0,.int .u8 0,.int .u8 0,.int .u8 0,.int .u8 0,.int .u8 0,.int .u8 0] 175)).setCells wr.heap.size 0 a).heap.size=wr.heap.size+1):=by unfold Hid;rw[size_setCells];simp
   have a0:Hid (β w w ((wr.alloc (.cells #[.int .u8 0,.int .u8 0,.int .u8 0,.int .u8 0,.int .u8 0,.int .u8 0,.int .u8 0,.int .u8 0,.int .u8 0,.int .u8 0,.int .u8 0,.int .u8 0,.int .u8 0,.int .u8 0,.int .u8 0,.int .u8 0] 175)).setCells wr.heap.size 0 a)):=Below.setCells (l.alloc A _) A 0 a;have L:Hid (w.heap.size<=((wr.alloc (.cells #[.int .u8 0,.int .u8 0,.int .u8 0,.int .u8 0,.int .u8 0,.int .u8 0,.int .u8 0,.int .u8 0,.int .u8 0,.int .u8 0,.int .u8 0,.int .u8 0,.int .u8 0,.int .u8 0,.int .u8 0,.int .u8 0] 175)).setCells wr.heap.size 0 a).heap.size):=by unfold Hid;rw[R.out];omega
   have Z:Hid (∀ j u,a[j]?=some u->((wr.alloc (.cells #[.int .u8 0,.int .u8 0,.int .u8 0,.int .u8 0,.int .u8 0,.int .u8 0,.int .u8 0,.int .u8 0,.int .u8 0,.int .u8 0,.int .u8 0,.int .u8 0,.int .u8 0,.int .u8 0,.int .u8 0,.int .u8 0] 175)).setCells wr.heap.size 0 a).cell? ((⟨wr.heap.size,0,none⟩:Addr).add j)=some u):=λj u hj=>by
    rw[Addr.add_mid];exact a1.out j u hj
   have ab:Hid (a.length=16*1):=by unfold Hid;omega
   have aa:Hid (k*16+16<=maxLen):=by unfold Hid maxLen;omega
   go_wp2_with (first
    | (refine wpList_load_mid (by rfl) 175 (.tmp 20) (by rfl) h.bf (k*16) (by rfl) a _ M.out underlying175 rfl T.out ?_)
    | (refine wpList_store_mid (by rfl) 175 (.tmp 5) (.tmp 21) (by rfl) wr.heap.size 0 a.toArray (by rfl) (by rfl) ac.out X.out HA.out ?_)
    | (at_builtin;refine wpList_append_lies _ (by rfl) _ _ 185 (by rfl) w.heap.size 5 N (.int .u8 0) 1 1 underlying185 F G K D rfl (by decide) (.slice (some ⟨g,0,none⟩) (k*16) cap) (k*16) Q (by rfl) I.out ⟨wr,0,none⟩ 16 16 a (by rfl) ab.out Z.out r (by decide) aa.out (by omega) L.out (wr.heap.size+1) R.out ?_;intro C H w4 E a5 ap am))
   have J:k*16+16=(k+1)*16:=by omega
   rw[J] at E
   have HX:Hid (w4.ownsRow w.heap.size 5 1 (.slice (some ⟨C,0,none⟩) ((k+1)*16) H) ((k+1)*16) (bM (d.fl.take (k+1)))):=by
    unfold Hid;rw[z.out];exact E
   have x:Hid (β w w w4):=a0.out.grown (row:=some g) a5 L.out (λq e=>by
    have:g=q:=by simpa using e
    subst this
    exact(dQ I.out).1)
   go_roundw
   case rel =>
    exact⟨k+1,C,H,by omega,by go_num,by rw[J],HX.out,x.out⟩
   case measure=>simp[intOf];omega
  .have V:k=d.fl.length:=by omega
   subst V
   have y:wr.rangeAt g 0 (aY d.fl.flatten):=λj v b=>by
    rw[jan]
    have ag:j<d.fl.length*16:=by
     rcases jaq j (d.fl.length*16) with o|o
     .exact o
     .rw[jaf (by rw[<- yH,rZ _ f.out];exact o)] at b;cases b
    rw[U.cellAt j (by omega),jar (ja1 _),yH]
    exact b
   have aq:=uM (d.fl.length*16) cap (by rw[<- ni,<- yH,rZ _ f.out]) y
   have x:Hid (β w w wr):=l;go_wp2
   go_ret
   exact⟨rfl,x.out⟩
