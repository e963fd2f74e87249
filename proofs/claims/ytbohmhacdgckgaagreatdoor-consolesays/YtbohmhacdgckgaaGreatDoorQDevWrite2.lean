/- A part. -/
import Derived.Test.YtbohmhacdgckgaaGreatDoorQB0
set_option linter.all false
set_option maxHeartbeats 1000000
set_option maxRecDepth 100000
namespace Go.Proofs.YtbohmhacdgckgaaGreatDoor
open Go.RowKit renaming Below->β, Hid->χ
open Go renaming World->ω, Value->υ, Calls->κ
open Option renaming none->O, some->S
open Go.Proofs.Tryz Go.RowKit
attribute [local go_sem ↓] Go.wp_at_zero Go.wp_at_succ
def ah{p}(h:p):χ p:=h
def cSt{P f a w W v R}(h:κ P f a w λe w'=>e=v/\w'=W)(k:R v W):κ P f a w R:=h.mono λ_ _ ⟨c,b⟩=>by simp_all
def cEq{P f a w v}{S:ω->Prop}{R}(h:κ P f a w λe w'=>e=v/\S w')(k:∀ W,S W->R v W):κ P f a w R:=h.mono λ_ _ ⟨c,b⟩=>by simp_all
def cHd{P f a w v}{S:ω->Prop}{R}(h:κ P f a w λe w'=>e=v/\S w')(k:∀ W,χ (S W)->R v W):κ P f a w R:=cEq h k
def cBl{P f a w}{b:ω}{v R}(h:κ P f a w λe w'=>e=v/\β w w w')(c:β b b w)(k:∀ W,χ (β b b W)->R v W):κ P f a w R:=cEq h λ_ h=>k _ (c.trans (h.mono c.size))
structure Kept(S:Nat->Prop)(w w':ω):Prop where
 os:w'.os=w.os
 tape:w'.tape=w.tape
 output:w'.output=w.output
 size:w.heap.size<=w'
 block:∀ k,k<w.heap.size->¬S k->w'.heap[k]?=w.heap[k]?
def Kept.refl(S w):Kept S w w:=⟨rfl,rfl,rfl,ja1 _,λ_ _ _=>rfl⟩
theorem Kept.trans{S a b c}(h:Kept S a b)(k:Kept S b c):Kept S a c :=
 ⟨k.os.trans h.os,k.tape.trans h.tape,k.output.trans h.output,ja4 h.size k.size,λi f d=>(k.block i (ja8 f h.size) d).trans (h.block i f d)⟩
def Kept.mono{S T a b}(h:Kept S a b)(f:∀ k,k<a.heap.size->S k->T k):Kept T a b :=
 ⟨h.os,h.tape,h.output,h.size,λi c d=>h.block i c λs=>d (f i c s)⟩
theorem Kept.drew{S a w}(h:Kept S a w):Kept S a w.drew:=⟨h.os,h.tape,h.output,h.size,h.block⟩
theorem Kept.alloc{S a w}(h:Kept S a w)(o):Kept S a (w.alloc o) :=
 ⟨h.os,h.tape,h.output,by have:=h.size;simp;omega,λk b c=>(jap w o k (ja8 b h.size)).trans (h.block k b c)⟩
theorem Kept.setCell{S a w}(h:Kept S a w){p:Addr}(b:S p.block\/a<=p.block)(u):Kept S a (w.setCell p u) :=
 ⟨h.os,h.tape,h.output,by simpa [World.setCell] using h.size,λk d c=>(heap_setCell_other w p k u (λe=>by rcases b with b|b;exact c (e▸b);omega)).trans (h.block k d c)⟩
def Kept.grown{S a w w' row}(h:Kept S a w)(b:w.grownBy w' row)(g:∀ k,row=some k->S k\/a<=k):Kept S a w' :=
 ⟨b.os.trans h.os,b.tape.trans h.tape,b.output.trans h.output,ja4 h.size b.size,λk d f=>(b.block k (ja8 d h.size) (λe=>by rcases g k e.symm with c|c;exact f c;omega)).trans (h.block k d f)⟩
def Kept.below{S a w}{B:Nat}(h:Kept S a w)(c:B<=a)(d:∀ k,S k->B<=k):β B a w :=
 ⟨h.os,h.tape,h.output,h.size,λk b=>h.block k (ja8 b c) λs=>by have:=d k s;omega⟩
def Below.kept{S}{a w:ω}(h:β a a w):Kept S a w:=⟨h.os,h.tape,h.output,h.size,λk b _=>h.block k b⟩
def bM(s:List UInt8):List Value:=s.map λb=>.int .u8 (b.toNat:Int)
def dU(l:List (List UInt8)):List Value:=(l.map bM).flatten
def wrV(x:Nat × List UInt8):List Value:=.int .i64 (x.1:Int)::bM x.2
def jw(l:List (Nat × List UInt8)):List Value:=(l.map wrV).flatten
structure DV where
 fl:List (List UInt8)
 seen:List (List UInt8)
 pend:List (Nat × List UInt8)
 wr:Nat
 fail:Int
structure DV.ok(d:DV):Prop where
 n1:1<=d.fl.length
 n2:d.fl.length<=200
 same:d.seen.length=d.fl.length
 l1:∀ s∈d.fl,s.length=16
 l2:∀ s∈d.seen,s.length=16
 l3:∀ x∈d.pend,x.1<d.fl.length/\x.2.length=16
 few:d.pend.length<=d.wr
 few2:d.wr<=1000000000
 f1 : -1<=d.fail
 f2:d.fail<=9223372036854775807
structure Hd where
 p:Nat
 bf:Nat
 cf:Nat
 bs:Nat
 cs:Nat
 v2:υ
def Hd.fp(h:Hd)(k:Nat):Prop:=k=h.p\/k=h.bf\/k=h.bs\/h.v2.ownBlock=S k
structure aS(B:Nat)(w:ω)(h:Hd)(d:DV):Prop where
 ok:d.ok
 pB:B<=h.p
 blk:w.heap[h.p]?=S (.cells #[.slice (S ⟨h.bf,0,O⟩) d.fl.length h.cf,.slice (S ⟨h.bs,0,O⟩) d.fl.length h.cs,h.v2,(d.wr:Int),d.fail] 178 (0,0))
 of:w.ownsRow B 175 16 (.slice (S ⟨h.bf,0,O⟩) d.fl.length h.cf) d.fl.length (dU d.fl)
 os:w.ownsRow B 175 16 (.slice (S ⟨h.bs,0,O⟩) d.fl.length h.cs) d.fl.length (dU d.seen)
 op:w.ownsRow B 180 17 h.v2 d.pend.length (jw d.pend)
 ne:h.bf≠h.bs
 pn:d.pend=[]->h.v2=.slice O 0 0
def fB{w:ω}{B e size g n cap b}(h:w.ownsRow B e size (.slice (S ⟨g,0,O⟩) n cap) n b) :
  B<=g/\∃ a,w.heap[g]?=S (.cells a e (0,0))/\n<=cap/\cap<=maxLen/\a.size=cap*size/\a.toList.take (n*size)=b:=by
 rcases h.2 with⟨c,_⟩|⟨l,i,a,m,k,f,q,d,j,o⟩
 .cases c
 .simp_all
def bg{w w':ω}{B e size n v b}(h:w.ownsRow B e size v n b)(j:∀ k,v.ownBlock=S k->w'.heap[k]?=w.heap[k]?):w'.ownsRow B e size v n b:=by
 obtain⟨l,a⟩:=h;refine⟨l,?_⟩;rcases a with a|⟨g,cap,d,c,i,f,r⟩
 .exact .inl a
 .exact .inr ⟨g,cap,d,c,i,by rw[j g (by rw[c];rfl)];exact f,r⟩
def ownsRow_base{w:ω}{B a e size n v b}(h:w.ownsRow a e size v n b)(i:B<=a):w.ownsRow B e size v n b:=by
 refine⟨h.1,?_⟩;rcases h.2 with f|⟨g2,g,c,d,j,r⟩
 .exact .inl f
 .exact .inr ⟨g2,g,c,d,by omega,r⟩
def lt_of_some{w:ω}{k:Nat}{o}(h:w.heap[k]?=S o):k<w:=by
 rcases jav k _ with a|a
 .exact a
 .simp_all
def aS.keep{B w w' h d}(hd:aS B w h d)(a:∀ k,h.fp k->w'.heap[k]?=w.heap[k]?):aS B w' h d :=
 ⟨hd.ok,hd.pB,by rw[a _ (.inl rfl)];exact hd.blk,bg hd.of (λk e=>a k (.inr (.inl (by simpa [Value.ownBlock] using e.symm)))),bg hd.os (λk e=>a k (.inr (.inr (.inl (by simpa [Value.ownBlock] using e.symm))))),bg hd.op (λk e=>a k (.inr (.inr (.inr e)))),hd.ne,hd.pn⟩
theorem aS.lt{B w h d}(hd:aS B w h d):∀ k,h.fp k->B<=k/\k<w:=by
 intro k a;rcases a with rfl|rfl|rfl|a
 .exact⟨hd.pB,lt_of_some hd.blk⟩
 .obtain⟨c,f,b,_⟩:=fB hd.of;exact⟨c,lt_of_some b⟩
 .obtain⟨c,f,b,_⟩:=fB hd.os;exact⟨c,lt_of_some b⟩
 .exact hd.op.lt k a
def aS.cells{B w h d}(hd:aS B w h d) :
  w.cell? ⟨h.p,0,O⟩=S (.slice (S ⟨h.bf,0,O⟩) d.fl.length h.cf)/\w.cell? ⟨h.p,1,O⟩=S (.slice (S ⟨h.bs,0,O⟩) d.fl.length h.cs) /\
  w.cell? ⟨h.p,2,O⟩=S h.v2/\w.cell? ⟨h.p,3,O⟩=S (.int .i64 (d.wr:Int))/\w.cell? ⟨h.p,4,O⟩=S (d.fail:υ)/\∀ j,w.frozen? ⟨h.p,j,O⟩=false:=by
 have a:=hd.blk;refine⟨?_,?_,?_,?_,?_,λj=>frozen_of_row w h.p j _ _ a⟩<;>rw[cell_of_row w h.p _ _ _ _ a]<;>rfl
theorem aS.v2{B w h d}(hd:aS B w h d):∃ a cap,h.v2=.slice a d.pend.length cap:=by
 rcases hd.op.2 with⟨i,f⟩|⟨g,cap,b,c,_⟩
 .simp_all
 .simp_all
def aS.apart{B w h d}(hd:aS B w h d):h.bf≠h.p/\h.bs≠h.p/\h.v2.ownBlock≠S h.p/\h.v2.ownBlock≠S h.bf/\h.v2.ownBlock≠S h.bs:=by
 obtain⟨_,k,f,_⟩:=fB hd.of;obtain⟨_,l,m,_⟩:=fB hd.os;have c:=hd.blk;refine⟨λe=>?_,λe=>?_,λe=>?_,λe=>?_,λe=>?_⟩
 .simp_all
 .simp_all
 all_goals
  rcases hd.op.2 with⟨a,_⟩|⟨g,cap,b,i,_,j,_⟩
  .rw[a] at e;cases e
  .simp only[Value.ownBlock,Option.some.injEq] at e;simp_all
def qI{a b:Bool}(h:a=b):Ending.returned a=.returned b:=by rw[h]
def nU{a b:Int}(h:a=b):Ending.returned a=.returned b:=by rw[h]
def size_any{B h d}(w)(hd:aS B w h d) :
  κ prog 99 #[h.p] w λe w'=>e=.returned (d.fl.length:Int)/\w'=w:=by
 obtain⟨b,c1,c2,c3,c4,a⟩:=hd.cells;go_enter func99,ntmps99;go_wp2;go_ret;exact⟨rfl,rfl⟩
def U1{B h d}(w)(hd:aS B w h d) :
  κ prog 142 #[h.p] w λe w'=>e=.returned (d.pend.length:Int)/\w'=w:=by
 obtain⟨c,c1,c2,c3,c4,b⟩:=hd.cells;obtain⟨a,cap,f⟩:=hd.v2;go_enter func142,ntmps142;go_wp2;go_ret;simp_all
def DV.has(d:DV)(a:Int):Bool:=decide (0<=a/\a<d.fl.length)
def BR{B h d}(a:Int)(w)(hd:aS B w h d) :
  κ prog 150 #[h.p,a] w λe w'=>e=.returned (.bool (d.has a))/\w'=w:=by
 obtain⟨g,c1,c2,c3,c4,f⟩:=hd.cells;by_cases c:0<=a
 .have b:χ (d.has a=decide (a<(d.fl.length:Int))):=by unfold χ DV.has;simp[c]
  go_enter func150,ntmps150;go_wp2;go_ret;exact⟨qI b.symm,rfl⟩
 .have b:χ (d.has a=false):=by unfold χ DV.has;simp[c]
  go_enter func150,ntmps150;go_wp2;go_ret;exact⟨qI b.symm,rfl⟩
def aS.pX{B w h d a}(hd:aS B w h d)(v2 i u)(q:a.ok)(c:a.fl=d.fl)(n:a.seen=d.seen)
  (s:(#[.slice (S ⟨h.bf,0,O⟩) d.fl.length h.cf,.slice (S ⟨h.bs,0,O⟩) d.fl.length h.cs,h.v2,(d.wr:Int),d.fail]:Array υ).setIfInBounds i u = #[.slice (S ⟨h.bf,0,O⟩) d.fl.length h.cf,.slice (S ⟨h.bs,0,O⟩) d.fl.length h.cs,v2,.int .i64 (a.wr:Int),.int .i64 a.fail])
  (f:w.ownsRow B 180 17 v2 a.pend.length (jw a.pend)) (o:a.pend=[]->v2=.slice O 0 0):aS B (w.setCell ⟨h.p,i,O⟩ u) {h with v2:=v2} a:=by
 obtain⟨_,y,A,_⟩:=fB hd.of;obtain⟨_,C,z,_⟩:=fB hd.os
 have v:h.bf≠h.p:=λe=>by
  have j:=hd.blk;simp_all
 have D:h.bs≠h.p:=λe=>by
  have j:=hd.blk;simp_all
 have l:∀ k,v2.ownBlock=S k->k≠h.p:=λk b e=>by
  have j:=hd.blk;rcases f.2 with⟨m,_⟩|⟨g,cap,t,r,_,x,_⟩
  .rw[m] at b;cases b
  .rw[r] at b;have:g=k:=by simpa [Value.ownBlock] using b
   simp_all
 refine⟨q,hd.pB,?_,?_,?_,bg f (λk e=>heap_setCell_other _ _ _ _ (l k e)),hd.ne,o⟩
 .rw[c];rw[heap_setCell_same w _ i _ _ u hd.blk,s]
 .rw[c];exact bg hd.of (λk e=>heap_setCell_other _ _ _ _ (by
   have:h.bf=k:=by simpa [Value.ownBlock] using e
   simp_all))
 .rw[c,n];exact bg hd.os (λk e=>heap_setCell_other _ _ _ _ (by
   have:h.bs=k:=by simpa [Value.ownBlock] using e
   simp_all))
def DV.failing(d:DV)(n:Int):DV:={d with fail:=n}
theorem DV.ok.failing{d:DV}(h:d.ok){n}(a : -1<=n)(b:n<=9223372036854775807):(d.failing n).ok :=
 ⟨h.n1,h.n2,h.same,h.l1,h.l2,h.l3,h.few,h.few2,a,b⟩
theorem aS.failing{B w h d}(hd:aS B w h d){n:Int}(a : -1<=n)(b:n<=9223372036854775807):aS B (w.setCell ⟨h.p,4,O⟩ n) h (d.failing n) :=
 hd.pX _ 4 _ (hd.ok.failing a b) rfl rfl rfl hd.op hd.pn
def Ba{B h d}(n:Int)(w)(a:aS B w h d)(b:n<0) :
  κ prog 136 #[h.p,n] w λe w'=>e=.returned (.iface 96 (.int .i64 1))/\w'=w:=by
 go_enter func136,ntmps136;go_wp2;go_ret;simp_all
def Bc{B h d}(n:Int)(w)(hd:aS B w h d)(f:0<=n)(a:n<=9223372036854775807) :
  κ prog 136 #[h.p,n] w λe w'=>e=.returned .nilIface/\aS B w' h (d.failing n)/\Kept h.fp w w':=by
 obtain⟨g,c1,c2,c3,c4,c⟩:=hd.cells;have b:χ _:=hd;go_enter func136,ntmps136;go_wp2;go_ret;exact⟨rfl,b.failing (by omega) a,(Kept.refl _ _).setCell (.inl (.inl rfl)) _⟩
def P5{B h d}(w)(hd:aS B w h d)(c:d.fail = -1) :
  κ prog 177 #[h.p] w λe w'=>e=.returned false/\w'=w:=by
 obtain⟨b,c1,c2,c3,c4,a⟩:=hd.cells;go_enter func177,ntmps177;go_wp2;go_ret;simp_all
def P6{B h d}(w)(hd:aS B w h d)(g:0<=d.fail) :
  κ prog 177 #[h.p] w λe w'=>e=.returned (.bool (decide (d.fail=0)))/\aS B w' h (d.failing (d.fail-1))/\Kept h.fp w w':=by
 obtain⟨i,c1,c2,c3,c4,c⟩:=hd.cells;have b:χ _:=hd;have f:=hd.ok.f2
 have a:χ ((d.fail-1 == -1)=decide (d.fail=0)):=by
  unfold χ;rw[jaG,beq_iff_eq,decide_eq_true_eq];omega
 go_enter func177,ntmps177;go_wp2;go_ret;exact⟨qI a,b.failing (by omega) (by omega),(Kept.refl _ _).setCell (.inl (.inl rfl)) _⟩
def vM:Value:=.agg #[(),(),(),(),(),(),(),(),(),(),(),(),(),(),(),()]
def En:Value:=.agg #[(0:Int),(),(),(),(),(),(),(),(),(),(),(),(),(),(),(),()]
def He:(prog.info? 175).map (λi=>(i.zero,i.size,i.bytes))=S (S vM,16,16):=by kernel_rfl
def Hg:(prog.info? 180).map (λi=>(i.zero,i.size,i.bytes))=S (S En,17,24):=by kernel_rfl
def pV(s):(bM s).length=s.length:=by simp[bM]
def zI(l)(h:∀ s∈l,s.length=16):(dU l).length=l.length*16:=by
 induction l with
 | nil=>simp[dU]
 | cons s l a =>
  have d:=h s (by simp);have b:=a (λx c=>h x (by simp[c]));simp only[dU,jbA,List.flatten_cons,jah,jau] at *
  rw[pV,b];omega
def vF(s):∀ u∈bM s,u.oneCell'=true:=by
 intro u a;obtain⟨b,_,rfl⟩:=List.mem_map.1 a;rfl
def J9(l):∀ u∈dU l,u.oneCell'=true:=by
 intro u a;simp only[dU,List.mem_flatten,List.mem_map] at *
 obtain⟨x,⟨s,_,rfl⟩,b⟩:=a;exact vF s u b
def Ae(x):(wrV x).length=x.2.length+1:=by simp[wrV,bM]
def Zw(l)(h:∀ x∈l,x.2.length=16):(jw l).length=l.length*17:=by
 induction l with
 | nil=>simp[jw]
 | cons s l a =>
  have d:=h s (by simp);have b:=a (λx c=>h x (by simp[c]));simp only[jw,jbA,List.flatten_cons,jah,jau] at *
  rw[Ae,b];omega
def Ei(l):∀ u∈jw l,u.oneCell'=true:=by
 intro u b;simp only[jw,List.mem_flatten,List.mem_map] at *
 obtain⟨x,⟨s,_,rfl⟩,a⟩:=b;simp only[wrV,jb7] at *
 rcases a with rfl|a
 .rfl
 .exact vF _ u a
def wK{w:ω}{B e size g n cap a}(h:w.ownsRow B e size (.slice (S ⟨g,0,O⟩) n cap) n a) :
  ∀ j u,a[j]?=S u->w.cell? ((⟨g,0,O⟩:Addr).add j)=S u:=h.cells  rfl
def Jd(w:ω)(e size):(w.alloc (.cells #[] e)).ownsRow w e size (.slice (S ⟨w,0,O⟩) 0 0) 0 [] :=
 ⟨by simp,.inr ⟨w,0, #[],rfl,ja1 _,heap_alloc_new w _,ja1 _,by omega,by simp,by simp⟩⟩
def xZ{B g cap}(l w)(I:1<=l.length)(E:l.length<=200)(m:∀ s∈l,s.length=16)
  (c:w.ownsRow B 175 16 (.slice (S ⟨g,0,O⟩) l.length cap) l.length (dU l)) :
  κ prog 113 #[.slice (S ⟨g,0,O⟩) l.length cap] w λe w' =>
   ∃ b a,e=.returned (.slice (S ⟨b,0,O⟩) l.length a)/\w'.ownsRow w 175 16 (.slice (S ⟨b,0,O⟩) l.length a) l.length (dU l)/\β w w w':=by
 obtain⟨d,q,o,v,f⟩:=info_parts He;have r:=wK c;have y:=zI l m;have i:=J9 l;obtain⟨_,z,F,_⟩:=fB c
 have n:χ (∀ j u,(dU l)[j]?=S u->(w.alloc (.cells #[] 175)).cell? ((⟨g,0,O⟩:Addr).add j)=S u):=λj u t=>by
  have:=r j u t
  rw[jbi _ _ _ (ja2 w _ this)];exact this
 have H  := λw=>by
  simpa using jbE (P:=prog) w 163 175 (S ⟨g,0,O⟩) l.length cap 0 0 underlying163
 go_enter func113,ntmps113;go_wp2_with (at_builtin;refine wpList_append_lies _ rfl _ _ 163 rfl w.heap.size 175 d vM 16 16 underlying163 q o v f rfl (by decide) _ 0 [] rfl (Jd w _ 16) _ _ _ _ rfl y n i (by omega) (by omega) (by omega) (by simp) _ rfl ?_;intro b a A C x G D)
 go_ret
 exact⟨b,a,rfl,by simp_all,((ja0 _ _).alloc (ja1 _) _).grown (row:=S _) x (by simp) (λk e=>by
  simp_all)⟩
def DV.made(l:List (List UInt8))(wr:Nat):DV:=⟨l,l,[],wr,-1⟩
def DV.CB{l wr}(d:1<=l.length)(c:l.length<=200)(a:∀ s∈l,s.length=16)(b:wr<=1000000000):(DV.made l wr).ok :=
 ⟨d,c,rfl,a,a,(λx f=>by cases f),ja7 _,b,(by show(-1:Int) <= -1;decide),(by show(-1:Int)<=_;decide)⟩
def Ik{B g cap}(l)(wr:Nat)(w:ω)(o:1<=l.length)(i:l.length<=200)(j:∀ s∈l,s.length=16)(q:wr<=1000000000)
  (c:w.ownsRow B 175 16 (.slice (S ⟨g,0,O⟩) l.length cap) l.length (dU l)) (y:B<=w) :
  κ prog 97 #[.slice (S ⟨g,0,O⟩) l.length cap,(wr:Int)] w λe w' =>
   ∃ h,e=.returned h.p/\aS B w' h (DV.made l wr)/\β w w w'/\h.bf=g/\w<=h.p/\w<=h.bs/\h.v2=.slice O 0 0:=by
 have f:χ (w.ownsRow B 175 16 (.slice (S ⟨g,0,O⟩) l.length cap) l.length (dU l)):=c;obtain⟨A,z,t,_⟩:=fB c;have x  := lt_of_some t;go_enter func97,ntmps97;go_wp2_with fail;refine(xZ l w o i j f).mono ?_;rintro e a ⟨n,v,rfl,r,b⟩;have m:χ (a.ownsRow _ 175 16 _ l.length (dU l)):=r;go_wp2;go_ret;have d:=b.size;obtain⟨u,D,C,_⟩:=fB m;refine⟨⟨a.heap.size,g,cap,n,v,.slice O 0 0⟩,rfl,⟨DV.CB o i j q,by show B<=a.heap.size;omega,?_,?_,?_,jaa _ _ _ _,?_,λ_=>rfl⟩,b.alloc d _,rfl,d,u,rfl⟩
 .exact heap_alloc_new a _
 .refine bg f (λk e=>?_);have:g=k:=by simpa [Value.ownBlock] using e
  subst this;rw[jap a _ g (by omega),b.block g x]
 .exact ownsRow_base (m.alloc _) y
 .show g≠n;omega
def noughts:List UInt8:=List.replicate 16 0
def Xv(n):dU (List.replicate n noughts)=List.replicate (n*16) (.int .u8 0):=by
 have:bM noughts=List.replicate 16 (.int _ 0):=rfl
 unfold dU;rw[List.map_replicate,this,List.flatten_replicate_replicate]
def TI(n):(madeCells vM.cells (n*16)).toList=dU (List.replicate n noughts):=by
 rw[Xv];apply jbU;intro j;have f:vM.cells=Array.replicate 16 _:=rfl;by_cases a:j<n*16
 .have d:j % 16<16:=Nat.mod_lt _ (by omega);have c:vM.cells.size=16:=rfl
  have b:vM.cells[j % 16]! = .int .u8 0:=by
   simp_all
  simp[madeCells,a,c,b]
 .simp[madeCells,a]
def TP{n}:∀ s∈List.replicate n noughts,s.length=16:=by
 intro s a;rw[jaO a];rfl
def IU(n:Nat)(w)(q:1<=n)(f:n<=200) :
  κ prog 28 #[(n:Int)] w λe w' =>
   ∃ h,e=.returned (.tuple #[h.p,.nilIface])/\aS w w' h (DV.made (List.replicate n noughts) 0)/\β w w w':=by
 have g1:decide ((n:Int)<1)=false:=by simp;omega
 obtain⟨b,m,i,r,c⟩:=info_parts He;obtain⟨d,t,s,j⟩:=run_make_full  w _ _ _ b _ 16 underlying163 m i r .i64 .i64 n (by rw[c];omega) (by unfold maxLen;omega) (ja1 _);rw[TI] at *
 have a:χ _:=(ja0 _ _).grown j (ja1 _) (λk e=>by cases e);have o:=Ik (g:=w.heap.size) (cap:=n) _ 0 d (by simpa using q) (by simpa using f) TP (by omega) (by simp_all) a.size;rw[jam] at *
 go_enter func28,ntmps28;go_wp2_with fail;refine o.mono ?_;rintro e u ⟨h,rfl,hd,l,_⟩;go_wp2;go_ret2;exact⟨h,rfl,hd,a.trans (l.mono a.size)⟩
def Yr(l i)(h:∀ s∈l,s.length=16)(c:i<l.length):((dU l).drop (i*16)).take 16=bM (l.getD i []):=by
 induction l generalizing i with
 | nil=>simp at *
 | cons s l a =>
  have b:(bM s).length=16:=by rw[pV,(h s (by simp))]
  have e:dU (s::l)=bM s++dU l:=by simp[dU]
  rw[e]
  cases i with
  | zero=>simp_all
  | succ i =>
   rw[show(i+1)*16=(bM s).length+i*16 by omega,jbC];rw[jbc (by omega)];simp_all
def Xu{w:ω}{B g cap l}(b:w.ownsRow B 175 16 (.slice (S ⟨g,0,O⟩) l.length cap) l.length (dU l))(c:∀ s∈l,s.length=16)(i)(d:i<l.length) :
  w.rangeAt g (i*16) (bM (l.getD i [])):=by
 intro j v a;rw[<- Yr l i c d] at *
 rw[b.cellAt _ (by
  have:j<16:=by
   rcases jav j 16 with h|h
   .exact h
   .rw[jaj (by simp;omega)] at *;cases a
  omega)]
 rcases jav j 16 with h|h
 .simp_all
 .rw[jaj (by simp;omega)] at a;cases a
def bytesOf(s:List UInt8):ByteArray:=⟨s.toArray⟩
def vT{w g o s}(n cap)(c:s.length=n)(h:w.rangeAt g o (bM s)):(convert 185 9 (.slice (S ⟨g,o,O⟩) n cap)).run prog w=.ok (.string (bytesOf s)) w:=by
 have:=run_convert_bytes_arg  w _ 5 underlying185 underlying5 g o n cap (s.map λb=>(b.toNat:Int)) (by simpa using c) (λi d=>by
  have a:i<s.length:=by omega
  rw[h i (.int .u8 ((s[i]'a).toNat:Int)) (by simp[bM,ja5 a])]
  simp_all) 9 underlying9
 rw[this];congr 2;simp only[strOfNums,List.map_map,bytesOf];congr 2
 have e:((λn:Int=>UInt8.ofNat n.toNat) ∘ λb:UInt8=>(b.toNat:Int))=id:=by
  funext b;simp
 simp_all
def l9{B h d}(i w)(hd:aS B w h d)(a:i<d.fl.length) :
  κ prog 75 #[h.p,(i:Int)] w λe w'=>e=.returned (.tuple #[.string (bytesOf (d.seen.getD i [])),.nilIface])/\w'=w:=by
 have g:=BR i w hd;rw[show d.has (i:Int)=true by unfold DV.has;simp;omega] at *
 obtain⟨k,c1,c2,c3,c4,j⟩:=hd.cells;have c:=hd.os;rw[<- hd.ok.same] at *
 have b:(d.seen.getD i []).length=16:=by
  rw[ja6,ja5 a];exact hd.ok.l2 _ (jad a)
 have l:=vT 16 16 b (Xu c hd.ok.l2 i a);have m:=hd.ok.n2;rw[<- hd.ok.same] at *
 generalize d.seen.getD i []=s at *
 have f:χ _:=g;go_enter func75,ntmps75;go_wp2_with fail;refine cSt f ?_;go_wp2;go_ret2;exact⟨rfl,rfl⟩
def WR(w g1 g2 n c1 c2 b t a)(g:w.heap[g1]?=S (.cells b t (0,0)))(c:a.length=n*16)(k:n*16<=b.size)
  (f:∀ j u,a[j]?=S u->w.cell? ((⟨g2,0,O⟩:Addr).add j)=S u) (d:∀ u∈a,u.oneCell'=true) :
  (Builtin.copy_ #[163,163] 3 #[.slice (S ⟨g1,0,O⟩) n c1,.slice (S ⟨g2,0,O⟩) n c2]).run prog w=.ok (.int .i64 (n:Int)) (w.setRow g1 (a++b.toList.drop (n*16)).toArray):=by
 have i:∀ w:ω,(sizeOf 175).run prog w=.ok 16 w:=λ_=>by kernel_rfl
 simp[Builtin.copy_,run_underlying _,Builtin.lenOf,i,(run_firstCells_some (P:=prog) w 16 n _ n c2 a c f),(run_storeCells_at (P:=prog) g1 0 t a 0 b w g (by omega) d),goInt,c]
theorem Kept.setRow{S a w}(h:Kept S a w){g}(b:S g\/a<=g)(c):Kept S a (w.setRow g c) :=
 ⟨h.os,h.tape,h.output,by simpa [World.setRow] using h.size,λk f d=>(setRow_other w g k c (λe=>by rcases b with b|b;exact d (e▸b);omega)).trans (h.block k f d)⟩
def aS.zL{B w h d}(hd:aS B w h d)(l a)(c:({d with fl:=l}:DV).ok)(b:l.length=d.fl.length)(r:a.toList.take (l.length*16)=dU l)(o:a.size=h.cf*16) :
  aS B (w.setRow h.bf a) h {d with fl:=l}:=by
 obtain⟨n,u,v,f,x⟩:=hd.apart;obtain⟨m,g,j,t,q,s,y⟩:=fB hd.of;refine⟨c,hd.pB,?_,?_,?_,bg hd.op (λk e=>setRow_other _ _ _ _ (λi=>f (by rw[e,i]))),hd.ne,hd.pn⟩
 .rw[setRow_other _ _ _ _ (jaM n)];rw[b];exact hd.blk
 .show(w.setRow h.bf a).ownsRow B 175 16 _ l.length _
  exact⟨zI l c.l1,.inr ⟨h.bf,h.cf,a,rfl,m,setRow_heap w h.bf g a _ _ j,by omega,q,o,r⟩⟩
 .rw[b]
  exact bg hd.os (λk e=>setRow_other _ _ _ _ (by
   have:h.bs=k:=by simpa [Value.ownBlock] using e
   rw[<- this];exact jaM hd.ne))
theorem aS.drew{B w h d}(hd:aS B w h d):aS B w.drew h d:=hd.keep λ_ _=>rfl
def DV.flushed(d:DV):DV:={d with fl:=d.seen,pend:=[]}
theorem DV.ok.flushed{d:DV}(h:d.ok):d.flushed.ok :=
 ⟨by show 1<=d.seen.length;rw[h.same];exact h.n1,by show d.seen.length<=200;rw[h.same];exact h.n2,rfl,h.l2,h.l2,(λx a=>by cases a),ja7 _,h.few2,h.f1,h.f2⟩
def DV.ok.over{d:DV}(h:d.ok):({d with fl:=d.seen}:DV).ok :=
 ⟨by rw[h.same];exact h.n1,by rw[h.same];exact h.n2,rfl,h.l2,h.l2,(λx a=>by rw[h.same];exact h.l3 x a),h.few,h.few2,h.f1,h.f2⟩
def flush_any{B h d}(w)(hd:aS B w h d) :
  κ prog 106 #[h.p] w λe w'=>e=.returned (.tuple #[])/\aS B w' {h with v2:=.slice O 0 0} d.flushed/\Kept (λk=>k=h.p\/k=h.bf) w w':=by
 obtain⟨A,c1,c2,c3,c4,s⟩:=hd.cells;obtain⟨v,a,o,t,x,c,C⟩:=fB hd.of;have b:(dU d.seen).length=d.fl.length*16:=by rw[zI _ hd.ok.l2,hd.ok.same]
 have g:=λW (hW:W.heap=w.heap)=>WR W h.bf h.bs d.fl.length h.cf h.cs a 175 (dU d.seen) (by rw[hW];exact o) b (by rw[c];omega) (λj u q=>by
   have:=(wK hd.os) j u q
   rw[jab (w:=w) (by rw[hW])];exact this) (J9 _)
 have r:=g w.drew rfl
 have f:χ (aS B (w.drew.setRow h.bf (dU d.seen++a.toList.drop (d.fl.length*16)).toArray) h _) :=
  hd.drew.zL d.seen _ hd.ok.over hd.ok.same (by
   show(dU d.seen++a.toList.drop _).take _=dU d.seen
   rw[hd.ok.same,<- b];simp) (by simp[b,c];omega)
 have m:χ (Kept (λk=>k=h.p\/k=h.bf) w (w.drew.setRow h.bf (dU d.seen++a.toList.drop (d.fl.length*16)).toArray)):=(Kept.refl _ w).drew.setRow (.inl (.inr rfl)) _;obtain⟨_,_,y,_,_,l⟩:=f.cells;have z:=l 2;have i:χ _:=hd.ok.flushed;generalize (dU d.seen++a.toList.drop _).toArray=n at *
 go_enter func106,ntmps106;go_wp2;go_region;generalize w.drew.setRow h.bf n=W at *
 go_wp2;go_end0
 exact⟨rfl,f.pX  _ 2 _ i rfl rfl rfl (jaa _ _ _ _) (λ_=>rfl),m.setCell (.inl (.inl rfl)) _⟩
theorem heap_setCells_other(b k)(a:k≠b):∀c o (w:ω),(w.setCells b o c).heap[k]?=w.heap[k]?
 | [],_,_=>rfl
 | v::r,o,w=>by
  show((w.setCell ⟨b,o,O⟩ v).setCells b (o+1) r).heap[k]?=_
  rw[heap_setCells_other b k a r];exact heap_setCell_other w ⟨b,o,O⟩ k v a
theorem size_setCells(b):∀a o (w:ω),(w.setCells b o a).heap.size=w
 | [],_,_=>rfl
 | v::r,o,w=>by
  show((w.setCell ⟨b,o,O⟩ v).setCells b (o+1) r).heap.size=_
  rw[size_setCells b r];simp[World.setCell]
theorem Bl(b):∀a o (w:ω),(w.setCells b o a).os=w.os/\(w.setCells b o a).tape=w.tape/\(w.setCells b o a).output=w.output
 | [],_,_=>⟨rfl,rfl,rfl⟩
 | v::r,o,w=>by
  show((w.setCell ⟨b,o,O⟩ v).setCells b (o+1) r).os=_/\_/\_
  exact Bl b r (o+1) (w.setCell ⟨b,o,O⟩ v)
theorem Kept.setCells{S a w}(h:Kept S a w){b}(c:S b\/a<=b)(o d):Kept S a (w.setCells b o d):=by
 obtain⟨j,g,l⟩:=Bl b d o w;exact⟨j.trans h.os,g.trans h.tape,l.trans h.output,by rw[size_setCells];exact h.size,λk i f=>(heap_setCells_other b k (λe=>by rcases c with c|c;exact f (e▸c);omega) d o w).trans (h.block k i f)⟩
theorem Below.setCells{B a w}(h:β B a w){b}(i:B<=b)(o c):β B a (w.setCells b o c):=by
 obtain⟨f,d,g⟩:=Bl b c o w;exact h.trans ⟨f,d,g,by rw[size_setCells];omega,λk j=>heap_setCells_other b k (by omega) c o w⟩
def D7(w:ω)(c t n)(h:c.size=n):(w.alloc (.cells c t)).there w 0 n:=by
 intro j a;simp_all
def BZ:(prog.info? 5).map (λi=>(i.zero,i.size,i.bytes))=S (S (.int .u8 0),1,1):=by kernel_rfl
def KI:(prog.info? 175).map (·.size)=S 16:=by kernel_rfl
def Kt(w:ω)(g o a c t)(d:w.heap[g]?=S (.cells c t (0,0)))(i:o+a.length<=c.size)(f:∀ v∈a,v.oneCell'=true) :
  w.setCells g o a=w.setRow g (c.toList.take o++a++c.toList.drop (o+a.length)).toArray:=by
 have b:=run_storeCells_cells (P:=prog) g o a 0 w (λj k=>by rw[jb0,cell_of_row _ _ _ _ _ _ d];simp;omega) (λj _=>frozen_of_row _ _ _ _ _ d) f;rw[(run_storeCells_at (P:=prog) g o t a 0 c w d (by omega) f)] at b;simp_all
def Xw(l i s)(a:∀ x∈l,x.length=16)(d:i<l.length) :
  dU (l.set i s)=(dU l).take (i*16)++bM s++(dU l).drop (i*16+16):=by
 induction l generalizing i with
 | nil=>simp at *
 | cons x l b =>
  have f:(bM x).length=16:=by rw[pV,(a x (by simp))]
  have e:∀ y:List UInt8,∀ r,dU (y::r)=bM y++dU r:=λy r=>by simp[dU]
  cases i with
  | zero =>
   rw[jaw,e,e];simp only[Nat.zero_mul,jak,List.take_zero,jaP];rw[show(16:Nat)=(bM x).length by omega,List.drop_left]
  | succ i =>
   rw[jar,e,e,(b i (λy c=>a y (by simp[c])) (by simpa using d))];rw[show(i+1)*16=(bM x).length+i*16 by omega,show(bM x).length+i*16+16=(bM x).length+(i*16+16) by omega];rw[jbW,jbC];rw[jaf (show(bM x).length<=(bM x).length+i*16 by omega),jbc (show(bM x).length<=(bM x).length+(i*16+16) by omega)];simp[jaR]
def Je{w:ω}{B g n cap l}(j:w.ownsRow B 175 16 (.slice (S ⟨g,0,O⟩) n cap) n (dU l))(t:l.length=n)(c:∀ x∈l,x.length=16)(i s)(f:s.length=16)(q:i<n) :
  (w.setCells g (i*16) (bM s)).ownsRow B 175 16 (.slice (S ⟨g,0,O⟩) n cap) n (dU (l.set i s)):=by
 subst t;obtain⟨y,a,d,v,k,m,u⟩:=fB j;have b:(bM s).length=16:=by rw[pV,f]
 have z:a.toList.length=cap*16:=by simpa using m
 rw[Kt w g (i*16) (bM s) a _ d (by omega) (vF _)]
 have o:∀ x∈l.set i s,x.length=16:=λx r=>by
  rcases jaZ r with h|h
  .exact c x h
  .rw[h];exact f
 refine⟨by rw[zI _ o,jal],.inr ⟨g,cap,_,rfl,y,setRow_heap w g a _ _ _ d,v,k,?_,?_⟩⟩
 .simp[b];omega
 .rw[Xw l i s c q,b,<- u];show(a.toList.take (i*16)++bM s++a.toList.drop _).take _=_
  rw[jbW,jbW,List.take_take,List.take_take,List.drop_take];simp only[jah,jay,b,z];rw[show min (i*16) (cap*16)=i*16 by omega,show min _ (i*16)=i*16 by omega,jaf (show(bM s).length<=l.length*16-i*16 by omega),show l.length*16-(i*16+16)=l.length*16-(i*16+16) from rfl];rw[show min (i*16) _=i*16 by omega]
def Yt(l i)(h:∀ x∈l,x.2.length=16)(c:i<l.length):((jw l).drop (i*17)).take 17=wrV (l.getD i (0,[])):=by
 induction l generalizing i with
 | nil=>simp at *
 | cons s l b =>
  have a:(wrV s).length=17:=by rw[Ae,(h s (by simp))]
  have e:jw (s::l)=wrV s++jw l:=by simp[jw]
  rw[e]
  cases i with
  | zero=>simp_all
  | succ i =>
   rw[show(i+1)*17=(wrV s).length+i*17 by omega,jbC];rw[jbc (by omega),jaP];simp_all
def Zn{w:ω}{B g cap l}(a:w.ownsRow B 180 17 (.slice (S ⟨g,0,O⟩) l.length cap) l.length (jw l))(c:∀ x∈l,x.2.length=16)(i)(d:i<l.length) :
  w.rangeAt g (i*17) (wrV (l.getD i (0,[]))):=by
 intro j v b;rw[<- Yt l i c d] at *
 rcases jav j 17 with h|h
 .rw[a.cellAt _ (by omega)];simp_all
 .rw[jaj (by simp;omega)] at *;cases b
def dX(a:List (Nat × List UInt8))(b:List Bool)(l:List (List UInt8)):Nat->List (List UInt8)
 | 0=>l
 | k+1=>if b.getD k false then (dX a b l k).set (a.getD k (0,[])).1 (a.getD k (0,[])).2 else dX a b l k
def Ce{b a l k}(e:a.getD k false=false):dX b a l (k+1)=dX b a l k:=by
 show(if a.getD k _ then _ else _)=_
 rw[e];rfl
def Hy{b a l k}(e:a.getD k false=true):dX b a l (k+1)=(dX b a l k).set (b.getD k (0,[])).1 (b.getD k (0,[])).2:=by
 show(if a.getD k _ then _ else _)=_
 rw[e];rfl
def tK(c a l k):(dX c a l k).length=l.length:=by
 induction k with
 | zero=>rfl
 | succ k b=>unfold dX;split<;>simp[b]
def Cc(a g l k)(j:k<=a.length)(f:∀ s∈l,s.length=16)(c:∀ x∈a,x.2.length=16):∀ s∈dX a g l k,s.length=16:=by
 induction k with
 | zero=>exact f
 | succ k d =>
  have b:=d (by omega);unfold dX;split
  .intro s i;rcases jaZ i with h|h
   .exact b s h
   .rw[h,ja6,ja5 (show k<a.length by omega)];exact c _ (jad _)
  .exact b
def Bools(w:ω)(f:Option Addr)(a:Nat)(c:List Bool):Prop :=
 c.length=a/\∀ j,j<a->∃ b d,f=S ⟨b,d,O⟩/\w.cell? ⟨b,d+j,O⟩=S (.bool (c.getD j false))
def Bools.below{w w' la len ls}(h:Bools w la len ls)(f:β w w w'):Bools w' la len ls:=by
 refine⟨h.1,λk c=>?_⟩;obtain⟨b,d,e,a⟩:=h.2 k c;exact⟨b,d,e,by rw[f.cell (ja2 w _ a)];exact a⟩
def KL:(prog.info? 180).map (·.size)=S 17:=by kernel_rfl
def LM{w:ω}{b x}(h:w.rangeAt b 0 (wrV x)):w.cell? ⟨b,0,O⟩=S (.int .i64 (x.1:Int))/\w.rangeAt b 1 (bM x.2):=by
 refine⟨by simpa using h 0 _ rfl,λj v a=>?_⟩;have:=h (j+1) v (by simpa [wrV] using a)
 rw[show 1+j=0+(j+1) by omega];exact this
def E8{B h d}(A n kc a w)(hd:aS B w h d)(hK:Bools w A n a)(b8:n<=maxLen) :
  κ prog 39 #[h.p,.slice A n kc] w λe w' =>
   ∃ r,e=.returned r.p/\aS w w' r (DV.made (dX d.pend a d.fl d.pend.length) d.wr)/\β w w w':=by
 obtain⟨c0,c1,c2,c3,c4,fz⟩:=hd.cells;unfold maxLen at *
 have R:h.p<w.heap.size:=(hd.lt _ (.inl rfl)).2;have c:χ (aS B w h d):=hd;have HK:χ (Bools w A n a):=hK;have aw:=hd.ok.n2;have h1:=hd.ok.n1;have b3:=hd.ok.few;have ac:=hd.ok.few2;obtain⟨X,vc,U⟩:=hd.v2;rw[U] at c2;have HV:χ (h.v2=.slice X d.pend.length vc):=U;go_enter func39,ntmps39;go_wp2_with fail;refine(xZ d.fl w h1 aw c.ok.l1 c.of).mono ?_;rintro e L ⟨b,l,rfl,ae,a4⟩;have ba:L.cell? ⟨h.p,2,O⟩=S (.slice X d.pend.length vc):=by rw[a4.cell R];exact c2
 have am:χ (L.ownsRow w.heap.size 175 16 (.slice (S ⟨b,0,O⟩) d.fl.length l) d.fl.length (dU d.fl)):=ae;have al:χ (β w w L):=a4;go_wp2;go_loopw [18] (λi wr=>∃ k:Nat,k<=d.pend.length/\i=.int .i64 k/\wr.ownsRow w.heap.size 175 16 (.slice (S ⟨b,0,O⟩) d.fl.length l) d.fl.length (dU (dX d.pend a d.fl k))/\β w w wr) (λi _=>d.pend.length-(intOf i).toNat)
 case atStart=>exact⟨0,ja7 _,rfl,am,al⟩
 case round =>
  obtain⟨k,hk,rfl,a6,m⟩:=hrel;by_cases a0:k<d.pend.length
  .obtain⟨t,cp,a5,_,af⟩:=c.op.form (by omega);rw[HV.out] at a5;cases a5;have ax:=c.op;rw[HV.out] at *
   have y:∀ x∈d.pend,x.2.length=16:=λx K=>(c.ok.l3 x K).2
   have ad:=Zn ax y k a0
   have a3:d.pend.getD k (0,[])∈d.pend:=by
    rw[ja6,ja5 a0];exact jad _
   have aL:=(c.ok.l3 _ a3).1;have H:=(c.ok.l3 _ a3).2
   have N:χ (wr.rangeAt t (k*17) (wrV (d.pend.getD k (0,[])))):=λj v hv=>by
    rw[m.cell (p:=⟨t,k*17+j,O⟩) af];exact ad j v hv
   have J:=Cc d.pend a d.fl k hk c.ok.l1 y;have D:=tK d.pend a d.fl k;have b2:χ (a.getD k false=true->dX d.pend a d.fl (k+1)=(dX d.pend a d.fl k).set (d.pend.getD k (0,[])).1 (d.pend.getD k (0,[])).2):=λe=>Hy e
   have T:χ (a.getD k false=false->dX d.pend a d.fl (k+1)=dX d.pend a d.fl k):=λe=>Ce e
   generalize d.pend.getD k (0,[])=x at *
   generalize dX d.pend a d.fl k=f at *
   have aR:χ (∀ s∈f,s.length=16):=J;have Y:χ (wr.ownsRow w.heap.size 175 16 (.slice (S ⟨b,0,O⟩) d.fl.length l) d.fl.length (dU f)):=a6;have M:(wrV x).length=17:=by rw[Ae,H]
   have ag:∀ u∈wrV x,u.oneCell'=true:=λu hu=>Ei [x] u (by simpa [jw] using hu)
   have az:=vF x.2;have a1:(bM x.2).length=16:=by rw[pV,H]
   have F:χ ((prog.info? 180).map (·.size)=S (wrV x).length):=by unfold χ;rw[M];exact KL
   have G:χ ((prog.info? 180).map (·.size)=S (wrV x).toArray.size):=by unfold χ;rw[jbf];exact F
   have I:χ ((wrV x).toArray.all (·.oneCell')=true):=all_oneCell_toArray ag;have P:χ ((wr.alloc (.cells #[(0:Int),(),(),(),(),(),(),(),(),(),(),(),(),(),(),(),()] 180)).there wr.heap.size 0 (wrV x).toArray.size):=D7 wr _ _ _ (by simp[M]);have aa:((wr.alloc (.cells #[(0:Int),(),(),(),(),(),(),(),(),(),(),(),(),(),(),(),()] 180)).setCells wr.heap.size 0 (wrV x)).rangeAt wr.heap.size 0 (wrV x):=World.rangeAt_setCells_same _ _ _ _ (D7 wr _ _ _ (by simp[M]));obtain⟨b5,b0⟩:=LM aa;have aM:χ (((wr.alloc (.cells #[(0:Int),(),(),(),(),(),(),(),(),(),(),(),(),(),(),(),()] 180)).setCells wr.heap.size 0 (wrV x)).rangeAt wr.heap.size 1 (bM x.2)):=b0;have HJ:χ ((prog.info? 175).map (·.size)=S (bM x.2).length):=by unfold χ;rw[a1];exact KI
   have aD:χ ((prog.info? 175).map (·.size)=S (bM x.2).toArray.size):=by unfold χ;rw[jbf];exact HJ
   have b1:χ ((bM x.2).toArray.all (·.oneCell')=true):=all_oneCell_toArray az;obtain⟨av,b4,a8,b7,_,y,_⟩:=fB Y;have ar:b<wr.heap.size:=lt_of_some a8;have Q:=m.size
   have E:χ (((wr.alloc (.cells #[(0:Int),(),(),(),(),(),(),(),(),(),(),(),(),(),(),(),()] 180)).setCells wr.heap.size 0 (wrV x)).ownsRow w.heap.size 175 16 (.slice (S ⟨b,0,O⟩) d.fl.length l) d.fl.length (dU f)):=bg Y (λq e=>by
    have:b=q:=by simpa [Value.ownBlock] using e
    subst this
    rw[heap_setCells_other _ _ (by omega),jap _ _ _ ar])
   have an:χ (((wr.alloc (.cells #[(0:Int),(),(),(),(),(),(),(),(),(),(),(),(),(),(),(),()] 180)).setCells wr.heap.size 0 (wrV x)).there b (x.1*16) (bM x.2).toArray.size):=by
    intro j hj;obtain⟨_,b9,W,bc,_,b6,_⟩:=fB E;have bb:j<16:=by simpa [a1] using hj
    rw[cell_of_row _ _ _ _ _ _ W,frozen_of_row _ _ _ _ _ W];exact⟨by simp;omega,rfl⟩
   have C:χ (β w w ((wr.alloc (.cells #[(0:Int),(),(),(),(),(),(),(),(),(),(),(),(),(),(),(),()] 180)).setCells wr.heap.size 0 (wrV x))):=Below.setCells (m.alloc Q _) Q 0 _;have ap:χ (β w w (((wr.alloc (.cells #[(0:Int),(),(),(),(),(),(),(),(),(),(),(),(),(),(),(),()] 180)).setCells wr.heap.size 0 (wrV x)).setCells b (x.1*16) (bM x.2))):=Below.setCells C av _ _;have ai:χ ((((wr.alloc (.cells #[(0:Int),(),(),(),(),(),(),(),(),(),(),(),(),(),(),(),()] 180)).setCells wr.heap.size 0 (wrV x)).setCells b (x.1*16) (bM x.2)).ownsRow w.heap.size 175 16 (.slice (S ⟨b,0,O⟩) d.fl.length l) d.fl.length (dU (f.set x.1 x.2))):=Je E D aR x.1 x.2 H aL;have V:χ (Bools ((wr.alloc (.cells #[(0:Int),(),(),(),(),(),(),(),(),(),(),(),(),(),(),(),()] 180)).setCells wr.heap.size 0 (wrV x)) A n a):=HK.below C;by_cases a9:k<n
   .obtain⟨kb,ko,rfl,Z⟩:=V.2 k a9
    cases o:a.getD k false with
    | true =>
     rw[o] at Z;have z:χ (dX d.pend a d.fl (k+1)=f.set x.1 x.2):=b2 o
     go_wp2_with (first
      | (refine wpList_load_mid (by rfl) 180 (.tmp 21) (by rfl) t (k*17) (by rfl) (wrV x) _ N underlying180 rfl F ?_)
      | (refine wpList_store_mid (by rfl) 180 (.tmp 7) (.tmp 22) (by rfl) wr.heap.size 0 (wrV x).toArray (by rfl) (by rfl) P G I ?_)
      | (refine wpList_load_mid (by rfl) 175 (.tmp 36) (by rfl) wr.heap.size 1 (by rfl) (bM x.2) _ aM underlying175 rfl HJ ?_)
      | (refine wpList_store_mid (by rfl) 175 (.tmp 38) (.tmp 37) (by rfl) b (x.1*16) (bM x.2).toArray (by rfl) (by rfl) an aD b1 ?_))
     refine⟨⟨k+1,by omega,by go_num,?_,ap⟩,by simp[intOf];omega⟩;rw[z.out];exact ai
    | false =>
     rw[o] at Z;have z:χ (dX d.pend a d.fl (k+1)=f):=T o
     go_wp2_with (first
      | (refine wpList_load_mid (by rfl) 180 (.tmp 21) (by rfl) t (k*17) (by rfl) (wrV x) _ N underlying180 rfl F ?_)
      | (refine wpList_store_mid (by rfl) 180 (.tmp 7) (.tmp 22) (by rfl) wr.heap.size 0 (wrV x).toArray (by rfl) (by rfl) P G I ?_))
     refine⟨⟨k+1,by omega,by go_num,?_,C⟩,by simp[intOf];omega⟩;rw[z.out];exact E
   .have o:a.getD k false=false:=by
     rw[ja6,jaj (by rw[V.out.1];omega)];rfl
    have z:χ (dX d.pend a d.fl (k+1)=f):=T o
    go_wp2_with (first
      | (refine wpList_load_mid (by rfl) 180 (.tmp 21) (by rfl) t (k*17) (by rfl) (wrV x) _ N underlying180 rfl F ?_)
      | (refine wpList_store_mid (by rfl) 180 (.tmp 7) (.tmp 22) (by rfl) wr.heap.size 0 (wrV x).toArray (by rfl) (by rfl) P G I ?_))
    refine⟨⟨k+1,by omega,by go_num,?_,C⟩,by simp[intOf];omega⟩;rw[z.out];exact E
  .have a7:k=d.pend.length:=by omega
   subst a7;have bd:wr.cell? ⟨h.p,3,O⟩=S (.int .i64 (d.wr:Int)):=by rw[m.cell R];exact c3
   have y  := λx K=>(c.ok.l3 x K).2
   have J:=Cc d.pend a d.fl d.pend.length (ja1 _) c.ok.l1 y;have D:=tK d.pend a d.fl d.pend.length;have ao:=Ik (g:=b) (cap:=l) (dX d.pend a d.fl d.pend.length) d.wr wr (by omega) (by omega) J ac (by rw[D];exact a6) m.size;rw[D] at *
   have HM:χ (κ prog 97 #[.slice (S ⟨b,0,O⟩) d.fl.length l,(d.wr:Int)] wr λe w' =>
    ∃ h:Hd,e=.returned h.p/\aS w.heap.size w' h (DV.made (dX d.pend a d.fl d.pend.length) d.wr)/\β wr wr w'/\h.bf=b/\wr.heap.size<=h.p/\wr.heap.size<=h.bs/\h.v2=.slice O 0 0):=ao
   have a2:χ (β w w wr):=m;go_wp2_with fail;refine HM.mono ?_;rintro e w5 ⟨r,rfl,aq,aE,_⟩;have ab:χ (aS w.heap.size w5 r (DV.made (dX d.pend a d.fl d.pend.length) d.wr)):=aq;go_wp2;go_ret;exact⟨r,rfl,ab,a2.trans (aE.mono a2.size)⟩
def Nz(s):byteCells s=bM s.data.toList:=rfl
def WS(w g a)(s:ByteArray)(n cap b t)(f:s.size=n)(d:w.heap[g]?=S (.cells b.toArray t (0,0)))(j:a+n<=b.length) :
  (Builtin.copy_ #[185,9] 3 #[.slice (S ⟨g,a,O⟩) n cap,s]).run prog w=.ok (.int .i64 (n:Int)) (w.setRow g (splice b a (bM s.data.toList)).toArray):=by
 subst f;have k:(bM s.data.toList).length=s.size:=by rw[pV];simp
 have i:∀ w:ω,(sizeOf 5).run prog w=.ok 1 w:=λ_=>by kernel_rfl
 have c:=firstCells_string (P:=prog) s w;rw[Nz] at *
 simp[Builtin.copy_,run_underlying _,Builtin.lenOf,i,c,(run_storeCells_at (P:=prog) g a t (bM s.data.toList) 0 _ w d (by simp_all) (vF _)),goInt,splice]
def Zr{B h d}(a)(s:ByteArray)(w)(hd:aS B w h d)(o:s.size=16)(g:d.has a=true)(c:d.fail=0) :
  κ prog 105 #[h.p,a,s] w λe w'=>e=.returned (.iface 96 (.int .i64 7))/\aS B w' h (d.failing (-1))/\Kept h.fp w w':=by
 have j:=BR a w hd;rw[g] at *
 have i:=P6 w hd (by omega);rw[c] at *
 have m:χ _:=j;have k:χ (κ prog 177 _ w λe w'=>e=.returned _/\aS B w' h _/\Kept h.fp w w'):=i;go_enter func105,ntmps105;go_wp2_with fail;refine cSt m ?_;go_wp2_with fail;refine k.mono ?_;rintro e n ⟨rfl,b,f⟩;have l:χ _:=b;go_wp2;go_ret;exact⟨rfl,l,f⟩
def Ol(a:ω)(i:Nat)(s:ByteArray)(b:s.size=16) :
  (Builtin.copy_ #[185,9] 3 #[.slice (S ⟨a,1,O⟩) 16 16,s]).run prog (a.alloc (.cells #[(i:Int),(),(),(),(),(),(),(),(),(),(),(),(),(),(),(),()] 180)) =
    .ok (.int .i64 16) (a.alloc (.cells (wrV (i,s.data.toList)).toArray 180)):=by
 have:=WS (a.alloc (.cells #[(i:Int),(),(),(),(),(),(),(),(),(),(),(),(),(),(),(),()] 180)) _ 1 s 16 16 _ 180 b (heap_alloc_new a _) (by simp)
 rw[this,jbd];have c:(bM s.data.toList).length=16:=by rw[pV];simpa using b
 congr 4;simp[splice,wrV,c]
def Xy(w:ω)(c t a)(h:c.size=a.length)(b:∀ v∈a,v.oneCell'=true):(w.alloc (.cells c t)).setCells w 0 a=w.alloc (.cells a.toArray t):=by
 rw[Kt _ _ _ _ c t (heap_alloc_new w _) (by omega) b,jbd];congr 3;simp[<- h]
def DV.wrote(d:DV)(i:Nat)(s:List UInt8):DV:={d with seen:=d.seen.set i s,pend:=d.pend++[(i,s)],wr:=d.wr+1}
theorem DV.ok.wrote{d:DV}(h:d.ok){i s}(c:i<d.fl.length)(b:s.length=16)(f:d.wr<1000000000):(d.wrote i s).ok:=by
 refine⟨h.n1,h.n2,?_,h.l1,λx a=>?_,λx a=>?_,?_,?_,h.f1,h.f2⟩
 .show(d.seen.set i s).length=_;rw[jal];exact h.same
 .rcases jaZ a with q|q
  .exact h.l2 x q
  .simp_all
 .rcases List.mem_append.1 a with q|q
  .exact h.l3 x q
  .have:x=(i,s):=by simpa using q
   subst this;exact⟨c,b⟩
 .show(d.pend++[(i,s)]).length<=d.wr+1;have:=h.few;simp;omega
 .show d.wr+1<=_;omega
structure Mid(B:Nat)(w1 w3:ω)(h:Hd)(d:DV)(i:Nat)(s:List UInt8)(v:υ):Prop where
 bp:w3.heap[h.p]?=S (.cells #[.slice (S ⟨h.bf,0,O⟩) d.fl.length h.cf,.slice (S ⟨h.bs,0,O⟩) d.fl.length h.cs,v,(d.wr:Int),d.fail] 178 (0,0))
 bf:w3.heap[h.bf]?=w1.heap[h.bf]?
 bs:w3.heap[h.bs]?=w1.heap[h.bs]?
 bn:w3.heap[w1.heap.size]?=S (.cells (wrV (i,s)).toArray 180 (0,0))
 ow:w3.ownsRow B 180 17 v (d.pend.length+1) (jw (d.pend++[(i,s)]))
 at_:v.ownBlock=h.v2.ownBlock\/v.ownBlock=S (w1.heap.size+2)
 kept:Kept h.fp w1 w3
def TQ{B a f h d}(hd:aS B a h d)(i s)(g cap)
  (m:f.ownsRow B 180 17 (.slice (S ⟨g,0,O⟩) (d.pend.length+1) cap) (d.pend.length+1) (jw d.pend++wrV (i,s)))
  (b:(((a.alloc (.cells (wrV (i,s)).toArray 180)).alloc (.cells (wrV (i,s)).toArray 180)).drew).grownBy f h.v2.ownBlock)
  (u:h.v2.ownBlock=S g\/g=a+2):Mid B a (f.setCell ⟨h.p,2,O⟩ (.slice (S ⟨g,0,O⟩) (d.pend.length+1) cap)) h d i s (.slice (S ⟨g,0,O⟩) (d.pend.length+1) cap):=by
 obtain⟨x,y,z,o,A⟩:=hd.apart;have j:=hd.lt;have t:=(j h.p (.inl rfl)).2
 have w:∀ k,k<a.heap.size->(((a.alloc (.cells (wrV (i,s)).toArray 180)).alloc (.cells (wrV (i,s)).toArray 180)).drew).heap[k]?=a.heap[k]?:=λk c=>by
  show((a.alloc _).alloc _).heap[k]?=_
  rw[jap _ _ _ (by simp;omega),jap _ _ _ c]
 have G:(((a.alloc (.cells (wrV (i,s)).toArray 180)).alloc (.cells (wrV (i,s)).toArray 180)).drew).heap.size=a.heap.size+2:=by
  simp
 have l:∀ k,k<a.heap.size->h.v2.ownBlock≠S k->f.heap[k]?=a.heap[k]?:=λk c r=>by
  rw[b.block k (by omega) (jaM r),w k c]
 have C  := (l h.p t z).trans hd.blk;obtain⟨E,F,D,_⟩:=fB m;have v:jw (d.pend++[(i,s)])=jw d.pend++wrV (i,s):=by simp[jw]
 refine⟨?_,?_,?_,?_,?_,?_,?_⟩
 .rw[heap_setCell_same f h.p 2 _ _ _ C];rfl
 .rw[heap_setCell_other _ _ _ _ x];exact l _ (j h.bf (.inr (.inl rfl))).2 o
 .rw[heap_setCell_other _ _ _ _ y];exact l _ (j h.bs (.inr (.inr (.inl rfl)))).2 A
 .rw[heap_setCell_other _ _ _ _ (show a.heap.size≠h.p by omega),b.block _ (by omega) (λe=>by
   have:=(j _ (.inr (.inr (.inr e.symm)))).2
   omega)]
  exact(heap_alloc2_old a _ _)
 .rw[v]
  exact bg m (λk e=>by
   have:g=k:=by simpa [Value.ownBlock] using e
   subst this
   exact heap_setCell_other _ _ _ _ (λe=>by simp_all))
 .rcases u with q|q
  .left;rw[q];rfl
  .right;rw[q];rfl
 .refine⟨b.os,b.tape,b.output,?_,λk c n=>?_⟩
  .have:=b.size
   simp[World.setCell];omega
  .rw[heap_setCell_other _ _ _ _ (λe=>n (.inl e)),l k c (λe=>n (.inr (.inr (.inr e))))]
def Mid.reads{B b a h d i s v}(m:Mid B b a h d i s v)(hd:aS B b h d)(o:i<d.fl.length) :
  a.cell? ⟨h.p,1,O⟩=S (.slice (S ⟨h.bs,0,O⟩) d.fl.length h.cs)/\a.rangeAt b 1 (bM s)/\a.there h.bs (i*16) 16:=by
 refine⟨by rw[cell_of_row _ _ _ _ _ _ m.bp];rfl,(LM (x:=(i,s)) (λj v f=>?_)).2,λj k=>?_⟩
 .rw[jak,cell_of_row _ _ _ _ _ _ m.bn];simpa using f
 .obtain⟨_,g,c,l,_,n,_⟩:=fB hd.os;rw[<- m.bs] at *
  rw[cell_of_row _ _ _ _ _ _ c,frozen_of_row _ _ _ _ _ c];exact⟨by simp;omega,rfl⟩
def Mid.fin{B c a}{w4:ω}{h d i s v}(m:Mid B c a h d i s v)(hd:aS B c h d)(r:i<d.fl.length)(o:s.length=16)(y:d.wr<1000000000)
  (b:w4.heap=a.heap) (l:w4.os=a.os/\w4.tape=a.tape/\w4.output=a.output) :
  aS B ((w4.setCells h.bs (i*16) (bM s)).setCell ⟨h.p,3,O⟩ ((d.wr:Int)+1:Int)) {h with v2:=v} (d.wrote i s)/\Kept h.fp c ((w4.setCells h.bs (i*16) (bM s)).setCell ⟨h.p,3,O⟩ ((d.wr:Int)+1:Int)) /\
   (w4.setCells h.bs (i*16) (bM s)).cell? ⟨h.p,3,O⟩=S (.int .i64 (d.wr:Int))/\(w4.setCells h.bs (i*16) (bM s)).frozen? ⟨h.p,3,O⟩=false:=by
 obtain⟨C,t,G,J,I⟩:=hd.apart
 have j:(w4.setCells h.bs (i*16) (bM s)).heap[h.p]?=S (.cells #[.slice (S ⟨h.bf,0,O⟩) d.fl.length h.cf,.slice (S ⟨h.bs,0,O⟩) d.fl.length h.cs,v,(d.wr:Int),d.fail] 178 (0,0)):=by
  rw[heap_setCells_other _ _ (jaM t),b];exact m.bp
 have u:∀ k,v.ownBlock=S k->∃ f,a.heap[k]?=S _:=λk e=>by
  rcases m.ow.2 with⟨q,_⟩|⟨g,cap,f,q,_,w,_⟩
  .omega
  .rw[q] at e;have:g=k:=by simpa [Value.ownBlock] using e
   subst this;exact⟨f,w⟩
 obtain⟨_,H,E,_⟩:=fB hd.os
 have A:∀ k,v.ownBlock=S k->k≠h.bs:=λk e q=>by
  obtain⟨f,n⟩:=u k e;rw[q,m.bs,E] at *;cases n
 have D:∀ k,v.ownBlock=S k->k≠h.p:=λk e q=>by
  obtain⟨f,n⟩:=u k e;rw[q,m.bp] at *;cases n
 have z  := bg hd.os (λk e=>by
  have:h.bs=k:=by simpa [Value.ownBlock] using e
  subst this
  rw[b];exact m.bs)
 refine⟨⟨hd.ok.wrote r o y,hd.pB,?_,?_,?_,?_,hd.ne,λe=>by simp[DV.wrote] at e⟩,?_,by rw[cell_of_row _ _ _ _ _ _ j];rfl,frozen_of_row _ _ _ _ _ j⟩
 .rw[heap_setCell_same _ h.p 3 _ _ _ j];rfl
 .exact bg hd.of (λk e=>by
   have:h.bf=k:=by simpa [Value.ownBlock] using e
   subst this
   rw[heap_setCell_other _ _ _ _ C,heap_setCells_other _ _ hd.ne,b];exact m.bf)
 .exact bg (Je z hd.ok.same hd.ok.l2 i s o r) (λk e=>by
   have:h.bs=k:=by simpa [Value.ownBlock] using e
   subst this
   exact heap_setCell_other _ _ _ _ t)
 .show World.ownsRow _ B 180 17 v (d.pend++[(i,s)]).length _
  rw[jah];exact bg (bg m.ow (λk _=>by rw[b])) (λk e=>by rw[heap_setCell_other _ _ _ _ (D k e),heap_setCells_other _ _ (A k e)])
 .have F:Kept h.fp c w4:=⟨l.1.trans m.kept.os,l.2.1.trans m.kept.tape,l.2.2.trans m.kept.output,by rw[b];exact m.kept.size,λk x q=>by rw[b];exact m.kept.block k x q⟩;exact(F.setCells (.inl (.inr (.inr (.inl rfl)))) _ _).setCell (.inl (.inl rfl)) _
def Tq(a:List υ)(h:a.length=17):∃ b u m j g n t l s k o d c i r f q,a=[b,u,m,j,g,n,t,l,s,k,o,d,c,i,r,f,q]:=by
 match a,h with
 | [b,u,m,j,g,n,t,l,s,k,o,d,c,i,r,f,q],_=>exact⟨_,_,_,_,_,_,_,_,_,_,_,_,_,_,_,_,_,rfl⟩
def Zm{P f g b a}{w:ω}{Q}(j:b.guard=O)(d t x y)(k:b.op=.store d x y)
  (c cells) (n:a.eval x=.pointer (S ⟨w,0,O⟩)) (l:a.eval y=.agg cells)
  (i:c.size=cells.size) (m:(P.info? d).map (·.size)=S cells.size) (o:∀ v∈cells.toList,v.oneCell'=true)
  (h:wpList P f Q g (a.put b.dst undef) (w.alloc (.cells cells t))):wpList P f Q (b::g) a (w.alloc (.cells c t)):=by
 refine wpList_store_mid j d x y k _ 0 _ n l (D7 w c t _ i) m (by simp_all) ?_;rw[Xy w c t _ (by simpa using i) o]
 simpa using h
def LW{B h b}(i)(s:ByteArray)(w a)(E:aS B a h b)(hB:B<=a)(R:s.size=16)(hi:i<b.fl.length)(hw:b.wr<1000000000)
  (HH:χ (κ prog 150 #[h.p,(i:Int)] w λe w'=>e=.returned true/\w'=w))
  (HF:χ (κ prog 177 #[h.p] w λe w'=>e=.returned false/\w'=a)) :
  κ prog 105 #[h.p,(i:Int),s] w λe w' =>
   ∃ v,e=.returned .nilIface/\aS B w' {h with v2:=v} (b.wrote i s.data.toList)/\Kept h.fp a w'/\(v.ownBlock=h.v2.ownBlock\/v.ownBlock=S (a.heap.size+2)):=by
 have al:((s.size:Int) != 16)=false:=by simp;omega
 have ab:s.data.toList.length=16:=by simpa using R
 obtain⟨c0,c1,c2,c3,c4,fz⟩:=E.cells;obtain⟨i0,a4,a6,ac,Z⟩:=info_parts Hg;have Y:(wrV (i,s.data.toList)).length=17:=by rw[Ae];simpa using R
 have P:∀ u∈wrV (i,s.data.toList),u.oneCell'=true:=λu hu=>Ei [(i,s.data.toList)] u (by simpa [jw] using hu)
 have X:h.p<a.heap.size:=(E.lt _ (.inl rfl)).2;have aE:=E.ok.few;have ai:=fz 2;have G:χ (aS B a h b):=E
 have aa:∀ v∈([.int .i64 (i:Int),.int .u8 0,.int .u8 0,.int .u8 0,.int .u8 0,.int .u8 0,.int .u8 0,.int .u8 0,.int .u8 0,.int .u8 0,.int .u8 0,.int .u8 0,.int .u8 0,.int .u8 0,.int .u8 0,.int .u8 0,.int .u8 0]:List υ),v.oneCell'=true:=λv hv=>by
  simp only[jb7,jb1,or_false] at hv;rcases hv with rfl|rfl|rfl|rfl|rfl|rfl|rfl|rfl|rfl|rfl|rfl|rfl|rfl|rfl|rfl|rfl|rfl<;>rfl
 have V:=Ol a i s R;have HZ:χ (∀ v∈(#[(i:Int),(),(),(),(),(),(),(),(),(),(),(),(),(),(),(),()]:Array υ).toList,v.oneCell'=true):=aa;have W:χ ((prog.info? 180).map (·.size)=S (#[(i:Int),(),(),(),(),(),(),(),(),(),(),(),(),(),(),(),()]:Array υ).size):=KL;obtain⟨o,n,k,d,r,y,D,t,l,j,z,q,x,f,C,c,A,Q⟩:=Tq _ Y;have N:χ (wrV (i,s.data.toList)=[o,n,k,d,r,y,D,t,l,j,z,q,x,f,C,c,A]):=Q;rw[Q] at V P;have a0:χ (∀ u∈[o,n,k,d,r,y,D,t,l,j,z,q,x,f,C,c,A],u.oneCell'=true):=P;have a7:χ (b.pend.length+1<=maxLen):=by unfold χ maxLen;omega
 have a2:χ ((((a.alloc (.cells #[o,n,k,d,r,y,D,t,l,j,z,q,x,f,C,c,A] 180)).alloc (.cells #[o,n,k,d,r,y,D,t,l,j,z,q,x,f,C,c,A] 180)).drew).heap[a.heap.size+1]?=S (.cells #[o,n,k,d,r,y,D,t,l,j,z,q,x,f,C,c,A] 180 (0,0))):=heap_alloc2_new a _ _;have a3:χ ((((a.alloc (.cells #[o,n,k,d,r,y,D,t,l,j,z,q,x,f,C,c,A] 180)).alloc (.cells #[o,n,k,d,r,y,D,t,l,j,z,q,x,f,C,c,A] 180)).drew).ownsRow B 180 17 h.v2 b.pend.length (jw b.pend)):=(E.op.alloc _).alloc _;have H:χ ((((a.alloc (.cells #[o,n,k,d,r,y,D,t,l,j,z,q,x,f,C,c,A] 180)).alloc (.cells #[o,n,k,d,r,y,D,t,l,j,z,q,x,f,C,c,A] 180)).drew).heap.size=a.heap.size+2):=by unfold χ;simp
 have af:χ (B<=(((a.alloc (.cells #[o,n,k,d,r,y,D,t,l,j,z,q,x,f,C,c,A] 180)).alloc (.cells #[o,n,k,d,r,y,D,t,l,j,z,q,x,f,C,c,A] 180)).drew).heap.size):=by unfold χ;rw[H.out];omega
 have U:χ (h.p<(((a.alloc (.cells #[o,n,k,d,r,y,D,t,l,j,z,q,x,f,C,c,A] 180)).alloc (.cells #[o,n,k,d,r,y,D,t,l,j,z,q,x,f,C,c,A] 180)).drew).heap.size):=by unfold χ;rw[H.out];omega
 have L:χ (S h.p≠h.v2.ownBlock):=jaM E.apart.2.2.1
 have ae:χ ((((a.alloc (.cells #[o,n,k,d,r,y,D,t,l,j,z,q,x,f,C,c,A] 180)).alloc (.cells #[o,n,k,d,r,y,D,t,l,j,z,q,x,f,C,c,A] 180)).drew).cell? ⟨h.p,2,O⟩=S h.v2):=by
  unfold χ;show((a.alloc (.cells #[o,n,k,d,r,y,D,t,l,j,z,q,x,f,C,c,A] 180)).alloc (.cells #[o,n,k,d,r,y,D,t,l,j,z,q,x,f,C,c,A] 180)).cell? ⟨h.p,2,O⟩=S h.v2
  rw[jas _ _ _ (by simp;omega),jas _ _ _ X];exact c2
 have ad:χ ((((a.alloc (.cells #[o,n,k,d,r,y,D,t,l,j,z,q,x,f,C,c,A] 180)).alloc (.cells #[o,n,k,d,r,y,D,t,l,j,z,q,x,f,C,c,A] 180)).drew).frozen? ⟨h.p,2,O⟩=false):=by
  unfold χ;show((a.alloc (.cells #[o,n,k,d,r,y,D,t,l,j,z,q,x,f,C,c,A] 180)).alloc (.cells #[o,n,k,d,r,y,D,t,l,j,z,q,x,f,C,c,A] 180)).frozen? ⟨h.p,2,O⟩=false
  rw[jb2 _ _ _ (by simp;omega),jb2 _ _ _ X];exact ai
 clear E fz Q Y P aa c0 c1 c3 c4;go_enter func105,ntmps105;go_wp2_with fail;refine cEq HH λw' a9=>?_
 have ao:=a9.symm;subst ao;clear a9;go_wp2_with fail;refine cSt HF ?_;clear HH HF al;go_wp2_with (refine Zm (by rfl) 180 180 (.tmp 7) (.tmp 22) (by rfl) _ #[(i:Int),(),(),(),(),(),(),(),(),(),(),(),(),(),(),(),()] (by rfl) (by rfl) rfl W HZ ?_)
 clear V HZ W;go_region_law (refine step_append_lies _ (by rfl) _ _ 176 (by rfl) B 180 i0 En 17 24 underlying176 a4 a6 ac Z rfl (by decide) h.v2 b.pend.length (jw b.pend) (by rfl) a3 ⟨a.heap.size+1,0,O⟩ 1 1 [o,n,k,d,r,y,D,t,l,j,z,q,x,f,C,c,A] (by rfl) (by rfl) (jbM a2) a0 (by decide) a7 (by omega) af (a.heap.size+2) H ?_;intro g cap T a5 J a8 ap;have q2:=(J.cell_far ⟨h.p,2,O⟩ U L).trans ae;have q3:=(J.frozen_far ⟨h.p,2,O⟩ U L).trans ad)
 all_goals
  clear q2 q3;go_wp2_with fail
  have m:Mid B a (T.setCell ⟨h.p,2,O⟩ (.slice (S ⟨g,0,O⟩) (b.pend.length+1) cap)) h b i s.data.toList (.slice (S ⟨g,0,O⟩) (b.pend.length+1) cap) :=
   TQ G i s.data.toList g cap (by rw[N.out];exact a5) (by rw[N.out];exact J) a8
  have M:χ (Mid B a (T.setCell ⟨h.p,2,O⟩ (.slice (S ⟨g,0,O⟩) (b.pend.length+1) cap)) h b i s.data.toList (.slice (S ⟨g,0,O⟩) (b.pend.length+1) cap)):=m;clear m a5 J a8 ap a7 a2 a3 H af U L ae ad a0 N c2 ai a4 a6 ac Z;generalize T.setCell ⟨h.p,2,O⟩ (.slice (S ⟨g,0,O⟩) (b.pend.length+1) cap)=I at M |-;obtain⟨s1,s2,s3⟩:=M.reads G hi;have ag:(bM s.data.toList).length=16:=by rw[pV];exact ab
  have av:=vF s.data.toList;have aD:=underlying175;have ar:(prog.info? 175).map (·.size)=S (bM s.data.toList).length:=by rw[ag];exact KI
  have aw:(0:Int)<=(i:Int):=by omega
  have az:(i:Int)<(b.fl.length:Int):=by omega
  have an:h.p≠h.bs:=jaM G.apart.2.1;have ax:a.heap.size≠h.bs:=by have:=(G.lt h.bs (.inr (.inr (.inl rfl)))).2;omega
  obtain⟨F,K⟩:∃ F,F=bM s.data.toList:=⟨_,rfl⟩;have am:χ (F=bM s.data.toList):=K;rw[<- K] at s2 ag av ar;clear K
  go_region_held3 (λw'=>w'.cell? ⟨h.p,1,O⟩=S (.slice (S ⟨h.bs,0,O⟩) b.fl.length h.cs)/\w'.rangeAt a.heap.size 1 F/\w'.there h.bs (i*16) 16)
   ((go_split_ands;(try simp only[World.rangeAt_drew,World.there_drew] at *);refine⟨?_,?_,?_⟩<;>first|assumption|(apply World.there_setCells;assumption)|(refine World.rangeAt_setCells_apart (by assumption) _ _ _ (by omega))|(rw[World.cell?_setCells_out _ _ _ _ _ (λe=>absurd e an)];assumption)))
   (fail)
  have a1:=M.fin (w4:=I.drew) G hi ab hw rfl ⟨rfl,rfl,rfl⟩;rw[<- am.out] at a1;obtain⟨f1,f2,f3,f4⟩:=a1;have aq:χ ((Value.slice (S ⟨g,0,O⟩) (b.pend.length+1) cap).ownBlock=h.v2.ownBlock\/(Value.slice (S ⟨g,0,O⟩) (b.pend.length+1) cap).ownBlock=S (a.heap.size+2)):=M.at_;have F1:χ (aS B ((I.drew.setCells h.bs (i*16) F).setCell ⟨h.p,3,O⟩ ((b.wr:Int)+1:Int)) {h with v2:=.slice (S ⟨g,0,O⟩) (b.pend.length+1) cap} (b.wrote i s.data.toList)):=f1;have F2:χ (Kept h.fp a ((I.drew.setCells h.bs (i*16) F).setCell ⟨h.p,3,O⟩ ((b.wr:Int)+1:Int))):=f2;generalize I.drew.setCells h.bs (i*16) F=w5 at *
  go_wp2;go_ret;exact⟨_,rfl,F1,F2,aq⟩
