/- How a shelf lies in memory: its own block of five pointers, its images, none of which shares a block with another; what an act on one of them leaves of the others. -/
import Derived.Test.YtbohmhacdgckgaaGreatDoorQRimFill
set_option linter.all false
set_option maxHeartbeats 4000000
set_option maxRecDepth 100000
namespace Go.Proofs.YtbohmhacdgckgaaGreatDoor
open Go.RowKit renaming Below->β
open Go renaming World->ω, Value->υ, Calls->κ
open Option renaming none->O, some->S
open Go.RowKit Go.Maps
attribute [local go_sem ↓] Go.wp_at_zero Go.wp_at_succ
def Gd.no:Gd:=⟨λ_=>False,0,λ_ h=>h.elim⟩
def Gd.but(w:ω)(S:Nat->Prop):Gd:=⟨λk=>k<w.heap.size/\¬S k,w.heap.size,λ_ h=>h.1⟩
structure Moved(S:Nat->Prop)(w:ω)(S':Nat->Prop)(w':ω):Prop where
 kept:Kept S w w'
 new:∀ k,S' k->S k\/w.heap.size<=k
theorem Moved.trans{S g d:Nat->Prop}{w f i:ω}(a:Moved S w g f)(b:Moved g f d i):Moved S w d i :=
 ⟨⟨b.kept.os.trans a.kept.os,b.kept.tape.trans a.kept.tape,b.kept.output.trans a.kept.output,ja4 a.kept.size b.kept.size,λk c j=>by
  rw[b.kept.block k (ja9 c a.kept.size) (λl=>by rcases a.new k l with h|h;exact j h;omega),a.kept.block k c j]⟩,λk c=>by
  rcases b.new k c with h|h
  .exact a.new k h
  .exact .inr (ja4 a.kept.size h)⟩
def Moved.of_below{S:Nat->Prop}{w a:ω}(h:β w w a):Moved S w S a:=⟨Below.kept h,λ_ h=>.inl h⟩
theorem Moved.refl(S:Nat->Prop)(w:ω):Moved S w S w:=⟨Kept.refl _ _,λ_ h=>.inl h⟩
theorem Moved.size{S b:Nat->Prop}{w a:ω}(h:Moved S w b a):w.heap.size<=a.heap.size:=h.kept.size
theorem Moved.block{S b:Nat->Prop}{w a:ω}(h:Moved S w b a){k:Nat}(c:k<w.heap.size)(d:¬S k):a.heap[k]?=w.heap[k]?:=h.kept.block k c d
def Moved.cell{S b:Nat->Prop}{w a:ω}(h:Moved S w b a){p:Addr}(c:p.block<w.heap.size)(d:¬S p.block):a.cell? p=w.cell? p:=jad (h.block c d)
def Moved.out{S a:Nat->Prop}{w c:ω}(h:Moved S w a c){k:Nat}(f:k<w.heap.size)(d:¬S k):¬a k:=λe=>by
 rcases h.new k e with b|b
 .exact d b
 .omega
theorem Moved.below{S b:Nat->Prop}{w a:ω}{B:Nat}(h:Moved S w b a)(c:B<=w.heap.size)(d:∀ k,S k->B<=k):β B w a:=h.kept.below c d
theorem aH.but{B:Gd}{w:ω}{x:Ih}{v:IV}(h:aH B w x v):aH (Gd.but w x.fp) w x v:=h.re λ_ a b=>b.2 a
theorem aS.but{B:Gd}{w:ω}{q:Qh}{v:IV}(h:aS B w q v):aS (Gd.but w q.fp) w q v:=h.re λ_ a b=>b.2 a
def nH{S c:Nat->Prop}{w d:ω}{T:Nat->Prop}(f:Kept T w d)(i:∀ k,T k->¬(Gd.but w S).g k)(l:∀ k,c k->¬(Gd.but w S).g k):Moved S w c d :=
 ⟨f.mono λk a j=>jaj λb=>i k j ⟨a,b⟩,λk h=>by
  rcases jaq k _ with a|a
  .exact .inl (jaj λb=>l k h ⟨a,b⟩)
  omega⟩
theorem Did.exact{w a:ω}{x:Ih}{V:IV}{f:Int}{e:Ending}(hd:Did (Gd.but w x.fp) w x V f e a) :
  ∃ x':Ih,e=.returned (erV f)/\x'.p=x.p/\x'.h.p=x.h.p/\aH Gd.no a x' V/\Moved x.fp w x'.fp a:=by
 obtain⟨y,g,c,b,d⟩:=hd;exact⟨{x with h:=y},g,rfl,c,b.re λ_ _ h=>h,nH d (λ_ h=>h.1) b.out⟩
theorem iF.exact{w c:ω}{q:Qh}{V:IV}{f:Int}{e:Ending}(hd:iF (Gd.but w q.fp) w q V f e c) :
  ∃ a:Qh,e=.returned f/\a.p=q.p/\a.d.p=q.d.p/\aS Gd.no c a V/\Moved q.fp w a.fp c:=by
 obtain⟨a,g,b⟩:=hd;exact⟨a,g,b.p,b.dp,b.rim.re λ_ _ h=>h,nH b.kept (λ_ h=>h.1) b.rim.out⟩
def Nums(w:ω)(a:Option Addr)(l:List Int):Prop:=∀ k,k<l.length->∃ g o,a=S ⟨g,o,O⟩/\w.cell? ⟨g,o+k,O⟩=S (.int .i64 (l.getD k 0))
def Nums.keep{w b:ω}{a:Option Addr}{l:List Int}(h:Nums w a l)(d:∀ g o,a=S ⟨g,o,O⟩->b.heap[g]?=w.heap[g]?):Nums b a l:=λk f=>by
 obtain⟨g,o,c,i⟩:=h k f;exact⟨g,o,c,by rw[jad (d g o c)];exact i⟩
def Nums.lt{w:ω}{a:Option Addr}{l:List Int}(h:Nums w a l)(f:l≠[]){g o:Nat}(e:a=S ⟨g,o,O⟩):g<w.heap.size:=by
 cases l with
 | nil=>simp_all
 | cons n r =>
  obtain⟨i,d,b,c⟩:=h 0 (by simp)
  rw[e] at b;cases b
  exact ja2 _ _ c
def Nums.nil(w:ω)(a:Option Addr):Nums w a []:=λ_ h=>by cases h
def Nums.below{w b:ω}{a:Option Addr}{l:List Int}(h:Nums w a l)(d:β w w b):Nums b a l:=by
 by_cases c:l=[]
 .rw[c];exact Nums.nil _ _
 .exact h.keep λg o e=>d.block g (h.lt c e)
def Apart(a:Option Addr)(S:Nat->Prop):Prop:=∀ g o,a=some ⟨g,o,O⟩->¬S g
def Nums.moved{S d:Nat->Prop}{w b:ω}{a:Option Addr}{l:List Int}(h:Nums w a l)(f:Moved S w d b)(i:Apart a S):Nums b a l:=by
 by_cases c:l=[]
 .rw[c];exact Nums.nil _ _
 .exact h.keep λg o e=>f.block (h.lt c e) (i g o e)
def Apart.moved{S b:Nat->Prop}{w d:ω}{a:Option Addr}{l:List Int}(f:Apart a S)(h:Nums w a l)(i:l≠[])(c:Moved S w b d):Apart a b:=λg o e=>c.out (h.lt i e) (f g o e)
def iE(x:Ih):Option IV->υ
 | none=>.pointer O
 | some _=>.pointer (S ⟨x.p,0,O⟩)
def fpS(a:Nat->Ih)(s:SV)(k:Nat):Prop:=∃ i,i<5/\s i≠O/\(a i).fp k
def qP(a:Nat->Ih)(i:Nat)(x:Ih):Nat->Ih:=λj=>if j=i then x else a j
structure bD(w:ω)(sp:Nat)(xs:Nat->Ih)(s:SV)(m:Nat):Prop where
 is_:∃ cur,w.heap[sp]?=S (.cells cur 74 (0,0))/\(∀ i,i<5->cur[6+i]?=S (iE (xs i) (s i)))/\∀ i,i<5->s i≠O->cur[i]?=S ((xs i).h.p:υ)
 img:∀ i v,i<5->s i=S v->aH Gd.no w (xs i) v
 ok:s.ok m
 apart:∀ i j,i<5->j<5->i≠j->s i≠O->s j≠O->∀ k,(xs i).fp k->¬(xs j).fp k
def bD.is{w:ω}{sp m:Nat}{d:Nat->Ih}{s:SV}(h:bD w sp d s m):∃ a,w.heap[sp]?=S (.cells a 74 (0,0)):=by
 obtain⟨c,b,_,_⟩:=h.is_;exact⟨c,b⟩
def bD.lt{w:ω}{sp m:Nat}{b:Nat->Ih}{s:SV}(h:bD w sp b s m):sp<w.heap.size:=by
 obtain⟨c,a⟩:=h.is;exact lt_of_some a
theorem bD.more{w:ω}{sp m m':Nat}{a:Nat->Ih}{s:SV}(h:bD w sp a s m)(b:m<=m'):bD w sp a s m':=⟨h.is_,h.img,h.ok.more b,h.apart⟩
theorem bD.gQ{w:ω}{sp m:Nat}{b:Nat->Ih}{s:SV}(h:bD w sp b s m){k:Nat}(d:fpS b s k):k<w.heap.size:=by
 obtain⟨i,g,f,c⟩:=d
 cases a:s i with
 | none=>exact absurd a f
 | some v=>exact(h.img i v g a).gQ k c
def aH.uX{B:Gd}{w:ω}{x:Ih}{v:IV}(h:aH B w x v){k:Nat}{g:Array υ}{t:TypeId}(d:w.heap[k]?=S (.cells g t (0,0)))(a:¬(t=178\/t=175\/t=180\/t=235\/t=168)):¬x.fp k:=by
 rintro(rfl|rfl|rfl|hk)
 .have:=h.blk
  rw[d] at this;cases this
  exact a (.inr (.inr (.inr (.inl rfl))))
 .obtain⟨j,c,b⟩:=ug h.map
  rw[d] at b;cases b
 .obtain⟨_,i,b⟩:=h.tb
  rw[d] at b;cases b
  exact a (.inr (.inr (.inr (.inr rfl))))
 .obtain⟨i,t2,f,p⟩:=h.dev.kinds k hk
  rw[d] at f;cases f
  rcases p with p|p|p
  .exact a (.inl p)
  .exact a (.inr (.inl p))
  .exact a (.inr (.inr (.inl p)))
def bD.rO{w:ω}{sp m:Nat}{b:Nat->Ih}{s:SV}(h:bD w sp b s m){k:Nat}{c:Array υ}{t:TypeId}(f:w.heap[k]?=S (.cells c t (0,0)))(d:¬(t=178\/t=175\/t=180\/t=235\/t=168)):¬fpS b s k:=by
 rintro⟨i,hi,hs,hf⟩
 cases a:s i with
 | none=>exact absurd a hs
 | some v=>exact(h.img i v hi a).uX f d hf
def bD.rP{w:ω}{sp m:Nat}{a:Nat->Ih}{s:SV}(h:bD w sp a s m):¬fpS a s sp:=by
 obtain⟨c,b⟩:=h.is;exact h.rO b (by decide)
def bD.keep{w a:ω}{sp m:Nat}{b:Nat->Ih}{s:SV}(h:bD w sp b s m)(f:a.heap[sp]?=w.heap[sp]?)(j:∀ k,fpS b s k->a.heap[k]?=w.heap[k]?):bD a sp b s m :=
 ⟨by rw[f];exact h.is_,λi v d c=>(h.img i v d c).jm λk g=>j k ⟨i,d,(by rw[c];intro e;cases e),g⟩,h.ok,h.apart⟩
def bD.below{w a:ω}{sp m:Nat}{b:Nat->Ih}{s:SV}(h:bD w sp b s m)(c:β w w a):bD a sp b s m :=
 h.keep (c.block _ h.lt) λ_ d=>c.block _ (h.gQ d)
def bD.beside{S f:Nat->Prop}{w d:ω}{sp m:Nat}{a:Nat->Ih}{s:SV}(h:bD w sp a s m)(b:Moved S w f d)(g:¬S sp)(i:∀ k,fpS a s k->¬S k):bD d sp a s m :=
 h.keep (b.block h.lt g) λk c=>b.block (h.gQ c) (i k c)
def bD.cell{w:ω}{sp m:Nat}{a:Nat->Ih}{s:SV}(h:bD w sp a s m){i:Nat}(f:i<5):w.cell? ⟨sp,6+i,O⟩=S (iE (a i) (s i)):=by
 obtain⟨c,d,b,_⟩:=h.is_;rw[cell_of_row w sp _ _ _ _ d];exact b i f
def bD.jW{w:ω}{sp m:Nat}{a:Nat->Ih}{s:SV}(h:bD w sp a s m){n:Int}{v:IV}(b:s.file n=S v):w.cell? ⟨sp,6+n.toNat,O⟩=S ((a n.toNat).p:υ):=by
 obtain⟨f,d,c⟩:=SV.dS b;rw[h.cell (by omega),c];rfl
def bD.gY{w:ω}{sp m:Nat}{b:Nat->Ih}{s:SV}(h:bD w sp b s m){n:Int}{v:IV}(c:s.file n=S v):aH Gd.no w (b n.toNat) v/\v.ok m:=by
 obtain⟨f,d,a⟩:=SV.dS c;exact⟨h.img _ v (by omega) a,h.ok _ v a⟩
def bD.kL{w z:ω}{sp m m':Nat}{g:Nat->Ih}{s:SV}(h:bD w sp g s m){n:Int}{v V:IV}(U:s.file n=some v){x':Ih}(Y:m<=m')(hV:V.ok m')(M:x'.p=(g n.toNat).p)(J:x'.h.p=(g n.toNat).h.p)(X:aH Gd.no z x' V)(l:Moved (g n.toNat).fp w x'.fp z) :
  bD z sp (qP g n.toNat x') (s.upd n.toNat V) m'/\Moved (fpS g s) w (fpS (qP g n.toNat x') (s.upd n.toNat V)) z:=by
 obtain⟨h0,h1,C⟩:=SV.dS U;have G:n.toNat<5:=by omega
 have y:s n.toNat≠none:=by rw[C];intro e;cases e
 generalize n.toNat=i at M J l C G y |-;have E:∀ k,(g i).fp k->fpS g s k:=λk d=>⟨i,G,y,d⟩
 have a0:¬(g i).fp sp:=λe=>h.rP (E _ e)
 have A:∀ j,s.upd i V j≠none->s j≠none:=λj f=>by
  unfold SV.upd at f;split at f
  .next e=>rw[e];exact y
  .exact f
 have D:∀ j,j<5->j≠i->s j≠none->∀ k,(g j).fp k->k<w.heap.size/\¬(g i).fp k:=λj f R q k d=>⟨h.gQ ⟨j,f,q,d⟩,h.apart j i f G R q y k d⟩
 refine⟨⟨?_,?_,h.ok.upd Y hV,?_⟩,⟨l.kept.mono λk _ d=>E k d,?_⟩⟩
 .obtain⟨c,W,Z,P⟩:=h.is_
  refine⟨c,(l.block h.lt a0).trans W,λj f=>?_,λj f q=>?_⟩
  rotate_left
  .rw[P j f (A j q)]
   unfold qP;by_cases e:j=i
   .rw[if_pos e,J,e]
   .rw[if_neg e]
  have T:∀ j,iE (qP g i x' j) (s.upd i V j)=iE (g j) (s j):=λj=>by
   unfold qP SV.upd;by_cases e:j=i
   .rw[if_pos e,if_pos e,e,C];show Value.pointer (some ⟨x'.p,0,none⟩)=_;rw[M];rfl
   .rw[if_neg e,if_neg e]
  rw[T];exact Z j f
 .intro j u f o
  unfold SV.upd at o;unfold qP;by_cases e:j=i
  .rw[if_pos e] at o |-
   cases o
   exact X
  .rw[if_neg e] at o |-
   exact(h.img j u f o).jm λk d=>by
    obtain⟨t,x⟩:=D j f e (by rw[o];intro e;cases e) k d
    exact l.block t x
 .intro a b N I H Q S k d
  have L:=A a Q;have K:=A b S;unfold qP at d |-;by_cases B:a=i
  .have r:b≠i:=λe=>H (by rw[B,e])
   rw[if_pos B] at d;rw[if_neg r];intro O;obtain⟨t,x⟩:=D b I r K k O;exact l.out t x d
  .rw[if_neg B] at d
   by_cases r:b=i
   .rw[if_pos r]
    obtain⟨t,x⟩:=D a N B L k d;exact l.out t x
   .rw[if_neg r];exact h.apart a b N I H L K k d
 .rintro k ⟨j,f,q,d⟩
  unfold qP at d;by_cases e:j=i
  .rw[if_pos e] at d
   rcases l.new k d with F|F
   .exact .inl (E k F)
   .exact .inr F
  .rw[if_neg e] at d
   exact .inl ⟨j,f,A j q,d⟩
def cZ(w:ω)(sp:Nat)(c:Nat->Ih)(s:SV)(m:Nat)(R:SV × Int)(e:Ending)(b:ω):Prop :=
 ∃ a:Nat->Ih,e=.returned (erV R.2)/\bD b sp a R.1 m/\Moved (fpS c s) w (fpS a R.1) b
def cZ.of{w:ω}{sp m m':Nat}{a:Nat->Ih}{s:SV}(h:bD w sp a s m){n:Int}{v V:IV}(c:s.file n=S v)(i:m<=m')(r:V.ok m'){f:Int}{e:Ending}{b:ω}
  (hd:Did (Gd.but w (a n.toNat).fp) w (a n.toNat) V f e b):cZ w sp a s m' (s.upd n.toNat V,f) e b:=by
 obtain⟨x',l,d,g,k,q⟩:=hd.exact;obtain⟨j,o⟩:=h.kL c i r d g k q;exact⟨_,l,j,o⟩
def cZ.from{w a b:ω}{sp m:Nat}{c:Nat->Ih}{s:SV}{R:SV × Int}{e:Ending}(h:cZ a sp c s m R e b)(j:β w w a):cZ w sp c s m R e b:=by
 obtain⟨d,g,f,i⟩:=h;exact⟨d,g,f,(Moved.of_below j).trans i⟩
def cZ.same{w b:ω}{sp m:Nat}{a:Nat->Ih}{s:SV}{f:Int}(h:bD w sp a s m)(c:β w w b):cZ w sp a s m (s,f) (.returned (erV f)) b:=⟨a,rfl,h.below c,Moved.of_below c⟩
def yA(f:Int):Value:=.int .i64 f
def bU(x:Qh):Option IV->υ
 | none=>.pointer O
 | some _=>.pointer (S ⟨x.p,0,O⟩)
def fpQ(a:Nat->Qh)(s:SV)(k:Nat):Prop:=∃ i,i<5/\s i≠O/\(a i).fp k
def iY(a:Nat->Qh)(i:Nat)(x:Qh):Nat->Qh:=λj=>if j=i then x else a j
structure bG(w:ω)(sp:Nat)(xs:Nat->Qh)(s:SV)(m:Nat):Prop where
 blk:w.heap[sp]?=S (.cells #[bU (xs 0) (s 0),bU (xs 1) (s 1),bU (xs 2) (s 2),bU (xs 3) (s 3),bU (xs 4) (s 4)] 87 (0,0))
 img:∀ i v,i<5->s i=S v->aS Gd.no w (xs i) v
 ok:s.ok m
 apart:∀ i j,i<5->j<5->i≠j->s i≠O->s j≠O->∀ k,(xs i).fp k->¬(xs j).fp k
theorem bG.more{w:ω}{sp m m':Nat}{a:Nat->Qh}{s:SV}(h:bG w sp a s m)(b:m<=m'):bG w sp a s m':=⟨h.blk,h.img,h.ok.more b,h.apart⟩
theorem bG.gQ{w:ω}{sp m:Nat}{b:Nat->Qh}{s:SV}(h:bG w sp b s m){k:Nat}(d:fpQ b s k):k<w.heap.size:=by
 obtain⟨i,g,f,c⟩:=d
 cases a:s i with
 | none=>exact absurd a f
 | some v=>exact(h.img i v g a).gQ k c
def aS.uX{B:Gd}{w:ω}{x:Qh}{v:IV}(h:aS B w x v){k:Nat}{g:Array υ}{t:TypeId}(c:w.heap[k]?=S (.cells g t (0,0)))(a:¬(t=127\/t=9\/t=3\/t=146\/t=168)):¬x.fp k:=by
 rintro(rfl|hk|hk|hk)
 .have:=h.blk
  rw[c] at this;cases this
  exact a (.inr (.inr (.inr (.inl rfl))))
 .obtain⟨f,b⟩:=ownsRow_kind h.own k hk
  rw[c] at b;cases b
  exact a (.inr (.inr (.inr (.inr rfl))))
 .obtain⟨f,b⟩:=ownsRow_kind h.held k hk
  rw[c] at b;cases b
  exact a (.inr (.inr (.inl rfl)))
 .obtain⟨f,t2,d,p⟩:=h.dev.kinds k hk
  rw[c] at d;cases d
  rcases p with p|p|p
  .exact a (.inl p)
  .exact a (.inr (.inl p))
  .exact a (.inr (.inr (.inl p)))
def bG.rO{w:ω}{sp m:Nat}{b:Nat->Qh}{s:SV}(h:bG w sp b s m){k:Nat}{c:Array υ}{t:TypeId}(f:w.heap[k]?=S (.cells c t (0,0)))(d:¬(t=127\/t=9\/t=3\/t=146\/t=168)):¬fpQ b s k:=by
 rintro⟨i,hi,hs,hf⟩
 cases a:s i with
 | none=>exact absurd a hs
 | some v=>exact(h.img i v hi a).uX f d hf
def bG.rP{w:ω}{sp m:Nat}{a:Nat->Qh}{s:SV}(h:bG w sp a s m):¬fpQ a s sp:=h.rO h.blk (by decide)
def bG.keep{w a:ω}{sp m:Nat}{b:Nat->Qh}{s:SV}(h:bG w sp b s m)(f:a.heap[sp]?=w.heap[sp]?)(j:∀ k,fpQ b s k->a.heap[k]?=w.heap[k]?):bG a sp b s m :=
 ⟨by rw[f];exact h.blk,λi v d c=>(h.img i v d c).jm λk g=>j k ⟨i,d,(by rw[c];intro e;cases e),g⟩,h.ok,h.apart⟩
def bG.below{w a:ω}{sp m:Nat}{b:Nat->Qh}{s:SV}(h:bG w sp b s m)(c:β w w a):bG a sp b s m :=
 h.keep (c.block _ (lt_of_some h.blk)) λ_ d=>c.block _ (h.gQ d)
def bG.beside{S f:Nat->Prop}{w d:ω}{sp m:Nat}{a:Nat->Qh}{s:SV}(h:bG w sp a s m)(b:Moved S w f d)(g:¬S sp)(i:∀ k,fpQ a s k->¬S k):bG d sp a s m :=
 h.keep (b.block (lt_of_some h.blk) g) λk c=>b.block (h.gQ c) (i k c)
def bG.cell{w:ω}{sp m:Nat}{a:Nat->Qh}{s:SV}(h:bG w sp a s m){i:Nat}(b:i<5):w.cell? ⟨sp,i,O⟩=S (bU (a i) (s i)):=by
 rw[cell_of_row w sp _ _ _ _ h.blk]
 match i,b with
 | 0,_=>rfl
 | 1,_=>rfl
 | 2,_=>rfl
 | 3,_=>rfl
 | 4,_=>rfl
def bG.jW{w:ω}{sp m:Nat}{a:Nat->Qh}{s:SV}(h:bG w sp a s m){n:Int}{v:IV}(b:s.file n=S v):w.cell? ⟨sp,n.toNat,O⟩=S ((a n.toNat).p:υ):=by
 obtain⟨f,d,c⟩:=SV.dS b;rw[h.cell (by omega),c];rfl
def bG.gY{w:ω}{sp m:Nat}{b:Nat->Qh}{s:SV}(h:bG w sp b s m){n:Int}{v:IV}(c:s.file n=S v):aS Gd.no w (b n.toNat) v/\v.ok m:=by
 obtain⟨f,d,a⟩:=SV.dS c;exact⟨h.img _ v (by omega) a,h.ok _ v a⟩
structure jr(xs:Nat->Qh)(s:SV)(w:ω)(xs':Nat->Qh)(z:SV)(w':ω):Prop extends Moved (fpQ xs s) w (fpQ xs' z) w' where
 dp:∀ i,i<5->s i≠O->z i≠O/\(xs' i).d.p=(xs i).d.p
theorem jr.of_below{a:Nat->Qh}{s:SV}{w b:ω}(h:β w w b):jr a s w a s b:=⟨Moved.of_below h,λ_ _ h=>⟨h,rfl⟩⟩
theorem jr.refl(a:Nat->Qh)(s:SV)(w:ω):jr a s w a s w:=⟨Moved.refl _ _,λ_ _ h=>⟨h,rfl⟩⟩
theorem jr.trans{j g d:Nat->Qh}{s k f:SV}{w c l:ω}(a:jr j s w g k c)(b:jr g k c d f l):jr j s w d f l :=
 ⟨a.toMoved.trans b.toMoved,λi m h=>by
  obtain⟨q,n⟩:=a.dp i m h;obtain⟨r,o⟩:=b.dp i m q
  exact⟨r,o.trans n⟩⟩
def bG.kL{w A:ω}{sp m m':Nat}{f:Nat->Qh}{s:SV}(h:bG w sp f s m){n:Int}{v V:IV}(T:s.file n=some v){x':Qh}(W:m<=m')(Y:V.ok m')(N:x'.p=(f n.toNat).p)(I:x'.d.p=(f n.toNat).d.p)(U:aS Gd.no A x' V)(l:Moved (f n.toNat).fp w x'.fp A) :
  bG A sp (iY f n.toNat x') (s.upd n.toNat V) m'/\jr f s w (iY f n.toNat x') (s.upd n.toNat V) A:=by
 obtain⟨Z,h1,C⟩:=SV.dS T;have H:n.toNat<5:=by omega
 have z:s n.toNat≠none:=by rw[C];intro e;cases e
 generalize n.toNat=i at N I l C H z |-;have F:∀ k,(f i).fp k->fpQ f s k:=λk c=>⟨i,H,z,c⟩
 have X:¬(f i).fp sp:=λe=>h.rP (F _ e)
 have D:∀ j,s.upd i V j≠none->s j≠none:=λj g=>by
  unfold SV.upd at g;split at g
  .next e=>rw[e];exact z
  .exact g
 have E:∀ j,j<5->j≠i->s j≠none->∀ k,(f j).fp k->k<w.heap.size/\¬(f i).fp k:=λj g R q k c=>⟨h.gQ ⟨j,g,q,c⟩,h.apart j i g H R q z k c⟩
 refine⟨⟨?_,?_,h.ok.upd W Y,?_⟩,⟨⟨l.kept.mono λk _ c=>F k c,?_⟩,λj _ q=>?_⟩⟩
 .rw[l.block (lt_of_some h.blk) X,h.blk]
  have t:∀ j,bU (iY f i x' j) (s.upd i V j)=bU (f j) (s j):=λj=>by
   unfold iY SV.upd;by_cases e:j=i
   .rw[if_pos e,if_pos e,e,C];show Value.pointer (some ⟨x'.p,0,none⟩)=_;rw[N];rfl
   .rw[if_neg e,if_neg e]
  rw[t,t,t,t,t]
 .intro j u g o
  unfold SV.upd at o;unfold iY;by_cases e:j=i
  .rw[if_pos e] at o |-
   cases o
   exact U
  .rw[if_neg e] at o |-
   exact(h.img j u g o).jm λk c=>by
    obtain⟨x,y⟩:=E j g e (by rw[o];intro e;cases e) k c
    exact l.block x y
 .intro a b O K J Q S k c
  have M:=D a Q;have L:=D b S;unfold iY at c |-;by_cases B:a=i
  .have r:b≠i:=λe=>J (by rw[B,e])
   rw[if_pos B] at c;rw[if_neg r];intro P;obtain⟨x,y⟩:=E b K r L k P;exact l.out x y c
  .rw[if_neg B] at c
   by_cases r:b=i
   .rw[if_pos r]
    obtain⟨x,y⟩:=E a O B M k c;exact l.out x y
   .rw[if_neg r];exact h.apart a b O K J M L k c
 .rintro k ⟨j,g,q,c⟩
  unfold iY at c;by_cases e:j=i
  .rw[if_pos e] at c
   rcases l.new k c with G|G
   .exact .inl (F k G)
   .exact .inr G
  .rw[if_neg e] at c
   exact .inl ⟨j,g,D j q,c⟩
 .unfold iY SV.upd
  by_cases e:j=i
  .rw[if_pos e,if_pos e,e];exact⟨(by intro e;cases e),I⟩
  .rw[if_neg e,if_neg e];exact⟨q,rfl⟩
def bH(w:ω)(sp:Nat)(c:Nat->Qh)(s:SV)(m:Nat)(R:SV × Int)(e:Ending)(b:ω):Prop :=
 ∃ a:Nat->Qh,e=.returned (yA R.2)/\bG b sp a R.1 m/\jr c s w a R.1 b
def bH.of{w:ω}{sp m m':Nat}{a:Nat->Qh}{s:SV}(h:bG w sp a s m){n:Int}{v V:IV}(c:s.file n=S v)(i:m<=m')(r:V.ok m'){f:Int}{e:Ending}{b:ω}
  (hd:iF (Gd.but w (a n.toNat).fp) w (a n.toNat) V f e b):bH w sp a s m' (s.upd n.toNat V,f) e b:=by
 obtain⟨x',l,d,g,k,q⟩:=hd.exact;obtain⟨j,o⟩:=h.kL c i r d g k q;exact⟨_,l,j,o⟩
def bH.from{w a b:ω}{sp m:Nat}{c:Nat->Qh}{s:SV}{R:SV × Int}{e:Ending}(h:bH a sp c s m R e b)(j:β w w a):bH w sp c s m R e b:=by
 obtain⟨d,g,f,i⟩:=h;exact⟨d,g,f,(jr.of_below j).trans i⟩
def bH.same{w b:ω}{sp m:Nat}{a:Nat->Qh}{s:SV}{f:Int}(h:bG w sp a s m)(c:β w w b):bH w sp a s m (s,f) (.returned (yA f)) b:=⟨a,rfl,h.below c,jr.of_below c⟩
def I7(v:IV)(c fr:Int)(s:ByteArray):0<=v.dJ c fr s:=by
 unfold IV.dJ IV.qU;split
 .split
  .rcases DV.rV _ _ s _ with h|h<;>rw[h]<;>decide
  .decide
 .decide
def vC(d:DV):0<=d.aU:=by
 rcases d.nN with⟨h,_⟩|⟨h,_⟩<;>rw[h]<;>decide
def DC(v:IV)(c:Int):0<=v.fB c:=by
 unfold IV.fB;split
 .split
  .decide
  .exact vC _
 .decide
def OE(v:IV)(b:Int):0<=v.iV b:=by
 unfold IV.iV;split
 .exact vC _
 .decide
def Eo(v:IV)(c:Int)(s:ByteArray):0<=v.dD c s:=by
 unfold IV.dD
 repeat' split
 all_goals first
  | decide
  | exact vC _
  | omega
  | (unfold IV.fC;rcases DV.rV _ _ s 4 with g|g<;>rw[g]<;>decide)
structure ou(h:HV)(a:List (Int × Int)):Prop where
 ents:∀ e∈a,bI e.1 e.2 h.p=true
 once:∀ i j,i<j->j<a.length->(a.getD j (0,0)).1=2->a.getD i (0,0)≠a.getD j (0,0)
def ou.nil(h:HV):ou h []:=⟨λe b=>(by cases b),λi j _ a=>(by cases a)⟩
def Am{l r:List (Int × Int)}{i:Nat}(h:i<l.length):(l++r).getD i (0,0)=l.getD i (0,0):=by
 rw[ja5,ja5,List.getElem?_append_left h]
def Nv(l:List (Int × Int))(e:Int × Int):(l++[e]).getD l.length (0,0)=e:=by
 simp
def getD_mem{l:List (Int × Int)}{i:Nat}(h:i<l.length):l.getD i (0,0)∈l:=by
 simp_all
def Uj{h:HV}{d a:List (Int × Int)}{e:Int × Int}(b:stepT h d e=S a)(g:ou h d)(t:(d.length:Int)<=h.c):ou h a/\(a.length:Int)=min h.c (d.length+1):=by
 unfold stepT at b;split at b
 .next s =>
  split at b
  .cases b;exact⟨g,by omega⟩
  .cases b
 .next s =>
  split at b
  .next r =>
   cases b
   refine⟨⟨λx q=>?_,λi j k l f=>?_⟩,by simp;omega⟩
   .rcases List.mem_append.1 q with n|n
    .exact g.ents x n
    .simp_all
   .rw[jak] at l
    simp only[jax,jbs] at l;by_cases m:j<d.length
    .rw[Am m] at f |-
     rw[Am (by omega)]
     exact g.once i j k m f
    .have:j=d.length:=by omega
     subst this;rw[Nv] at f |-;rw[Am k];intro o;exact r.2 ⟨f,o▸getD_mem k⟩
  .cases b
def SH{h:HV}{b:List (Int × Int)}{s:ByteArray}(j:ou h b)(n:(b.length:Int)<=h.c):∀(i:Nat) (a:List (Int × Int)),fD h b s i=S a->ou h a/\(a.length:Int)=min h.c (b.length+i):=by
 intro i
 induction i with
 | zero=>intro a e;cases e;exact⟨j,by omega⟩
 | succ i f =>
  intro a e
  cases d:fD h _ s i with
  | none=>rw[vG d _ (by omega)] at e;cases e
  | some x =>
   rw[yC d] at e;obtain⟨g,l⟩:=f x d;obtain⟨k,m⟩:=Uj e g (by omega)
   exact⟨k,by omega⟩
def Ux{h:HV}{b:List ByteArray}(n:0<=h.c):∀ j,(bP h b j).2=0->ou h (bP h b j).1/\((bP h b j).1.length:Int)=min h.c (8*j):=by
 intro j
 induction j with
 | zero=>intro _;exact⟨ou.nil h,by show((0:Nat):Int)=_;omega⟩
 | succ j k =>
  intro e;by_cases d:(bP h b j).2=0
  .obtain⟨l,m⟩:=k d
   by_cases g:(b.getD j ByteArray.empty).size=16
   .cases f:fD h _ _ 8 with
    | none=>rw[yR d g f] at e;cases e
    | some a =>
     rw[yS d g f];obtain⟨i,o⟩:=SH l (by omega) 8 a f
     refine⟨i,?_⟩;show(a.length:Int)=_
     omega
   .rw[yT d g] at e;cases e
  .have:bP h b (j+1)=([],(bP h b j).2):=by
    show(if (bP h _ j).2=0 then _ else _)=_
    rw[if_neg d]
   simp_all
def Ci{h:HV}{b:List ByteArray}(d:fP h b=0):h.ok=true/\b.length=ay h.c.toNat/\ou h (dO h b)/\((dO h b).length:Int)=h.c:=by
 unfold fP at d;split at d
 .next g =>
  unfold dO;rw[if_pos g];have a:=g;unfold kV at a;rw[jaU] at a;have f  := of_decide_eq_true a.2;have k:=HV.dK a.1;obtain⟨j,i⟩:=Ux (by omega) _ d
  refine⟨a.1,f,j,?_⟩;rw[i,f];unfold ay;omega
 .cases d
def aI(d:DV):HV:=fV (bytesOf (d.seen.getD 0 []))
def nI(d:DV)(k:Nat):ByteArray:=bytesOf (d.seen.getD (1+k) [])
def lZ(d:DV):List ByteArray:=(List.range (ay (aI d).c.toNat)).map (nI d)
def dF(d:DV):Int :=
 if dN (bytesOf (d.seen.getD 0 []))=0 then (if d.fl.length<aQ (aI d) then 1 else fP (aI d) (lZ d)) else dN (bytesOf (d.seen.getD 0 []))
def kF(d:DV):IV:=⟨d,aI d,dO (aI d) (lZ d),[]⟩
def EH{s:ByteArray}(h:dN s=0):(fV s).ok=true:=by
 unfold dN at h;split at h
 .next b =>
  split at h
  .next a =>
   unfold fV;rw[if_pos ⟨b,a⟩];unfold mV at a
   simp_all
  .cases h
 .omega
def Qg{d:DV}{m:Nat}(hd:d.fine d.fl.length m)(a:dF d=0):(kF d).ok m/\ou (aI d) (kF d).t:=by
 unfold dF at a;split at a
 .next j =>
  split at a
  .cases a
  .next h =>
   obtain⟨g,i,b,c⟩:=Ci a;exact⟨⟨hd,g,c,b.ents,by show aQ (aI d)<=d.fl.length;omega,(λq f=>by cases f),ja6 _⟩,b⟩
 .omega
def Fe{B:Gd}{tb tc:Nat}{h:Hd}{d:DV}(c p b:Int)(ts:List (Int × Int))(w:ω)(hd:bQ B w h d)(n:B.top<=w.heap.size)(q:w.ownsRow 0 168 2 (.slice (S ⟨tb,0,O⟩) ts.length tc) ts.length (jB ts))(r:¬B.g tb) :
  κ Tryz.prog 100 #[h.p,.agg #[c,p,b],.slice (S ⟨tb,0,O⟩) ts.length tc] w λe j =>
   ∃ x:Ih,x.h=h/\x.tb=tb/\x.tc=tc/\e=.returned x.p/\aH B j x ⟨d,⟨c,p,b⟩,ts,[]⟩/\β w w j:=by
 have s := @run_makeMap Tryz.prog;have o:=ah hd;have i:=ah q;go_enter Tryz.func100,Tryz.ntmps100
 go_wp2
 go_ret
 have m:β w w (w.alloc (.cells #[c,p,b] 67)):=(ja0 _ _).alloc (ja1 _) _;have l:=m.alloc m.size (.map #[] 0);have f:=l.alloc l.size (.cells #[h.p,c,p,b,.slice (S ⟨tb,0,O⟩) ts.length tc,.map (S (w.heap.size+1))] 235);refine⟨⟨w.heap.size+2,h,tb,tc,w.heap.size+1⟩,rfl,rfl,rfl,by simp,⟨?_,⟨B.fresh n (Nat.le_add_right _ 2),r⟩,B.fresh n (Nat.le_add_right _ 1),?_,?_,?_⟩,f⟩
 .have e:=heap_alloc_new ((w.alloc (.cells #[c,p,b] 67)).alloc (.map #[] 0)) (.cells #[h.p,c,p,b,.slice (S ⟨tb,0,O⟩) ts.length tc,.map (S (w.heap.size+1))] 235)
  rw[show((w.alloc _).alloc _).heap.size=w.heap.size+2 by simp] at e
  exact e
 .exact o.out.keep λk a=>f.block k (o.out.lt k a).2
 .exact aZ i.out λk a=>f.block k (i.out.lt k a).2
 .have e:=World.ownsMap_made (w.alloc (.cells #[c,p,b] 67)) Tryz.prog 3 (unitElem (H:=Unit))
  rw[show(w.alloc _).heap.size=w.heap.size+1 by simp] at e
  refine uY e ?_;exact jal _ _ _ (by simp)
def fM(d:DV)(k:Nat):List ByteArray:=(List.range k).map (nI d)
def BI(d:DV)(k:Nat):(fM d k).length=k:=by simp[fM]
def G7(d:DV)(k:Nat):fM d (k+1)=fM d k++[nI d k]:=by unfold fM;rw[jaW,jbb];rfl
def G6(d:DV)(n k:Nat)(h:k<n):(fM d n).getD k ByteArray.empty=nI d k:=by
 unfold fM
 simp_all
def jT(l:List ByteArray):List Value:=l.map Value.string
def Iz{w:ω}{B n cap:Nat}{a:Option Addr}{l:List ByteArray}(c:w.ownsRow B 9 1 (.slice a n cap) n (jT l))(f:l.length=n)(i:∀ k,k<n->(l.getD k ByteArray.empty).size<=maxLen):Texts w a n l:=by
 refine⟨f,λk b=>?_⟩
 obtain⟨g,m,d,j,_,_⟩:=nJ c k b
 injection d with hv1 hv2 hv3
 refine⟨g,0,hv1,?_,i k b⟩;rw[jan,j];have h:k<l.length:=by omega
 simp[jT,ja7 h,List.getD]
def QY{B:Gd}{h:Hd}{d:DV}(c p b:Int)(w:ω)(hd:bQ B w h d)(s:HV.ok ⟨c,p,b⟩=true)(hn:ay c.toNat<d.fl.length) :
  κ Tryz.prog 149 #[h.p,.agg #[c,p,b]] w λe g =>
   ∃ lt l,e=.returned (.tuple #[.slice lt (dO ⟨c,p,b⟩ (fM d (ay c.toNat))).length l,erV (fP ⟨c,p,b⟩ (fM d (ay c.toNat)))])/\lQ w.heap.size g lt l (dO ⟨c,p,b⟩ (fM d (ay c.toNat)))/\β w w g:=by
 have a4:=HV.dK s;simp only at a4;have P:Hid (∀ W:ω,κ Tryz.prog 101 #[c] W λe g=>e=.returned (ay c.toNat:Int)/\g=W):=λW=>by have:=qL c.toNat W (by omega);rw[show((c.toNat:Nat):Int)=c by omega] at this;exact this
 have Y:ay c.toNat<=5:=by unfold ay;omega
 generalize ay c.toNat=n at P Y hn |-;obtain⟨i2,a0,aa,Z,a5⟩:=info_parts uS;have ae:=hd.ok.same
 have O:Hid (∀ k,k<n->(nI d k).size=16):=λk j=>by
  have f:1+k<d.seen.length:=by omega
  have:(d.seen.getD (1+k) []).length=16:=by rw[ja5,ja7 f];exact hd.ok.l2 _ (jab f)
  show(d.seen.getD (1+k) []).toArray.size=16
  simpa using this
 have J:Hid (∀(k:Nat) (W:ω),k<n->bQ B W h d->κ Tryz.prog 75 #[h.p,(1+(k:Int):Int)] W λe g=>e=.returned (.tuple #[.string (nI d k),.nilIface])/\g=W):=λk W j hi=>by
  have:=kS (1+k) W hi.toaO (by omega)
  rw[show(((1+k:Nat):Int))=1+(k:Int) by omega] at this;exact this
 have q:=ah λW a cap (m:W.ownsRow w.heap.size 9 1 (.slice a n cap) n (jT (fM d n)))=>QW c p b a n cap (fM d n) W (Iz m (BI d n) λk j=>by rw[G6 d n k j,O.out k j];unfold maxLen;omega) (by omega)
 have G:Hid (fM d 0=[]):=rfl;have z:Hid (∀ k,fM d (k+1)=fM d k++[nI d k]):=G7 d;have ac  := BI d;generalize nI d=R at O J z;generalize hT:dO ⟨c,p,b⟩ (fM d n)=T at q |-;generalize hF:fP ⟨c,p,b⟩ (fM d n)=Fa at q |-;generalize fM d=L at q G z ac;go_enter Tryz.func149,Tryz.ntmps149
 go_wp2_with (go_at_call 101;refine cSt (P.out _) ?_)
 have M:Hid (β w w (w.alloc (.cells #[c,p,b] 67))):=(ja0 _ _).alloc (ja1 _) _;have X:Hid ((w.alloc (.cells #[c,p,b] 67)).heap[w.heap.size]?=some (.cells #[c,p,b] 67 (0,0))):=heap_alloc_new _ _;have V:Hid ((w.alloc (.cells #[c,p,b] 67)).heap.size=w.heap.size+1):=by unfold Hid;simp
 generalize w.alloc (.cells #[c,p,b] 67)=A at M X V |-;go_loopw [6,13] (λu i wr=>∃(k:Nat) (a:Option Addr) (cap:Nat),k<=n/\i=.int .i64 k/\u=.slice a k cap/\wr.ownsRow (w.heap.size+1) 9 1 (.slice a k cap) k (jT (L k))/\β (w.heap.size+1) A wr) (λ_ i _=>n-(intOf i).toNat)
 case atStart=>exact⟨0,none,0,ja6 _,rfl,rfl,by rw[G.out];exact jae _ _ _ _,ja0 _ _⟩
 case round =>
  obtain⟨k,a,cap,j,rfl,rfl,m,o⟩:=hrel;have K  := M.out.trans (o.mono (jaY _));have a1:w.heap.size+1<=wr.heap.size:=by have:=o.size;rw[V.out] at this;exact this
  by_cases a3:k<n
  .have U:=ah (J.out k wr a3 ((λW (hb:β w w W)=>hd.keep λk s=>hb.block k (hd.lt k s).2) wr K))
   have C:=ah (z.out k);have t:Hid ((wr.alloc (.cells #[.string (R k)] 9)).ownsRow (w.heap.size+1) 9 1 (.slice a k cap) k (jT (L k))):=m.alloc _;have v:Hid (w.heap.size+1<=(wr.alloc (.cells #[.string (R k)] 9)).heap.size):=by unfold Hid;simp;omega
   have E:Hid (β (w.heap.size+1) A (wr.alloc (.cells #[.string (R k)] 9))):=o.alloc a1 _;have Q:Hid ((wr.alloc (.cells #[.string (R k)] 9)).heap.size=wr.heap.size+1):=by unfold Hid;simp
   have D:Hid (∀ i y,([.string (R k)]:List υ)[i]?=some y->(wr.alloc (.cells #[.string (R k)] 9)).cell? ((⟨wr.heap.size,0,none⟩:Addr).add i)=some y):=cell_one_new _ _ _;have ag:IntKind.i64.wrap (1+(k:Int))=1+(k:Int):=ja8 _ (by omega)
   generalize R k=S at U C t v E Q D;go_wp2_with fail
   refine cSt U.out ?_;go_wp2_with (at_builtin;refine wpList_append_lies _ (by rfl) _ _ 44 (by rfl) (w.heap.size+1) 9 i2 (.string ⟨#[]⟩) 1 16 Tryz.underlying44 a0 aa Z a5 rfl (by decide) (.slice a k cap) k (jT (L k)) (by rfl) t.out ⟨wr,0,none⟩ 1 1 [S] (by rfl) (by rfl) D.out (λu N=>by simp at N;subst N;rfl) (by decide) (by unfold maxLen;omega) (by omega) v.out (wr.heap.size+1) Q.out ?_;intro g3 H I ab a8 ai af)
   have a2:Hid (I.ownsRow (w.heap.size+1) 9 1 (.slice (some ⟨g3,0,none⟩) (k+1) H) (k+1) (jT (L (k+1)))):=by
    unfold Hid;have e2:jT (L (k+1))=jT (L k)++[.string S]:=by rw[C.out];simp[jT]
    rw[e2];exact ab
   have a9:Hid (β (w.heap.size+1) A I):=E.out.grown a8 v.out (λr e=>(t.out.lt r e).1)
   go_roundw
   case rel =>
    exact⟨k+1,some ⟨g3,0,none⟩,H,by omega,by go_num,rfl,a2.out,a9.out⟩
   case measure=>simp[intOf];omega
  .have a6:k=n:=by omega
   subst a6;have f:wr.heap[w.heap.size]?=some (.cells #[c,p,b] 67 (0,0)):=by rw[o.block _ (by omega)];exact X.out
   have y0:wr.cell? ⟨w,0,none⟩=some (c:υ):=by rw[cell_of_row _ _ _ _ _ _ f];rfl
   have y1:wr.cell? ⟨w,1,none⟩=some (p:υ):=by rw[cell_of_row _ _ _ _ _ _ f];rfl
   have y2:wr.cell? ⟨w,2,none⟩=some (b:υ):=by rw[cell_of_row _ _ _ _ _ _ f];rfl
   have x:=ah K;go_wp2_with fail
   refine(q.out wr a cap (ownsRow_base m (jaY _))).mono ?_;rintro e w4 ⟨lt,l,rfl,F,ad⟩;have a7:Hid (lQ w.heap.size w4 lt l T):=⟨F.1,ownsRow_base F.2 x.out.size⟩;go_wp2
   go_ret2
   exact⟨lt,l,rfl,a7.out,(x.out.trans (ad.mono x.out.size))⟩
def jg(a:List (Int × Int))(e:Int × Int)(j:Nat):Bool:=(a.take j).any λx=>decide (e.1=2/\x=e)
def LQ(a:List (Int × Int))(e:Int × Int)(j:Nat)(b:j<a.length):jg a e (j+1)=(jg a e j||decide (e.1=2/\a.getD j (0,0)=e)):=by
 unfold jg
 have:a.take (j+1)=a.take j++[a.getD j (0,0)]:=by
  simp_all
 rw[this];simp
def LP(a:List (Int × Int))(e:Int × Int):jg a e a.length=decide (e.1=2/\e∈a):=by
 unfold jg;rw[jaD]
 constructor
 .simp_all
 .simp_all
def Qp{w:ω}{B a e size n:Nat}{v:υ}{b:List υ}(h:w.ownsRow a e size v n b)(i:B<=a):w.ownsRow B e size v n b:=by
 refine⟨h.1,?_⟩;rcases h.2 with f|⟨g2,g,c,d,j,r⟩
 .exact .inl f
 .exact .inr ⟨g2,g,c,d,by omega,r⟩
structure oC(B:Nat)(w:ω)(v:υ)(acc:List (Int × Int)):Prop where
 own:w.ownsRow B 168 2 v acc.length (jB acc)
def oC.below{B:Nat}{w a:ω}{v:υ}{b:List (Int × Int)}(h:oC B w v b)(c:β w w a):oC B a v b :=
 ⟨uh h.own (λq e=>c.block q (h.own.lt q e).2)⟩
def oC.ents{B:Nat}{w:ω}{v:υ}{b:List (Int × Int)}(h:oC B w v b):∃ a cap,v=.slice a b.length cap/\lK w a b.length b:=by
 have c:=h.own;rcases c.2 with⟨f,j⟩|⟨g,i,k,d,_⟩
 .have e  := List.length_eq_zero_iff.1 j
  subst e;exact⟨O,0,f,zT _⟩
 .rw[d] at c
  exact⟨_,i,d,uQ c _ (by rw[jar (by rw[pX];omega)]) (ja1 _) rfl⟩
def UH(c p b:Int)(i:Option Addr)(len cap:Nat)(a:List ByteArray)(w:ω)(f:HV.ok ⟨c,p,b⟩=false) :
  κ Tryz.prog 155 #[.agg #[c,p,b],.slice i len cap] w λe d =>
   ∃ lt g,e=.returned (.tuple #[.slice lt (dO ⟨c,p,b⟩ a).length g,fP ⟨c,p,b⟩ a])/\lQ w.heap.size d lt g (dO ⟨c,p,b⟩ a)/\β w w d:=by
 have j:kV ⟨c,p,b⟩ a=false:=by unfold kV;rw[f];rfl
 obtain⟨k,m⟩:=yU j;rw[k,m];have h:HV.fault _=1:=if_neg (by rw[f];decide)
 have n:Hid _:=λW=>by have:=o8 c p b W;rw[h] at this;exact this
 go_enter Tryz.func155,Tryz.ntmps155
 go_wp2_with fail
 refine cEq (n.out _) λo l=>?_
 go_wp2
 go_ret2
 exact⟨O,0,rfl,pJ _ _,((ja0 _ _).alloc (ja1 _) _).trans (l.mono (by simp))⟩
def UK(c p b:Int)(g:Option Addr)(len cap:Nat)(a:List ByteArray)(w:ω)(r:Texts w g len a)(d:HV.ok ⟨c,p,b⟩=true)(m:len≠ay c.toNat) :
  κ Tryz.prog 155 #[.agg #[c,p,b],.slice g len cap] w λe f =>
   ∃ lt i,e=.returned (.tuple #[.slice lt (dO ⟨c,p,b⟩ a).length i,fP ⟨c,p,b⟩ a])/\lQ w.heap.size f lt i (dO ⟨c,p,b⟩ a)/\β w w f:=by
 have n:kV ⟨c,p,b⟩ a=false:=by unfold kV;rw[d,r.1,decide_eq_false m];rfl
 obtain⟨o,s⟩:=yU n;rw[o,s];have k:HV.fault _=0:=if_pos d;have q:Hid _:=λW=>by have:=o8 c p b W;rw[k] at this;exact this
 obtain⟨g1,g2,_⟩:=HV.dK d;simp only at g1 g2;have j:Hid _:=λW=>by have:=pz c.toNat W (by omega);rw[show((c.toNat:Nat):Int)=c by omega] at this;exact this
 have l:((len:Int) != (ay c.toNat:Int))=true:=by simp;omega
 generalize ay c.toNat=v at j l;go_enter Tryz.func155,Tryz.ntmps155
 go_wp2_with fail
 refine cEq (q.out _) λu h=>?_
 have t:=qA h 0 _ rfl;go_wp2_with (go_at_call 107;refine cSt (j.out _) ?_)
 go_ret2
 exact⟨O,0,rfl,pJ _ _,((ja0 _ _).alloc (ja1 _) _).trans (h.mono (by simp))⟩
def Ud(b:Bool)(a:List (Int × Int))(e:Int × Int):Value.bool b=.bool (b && !jg a e 0):=by cases b<;>rfl
def BO{a x y:Bool}(h:y=x):Value.bool (a && !x)=.bool (a && !y):=by rw[h]
def MH{a y:Bool}(h:y=true):Value.bool false=.bool (a && !y):=by simp_all
def Ui{h:HV}{a:List (Int × Int)}{y0 y1:Int}(b:(a.length:Int)=h.c):stepT h a (y0,y1)=if y0=0/\y1=0 then S a else none:=by
 unfold stepT
 simp_all
def Ul{h:HV}{a:List (Int × Int)}{y0 y1:Int}(b:(a.length:Int)≠h.c):stepT h a (y0,y1)=if (bI y0 y1 h.p && !jg a (y0,y1) a.length)=true then S (a++[(y0,y1)]) else none:=by
 unfold stepT;rw[if_neg b,LP];by_cases d:bI y0 y1 h.p=true/\¬(y0=2/\(y0,y1)∈a)
 .simp_all
 .rw[if_neg d,if_neg]
  intro f
  simp_all
def UJ(c p b:Int)(la:Option Addr)(len cap:Nat)(g:List ByteArray)(w:ω)(hT:Texts w la len g)(bv:len<=20)(hk:HV.ok ⟨c,p,b⟩=true)(hr:len=ay c.toNat) :
    κ Tryz.prog 155 #[.agg #[c,p,b],.slice la len cap] w λe M =>
      ∃ lt cp,e=.returned (.tuple #[.slice lt (dO ⟨c,p,b⟩ g).length cp,fP ⟨c,p,b⟩ g])/\lQ w.heap.size M lt cp (dO ⟨c,p,b⟩ g)/\β w w M:=by
  have hi:kV ⟨c,p,b⟩ g=true:=by unfold kV;rw[hk,hT.1,decide_eq_true hr];rfl
  have ef:HV.fault ⟨c,p,b⟩=0:=if_pos hk;have HC:Hid (∀ W:ω,κ Tryz.prog 33 #[.agg #[c,p,b]] W λe M=>e=.returned (0:Int)/\β W W M):=λW=>by have:=o8 c p b W;rw[ef] at this;exact this
  obtain⟨g1,g2,_⟩:=HV.dK hk;simp only at g1 g2;have HR:Hid (∀ W:ω,κ Tryz.prog 107 #[c] W λe M=>e=.returned (len:Int)/\M=W):=λW=>by have:=pz c.toNat W (by omega);rw[show((c.toNat:Nat):Int)=c by omega,<- hr] at this;exact this
  have HT:=ah hT;have HI:=ah hi;have aD:Hid (g.length=len):=hT.1
  have ab:Hid (∀(j:Nat) (f:Int),f≠0->j<=len->bP ⟨c,p,b⟩ g j=([],f)->dO ⟨c,p,b⟩ g=[]/\fP ⟨c,p,b⟩ g=f):=λj f hf hj e=>by
    obtain⟨x,t⟩:=yV HI.out;have e3:=Iy hf e g.length (by rw[aD.out];exact hj)
    rw[x,t,e3];exact⟨rfl,rfl⟩
  obtain⟨i0,bq,b9,bs,bm⟩:=info_parts tK;clear hk hi ef hT hr;go_enter Tryz.func155,Tryz.ntmps155
  go_wp2_with fail
  refine(HC.out _).mono ?_;rintro e w1 ⟨rfl,al⟩;have x0:=qA al 0 _ rfl;obtain⟨d,a9⟩:∃ d,d=w.alloc (.cells #[c,p,b] 67):=⟨_,rfl⟩
  have HF:Hid (∀ W:ω,β d d W->W.cell? ⟨w,0,none⟩=some (c:υ)/\W.cell? ⟨w,1,none⟩=some (p:υ)/\Texts W la len g/\β w w W):=λW D=>by
    rw[a9] at D;have V:β w w W:=((ja0 _ _).alloc (ja1 _) _).trans (D.mono (by simp))
    exact⟨qA D 0 _ rfl,qA D 1 _ rfl,HT.out.below V,V⟩
  have bo:Hid (β d d w1):=by unfold Hid;rw[a9];exact al
  have bf:Hid (w.heap.size<=d.heap.size):=by unfold Hid;rw[a9];simp
  clear a9 al HT;go_wp2_with (go_at_call 107;refine(HR.out _).mono ?_;rintro e M ⟨rfl,hw⟩;have b8:=hw.symm;subst b8;clear hw)
  clear x0 HC HR;go_loopw [7,8] (λv i wr=>∃ j:Nat,j<=len/\i=.int .i64 j/\(bP ⟨c,p,b⟩ g j).2=0/\(((bP ⟨c,p,b⟩ g j).1.length:Nat):Int)<=c/\oC d.heap.size wr v (bP ⟨c,p,b⟩ g j).1/\β d d wr) (λ_ i _=>len-(intOf i).toNat)
  case atStart=>exact⟨0,ja6 _,rfl,rfl,(by show(0:Int)<=c;omega),⟨jae _ _ _ _⟩,bo.out⟩
  case round =>
    obtain⟨j,hj,rfl,N,hl,z,A⟩:=hrel;obtain⟨Y,Z,dT,Q⟩:=HF.out _ A;by_cases aq:j<len
    . obtain⟨bb,ar,rfl,L,ad⟩:=dT.2 j aq
      unfold maxLen at ad;have j0:(0:Int)<=(j:Int):=by omega
      have R:(j:Int)<(len:Int):=by omega
      have bd:=ah A;by_cases H:(g.getD j ByteArray.empty).size=16
      . have HG:Hid (∀ a2,fD ⟨c,p,b⟩ (bP ⟨c,p,b⟩ g j).1 (g.getD j ByteArray.empty) 8=some a2->bP ⟨c,p,b⟩ g (j+1)=(a2,0)):=λa2 V=>yS N H V
        have HN:Hid (fD ⟨c,p,b⟩ (bP ⟨c,p,b⟩ g j).1 (g.getD j ByteArray.empty) 8=none->dO ⟨c,p,b⟩ g=[]/\fP ⟨c,p,b⟩ g=2):=λV=>ab.out (j+1) 2 (by decide) (by omega) (yR N H V)
        have HO:=ah z
        have aR:Hid (∀ W:ω,β d d W->W.cell? ⟨bb,ar+j,none⟩=some (.string (g.getD j ByteArray.empty))):=λW D=>by
          obtain⟨b2,o2,t,be,_⟩:=(HF.out W D).2.2.1.2 j aq;cases t;exact be
        clear N z A Y Z dT;generalize (bP ⟨c,p,b⟩ g j).1=B at HG HN HO hl;generalize g.getD j ByteArray.empty=s at HG HN aR L ad H;have av:((s.size:Int) != 16)=false:=by simp;omega
        have HS:=ah H;clear H;go_wp2
        clear L av;go_loopw [7,9] (λv k wr=>∃(q:Nat) (a:List (Int × Int)),q<=8/\k=.int .i64 q/\fD ⟨c,p,b⟩ B s q=some a/\(a.length:Int)<=c/\oC d.heap.size wr v a/\β d d wr) (λ_ k _=>8-(intOf k).toNat)
        case atStart=>exact⟨0,B,ja6 _,rfl,rfl,hl,HO.out,bd.out⟩
        case round =>
          obtain⟨q,a,hq,rfl,a8,ap,z,A⟩:=hrel;obtain⟨n,ba⟩:∃ n,n=wr:=⟨wr,rfl⟩;subst ba;have bn:d.heap.size<=n.heap.size:=A.size;by_cases bw:q<8
          . have b4:=yC a8
            have b7:2*q<s.size:=by rw[HS.out];omega
            have bi:2*q+1<s.size:=by rw[HS.out];omega
            have x0:=nT s (2*q) b7;have x1:=nT s (2*q+1) bi
            have I:Hid (fD ⟨c,p,b⟩ B s (q+1)=stepT ⟨c,p,b⟩ a (bAt s (2*q),bAt s (2*q+1))):=by
              unfold Hid;rw[b4];unfold jA;rw[Nat.mul_comm q 2]
            obtain⟨l0,u0⟩:=iP s (2*q);obtain⟨l1,u1⟩:=iP s (2*q+1);generalize bAt s (2*q)=y0 at x0 I l0 u0;generalize bAt s (2*q+1)=y1 at x1 I l1 u1;have j2:(0:Int)<=2*(q:Int):=by omega
            have j3:2*(q:Int)<(s.size:Int):=by omega
            have j4:(2*(q:Int)).toNat=2*q:=by omega
            have j5:(0:Int)<=2*(q:Int)+1:=by omega
            have j6:2*(q:Int)+1<(s.size:Int):=by omega
            have j7:(2*(q:Int)+1).toNat=2*q+1:=by omega
            have L:=aR.out n A;have bl:(n.alloc (.cells #[(0:Int),(0:Int)] 168)).cell? ⟨bb,ar+j,none⟩=some (s:υ):=by rw[jas _ _ _ (ja2 n _ L)];exact L
            have B1:β d d (n.alloc (.cells #[y0,y1] 168)).drew:=(A.alloc bn _).drew;obtain⟨Y,Z,_,Q⟩:=HF.out _ B1;obtain⟨ga,ag,hv,J⟩:=z.ents;subst hv;have a7:=ah z;have a5:=ah B1;have a3:=ah Q;clear z A a8 b4 Q;by_cases X:(a.length:Int)=c
            . obtain⟨f1,f2⟩:=rG X
              have aa:=Ui (h:=⟨c,p,b⟩) (y0:=y0) (y1:=y1) X;by_cases hz:y0=0/\y1=0
              . have K:Hid (fD ⟨c,p,b⟩ B s (q+1)=some a):=by unfold Hid;rw[I.out,aa,if_pos hz]
                obtain⟨z0,z1⟩:=hz;subst z0 z1;clear X aa I J;go_wp2
                go_region
                go_wp2
                go_roundw
                case rel =>
                  have fin:∃(O:Nat) (a1:List (Int × Int)),O<=8/\Value.int .i64 ((q:Int)+1)=.int .i64 O/\fD ⟨c,p,b⟩ B s O=some a1/\(a1.length:Int)<=c/\oC d.heap.size (n.alloc (.cells #[(0:Int),(0:Int)] 168)).drew (.slice ga a.length ag) a1/\β d d (n.alloc (.cells #[(0:Int),(0:Int)] 168)).drew :=
                    ⟨q+1,a,by omega,by go_num,K.out,ap,a7.out.below (((ja0 _ _).alloc (ja1 _) _).drew),a5.out⟩
                  first|exact fin|((repeat apply Exists.intro);exact⟨fin,rfl⟩)
                case measure=>simp[intOf];omega
              . have K:Hid (fD ⟨c,p,b⟩ B s 8=none):=vG (show fD ⟨c,p,b⟩ B s (q+1)=none by rw[I.out,aa,if_neg hz]) 8 (by omega)
                have gp:decide (0<y0+y1)=true:=decide_eq_true (by omega)
                obtain⟨x,t⟩:=HN.out K.out;have C:=ah x;have P:=ah t;clear X aa I J hz x t;go_wp2
                go_region
                go_wp2
                go_ret2
                exact⟨none,0,by rw[C.out,P.out];rfl,by rw[C.out];exact pJ _ _,a3.out⟩
            . obtain⟨f1,f2⟩:=pq X
              have aL:=Ul (h:=⟨c,p,b⟩) (y0:=y0) (y1:=y1) X;have a4:Hid (fD ⟨c,p,b⟩ B s (q+1)=if (bI y0 y1 p && !jg a (y0,y1) a.length)=true then some (a++[(y0,y1)]) else none):=by unfold Hid;rw[I.out,aL]
              have hE:=Eh y0 y1 p (n.alloc (.cells #[y0,y1] 168)).drew;generalize bI y0 y1 p=F at a4 hE;have HE:=ah hE;have aM:=ah J;clear aL I hE J;go_wp2
              go_region
              go_wp2_with fail
              refine HE.out.mono ?_;rintro e o ⟨rfl,a0⟩;have aw:Hid (β d d o):=a5.out.trans (a0.mono a5.out.size);have an:Hid (β n n o):=(((ja0 _ _).alloc (ja1 _) _).drew).trans (a0.mono (by simp))
              have b0:o.cell? ⟨n,0,none⟩=some (y0:υ):=by
                rw[a0.cell (by simp)]
                show(n.alloc _).cell? _=_
                rw[cell_of_row _ _ _ _ _ _ (heap_alloc_new n _)];rfl
              have b1:o.cell? ⟨n,1,none⟩=some (y1:υ):=by
                rw[a0.cell (by simp)]
                show(n.alloc _).cell? _=_
                rw[cell_of_row _ _ _ _ _ _ (heap_alloc_new n _)];rfl
              have bk:=ah (aM.out.below an.out);have bp:Hid (∀ W:ω,β o o W->W.cell? ⟨n,0,none⟩=some (y0:υ)/\W.cell? ⟨n,1,none⟩=some (y1:υ)):=λW D=>⟨by rw[D.cell (ja2 o _ b0)];exact b0,by rw[D.cell (ja2 o _ b1)];exact b1⟩
              clear a0 HE aM Y Z L bl;go_wp2
              go_loopw [11,12] (λokv m wx=>∃ l:Nat,l<=a.length/\m=.int .i64 l/\okv=.bool (F && !jg a (y0,y1) l)/\β o o wx) (λ_ m _=>a.length-(intOf m).toNat)
              case atStart=>exact⟨0,ja6 _,rfl,Ud _ _ _,ja0 _ _⟩
              case round =>
                obtain⟨l,bE,rfl,rfl,E⟩:=hrel;obtain⟨c0,c1⟩:=bp.out _ E;have bA:a.length<=32:=by omega
                by_cases hm:l<a.length
                . obtain⟨b3,o3,e3,h1,h2⟩:=bk.out.2 l hm
                  subst e3;rw[<- E.cell (ja2 o _ h1)] at h1;rw[<- E.cell (ja2 o _ h2)] at h2;have T:=LQ a (y0,y1) l hm;have m0:(0:Int)<=(l:Int):=by omega
                  have m1:(l:Int)<(a.length:Int):=by omega
                  have ac:=ah E;clear E;by_cases hy:y0=2
                  . subst hy
                    by_cases U:a.getD l (0,0)=(2,y1)
                    . have G:jg a (2,y1) (l+1)=true:=by rw[T,decide_eq_true ⟨rfl,U⟩,Bool.or_true]
                      rw[U] at h1 h2;have S:=ah G;clear T G U;go_wp2
                      go_quiet (fail)
                      go_wp2
                      go_roundw
                      case rel =>
                        have fin:∃ y:Nat,y<=a.length/\Value.int .i64 ((l:Int)+1)=.int .i64 y/\Value.bool false=.bool (F && !jg a (2,y1) y)/\β o o (wr.drewN nq):=⟨l+1,by omega,by go_num,MH S.out,below_drewN ac.out _⟩
                        first|exact fin|((repeat apply Exists.intro);exact⟨fin,rfl⟩)
                      case measure=>simp[intOf];omega
                    . have G:jg a (2,y1) (l+1)=jg a (2,y1) l:=by rw[T,decide_eq_false (λe=>U e.2),jbk]
                      have S:=ah G
                      have a6:(a.getD l (0,0)).1≠2\/(a.getD l (0,0)).2≠y1:=by
                        by_cases x:(a.getD l (0,0)).1=2
                        . exact .inr (λt=>U (Prod.ext x t))
                        . exact .inl x
                      clear T G U;generalize (a.getD l (0,0)).1=xk at h1 a6;generalize (a.getD l (0,0)).2=xp at h2 a6;by_cases ae:xk=2
                      . have ao:xp≠y1:=by omega
                        obtain⟨t1,t2⟩:=pq ao;subst ae;clear a6 ao;go_wp2
                        go_quiet (fail)
                        go_wp2
                        go_roundw
                        case rel =>
                          have fin:∃ y:Nat,y<=a.length/\Value.int .i64 ((l:Int)+1)=.int .i64 y/\Value.bool (F && !jg a (2,y1) l)=.bool (F && !jg a (2,y1) y)/\β o o (wr.drewN nq):=⟨l+1,by omega,by go_num,BO S.out,below_drewN ac.out _⟩
                          first|exact fin|((repeat apply Exists.intro);exact⟨fin,rfl⟩)
                        case measure=>simp[intOf];omega
                      . obtain⟨t1,t2⟩:=pq ae
                        clear a6 ae;go_wp2
                        go_quiet (fail)
                        go_wp2
                        go_roundw
                        case rel =>
                          have fin:∃ y:Nat,y<=a.length/\Value.int .i64 ((l:Int)+1)=.int .i64 y/\Value.bool (F && !jg a (2,y1) l)=.bool (F && !jg a (2,y1) y)/\β o o (wr.drewN nq):=⟨l+1,by omega,by go_num,BO S.out,below_drewN ac.out _⟩
                          first|exact fin|((repeat apply Exists.intro);exact⟨fin,rfl⟩)
                        case measure=>simp[intOf];omega
                  . have G:jg a (y0,y1) (l+1)=jg a (y0,y1) l:=by rw[T,decide_eq_false (λe=>hy e.1),jbk]
                    have S:=ah G;obtain⟨t1,t2⟩:=pq hy;clear T G hy;go_wp2
                    go_quiet (fail)
                    go_wp2
                    go_roundw
                    case rel =>
                      have fin:∃ y:Nat,y<=a.length/\Value.int .i64 ((l:Int)+1)=.int .i64 y/\Value.bool (F && !jg a (y0,y1) l)=.bool (F && !jg a (y0,y1) y)/\β o o (wr.drewN nq):=⟨l+1,by omega,by go_num,BO S.out,below_drewN ac.out _⟩
                      first|exact fin|((repeat apply Exists.intro);exact⟨fin,rfl⟩)
                    case measure=>simp[intOf];omega
                . have bh:l=a.length:=by omega
                  subst bh;have ai:Hid (β d d wr):=aw.out.trans (E.mono aw.out.size);have aE:=ah (((a7.out.below an.out).below E).own)
                  cases hX:(F && !jg a (y0,y1) a.length) with
                  | false =>
                    have K:Hid (fD ⟨c,p,b⟩ B s 8=none):=vG (show fD ⟨c,p,b⟩ B s (q+1)=none by rw[a4.out,hX,if_neg (by decide)]) 8 (by omega)
                    obtain⟨x,t⟩:=HN.out K.out;have C:=ah x;have P:=ah t;clear x t a4 E;go_wp2
                    go_ret2
                    exact⟨none,0,by rw[C.out,P.out];rfl,by rw[C.out];exact pJ _ _,(HF.out _ ai.out).2.2.2⟩
                  | true =>
                    have K:Hid (fD ⟨c,p,b⟩ B s (q+1)=some (a++[(y0,y1)])):=by unfold Hid;rw[a4.out,hX,if_pos rfl]
                    have bu:Hid ((wr.alloc (.cells #[y0,y1] 168)).ownsRow d.heap.size 168 2 (.slice ga a.length ag) a.length (jB a)):=aE.out.alloc _;have az:Hid (d.heap.size<=wr.heap.size):=ai.out.size;have ax:Hid (d.heap.size<=(wr.alloc (.cells #[y0,y1] 168)).heap.size):=by unfold Hid;have:=az.out;simp;omega
                    have bt:Hid (jB (a++[(y0,y1)])=jB a++[.int .i64 y0,.int .i64 y1]):=by unfold Hid;simp[jB]
                    clear a4 E;go_wp2_with (at_builtin;go_loud (refine wpList_append_lies _ (by rfl) _ _ 144 (by rfl) d.heap.size 168 i0 (.agg #[(0:Int),(0:Int)]) 2 16 Tryz.underlying144 bq b9 bs bm rfl (by decide) (.slice ga a.length ag) a.length (jB a) (by rfl) bu.out ⟨wr,0,none⟩ 1 1 [y0,y1] (by rfl) (by rfl) (uz _ _ _ _) (λu hu=>by simp at hu;rcases hu with rfl|rfl<;>rfl) (by decide) (by unfold maxLen;omega) (by omega) ax.out (wr.heap.size+1) (by simp) ?_;intro g3 b5 w3 br bj bL bB))
                    go_roundw
                    case rel =>
                      have fin:∃(O:Nat) (a1:List (Int × Int)),O<=8/\Value.int .i64 ((q:Int)+1)=.int .i64 O/\fD ⟨c,p,b⟩ B s O=some a1/\(a1.length:Int)<=c/\oC d.heap.size w3 (.slice (some ⟨g3,0,none⟩) (a.length+1) b5) a1/\β d d w3:=by
                        refine⟨q+1,a++[(y0,y1)],by omega,by go_num,K.out,?_,⟨?_⟩,(ai.out.alloc az.out _).grown bj ax.out (λr e=>(aE.out.lt r e).1)⟩
                        . rw[jak];simp;omega
                        . rw[bt.out,jak];exact br
                      first|exact fin|((repeat apply Exists.intro);exact⟨fin,rfl⟩)
                    case measure=>simp[intOf];omega
          . have b6:q=8:=by omega
            subst b6;have hg:=HG.out a a8;have af:=ah hg;have a7:=ah z;have a5:=ah A;clear hg a8 z A;go_wp2
            go_roundw
            case rel =>
              have fin:∃ R:Nat,R<=len/\Value.int .i64 ((j:Int)+1)=.int .i64 R/\(bP ⟨c,p,b⟩ g R).2=0/\(((bP ⟨c,p,b⟩ g R).1.length:Nat):Int)<=c/\oC d.heap.size n u7 (bP ⟨c,p,b⟩ g R).1/\β d d n:=by
                refine⟨j+1,by omega,by go_num,?_,?_,?_,a5.out⟩
                . rw[af.out]
                . rw[af.out];exact ap
                . rw[af.out];exact a7.out
              first|exact fin|((repeat apply Exists.intro);exact⟨fin,rfl⟩)
            case measure=>simp[intOf];omega
      . obtain⟨x,t⟩:=ab.out (j+1) 1 (by decide) (by omega) (yT N H)
        have C:=ah x;have P:=ah t;have a3:=ah Q;generalize g.getD j ByteArray.empty=s at L ad H;have av:((s.size:Int) != 16)=true:=by simp;omega
        clear x t H N hl z A ab Y Z dT Q;go_wp2
        go_ret2
        exact⟨none,0,by rw[C.out,P.out];rfl,by rw[C.out];exact pJ _ _,a3.out⟩
    . have am:j=g.length:=by rw[aD.out];omega
      obtain⟨x,t⟩:=yV HI.out;rw[<- am] at x t;obtain⟨a,cp,hv,J⟩:=z.ents;subst hv;have P:Hid (fP ⟨c,p,b⟩ g=0):=by unfold Hid;rw[x,N]
      have C:=ah t;have bc:Hid (lQ w.heap.size wr a cp (bP ⟨c,p,b⟩ g j).1):=⟨J,Qp z.own bf.out⟩;have a3:=ah Q;clear z A N hl x t ab am J Y Z dT Q;go_wp2
      go_ret2
      exact⟨a,cp,by rw[C.out,P.out];rfl,by rw[C.out];exact bc.out,a3.out⟩
def UG(c p b:Int)(d:Option Addr)(len cap:Nat)(a:List ByteArray)(w:ω)(h:Texts w d len a)(k:len<=20) :
  κ Tryz.prog 155 #[.agg #[c,p,b],.slice d len cap] w λe g =>
   ∃ lt j,e=.returned (.tuple #[.slice lt (dO ⟨c,p,b⟩ a).length j,fP ⟨c,p,b⟩ a])/\lQ w.heap.size g lt j (dO ⟨c,p,b⟩ a)/\β w w g:=by
 cases f:HV.ok ⟨c,p,b⟩ with
 | false=>exact UH c p b d len cap a w f
 | true =>
  by_cases i:len=ay c.toNat
  .exact UJ c p b d len cap a w h k f i
  .exact UK c p b d len cap a w h f i
