/- Acts that came in: how a list of them lies in memory, how it is read, and whether it is few and short (LightActs). -/
import Derived.Test.YtbohmhacdgckgaaGreatDoorQDevOf
import Derived.ProofKit
import Derived.OpenShut
import Derived.ShutString
import Derived.Deep.Grids
import Derived.BigRegion
set_option linter.all false
set_option maxHeartbeats 1000000
set_option maxRecDepth 100000
namespace Go.Proofs.YtbohmhacdgckgaaGreatDoor
open Go.RowKit renaming Below->β
open Go renaming World->ω, Value->υ, Calls->κ
open Option renaming none->O, some->S
open Go.Proofs.Tryz Go.RowKit Go.ChangeShapes Go.WideShapes
attribute [local go_sem ↓] Go.wp_at_zero Go.wp_at_succ
structure aT where
 kind:ByteArray
 a:Int
 b:Int
 c:Int
 d:Int
 s:ByteArray
 ka:Option Addr
 kl:Nat
 kc:Nat
 ks:List Bool
def aT.none_:aT:=⟨⟨#[]⟩,0,0,0,0,⟨#[]⟩,O,0,0,[]⟩
def aT.cells(x:aT):List Value:=[.string x.kind,.int .i64 x.a,.int .i64 x.b,.int .i64 x.c,.int .i64 x.d,.string x.s,.slice x.ka x.kl x.kc]
structure sJ(w:ω)(x:aT):Prop where
 k1:x.kind.size<=maxLen
 s1:x.s.size<=maxLen
 a1 : -9223372036854775808<=x.a/\x.a<=9223372036854775807
 kl1:x.kl<=maxLen
 keep:Bools w x.ka x.kl x.ks
 kn:x.ka=O->x.kc=0
def lJ(w:ω)(d:Option Addr)(len:Nat)(a:List aT):Prop :=
 a.length=len/\∀ k,k<len->∃ b c,d=S ⟨b,c,O⟩/\w.rangeAt b (c+k*7) (a.getD k aT.none_).cells/\sJ w (a.getD k aT.none_)
def QI{w a:ω}{b o:Nat}{c:List υ}(h:w.rangeAt b o c)(f:β w w a):a.rangeAt b o c:=λj v d=>by
 have:=h j v d
 rw[f.cell (ja2 w _ this)];exact this
theorem lJ.below{w c:ω}{f:Option Addr}{len:Nat}{d:List aT}(h:lJ w f len d)(g:β w w c):lJ c f len d:=by
 refine⟨h.1,λk i=>?_⟩
 obtain⟨b,j,e,l,a⟩:=h.2 k i;exact⟨b,j,e,QI l g,a.k1,a.s1,a.a1,a.kl1,a.keep.below g,a.kn⟩
section
variable {H:Type} {enc:TypeId × Value->H}
def P9{w:ω}{m:Nat}{v:υ}{x:DataW H × List MemPlace}(h:DataW.trod enc prog w 0 (λ_=>true) true m 34 [v]=S x) :
  ∃ c d kc l,v=.slice c d kc/\d<=maxLen/\Bools w c d l/\(c=O->kc=0):=by
 rcases Go.Deep.open_bools underlying34 underlying4 (by kernel_rfl) h with⟨k,_⟩|⟨a,len,cap,Bf,k,_,q,r,_,f⟩
 .have:v=.slice O 0 0:=by simp_all
  exact⟨O,0,0,[],this,by omega,⟨rfl,λj o=>by omega⟩,λ_=>rfl⟩
 .have:v=.slice (S a) len cap:=by simp_all
  refine⟨S a,len,cap,(List.range len).map Bf,this,by omega,⟨by simp,λj o=>?_⟩,λe=>by cases e⟩
  obtain⟨b,i,n⟩:=a;have g:n=none:=by simpa [Addr.add] using World.cell?_spot (f 0 (by omega))
  subst g;refine⟨b,i,rfl,?_⟩;rw[<- Go.WideShapes.add_plain,f j (by omega)]
  simp_all
def PY{w:ω}{N:Nat}{b:List υ}{x:DataW H × List MemPlace}(h:DataW.trod enc prog w 0 (λ_=>true) true N 36 b=some x) :
  ∃ y:aT,b=y.cells/\sJ w y:=by
 obtain⟨J,n,_,_,F,D,a⟩:=jbD underlying36 h;have A:b.length=7:=by rw[F];kernel_rfl
 have g:prog.cellsOf 9=1:=by kernel_rfl
 have c3:prog.cellsOf 3=1:=by kernel_rfl
 have O:prog.cellsOf 34=1:=by kernel_rfl
 match b,A,J,D with
 | [v0,v1,v2,v3,v4,v5,v6],_,[y0,y1,y2,y3,y4,y5,y6],_ =>
  have t:DataW.trod enc prog w 0 (λ_=>true) true n 9 [v0]=some y0:=by simpa [g] using a 0 _ rfl
  have v:DataW.trod enc prog w 0 (λ_=>true) true n 3 [v1]=some y1:=by simpa [c3] using a 1 _ rfl
  have M:DataW.trod enc prog w 0 (λ_=>true) true n 3 [v2]=some y2:=by simpa [c3] using a 2 _ rfl
  have R:DataW.trod enc prog w 0 (λ_=>true) true n 3 [v3]=some y3:=by simpa [c3] using a 3 _ rfl
  have P:DataW.trod enc prog w 0 (λ_=>true) true n 3 [v4]=some y4:=by simpa [c3] using a 4 _ rfl
  have I:DataW.trod enc prog w 0 (λ_=>true) true n 9 [v5]=some y5:=by simpa [g] using a 5 _ rfl
  have L:DataW.trod enc prog w 0 (λ_=>true) true n 34 [v6]=some y6:=by simpa [O] using a 6 _ rfl
  obtain⟨B,c,_,G⟩:=DataW.trod_string underlying9 t;obtain⟨Q,j,_,q⟩:=jbf underlying3 v;obtain⟨S,i,_,_⟩:=jbf underlying3 M;obtain⟨C,k,_,_⟩:=jbf underlying3 R;obtain⟨E,l,_,_⟩:=jbf underlying3 P;obtain⟨U,d,_,K⟩:=DataW.trod_string underlying9 I;obtain⟨o,T,kc,s,z,r,u,m⟩:=P9 L;simp only[List.cons.injEq,and_true] at c j i k l d;subst c j i k l d z;have f:=bounds_i64 q;exact⟨⟨B,Q,S,C,E,U,o,T,kc,s⟩,rfl,G,K,⟨f.1,f.2⟩,r,u,m⟩
def P6{w:ω}{s:Option Addr}{len cap I:Nat}{x:DataW H × List MemPlace}(h:DataW.trod enc prog w 0 (λ_=>true) true I 22 [.slice s len cap]=S x) :
  ∃ F,lJ w s len F/\len<=maxLen:=by
 rcases Go.Deep.open_slice underlying22 h with⟨g,_⟩|⟨a,L,J,m,n,D,Pl,g,_,M,P,z,_,G⟩
 .obtain⟨rfl,rfl,rfl⟩:=g
  exact⟨[],⟨rfl,λk c=>by omega⟩,by omega⟩
 .obtain⟨rfl,rfl,rfl⟩:=g
  have A:prog.cellsOf 36=7:=by kernel_rfl
  subst z
  have:∀ i,i<len->∃ y:aT,(∀ j,j<7->w.cell? (a.add _)=y.cells[j]?)/\sJ w y:=λi O=>by
   obtain⟨N,C,u⟩:=G i (by omega)
   obtain⟨y,rfl,l⟩:=PY u;obtain⟨_,_,d⟩:=jbE C;rw[A] at d;exact⟨y,λj o=>by rw[<- Go.Deep.add_add];exact d j o,l⟩
  refine⟨(List.range len).attach.map λi=>Classical.choose (this i.1 (List.mem_range.1 i.2)),⟨by simp,λk c=>?_⟩,by omega⟩
  have K:=this k c
  have e:((List.range len).attach.map λi=>Classical.choose (this i.1 (List.mem_range.1 i.2))).getD k aT.none_=Classical.choose (this k c):=by
   simp_all
  rw[e];obtain⟨d,l⟩:=Classical.choose_spec (this k c);obtain⟨b,f,B⟩:=a;have t:=(Classical.choose_spec (this 0 (by omega))).1 0 (by omega)
  have E:B=none:=by
   simpa [Addr.add] using World.cell?_spot (t.trans rfl)
  subst E;refine⟨b,f,rfl,λj v r=>?_,l⟩
  have o:j<7:=by
   rcases jaq j 7 with q|q
   .exact q
   .rw[jaf (by exact q)] at r;cases r
  have:=d j o
  rw[Go.WideShapes.add_plain,r] at this;rw[show f+k*7+j=f+(k*7+j) by omega];exact this
end
def mX(a:List aT)(b:Nat):Bool:=decide (a.length<=b/\∀ k,k<a.length->(a.getD k aT.none_).s.size<=700/\(a.getD k aT.none_).kl<=300)
def ng{a b:Bool}(h:a=b):Ending.returned a=.returned b:=by rw[h]
def AB(g:Option Addr)(len cap d:Nat)(a:List aT)(w:ω)(f:lJ w g len a)(M:len<=maxLen)(N:d<=100) :
  κ prog 7 #[.slice g len cap,(d:Int)] w λe z=>e=.returned (.bool (mX a d))/\z=w:=by
 obtain⟨E,f⟩:=f;by_cases L:d<len
 .have c:Hid (mX a d=false):=by unfold Hid mX;simp;omega
  go_enter func7,ntmps7
  go_wp2
  go_ret
  exact⟨ng c.out.symm,rfl⟩
 .have J:Hid (∀ k,k<len->∃ b F,g=S _/\w.rangeAt b _ _/\sJ w _):=f
  have l:Hid _:=E;go_enter func7,ntmps7
  go_wp2
  go_loop [5] (λi=>∃ k:Nat,k<=len/\i=.int .i64 k/\∀ j,j<k->(a.getD j aT.none_).s.size<=700/\(a.getD j aT.none_).kl<=300) (λi=>len-(intOf i).toNat)
  case atStart=>exact⟨0,ja6 _,rfl,λj y=>by omega⟩
  case round =>
   obtain⟨k,K,rfl,v⟩:=hrel;by_cases m:k<len
   .obtain⟨b,F,rfl,t,u⟩:=J.out k m
    have G  := t 5 _ rfl;have I  := t 6 _ rfl;have r:=u.s1;have n:=u.kl1;unfold maxLen at r n
    have o:Hid ((a.getD k aT.none_).s.size<=700->(a.getD k aT.none_).kl<=300->∀ j,j<k+1->(a.getD j aT.none_).s.size<=700/\(a.getD j aT.none_).kl<=300):=by
     intro B A j y;by_cases e:j=k
     .rw[e];exact⟨B,A⟩
     .exact v j (by omega)
    have c:Hid ((700<(a.getD k aT.none_).s.size\/300<(a.getD k aT.none_).kl)->mX a d=false):=by
     intro h;unfold mX;simp only[decide_eq_false_iff_not];rintro⟨_,q⟩;have:=q k (by rw[l.out];exact m)
     omega
    generalize a.getD k aT.none_=x at G I r n o c;by_cases C:700<x.s.size
    .have D:decide (700<(x.s.size:Int))=true:=by simp;omega
     go_wp2
     go_ret
     exact⟨ng (c.out (.inl C)).symm,rfl⟩
    .have D:decide (700<(x.s.size:Int))=false:=by simp;omega
     by_cases H:300<x.kl
     .have g3:decide (300<(x.kl:Int))=true:=by simp;omega
      go_wp2
      go_ret
      exact⟨ng (c.out (.inr H)).symm,rfl⟩
     .have g3:decide (300<(x.kl:Int))=false:=by simp;omega
      go_wp2
      go_round
      case rel=>exact⟨k+1,by omega,by go_num,o.out (by omega) (by omega)⟩
      case measure=>simp[intOf];omega
   .have c:Hid (mX a d=true):=by
     unfold Hid mX;simp only[decide_eq_true_eq];exact⟨by rw[l.out];omega,λj y=>v j (by have:=l.out;omega)⟩
    go_wp2
    go_ret
    exact⟨ng c.out.symm,rfl⟩
def Py(w:ω) :
  κ prog 43 #[(16:Int)] w λe f=>e=.returned (.string (bytesOf noughts))/\β w w f:=by
 obtain⟨c,o,h,n,r⟩:=info_parts xE;obtain⟨a,l,d,i⟩:=run_make_full  w _ 185 5 c _ 1 underlying185 o h n .i64 .i64 16 (by omega) (by unfold maxLen;omega) (ja1 _)
 have u:(Instr.makeSlice 185 (.int .i64 16) (.int .i64 16)).run _ w=.ok _ a:=l
 have g:a.rangeAt _ 0 (aY noughts):=λj v b=>by
  have s:j<16:=by
   rcases jaq j 16 with q|q
   .exact q
   .rw[jaf (by exact q)] at b;cases b
  rw[jan,d.cellAt j (by omega)]
  have e:(madeCells (Value.int .u8 0).cells (16*1)).toList=aY noughts:=by
   show(madeCells #[Value.int .u8 0] 16).toList=_
   rw[toList_madeCells_one];rfl
  simp_all
 have t:=uM 16 16 rfl g;have m:Hid _:=((ja0 _ _).grown i (ja1 _) (λk e=>by cases e))
 go_enter func43,ntmps43
 go_wp2
 go_ret
 exact⟨rfl,m.out⟩
structure Rh where
 p:Nat
 bf:Nat
 cf:Nat
 v1:υ
 v2:υ
def flS(l:List (List UInt8)):List Value:=l.map λs=>.string (bytesOf s)
def atS(l:List (Nat × List UInt8)):List Value:=l.map λx=>.int .i64 (x.1:Int)
def whS(l:List (Nat × List UInt8)):List Value:=l.map λx=>.string (bytesOf x.2)
def Rh.fp(q:Rh)(k:Nat):Prop:=k=q.p\/k=q.bf\/q.v1.ownBlock=S k\/q.v2.ownBlock=S k
structure dA(B:Nat)(w:ω)(q:Rh)(d:DV):Prop where
 pB:B<=q.p
 blk:w.heap[q.p]?=S (.cells #[.slice (S ⟨q.bf,0,O⟩) d.fl.length q.cf,q.v1,q.v2,d.fail,(d.wr:Int)] 127 (0,0))
 of:w.ownsRow B 9 1 (.slice (S ⟨q.bf,0,O⟩) d.fl.length q.cf) d.fl.length (flS d.fl)
 o1:w.ownsRow B 3 1 q.v1 d.pend.length (atS d.pend)
 o2:w.ownsRow B 9 1 q.v2 d.pend.length (whS d.pend)
 ne:q.v2.ownBlock≠S q.bf
def uS:(prog.info? 9).map (λi=>(i.zero,i.size,i.bytes))=S (S (.string ⟨#[]⟩),1,16):=by kernel_rfl
def tN:(prog.info? 3).map (λi=>(i.zero,i.size,i.bytes))=S (S (.int .i64 0),1,8):=by kernel_rfl
def dA.keep{B:Nat}{w b:ω}{q:Rh}{d:DV}(hd:dA B w q d)(a:∀ k,q.fp k->b.heap[k]?=w.heap[k]?):dA B b q d :=
 ⟨hd.pB,by rw[a _ (.inl rfl)];exact hd.blk,aZ hd.of (λk e=>a k (.inr (.inl (by simpa [Value.ownBlock] using e.symm)))),aZ hd.o1 (λk e=>a k (.inr (.inr (.inl e)))),aZ hd.o2 (λk e=>a k (.inr (.inr (.inr e)))),hd.ne⟩
theorem dA.lt{B:Nat}{w:ω}{q:Rh}{d:DV}(hd:dA B w q d):∀ k,q.fp k->B<=k/\k<w.heap.size:=by
 intro k a;rcases a with rfl|rfl|a|a
 .exact⟨hd.pB,lt_of_some hd.blk⟩
 .obtain⟨c,f,b,_⟩:=dQ hd.of;exact⟨c,lt_of_some b⟩
 .exact hd.o1.lt k a
 .exact hd.o2.lt k a
def ownsRow_kind{w:ω}{B e size n:Nat}{v:υ}{c:List υ}(h:w.ownsRow B e size v n c)(k:Nat)(a:v.ownBlock=S k):∃ b,w.heap[k]?=S (.cells b e (0,0)):=by
 rcases h.2 with⟨q,_⟩|⟨g,cap,b,q,_,d,_⟩
 .rw[q] at a;cases a
 .rw[q] at a
  have:g=k:=by simpa [Value.ownBlock] using a
  simp_all
def dA.kinds{B:Nat}{w:ω}{q:Rh}{d:DV}(hd:dA B w q d)(k:Nat)(b:q.fp k):∃ a t,w.heap[k]?=S (.cells a t (0,0))/\(t=127\/t=9\/t=3):=by
 rcases b with rfl|rfl|b|b
 .exact⟨_,_,hd.blk,.inl rfl⟩
 .obtain⟨_,a,c,_⟩:=dQ hd.of;exact⟨a,_,c,.inr (.inl rfl)⟩
 .obtain⟨a,c⟩:=ownsRow_kind hd.o1 k b;exact⟨a,_,c,.inr (.inr rfl)⟩
 .obtain⟨a,c⟩:=ownsRow_kind hd.o2 k b;exact⟨a,_,c,.inr (.inl rfl)⟩
def aO.kinds{B:Nat}{w:ω}{h:Hd}{d:DV}(hd:aO B w h d)(k:Nat)(c:h.fp k):∃ a t,w.heap[k]?=S (.cells a t (0,0))/\(t=178\/t=175\/t=180):=by
 rcases c with rfl|rfl|rfl|c
 .exact⟨_,_,hd.blk,.inl rfl⟩
 .obtain⟨_,a,b,_⟩:=dQ hd.of;exact⟨a,_,b,.inr (.inl rfl)⟩
 .obtain⟨_,a,b,_⟩:=dQ hd.os;exact⟨a,_,b,.inr (.inl rfl)⟩
 .obtain⟨a,b⟩:=ownsRow_kind hd.op k c;exact⟨a,_,b,.inr (.inr rfl)⟩
def dA.cells{B:Nat}{w:ω}{q:Rh}{d:DV}(hd:dA B w q d) :
  w.cell? ⟨q.p,0,O⟩=S (.slice (S ⟨q.bf,0,O⟩) d.fl.length q.cf)/\w.cell? ⟨q.p,1,O⟩=S q.v1/\w.cell? ⟨q.p,2,O⟩=S q.v2/\w.cell? ⟨q.p,3,O⟩=S (d.fail:υ)/\w.cell? ⟨q.p,4,O⟩=S (.int .i64 (d.wr:Int))/\∀ j,w.frozen? ⟨q.p,j,O⟩=false:=by
 have a:=hd.blk;refine⟨?_,?_,?_,?_,?_,λj=>frozen_of_row w _ j _ _ a⟩<;>rw[cell_of_row w _ _ _ _ _ a]<;>rfl
def ownsRow_shape{w:ω}{B e size n:Nat}{v:υ}{b:List υ}(h:w.ownsRow B e size v n b):∃ a cap,v=.slice a n cap:=by
 rcases h.2 with⟨i,f⟩|⟨g,cap,c,d,_⟩
 .simp_all
 .simp_all
def nJ{w:ω}{B e n:Nat}{v:υ}{a:List υ}(h:w.ownsRow B e 1 v n a)(k:Nat)(d:k<n):∃ g cap,v=.slice (S ⟨g,0,O⟩) n cap/\w.cell? ⟨g,k,O⟩=a[k]?/\g<w.heap.size/\w.frozen? ⟨g,k,O⟩=false:=by
 obtain⟨g,cap,b,_,c⟩:=h.form (by omega)
 subst b;exact⟨g,cap,rfl,h.cellAt k (by omega),c,h.frozenAt k⟩
def dA.apart{B:Nat}{w:ω}{q:Rh}{d:DV}(hd:dA B w q d):q.bf≠q.p/\q.v1.ownBlock≠S q.p/\q.v2.ownBlock≠S q.p/\q.v1.ownBlock≠S q.bf/\(∀ k,q.v1.ownBlock=S k->q.v2.ownBlock≠S k):=by
 obtain⟨_,j,h,_⟩:=dQ hd.of;have g:=hd.blk;refine⟨λe=>?_,λe=>?_,λe=>?_,λe=>?_,λk c f=>?_⟩
 .simp_all
 .obtain⟨a,b⟩:=ownsRow_kind hd.o1 _ e;simp_all
 .obtain⟨a,b⟩:=ownsRow_kind hd.o2 _ e;simp_all
 .obtain⟨a,b⟩:=ownsRow_kind hd.o1 _ e;simp_all
 .obtain⟨c1,l⟩:=ownsRow_kind hd.o1 _ c
  obtain⟨c2,i⟩:=ownsRow_kind hd.o2 _ f
  simp_all
def zh{a b:ByteArray}(h:a=b):Value.string a=Value.string b:=by rw[h]
def lastTo(d:DV)(i:Nat):Nat->List UInt8
 | 0=>d.fl.getD i []
 | k+1=>if (d.pend.getD k (0,[])).1=i then (d.pend.getD k (0,[])).2 else lastTo d i k
def EY{d:DV}{i k:Nat}(e:(d.pend.getD k (0,[])).1=i):lastTo d i (k+1)=(d.pend.getD k (0,[])).2:=by
 show(if _ then _ else _)=_
 rw[if_pos e]
def EX{d:DV}{i k:Nat}(e:¬(d.pend.getD k (0,[])).1=i):lastTo d i (k+1)=lastTo d i k:=by
 show(if _ then _ else _)=_
 rw[if_neg e]
def xu(l:List (List UInt8))(i:Nat)(h:i<l.length):(flS l)[i]?=S (.string (bytesOf (l.getD i []))):=by
 simp[flS,List.getD,ja7 h]
def zy(l:List (Nat × List UInt8))(i:Nat)(h:i<l.length):(atS l)[i]?=S (.int .i64 ((l.getD i (0,[])).1:Int)):=by
 simp[atS,List.getD,ja7 h]
def CO(l:List (Nat × List UInt8))(i:Nat)(h:i<l.length):(whS l)[i]?=S (.string (bytesOf (l.getD i (0,[])).2)):=by
 simp[whS,List.getD,ja7 h]
def uo{B:Nat}{q:Rh}{d:DV}(i:Nat)(w:ω)(hd:dA B w q d)(v:i<d.fl.length)(M:d.pend.length<=1000000000) :
  κ prog 81 #[q.p,(i:Int)] w λe D=>e=.returned (.string (bytesOf (lastTo d i d.pend.length)))/\D=w:=by
 obtain⟨I,c1,c2,c3,c4,J⟩:=hd.cells;obtain⟨F,C,m⟩:=ownsRow_shape hd.o1;obtain⟨z,y,g⟩:=ownsRow_shape hd.o2;have c:=hd.of.cellAt i (by omega)
 rw[xu _ _ v] at c;have o:Hid (dA B w q d):=hd;have A:Hid (q.v1=.slice F d.pend.length C):=m;have E:Hid (q.v2=.slice z d.pend.length y):=g;rw[m] at c1;rw[g] at c2;have s:lastTo d i 0=d.fl.getD i []:=rfl;rw[<- s] at c;generalize t:lastTo d i 0=H at c;have u:Hid _:=t;go_enter func81,ntmps81
 go_wp2
 go_loop [5,6] (λx i'=>∃ k:Nat,k<=d.pend.length/\i'=.int .i64 k/\x=.string (bytesOf (lastTo d i k))) (λ_ i'=>d.pend.length-(intOf i').toNat)
 case atStart=>exact⟨0,ja6 _,rfl,zh (by rw[u.out])⟩
 case round =>
  obtain⟨k,K,rfl,rfl⟩:=hrel;by_cases a:k<d.pend.length
  .obtain⟨g1,G,f,n,_⟩:=nJ o.out.o1 k a
   obtain⟨g2,L,l,q2,_⟩:=nJ o.out.o2 k a;rw[A.out] at f;rw[E.out] at l;cases f
   cases l
   rw[zy _ _ a] at n;rw[CO _ _ a] at q2;have h:Hid ((d.pend.getD k (0,[])).1=i->lastTo d i (k+1)=(d.pend.getD k (0,[])).2):=λe=>EY e
   have b:Hid (¬(d.pend.getD k (0,[])).1=i->lastTo d i (k+1)=lastTo d i k):=λe=>EX e
   generalize d.pend.getD k (0,[])=x at n q2 h b;generalize lastTo d i k=Lk at b |-;by_cases j:x.1=i
   .go_wp2
    go_round
    case rel=>exact⟨k+1,by omega,by go_num,zh (by rw[h.out j])⟩
    case measure=>simp[intOf];omega
   .go_wp2
    go_round
    case rel=>exact⟨k+1,by omega,by go_num,zh (by rw[b.out j])⟩
    case measure=>simp[intOf];omega
  .have r:k=d.pend.length:=by omega
   subst r;go_wp2
   go_ret
   exact⟨rfl,rfl⟩
def Dn(a b:List UInt8):bytesOf a++bytesOf b=bytesOf (a++b):=by
 apply jbj
 simp[bytesOf]
def Rn{B:Nat}{q:Rh}{d:DV}(w:ω)(hd:dA B w q d)(u:d.fl.length<=200)(l:∀ s∈d.fl,s.length=16) :
  κ prog 145 #[q.p] w λe i=>e=.returned (.string (bytesOf d.fl.flatten))/\i=w:=by
 obtain⟨A,c1,c2,c3,c4,v⟩:=hd.cells;have t:Hid (dA B w q d):=hd;have f:Hid (∀ s∈d.fl,s.length=16):=l;go_enter func145,ntmps145
 go_wp2
 go_loop [3,4] (λx i'=>∃ k:Nat,k<=d.fl.length/\i'=.int .i64 k/\x=.string (bytesOf (d.fl.take k).flatten)) (λ_ i'=>d.fl.length-(intOf i').toNat)
 case atStart=>exact⟨0,ja6 _,rfl,rfl⟩
 case round =>
  obtain⟨k,r,rfl,rfl⟩:=hrel;by_cases a:k<d.fl.length
  .have c:=t.out.of.cellAt k (by omega)
   rw[xu _ _ a] at c
   have o:∀ j,j<=d.fl.length->(d.fl.take j).flatten.length=j*16:=λj z=>by
    have:=rZ (d.fl.take j) (λs n=>f.out s (jbn n))
    rw[yH,ni,jaI] at this;omega
   have b:Hid (bytesOf (d.fl.take k).flatten++bytesOf (d.fl.getD k [])=bytesOf (d.fl.take (k+1)).flatten):=by
    unfold Hid;have e:d.fl.getD k []=d.fl[k]:=by simp[List.getD,ja7 a]
    rw[Dn,jay a,List.flatten_append,e,List.flatten_singleton]
   have h:(bytesOf (d.fl.take k).flatten).size<=3200:=by
    show(d.fl.take k).flatten.toArray.size<=3200
    rw[jaC,o k r];omega
   have m:(bytesOf (d.fl.getD k [])).size<=16:=by
    show(d.fl.getD k []).toArray.size<=16
    rw[jaC,ja5,ja7 a];exact Nat.le_of_eq (f.out _ (jab a))
   generalize bytesOf _=y at c b m;generalize bytesOf _=x at b h |-;go_wp2
   go_round
   case rel=>exact⟨k+1,by omega,by go_num,zh b.out⟩
   case measure=>simp[intOf];omega
  .have g:k=d.fl.length:=by omega
   subst g;rw[jar _];go_wp2
   go_ret
   exact⟨rfl,rfl⟩
def dA.oM{B:Nat}{w:ω}{q:Rh}{d a:DV}(hd:dA B w q d)(b v2:υ)(i:Nat)(u:υ)(c:a.fl=d.fl)
  (s:(#[.slice (S ⟨q.bf,0,O⟩) d.fl.length q.cf,q.v1,q.v2,d.fail,(d.wr:Int)]:Array υ).setIfInBounds i u = #[.slice (S ⟨q.bf,0,O⟩) d.fl.length q.cf,b,v2,.int .i64 a.fail,.int .i64 (a.wr:Int)])
  (g:w.ownsRow B 3 1 b a.pend.length (atS a.pend)) (f:w.ownsRow B 9 1 v2 a.pend.length (whS a.pend)) (l:v2.ownBlock≠S q.bf):dA B (w.setCell ⟨q.p,i,O⟩ u) {q with v1:=b,v2:=v2} a:=by
 have j:=hd.blk
 have o:∀ k,b.ownBlock=S k->k≠q.p:=λk e n=>by
  obtain⟨h,m⟩:=ownsRow_kind g k e;simp_all
 have r:∀ k,v2.ownBlock=S k->k≠q.p:=λk e n=>by
  obtain⟨h,m⟩:=ownsRow_kind f k e;simp_all
 refine⟨hd.pB,?_,?_,aZ g (λk e=>heap_setCell_other _ _ _ _ (o k e)),aZ f (λk e=>heap_setCell_other _ _ _ _ (r k e)),l⟩
 .rw[c]
  rw[heap_setCell_same w q.p i _ _ u j,s]
 .rw[c];exact aZ hd.of (λk e=>heap_setCell_other _ _ _ _ (by
   have:q.bf=k:=by simpa [Value.ownBlock] using e
   rw[<- this];exact hd.apart.1))
theorem dA.failing{B:Nat}{w:ω}{q:Rh}{d:DV}(hd:dA B w q d)(n:Int):dA B (w.setCell ⟨q.p,3,O⟩ n) q (d.failing n) :=
 hd.oM q.v1 q.v2 3 _ rfl rfl hd.o1 hd.o2 hd.ne
def RD{B:Nat}{q:Rh}{d:DV}(i:Nat)(s:ByteArray)(w:ω)(hd:dA B w q d)(g:s.size=16)(h:i<d.fl.length)(b:d.fail=0) :
  κ prog 109 #[q.p,(i:Int),s] w λe a=>e=.returned (7:Int)/\dA B a q (d.failing (-1))/\Kept q.fp w a:=by
 obtain⟨k,c1,c2,c3,c4,c⟩:=hd.cells;have j:=c 3;rw[b] at c3;have f:Hid _:=hd;have l:decide ((i:Int)<0)=false:=by simp
 go_enter func109,ntmps109
 go_wp2
 go_ret
 exact⟨rfl,f.out.failing (-1),(Kept.refl _ _).setCell (.inl (.inl rfl)) _⟩
structure eH(B:Nat)(w:ω)(q:Rh)(fl:List (List UInt8))(n1:Nat)(l1:List υ)(n2:Nat)(l2:List υ)(fail wr:Int):Prop where
 pB:B<=q.p
 blk:w.heap[q.p]?=S (.cells #[.slice (S ⟨q.bf,0,O⟩) fl.length q.cf,q.v1,q.v2,fail,.int .i64 wr] 127 (0,0))
 of:w.ownsRow B 9 1 (.slice (S ⟨q.bf,0,O⟩) fl.length q.cf) fl.length (flS fl)
 o1:w.ownsRow B 3 1 q.v1 n1 l1
 o2:w.ownsRow B 9 1 q.v2 n2 l2
 ne:q.v2.ownBlock≠S q.bf
def dA.inn{B:Nat}{w:ω}{q:Rh}{d:DV}(h:dA B w q d):eH B w q d.fl d.pend.length (atS d.pend) d.pend.length (whS d.pend) d.fail (d.wr:Int) :=
 ⟨h.pB,h.blk,h.of,h.o1,h.o2,h.ne⟩
def eH.cells{B:Nat}{w:ω}{q:Rh}{fl:List (List UInt8)}{c f:Nat}{b d:List υ}{fail wr:Int}(h:eH B w q fl c b f d fail wr) :
  w.cell? ⟨q.p,1,O⟩=S q.v1/\w.cell? ⟨q.p,2,O⟩=S q.v2/\w.cell? ⟨q.p,4,O⟩=S (.int .i64 wr)/\∀ j,w.frozen? ⟨q.p,j,O⟩=false:=by
 have a:=h.blk;refine⟨?_,?_,?_,λj=>frozen_of_row w q.p j _ _ a⟩<;>rw[cell_of_row w q.p _ _ _ _ a]<;>rfl
def eH.apart{B:Nat}{w:ω}{q:Rh}{fl:List (List UInt8)}{j m:Nat}{i l:List υ}{fail wr:Int}(h:eH B w q fl j i m l fail wr) :
  q.bf≠q.p/\q.v1.ownBlock≠S q.p/\q.v2.ownBlock≠S q.p/\q.v1.ownBlock≠S q.bf/\(∀ k,q.v1.ownBlock=S k->q.v2.ownBlock≠S k)/\q.p<w.heap.size/\q.bf<w.heap.size:=by
 obtain⟨_,o,f,_⟩:=dQ h.of;have c:=h.blk;refine⟨λe=>?_,λe=>?_,λe=>?_,λe=>?_,λk g d=>?_,lt_of_some c,lt_of_some f⟩
 .simp_all
 .obtain⟨a,b⟩:=ownsRow_kind h.o1 _ e;simp_all
 .obtain⟨a,b⟩:=ownsRow_kind h.o2 _ e;simp_all
 .obtain⟨a,b⟩:=ownsRow_kind h.o1 _ e;simp_all
 .obtain⟨c1,r⟩:=ownsRow_kind h.o1 _ g
  obtain⟨c2,n⟩:=ownsRow_kind h.o2 _ d
  simp_all
def eH.app1{B:Nat}{w a:ω}{q:Rh}{fl:List (List UInt8)}{d j:Nat}{f i:List υ}{fail wr:Int}(h:eH B w q fl d f j i fail wr)(C:Obj)(u:υ)(v:υ)
  (g:a.ownsRow B 3 1 v (d+1) (f++[u])) (r:(w.alloc C).grownBy a q.v1.ownBlock) :
  eH B (a.setCell ⟨q.p,1,O⟩ v) {q with v1:=v} fl (d+1) (f++[u]) j i fail wr:=by
 obtain⟨t,x,y,l,z,o,n⟩:=h.apart
 have b:∀ k,k<w.heap.size->q.v1.ownBlock≠S k->a.heap[k]?=w.heap[k]?:=λk b s=>by
  rw[r.block k (by simp;omega) (jaG s),jal _ _ _ b]
 have m  := (b q.p o x).trans h.blk;refine⟨h.pB,?_,?_,?_,?_,h.ne⟩
 .rw[heap_setCell_same a q.p 1 _ _ _ m];rfl
 .exact aZ h.of (λk e=>by
   have:q.bf=k:=by simpa [Value.ownBlock] using e
   subst this
   rw[heap_setCell_other _ _ _ _ t,b _ n l])
 .exact aZ g (λk e=>heap_setCell_other _ _ _ _ (λc=>by
   obtain⟨A,D⟩:=ownsRow_kind g k e
   simp_all))
 .exact aZ h.o2 (λk e=>by
   rw[heap_setCell_other _ _ _ _ (λc=>y (by simp_all)),b _ (h.o2.lt k e).2 (λc=>z k c e)])
def eH.JI{B:Nat}{w b:ω}{q:Rh}{fl:List (List UInt8)}{i a:Nat}{l d:List υ}{fail wr:Int}(h:eH B w q fl i l a d fail wr)(C:Obj)(u:υ)(g cap:Nat)
  (f:b.ownsRow B 9 1 (.slice (S ⟨g,0,O⟩) (a+1) cap) (a+1) (d++[u])) (r:(w.alloc C).grownBy b q.v2.ownBlock) (s:q.v2.ownBlock=S g\/g=w.heap.size+1) :
  eH B (b.setCell ⟨q.p,2,O⟩ (.slice (S ⟨g,0,O⟩) (a+1) cap)) {q with v2:=.slice (S ⟨g,0,O⟩) (a+1) cap} fl i l (a+1) (d++[u]) fail wr:=by
 obtain⟨v,x,z,E,A,o,n⟩:=h.apart
 have c:∀ k,k<w.heap.size->q.v2.ownBlock≠S k->b.heap[k]?=w.heap[k]?:=λk c t=>by
  rw[r.block k (by simp;omega) (jaG t),jal _ _ _ c]
 have m  := (c q.p o z).trans h.blk;refine⟨h.pB,?_,?_,?_,?_,?_⟩
 .rw[heap_setCell_same b q.p 2 _ _ _ m];rfl
 .exact aZ h.of (λk e=>by
   have:q.bf=k:=by simpa [Value.ownBlock] using e
   subst this
   rw[heap_setCell_other _ _ _ _ v,c _ n h.ne])
 .exact aZ h.o1 (λk e=>by
   rw[heap_setCell_other _ _ _ _ (λD=>x (by simp_all)),c _ (h.o1.lt k e).2 (A k e)])
 .exact aZ f (λk e=>heap_setCell_other _ _ _ _ (λD=>by
   obtain⟨F,G⟩:=ownsRow_kind f k e
   simp_all))
 .show S g≠S q.bf
  intro e;have y:g=q.bf:=by simpa using e
  rcases s with j|j
  .exact h.ne (by rw[j,y])
  .omega
theorem eH.wr{B:Nat}{w:ω}{q:Rh}{d:DV}(i:Nat)(s:List UInt8)(h:eH B w q d.fl (d.pend.length+1) (atS d.pend++[.int .i64 (i:Int)]) (d.pend.length+1) (whS d.pend++[.string (bytesOf s)]) d.fail (d.wr:Int)) :
  dA B (w.setCell ⟨q.p,4,O⟩ ((d.wr:Int)+1:Int)) q (d.wrote i s):=by
 obtain⟨f,g,j,l,o,n,m⟩:=h.apart;have b:(d.wrote i s).pend.length=d.pend.length+1:=by show(d.pend++[(i,s)]).length=_;simp
 have c:atS (d.wrote i s).pend=atS d.pend++[.int .i64 (i:Int)]:=by show atS (d.pend++[(i,s)])=_;simp[atS]
 have a:whS (d.wrote i s).pend=whS d.pend++[.string (bytesOf s)]:=by show whS (d.pend++[(i,s)])=_;simp[whS]
 refine⟨h.pB,?_,?_,?_,?_,h.ne⟩
 .rw[heap_setCell_same w q.p 4 _ _ _ h.blk];rfl
 .exact aZ h.of (λk e=>heap_setCell_other _ _ _ _ (by
   have:q.bf=k:=by simpa [Value.ownBlock] using e
   rw[<- this];exact f))
 .rw[b,c];exact aZ h.o1 (λk e=>heap_setCell_other _ _ _ _ (λa=>g (by rw[e];exact congrArg S a)))
 .rw[b,a];exact aZ h.o2 (λk e=>heap_setCell_other _ _ _ _ (λa=>j (by rw[e];exact congrArg S a)))
def eH.grow{B:Nat}{w a:ω}{q:Rh}{fl:List (List UInt8)}{g k:Nat}{f i:List υ}{fail wr:Int}{C:Obj}{row:Option Nat}(h:eH B w q fl g f k i fail wr)(c:(w.alloc C).grownBy a row)(d:row≠S q.p)(j:Nat) :
  a.cell? ⟨q.p,j,O⟩=w.cell? ⟨q.p,j,O⟩/\a.frozen? ⟨q.p,j,O⟩=false:=by
 obtain⟨_,_,_,_,_,b,_⟩:=h.apart;have e:a.heap[q.p]?=w.heap[q.p]?:=by rw[c.block q.p (by simp;omega) (jaG d),jal _ _ _ b]
 exact⟨jad e,by rw[jaF  e];exact frozen_of_row _ _ _ _ _ h.blk⟩
def FT(w:ω)(p:Addr)(u:υ)(x:υ)(t:TypeId):∀ j y,[x][j]?=S y->((w.setCell p u).alloc (.cells #[x] t)).cell? ((⟨w.heap.size,0,O⟩:Addr).add j)=S y:=by
 have a:(w.setCell p u).heap.size=w.heap.size:=by simp_all
 have:=cell_one_new (w.setCell p u) x t
 simp_all
def wG(s:ByteArray):bytesOf s.data.toList=s:=by
 apply jbj
 simp[bytesOf]
def kT(a:List (Nat × List UInt8))(l:List (List UInt8)):Nat->List (List UInt8)
 | 0=>l
 | k+1=>(kT a l k).set (a.getD k (0,[])).1 (a.getD k (0,[])).2
def yM(b:List (Nat × List UInt8))(l:List (List UInt8))(k:Nat):(kT b l k).length=l.length:=by
 induction k with
 | zero=>rfl
 | succ k a=>simp[kT,a]
def DV.sn(d:DV):Prop:=d.seen=kT d.pend d.fl d.pend.length
def Na(l:List (List UInt8))(i:Nat)(s:List UInt8):flS (l.set i s)=(flS l).set i (.string (bytesOf s)):=by
 simp[flS,List.map_set]
def eH.yK{B:Nat}{w:ω}{q:Rh}{fl:List (List UInt8)}{a d:Nat}{b c:List υ}{fail wr:Int}(h:eH B w q fl a b d c fail wr)(i:Nat)(s:List UInt8) :
  eH B (w.setCell ⟨q.bf,i,O⟩ (.string (bytesOf s))) q (fl.set i s) a b d c fail wr:=by
 obtain⟨j,n,o,f,r,m,l⟩:=h.apart;refine⟨h.pB,?_,?_,?_,?_,h.ne⟩
 .rw[heap_setCell_other _ _ _ _ (jaG j),jah];exact h.blk
 .rw[jah,Na];exact(h.of.stored i _).1
 .exact aZ h.o1 (λk e=>heap_setCell_other _ _ _ _ (λg=>f (by simp_all)))
 .exact aZ h.o2 (λk e=>heap_setCell_other _ _ _ _ (λg=>h.ne (by simp_all)))
theorem eH.drew{B:Nat}{w:ω}{q:Rh}{fl:List (List UInt8)}{c d:Nat}{a b:List υ}{fail wr:Int}(h:eH B w q fl c a d b fail wr):eH B w.drew q fl c a d b fail wr :=
 ⟨h.pB,h.blk,h.of,h.o1,h.o2,h.ne⟩
def eH.cell0{B:Nat}{w:ω}{q:Rh}{fl:List (List UInt8)}{c d:Nat}{a b:List υ}{fail wr:Int}(h:eH B w q fl c a d b fail wr):w.cell? ⟨q.p,0,O⟩=S (.slice (S ⟨q.bf,0,O⟩) fl.length q.cf):=by
 rw[cell_of_row w _ _ _ _ _ h.blk];rfl
def eH.emptied{B:Nat}{w:ω}{q:Rh}{d:DV}(b:d.sn)(h:eH B w q (kT d.pend d.fl d.pend.length) d.pend.length (atS d.pend) d.pend.length (whS d.pend) d.fail (d.wr:Int)) :
  dA B ((w.setCell ⟨q.p,1,O⟩ (.slice O 0 0)).setCell ⟨q.p,2,O⟩ (.slice O 0 0)) {q with v1:=.slice O 0 0,v2:=.slice O 0 0} d.flushed:=by
 obtain⟨a,f,j,c,l,i,g⟩:=h.apart;refine⟨h.pB,?_,?_,jae _ _ _ _,jae _ _ _ _,λe=>by cases e⟩
 .show((w.setCell _ _).setCell _ _).heap[q.p]?=S (.cells #[.slice _ d.seen.length _,.slice _ 0 0,.slice _ 0 0,.int _ _,.int _ (d.wr:Int)] _ _)
  rw[heap_setCell_same _ _ 2 _ _ _ (heap_setCell_same w _ 1 _ _ (.slice O 0 0) h.blk),b];rfl
 .show World.ownsRow _ B 9 1 (.slice _ d.seen.length _) d.seen.length (flS d.seen)
  rw[b]
  exact aZ h.of (λk e=>by
   have:q.bf=k:=by simpa [Value.ownBlock] using e
   subst this
   rw[heap_setCell_other _ _ _ _ a,heap_setCell_other _ _ _ _ a])
def yw{B:Nat}{q:Rh}{d:DV}(w:ω)(hd:dA B w q d)(c:d.ok)(E:d.sn) :
  κ prog 110 #[q.p] w λe g=>e=.returned (.tuple #[])/\dA B g {q with v1:=.slice none 0 0,v2:=.slice none 0 0} d.flushed/\Kept q.fp w g:=by
 obtain⟨I,u,H⟩:=ownsRow_shape hd.o1;obtain⟨J,G,z⟩:=ownsRow_shape hd.o2;have s:Hid (q.v1=.slice I d.pend.length u):=H;have n:Hid (q.v2=.slice J d.pend.length G):=z;have A:Hid (eH B w q d.fl d.pend.length (atS d.pend) d.pend.length (whS d.pend) d.fail (d.wr:Int)):=hd.inn;have M:=c.few;have R:=c.few2;have C:Hid (∀ x∈d.pend,x.1<d.fl.length/\x.2.length=16):=c.l3;have D:Hid d.sn:=E;go_enter func110,ntmps110
 go_wp2
 go_loopw [2] (λi wr=>∃ k:Nat,k<=d.pend.length/\i=.int .i64 k/\eH B wr q (kT d.pend d.fl k) d.pend.length (atS d.pend) d.pend.length (whS d.pend) d.fail (d.wr:Int)/\Kept q.fp w wr) (λi _=>d.pend.length-(intOf i).toNat)
 case atStart=>exact⟨0,ja6 _,rfl,A.out,Kept.refl _ _⟩
 case round =>
  obtain⟨k,O,rfl,a,L⟩:=hrel;obtain⟨c1,c2,c4,N⟩:=a.cells;have K:=a.cell0;rw[yM] at K;rw[s.out] at c1;rw[n.out] at c2;have j:Hid (eH B wr q (kT d.pend d.fl k) d.pend.length (atS d.pend) d.pend.length (whS d.pend) d.fail (d.wr:Int)):=a;have f:Hid (Kept q.fp w wr):=L;by_cases b:k<d.pend.length
  .obtain⟨g1,Q,h,l,_⟩:=nJ a.o1 k b
   obtain⟨g2,P,r,q2,_⟩:=nJ a.o2 k b;rw[s.out] at h;rw[n.out] at r;cases h
   cases r
   rw[zy _ _ b] at l;rw[CO _ _ b] at q2
   have F:d.pend.getD k (0,[])∈d.pend:=by
    rw[ja5,ja7 b];exact jab _
   have m:=(C.out _ F).1;have t:Hid (kT d.pend d.fl (k+1)=(kT d.pend d.fl k).set (d.pend.getD k (0,[])).1 (d.pend.getD k (0,[])).2):=rfl;have o:=a.of.cellAt (d.pend.getD k (0,[])).1 (by rw[yM];omega)
   rw[xu _ _ (by rw[yM];exact m)] at o
   have y:=a.of.frozenAt (d.pend.getD k (0,[])).1;generalize d.pend.getD k (0,[])=x at l q2 m t o y;go_wp2
   go_region
   go_wp2
   go_roundw
   case rel =>
    exact⟨k+1,by omega,by go_num,by rw[t.out];exact(j.out.yK x.1 x.2).drew,(f.out.setCell (.inl (.inr (.inl rfl))) _).drew⟩
   case measure=>simp[intOf];omega
  .have v:k=d.pend.length:=by omega
   subst v;go_wp2
   go_end0
   exact⟨rfl,j.out.emptied D.out,(f.out.setCell (.inl (.inl rfl)) _).setCell (.inl (.inl rfl)) _⟩
def MZ(k:Nat):flS (List.replicate (k+1) noughts)=flS (List.replicate k noughts)++[.string (bytesOf noughts)]:=by
 simp[flS,jbo]
structure sK(B:Nat)(w:ω)(N:Nat)(v:υ)(k:Nat)(wr:Int):Prop where
 blk:w.heap[N]?=S (.cells #[v,.slice O 0 0,.slice O 0 0,(-1:Int),.int .i64 wr] 127 (0,0))
 own:w.ownsRow B 9 1 v k (flS (List.replicate k noughts))
def sK.step{B N k:Nat}{w i a:ω}{v:υ}{wr:Int}(h:sK B w N v k wr)(c:β w w i)(C:Obj)(g cap:Nat)
  (f:a.ownsRow B 9 1 (.slice (S ⟨g,0,O⟩) (k+1) cap) (k+1) (flS (List.replicate k noughts)++[.string (bytesOf noughts)])) (n:(i.alloc C).grownBy a v.ownBlock) :
  sK B (a.setCell ⟨N,0,O⟩ (.slice (S ⟨g,0,O⟩) (k+1) cap)) N (.slice (S ⟨g,0,O⟩) (k+1) cap) (k+1) wr/\a.cell? ⟨N,0,O⟩=S v/\a.frozen? ⟨N,0,O⟩=false:=by
 have l:=lt_of_some h.blk
 have m:v.ownBlock≠S N:=λe=>by
  obtain⟨j,b⟩:=ownsRow_kind h.own _ e;rw[h.blk] at b;cases b
 have d:a.heap[N]?=S (.cells #[v,.slice O 0 0,.slice O 0 0,(-1:Int),.int .i64 wr] 127 (0,0)):=by
  rw[n.block N (by have:=c.size;simp;omega) (jaG m),jal _ _ _ (by have:=c.size;omega),c.block N l];exact h.blk
 have o:g≠N:=λe=>by
  obtain⟨_,j,b,_⟩:=dQ f
  simp_all
 refine⟨⟨?_,?_⟩,?_,frozen_of_row _ _ _ _ _ d⟩
 .rw[heap_setCell_same a N 0 _ _ _ d];rfl
 .rw[MZ]
  exact aZ f (λr e=>by
   have:g=r:=by simpa [Value.ownBlock] using e
   subst this
   exact heap_setCell_other _ _ _ _ o)
 .rw[cell_of_row a N _ _ _ _ d];rfl
def FI(n:Nat)(w:ω)(J:1<=n)(R:n<=200) :
    κ prog 36 #[(n:Int)] w λe m =>
      ∃ q:Rh,e=.returned q.p/\dA w.heap.size m q (DV.made (List.replicate n noughts) 0)/\β w w m:=by
  obtain⟨C,H,P,E,F⟩:=info_parts uS;go_enter func36,ntmps36
  go_wp2
  go_loopw [4] (λi wr=>∃(k:Nat) (v:υ),k<=n/\i=.int .i64 k/\sK w.heap.size wr w.heap.size v k 0/\β w w wr) (λi _=>n-(intOf i).toNat)
  case atStart=>exact⟨0,.slice none 0 0,ja6 _,rfl,⟨heap_alloc_new w _,jae _ _ _ _⟩,(ja0 _ _).alloc (ja1 _) _⟩
  case round =>
    obtain⟨k,v,S,rfl,f,x⟩:=hrel;have K:wr.cell? ⟨w,0,none⟩=some v:=by rw[cell_of_row _ _ _ _ _ _ f.blk];rfl
    have s:=lt_of_some f.blk;have b:Hid (sK w.heap.size wr w.heap.size v k 0):=f;have o:Hid (β w w wr):=x;have D:Hid (k+1<=maxLen):=by unfold Hid maxLen;omega
    by_cases Q:k<n
    . go_wp2
      go_region_law (first
        | (refine step_append_lies _ (by rfl) _ _ 44 (by rfl) w.heap.size 9 C (.string ⟨#[]⟩) 1 16 underlying44 H P E F rfl (by decide) v k (flS (List.replicate k noughts)) (by rfl) O.out ⟨c,0,none⟩ 1 1 [.string (bytesOf noughts)] (by rfl) (by rfl) (cell_one_new _ _ _) (λu t=>by simp at t;subst t;rfl) (by decide) D.out (by omega) y.out (c.heap.size+1) (by simp) ?_;intro g cap z l j G N
           have d:=b.out.step h.out _ g cap l j;have T:=d.2.1;have V:=d.2.2;have I:Hid (sK w.heap.size (z.setCell ⟨w,0,none⟩ (.slice (some ⟨g,0,none⟩) (k+1) cap)) w.heap.size (.slice (some ⟨g,0,none⟩) (k+1) cap) (k+1) 0):=d.1;have M:Hid (β w w (z.setCell ⟨w,0,none⟩ (.slice (some ⟨g,0,none⟩) (k+1) cap))):=(((o.out.trans (h.out.mono x.size)).alloc (by omega) _).grown j y.out (λr e=>(b.out.own.lt r e).1)).setCell (ja1 _) _
           clear d l j G N)
        | (go_simp;go_at_call 43;refine cEq (Py _) λc a=>?_
           have L:c.cell? ⟨w,0,none⟩=some v:=by rw[a.cell s];exact K
           have B  := ja9 s a.size;have U:(c.alloc (.cells #[.string (bytesOf noughts)] 9)).cell? ⟨w,0,none⟩=some v:=by rw[jas _ _ _ B];exact L
           have h:Hid (β wr wr c):=⟨a.os,a.tape,a.output,a.size,a.block⟩;have O:Hid ((c.alloc (.cells #[.string (bytesOf noughts)] 9)).ownsRow w.heap.size 9 1 v k (flS (List.replicate k noughts))):=(aZ b.out.own (λr e=>h.out.block r (b.out.own.lt r e).2)).alloc _
           have y:Hid (w.heap.size<=(c.alloc (.cells #[.string (bytesOf noughts)] 9)).heap.size):=by unfold Hid;simp;omega
           clear a))
      all_goals go_wp2
      all_goals exact⟨⟨k+1,_,by omega,by go_num,I.out,M.out⟩,by simp[intOf];omega⟩
    . have A:k=n:=by omega
      subst A;go_wp2
      go_ret
      obtain⟨g,cap,rfl,_,_⟩:=b.out.own.form J;refine⟨⟨w.heap.size,g,cap,.slice none 0 0,.slice none 0 0⟩,rfl,⟨ja1 _,?_,?_,jae _ _ _ _,jae _ _ _ _,λe=>by cases e⟩,o.out⟩
      . show wr.heap[w.heap.size]?=some (.cells #[.slice (some ⟨g,0,none⟩) (List.replicate k noughts).length cap,.slice none 0 0,.slice none 0 0,(-1:Int),((0:Nat):Int)] 127 (0,0))
        rw[jaw];exact b.out.blk
      . show wr.ownsRow w.heap.size 9 1 (.slice (some ⟨g,0,none⟩) (List.replicate k noughts).length cap) (List.replicate k noughts).length (flS (List.replicate k noughts))
        rw[jaw];exact b.out.own
def Om(b:List (Nat × List UInt8))(a:List Bool)(l:List (List UInt8))(k j:Nat)(h:a.length<=k):dV b a l (k+j)=dV b a l k:=by
 induction j with
 | zero=>rfl
 | succ j c =>
  rw[show k+(j+1)=(k+j)+1 by omega,Az (by rw[ja5,jaf (by omega)];rfl),c]
def Jy(l:List (List UInt8)):(flS l).length=l.length:=by simp[flS]
def MW(l:List (List UInt8)):∀ u∈flS l,u.oneCell'=true:=by
 intro u a;obtain⟨x,_,rfl⟩:=List.mem_map.1 a;rfl
def Gs{B:Nat}{q:Rh}{d:DV}(y:Option Addr)(f kc:Nat)(a:List Bool)(w:ω)(hd:dA B w q d)(E:d.ok)(hK:Bools w y f a)(a8:f<=maxLen) :
  κ prog 40 #[q.p,.slice y f kc] w λe T =>
   ∃ R:Rh,e=.returned R.p/\dA w.heap.size T R (DV.made (dV d.pend a d.fl d.pend.length) d.wr)/\β w w T:=by
 unfold maxLen at a8;obtain⟨c0,c1,c2,c3,c4,fz⟩:=hd.cells;obtain⟨a1,S,P⟩:=ownsRow_shape hd.o1;obtain⟨Q,O,o⟩:=ownsRow_shape hd.o2;have a7:Hid (q.v1=.slice a1 d.pend.length S):=P;have ai:Hid (q.v2=.slice Q d.pend.length O):=o;rw[P] at c1;rw[o] at c2;have HD:Hid (dA B w q d):=hd;have HL:Hid (∀ x∈d.pend,x.1<d.fl.length/\x.2.length=16):=E.l3;have HK:Hid (Bools w y f a):=hK;have h1:=E.n1;have ar:=E.n2;have A:q.p<w.heap.size:=(hd.lt q.p (.inl rfl)).2;obtain⟨i2,a5,a6,a4,ac⟩:=info_parts uS;have z:Hid (β w w (w.alloc (.cells #[.slice none 0 0,.slice none 0 0,.slice none 0 0,(-1:Int),(d.wr:Int)] 127))):=(ja0 _ _).alloc (ja1 _) _
 have C:Hid ((w.alloc (.cells #[.slice none 0 0,.slice none 0 0,.slice none 0 0,(-1:Int),(d.wr:Int)] 127)).heap[w.heap.size]?=some (.cells #[.slice none 0 0,.slice none 0 0,.slice none 0 0,(-1:Int),(d.wr:Int)] 127 (0,0))):=heap_alloc_new w _;have I:Hid ((w.alloc (.cells #[.slice none 0 0,.slice none 0 0,.slice none 0 0,(-1:Int),(d.wr:Int)] 127)).heap.size=w.heap.size+1):=by unfold Hid;simp
 have K:Hid (∀ j u,(flS d.fl)[j]?=some u->(w.alloc (.cells #[.slice none 0 0,.slice none 0 0,.slice none 0 0,(-1:Int),(d.wr:Int)] 127)).cell? ((⟨q.bf,0,none⟩:Addr).add j)=some u):=λj u hj=>by
  have:=uZ hd.of j u hj
  rw[jb1 _ _ _ (ja2 w _ this)];exact this
 have aa:Hid (0+d.fl.length<=maxLen):=by unfold Hid maxLen;omega
 have ab:Hid ((flS d.fl).length=d.fl.length*1):=by unfold Hid;rw[Jy];omega
 have a9:(w.alloc (.cells #[.slice none 0 0,.slice none 0 0,.slice none 0 0,(-1:Int),(d.wr:Int)] 127)).cell? ⟨q.p,0,none⟩=some (.slice (some ⟨q.bf,0,none⟩) d.fl.length q.cf):=by rw[z.out.cell A];exact c0
 have D:(w.alloc (.cells #[.slice none 0 0,.slice none 0 0,.slice none 0 0,(-1:Int),(d.wr:Int)] 127)).cell? ⟨w,0,none⟩=some (.slice none 0 0):=by rw[cell_of_row _ _ _ _ _ _ C.out];rfl
 go_enter func40,ntmps40
 go_wp2
 generalize w.alloc (.cells #[.slice none 0 0,.slice none 0 0,.slice none 0 0,(-1:Int),(d.wr:Int)] 127)=H at z C I K a9 D |-;have X:Hid (w.heap.size<=H.drew.heap.size):=by unfold Hid;show _<=H.heap.size;rw[I.out];omega
 have U:Hid (H.drew.heap.size=w.heap.size+1):=I.out;go_region_law (refine step_append_lies _ (by rfl) _ _ 44 (by rfl) w.heap.size 9 i2 (.string ⟨#[]⟩) 1 16 underlying44 a5 a6 a4 ac rfl (by decide) (.slice none 0 0) 0 [] (by rfl) (jae _ _ _ _) ⟨q.bf,0,none⟩ d.fl.length q.cf (flS d.fl) (by rfl) ab.out K.out (MW _) (by omega) aa.out (by omega) X.out (w.heap.size+1) U.out ?_;intro g cap h F a0 ax m;have t:h.heap[w.heap.size]?=some (.cells #[.slice none 0 0,.slice none 0 0,.slice none 0 0,(-1:Int),(d.wr:Int)] 127 (0,0)):=(a0.block w.heap.size (by rw[U.out];omega) (λe=>by cases e)).trans C.out;have nc:=cell_of_row h w.heap.size 0 _ _ _ t;have nf:=frozen_of_row h w.heap.size 0 _ _ t;have Z:Hid (h.heap[w.heap.size]?=some (.cells #[.slice none 0 0,.slice none 0 0,.slice none 0 0,(-1:Int),(d.wr:Int)] 127 (0,0))):=t;clear t)
 all_goals
  go_wp2
  rw[jan,jaL] at F
  have HR:Hid (eH w.heap.size (h.setCell ⟨w,0,none⟩ (.slice (some ⟨g,0,none⟩) d.fl.length cap)) ⟨w.heap.size,g,cap,.slice none 0 0,.slice none 0 0⟩ d.fl 0 [] 0 [] (-1) (d.wr:Int)):=by
   refine⟨ja1 _,?_,?_,jae _ _ _ _,jae _ _ _ _,λe=>by cases e⟩
   .show(h.setCell ⟨w,0,none⟩ (.slice (some ⟨g,0,none⟩) d.fl.length cap)).heap[w.heap.size]?=_
    rw[heap_setCell_same h _ 0 _ _ _ Z.out];rfl
   .exact aZ F (λr e=>by
     have:g=r:=by simpa [Value.ownBlock] using e
     subst this
     exact heap_setCell_other _ _ _ _ (λo=>by
      obtain⟨_,ao,hh,_⟩:=dQ F;have e3:g=w.heap.size:=o
      rw[e3,Z.out] at hh;cases hh))
  have ag:Hid (β w w (h.setCell ⟨w,0,none⟩ (.slice (some ⟨g,0,none⟩) d.fl.length cap))):=(z.out.drew.grown a0 X.out (λr e=>by cases e)).setCell (ja1 _) _
  go_loopw [6] (λi wr=>∃ k:Nat,k<=d.pend.length/\k<=f/\i=.int .i64 k/\eH w.heap.size wr ⟨w.heap.size,g,cap,.slice none 0 0,.slice none 0 0⟩ (dV d.pend a d.fl k) 0 [] 0 [] (-1) (d.wr:Int)/\β w w wr) (λi _=>d.pend.length-(intOf i).toNat)
  case atStart=>exact⟨0,ja6 _,ja6 _,rfl,HR.out,ag.out⟩
  case round =>
   obtain⟨k,hk,av,rfl,v,l⟩:=hrel;have aw:wr.cell? ⟨q.p,1,none⟩=some (.slice a1 d.pend.length S):=by rw[l.cell A];exact c1
   have az:wr.cell? ⟨q.p,2,none⟩=some (.slice Q d.pend.length O):=by rw[l.cell A];exact c2
   have D:=v.cell0;rw[rJ] at D;have b:Hid (eH w.heap.size wr ⟨w.heap.size,g,cap,.slice none 0 0,.slice none 0 0⟩ (dV d.pend a d.fl k) 0 [] 0 [] (-1) (d.wr:Int)):=v;have s:Hid (β w w wr):=l;by_cases m:k<d.pend.length
   .by_cases al:k<f
    .obtain⟨g1,z1,L,W,ae,_⟩:=nJ HD.out.o1 k m
     obtain⟨g2,z2,N,q2,af,_⟩:=nJ HD.out.o2 k m;rw[a7.out] at L;rw[ai.out] at N;cases L
     cases N
     rw[zy _ _ m,<- l.cell (p:=⟨g1,k,none⟩) ae] at W;rw[CO _ _ m,<- l.cell (p:=⟨g2,k,none⟩) af] at q2
     have am:d.pend.getD k (0,[])∈d.pend:=by
      rw[ja5,ja7 m];exact jab _
     have Y:=(HL.out _ am).1;obtain⟨kb,ko,rfl,V⟩:=(HK.out.below l).2 k al;have cf:=v.of.cellAt (d.pend.getD k (0,[])).1 (by rw[rJ];omega)
     rw[xu _ _ (by rw[rJ];exact Y)] at cf
     have ff:=v.of.frozenAt (d.pend.getD k (0,[])).1;have M:Hid (a.getD k false=true->dV d.pend a d.fl (k+1)=(dV d.pend a d.fl k).set (d.pend.getD k (0,[])).1 (d.pend.getD k (0,[])).2):=λe=>DW e
     have ad:Hid (a.getD k false=false->dV d.pend a d.fl (k+1)=dV d.pend a d.fl k):=λe=>Az e
     generalize d.pend.getD k (0,[])=x at W q2 Y cf ff M;have aD:(0:Int)<=(x.1:Int):=by omega
     have aq:(x.1:Int)<(d.fl.length:Int):=by omega
     have ap:(0:Int)<=(k:Int):=by omega
     have an:(k:Int)<(d.pend.length:Int):=by omega
     cases n:a.getD k false with
     | true =>
      rw[n] at V;have J:=M.out n;have G:Hid (dV d.pend a d.fl (k+1)=(dV d.pend a d.fl k).set x.1 x.2):=J;go_wp2
      go_region
      go_wp2
      go_roundw
      case rel =>
       have fin:∃ c:Nat,c<=d.pend.length/\c<=f/\Value.int .i64 ((k:Int)+1)=.int .i64 c/\eH w.heap.size ((wr.setCell ⟨g,x.1,none⟩ (.string (bytesOf x.2))).drew) ⟨w.heap.size,g,cap,.slice none 0 0,.slice none 0 0⟩ (dV d.pend a d.fl c) 0 [] 0 [] (-1) (d.wr:Int)/\β w w ((wr.setCell ⟨g,x.1,none⟩ (.string (bytesOf x.2))).drew) :=
        ⟨k+1,by omega,by omega,by go_num,by rw[G.out];exact(b.out.yK x.1 x.2).drew,(s.out.setCell (dQ b.out.of).1 _).drew⟩
       first|exact fin|((repeat apply Exists.intro);exact⟨fin,rfl⟩)
      case measure=>simp[intOf];omega
     | false =>
      rw[n] at V;have G:Hid (dV d.pend a d.fl (k+1)=dV d.pend a d.fl k):=ad.out n;go_wp2
      go_roundw
      case rel =>
       have fin:∃ c:Nat,c<=d.pend.length/\c<=f/\Value.int .i64 ((k:Int)+1)=.int .i64 c/\eH w.heap.size wr ⟨w.heap.size,g,cap,.slice none 0 0,.slice none 0 0⟩ (dV d.pend a d.fl c) 0 [] 0 [] (-1) (d.wr:Int)/\β w w wr :=
        ⟨k+1,by omega,by omega,by go_num,by rw[G.out];exact b.out,s.out⟩
       first|exact fin|((repeat apply Exists.intro);exact⟨fin,rfl⟩)
      case measure=>simp[intOf];omega
    .have J:Hid (dV d.pend a d.fl d.pend.length=dV d.pend a d.fl k):=by
      unfold Hid;rw[show d.pend.length=k+(d.pend.length-k) by omega,Om _ _ _ _ _ (by rw[HK.out.1];omega)]
     go_wp2
     go_ret
     refine⟨⟨w.heap.size,g,cap,.slice none 0 0,.slice none 0 0⟩,rfl,?_,s.out⟩;rw[J.out];exact⟨b.out.pB,b.out.blk,b.out.of,b.out.o1,b.out.o2,b.out.ne⟩
   .have a3:k=d.pend.length:=by omega
    subst a3;go_wp2
    go_ret
    exact⟨⟨w.heap.size,g,cap,.slice none 0 0,.slice none 0 0⟩,rfl,⟨b.out.pB,b.out.blk,b.out.of,b.out.o1,b.out.o2,b.out.ne⟩,s.out⟩
