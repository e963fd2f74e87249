/- A part. -/
import Derived.Test.YtbohmhacdgckgaaGreatDoorQDevWrite2
set_option linter.all false
set_option maxHeartbeats 2000000
set_option maxRecDepth 100000
namespace Go.Proofs.YtbohmhacdgckgaaGreatDoor
open Go.RowKit renaming Below->β, Hid->χ
open Go renaming World->ω, Value->υ, Calls->κ
open Option renaming none->O, some->S
open Go.Proofs.Tryz Go.RowKit Go.ChangeShapes Go.WideShapes
attribute [local go_sem ↓] Go.wp_at_zero Go.wp_at_succ
def DV.jo(d:DV):DV:=if d.fail = -1 then d else d.failing (d.fail-1)
def DV.Lh(d:DV):d.jo.fl=d.fl:=by unfold DV.jo;split<;>rfl
def DV.Lj(d:DV):d.jo.wr=d.wr:=by unfold DV.jo;split<;>rfl
def P7{B h d}(w)(hd:aS B w h d)(f:0<d.fail) :
  κ prog 177 #[h.p] w λe w'=>e=.returned false/\w'=w.setCell ⟨h.p,4,O⟩ (d.fail-1:Int):=by
 obtain⟨g,c1,c2,c3,c4,b⟩:=hd.cells;have c:=hd.ok.f2;have a:χ ((d.fail-1 == -1)=false):=beq_eq_false_iff_ne.2 (by omega);go_enter func177,ntmps177;go_wp2;go_ret;exact⟨qI a,rfl⟩
def Zt{B h d}(i)(s:ByteArray)(w)(hd:aS B w h d)(o:B<=w)(l:s.size=16)(m:i<d.fl.length)(j:d.wr<1000000000)(q:d.fail≠0) :
  κ prog 105 #[h.p,(i:Int),s] w λe w' =>
   ∃ v,e=.returned .nilIface/\aS B w' {h with v2:=v} (d.jo.wrote i s.data.toList)/\Kept h.fp w w'/\∀ k,v.ownBlock=S k->h.v2.ownBlock=S k\/w<=k:=by
 have n:χ (κ prog 150 #[h.p,(i:Int)] w λe w'=>e=.returned true/\w'=w):=by
  have:=BR (i:Int) w hd
  rw[show d.has (i:Int)=true by unfold DV.has;simp;omega] at *
  exact this
 by_cases g:d.fail = -1
 .have e:d.jo=d:=by unfold DV.jo;rw[if_pos g]
  rw[e];refine(LW i s w w hd o l m j n (P5 w hd g)).mono ?_;rintro e w' ⟨v,rfl,a,b,c⟩;exact⟨v,rfl,a,b,λk f=>by rcases c with c|c<;>rw[c] at f;exact .inl f;right;simp at *;omega⟩
 .have r:=hd.ok.f1;have t:=hd.ok.f2;have e:d.jo=d.failing (d.fail-1):=by unfold DV.jo;rw[if_neg g]
  rw[e];have u:(w.setCell ⟨h.p,4,O⟩ (d.fail-1:Int)).heap.size=w.heap.size:=by simp_all
  refine(LW i s w (w.setCell _ (.int _ (d.fail-1))) (hd.failing (by omega) (by omega)) (by omega) l m j n (P7 w hd (by omega))).mono ?_;rintro e w' ⟨v,rfl,a,b,c⟩;refine⟨v,rfl,a,((Kept.refl _ w).setCell (.inl (.inl rfl)) _).trans b,λk f=>?_⟩;rcases c with c|c<;>rw[c] at f
  .exact .inl f
  .right;simp at *;omega
def chunk(s:ByteArray)(i:Nat):List UInt8:=(s.data.toList.drop (i*16)).take 16
def NP(s n i)(a:s.size=n*16)(b:i<n):(chunk s i).length=16:=by
 have:s.data.toList.length=n*16:=by simpa using a
 simp only[chunk,jay,List.length_drop];omega
structure vN where
 kind:ByteArray
 a:Int
 b:Int
 c:Int
 d:Int
 s:ByteArray
 ka:Option Addr
 kl:Nat
 kc:Nat
 ks:List Bool
def vN.cells(x:vN):List Value:=[.string x.kind,.int .i64 x.a,.int .i64 x.b,.int .i64 x.c,.int .i64 x.d,.string x.s,.slice x.ka x.kl x.kc]
section
variable {H:Type} {enc:TypeId × Value->H}
end
def Uj(w) :
  κ prog 43 #[(16:Int)] w λe w'=>e=.returned (.string (bytesOf noughts))/\β w w w':=by
 obtain⟨b,o,f,n,r⟩:=info_parts BZ;obtain⟨a,i,c,g⟩:=run_make_full  w _ 185 5 b _ 1 underlying185 o f n .i64 .i64 16 (by omega) (by unfold maxLen;omega) (ja1 _);have u:(Instr.makeSlice 185 (.int .i64 16) (.int .i64 16)).run _ w=.ok _ a:=i
 have d:a.rangeAt _ 0 (bM noughts):=λj v m=>by
  have s:j<16:=by
   rcases jav j 16 with q|q
   .exact q
   .rw[jaj (by exact q)] at *;cases m
  rw[jak,c.cellAt j (by omega)]
  have e:(madeCells (Value.int .u8 0).cells (16*1)).toList=bM noughts:=by
   show(madeCells #[Value.int .u8 0] 16).toList=_
   rw[toList_madeCells_one];rfl
  simp_all
 have t:=vT 16 16 rfl d;have l:χ _:=((ja0 _ _).grown g (ja1 _) (λk e=>by cases e));go_enter func43,ntmps43;go_wp2;go_ret;exact⟨rfl,l⟩
structure Rh where
 p:Nat
 bf:Nat
 cf:Nat
 v1:υ
 v2:υ
def flS(l:List (List UInt8)):List Value:=l.map λs=>.string (bytesOf s)
def atS(l:List (Nat × List UInt8)):List Value:=l.map λx=>.int .i64 (x.1:Int)
def whS(l:List (Nat × List UInt8)):List Value:=l.map λx=>.string (bytesOf x.2)
def Rh.fp(q:Rh)(k:Nat):Prop:=k=q.p\/k=q.bf\/q.v1.ownBlock=S k\/q.v2.ownBlock=S k
structure dR(B:Nat)(w:ω)(q:Rh)(d:DV):Prop where
 pB:B<=q.p
 blk:w.heap[q.p]?=S (.cells #[.slice (S ⟨q.bf,0,O⟩) d.fl.length q.cf,q.v1,q.v2,d.fail,(d.wr:Int)] 127 (0,0))
 of:w.ownsRow B 9 1 (.slice (S ⟨q.bf,0,O⟩) d.fl.length q.cf) d.fl.length (flS d.fl)
 o1:w.ownsRow B 3 1 q.v1 d.pend.length (atS d.pend)
 o2:w.ownsRow B 9 1 q.v2 d.pend.length (whS d.pend)
 ne:q.v2.ownBlock≠S q.bf
def wu:(prog.info? 9).map (λi=>(i.zero,i.size,i.bytes))=S (S (.string ⟨#[]⟩),1,16):=by kernel_rfl
def uS:(prog.info? 3).map (λi=>(i.zero,i.size,i.bytes))=S (S (.int .i64 0),1,8):=by kernel_rfl
def dR.keep{B w w' q d}(hd:dR B w q d)(a:∀ k,q.fp k->w'.heap[k]?=w.heap[k]?):dR B w' q d :=
 ⟨hd.pB,by rw[a _ (.inl rfl)];exact hd.blk,bg hd.of (λk e=>a k (.inr (.inl (by simpa [Value.ownBlock] using e.symm)))),bg hd.o1 (λk e=>a k (.inr (.inr (.inl e)))),bg hd.o2 (λk e=>a k (.inr (.inr (.inr e)))),hd.ne⟩
theorem dR.lt{B w q d}(hd:dR B w q d):∀ k,q.fp k->B<=k/\k<w:=by
 intro k a;rcases a with rfl|rfl|a|a
 .exact⟨hd.pB,lt_of_some hd.blk⟩
 .obtain⟨c,f,b,_⟩:=fB hd.of;exact⟨c,lt_of_some b⟩
 .exact hd.o1.lt k a
 .exact hd.o2.lt k a
def ownsRow_kind{w:ω}{B e size n v c}(h:w.ownsRow B e size v n c)(k)(a:v.ownBlock=S k):∃ b,w.heap[k]?=S (.cells b e (0,0)):=by
 rcases h.2 with⟨q,_⟩|⟨g,cap,b,q,_,d,_⟩
 .rw[q] at a;cases a
 .rw[q] at a;have:g=k:=by simpa [Value.ownBlock] using a
  simp_all
def dR.kinds{B w q d}(hd:dR B w q d)(k)(b:q.fp k):∃ a t,w.heap[k]?=S (.cells a t (0,0))/\(t=127\/t=9\/t=3):=by
 rcases b with rfl|rfl|b|b
 .exact⟨_,_,hd.blk,.inl rfl⟩
 .obtain⟨_,a,c,_⟩:=fB hd.of;exact⟨a,_,c,.inr (.inl rfl)⟩
 .obtain⟨a,c⟩:=ownsRow_kind hd.o1 k b;exact⟨a,_,c,.inr (.inr rfl)⟩
 .obtain⟨a,c⟩:=ownsRow_kind hd.o2 k b;exact⟨a,_,c,.inr (.inl rfl)⟩
def aS.kinds{B w h d}(hd:aS B w h d)(k)(c:h.fp k):∃ a t,w.heap[k]?=S (.cells a t (0,0))/\(t=178\/t=175\/t=180):=by
 rcases c with rfl|rfl|rfl|c
 .exact⟨_,_,hd.blk,.inl rfl⟩
 .obtain⟨_,a,b,_⟩:=fB hd.of;exact⟨a,_,b,.inr (.inl rfl)⟩
 .obtain⟨_,a,b,_⟩:=fB hd.os;exact⟨a,_,b,.inr (.inl rfl)⟩
 .obtain⟨a,b⟩:=ownsRow_kind hd.op k c;exact⟨a,_,b,.inr (.inr rfl)⟩
def dR.cells{B w q d}(hd:dR B w q d) :
  w.cell? ⟨q.p,0,O⟩=S (.slice (S ⟨q.bf,0,O⟩) d.fl.length q.cf)/\w.cell? ⟨q.p,1,O⟩=S q.v1/\w.cell? ⟨q.p,2,O⟩=S q.v2/\w.cell? ⟨q.p,3,O⟩=S (d.fail:υ)/\w.cell? ⟨q.p,4,O⟩=S (.int .i64 (d.wr:Int))/\∀ j,w.frozen? ⟨q.p,j,O⟩=false:=by
 have a:=hd.blk;refine⟨?_,?_,?_,?_,?_,λj=>frozen_of_row w _ j _ _ a⟩<;>rw[cell_of_row w _ _ _ _ _ a]<;>rfl
def ownsRow_shape{w:ω}{B e size n v b}(h:w.ownsRow B e size v n b):∃ a cap,v=.slice a n cap:=by
 rcases h.2 with⟨i,f⟩|⟨g,cap,c,d,_⟩
 .simp_all
 .simp_all
def kE{w:ω}{B e n v a}(h:w.ownsRow B e 1 v n a)(k)(d:k<n):∃ g cap,v=.slice (S ⟨g,0,O⟩) n cap/\w.cell? ⟨g,k,O⟩=a[k]?/\g<w/\w.frozen? ⟨g,k,O⟩=false:=by
 obtain⟨g,cap,b,_,c⟩:=h.form (by omega);subst b;exact⟨g,cap,rfl,h.cellAt k (by omega),c,h.frozenAt k⟩
def dR.apart{B w q d}(hd:dR B w q d):q.bf≠q.p/\q.v1.ownBlock≠S q.p/\q.v2.ownBlock≠S q.p/\q.v1.ownBlock≠S q.bf/\(∀ k,q.v1.ownBlock=S k->q.v2.ownBlock≠S k):=by
 obtain⟨_,l,i,_⟩:=fB hd.of;have g:=hd.blk;refine⟨λe=>?_,λe=>?_,λe=>?_,λe=>?_,λk c f=>?_⟩
 .simp_all
 .obtain⟨a,b⟩:=ownsRow_kind hd.o1 _ e;simp_all
 .obtain⟨a,b⟩:=ownsRow_kind hd.o2 _ e;simp_all
 .obtain⟨a,b⟩:=ownsRow_kind hd.o1 _ e;simp_all
 .obtain⟨c1,m⟩:=ownsRow_kind hd.o1 _ c;obtain⟨c2,j⟩:=ownsRow_kind hd.o2 _ f;simp_all
def Eb{a b}(h:a=b):Value.string a=Value.string b:=by rw[h]
def lastTo(d:DV)(i:Nat):Nat->List UInt8
 | 0=>d.fl.getD i []
 | k+1=>if (d.pend.getD k (0,[])).1=i then (d.pend.getD k (0,[])).2 else lastTo d i k
def H8{d i k}(e:(d.pend.getD k (0,[])).1=i):lastTo d i (k+1)=(d.pend.getD k (0,[])).2:=by
 show(if _ then _ else _)=_
 rw[if_pos e]
def H6{d i k}(e:¬(d.pend.getD k (0,[])).1=i):lastTo d i (k+1)=lastTo d i k:=by
 show(if _ then _ else _)=_
 rw[if_neg e]
def BA(l i)(h:i<l.length):(flS l)[i]?=S (.string (bytesOf (l.getD i []))):=by
 simp[flS,List.getD,ja5 h]
def Ak(l i)(h:i<l.length):(atS l)[i]?=S (.int .i64 ((l.getD i (0,[])).1:Int)):=by
 simp[atS,List.getD,ja5 h]
def Ec(l i)(h:i<l.length):(whS l)[i]?=S (.string (bytesOf (l.getD i (0,[])).2)):=by
 simp[whS,List.getD,ja5 h]
def wY{B q d}(i w)(hd:dR B w q d)(y:i<d.fl.length)(L:d.pend.length<=1000000000) :
  κ prog 81 #[q.p,(i:Int)] w λe w'=>e=.returned (.string (bytesOf (lastTo d i d.pend.length)))/\w'=w:=by
 obtain⟨K,c1,c2,c3,c4,F⟩:=hd.cells;obtain⟨C,l,j⟩:=ownsRow_shape hd.o1;obtain⟨D,A,b⟩:=ownsRow_shape hd.o2;have f:=hd.of.cellAt i (by omega);rw[BA _ _ y] at *
 have c:χ (dR B w q d):=hd;have E:χ (q.v1=.slice C d.pend.length l):=j;have s:χ (q.v2=.slice D d.pend.length A):=b;rw[j] at c1;rw[b] at c2;have n:lastTo d i 0=d.fl.getD i []:=rfl;rw[<- n] at f;generalize r:lastTo d i 0=M at f;have v:χ _:=r;go_enter func81,ntmps81;go_wp2;go_loop [5,6] (λx i'=>∃ k:Nat,k<=d.pend.length/\i'=.int .i64 k/\x=.string (bytesOf (lastTo d i k))) (λ_ i'=>d.pend.length-(intOf i').toNat)
 case atStart=>exact⟨0,ja7 _,rfl,Eb (by rw[v.out])⟩
 case round =>
  obtain⟨k,G,rfl,rfl⟩:=hrel;by_cases a:k<d.pend.length
  .obtain⟨g1,I,o,J,_⟩:=kE c.o1 k a;obtain⟨g2,H,z,q2,_⟩:=kE c.o2 k a;rw[E.out] at *
   rw[s.out] at *
   cases o;cases z;rw[Ak _ _ a] at *
   rw[Ec _ _ a] at *
   have t:χ ((d.pend.getD k (0,[])).1=i->lastTo d i (k+1)=(d.pend.getD k (0,[])).2):=λe=>H8 e
   have u:χ (¬(d.pend.getD k (0,[])).1=i->lastTo d i (k+1)=lastTo d i k):=λe=>H6 e
   generalize d.pend.getD k (0,[])=x at *
   generalize lastTo d i k=Lk at *
   by_cases g:x.1=i
   .go_wp2;go_round
    case rel=>exact⟨k+1,by omega,by go_num,Eb (by rw[t.out g])⟩
    case measure=>simp[intOf];omega
   .go_wp2;go_round
    case rel=>exact⟨k+1,by omega,by go_num,Eb (by rw[u.out g])⟩
    case measure=>simp[intOf];omega
  .have m:k=d.pend.length:=by omega
   subst m;go_wp2;go_ret;exact⟨rfl,rfl⟩
def NC(a b):bytesOf a++bytesOf b=bytesOf (a++b):=by
 apply jb8;simp[bytesOf]
def dR.pX{B w q d a}(hd:dR B w q d)(b v2 i u)(c:a.fl=d.fl)
  (t:(#[.slice (S ⟨q.bf,0,O⟩) d.fl.length q.cf,q.v1,q.v2,d.fail,(d.wr:Int)]:Array υ).setIfInBounds i u = #[.slice (S ⟨q.bf,0,O⟩) d.fl.length q.cf,b,v2,.int .i64 a.fail,.int .i64 (a.wr:Int)])
  (g:w.ownsRow B 3 1 b a.pend.length (atS a.pend)) (f:w.ownsRow B 9 1 v2 a.pend.length (whS a.pend)) (m:v2.ownBlock≠S q.bf):dR B (w.setCell ⟨q.p,i,O⟩ u) {q with v1:=b,v2:=v2} a:=by
 have l:=hd.blk
 have r:∀ k,b.ownBlock=S k->k≠q.p:=λk e o=>by
  obtain⟨j,n⟩:=ownsRow_kind g k e;simp_all
 have s:∀ k,v2.ownBlock=S k->k≠q.p:=λk e o=>by
  obtain⟨j,n⟩:=ownsRow_kind f k e;simp_all
 refine⟨hd.pB,?_,?_,bg g (λk e=>heap_setCell_other _ _ _ _ (r k e)),bg f (λk e=>heap_setCell_other _ _ _ _ (s k e)),m⟩
 .rw[c];rw[heap_setCell_same w q.p i _ _ u l,t]
 .rw[c];exact bg hd.of (λk e=>heap_setCell_other _ _ _ _ (by
   have:q.bf=k:=by simpa [Value.ownBlock] using e
   rw[<- this];exact hd.apart.1))
theorem dR.failing{B w q d}(hd:dR B w q d)(n:Int):dR B (w.setCell ⟨q.p,3,O⟩ n) q (d.failing n) :=
 hd.pX q.v1 q.v2 3 _ rfl rfl hd.o1 hd.o2 hd.ne
def VK{B q d}(i)(s:ByteArray)(w)(hd:dR B w q d)(f:s.size=16)(g:i<d.fl.length)(a:d.fail=0) :
  κ prog 109 #[q.p,(i:Int),s] w λe w'=>e=.returned (7:Int)/\dR B w' q (d.failing (-1))/\Kept q.fp w w':=by
 obtain⟨k,c1,c2,c3,c4,b⟩:=hd.cells;have j:=b 3;rw[a] at *
 have c:χ _:=hd;have l:decide ((i:Int)<0)=false:=by simp
 go_enter func109,ntmps109;go_wp2;go_ret;exact⟨rfl,c.failing (-1),(Kept.refl _ _).setCell (.inl (.inl rfl)) _⟩
structure fE(B:Nat)(w:ω)(q:Rh)(fl:List (List UInt8))(n1:Nat)(l1:List υ)(n2:Nat)(l2:List υ)(fail wr:Int):Prop where
 pB:B<=q.p
 blk:w.heap[q.p]?=S (.cells #[.slice (S ⟨q.bf,0,O⟩) fl.length q.cf,q.v1,q.v2,fail,.int .i64 wr] 127 (0,0))
 of:w.ownsRow B 9 1 (.slice (S ⟨q.bf,0,O⟩) fl.length q.cf) fl.length (flS fl)
 o1:w.ownsRow B 3 1 q.v1 n1 l1
 o2:w.ownsRow B 9 1 q.v2 n2 l2
 ne:q.v2.ownBlock≠S q.bf
def dR.inn{B w q d}(h:dR B w q d):fE B w q d.fl d.pend.length (atS d.pend) d.pend.length (whS d.pend) d.fail (d.wr:Int) :=
 ⟨h.pB,h.blk,h.of,h.o1,h.o2,h.ne⟩
def fE.cells{B w q fl c f b d fail wr}(h:fE B w q fl c b f d fail wr) :
  w.cell? ⟨q.p,1,O⟩=S q.v1/\w.cell? ⟨q.p,2,O⟩=S q.v2/\w.cell? ⟨q.p,4,O⟩=S (.int .i64 wr)/\∀ j,w.frozen? ⟨q.p,j,O⟩=false:=by
 have a:=h.blk;refine⟨?_,?_,?_,λj=>frozen_of_row w q.p j _ _ a⟩<;>rw[cell_of_row w q.p _ _ _ _ a]<;>rfl
def fE.apart{B w q fl j m i l fail wr}(h:fE B w q fl j i m l fail wr) :
  q.bf≠q.p/\q.v1.ownBlock≠S q.p/\q.v2.ownBlock≠S q.p/\q.v1.ownBlock≠S q.bf/\(∀ k,q.v1.ownBlock=S k->q.v2.ownBlock≠S k)/\q.p<w/\q.bf<w:=by
 obtain⟨_,o,f,_⟩:=fB h.of;have c:=h.blk;refine⟨λe=>?_,λe=>?_,λe=>?_,λe=>?_,λk g d=>?_,lt_of_some c,lt_of_some f⟩
 .simp_all
 .obtain⟨a,b⟩:=ownsRow_kind h.o1 _ e;simp_all
 .obtain⟨a,b⟩:=ownsRow_kind h.o2 _ e;simp_all
 .obtain⟨a,b⟩:=ownsRow_kind h.o1 _ e;simp_all
 .obtain⟨c1,r⟩:=ownsRow_kind h.o1 _ g;obtain⟨c2,n⟩:=ownsRow_kind h.o2 _ d;simp_all
def fE.app1{B w a q fl d j f i fail wr}(h:fE B w q fl d f j i fail wr)(C u)(v)
  (g:a.ownsRow B 3 1 v (d+1) (f++[u])) (r:(w.alloc C).grownBy a q.v1.ownBlock) :
  fE B (a.setCell ⟨q.p,1,O⟩ v) {q with v1:=v} fl (d+1) (f++[u]) j i fail wr:=by
 obtain⟨t,x,y,l,z,o,n⟩:=h.apart
 have b:∀ k,k<w.heap.size->q.v1.ownBlock≠S k->a.heap[k]?=w.heap[k]?:=λk b s=>by
  rw[r.block k (by simp;omega) (jaM s),jap _ _ _ b]
 have m  := (b q.p o x).trans h.blk;refine⟨h.pB,?_,?_,?_,?_,h.ne⟩
 .rw[heap_setCell_same a q.p 1 _ _ _ m];rfl
 .exact bg h.of (λk e=>by
   have:q.bf=k:=by simpa [Value.ownBlock] using e
   subst this
   rw[heap_setCell_other _ _ _ _ t,b _ n l])
 .exact bg g (λk e=>heap_setCell_other _ _ _ _ (λc=>by
   obtain⟨A,D⟩:=ownsRow_kind g k e
   simp_all))
 .exact bg h.o2 (λk e=>by
   rw[heap_setCell_other _ _ _ _ (λc=>y (by simp_all)),b _ (h.o2.lt k e).2 (λc=>z k c e)])
def fE.uH{B w b q fl i a l d fail wr}(h:fE B w q fl i l a d fail wr)(C u)(g cap)
  (f:b.ownsRow B 9 1 (.slice (S ⟨g,0,O⟩) (a+1) cap) (a+1) (d++[u])) (r:(w.alloc C).grownBy b q.v2.ownBlock) (s:q.v2.ownBlock=S g\/g=w+1) :
  fE B (b.setCell ⟨q.p,2,O⟩ (.slice (S ⟨g,0,O⟩) (a+1) cap)) {q with v2:=.slice (S ⟨g,0,O⟩) (a+1) cap} fl i l (a+1) (d++[u]) fail wr:=by
 obtain⟨v,x,z,E,A,o,n⟩:=h.apart
 have c:∀ k,k<w.heap.size->q.v2.ownBlock≠S k->b.heap[k]?=w.heap[k]?:=λk c t=>by
  rw[r.block k (by simp;omega) (jaM t),jap _ _ _ c]
 have m  := (c q.p o z).trans h.blk;refine⟨h.pB,?_,?_,?_,?_,?_⟩
 .rw[heap_setCell_same b q.p 2 _ _ _ m];rfl
 .exact bg h.of (λk e=>by
   have:q.bf=k:=by simpa [Value.ownBlock] using e
   subst this
   rw[heap_setCell_other _ _ _ _ v,c _ n h.ne])
 .exact bg h.o1 (λk e=>by
   rw[heap_setCell_other _ _ _ _ (λD=>x (by simp_all)),c _ (h.o1.lt k e).2 (A k e)])
 .exact bg f (λk e=>heap_setCell_other _ _ _ _ (λD=>by
   obtain⟨F,G⟩:=ownsRow_kind f k e
   simp_all))
 .show S g≠S q.bf
  intro e;have y:g=q.bf:=by simpa using e
  rcases s with j|j
  .exact h.ne (by rw[j,y])
  .omega
theorem fE.wr{B w q}{d:DV}(i s)(h:fE B w q d.fl (d.pend.length+1) (atS d.pend++[.int .i64 (i:Int)]) (d.pend.length+1) (whS d.pend++[.string (bytesOf s)]) d.fail (d.wr:Int)) :
  dR B (w.setCell ⟨q.p,4,O⟩ ((d.wr:Int)+1:Int)) q (d.wrote i s):=by
 obtain⟨f,g,j,l,o,n,m⟩:=h.apart;have b:(d.wrote i s).pend.length=d.pend.length+1:=by show(d.pend++[(i,s)]).length=_;simp
 have c:atS (d.wrote i s).pend=atS d.pend++[.int .i64 (i:Int)]:=by show atS (d.pend++[(i,s)])=_;simp[atS]
 have a:whS (d.wrote i s).pend=whS d.pend++[.string (bytesOf s)]:=by show whS (d.pend++[(i,s)])=_;simp[whS]
 refine⟨h.pB,?_,?_,?_,?_,h.ne⟩
 .rw[heap_setCell_same w q.p 4 _ _ _ h.blk];rfl
 .exact bg h.of (λk e=>heap_setCell_other _ _ _ _ (by
   have:q.bf=k:=by simpa [Value.ownBlock] using e
   rw[<- this];exact f))
 .rw[b,c];exact bg h.o1 (λk e=>heap_setCell_other _ _ _ _ (λa=>g (by rw[e];exact congrArg S a)))
 .rw[b,a];exact bg h.o2 (λk e=>heap_setCell_other _ _ _ _ (λa=>j (by rw[e];exact congrArg S a)))
def fE.grow{B w a q fl g k f i fail wr C row}(h:fE B w q fl g f k i fail wr)(c:(w.alloc C).grownBy a row)(d:row≠S q.p)(j) :
  a.cell? ⟨q.p,j,O⟩=w.cell? ⟨q.p,j,O⟩/\a.frozen? ⟨q.p,j,O⟩=false:=by
 obtain⟨_,_,_,_,_,b,_⟩:=h.apart;have e:a.heap[q.p]?=w.heap[q.p]?:=by rw[c.block q.p (by simp;omega) (jaM d),jap _ _ _ b]
 exact⟨jab e,by rw[jaI  e];exact frozen_of_row _ _ _ _ _ h.blk⟩
def IW(w:ω)(p u x t):∀ j y,[x][j]?=S y->((w.setCell p u).alloc (.cells #[x] t)).cell? ((⟨w,0,O⟩:Addr).add j)=S y:=by
 have a:(w.setCell p u).heap.size=w.heap.size:=by simp_all
 have:=cell_one_new (w.setCell p u) x t
 simp_all
def xU(s):bytesOf s.data.toList=s:=by
 apply jb8;simp[bytesOf]
def lS(a:List (Nat × List UInt8))(l:List (List UInt8)):Nat->List (List UInt8)
 | 0=>l
 | k+1=>(lS a l k).set (a.getD k (0,[])).1 (a.getD k (0,[])).2
def zN(b l k):(lS b l k).length=l.length:=by
 induction k with
 | zero=>rfl
 | succ k a=>simp[lS,a]
def DV.sn(d:DV):Prop:=d.seen=lS d.pend d.fl d.pend.length
def Qz(l i s):flS (l.set i s)=(flS l).set i (.string (bytesOf s)):=by
 simp[flS,List.map_set]
def fE.zL{B w q fl a d b c fail wr}(h:fE B w q fl a b d c fail wr)(i s) :
  fE B (w.setCell ⟨q.bf,i,O⟩ (.string (bytesOf s))) q (fl.set i s) a b d c fail wr:=by
 obtain⟨j,n,o,f,r,m,l⟩:=h.apart;refine⟨h.pB,?_,?_,?_,?_,h.ne⟩
 .rw[heap_setCell_other _ _ _ _ (jaM j),jal];exact h.blk
 .rw[jal,Qz];exact(h.of.stored i _).1
 .exact bg h.o1 (λk e=>heap_setCell_other _ _ _ _ (λg=>f (by simp_all)))
 .exact bg h.o2 (λk e=>heap_setCell_other _ _ _ _ (λg=>h.ne (by simp_all)))
theorem fE.drew{B w q fl c d a b fail wr}(h:fE B w q fl c a d b fail wr):fE B w.drew q fl c a d b fail wr :=
 ⟨h.pB,h.blk,h.of,h.o1,h.o2,h.ne⟩
def fE.cell0{B w q fl c d a b fail wr}(h:fE B w q fl c a d b fail wr):w.cell? ⟨q.p,0,O⟩=S (.slice (S ⟨q.bf,0,O⟩) fl.length q.cf):=by
 rw[cell_of_row w _ _ _ _ _ h.blk];rfl
def fE.emptied{B w q}{d:DV}(b:d.sn)(h:fE B w q (lS d.pend d.fl d.pend.length) d.pend.length (atS d.pend) d.pend.length (whS d.pend) d.fail (d.wr:Int)) :
  dR B ((w.setCell ⟨q.p,1,O⟩ (.slice O 0 0)).setCell ⟨q.p,2,O⟩ (.slice O 0 0)) {q with v1:=.slice O 0 0,v2:=.slice O 0 0} d.flushed:=by
 obtain⟨a,f,j,c,l,i,g⟩:=h.apart;refine⟨h.pB,?_,?_,jaa _ _ _ _,jaa _ _ _ _,λe=>by cases e⟩
 .show((w.setCell _ _).setCell _ _).heap[q.p]?=S (.cells #[.slice _ d.seen.length _,.slice _ 0 0,.slice _ 0 0,.int _ _,.int _ (d.wr:Int)] _ _)
  rw[heap_setCell_same _ _ 2 _ _ _ (heap_setCell_same w _ 1 _ _ (.slice O 0 0) h.blk),b];rfl
 .show World.ownsRow _ B 9 1 (.slice _ d.seen.length _) d.seen.length (flS d.seen)
  rw[b]
  exact bg h.of (λk e=>by
   have:q.bf=k:=by simpa [Value.ownBlock] using e
   subst this
   rw[heap_setCell_other _ _ _ _ a,heap_setCell_other _ _ _ _ a])
def zo{B q d}(w)(hd:dR B w q d)(c:d.ok)(y:d.sn) :
  κ prog 110 #[q.p] w λe w'=>e=.returned (.tuple #[])/\dR B w' {q with v1:=.slice O 0 0,v2:=.slice O 0 0} d.flushed/\Kept q.fp w w':=by
 obtain⟨E,m,D⟩:=ownsRow_shape hd.o1;obtain⟨F,C,r⟩:=ownsRow_shape hd.o2;have l:χ (q.v1=.slice E d.pend.length m):=D;have j:χ (q.v2=.slice F d.pend.length C):=r;have t:χ (fE B w q d.fl d.pend.length (atS d.pend) d.pend.length (whS d.pend) d.fail (d.wr:Int)):=hd.inn;have I:=c.few;have Q:=c.few2;have u:χ (∀ x∈d.pend,x.1<d.fl.length/\x.2.length=16):=c.l3;have v:χ d.sn:=y;go_enter func110,ntmps110;go_wp2;go_loopw [2] (λi wr=>∃ k:Nat,k<=d.pend.length/\i=.int .i64 k/\fE B wr q (lS d.pend d.fl k) d.pend.length (atS d.pend) d.pend.length (whS d.pend) d.fail (d.wr:Int)/\Kept q.fp w wr) (λi _=>d.pend.length-(intOf i).toNat)
 case atStart=>exact⟨0,ja7 _,rfl,t,Kept.refl _ _⟩
 case round =>
  obtain⟨k,K,rfl,a,H⟩:=hrel;obtain⟨c1,c2,c4,J⟩:=a.cells;have T:=a.cell0;rw[zN] at *
  rw[l.out] at c1;rw[j.out] at c2;have g:χ (fE B wr q (lS d.pend d.fl k) d.pend.length (atS d.pend) d.pend.length (whS d.pend) d.fail (d.wr:Int)):=a;have f:χ (Kept q.fp w wr):=H;by_cases b:k<d.pend.length
  .obtain⟨g1,M,o,N,_⟩:=kE a.o1 k b;obtain⟨g2,L,A,q2,_⟩:=kE a.o2 k b;rw[l.out] at *
   rw[j.out] at *
   cases o;cases A;rw[Ak _ _ b] at *
   rw[Ec _ _ b] at *
   have z:d.pend.getD k (0,[])∈d.pend:=by
    rw[ja6,ja5 b];exact jad _
   have s:=(u _ z).1;have G:χ (lS d.pend d.fl (k+1)=(lS d.pend d.fl k).set (d.pend.getD k (0,[])).1 (d.pend.getD k (0,[])).2):=rfl;have R:=a.of.cellAt (d.pend.getD k (0,[])).1 (by rw[zN];omega);rw[BA _ _ (by rw[zN];exact s)] at *
   have P:=a.of.frozenAt (d.pend.getD k (0,[])).1;generalize d.pend.getD k (0,[])=x at *
   go_wp2;go_region;go_wp2;go_roundw
   case rel =>
    exact⟨k+1,by omega,by go_num,by rw[G.out];exact(g.zL x.1 x.2).drew,(f.setCell (.inl (.inr (.inl rfl))) _).drew⟩
   case measure=>simp[intOf];omega
  .have n:k=d.pend.length:=by omega
   subst n;go_wp2;go_end0
   exact⟨rfl,g.emptied v,(f.setCell (.inl (.inl rfl)) _).setCell (.inl (.inl rfl)) _⟩
def Qy(k):flS (List.replicate (k+1) noughts)=flS (List.replicate k noughts)++[.string (bytesOf noughts)]:=by
 simp[flS,jbj]
structure uz(B:Nat)(w:ω)(N:Nat)(v:υ)(k:Nat)(wr:Int):Prop where
 blk:w.heap[N]?=S (.cells #[v,.slice O 0 0,.slice O 0 0,(-1:Int),.int .i64 wr] 127 (0,0))
 own:w.ownsRow B 9 1 v k (flS (List.replicate k noughts))
def uz.step{B N k w i a v wr}(h:uz B w N v k wr)(b:β w w i)(C)(g cap)
  (d:a.ownsRow B 9 1 (.slice (S ⟨g,0,O⟩) (k+1) cap) (k+1) (flS (List.replicate k noughts)++[.string (bytesOf noughts)])) (n:(i.alloc C).grownBy a v.ownBlock) :
  uz B (a.setCell ⟨N,0,O⟩ (.slice (S ⟨g,0,O⟩) (k+1) cap)) N (.slice (S ⟨g,0,O⟩) (k+1) cap) (k+1) wr/\a.cell? ⟨N,0,O⟩=S v/\a.frozen? ⟨N,0,O⟩=false:=by
 have l:=lt_of_some h.blk
 have m:v.ownBlock≠S N:=λe=>by
  obtain⟨j,f⟩:=ownsRow_kind h.own _ e;rw[h.blk] at *;cases f
 have c:a.heap[N]?=S (.cells #[v,.slice O 0 0,.slice O 0 0,(-1:Int),.int .i64 wr] 127 (0,0)):=by
  rw[n.block N (by have:=b.size;simp;omega) (jaM m),jap _ _ _ (by have:=b.size;omega),b.block N l];exact h.blk
 have o:g≠N:=λe=>by
  obtain⟨_,j,f,_⟩:=fB d;simp_all
 refine⟨⟨?_,?_⟩,?_,frozen_of_row _ _ _ _ _ c⟩
 .rw[heap_setCell_same a N 0 _ _ _ c];rfl
 .rw[Qy]
  exact bg d (λr e=>by
   have:g=r:=by simpa [Value.ownBlock] using e
   subst this
   exact heap_setCell_other _ _ _ _ o)
 .rw[cell_of_row a N _ _ _ _ c];rfl
def II(n:Nat)(w)(I:1<=n)(T:n<=200) :
  κ prog 36 #[(n:Int)] w λe w' =>
   ∃ q,e=.returned q.p/\dR w w' q (DV.made (List.replicate n noughts) 0)/\β w w w':=by
 obtain⟨B,G,Q,D,E⟩:=info_parts wu;go_enter func36,ntmps36;go_wp2;go_loopw [4] (λi wr=>∃(k:Nat) (v:υ),k<=n/\i=.int .i64 k/\uz w.heap.size wr w.heap.size v k 0/\β w w wr) (λi _=>n-(intOf i).toNat)
 case atStart=>exact⟨0,.slice O 0 0,ja7 _,rfl,⟨heap_alloc_new w _,jaa _ _ _ _⟩,(ja0 _ _).alloc (ja1 _) _⟩
 case round =>
  obtain⟨k,v,U,rfl,f,t⟩:=hrel;have J:wr.cell? ⟨w,0,O⟩=S v:=by rw[cell_of_row _ _ _ _ _ _ f.blk];rfl
  have s:=lt_of_some f.blk;have b:χ (uz w.heap.size wr w.heap.size v k 0):=f;have o:χ (β w w wr):=t;have C:χ (k+1<=maxLen):=by unfold χ maxLen;omega
  by_cases R:k<n
  .go_wp2
   go_region_law (first
    | (refine step_append_lies _ (by rfl) _ _ 44 (by rfl) w.heap.size 9 B (.string ⟨#[]⟩) 1 16 underlying44 G Q D E rfl (by decide) v k (flS (List.replicate k noughts)) (by rfl) P ⟨c,0,O⟩ 1 1 [.string (bytesOf noughts)] (by rfl) (by rfl) (cell_one_new _ _ _) (λu L=>by simp at *;subst L;rfl) (by decide) C (by omega) x (c.heap.size+1) (by simp) ?_;intro g cap y m l F N
       have d:=b.step j _ g cap m l;have V:=d.2.1;have X:=d.2.2;have H:χ (uz w.heap.size (y.setCell ⟨w,0,O⟩ (.slice (S ⟨g,0,O⟩) (k+1) cap)) w.heap.size (.slice (S ⟨g,0,O⟩) (k+1) cap) (k+1) 0):=d.1;have M:χ (β w w (y.setCell ⟨w,0,O⟩ (.slice (S ⟨g,0,O⟩) (k+1) cap))):=(((o.trans (j.mono t.size)).alloc (by omega) _).grown l x (λr e=>(b.own.lt r e).1)).setCell (ja1 _) _
       clear d m l F N)
    | (go_simp;go_at_call 43;refine cEq (Uj _) λc a=>?_
       have K:c.cell? ⟨w,0,O⟩=S v:=by rw[a.cell s];exact J
       have A  := ja8 s a.size;have W:(c.alloc (.cells #[.string (bytesOf noughts)] 9)).cell? ⟨w,0,O⟩=S v:=by rw[jas _ _ _ A];exact K
       have j:χ (β wr wr c):=⟨a.os,a.tape,a.output,a.size,a.block⟩;have P:χ ((c.alloc (.cells #[.string (bytesOf noughts)] 9)).ownsRow w.heap.size 9 1 v k (flS (List.replicate k noughts))):=(bg b.own (λr e=>j.block r (b.own.lt r e).2)).alloc _;have x:χ (w.heap.size<=(c.alloc (.cells #[.string (bytesOf noughts)] 9)).heap.size):=by unfold χ;simp;omega
       clear a))
   all_goals go_wp2
   all_goals exact⟨⟨k+1,_,by omega,by go_num,H,M⟩,by simp[intOf];omega⟩
  .have z:k=n:=by omega
   subst z;go_wp2;go_ret;obtain⟨g,cap,rfl,_⟩:=b.own.form I;refine⟨⟨w.heap.size,g,cap,.slice O 0 0,.slice O 0 0⟩,rfl,⟨ja1 _,?_,?_,jaa _ _ _ _,jaa _ _ _ _,λe=>by cases e⟩,o⟩
   .show wr.heap[w.heap.size]?=S (.cells #[.slice (S ⟨g,0,O⟩) (List.replicate k noughts).length cap,.slice O 0 0,.slice O 0 0,(-1:Int),((0:Nat):Int)] 127 (0,0))
    rw[jam];exact b.blk
   .show wr.ownsRow w.heap.size 9 1 (.slice (S ⟨g,0,O⟩) (List.replicate k noughts).length cap) (List.replicate k noughts).length (flS (List.replicate k noughts))
    rw[jam];exact b.own
def Sl(b a l k j)(h:a.length<=k):dX b a l (k+j)=dX b a l k:=by
 induction j with
 | zero=>rfl
 | succ j c =>
  rw[show k+(j+1)=(k+j)+1 by omega,Ce (by rw[ja6,jaj (by omega)];rfl),c]
def Qw(l):(flS l).length=l.length:=by simp[flS]
def Qx(l):∀ u∈flS l,u.oneCell'=true:=by
 intro u a;obtain⟨x,_,rfl⟩:=List.mem_map.1 a;rfl
def Jr{B q d}(z f kc a w)(hd:dR B w q d)(E:d.ok)(hK:Bools w z f a)(a8:f<=maxLen) :
  κ prog 40 #[q.p,.slice z f kc] w λe w' =>
   ∃ Q,e=.returned Q.p/\dR w w' Q (DV.made (dX d.pend a d.fl d.pend.length) d.wr)/\β w w w':=by
 unfold maxLen at a8;obtain⟨c0,c1,c2,c3,c4,fz⟩:=hd.cells;obtain⟨Z,R,N⟩:=ownsRow_shape hd.o1;obtain⟨P,M,s⟩:=ownsRow_shape hd.o2;have a7:χ (q.v1=.slice Z d.pend.length R):=N;have al:χ (q.v2=.slice P d.pend.length M):=s;rw[N] at c1;rw[s] at c2;have HD:χ (dR B w q d):=hd;have HL:χ (∀ x∈d.pend,x.1<d.fl.length/\x.2.length=16):=E.l3;have Y:χ (Bools w z f a):=hK;have h1:=E.n1;have av:=E.n2;have C:q.p<w.heap.size:=(hd.lt q.p (.inl rfl)).2;obtain⟨i2,a5,a6,a4,ac⟩:=info_parts wu;have A:χ (β w w (w.alloc (.cells #[.slice O 0 0,.slice O 0 0,.slice O 0 0,(-1:Int),(d.wr:Int)] 127))):=(ja0 _ _).alloc (ja1 _) _;have D:χ ((w.alloc (.cells #[.slice O 0 0,.slice O 0 0,.slice O 0 0,(-1:Int),(d.wr:Int)] 127)).heap[w.heap.size]?=S (.cells #[.slice O 0 0,.slice O 0 0,.slice O 0 0,(-1:Int),(d.wr:Int)] 127 (0,0))):=heap_alloc_new w _;have I:χ ((w.alloc (.cells #[.slice O 0 0,.slice O 0 0,.slice O 0 0,(-1:Int),(d.wr:Int)] 127)).heap.size=w.heap.size+1):=by unfold χ;simp
 have K:χ (∀ j u,(flS d.fl)[j]?=S u->(w.alloc (.cells #[.slice O 0 0,.slice O 0 0,.slice O 0 0,(-1:Int),(d.wr:Int)] 127)).cell? ((⟨q.bf,0,O⟩:Addr).add j)=S u):=λj u hj=>by
  have:=wK hd.of j u hj
  rw[jbi _ _ _ (ja2 w _ this)];exact this
 have aa:χ (0+d.fl.length<=maxLen):=by unfold χ maxLen;omega
 have ab:χ ((flS d.fl).length=d.fl.length*1):=by unfold χ;rw[Qw];omega
 have a9:(w.alloc (.cells #[.slice O 0 0,.slice O 0 0,.slice O 0 0,(-1:Int),(d.wr:Int)] 127)).cell? ⟨q.p,0,O⟩=S (.slice (S ⟨q.bf,0,O⟩) d.fl.length q.cf):=by rw[A.out.cell C];exact c0
 have L:(w.alloc (.cells #[.slice O 0 0,.slice O 0 0,.slice O 0 0,(-1:Int),(d.wr:Int)] 127)).cell? ⟨w,0,O⟩=S (.slice O 0 0):=by rw[cell_of_row _ _ _ _ _ _ D.out];rfl
 go_enter func40,ntmps40;go_wp2;generalize w.alloc (.cells #[.slice O 0 0,.slice O 0 0,.slice O 0 0,(-1:Int),(d.wr:Int)] 127)=H at A D I K a9 L |-;have V:χ (w.heap.size<=H.drew.heap.size):=by unfold χ;show _<=H.heap.size;rw[I.out];omega
 have T:χ (H.drew.heap.size=w.heap.size+1):=I;go_region_law (refine step_append_lies _ (by rfl) _ _ 44 (by rfl) w.heap.size 9 i2 (.string ⟨#[]⟩) 1 16 underlying44 a5 a6 a4 ac rfl (by decide) (.slice O 0 0) 0 [] (by rfl) (jaa _ _ _ _) ⟨q.bf,0,O⟩ d.fl.length q.cf (flS d.fl) (by rfl) ab K (Qx _) (by omega) aa (by omega) V (w.heap.size+1) T ?_;intro g cap l F a0 az n;have v:l.heap[w.heap.size]?=S (.cells #[.slice O 0 0,.slice O 0 0,.slice O 0 0,(-1:Int),(d.wr:Int)] 127 (0,0)):=(a0.block w.heap.size (by rw[T.out];omega) (λe=>by cases e)).trans D;have nc:=cell_of_row l w.heap.size 0 _ _ _ v;have nf:=frozen_of_row l w.heap.size 0 _ _ v;have W:χ (l.heap[w.heap.size]?=S (.cells #[.slice O 0 0,.slice O 0 0,.slice O 0 0,(-1:Int),(d.wr:Int)] 127 (0,0))):=v;clear v)
 all_goals
  go_wp2;rw[jak,jaP] at F
  have HR:χ (fE w.heap.size (l.setCell ⟨w,0,O⟩ (.slice (S ⟨g,0,O⟩) d.fl.length cap)) ⟨w.heap.size,g,cap,.slice O 0 0,.slice O 0 0⟩ d.fl 0 [] 0 [] (-1) (d.wr:Int)):=by
   refine⟨ja1 _,?_,?_,jaa _ _ _ _,jaa _ _ _ _,λe=>by cases e⟩
   .show(l.setCell ⟨w,0,O⟩ (.slice (S ⟨g,0,O⟩) d.fl.length cap)).heap[w.heap.size]?=_
    rw[heap_setCell_same l _ 0 _ _ _ W.out];rfl
   .exact bg F (λr e=>by
     have:g=r:=by simpa [Value.ownBlock] using e
     subst this
     exact heap_setCell_other _ _ _ _ (λs=>by
      obtain⟨_,ap,X,_⟩:=fB F;have e3:g=w.heap.size:=s
      rw[e3,W.out] at X;cases X))
  have ai:χ (β w w (l.setCell ⟨w,0,O⟩ (.slice (S ⟨g,0,O⟩) d.fl.length cap))):=(A.drew.grown a0 V (λr e=>by cases e)).setCell (ja1 _) _;go_loopw [6] (λi wr=>∃ k:Nat,k<=d.pend.length/\k<=f/\i=.int .i64 k/\fE w.heap.size wr ⟨w.heap.size,g,cap,.slice O 0 0,.slice O 0 0⟩ (dX d.pend a d.fl k) 0 [] 0 [] (-1) (d.wr:Int)/\β w w wr) (λi _=>d.pend.length-(intOf i).toNat)
  case atStart=>exact⟨0,ja7 _,ja7 _,rfl,HR,ai⟩
  case round =>
   obtain⟨k,hk,aw,rfl,y,m⟩:=hrel;have ax:wr.cell? ⟨q.p,1,O⟩=S (.slice Z d.pend.length R):=by rw[m.cell C];exact c1
   have aD:wr.cell? ⟨q.p,2,O⟩=S (.slice P d.pend.length M):=by rw[m.cell C];exact c2
   have L:=y.cell0;rw[tK] at *
   have b:χ (fE w.heap.size wr ⟨w.heap.size,g,cap,.slice O 0 0,.slice O 0 0⟩ (dX d.pend a d.fl k) 0 [] 0 [] (-1) (d.wr:Int)):=y;have t:χ (β w w wr):=m;by_cases n:k<d.pend.length
   .by_cases am:k<f
    .obtain⟨g1,z1,f1,q1,ae,_⟩:=kE HD.o1 k n;obtain⟨g2,z2,f2,q2,ag,_⟩:=kE HD.o2 k n;rw[a7.out] at *
     rw[al.out] at *
     cases f1;cases f2;rw[Ak _ _ n,<- m.cell (p:=⟨g1,k,O⟩) ae] at *
     rw[Ec _ _ n,<- m.cell (p:=⟨g2,k,O⟩) ag] at *
     have an:d.pend.getD k (0,[])∈d.pend:=by
      rw[ja6,ja5 n];exact jad _
     have af:=(HL _ an).1;obtain⟨kb,ko,rfl,U⟩:=(Y.below m).2 k am;have cf:=y.of.cellAt (d.pend.getD k (0,[])).1 (by rw[tK];omega);rw[BA _ _ (by rw[tK];exact af)] at *
     have ff:=y.of.frozenAt (d.pend.getD k (0,[])).1;have HY:χ (a.getD k false=true->dX d.pend a d.fl (k+1)=(dX d.pend a d.fl k).set (d.pend.getD k (0,[])).1 (d.pend.getD k (0,[])).2):=λe=>Hy e
     have ad:χ (a.getD k false=false->dX d.pend a d.fl (k+1)=dX d.pend a d.fl k):=λe=>Ce e
     generalize d.pend.getD k (0,[])=x at *
     have aE:(0:Int)<=(x.1:Int):=by omega
     have ar:(x.1:Int)<(d.fl.length:Int):=by omega
     have aq:(0:Int)<=(k:Int):=by omega
     have ao:(k:Int)<(d.pend.length:Int):=by omega
     cases o:a.getD k false with
     | true =>
      rw[o] at U;have J:=HY o;have G:χ (dX d.pend a d.fl (k+1)=(dX d.pend a d.fl k).set x.1 x.2):=J;go_wp2;go_region;go_wp2;go_roundw
      case rel =>
       have fin:∃ c:Nat,c<=d.pend.length/\c<=f/\Value.int .i64 ((k:Int)+1)=.int .i64 c/\fE w.heap.size ((wr.setCell ⟨g,x.1,O⟩ (.string (bytesOf x.2))).drew) ⟨w.heap.size,g,cap,.slice O 0 0,.slice O 0 0⟩ (dX d.pend a d.fl c) 0 [] 0 [] (-1) (d.wr:Int)/\β w w ((wr.setCell ⟨g,x.1,O⟩ (.string (bytesOf x.2))).drew) :=
        ⟨k+1,by omega,by omega,by go_num,by rw[G.out];exact(b.zL x.1 x.2).drew,(t.setCell (fB b.of).1 _).drew⟩
       first|exact fin|((repeat apply Exists.intro);exact⟨fin,rfl⟩)
      case measure=>simp[intOf];omega
     | false =>
      rw[o] at U;have G:χ (dX d.pend a d.fl (k+1)=dX d.pend a d.fl k):=ad o;go_wp2;go_roundw
      case rel =>
       have fin:∃ c:Nat,c<=d.pend.length/\c<=f/\Value.int .i64 ((k:Int)+1)=.int .i64 c/\fE w.heap.size wr ⟨w.heap.size,g,cap,.slice O 0 0,.slice O 0 0⟩ (dX d.pend a d.fl c) 0 [] 0 [] (-1) (d.wr:Int)/\β w w wr :=
        ⟨k+1,by omega,by omega,by go_num,by rw[G.out];exact b,t⟩
       first|exact fin|((repeat apply Exists.intro);exact⟨fin,rfl⟩)
      case measure=>simp[intOf];omega
    .have J:χ (dX d.pend a d.fl d.pend.length=dX d.pend a d.fl k):=by
      unfold χ;rw[show d.pend.length=k+(d.pend.length-k) by omega,Sl _ _ _ _ _ (by rw[Y.out.1];omega)]
     go_wp2;go_ret;refine⟨⟨w.heap.size,g,cap,.slice O 0 0,.slice O 0 0⟩,rfl,?_,t⟩;rw[J.out];exact⟨b.pB,b.blk,b.of,b.o1,b.o2,b.ne⟩
   .have a3:k=d.pend.length:=by omega
    subst a3;go_wp2;go_ret;exact⟨⟨w.heap.size,g,cap,.slice O 0 0,.slice O 0 0⟩,rfl,⟨b.pB,b.blk,b.of,b.o1,b.o2,b.ne⟩,t⟩
def Io(l wr):(DV.made l wr).sn:=rfl
def Bd{d:DV}(h:d.sn)(n):(d.failing n).sn:=h
def YO{d:DV}(h:d.sn):d.jo.sn:=by
 unfold DV.jo;split
 .exact h
 .exact Bd h _
def QC(d:DV):d.flushed.sn:=rfl
def XD(p r l k)(b:k<=p.length):lS (p++r) l k=lS p l k:=by
 induction k with
 | zero=>rfl
 | succ k a =>
  show(lS _ l k).set _ _=(lS p l k).set _ _
  rw[a (by omega)]
  have e:(p++r).getD k (0,[])=p.getD k (0,[]):=by
   rw[ja6,ja6,jaD (by omega)]
  rw[e]
def Zv{d:DV}(h:d.sn)(i s):(d.wrote i s).sn:=by
 unfold DV.sn DV.wrote;rw[jah];show _=(lS _ _ _).set _ _
 rw[XD _ _ _ _ (ja1 _),<- h];simp_all
namespace Crc
def poly:Nat:=3988292384
def stp(s:Nat):Nat:=if s % 2=1 then (s / 2) ^^^ poly else s / 2
def many:Nat->Nat->Nat
 | 0,s=>s
 | n+1,s=>many n (stp s)
def Ip(a b s):many (a+b) s=many b (many a s):=by
 induction a generalizing s with
 | zero=>simp[many]
 | succ a c=>rw[Nat.succ_add];exact c _
def Iu(n s):many (n+1) s=stp (many n s):=by
 rw[Ip n 1 s];rfl
def LZ(x y):(x ^^^ y) % 2=(x % 2+y % 2) % 2:=by
 have h:=jbF x y 0;have a:(x ^^^ y) % 2=0\/(x ^^^ y) % 2=1:=by omega
 have c:x % 2=0\/x % 2=1:=by omega
 have b:y % 2=0\/y % 2=1:=by omega
 rcases a with a|a<;>rcases c with c|c<;>rcases b with b|b<;>simp[a,c,b] at *
def LY(x y):(x ^^^ y) / 2=(x / 2) ^^^ (y / 2):=Nat.xor_div_two
def Ya(x y):stp (x ^^^ y)=stp x ^^^ stp y:=by
 unfold stp;rw[LZ,LY];have b:x % 2=0\/x % 2=1:=by omega
 have a:y % 2=0\/y % 2=1:=by omega
 rcases b with b|b<;>rcases a with a|a<;>simp[b,a]
 .rw[jaS]
 .rw[jaS,jaS,Nat.xor_comm _ poly]
 .rw[jaS,<- jaS poly,Nat.xor_comm poly _,jaS,Nat.xor_self,Nat.xor_zero]
def Iw(n x y):many n (x ^^^ y)=many n x ^^^ many n y:=by
 induction n generalizing x y with
 | zero=>rfl
 | succ n a=>simp only[many];rw[Ya,a]
def X7(x):stp (2*x)=x:=by
 unfold stp;simp_all
def Ir(n x):many n (2 ^ n*x)=x:=by
 induction n generalizing x with
 | zero=>simp[many]
 | succ n a =>
  simp only[many];rw[jbX,jb9,Nat.mul_left_comm,X7,a]
def KX(x)(h:x<4294967296):stp x<4294967296:=by
 unfold stp;split
 .exact jaV (n:=32) (by omega) (by unfold poly;omega)
 .omega
def Iq(n x)(h:x<4294967296):many n x<4294967296:=by
 induction n generalizing x with
 | zero=>exact h
 | succ n a=>exact a _ (KX x h)
def num:List UInt8->Nat
 | []=>0
 | b::l=>b.toNat+256*num l
def Um(l):num l<2 ^ (8*l.length):=by
 induction l with
 | nil=>simp[num]
 | cons b l c =>
  have a:=b.toNat_lt;simp only[num,jau];rw[show 8*(l.length+1)=8+8*l.length by omega,Nat.pow_add];omega
def add_eq_xor(i x y)(h:x<2 ^ i):x+2 ^ i*y=x ^^^ (2 ^ i*y):=by
 apply jbG;intro j;rw[jbF,Nat.add_comm,jaH y h,Nat.testBit_two_pow_mul];by_cases a:j<i
 .have:¬j>=i:=by omega
  simp[a,this]
 .have:j>=i:=by omega
  simp[a,this,(Nat.testBit_lt_two_pow (ja8 h (jbH (by omega) (by omega))))]
def byt(s:Nat)(b:UInt8):Nat:=many 8 (s ^^^ b.toNat)
def crc(s:Nat)(l:List UInt8):Nat:=l.foldl byt s
def Fb(s l m):crc s (l++m)=crc (crc s l) m:=by
 simp[crc]
def Oy(s l):crc s l=many (8*l.length) (s ^^^ num l):=by
 induction l generalizing s with
 | nil=>simp[crc,num,many]
 | cons b l a =>
  have e:crc s (b::l)=crc _ l:=rfl;have d:=b.toNat_lt
  have c:num (b::l)=b.toNat ^^^ (2 ^ 8*num l):=by
   rw[<- add_eq_xor 8 _ _ (by omega)];rfl
  rw[e,a,c,jau,show 8*(l.length+1)=8+8*l.length by omega,Ip,<- jaS,Iw 8,Ir];rfl
def Ny(s b)(h:s<4294967296):byt s b<4294967296:=by
 have a:=b.toNat_lt;exact Iq _ _ (jaV (n:=32) (by omega) (by omega))
def Fe(s l)(h:s<4294967296):crc s l<4294967296:=by
 induction l generalizing s with
 | nil=>exact h
 | cons b l a=>exact a _ (Ny s b h)
def ones:Nat:=4294967295
def more(s:Nat)(l:List UInt8):Nat:=crc (s ^^^ ones) l ^^^ ones
def total(l:List UInt8):Nat:=crc ones l ^^^ ones
def Aa(l):total l<4294967296 :=
 jaV (n:=32) (Fe _ _ (by unfold ones;omega)) (by unfold ones;omega)
def TU(l m):more (total l) m=total (l++m):=by
 unfold more total;rw[jaS,Nat.xor_self,Nat.xor_zero,Fb]
def YR:total []=0:=by simp[total,crc]
def bitwise(n i:Nat):Nat:=many i (ones ^^^ (n % 2 ^ i))
def ED(n):bitwise n 0=ones:=by simp[bitwise,many,Nat.mod_one]
def EC(n i):bitwise n (i+1)=stp (bitwise n i ^^^ (n / 2 ^ i % 2)):=by
 have h:n % 2 ^ (i+1)=(n % 2 ^ i) ^^^ (2 ^ i*(n / 2 ^ i % 2)):=by
  rw[<- add_eq_xor i _ _ (Nat.mod_lt _ (Nat.two_pow_pos i)),jbX,Nat.mod_mul]
 unfold bitwise;rw[h,<- jaS,Iu,Iw,Ir]
def Nu(n i):bitwise n i<4294967296:=by
 induction i with
 | zero=>rw[ED];unfold ones;omega
 | succ i a =>
  rw[EC];exact KX _ (jaV (n:=32) a (by omega))
def Ns(l):bitwise (num l) (8*l.length)=crc ones l:=by
 rw[Oy];unfold bitwise;rw[jbY (Um l)]
def Uk(l i)(h:i<8*l.length):num l / 2 ^ i % 2=(l[i / 8]'(by omega)).toNat / 2 ^ (i % 8) % 2:=by
 induction l generalizing i with
 | nil=>simp at h
 | cons b l f =>
  have g:=b.toNat_lt;by_cases k:i<8
  .have a:i / 8=0:=by omega
   have c:i % 8=i:=by omega
   simp only[a,c,jao,num]
   have d:(256:Nat)=2 ^ i*(2*2 ^ (7-i)):=by
    rw[<- jb9,jbv (2 ^ i) 2,jb9,<- Nat.pow_add,show i+(7-i)=7 by omega]
   rw[d,jb9,Nat.add_mul_div_left _ _ (Nat.two_pow_pos i),jb9,Nat.add_mul_mod_self_left]
  .obtain⟨j,rfl⟩:∃ j,i=j+8:=⟨i-8,by omega⟩;have a:(j+8) / 8=j / 8+1:=by omega
   have c:(j+8) % 8=j % 8:=by omega
   simp only[a,c,jaq,num];rw[<- f j (by simp only[jau] at h;omega),Nat.pow_add,jbv (2 ^ j),<- Nat.div_div_eq_div_mul];congr 2;have:(2:Nat) ^ 8=256:=rfl
   rw[this];omega
def KW(s b)(d:b<2):stp (s ^^^ b)=if (s % 2) ^^^ b=1 then (s / 2) ^^^ poly else s / 2:=by
 unfold stp;rw[LZ,LY];have a:s % 2=0\/s % 2=1:=by omega
 have c:b=0\/b=1:=by omega
 rcases a with a|a<;>rcases c with rfl|rfl<;>simp[a]
end Crc
def zB{a b}(h:a=b):Ending.returned (.int .u32 a)=.returned (.int .u32 b):=by rw[h]
def X9(m:Nat)(h:m<4294967296)(e:((m:Int) % 2==1)=true):bits .xor .u32 ((m:Int) / 2) 3988292384=(Crc.stp m:Int):=by
 have a:m % 2=1:=by have:=beq_iff_eq.1 e;omega
 rw[u32_xor _ _ (by omega) (by omega) (by omega) (by omega)];unfold Crc.stp Crc.poly;rw[if_pos a];congr 2
def X8(m:Nat)(e:((m:Int) % 2==1)=false):((m:Int) / 2)=(Crc.stp m:Int):=by
 have a:¬m % 2=1:=by have:=beq_eq_false_iff_ne.1 e;omega
 unfold Crc.stp;simp_all
def uT{a b}(h:a=b):Value.int .u32 a=Value.int .u32 b:=by rw[h]
def X4(s:Nat)(b w)(c:s<4294967296) :
  κ prog 271 #[.int .u32 s,.int .u8 b.toNat] w λe w'=>e=.returned (.int .u32 (Crc.byt s b))/\w'=w:=by
 have o:=b.toNat_lt;have q  := u32_xor_nat s b.toNat c (by omega);have j:s ^^^ b.toNat<4294967296:=jaV (n:=32) c (by omega);go_enter func271,ntmps271;go_wp2;go_loop [0,9] (λt i=>∃ k:Nat,k<=8/\i=.int .i64 k/\t=.int .u32 (Crc.many k _)) (λ_ i=>8-(intOf i).toNat)
 case atStart=>exact⟨0,by omega,rfl,rfl⟩
 case round =>
  obtain⟨k,r,rfl,rfl⟩:=hrel;have l:=Crc.Iq k _ j
  have g:χ (¬k<8->Crc.many k (s ^^^ b.toNat)=Crc.byt s b):=by
   intro h;have f:k=8:=by omega
   rw[f];rfl
  have a:χ (Crc.many (k+1) (s ^^^ b.toNat)=Crc.stp _):=(Crc.Iu k _);generalize Crc.many k _=m at *
  by_cases d:k<8
  .go_wp2
   .go_round
    case rel=>exact⟨k+1,by omega,by go_num,uT (by rw[a.out];exact X9 m l (by assumption))⟩
    case measure=>simp[intOf];omega
   .go_round
    case rel=>exact⟨k+1,by omega,by go_num,uT (by rw[a.out];exact X8 m (by assumption))⟩
    case measure=>simp[intOf];omega
  .go_wp2;go_ret;exact⟨zB (by rw[g.out d]),rfl⟩
def TS(s:Nat)(t:ByteArray)(w)(b:s<4294967296)(g:t.size<=maxLen) :
  κ prog 248 #[.int .u32 s,t] w λe w'=>e=.returned (.int .u32 (Crc.more s t.data.toList))/\w'=w:=by
 unfold maxLen at *
 have j:bits .xor .u32 (s:Int) 4294967295=((s ^^^ Crc.ones:Nat):Int):=u32_xor_nat s 4294967295 b (by omega);go_enter func248,ntmps248;go_wp2;go_loop [0,5,10] (λx _ i=>∃ k:Nat,k<=t.size/\i=.int .i64 k/\x=.int .u32 (Crc.crc _ (t.data.toList.take k))) (λ_ _ i=>t.size-(intOf i).toNat)
 case atStart=>exact⟨0,ja7 _,rfl,rfl⟩
 case round =>
  obtain⟨k,l,rfl,rfl⟩:=hrel;have c:=Crc.Fe (s ^^^ Crc.ones) (t.data.toList.take k) (jaV (n:=32) b (by unfold Crc.ones;omega))
  have f:χ (¬k<t.size->Crc.crc (s ^^^ Crc.ones) (t.data.toList.take k) ^^^ Crc.ones=Crc.more s t.data.toList):=by
   intro h;rw[jaf (by simp;omega)];rfl
  by_cases a:k<t.size
  .have d:χ (Crc.crc (s ^^^ Crc.ones) (t.data.toList.take (k+1))=Crc.byt (Crc.crc (s ^^^ Crc.ones) (t.data.toList.take k)) t[k]):=by
    have e:t.data.toList.take (k+1)=t.data.toList.take k++[t[k]]:=by
     rw[jaK (by simpa using a)];rfl
    rw[e,Crc.Fb];rfl
   generalize Crc.crc _ (t.data.toList.take k)=m at *
   go_wp2_with (go_at_call 271;refine cEq (X4 _ _ _ c) λw' rfl=>?_)
   go_round
   case rel=>exact⟨k+1,by omega,by go_num,uT (by rw[d.out])⟩
   case measure=>simp[intOf];omega
  .generalize Crc.crc _ _=m at *
   go_wp2;go_ret;exact⟨zB (by rw[<- f.out a];exact u32_xor_nat m 4294967295 c (by omega)),rfl⟩
def flat(ls:List ByteArray):List UInt8:=(ls.map λs=>s.data.toList).flatten
def QA(ls s):flat (ls++[s])=flat ls++s.data.toList:=by
 simp[flat]
def Yv(ls:List ByteArray)(k)(h:k<ls.length):ls.take (k+1)=ls.take k++[ls.getD k ByteArray.empty]:=by
 simp_all
def Uu(ls b c cap w)(r:ls.length<=9223372036854775806)(d:∀ k,k<ls.length->(ls.getD k ByteArray.empty).size<=maxLen)
  (f:∀ k,k<ls.length->w.cell? ⟨b,c+k,O⟩=S (.string (ls.getD k ByteArray.empty))) :
  κ prog 211 #[.slice (S ⟨b,c,O⟩) ls.length cap] w λe w'=>e=.returned (.int .u32 (Crc.total (flat ls)))/\w'=w:=by
 go_enter func211,ntmps211;go_wp2;go_loop [3,5,8] (λx _ i=>∃ k:Nat,k<=ls.length/\i=.int .i64 k/\x=.int .u32 (Crc.total (flat (ls.take k)))) (λ_ _ i=>ls.length-(intOf i).toNat)
 case atStart=>exact⟨0,ja7 _,rfl,by simp[flat,Crc.YR]⟩
 case round =>
  obtain⟨k,o,rfl,rfl⟩:=hrel;have n:=Crc.Aa (flat (ls.take k))
  have l:χ (¬k<ls.length->Crc.total (flat (ls.take k))=Crc.total (flat ls)):=by
   intro h;rw[jaf (by omega)]
  by_cases a:k<ls.length
  .have j:χ (Crc.total (flat (ls.take (k+1)))=Crc.more (Crc.total (flat (ls.take k))) (ls.getD k ByteArray.empty).data.toList):=by
    unfold χ;rw[Yv ls k a,QA,Crc.TU]
   have q:=f k a;have g:=d k a;generalize Crc.total (flat (ls.take k))=m at *
   generalize ls.getD k _=s at *
   clear f d;go_wp2_with (go_at_call 248;refine cEq (TS _ _ _ n g) λw' rfl=>?_)
   go_round
   case rel=>exact⟨k+1,by omega,by go_num,uT (by rw[j.out])⟩
   case measure=>simp[intOf];omega
  .generalize Crc.total _=m at *
   go_wp2;go_ret;exact⟨zB (by rw[<- l.out a]),rfl⟩
def I7(s:ByteArray)(b cap w)(c:s.size<=maxLen)(d:w.cell? ⟨b,0,O⟩=S (s:υ)) :
  κ prog 211 #[.slice (S ⟨b,0,O⟩) 1 cap] w λe w'=>e=.returned (.int .u32 (Crc.total s.data.toList))/\w'=w:=by
 have:=Uu [s] b 0 cap w (by simp) (λk a=>by
  simp_all) (λk a=>by
  simp_all)
 have e:flat [s]=s.data.toList:=by simp[flat]
 simp_all
def Jw(m c j:Nat)(a:m<4294967296)(g:c<256):bits .xor .u32 (bits .and .u32 (m:Int) 1) (bits .and .u32 ((c:Int) / 2 ^ j % 4294967296) 1)=(((m % 2) ^^^ (c / 2 ^ j % 2):Nat):Int):=by
 have d:bits .and .u32 (m:Int) 1=((m % 2:Nat):Int):=by
  have:=u32_and_nat m 1 a (by omega)
  simp_all
 have f:c / 2 ^ j<=c:=Nat.div_le_self _ _
 have e:((c:Int) / 2 ^ j % 4294967296)=((c / 2 ^ j:Nat):Int):=by
  have:(c:Int) / 2 ^ j=((c / 2 ^ j:Nat):Int):=by simp
  rw[this];generalize c / 2 ^ j=q at *
  omega
 have b:bits .and .u32 ((c:Int) / 2 ^ j % 4294967296) 1=((c / 2 ^ j % 2:Nat):Int):=by
  have:=u32_and_nat (c / 2 ^ j) 1 (by omega) (by omega)
  simp_all
 rw[d,b];exact u32_xor_nat _ _ (by omega) (by omega)
def VN(m c j:Nat)(a:m<4294967296)(d:c<256)
  (e:(bits .xor .u32 (bits .and .u32 (m:Int) 1) (bits .and .u32 ((c:Int) / 2 ^ j % 4294967296) 1)==1)=true) :
  bits .xor .u32 ((m:Int) / 2) 3988292384=(Crc.stp (m ^^^ (c / 2 ^ j % 2)):Int):=by
 rw[Jw m c j a d] at e;have b:(m % 2) ^^^ (c / 2 ^ j % 2)=1:=by have:=beq_iff_eq.1 e;omega
 rw[Crc.KW _ _ (by omega),if_pos b,u32_xor _ _ (by omega) (by omega) (by omega) (by omega)];congr 2
def VL(m c j:Nat)(a:m<4294967296)(d:c<256)
  (e:(bits .xor .u32 (bits .and .u32 (m:Int) 1) (bits .and .u32 ((c:Int) / 2 ^ j % 4294967296) 1)==1)=false) :
  (m:Int) / 2=(Crc.stp (m ^^^ (c / 2 ^ j % 2)):Int):=by
 rw[Jw m c j a d] at e;have b:¬(m % 2) ^^^ (c / 2 ^ j % 2)=1:=by have:=beq_eq_false_iff_ne.1 e;omega
 rw[Crc.KW _ _ (by omega),if_neg b];omega
def Jv(t:ByteArray)(w)(j:t.size<=1000000) :
  κ prog 213 #[t] w λe w'=>e=.returned (.int .u32 (Crc.total t.data.toList))/\w'=w:=by
 go_enter func213,ntmps213;go_wp2;go_loop [3,4] (λx i=>∃ k:Nat,k<=8*t.size/\i=.int .i64 k/\x=.int .u32 (Crc.bitwise (Crc.num t.data.toList) k)) (λ_ i=>8*t.size-(intOf i).toNat)
 case atStart=>exact⟨0,ja7 _,rfl,by rw[Crc.ED];rfl⟩
 case round =>
  obtain⟨k,l,rfl,rfl⟩:=hrel;have a:=Crc.Nu (Crc.num t.data.toList) k;by_cases d:k<8*t.size
  .have c:χ (Crc.bitwise (Crc.num t.data.toList) (k+1)=Crc.stp (Crc.bitwise (Crc.num t.data.toList) k ^^^ ((t[k / 8]'(by omega)).toNat / 2 ^ (k % 8) % 2))):=by
    unfold χ;rw[Crc.EC,Crc.Uk _ k (by simpa using d)];rfl
   generalize Crc.bitwise _ k=m at *
   have b:=(t[k / 8]'(by omega)).toNat_lt;go_wp2
   .go_round
    case rel=>exact⟨k+1,by omega,by go_num,uT (by rw[c.out];exact VN m _ _ a b (by assumption))⟩
    case measure=>simp[intOf];omega
   .go_round
    case rel=>exact⟨k+1,by omega,by go_num,uT (by rw[c.out];exact VL m _ _ a b (by assumption))⟩
    case measure=>simp[intOf];omega
  .have g:χ (Crc.bitwise (Crc.num t.data.toList) k ^^^ Crc.ones=Crc.total t.data.toList):=by
    have f:k=8*t.data.toList.length:=by simp;omega
    unfold χ;rw[f,Crc.Ns];rfl
   generalize Crc.bitwise _ k=m at *
   go_wp2;go_ret;exact⟨zB (by rw[<- g.out];exact u32_xor_nat m 4294967295 a (by omega)),rfl⟩
def BH(s:Nat):List Int:=[(s:Int) % 256,(s:Int) / 256 % 256,(s:Int) / 65536 % 256,(s:Int) / 16777216]
def four(s:Nat):ByteArray:=strOfNums (BH s)
def cells4(w:ω)(a b d c i)(h:i<4) :
  (w.alloc (.cells #[.int .u8 a,.int .u8 b,.int .u8 d,.int .u8 c] 5)).cell? ⟨w,0+i,O⟩=S (.int .u8 ([a,b,d,c].getD i 0)):=by
 match i,h with
 | 0,_=>simp[go_sem]
 | 1,_=>simp[go_sem]
 | 2,_=>simp[go_sem]
 | 3,_=>simp[go_sem]
def EI(s:Nat)(w)(a:s<4294967296) :
  κ prog 210 #[.int .u32 s] w λe w'=>e=.returned (.string (four s))/\β w w w':=by
 have b:=run_convert_bytes_arg  _ 185 5 underlying185 underlying5 w.heap.size 0 4 4 (BH s) rfl (cells4 w _ _ _ _) 9 underlying9;go_enter func210,ntmps210;go_wp2;go_ret;exact⟨rfl,(ja0 _ _).alloc (ja1 _) _⟩
def Texts(w:ω)(la:Option Addr)(len:Nat)(ls:List ByteArray):Prop :=
 ls.length=len/\∀ k,k<len->∃ b a,la=S ⟨b,a,O⟩/\w.cell? ⟨b,a+k,O⟩=S (.string (ls.getD k ByteArray.empty))/\(ls.getD k ByteArray.empty).size<=maxLen
def Texts.below{w w' la len ls}(h:Texts w la len ls)(f:β w w w'):Texts w' la len ls:=by
 refine⟨h.1,λk c=>?_⟩;obtain⟨b,d,e,a,g⟩:=h.2 k c;exact⟨b,d,e,by rw[f.cell (ja2 w _ a)];exact a,g⟩
def o7{a b:Bool}(h:a=b):Ending.returned a=.returned b:=by rw[h]
def erV(f:Int):Value:=if f=0 then .nilIface else .iface 96 (.int .i64 f)
def oD(l:List Int):List Int:=l++List.replicate (12-l.length) 0
def s12(l:List Int):ByteArray:=strOfNums (oD l)
def gK(l:List Int):ByteArray:=s12 l++four (Crc.total (s12 l).data.toList)
def yX(l)(h:l.length<=12):(oD l).length=12:=by
 unfold oD;simp_all
def strOfNums_size(l):(strOfNums l).size=l.length:=by simp[strOfNums,ByteArray.size]
def DI(l)(h:l.length<=12):(s12 l).size=12:=by
 unfold s12;rw[strOfNums_size,yX l h]
def BI(s):(four s).size=4:=rfl
def zG(l)(h:l.length<=12):(gK l).size=16:=by
 unfold gK;rw[jaN,DI l h,BI]
def zH(s:ByteArray):Bool:=(four (Crc.total (s.extract 0 12).data.toList)).toList==(s.extract 12 s.size).toList
def cZ(s:ByteArray):Int:=if s.size=16 then (if zH s=true then 0 else 3) else 1
def bAt(s:ByteArray)(i:Nat):Int:=((s.data.toList.getD i 0).toNat:Int)
def jA(s i):0<=bAt s i/\bAt s i<256:=by
 unfold bAt;have:=(s.data.toList.getD i 0).toNat_lt;omega
def oP(s i)(h:i<s.size):((s[i]'h).toNat:Int)=bAt s i:=by
 have a:i<s.data.toList.length:=by simpa using h
 unfold bAt;rw[ja6,ja5 a];rfl
structure HV where
 c:Int
 p:Int
 b:Int
def HV.ok(h:HV):Bool:=decide (1<=h.c/\h.c<=32/\0<=h.p/\h.p<=40 /\ -1<=h.b/\h.b<=4)
def HV.cells(h:HV):Array Value := #[h.c,h.p,h.b]
def HV.zero:HV:=⟨0,0,0⟩
def HV.bytes(h:HV):List Int:=[83,89,h.c,h.p,h.b+1]
def HV.fault(h:HV):Int:=if h.ok=true then 0 else 1
def HV.text(h:HV):ByteArray:=if h.ok=true then gK h.bytes else ⟨#[]⟩
def qZ(s:ByteArray):HV:=⟨bAt s 2,bAt s 3,bAt s 4-1⟩
def nP(s:ByteArray):Bool:=(qZ s).ok&&((gK (qZ s).bytes).toList==s.toList)
def iq(s:ByteArray):HV:=if cZ s=0/\nP s=true then qZ s else HV.zero
def dW(s:ByteArray):Int:=if cZ s=0 then (if nP s=true then 0 else 2) else cZ s
structure KV where
 r:Int
 k:Int
 f:Int
 a:Int
 u:Int
def KV.bound(d:KV):Bool:=decide (0<=d.r/\d.r<=4/\0<=d.k/\d.k<=3 /\ -1<=d.f/\d.f<=4/\0<=d.a/\d.a<=1000/\0<=d.u/\d.u<=1000)
def KV.may(d:KV):Bool:=decide ((d.k=0/\d.f = -1/\d.a=0/\d.u=0)\/(d.k≠0/\d.f≠d.r/\(d.f ≠ -1\/d.k=2)))
def KV.fault(d:KV):Int:=if d.bound=true then (if d.may=true then 0 else 2) else 1
def KV.cells(d:KV):Array Value := #[d.r,d.k,d.f,d.a,d.u]
def KV.zero:KV:=⟨0,0,0,0,0⟩
def KV.bytes(d:KV):List Int:=[68,75,d.r,d.k,d.f+1,d.a % 256,d.a / 256,d.u % 256,d.u / 256]
def KV.text(d:KV):ByteArray:=if d.fault=0 then gK d.bytes else ⟨#[]⟩
def qU(s:ByteArray):KV:=⟨bAt s 2,bAt s 3,bAt s 4-1,bAt s 5+bAt s 6*256,bAt s 7+bAt s 8*256⟩
def nN(s:ByteArray):Bool:=decide ((qU s).fault=0)&&((gK (qU s).bytes).toList==s.toList)
def iV(s:ByteArray):KV:=if cZ s=0/\nN s=true then qU s else KV.zero
def aN(s:ByteArray):Int:=if cZ s=0 then (if nN s=true then 0 else 2) else cZ s
def KV.qF{d:KV}(h:d.fault=0):d.bound=true/\d.may=true:=by
 unfold KV.fault at h;split at h
 .simp_all
 .omega
def byV(l:List Int):List Value:=l.map (Value.int .u8)
def Nw(l):∀ u∈byV l,u.oneCell'=true:=by
 intro u a;obtain⟨n,_,rfl⟩:=List.mem_map.1 a;rfl
def uJ(l j)(a:j<l.length):(byV l)[j]?=S (.int .u8 (l.getD j 0)):=by
 simp[byV,ja5 a,List.getD]
def Hf:(prog.info? 5).map (λi=>(i.zero,i.size,i.bytes))=S (S (.int .u8 0),1,1):=by kernel_rfl
def XK:(prog.info? 5).map (·.size)=S 1:=by kernel_rfl
def inB(n a b:Int):Bool:=decide (a<=n/\n<=b)
def Jy{a b:ByteArray}(h:a=b):Ending.returned a=.returned b:=by rw[h]
def mM(n a b:Int)(w) :
  κ prog 96 #[n,a,b] w λe w'=>e=.returned (.bool (inB n a b))/\w'=w:=by
 by_cases d:a<=n
 .have c:χ (inB n a b=decide (n<=b)):=by unfold χ inB;simp[d]
  go_enter func96,ntmps96;go_wp2;go_ret;exact⟨o7 c.symm,rfl⟩
 .have c:χ (inB n a b=false):=by unfold χ inB;simp[d]
  go_enter func96,ntmps96;go_wp2;go_ret;exact⟨o7 c.symm,rfl⟩
def WQ(w:ω)(l)(b cap:Nat)(i:l.length<=12)(m:b<w)(n:∀ j,j<l.length->w.cell? ⟨b,j,O⟩=S (.int .u8 (l.getD j 0))) :
  (Builtin.copy_ #[185,185] 3 #[.slice (S ⟨w,0,O⟩) 12 12,.slice (S ⟨b,0,O⟩) l.length cap]).run prog (w.alloc (.cells #[(),(),(),(),(),(),(),(),(),(),(),()] 274)) =
    .ok (.int .i64 (l.length:Int)) (w.alloc (.cells (byV (oD l)).toArray 274)):=by
 have d:(byV l).length=Nat.min l.length 12:=by
  rw[show Nat.min _ 12=l.length from Nat.min_eq_left i];simp[byV]
 have h:=run_copy_row (P:=prog) (w.alloc (.cells #[(),(),(),(),(),(),(),(),(),(),(),()] 274)) _ 185 3 5 _ 0 12 12 _ _ cap _ _ _ underlying185 XK (heap_alloc_new w _) d
  (λj v g=>by
    have c:j<l.length:=by
     rcases jav j _ with h|h
     .exact h
     .simp_all
    rw[uJ l j c] at *
    rw[Go.WideShapes.add_plain,jak,jas _ _ _ m,n j c];exact g)
  (by simp_all) (Nw l)
 have a:(byV l).length=l.length:=by simp[byV]
 have o:goInt (byV l).length=Value.int .i64 (l.length:Int):=by rw[a];rfl
 have f:(#[.int .u8 0,.int _ 0,.int _ 0,.int _ 0,.int _ 0,.int _ 0,.int _ 0,.int _ 0,.int _ 0,.int _ 0,.int _ 0,.int _ 0]:Array υ).toList=List.replicate 12 _:=rfl;have k:byV (oD l)=byV l++List.replicate (12-l.length) (Value.int .u8 0):=by simp[byV,oD]
 rw[h,jbd,o,f,a,List.take_zero,jaP,jak,List.drop_replicate,<- k]
def WO(w:ω)(l)(b:l.length<=12) :
  (convert 185 9 (.slice (S ⟨w,0,O⟩) 12 12)).run prog (w.alloc (.cells (byV (oD l)).toArray 274))=.ok (.string (s12 l)) (w.alloc (.cells (byV (oD l)).toArray 274)):=by
 have a:=yX l b
 exact run_convert_bytes_arg  _ _ 5 underlying185 underlying5 _ 0 12 12 _ a (λi c=>by
  rw[jak,cell_of_row _ _ _ _ _ _ (heap_alloc_new w _)];rw[jaE]
  exact uJ _ i (by omega)) 9 underlying9
def J8(l b cap w)(a:l.length<=12)(d:b<w.heap.size)(i:∀ j,j<l.length->w.cell? ⟨b,j,O⟩=some (.int .u8 (l.getD j 0))) :
  κ prog 176 #[.slice (some ⟨b,0,O⟩) l.length cap] w λe w'=>e=.returned (.string (gK l))/\β w w w':=by
 have k:=WQ w l b cap a d i;have n:=WO w l a;have o:=DI l a;have c:χ (s12 l++four _=gK l):=rfl;have m:=BI (Crc.total (s12 l).data.toList);have g:=Crc.Aa (s12 l).data.toList;generalize byV (oD l)=P at *
 generalize s12 l=S at *
 go_enter func176,ntmps176;go_wp2_with fail;refine(I7 S _ 1 _ (by unfold maxLen;omega) ?_).mono ?_
 .simp[go_sem]
 rintro e w' ⟨rfl,rfl⟩;go_wp2_with fail;refine cEq (EI _ _ g) λw' f=>?_
 go_wp2;go_ret;exact⟨Jy c,(((ja0 _ _).alloc (ja1 _) _).alloc (by simp) _).trans (f.mono (by simp;omega))⟩
def Js(s:Nat)(w)(a:s<4294967296) :
  κ prog 212 #[.int .u32 s] w λe w'=>e=.returned (.string (four s))/\β w w w':=by
 have b:=run_convert_bytes_arg  _ 185 5 underlying185 underlying5 _ 0 4 4 (BH s) rfl (cells4 w _ _ _ _) 9 underlying9;go_enter func212,ntmps212;go_wp2;go_ret;exact⟨rfl,(ja0 _ _).alloc (ja1 _) _⟩
def pU(l:List Int)(k:Nat):List Int:=l++List.replicate (k-l.length) 0
def UY(l):pU l l.length=l:=by unfold pU;simp
def UZ(l k)(h:l.length<=k):byV (pU l (k+1))=byV (pU l k)++[.int .u8 0]:=by
 unfold pU byV;rw[show k+1-l.length=(k-l.length)+1 by omega,jbj];simp
def Ju(l B b cap w)(a:l.length<=12)(hB:B<=w.heap.size)(N:w.ownsRow B 5 1 (.slice (some ⟨b,0,O⟩) l.length cap) l.length (byV l)) :
  κ prog 179 #[.slice (some ⟨b,0,O⟩) l.length cap] w λe w'=>e=.returned (.string (gK l))/\β B w w':=by
 obtain⟨K,d,D,G,L⟩:=info_parts Hf;have M:χ (w.ownsRow B 5 1 (.slice (some ⟨b,0,O⟩) l.length cap) l.length (byV l)):=N;go_enter func179,ntmps179;go_wp2;go_loopw [0] (λv wr=>∃(k g c:Nat),l.length<=k/\k<=12/\v=.slice (some ⟨g,0,O⟩) k c/\wr.ownsRow B 5 1 (.slice (some ⟨g,0,O⟩) k c) k (byV (pU l k))/\β B w wr) (λv _=>match v with | .slice _ n _=>12-n|_=>0)
 case atStart=>exact⟨l.length,b,cap,ja1 _,a,rfl,by rw[UY];exact M,ja0 _ _⟩
 case round =>
  obtain⟨k,g,c,C,X,rfl,U,t⟩:=hrel;have o:χ (β B w wr):=t;have m:χ (wr.ownsRow B 5 1 (.slice (some ⟨g,0,O⟩) k c) k (byV (pU l k))):=U;have f:χ (B<=wr.heap.size):=by unfold χ;have:=t.size;omega
  by_cases V:k<12
  .have R:χ ((wr.alloc (.cells #[.int .u8 0] 5)).ownsRow B 5 1 (.slice (some ⟨g,0,O⟩) k c) k (byV (pU l k))):=m.alloc _;have y:χ (B<=(wr.alloc (.cells #[.int .u8 0] 5)).heap.size):=by unfold χ;have:=f.out;simp;omega
   go_wp2_with (at_builtin;go_loud (refine wpList_append_lies _ (by rfl) _ _ 185 (by rfl) B 5 K (.int .u8 0) 1 1 underlying185 d D G L rfl (by decide) (.slice (some ⟨g,0,O⟩) k c) k (byV (pU l k)) (by rfl) R ⟨wr,0,O⟩ 1 1 [.int .u8 0] (by rfl) (by rfl) (cell_one_new _ _ _) (λu Q=>by simp at *;subst Q;rfl) (by decide) (by unfold maxLen;omega) (by omega) y (wr.heap.size+1) (by simp) ?_;intro g2 I w2 A T Y a2))
   go_roundw
   case rel =>
    exact⟨k+1,g2,I,by omega,by omega,rfl,by rw[UZ l k C];exact A,(o.alloc f _).grown T y (λr e=>(m.lt r e).1)⟩
   case measure=>simp;omega
  .have z:k=12:=by omega
   subst z
   have x:=λW (F:β wr wr W)=>run_convert_bytes_arg (P:=prog) W 185 5 underlying185 underlying5 g 0 12 c (oD l) (yX l a) (λi d=>by
      rw[jak];have j:=m.cellAt i d;have e:pU l 12=oD l:=rfl;rw[e,uJ (oD l) i (by rw[yX l a];exact d)] at j
      rw[F.cell (ja2 wr _ j)];exact j) 9 underlying9
   have s:χ (∀ W:ω,β wr wr W->(convert 185 9 (.slice (some ⟨g,0,O⟩) 12 c)).run prog W=.ok (.string (s12 l)) W):=x;have a0:=DI l a;have J:χ (s12 l++four (Crc.total (s12 l).data.toList)=gK l):=rfl;have a1:=BI (Crc.total (s12 l).data.toList);have E:=Crc.Aa (s12 l).data.toList;clear x;generalize s12 l=S at *
   have q:β wr wr wr.drew:=(ja0 _ _).drew;go_wp2
   go_region_held3 (λW=>β wr wr W/\(convert 185 9 (.slice (some ⟨g,0,O⟩) 12 c)).run prog W=.ok (.string S) W)
    (first|(exact⟨q,s _ q⟩)|assumption|(exact⟨by assumption,s _ (by assumption)⟩))
    (first
      | (go_at_call 213;refine cEq (Jv _ _ (by omega)) λw' rfl=>?_)
      | (go_at_call 212;refine cEq (Js _ _ E) λw5 H=>?_;have Z:=jaF (by assumption:β _ wr _/\_).1 (H.mono (by assumption:β _ wr _/\_).1.size)))
   all_goals
    go_wp2;go_ret;exact⟨Jy J,o.trans (Below.mono (by assumption) f)⟩
def aJ:erV 0=.nilIface:=by simp[erV]
def eX:erV 1=.iface 96 (.int .i64 1):=by simp[erV]
def yD:erV 2=.iface 96 (.int .i64 2):=by simp[erV]
def PX:erV 3=.iface 96 (.int .i64 3):=by simp[erV]
def mg{a b}(h:a=b):Ending.returned a=.returned b:=by rw[h]
def rP{a b:Int}(h:a=b):Ending.returned a=.returned b:=by rw[h]
def J6(s)(d:s.size=16):∃(T:Nat) (F:ByteArray),T<4294967296/\(zH s=(F.toList==(s.extract 12 s.size).toList)) /\
  (∀b W,W.cell? ⟨b,0,O⟩=S (.string (s.extract 0 12))->κ prog 211 #[.slice (S ⟨b,0,O⟩) 1 1] W λe w'=>e=.returned (.int .u32 T)/\w'=W) /\
  (∀ W,κ prog 210 #[.int .u32 T] W λe w'=>e=.returned F/\β W W w') /\
  (∀ W,κ prog 213 #[.string (s.extract 0 12)] W λe w'=>e=.returned (.int .u32 T)/\w'=W) /\
  (∀ W,κ prog 212 #[.int .u32 T] W λe w'=>e=.returned F/\β W W w'):=by
 have c:(s.extract 0 12).size<=12:=by simp_all
 have a:=Crc.Aa (s.extract 0 12).data.toList;exact⟨Crc.total _,four _,a,rfl,λb W h=>I7 _ b 1 W (by unfold maxLen;omega) h,λW=>EI _ W a,λW=>Jv _ W (by omega),λW=>Js _ W a⟩
def xX(s:ByteArray)(w) :
  κ prog 151 #[s] w λe w'=>e=.returned (erV (cZ s))/\β w w w':=by
 by_cases a:s.size=16
 .have g1:((s.size:Int) != 16)=false:=by simp;omega
  have g2:(12:Int)<=(s.size:Int):=by omega
  have f:β w w w.drew:=(ja0 _ _).drew;obtain⟨T,F,q,c,l,k,o,r⟩:=J6 s a;have j:=ah l;have i:=ah k
  cases g:zH s with
  | true =>
   have b:χ (erV (cZ s)=.nilIface):=by unfold χ cZ;rw[if_pos a,if_pos g];exact aJ
   rw[c] at *
   clear a c;go_enter func151,ntmps151;go_wp2
   go_region_held3 (λW=>β w w W) (first|(exact f)|assumption|(exact Below.alloc (by assumption) (jbI (by assumption)) _))
    (first
      | (go_at_call 211;refine cEq (j _ _ (cell_of_row _ _ _ _ _ _ (heap_alloc_new _ _))) λw' rfl=>?_)
      | (go_at_call 210;refine cEq (i _) λn d=>?_;have m:=jaF (by assumption:β w w _) (d.mono (jbI (by assumption)))))
   all_goals
    go_wp2;go_ret;exact⟨mg b.symm,by assumption⟩
  | false =>
   have b:χ (erV (cZ s)=.iface 96 (.int .i64 3)):=by unfold χ cZ;rw[if_pos a,if_neg (by rw[g];decide)];exact PX
   rw[c] at *
   clear a c;go_enter func151,ntmps151;go_wp2
   go_region_held3 (λW=>β w w W) (first|(exact f)|assumption|(exact Below.alloc (by assumption) (jbI (by assumption)) _))
    (first
      | (go_at_call 211;refine cEq (j _ _ (cell_of_row _ _ _ _ _ _ (heap_alloc_new _ _))) λw' rfl=>?_)
      | (go_at_call 210;refine cEq (i _) λn d=>?_;have m:=jaF (by assumption:β w w _) (d.mono (jbI (by assumption)))))
   all_goals
    go_wp2;go_ret;exact⟨mg b.symm,by assumption⟩
 .have g1:((s.size:Int) != 16)=true:=by simp;omega
  have b:χ (erV (cZ s)=.iface 96 (.int .i64 1)):=by unfold χ cZ;rw[if_neg a];exact eX
  go_enter func151,ntmps151;go_wp2;go_ret;exact⟨mg b.symm,ja0 _ _⟩
def yV(s:ByteArray)(w) :
  κ prog 156 #[s] w λe w'=>e=.returned (cZ s)/\β w w w':=by
 by_cases a:s.size=16
 .have g1:((s.size:Int) != 16)=false:=by simp;omega
  have g2:(12:Int)<=(s.size:Int):=by omega
  have f:β w w w.drew:=(ja0 _ _).drew;obtain⟨T,F,r,c,q,o,k,l⟩:=J6 s a;have g:=ah k;have j:=ah l
  cases i:zH s with
  | true =>
   have b:χ (cZ s=0):=by unfold χ cZ;rw[if_pos a,if_pos i]
   rw[c] at *
   clear a c;go_enter func156,ntmps156;go_wp2
   go_region_held3 (λW=>β w w W) (first|(exact f)|assumption)
    (first
      | (go_at_call 213;refine cEq (g _) λw' rfl=>?_)
      | (go_at_call 212;refine cEq (j _) λn d=>?_;have m:=jaF (by assumption:β w w _) (d.mono (jbI (by assumption)))))
   all_goals
    go_wp2;go_ret;exact⟨rP b.symm,by assumption⟩
  | false =>
   have b:χ (cZ s=3):=by unfold χ cZ;rw[if_pos a,if_neg (by rw[i];decide)]
   rw[c] at *
   clear a c;go_enter func156,ntmps156;go_wp2
   go_region_held3 (λW=>β w w W) (first|(exact f)|assumption)
    (first
      | (go_at_call 213;refine cEq (g _) λw' rfl=>?_)
      | (go_at_call 212;refine cEq (j _) λn d=>?_;have m:=jaF (by assumption:β w w _) (d.mono (jbI (by assumption)))))
   all_goals
    go_wp2;go_ret;exact⟨rP b.symm,by assumption⟩
 .have g1:((s.size:Int) != 16)=true:=by simp;omega
  have b:χ (cZ s=1):=by unfold χ cZ;rw[if_neg a]
  go_enter func156,ntmps156;go_wp2;go_ret;exact⟨rP b.symm,ja0 _ _⟩
def ru{n a b}(h:a<=n/\n<=b):inB n a b=true:=decide_eq_true h
def yK{n a b}(h:¬(a<=n/\n<=b)):inB n a b=false:=decide_eq_false h
def qp(c p b:Int)(w) :
  κ prog 27 #[.agg #[c,p,b]] w λe w'=>e=.returned (erV (HV.fault ⟨c,p,b⟩))/\β w w w':=by
 have i:β w w (w.alloc (.cells #[c,p,b] 67)):=(ja0 _ _).alloc (ja1 _) _
 have j:(∃ H:χ (erV (HV.fault ⟨c,p,b⟩)=.nilIface),inB c 1 32=true/\inB p 0 40=true/\inB b (-1) 4=true)\/∃ H:χ (erV (HV.fault ⟨c,p,b⟩)=.iface 96 (.int .i64 1)),(inB c 1 32=false)\/(inB c 1 32=true/\inB p 0 40=false)\/(inB c 1 32=true/\inB p 0 40=true/\inB b (-1) 4=false):=by
  unfold χ HV.fault HV.ok;simp only[decide_eq_true_eq];by_cases a:1<=c/\c<=32
  .by_cases d:0<=p/\p<=40
   .by_cases f : -1<=b/\b<=4
    .exact .inl ⟨by rw[if_pos ⟨a.1,a.2,d.1,d.2,f.1,f.2⟩];exact aJ,ru a,ru d,ru f⟩
    .exact .inr ⟨by rw[if_neg (by omega)];exact eX,.inr (.inr ⟨ru a,ru d,yK f⟩)⟩
   .exact .inr ⟨by rw[if_neg (by omega)];exact eX,.inr (.inl ⟨ru a,yK d⟩)⟩
  .exact .inr ⟨by rw[if_neg (by omega)];exact eX,.inl (yK a)⟩
 rcases j with⟨g,g1,g2,g3⟩|⟨g,g1|⟨g1,g2⟩|⟨g1,g2,g3⟩⟩
 .go_enter func27,ntmps27;go_wp2_with (go_at_call 96;refine cEq (mM _ _ _ _) λw' rfl=>?_)
  go_ret;exact⟨mg g.symm,i⟩
 all_goals
  go_enter func27,ntmps27;go_wp2_with (go_at_call 96;refine cEq (mM _ _ _ _) λw' rfl=>?_)
  go_ret;exact⟨mg g.symm,i⟩
def qB(c p b:Int)(w) :
  κ prog 33 #[.agg #[c,p,b]] w λe w'=>e=.returned (HV.fault ⟨c,p,b⟩)/\β w w w':=by
 have g:β w w (w.alloc (.cells #[c,p,b] 67)):=(ja0 _ _).alloc (ja1 _) _;by_cases i:1<=c/\c<=32/\0<=p/\p<=40 /\ -1<=b/\b<=4
 .have d:χ (HV.fault ⟨c,p,b⟩=0):=if_pos (decide_eq_true i);have g1:decide (c<1)=false:=by simp;omega
  have g2:decide (32<c)=false:=by simp;omega
  have g3:decide (p<0)=false:=by simp;omega
  have a:decide (40<p)=false:=by simp;omega
  have f:decide (b < -1)=false:=by simp;omega
  have k:decide (4<b)=false:=by simp;omega
  go_enter func33,ntmps33;go_wp2;go_ret;exact⟨rP d.symm,g⟩
 .have d:χ (HV.fault ⟨c,p,b⟩=1):=if_neg (λh=>i (of_decide_eq_true h))
  have j:decide (c<1)=true\/(decide (c<1)=false/\decide (32<c)=true)\/(decide (c<1)=false/\decide (32<c)=false/\decide (p<0)=true)\/(decide (c<1)=false/\decide (32<c)=false/\decide (p<0)=false/\decide (40<p)=true) \/
    (decide (c<1)=false/\decide (32<c)=false/\decide (p<0)=false/\decide (40<p)=false/\decide (b < -1)=true)\/(decide (c<1)=false/\decide (32<c)=false/\decide (p<0)=false/\decide (40<p)=false/\decide (b < -1)=false/\decide (4<b)=true):=by
   simp only[decide_eq_true_eq,decide_eq_false_iff_not];omega
  rcases j with g1|⟨g1,g2⟩|⟨g1,g2,g3⟩|⟨g1,g2,g3,a⟩|⟨g1,g2,g3,a,f⟩|⟨g1,g2,g3,a,f,k⟩
  all_goals
   go_enter func33,ntmps33;go_wp2;go_ret;exact⟨rP d.symm,g⟩
def oQ{W a:ω}(c:β W W a):(∀ b o,b<W.heap.size->a.cell? ⟨b,o,O⟩=W.cell? ⟨b,o,O⟩)/\(∀ b o,b<W.heap.size->a.frozen? ⟨b,o,O⟩=W.frozen? ⟨b,o,O⟩) :=
 ⟨λb o h=>c.cell  h,λb o h=>c.frozen  h⟩
def HV.dS{h:HV}(a:h.ok=true):1<=h.c/\h.c<=32/\0<=h.p/\h.p<=40 /\ -1<=h.b/\h.b<=4:=of_decide_eq_true a
def EM(w:ω)(l t j)(a:j<l.length):(w.alloc (.cells (byV l).toArray t)).cell? ⟨w,j,O⟩=S (.int .u8 (l.getD j 0)):=by
 rw[cell_of_row _ _ _ _ _ _ (heap_alloc_new w _),jaE];exact uJ l j a
def Jg(w:ω)(l)(N:Nat)(a:w=N)(b:l.length<=12):(w.alloc (.cells (byV l).toArray 5)).ownsRow N 5 1 (.slice (S ⟨N,0,O⟩) l.length l.length) l.length (byV l):=by
 subst a;refine⟨by simp[byV],.inr ⟨w.heap.size,l.length,(byV l).toArray,rfl,ja1 _,heap_alloc_new w _,ja1 _,by unfold maxLen;omega,by simp[byV],?_⟩⟩;rw[jaf (by simp[byV])]
def GX(c p b w)(f:HV.ok ⟨c,p,b⟩=true) :
  κ prog 175 #[.agg #[c,p,b]] w λe w'=>e=.returned (.tuple #[.string (gK [83,89,c,p,b+1]),.nilIface])/\β w w w':=by
 have g:=qp c p b (w.alloc (.cells #[c,p,b] 67));have i:erV (HV.fault ⟨c,p,b⟩)=.nilIface:=by unfold HV.fault;rw[if_pos f];exact aJ
 rw[i] at g;obtain⟨g1,g2,g3,k,n,l⟩:=HV.dS f;simp only at *
 go_enter func175,ntmps175;go_wp2_with fail;refine cEq g λd a=>?_
 obtain⟨q,m⟩:=oQ a;have r:w.heap.size<d:=by have:=a.size;simp at *;omega
 go_wp2_with fail;refine(J8 [83,89,c,p,b+1] _ 5 _ (by simp) ?_ (EM d _ 5)).mono ?_
 .simp
 rintro e o ⟨rfl,j⟩;go_wp2;go_ret2;exact⟨rfl,((((ja0 _ _).alloc (ja1 _) _).trans (a.mono (by simp))).alloc (by omega) _).trans (j.mono (by simp;omega))⟩
def GV(c p b w)(f:HV.ok ⟨c,p,b⟩=false) :
  κ prog 175 #[.agg #[c,p,b]] w λe w'=>e=.returned (.tuple #[.string ⟨#[]⟩,.iface 96 (.int .i64 1)])/\β w w w':=by
 have a:=qp c p b (w.alloc (.cells #[c,p,b] 67));have d:erV (HV.fault ⟨c,p,b⟩)=.iface 96 (.int .i64 1):=by unfold HV.fault;rw[if_neg (by rw[f];decide)];exact eX
 rw[d] at a;go_enter func175,ntmps175;go_wp2_with fail;refine cEq a λi g=>?_
 go_wp2;go_ret2;exact⟨rfl,((ja0 _ _).alloc (ja1 _) _).trans (g.mono (by simp))⟩
def BU(c p b w)(d:HV.ok ⟨c,p,b⟩=true) :
  κ prog 111 #[.agg #[c,p,b]] w λe w'=>e=.returned (.string (gK [83,89,c,p,b+1]))/\β w w w':=by
 obtain⟨g1,g2,g3,f,i,g⟩:=HV.dS d;simp only at *
 go_enter func111,ntmps111;go_wp2_with fail;refine(Ju [83,89,c,p,b+1] _ _ 5 _ (by simp) ?_ (Jg _ _ _ (by simp) (by simp))).mono ?_
 .simp
 rintro e j ⟨rfl,a⟩;go_wp2;go_ret;exact⟨rfl,(((ja0 _ _).alloc (ja1 _) _).alloc (by simp) _).trans (a.mono (by omega))⟩
def lK{w:ω}{a c C t o}(b:β (w.alloc (.cells C t)).heap.size (w.alloc (.cells C t)) a)(f:β (a.alloc o).drew.heap.size (a.alloc o).drew c)(i v)(d:C[i]?=S v) :
  c.cell? ⟨w,i,O⟩=S v:=by
 have g:=b.size;simp at *
 rw[f.cell (by simp;omega)];show(a.alloc o).cell? _=_
 rw[jas _ _ _ (by omega),b.cell (by simp),cell_of_row _ _ _ _ _ _ (heap_alloc_new w _)];exact d
def below3{w:ω}{a g o b}(d:β (w.alloc o).heap.size (w.alloc o) a)(i:β (a.alloc b).drew.heap.size (a.alloc b).drew g):β w w g:=by
 have j:=d.size;have f  := ((ja0 _ _).alloc (ja1 _) _).trans (d.mono (by simp));have c:β _ w (a.alloc b).drew:=(f.alloc f.size _).drew;exact c.trans (i.mono c.size)
def zO{s}(a:cZ s=0):s.size=16:=by
 unfold cZ at *
 omega
def zn(s)(h:s.size=16):∃b a c,((s[2]'b).toNat:Int)=bAt s 2/\((s[3]'a).toNat:Int)=bAt s 3/\((s[4]'c).toNat:Int)=bAt s 4 :=
 ⟨by omega,by omega,by omega,oP s 2 _,oP s 3 _,oP s 4 _⟩
def Vo(s w)(a:cZ s≠0) :
  κ prog 148 #[s] w λe w'=>e=.returned (.tuple #[.agg (iq s).cells,erV (dW s)])/\β w w w':=by
 have d:=xX s (w.alloc (.cells #[(0:Int),(0:Int),(0:Int)] 67));have g:dW s=cZ s:=by unfold dW;rw[if_neg a]
 have j:iq s=HV.zero:=by unfold iq;rw[if_neg (λh=>a h.1)]
 have b:erV (cZ s)=.iface 96 (.int .i64 (cZ s)):=by unfold erV;rw[if_neg a]
 rw[g,j,b];rw[b] at d;generalize cZ s=f at *
 go_enter func148,ntmps148;go_wp2_with fail;refine cEq d λl c=>?_
 obtain⟨i,k⟩:=oQ c;go_wp2;exact bodyPost_ret (v:=.tuple #[.agg #[(0:Int),(0:Int),(0:Int)],.iface 96 _]) (by simp[results,results148,go_sem,i]) rfl ⟨rfl,((((((ja0 _ _).alloc (ja1 _) _).trans (c.mono (by simp))).setCell (by simp) _).setCell (by simp) _).setCell (by simp) _)⟩
def QW(s)(d:cZ s=0):∃ X E,(∀ W,κ prog 175 #[.agg #[bAt s 2,bAt s 3,(bAt s 4-1:Int)]] W λe w'=>e=.returned (.tuple #[.string X,E])/\β W W w') /\
  (((∃ fl,E=.iface 96 (.int .i64 fl))\/E=.nilIface/\(X.toList==s.toList)=false)/\(iq s).cells = #[.int .i64 0,.int .i64 0,.int .i64 0]/\erV (dW s)=.iface 96 (.int .i64 2)\/E=.nilIface/\(X.toList==s.toList)=true/\(iq s).cells = #[.int .i64 (bAt s 2),.int .i64 (bAt s 3),.int .i64 (bAt s 4-1)]/\erV (dW s)=.nilIface):=by
 have f:nP s=false->(iq s).cells = #[.int .i64 0,.int .i64 0,.int .i64 0]/\erV (dW s)=.iface 96 (.int .i64 2):=λc=>by
  unfold dW iq;rw[c,if_neg (λh=>by cases h.2),if_pos d,if_neg (by decide)];exact⟨rfl,yD⟩
 cases a:(qZ s).ok with
 | true =>
  refine⟨_,_,λW=>GX _ _ _ W a,?_⟩
  cases b:((gK (qZ s).bytes).toList==s.toList) with
  | false=>exact .inl ⟨.inr ⟨rfl,b⟩,f (by unfold nP;rw[b,jbw])⟩
  | true =>
   have c:nP s=true:=by unfold nP;rw[b,a];rfl
   refine .inr ⟨rfl,b,?_⟩;unfold dW iq;rw[if_pos d,if_pos c,if_pos ⟨d,c⟩];exact⟨rfl,aJ⟩
 | false=>exact⟨_,_,λW=>GV _ _ _ W a,.inl ⟨.inl ⟨_,rfl⟩,f (by unfold nP;rw[a];rfl)⟩⟩
def Vm(s w)(c:cZ s=0) :
  κ prog 148 #[s] w λe w'=>e=.returned (.tuple #[.agg (iq s).cells,erV (dW s)])/\β w w w':=by
 have j:=xX s (w.alloc (.cells #[(0:Int),(0:Int),(0:Int)] 67));obtain⟨X,E,i,g⟩:=QW s c;have f:s.size=16:=zO c;obtain⟨u,K,A,J,z,L⟩:=zn s f;obtain⟨P,u2⟩:=jA s 2;obtain⟨B,u3⟩:=jA s 3;obtain⟨G,u4⟩:=jA s 4;have q:=ah i;have r:=ah g;rw[c,aJ] at *
 have o:=ah j;generalize (iq s).cells=D at *
 generalize erV (dW s)=V at *
 clear j c i g f;generalize bAt s 2=M at *
 generalize bAt s 3=y at *
 generalize bAt s 4=x at *
 go_enter func148,ntmps148;go_wp2_with fail;refine o.mono ?_;rintro e d ⟨rfl,b⟩;obtain⟨Q,H⟩:=oQ b;have F:w.heap.size<d:=by have:=b.size;simp at *;omega
 go_wp2;go_region;go_wp2_with fail;refine(q _).mono ?_;rintro e t ⟨rfl,a⟩;obtain⟨I,N⟩:=oQ a;have C:d.heap.size<t:=by have:=a.size;simp at *;omega
 have m:χ (β w w _):=below3 b a;have k:=lK b a 0 _ rfl;have n:=lK b a 1 _ rfl;have q2:=lK b a 2 _ rfl;rcases r with⟨⟨fl,rfl⟩|⟨rfl,l⟩,rfl,rfl⟩|⟨rfl,l,rfl,rfl⟩
 all_goals
  go_wp2;exact bodyPost_ret (v:=.tuple #[.agg _,_]) (by simp[results,results148,go_sem,k,n,q2]) rfl ⟨rfl,((m.setCell (ja1 _) _).setCell (ja1 _) _).setCell (ja1 _) _⟩
def Jp(s:ByteArray)(w) :
  κ prog 148 #[s] w λe w'=>e=.returned (.tuple #[.agg (iq s).cells,erV (dW s)])/\β w w w':=by
 by_cases a:cZ s=0
 .exact Vm s w a
 .exact Vo s w a
def DL{s}(h:cZ s≠0):0<cZ s:=by
 unfold cZ at *
 omega
def rD{w:ω}{b a d C t o}(g:β (w.alloc (.cells C t)).heap.size (w.alloc (.cells C t)) b)(k:β (b.alloc o).drew.heap.size (b.alloc o).drew a)(j:β a a d)(i v)(f:C[i]?=S v) :
  d.cell? ⟨w,i,O⟩=S v:=by
 have c:=lK g k i v f;rw[j.cell (ja2 a _ c)];exact c
def ni{w:ω}{a c C t o}(b:β (w.alloc (.cells C t)).heap.size (w.alloc (.cells C t)) a)(d:β (a.alloc o).drew.heap.size (a.alloc o).drew c)(i) :
  c.frozen? ⟨w,i,O⟩=false:=by
 have f:=b.size;simp at *
 rw[d.frozen (by simp;omega)];show(a.alloc o).frozen? _=_
 rw[jb2 _ _ _ (by omega),b.frozen (by simp),frozen_of_row _ _ _ _ _ (heap_alloc_new w _)]
def rE{w:ω}{a b c C t o}(d:β (w.alloc (.cells C t)).heap.size (w.alloc (.cells C t)) a)(f:β (a.alloc o).drew.heap.size (a.alloc o).drew b)(g:β b b c)(i) :
  c.frozen? ⟨w,i,O⟩=false:=by
 have j:=d.size;have k:=f.size;have l:(a.alloc o).drew.heap.size=a.heap.size+1:=by simp
 simp at j;rw[g.frozen (by show w.heap.size<b;omega)];exact ni d f i
def mX{a:ω}{b C t}(c:β (a.alloc (.cells C t)).drew.heap.size (a.alloc (.cells C t)).drew b)(i v)(d:C[i]?=S v):b.cell? ⟨a,i,O⟩=S v:=by
 rw[c.cell (by simp)];simp_all
def qR{b:ω}{a d C t}(j:β (b.alloc (.cells C t)).drew.heap.size (b.alloc (.cells C t)).drew a)(g:β a a d)(i v)(f:C[i]?=S v):d.cell? ⟨b,i,O⟩=S v:=by
 have c:=mX j i v f;rw[g.cell (ja2 a _ c)];exact c
def Ez{w:ω}{a b f o c}(d:β (w.alloc o).heap.size (w.alloc o) a)(g:β (a.alloc c).drew.heap.size (a.alloc c).drew b)(i:β b b f):β w w f :=
 (below3 d g).trans (i.mono (below3 d g).size)
def VH(s w)(a:cZ s≠0) :
  κ prog 154 #[s] w λe w'=>e=.returned (.tuple #[.agg (iq s).cells,dW s])/\β w w w':=by
 have i:=yV s (w.alloc (.cells #[(0:Int),(0:Int),(0:Int)] 67));have c:dW s=cZ s:=by unfold dW;rw[if_neg a]
 have g:iq s=HV.zero:=by unfold iq;rw[if_neg (λh=>a h.1)]
 have j:=DL a;rw[c,g];generalize cZ s=f at *
 go_enter func154,ntmps154;go_wp2_with fail;refine cEq i λl b=>?_
 obtain⟨d,k⟩:=oQ b;go_wp2;exact bodyPost_ret (v:=.tuple #[.agg #[(0:Int),(0:Int),(0:Int)],f]) (by simp[results,results154,go_sem,d]) rfl ⟨rfl,((((((ja0 _ _).alloc (ja1 _) _).trans (b.mono (by simp))).setCell (by simp) _).setCell (by simp) _).setCell (by simp) _)⟩
def VI(s)(c:cZ s=0):∃ F X,(∀ W,κ prog 33 #[.agg #[bAt s 2,bAt s 3,(bAt s 4-1:Int)]] W λe w'=>e=.returned (.int .i64 F)/\β W W w') /\
  (0<F/\(iq s).cells = #[.int .i64 0,.int .i64 0,.int .i64 0]/\dW s=2\/F=0/\(∀ W,κ prog 111 #[.agg #[bAt s 2,bAt s 3,(bAt s 4-1:Int)]] W λe w'=>e=.returned (.string X)/\β W W w')/\((X.toList==s.toList)=false/\(iq s).cells = #[.int .i64 0,.int .i64 0,.int .i64 0]/\dW s=2\/(X.toList==s.toList)=true/\(iq s).cells = #[.int .i64 (bAt s 2),.int .i64 (bAt s 3),.int .i64 (bAt s 4-1)]/\dW s=0)):=by
 have f:nP s=false->(iq s).cells = #[.int .i64 0,.int .i64 0,.int .i64 0]/\dW s=2:=λb=>by
  unfold dW iq;rw[b,if_neg (λh=>by cases h.2),if_pos c,if_neg (by decide)];exact⟨rfl,rfl⟩
 refine⟨_,gK (qZ s).bytes,λW=>qB _ _ _ W,?_⟩
 cases a:(qZ s).ok with
 | true =>
  refine .inr ⟨if_pos a,λW=>BU _ _ _ W a,?_⟩
  cases d:((gK (qZ s).bytes).toList==s.toList) with
  | false=>exact .inl ⟨rfl,f (by unfold nP;rw[d,jbw])⟩
  | true =>
   have b:nP s=true:=by unfold nP;rw[d,a];rfl
   refine .inr ⟨rfl,?_⟩;unfold dW iq;rw[if_pos c,if_pos b,if_pos ⟨c,b⟩];exact⟨rfl,rfl⟩
 | false=>exact .inl ⟨by rw[show HV.fault ⟨bAt s 2,bAt s 3,bAt s 4-1⟩=1 from if_neg (by rw[show HV.ok ⟨bAt s 2,bAt s 3,bAt s 4-1⟩=false from a];decide)];decide,f (by unfold nP;rw[a];rfl)⟩
def VG(s w)(d:cZ s=0) :
  κ prog 154 #[s] w λe w'=>e=.returned (.tuple #[.agg (iq s).cells,dW s])/\β w w w':=by
 have o:=yV s (w.alloc (.cells #[(0:Int),(0:Int),(0:Int)] 67));obtain⟨F,X,m,l⟩:=VI s d;have k:s.size=16:=zO d;obtain⟨G,U,L,T,K,W⟩:=zn s k;obtain⟨Z,u2⟩:=jA s 2;obtain⟨P,u3⟩:=jA s 3;obtain⟨Q,u4⟩:=jA s 4;have A:=ah m;have B:=ah l;rw[d] at *
 have y:=ah o;generalize (iq s).cells=D at *
 generalize dW s=V at *
 clear o d m l k;generalize bAt s 2=Y at *
 generalize bAt s 3=J at *
 generalize bAt s 4=I at *
 go_enter func154,ntmps154;go_wp2_with fail;refine y.mono ?_;rintro e q ⟨rfl,b⟩;obtain⟨M,R⟩:=oQ b;have N:w.heap.size<q:=by have:=b.size;simp at *;omega
 go_wp2;go_region;go_wp2_with fail;refine(A _).mono ?_;rintro e w2 ⟨rfl,a⟩;have j:=mX a 0 _ rfl;have r1:=mX a 1 _ rfl;have r2:=mX a 2 _ rfl;rcases B with⟨z,rfl,rfl⟩|⟨rfl,n,hd⟩
 .have hd:decide (0<F)=true:=by simpa using z
  have f:=lK b a 0 _ rfl;have u:=ni b a 0;have i:=lK b a 1 _ rfl;have x:=ni b a 1;have q2:=lK b a 2 _ rfl;have C:=ni b a 2;have g:χ (β w w _):=below3 b a;go_wp2;exact bodyPost_ret (v:=.tuple #[.agg _,_]) (by simp[results,results154,go_sem,f,i,q2]) rfl ⟨rfl,((g.setCell (ja1 _) _).setCell (ja1 _) _).setCell (ja1 _) _⟩
 .have r:=ah n;have E:=ah hd;clear n hd;go_wp2_with fail;clear j r1 r2;refine(r _).mono ?_;rintro e H ⟨rfl,c⟩;have j:=qR a c 0 _ rfl;have f:=rD b a c 0 _ rfl;have u:=rE b a c 0;have r1:=qR a c 1 _ rfl;have i:=rD b a c 1 _ rfl;have x:=rE b a c 1;have r2:=qR a c 2 _ rfl;have q2:=rD b a c 2 _ rfl;have C:=rE b a c 2;have g:χ (β w w _):=Ez b a c;rcases E with⟨t,rfl,rfl⟩|⟨t,rfl,rfl⟩
  all_goals
   go_wp2;exact bodyPost_ret (v:=.tuple #[.agg _,_]) (by simp[results,results154,go_sem,f,i,q2]) rfl ⟨rfl,((g.setCell (ja1 _) _).setCell (ja1 _) _).setCell (ja1 _) _⟩
def Jt(s:ByteArray)(w) :
  κ prog 154 #[s] w λe w'=>e=.returned (.tuple #[.agg (iq s).cells,dW s])/\β w w w':=by
 by_cases a:cZ s=0
 .exact VG s w a
 .exact VH s w a
def qE{a b:Int}(h:a≠b):(a==b)=false/\(a != b)=true:=by simp[h]
def tu{a b:Int}(h:a=b):(a==b)=true/\(a != b)=false:=by simp[h]
def bP(k p a:Int):Bool:=decide ((k=2/\0<=p/\p<a)\/((k=0\/k=1)/\p=0))
def lI{k p n}(h:(k=2/\0<=p/\p<n)\/((k=0\/k=1)/\p=0)):bP k p n=true:=decide_eq_true h
def AZ{k p n}(h:¬((k=2/\0<=p/\p<n)\/((k=0\/k=1)/\p=0))):bP k p n=false:=decide_eq_false h
def jS{k p n}(h:bP k p n=true):(k=2/\0<=p/\p<n)\/((k=0\/k=1)/\p=0):=of_decide_eq_true h
def PK{k p n}(h:bP k p n=false):¬((k=2/\0<=p/\p<n)\/((k=0\/k=1)/\p=0)):=of_decide_eq_false h
def uU(k p:Int)(w) :
  κ prog 229 #[.agg #[k,p]] w λe w'=>e=.returned (.bool (bP k p 40))/\β w w w':=by
 have c:β w w (w.alloc (.cells #[k,p] 168)):=(ja0 _ _).alloc (ja1 _) _;by_cases b:k=0
 .have a:χ (bP k p 40=(p==0)):=by
   unfold χ;rw[jaG,beq_iff_eq];exact⟨λh=>by have:=jS h;omega,λh=>lI (.inr ⟨.inl b,h⟩)⟩
  obtain⟨l,v2⟩:=tu b;clear b;go_enter func229,ntmps229;go_wp2;go_ret;exact⟨o7 a.symm,c⟩
 .by_cases d:k=1
  .have a:χ (bP k p 40=(p==0)):=by
    unfold χ;rw[jaG,beq_iff_eq];exact⟨λh=>by have:=jS h;omega,λh=>lI (.inr ⟨.inr d,h⟩)⟩
   obtain⟨g,j⟩:=tu d;clear b d;go_enter func229,ntmps229;go_wp2;go_ret;exact⟨o7 a.symm,c⟩
  .by_cases f:k=2
   .have a:χ (bP k p 40=inB p 0 39):=by
     unfold χ;rw[jaG];exact⟨λh=>ru (by have:=jS h;omega),λh=>lI (.inl ⟨f,by have:=of_decide_eq_true h;omega⟩)⟩
    obtain⟨m,i⟩:=tu f;clear b d f;go_enter func229,ntmps229;go_wp2_with (go_at_call 96;refine cEq (mM _ _ _ _) λw' rfl=>?_)
    go_ret;exact⟨o7 a.symm,c⟩
   .have a:χ (bP k p 40=false):=AZ (by omega);go_enter func229,ntmps229;go_wp2;go_ret;exact⟨o7 a.symm,c⟩
def FU(k p n:Int)(w) :
  κ prog 178 #[.agg #[k,p],n] w λe w'=>e=.returned (.bool (bP k p n))/\β w w w':=by
 have d:β w w (w.alloc (.cells #[k,p] 168)):=(ja0 _ _).alloc (ja1 _) _;by_cases b:k=2
 .obtain⟨q,m⟩:=tu b;by_cases f:0<=p
  .have a:χ (bP k p n=decide (p<n)):=by
    unfold χ;rw[jaG,decide_eq_true_eq];exact⟨λh=>by have:=jS h;omega,λh=>lI (.inl ⟨b,f,h⟩)⟩
   have i:decide (0<=p)=true:=decide_eq_true f;clear b;go_enter func178,ntmps178;go_wp2;go_ret;exact⟨o7 a.symm,d⟩
  .have a:χ (bP k p n=false):=AZ (by omega);have i:decide (0<=p)=false:=decide_eq_false f;clear b;go_enter func178,ntmps178;go_wp2;go_ret;exact⟨o7 a.symm,d⟩
 .by_cases c:k=0
  .have a:χ (bP k p n=(p==0)):=by
    unfold χ;rw[jaG,beq_iff_eq];exact⟨λh=>by have:=jS h;omega,λh=>lI (.inr ⟨.inl c,h⟩)⟩
   obtain⟨j,v2⟩:=tu c;clear c b;go_enter func178,ntmps178;go_wp2;go_ret;exact⟨o7 a.symm,d⟩
  .obtain⟨j,v2⟩:=qE c;by_cases g:k=1
   .have a:χ (bP k p n=(p==0)):=by
     unfold χ;rw[jaG,beq_iff_eq];exact⟨λh=>by have:=jS h;omega,λh=>lI (.inr ⟨.inr g,h⟩)⟩
    obtain⟨l,o⟩:=tu g;clear c g b;go_enter func178,ntmps178;go_wp2;go_ret;exact⟨o7 a.symm,d⟩
   .have a:χ (bP k p n=false):=AZ (by omega);go_enter func178,ntmps178;go_wp2;go_ret;exact⟨o7 a.symm,d⟩
def aB(n:Nat):Nat:=(n+7) / 8
def rX(n:Nat)(w)(h:n<=50) :
  κ prog 101 #[(n:Int)] w λe w'=>e=.returned (aB n:Int)/\w'=w:=by
 go_enter func101,ntmps101;go_wp2;go_ret;exact⟨rP (by unfold aB;omega),rfl⟩
def qG(n:Nat)(w)(h:n<=50) :
  κ prog 107 #[(n:Int)] w λe w'=>e=.returned (aB n:Int)/\w'=w:=by
 go_enter func107,ntmps107;go_wp2;go_loop [3] (λi=>∃ k:Nat,k<=aB n/\i=.int .i64 k) (λi=>aB n-(intOf i).toNat)
 case atStart=>exact⟨0,ja7 _,rfl⟩
 case round =>
  obtain⟨k,b,rfl⟩:=hrel;by_cases d:k<aB n
  .have f:8*k<n:=by unfold aB at *;omega
   go_wp2;go_round
   case rel=>exact⟨k+1,by omega,by go_num⟩
   case measure=>simp[intOf];omega
  .have f:n<=8*k:=by unfold aB at *;omega
   have g:k<=10:=by unfold aB at *;omega
   have a:k=aB n:=by omega
   have c:χ _:=a;clear a b d;go_wp2;go_ret;exact⟨rP (by rw[c.out]),rfl⟩
def mO(w:ω)(la:Option Addr)(len:Nat)(ts:List (Int × Int)):Prop :=
 ts.length=len/\∀ k,k<len->∃ b a,la=S ⟨b,a,O⟩/\w.cell? ⟨b,a+k*2,O⟩=S (.int .i64 (ts.getD k (0,0)).1)/\w.cell? ⟨b,a+k*2+1,O⟩=S (.int .i64 (ts.getD k (0,0)).2)
def mO.below{w w' la len ts}(h:mO w la len ts)(d:β w w w'):mO w' la len ts:=by
 refine⟨h.1,λk f=>?_⟩;obtain⟨b,g,e,c,a⟩:=h.2 k f;exact⟨b,g,e,by rw[d.cell (ja2 w _ c)];exact c,by rw[d.cell (ja2 w _ a)];exact a⟩
def kF(ts:List (Int × Int))(r k:Nat):List Int:=(List.range 16).map λj=>if j / 2<k then (if j % 2=0 then (ts.getD (r*8+j / 2) (0,0)).1 else (ts.getD (r*8+j / 2) (0,0)).2) else 0
def Du(ts r k):(kF ts r k).length=16:=by simp[kF]
def JJ(ts r):kF ts r 0=List.replicate 16 0:=by
 simp[kF,List.map_const']
def JI(ts r k):kF ts r (k+1)=((kF ts r k).set (k*2) (ts.getD (r*8+k) (0,0)).1).set (k*2+1) (ts.getD (r*8+k) (0,0)).2:=by
 apply jbU;intro j;by_cases b:j<16
 .rw[jbV,jbV];by_cases f:k*2+1=j
  .have a:j / 2=k:=by omega
   have c:¬j % 2=0:=by omega
   simp[kF,b,f,a,c]
  .rw[if_neg f];by_cases d:k*2=j
   .have a:j / 2=k:=by omega
    have c:j % 2=0:=by omega
    simp[kF,b,d,a,c]
   .rw[if_neg d];have a:j / 2<k+1↔j / 2<k:=by omega
    simp[kF,b,a]
 .rw[jaj (by rw[Du];omega),jaj (by rw[jal,jal,Du];omega)]
def Wp(ts r k)(h:ts.length<=r*8+k):kF ts r k=kF ts r 8:=by
 apply jb4;intro j b;have c:=List.mem_range.1 b;have a:j / 2<8:=by omega
 rw[if_pos a];by_cases e:j / 2<k
 .rw[if_pos e]
 .have:ts.getD (r*8+j / 2) (0,0)=(0,0):=by
   rw[ja6,jaj (by omega)];rfl
  simp_all
def rowOk(ts:List (Int × Int))(r:Nat):Bool:=(List.range 8).all λi=>bP (ts.getD (r*8+i) (0,0)).1 (ts.getD (r*8+i) (0,0)).2 40
def rV(ts:List (Int × Int))(row:Int):Bool:=decide (ts.length<=32/\0<=row/\row<aB ts.length)
def iJ(ts:List (Int × Int))(row:Int):Int:=if rV ts row=true then (if rowOk ts row.toNat=true then 0 else 2) else 1
def eH(ts:List (Int × Int))(row:Int):ByteArray:=if iJ ts row=0 then strOfNums (kF ts row.toNat 8) else ⟨#[]⟩
def JG{ts r i}(a:i<8)(h:bP (ts.getD (r*8+i) (0,0)).1 (ts.getD (r*8+i) (0,0)).2 40=false):rowOk ts r=false:=by
 unfold rowOk;rw[List.all_eq_false];exact⟨i,List.mem_range.2 a,by rw[h];decide⟩
def Dt{ts r k}(b:ts.length<=r*8+k\/8<=k)(h:∀ i,i<k->bP (ts.getD (r*8+i) (0,0)).1 (ts.getD (r*8+i) (0,0)).2 40=true):rowOk ts r=true:=by
 unfold rowOk;rw[List.all_eq_true];intro i a;have c:=List.mem_range.1 a;by_cases e:i<k
 .exact h i e
 .have:ts.getD (r*8+i) (0,0)=(0,0):=by
   rw[ja6,jaj (by omega)];rfl
  rw[this];decide
structure kG(w:ω)(N:Nat)(bs:List Int)(wr:ω):Prop where
 blk:wr.heap[N]?=S (.cells (byV bs).toArray 174 (0,0))
 bel:β w w wr
 len:bs.length=16
 new:w.heap.size<=N
def kG.cell{w wr N a}(h:kG w N a wr)(j)(b:j<16):wr.cell? ⟨N,j,O⟩=S (.int .u8 (a.getD j 0)):=by
 rw[cell_of_row _ _ _ _ _ _ h.blk,jaE];exact uJ a j (by rw[h.len];exact b)
def kG.frozen{w wr N a}(h:kG w N a wr)(j):wr.frozen? ⟨N,j,O⟩=false:=frozen_of_row _ _ _ _ _ h.blk
def nC{w:ω}{k:Nat}{o}(h:w.heap[k]?=S o):k<w:=by
 rcases jav k _ with a|a
 .exact a
 .simp_all
def kG.below{w wr a N b}(h:kG w N b wr)(c:β wr wr a):kG w N b a :=
 ⟨by rw[c.block N (nC h.blk)];exact h.blk,h.bel.trans (c.mono h.bel.size),h.len,h.new⟩
theorem kG.set{w wr N a}(h:kG w N a wr)(j v):kG w N (a.set j v) (wr.setCell ⟨N,j,O⟩ (.int .u8 v)):=by
 refine⟨?_,h.bel.setCell h.new _,by rw[jal];exact h.len,h.new⟩;rw[heap_setCell_same wr N j _ _ _ h.blk];simp[byV,List.map_set]
def kG.start(w):kG w w (List.replicate 16 0) (w.alloc (.cells #[(),(),(),(),(),(),(),(),(),(),(),(),(),(),(),()] 174)) :=
 ⟨heap_alloc_new w _,(ja0 _ _).alloc (ja1 _) _,by simp,ja1 _⟩
def kG.conv{w wr N a}(h:kG w N a wr):(convert 185 9 (.slice (S ⟨N,0,O⟩) 16 16)).run prog wr=.ok (.string (strOfNums a)) wr :=
 run_convert_bytes_arg  wr 185 5 underlying185 underlying5 N 0 16 16 a h.len (λi b=>by rw[jak];exact h.cell i b) 9 underlying9
def Ws(la len cap ts row w)(d:mO w la len ts)(k:len<=50)(a:rV ts row=false) :
  κ prog 174 #[.slice la len cap,row] w λe w'=>e=.returned (.tuple #[.string (eH ts row),erV (iJ ts row)])/\β w w w':=by
 have b:iJ ts row=1:=by unfold iJ;rw[if_neg (by rw[a];decide)]
 have c:eH ts row=⟨#[]⟩:=by unfold eH;rw[b,if_neg (by decide)]
 rw[c,b,eX];have g:=of_decide_eq_false a;rw[d.1] at *
 by_cases j:32<len
 .have g1:decide (32<(len:Int))=true:=by simp;omega
  go_enter func174,ntmps174;go_wp2;go_ret2;exact⟨rfl,ja0 _ _⟩
 .have g1:decide (32<(len:Int))=false:=by simp;omega
  have g2:inB row 0 ((aB len:Int)-1)=false:=yK (by omega);have g3:aB len<=7:=by unfold aB;omega
  have f:=ah (rX len w (by omega));generalize aB len=i at *
  go_enter func174,ntmps174;go_wp2_with (first|(go_at_call 101;refine f.mono ?_;rintro e w' ⟨rfl,rfl⟩)|(go_at_call 96;refine(mM _ _ _ _).mono ?_;rintro e w' ⟨rfl,rfl⟩))
  go_ret2;exact⟨rfl,ja0 _ _⟩
def row_in(b o len cap ts r w)(R:mO w (S ⟨b,o,O⟩) len ts)(a6:len<=32)(V:r<aB len)(a5:len<=cap) :
  κ prog 174 #[.slice (S ⟨b,o,O⟩) len cap,(r:Int)] w λe w'=>e=.returned (.tuple #[.string (eH ts r),erV (iJ ts r)])/\β w w w':=by
 have a2:rV ts r=true:=decide_eq_true (by rw[R.1];omega);have L:=ah (rX len w (by omega));have g1:decide (32<(len:Int))=false:=by simp;omega
 have g2:inB r 0 ((aB len:Int)-1)=true:=ru (by omega);have a7:r*8<len:=by unfold aB at V;omega
 have Z:aB len<=4:=by unfold aB;omega
 have C:=ah R;have X:=ah a2;obtain⟨P,W⟩:∃ P,P=aB len:=⟨_,rfl⟩;rw[<- W] at L g2 V Z;clear W
 obtain⟨cnt,a9,a8,a4⟩:∃ cnt:Nat,cnt<=8/\r*8+cnt<=len/\(cnt=8\/r*8+cnt=len):=by
  by_cases h:r*8+8<=len
  .exact⟨8,by omega,h,.inl rfl⟩
  .exact⟨len-r*8,by omega,by omega,.inr (by omega)⟩
 have Y:((r:Int)*8+8<=(len:Int)/\((r:Int)*8+8).toNat-r*8=cnt)\/(¬(r:Int)*8+8<=(len:Int)/\len-r*8=cnt):=by omega
 have U:χ (∀ k,k<cnt->bP (ts.getD (r*8+k) (0,0)).1 (ts.getD (r*8+k) (0,0)).2 40=false->erV (iJ ts r)=.iface 96 (.int .i64 2)/\eH ts r=⟨#[]⟩):=λk Q c=>by
  have y:iJ ts r=2:=by unfold iJ;rw[if_pos X.out,if_neg (by rw[show(r:Int).toNat=r from rfl,JG (by omega) c];decide)]
  exact⟨by rw[y];exact yD,by unfold eH;rw[y,if_neg (by decide)]⟩
 have N:χ ((∀ k,k<cnt->bP (ts.getD (r*8+k) (0,0)).1 (ts.getD (r*8+k) (0,0)).2 40=true)->erV (iJ ts r)=.nilIface/\strOfNums (kF ts r cnt)=eH ts r):=λh=>by
  have y:iJ ts r=0:=by unfold iJ;rw[if_pos X.out,if_pos (show rowOk ts (r:Int).toNat=true from Dt (by rw[C.out.1];omega) h)]
  refine⟨by rw[y];exact aJ,?_⟩;unfold eH;rw[if_pos y];rcases a4 with rfl|h3
  .rfl
  .rw[Wp ts r cnt (by rw[C.out.1];omega)];rfl
 rcases Y with⟨h8,T⟩|⟨h8,T⟩
 .have e8:cnt=8:=by omega
  subst e8;go_enter func174,ntmps174;go_wp2_with (first|(go_at_call 101;refine cSt L ?_)|(go_at_call 96;refine cSt (mM _ _ _ _) ?_))
  (try rw[show r*8+8-r*8=8 by omega]);go_loopw [34] (λi wr=>∃ k:Nat,k<=8/\i=.int .i64 k/\kG w w.heap.size (kF ts r k) wr/\∀ j,j<k->bP (ts.getD (r*8+j) (0,0)).1 (ts.getD (r*8+j) (0,0)).2 40=true) (λi _=>8-(intOf i).toNat)
  case atStart=>exact⟨0,ja7 _,rfl,by rw[JJ];exact kG.start w,λj G=>by omega⟩
  case round =>
   obtain⟨k,Q,rfl,f,B⟩:=hrel;by_cases I:k<8
   .obtain⟨b',a1,e,t,v⟩:=C.2 (r*8+k) (by omega);cases e;rw[<- f.bel.cell (ja2 w _ t),show o+(r*8+k)*2=o+r*8*2+k*2 by omega] at t;rw[<- f.bel.cell (ja2 w _ v),show o+(r*8+k)*2+1=o+r*8*2+k*2+1 by omega] at v;have A:χ (kF ts r (k+1)=((kF ts r k).set (k*2) (ts.getD (r*8+k) (0,0)).1).set (k*2+1) (ts.getD (r*8+k) (0,0)).2):=JI ts r k;have J:=ah (U k I);have q:=uU (ts.getD (r*8+k) (0,0)).1 (ts.getD (r*8+k) (0,0)).2 (wr.alloc (.cells #[.int .i64 (ts.getD (r*8+k) (0,0)).1,.int .i64 (ts.getD (r*8+k) (0,0)).2] 168))
    cases c:bP (ts.getD (r*8+k) (0,0)).1 (ts.getD (r*8+k) (0,0)).2 40 with
    | false =>
     have z:=ah (J c);have u:=ah f;rw[c] at q;have m:=ah q;generalize (ts.getD (r*8+k) (0,0)).1=a at t m;generalize (ts.getD (r*8+k) (0,0)).2=d at v m;go_wp2_with fail;refine cEq m λs l=>?_
     go_wp2;go_ret2;exact⟨by rw[z.out.1,z.out.2];rfl,(u.below (((ja0 _ _).alloc (ja1 _) _).trans (l.mono (by simp)))).bel⟩
    | true =>
     have E:χ (∀ j,j<k+1->bP (ts.getD (r*8+j) (0,0)).1 (ts.getD (r*8+j) (0,0)).2 40=true):=λj G=>by
      by_cases e:j=k
      .rw[e];exact c
      .exact B j (by omega)
     have u:=ah f;have H:=jS c;rw[c] at q;have m:=ah q;generalize (ts.getD (r*8+k) (0,0)).1=a at t m A H;generalize (ts.getD (r*8+k) (0,0)).2=d at v m A H;have k0:0<=a:=by omega
     have g:a<256:=by omega
     have p0:0<=d:=by omega
     have p1:d<256:=by omega
     go_wp2_with fail;refine cEq m λs l=>?_
     have n:=u.below (((ja0 _ _).alloc (ja1 _) _).trans (l.mono (by simp)));have b0:s.cell? ⟨wr,0,O⟩=S (a:υ):=by rw[l.cell (by simp),cell_of_row _ _ _ _ _ _ (heap_alloc_new wr _)];rfl
     have b1:s.cell? ⟨wr,1,O⟩=S (d:υ):=by rw[l.cell (by simp),cell_of_row _ _ _ _ _ _ (heap_alloc_new wr _)];rfl
     have c0:=n.cell (k*2) (by omega);have c1:=n.cell (k*2+1) (by omega);have f0:=n.frozen (k*2);have f1:=n.frozen (k*2+1);have i0:(k:Int)*2<16:=by omega
     have i1:(k:Int)*2+1<16:=by omega
     have K:=ah n;go_wp2;go_region;go_wp2;go_roundw
     case rel =>
      have M:=(K.set (k*2) a).set (k*2+1) d;rw[<- A.out] at *
      have fin:∃ g:Nat,g<=8/\Value.int .i64 ((k:Int)+1)=.int .i64 g/\kG w w.heap.size (kF ts r g) ((s.setCell ⟨w.heap.size,k*2,O⟩ (.int .u8 a)).setCell ⟨w.heap.size,k*2+1,O⟩ (.int .u8 d)).drew/\∀ j,j<g->bP (ts.getD (r*8+j) (0,0)).1 (ts.getD (r*8+j) (0,0)).2 40=true:=⟨k+1,by omega,by go_num,M.below ((ja0 _ _).drew),E⟩
      first|exact fin|((repeat apply Exists.intro);exact⟨fin,rfl⟩)
     case measure=>simp[intOf];omega
   .have D:k=8:=by omega
    subst D;have x:=ah (N B);have a3:=f.conv;have F:=ah f.bel;rw[x.out.2] at *
    go_wp2;go_ret2;exact⟨by rw[x.out.1];rfl,F⟩
 .have a0:=ah T;go_enter func174,ntmps174;go_wp2_with (first|(go_at_call 101;refine cSt L ?_)|(go_at_call 96;refine cSt (mM _ _ _ _) ?_))
  (first|rw[a0.out]|rw[show(min ((r:Int)*8+8) (len:Int)).toNat-r*8=cnt by omega]);go_loopw [34] (λi wr=>∃ k:Nat,k<=cnt/\i=.int .i64 k/\kG w w.heap.size (kF ts r k) wr/\∀ j,j<k->bP (ts.getD (r*8+j) (0,0)).1 (ts.getD (r*8+j) (0,0)).2 40=true) (λi _=>cnt-(intOf i).toNat)
  case atStart=>exact⟨0,ja7 _,rfl,by rw[JJ];exact kG.start w,λj G=>by omega⟩
  case round =>
   obtain⟨k,Q,rfl,f,B⟩:=hrel;by_cases I:k<cnt
   .obtain⟨b',a1,e,t,v⟩:=C.2 (r*8+k) (by omega);cases e;rw[<- f.bel.cell (ja2 w _ t),show o+(r*8+k)*2=o+r*8*2+k*2 by omega] at t;rw[<- f.bel.cell (ja2 w _ v),show o+(r*8+k)*2+1=o+r*8*2+k*2+1 by omega] at *
    have A:χ (kF ts r (k+1)=((kF ts r k).set (k*2) (ts.getD (r*8+k) (0,0)).1).set (k*2+1) (ts.getD (r*8+k) (0,0)).2):=JI ts r k;have J:=ah (U k I);have q:=uU (ts.getD (r*8+k) (0,0)).1 (ts.getD (r*8+k) (0,0)).2 (wr.alloc (.cells #[.int .i64 (ts.getD (r*8+k) (0,0)).1,.int .i64 (ts.getD (r*8+k) (0,0)).2] 168))
    cases c:bP (ts.getD (r*8+k) (0,0)).1 (ts.getD (r*8+k) (0,0)).2 40 with
    | false =>
     have z:=ah (J c);have u:=ah f;rw[c] at q;have m:=ah q;generalize (ts.getD (r*8+k) (0,0)).1=a at *
     generalize (ts.getD (r*8+k) (0,0)).2=d at *
     go_wp2_with fail;refine cEq m λs l=>?_
     go_wp2;go_ret2;exact⟨by rw[z.out.1,z.out.2];rfl,(u.below (((ja0 _ _).alloc (ja1 _) _).trans (l.mono (by simp)))).bel⟩
    | true =>
     have E:χ (∀ j,j<k+1->bP (ts.getD (r*8+j) (0,0)).1 (ts.getD (r*8+j) (0,0)).2 40=true):=λj G=>by
      by_cases e:j=k
      .rw[e];exact c
      .exact B j (by omega)
     have u:=ah f;have H:=jS c;rw[c] at q;have m:=ah q;generalize (ts.getD (r*8+k) (0,0)).1=a at *
     generalize (ts.getD (r*8+k) (0,0)).2=d at *
     have k0:0<=a:=by omega
     have g:a<256:=by omega
     have p0:0<=d:=by omega
     have p1:d<256:=by omega
     go_wp2_with fail;refine cEq m λs l=>?_
     have n:=u.below (((ja0 _ _).alloc (ja1 _) _).trans (l.mono (by simp)));have b0:s.cell? ⟨wr,0,O⟩=S (a:υ):=by rw[l.cell (by simp),cell_of_row _ _ _ _ _ _ (heap_alloc_new wr _)];rfl
     have b1:s.cell? ⟨wr,1,O⟩=S (d:υ):=by rw[l.cell (by simp),cell_of_row _ _ _ _ _ _ (heap_alloc_new wr _)];rfl
     have c0:=n.cell (k*2) (by omega);have c1:=n.cell (k*2+1) (by omega);have f0:=n.frozen (k*2);have f1:=n.frozen (k*2+1);have i0:(k:Int)*2<16:=by omega
     have i1:(k:Int)*2+1<16:=by omega
     have K:=ah n;go_wp2;go_region;go_wp2;go_roundw
     case rel =>
      have M:=(K.set (k*2) a).set (k*2+1) d;rw[<- A.out] at *
      have fin:∃ g:Nat,g<=cnt/\Value.int .i64 ((k:Int)+1)=.int .i64 g/\kG w w.heap.size (kF ts r g) ((s.setCell ⟨w.heap.size,k*2,O⟩ (.int .u8 a)).setCell ⟨w.heap.size,k*2+1,O⟩ (.int .u8 d)).drew/\∀ j,j<g->bP (ts.getD (r*8+j) (0,0)).1 (ts.getD (r*8+j) (0,0)).2 40=true:=⟨k+1,by omega,by go_num,M.below ((ja0 _ _).drew),E⟩
      first|exact fin|((repeat apply Exists.intro);exact⟨fin,rfl⟩)
     case measure=>simp[intOf];omega
   .have D:k=cnt:=by omega
    subst D;have x:=ah (N B);have a3:=f.conv;have F:=ah f.bel;rw[x.out.2] at *
    go_wp2;go_ret2;exact⟨by rw[x.out.1];rfl,F⟩
def Wq(la len cap ts)(row:Int)(w)(a:mO w la len ts)(j:len<=50)(i:len<=cap) :
  κ prog 174 #[.slice la len cap,row] w λe w'=>e=.returned (.tuple #[.string (eH ts row),erV (iJ ts row)])/\β w w w':=by
 cases d:rV ts row with
 | false=>exact Ws la len cap ts row w a j d
 | true =>
  have c:=of_decide_eq_true d;obtain⟨r,rfl⟩:=Int.eq_ofNat_of_zero_le c.2.1;rw[a.1] at *
  have g:0<len:=by
   rcases Nat.eq_zero_or_pos len with h|h
   .subst h;simp[aB] at *;omega
   .exact h
  obtain⟨b,f,rfl,_⟩:=a.2 0 g;exact row_in b f len cap ts r w a c.1 (by omega) i
