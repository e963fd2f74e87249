/- A part. -/
import Derived.Test.YtbohmhacdgckgaaGreatDoorQShapeRow
set_option linter.all false
set_option maxHeartbeats 2000000
set_option maxRecDepth 100000
namespace Go.Proofs.YtbohmhacdgckgaaGreatDoor
open Go.RowKit renaming Below->β, Hid->χ
open Go renaming World->ω, Value->υ, Calls->κ
open Option renaming none->O, some->S
open Go.Proofs.Tryz Go.RowKit Go.Maps
attribute [local go_sem ↓] Go.wp_at_zero Go.wp_at_succ
def mJ(ts:List (Int × Int))(r k:Nat):List Int:=(List.range k).flatMap λi=>[(ts.getD (r*8+i) (0,0)).1,(ts.getD (r*8+i) (0,0)).2]
def Wh(ts r k):byV (mJ ts r (k+1))=byV (mJ ts r k)++[.int .u8 (ts.getD (r*8+k) (0,0)).1,.int .u8 (ts.getD (r*8+k) (0,0)).2]:=by
 simp[mJ,byV,jbr]
def JE(ts r k):(mJ ts r k).length=2*k:=by
 induction k with
 | zero=>rfl
 | succ k a =>
  have:mJ ts r (k+1)=mJ ts r k++[(ts.getD (r*8+k) (0,0)).1,(ts.getD (r*8+k) (0,0)).2]:=by simp[mJ,jbr]
  rw[this,jah,a];simp;omega
def Wi(la len cap ts row w)(d:mO w la len ts)(l:len<=50)(a:rV ts row=false) :
  κ prog 108 #[.slice la len cap,row] w λe w'=>e=.returned (.tuple #[.string (eH ts row),iJ ts row])/\β w w w':=by
 have b:iJ ts row=1:=by unfold iJ;rw[if_neg (by rw[a];decide)]
 have c:eH ts row=⟨#[]⟩:=by unfold eH;rw[b,if_neg (by decide)]
 rw[c,b];have g:=of_decide_eq_false a;rw[d.1] at *
 by_cases k:32<len
 .have g1:decide (32<(len:Int))=true:=by simp;omega
  go_enter func108,ntmps108;go_wp2;go_ret2;exact⟨rfl,ja0 _ _⟩
 .have g1:decide (32<(len:Int))=false:=by simp;omega
  by_cases j:row<0
  .go_enter func108,ntmps108;go_wp2;go_ret2;exact⟨rfl,ja0 _ _⟩
  .have g3:decide ((aB len:Int)<=row)=true:=by simp;omega
   have f:=ah (qG len w (by omega));generalize aB len=i at *
   go_enter func108,ntmps108;go_wp2_with (go_at_call 107;refine f.mono ?_;rintro e w' ⟨rfl,rfl⟩)
   go_ret2;exact⟨rfl,ja0 _ _⟩
def uZ{w w':ω}{B e size n v a}(h:w.ownsRow B e size v n a)(l:∀ k,v.ownBlock=S k->w'.heap[k]?=w.heap[k]?):w'.ownsRow B e size v n a:=by
 refine⟨h.1,?_⟩;rcases h.2 with f|⟨g,cap,c,b,o,d,i,m,q,j⟩
 .exact .inl f
 .exact .inr ⟨g,cap,c,b,o,by rw[l g (by rw[b];rfl)];exact d,i,m,q,j⟩
def vH(w:ω)(x y t):∀ j u,[x,y][j]?=S u->(w.alloc (.cells #[x,y] t)).cell? ((⟨w,0,O⟩:Addr).add j)=S u:=by
 intro j u a;rw[Go.WideShapes.add_plain,jak,cell_of_row _ _ _ _ _ _ (heap_alloc_new w _)]
 simpa using a
def Wj(b G len cap ts r w)(hT:mO w (S ⟨b,G,O⟩) len ts)(ac:len<=32)(hr:r<aB len) :
  κ prog 108 #[.slice (S ⟨b,G,O⟩) len cap,(r:Int)] w λe w'=>e=.returned (.tuple #[.string (eH ts r),iJ ts r])/\β w w w':=by
 have M:rV ts r=true:=decide_eq_true (by rw[hT.1];omega);have HR:=ah (qG len w (by omega));have g1:decide (32<(len:Int))=false:=by simp;omega
 have g2:decide ((r:Int)<0)=false:=by simp
 have g3:decide (aB len<=r)=false:=by simp;omega
 have ai:r*8<len:=by unfold aB at hr;omega
 have HT:=ah hT;have V:=ah M
 have a8:χ (∀ k,k<8->bP (ts.getD (r*8+k) (0,0)).1 (ts.getD (r*8+k) (0,0)).2 40=false->iJ ts r=2/\eH ts r=⟨#[]⟩):=λk hk s=>by
  have B:iJ ts r=2:=by unfold iJ;rw[if_pos V.out,if_neg (by rw[show(r:Int).toNat=r from rfl,JG (by omega) s];decide)]
  exact⟨B,by unfold eH;rw[B,if_neg (by decide)]⟩
 have a4:χ ((∀ k,k<8->bP (ts.getD (r*8+k) (0,0)).1 (ts.getD (r*8+k) (0,0)).2 40=true)->iJ ts r=0/\strOfNums (mJ ts r 8)=eH ts r):=λh=>by
  have B:iJ ts r=0:=by unfold iJ;rw[if_pos V.out,if_pos (show rowOk ts (r:Int).toNat=true from Dt (.inr (ja1 8)) h)]
  exact⟨B,by unfold eH;rw[if_pos B];rfl⟩
 obtain⟨i0,J,a0,a1,X⟩:=info_parts Hf;generalize aB len=rn at g3 HR;go_enter func108,ntmps108;go_wp2_with (go_at_call 107;refine cSt HR ?_)
 go_loopw [6,7] (λv i wr=>∃ k:Nat,k<=8/\i=.int .i64 k/\wr.ownsRow w.heap.size 5 1 v (2*k) (byV (mJ ts r k))/\β w w wr/\∀ j,j<k->bP (ts.getD (r*8+j) (0,0)).1 (ts.getD (r*8+j) (0,0)).2 40=true) (λ_ i _=>8-(intOf i).toNat)
 case atStart=>exact⟨0,ja7 _,rfl,jaa _ _ _ _,ja0 _ _,λj hj=>by omega⟩
 case round =>
  obtain⟨k,hk,rfl,H,K,a2⟩:=hrel;have y:=ah H;have c:=ah K;by_cases a5:k<8
  .have C:=Wh ts r k;have a6:=ah (a8 k a5);have n:=FU (ts.getD (r*8+k) (0,0)).1 (ts.getD (r*8+k) (0,0)).2 40 (wr.alloc (.cells #[.int .i64 (ts.getD (r*8+k) (0,0)).1,.int .i64 (ts.getD (r*8+k) (0,0)).2] 168))
   have N:(∃ g:decide (8*(r:Int)+k<len)=true,decide (8*r+k<len)=true/\(wr.alloc (.cells #[(0:Int),(0:Int)] 168)).cell? ⟨b,G+(8*r+k)*2,O⟩=S (.int .i64 (ts.getD (r*8+k) (0,0)).1)/\(wr.alloc (.cells #[(0:Int),(0:Int)] 168)).cell? ⟨b,G+(8*r+k)*2+1,O⟩=S (.int .i64 (ts.getD (r*8+k) (0,0)).2))\/(decide (8*(r:Int)+k<len)=false/\decide (8*r+k<len)=false/\ts.getD (r*8+k) (0,0)=(0,0)):=by
    by_cases M:r*8+k<len
    .obtain⟨b',ab,e,d,m⟩:=HT.2 (r*8+k) M;cases e;rw[<- K.cell (ja2 w _ d)] at d;rw[<- K.cell (ja2 w _ m)] at m;rw[show 8*r+k=r*8+k by omega];exact .inl ⟨by simp;omega,by simp;omega,by rw[jas _ _ _ (ja2 wr _ d)];exact d,by rw[jas _ _ _ (ja2 wr _ m)];exact m⟩
    .refine .inr ⟨by simp;omega,by simp;omega,?_⟩;rw[ja6,jaj (by rw[HT.out.1];omega)];rfl
   cases s:bP (ts.getD (r*8+k) (0,0)).1 (ts.getD (r*8+k) (0,0)).2 40 with
   | false =>
    have F:=ah (a6 s);rw[s] at n;rcases N with⟨g,I,d,m⟩|⟨g,I,d⟩
    .have q1:(0:Int)<=8*(r:Int)+(k:Int):=by omega
     have q2  := of_decide_eq_true g;have l:=ah n;generalize (ts.getD (r*8+k) (0,0)).1=o at d l;generalize (ts.getD (r*8+k) (0,0)).2=t at m l;go_wp2_with fail;refine cEq l λa f=>?_
     go_wp2;go_ret2;exact⟨by rw[F.out.1,F.out.2];rfl,(c.alloc c.size _).trans (f.mono (by have:=c.size;simp;omega))⟩
    .rw[d] at n;have l:=ah n;go_wp2_with fail;refine cEq l λa f=>?_
     go_wp2;go_ret2;exact⟨by rw[F.out.1,F.out.2];rfl,(c.alloc c.size _).trans (f.mono (by have:=c.size;simp;omega))⟩
   | true =>
    have W:χ (∀ j,j<k+1->bP (ts.getD (r*8+j) (0,0)).1 (ts.getD (r*8+j) (0,0)).2 40=true):=λj hj=>by
     by_cases e:j=k
     .rw[e];exact s
     .exact a2 j (by omega)
    have Z:=jS s;rw[s] at n;rcases N with⟨g,I,d,m⟩|⟨g,I,d⟩
    .have q1:(0:Int)<=8*(r:Int)+(k:Int):=by omega
     have q2  := of_decide_eq_true g;have l:=ah n;generalize (ts.getD (r*8+k) (0,0)).1=o at d l C Z;generalize (ts.getD (r*8+k) (0,0)).2=t at m l C Z;have k0:0<=o:=by omega
     have k1:o<256:=by omega
     have p0:0<=t:=by omega
     have p1:t<256:=by omega
     have Q:=ah C;go_wp2_with fail;refine cEq l λa f=>?_
     have b0:a.cell? ⟨wr,0,O⟩=S (o:υ):=by rw[f.cell (by simp),cell_of_row _ _ _ _ _ _ (heap_alloc_new wr _)];rfl
     have b1:a.cell? ⟨wr,1,O⟩=S (t:υ):=by rw[f.cell (by simp),cell_of_row _ _ _ _ _ _ (heap_alloc_new wr _)];rfl
     have x:χ (β wr wr a):=((ja0 _ _).alloc (ja1 _) _).trans (f.mono (by simp));have z:χ (w.heap.size<=a):=ja4 c.size x.size;have R:χ ((a.alloc (.cells #[.int .u8 o,.int .u8 t] 5)).ownsRow w.heap.size 5 1 u6 (2*k) (byV (mJ ts r k))):=(uZ y (λq e=>x.block q (y.lt q e).2)).alloc _;have D:χ (w.heap.size<=(a.alloc (.cells #[.int .u8 o,.int .u8 t] 5)).heap.size):=by unfold χ;have:=z.out;simp;omega
     go_wp2_with (at_builtin;go_loud (refine wpList_append_lies _ (by rfl) _ _ 185 (by rfl) w.heap.size 5 i0 (.int .u8 0) 1 1 underlying185 J a0 a1 X rfl (by decide) u6 (2*k) (byV (mJ ts r k)) (by rfl) R ⟨a,0,O⟩ 2 2 [.int .u8 o,.int .u8 t] (by rfl) (by rfl) (vH _ _ _ _) (λu A=>by simp at A;rcases A with rfl|rfl<;>rfl) (by decide) (by unfold maxLen;omega) (by omega) D (a.heap.size+1) (by simp) ?_;intro g2 E w3 L T a7 a9))
     go_roundw
     case rel =>
      exact⟨k+1,by omega,by go_num,by rw[Q.out];exact L,((c.trans (x.mono c.size)).alloc z _).grown T D (λq e=>(y.lt q e).1),W⟩
     case measure=>simp[intOf];omega
    .rw[d] at n C;have l:=ah n;have Q:=ah C;go_wp2_with fail;refine cEq l λa f=>?_
     have b0:a.cell? ⟨wr,0,O⟩=S (.int .i64 0):=by rw[f.cell (by simp),cell_of_row _ _ _ _ _ _ (heap_alloc_new wr _)];rfl
     have b1:a.cell? ⟨wr,1,O⟩=S (.int .i64 0):=by rw[f.cell (by simp),cell_of_row _ _ _ _ _ _ (heap_alloc_new wr _)];rfl
     have x:χ (β wr wr a):=((ja0 _ _).alloc (ja1 _) _).trans (f.mono (by simp));have z:χ (w.heap.size<=a):=ja4 c.size x.size;have R:χ ((a.alloc (.cells #[.int .u8 0,.int .u8 0] 5)).ownsRow w.heap.size 5 1 u6 (2*k) (byV (mJ ts r k))):=(uZ y (λq e=>x.block q (y.lt q e).2)).alloc _;have D:χ (w.heap.size<=(a.alloc (.cells #[.int .u8 0,.int .u8 0] 5)).heap.size):=by unfold χ;have:=z.out;simp;omega
     go_wp2_with (at_builtin;go_loud (refine wpList_append_lies _ (by rfl) _ _ 185 (by rfl) w.heap.size 5 i0 (.int .u8 0) 1 1 underlying185 J a0 a1 X rfl (by decide) u6 (2*k) (byV (mJ ts r k)) (by rfl) R ⟨a,0,O⟩ 2 2 [.int .u8 0,.int .u8 0] (by rfl) (by rfl) (vH _ _ _ _) (λu A=>by simp at A;rcases A with rfl|rfl<;>rfl) (by decide) (by unfold maxLen;omega) (by omega) D (a.heap.size+1) (by simp) ?_;intro g2 E w3 L T a7 a9))
     go_roundw
     case rel =>
      exact⟨k+1,by omega,by go_num,by rw[Q.out];exact L,((c.trans (x.mono c.size)).alloc z _).grown T D (λq e=>(y.lt q e).1),W⟩
     case measure=>simp[intOf];omega
  .have a3:k=8:=by omega
   subst a3;have U:=ah (a4 a2);rcases H.2 with⟨_,h0⟩|⟨g,E,ad,Y,ae,hh,af,aa,N,ag⟩
   .omega
   .have al:(convert 185 9 (.slice (S ⟨g,0,O⟩) 16 E)).run prog wr=.ok (.string (strOfNums (mJ ts r 8))) wr:=by
     rw[Y] at H
     exact run_convert_bytes_arg (P:=prog) wr 185 5 underlying185 underlying5 g 0 16 E (mJ ts r 8) (JE ts r 8) (λi J=>by
      rw[jak,H.cellAt i (by omega)]
      exact uJ _ i (by rw[JE];omega)) 9 underlying9
    rw[U.out.2] at *
    subst Y;go_wp2;go_ret2;exact⟨by rw[U.out.1];rfl,c⟩
def JF(la len cap ts)(row:Int)(w)(a:mO w la len ts)(i:len<=50) :
  κ prog 108 #[.slice la len cap,row] w λe w'=>e=.returned (.tuple #[.string (eH ts row),iJ ts row])/\β w w w':=by
 cases d:rV ts row with
 | false=>exact Wi la len cap ts row w a i d
 | true =>
  have c:=of_decide_eq_true d;obtain⟨r,rfl⟩:=Int.eq_ofNat_of_zero_le c.2.1;rw[a.1] at *
  have g:0<len:=by
   rcases Nat.eq_zero_or_pos len with h|h
   .subst h;simp[aB] at *;omega
   .exact h
  obtain⟨b,f,rfl,_⟩:=a.2 0 g;exact Wj b f len cap ts r w a c.1 (by omega)
def bD(ts:List (Int × Int)):List Value:=ts.flatMap λe=>[.int .i64 e.1,.int .i64 e.2]
def qV(ts):(bD ts).length=ts.length*2:=by
 induction ts with
 | nil=>rfl
 | cons e ts a=>simp only[bD,List.flatMap_cons,jah,jau,jbJ] at *;omega
def PO(ts):∀ u∈bD ts,u.oneCell'=true:=by
 intro u a;obtain⟨e,_,h⟩:=List.mem_flatMap.1 a;simp at h;rcases h with rfl|rfl<;>rfl
def vW(ts k)(c:k<ts.length):(bD ts)[k*2]?=S (.int .i64 (ts.getD k (0,0)).1)/\(bD ts)[k*2+1]?=S (.int .i64 (ts.getD k (0,0)).2):=by
 induction ts generalizing k with
 | nil=>simp at *
 | cons e ts b =>
  cases k with
  | zero=>exact⟨rfl,rfl⟩
  | succ k =>
   have a:bD (e::ts)=[.int _ _,.int _ _]++bD ts:=rfl;rw[a,show(k+1)*2=2+k*2 by omega,show 2+k*2+1=2+(k*2+1) by omega,jaJ (by simp),jaJ (by simp)];simp_all
def uQ:(prog.info? 168).map (λi=>(i.zero,i.size,i.bytes))=S (S (.agg #[(0:Int),(0:Int)]),2,16):=by kernel_rfl
def vX{w B g n cap ts c}(b:w.ownsRow B 168 2 (.slice (S ⟨g,0,O⟩) n cap) n c)(k)(d:c.take (k*2)=bD ts)(j:k<=n)(f:ts.length=k):mO w (S ⟨g,0,O⟩) k ts:=by
 refine⟨f,λi l=>⟨g,0,rfl,?_,?_⟩⟩
 .have a:=(vW ts i (by omega)).1;rw[<- d,List.getElem?_take_of_lt (by omega)] at *
  rw[jak,b.cellAt _ (by omega)];exact a
 .have a:=(vW ts i (by omega)).2;rw[<- d,List.getElem?_take_of_lt (by omega)] at *
  rw[jak,b.cellAt _ (by omega)];exact a
def QT(s):0<=dW s:=by
 unfold dW;split
 .omega
 .next h=>have:=DL h;omega
def rF{w:ω}{a C t}(b:β (w.alloc (.cells C t)).heap.size (w.alloc (.cells C t)) a)(i v)(c:C[i]?=S v):a.cell? ⟨w,i,O⟩=S v:=by
 rw[b.cell (by simp),cell_of_row _ _ _ _ _ _ (heap_alloc_new w _)];exact c
def stepT(h:HV)(a:List (Int × Int))(e:Int × Int):Option (List (Int × Int)) :=
 if (a.length:Int)=h.c then (if e=(0,0) then S a else O)
 else if bP e.1 e.2 h.p=true/\¬(e.1=2/\e∈a) then S (a++[e]) else O
def jZ(s:ByteArray)(i:Nat):Int × Int:=(bAt s (i*2),bAt s (i*2+1))
def fQ(h:HV)(b:List (Int × Int))(s:ByteArray):Nat->Option (List (Int × Int))
 | 0=>S b
 | i+1=>match fQ h b s i with
  | none=>O
  | some a=>stepT h a (jZ s i)
def wU{h b s i}(e:fQ h b s i=O):∀ j,i<=j->fQ h b s j=none:=by
 intro j d
 induction j with
 | zero=>simp_all
 | succ j c =>
  by_cases f:i=j+1
  .simp_all
  .show(match fQ h b s j with|none=>O|some a=>stepT h a _)=O
   rw[(c (by omega))]
def zC{h b a s i}(e:fQ h b s i=S a):fQ h b s (i+1)=stepT h a (jZ s i):=by
 show(match fQ h b s i with|none=>O|some a=>stepT h a _)=_
 rw[e]
def X0{h b a e}(d:stepT h b e=S a)(f:(b.length:Int)<=h.c):(a.length:Int)<=h.c:=by
 unfold stepT at *
 split at *
 .simp_all
 .split at *
  .cases d;simp;omega
  .cases d
def JH{h b s}(g:(b.length:Int)<=h.c):∀(i:Nat) (a:List (Int × Int)),fQ h b s i=S a->(a.length:Int)<=h.c:=by
 intro i
 induction i with
 | zero=>intro a e;cases e;exact g
 | succ i f =>
  intro a e
  cases d:fQ h b s i with
  | none=>rw[wU d _ (by omega)] at e;cases e
  | some x=>rw[zC d] at e;exact X0 e (f x d)
def bU(h:HV)(b:List ByteArray):Nat->List (Int × Int) × Int
 | 0=>([],0)
 | j+1=>if (bU h b j).2=0 then (if (b.getD j ByteArray.empty).size=16 then (match fQ h (bU h b j).1 (b.getD j ByteArray.empty) 8 with|some a=>(a,0)|none=>([],2)) else ([],1)) else ([],(bU h b j).2)
def lT(h:HV)(a:List ByteArray):Bool:=h.ok&&decide (a.length=aB h.c.toNat)
def dZ(h:HV)(a:List ByteArray):List (Int × Int):=if lT h a=true then (bU h a a.length).1 else []
def gQ(h:HV)(a:List ByteArray):Int:=if lT h a=true then (bU h a a.length).2 else 1
def La{h a j f}(b:f≠0)(e:bU h a j=([],f)):∀ i,j<=i->bU h a i=([],f):=by
 intro i g
 induction i with
 | zero=>simp_all
 | succ i c =>
  by_cases d:j=i+1
  .simp_all
  .unfold bU;rw[(c (by omega)),if_neg b]
def zW{h a j}(e:(bU h a j).2=0)(b:(a.getD j ByteArray.empty).size≠16):bU h a (j+1)=([],1):=by
 show(if (bU h a j).2=0 then _ else _)=_
 simp_all
def zU{h a j}(e:(bU h a j).2=0)(c:(a.getD j ByteArray.empty).size=16)(b:fQ h (bU h a j).1 (a.getD j ByteArray.empty) 8=O):bU h a (j+1)=([],2):=by
 show(if (bU h a j).2=0 then _ else _)=_
 simp_all
def zV{h b j a}(e:(bU h b j).2=0)(d:(b.getD j ByteArray.empty).size=16)(c:fQ h (bU h b j).1 (b.getD j ByteArray.empty) 8=S a):bU h b (j+1)=(a,0):=by
 show(if (bU h b j).2=0 then _ else _)=_
 simp_all
def Yc(h b j):0<=(bU h b j).2:=by
 induction j with
 | zero=>exact jby 0
 | succ j f =>
  by_cases e:(bU h b j).2=0
  .by_cases c:(b.getD j ByteArray.empty).size=16
   .cases d:fQ h _ _ 8 with
    | none=>rw[zU e c d];decide
    | some a=>rw[zV e c d];exact jby 0
   .rw[zW e c];decide
  .have:bU h b (j+1)=([],(bU h b j).2):=by
    show(if (bU h b j).2=0 then _ else _)=_
    rw[if_neg e]
   simp_all
def Yk(h a):0<=gQ h a:=by
 unfold gQ;split
 .exact Yc h a _
 .omega
def fZ(a:List (Int × Int)):List Bool:=(List.range 40).map λq:Nat=>decide (((2:Int),(q:Int))∈a)
def Ea(a):(fZ a).length=40:=by simp[fZ]
def D9(a q)(b:q<40):(fZ a).getD q false=decide (((2:Int),(q:Int))∈a):=by
 simp[fZ,List.getD,b]
def Lm:fZ []=List.replicate 40 false:=by
 simp[fZ,List.map_const']
def Lp(a k p)(b:k≠2):fZ (a++[(k,p)])=fZ a:=by
 apply jb4;intro q _;have:((2:Int),(q:Int))≠(k,p):=λe=>b (congrArg Prod.fst e).symm
 simp[this]
def Ll(a)(q:Nat)(b:q<40):fZ (a++[(2,(q:Int))])=(fZ a).set q true:=by
 apply jbU;intro i;rw[jbV];by_cases e:q=i
 .subst e;simp[fZ,b]
 .rw[if_neg e];by_cases c:i<40
  .simp[fZ,c];omega
  .rw[jaj (by rw[Ea];omega),jaj (by rw[Ea];omega)]
def xu(h:HV)(v:υ)(tk:List Bool):List Value:=[.int .i64 h.c,.int .i64 h.p,.int .i64 h.b,v]++tk.map .bool
structure gu(B:Nat)(w:ω)(N:Nat)(h:HV)(v:υ)(acc:List (Int × Int))(tk:List Bool):Prop where
 blk:w.heap[N]?=S (.cells (xu h v tk).toArray 290 (0,0))
 own:w.ownsRow B 168 2 v acc.length (bD acc)
 pB:B<=N
 tk40:tk.length=40
def gu.below{B N w w' h v b tk}(a:gu B w N h v b tk)(c:β w w w'):gu B w' N h v b tk :=
 ⟨by rw[c.block N (nC a.blk)];exact a.blk,uZ a.own (λq e=>c.block q (a.own.lt q e).2),a.pB,a.tk40⟩
def gu.cells{B N w h v b tk}(a:gu B w N h v b tk) :
  w.cell? ⟨N,0,O⟩=S (h.c:υ)/\w.cell? ⟨N,1,O⟩=S (h.p:υ)/\w.cell? ⟨N,3,O⟩=S v/\w.frozen? ⟨N,3,O⟩=false:=by
 refine⟨?_,?_,?_,frozen_of_row _ _ _ _ _ a.blk⟩<;>(rw[cell_of_row _ _ _ _ _ _ a.blk];rfl)
def gu.bit{B N w h v c tk}(a:gu B w N h v c tk)(q)(b:q<40) :
  w.cell? ⟨N,4+q,O⟩=S (.bool (tk.getD q false))/\w.frozen? ⟨N,4+q,O⟩=false:=by
 refine⟨?_,frozen_of_row _ _ _ _ _ a.blk⟩;have d:q<tk.length:=by rw[a.tk40];exact b
 rw[cell_of_row _ _ _ _ _ _ a.blk,jaE,xu,jaJ (by simp)];simp_all
def gu.form{B N w h v b tk}(c:gu B w N h v b tk):∃ a cap,v=.slice a b.length cap:=by
 rcases c.own.2 with⟨i,j⟩|⟨g,cap,d,f,_⟩
 .simp_all
 .simp_all
def gu.apart{B N w h v f tk}(b:gu B w N h v f tk):v.ownBlock≠S N:=λe=>by
 rcases b.own.2 with⟨d,_⟩|⟨g,cap,i,c,_,a,_⟩
 .rw[d] at e;cases e
 .rw[c] at e;have:g=N:=by simpa [Value.ownBlock] using e
  rw[this,b.blk] at a;cases a
def gu.zK{B N w h v b tk}(a:gu B w N h v b tk)(q)(d:q<40) :
  gu B (w.setCell ⟨N,4+q,O⟩ true) N h v b (tk.set q true):=by
 refine⟨?_,uZ a.own (λr e=>heap_setCell_other _ _ _ _ (λc=>a.apart (e.trans (congrArg S c)))),a.pB,by rw[jal];exact a.tk40⟩;rw[heap_setCell_same w N _ _ _ _ a.blk];congr 2;simp only[xu,jae];rw[List.set_append_right _ _ (by simp)];simp_all
def gu.push{B N w b h v a tk}(c:gu B w N h v a tk)(k p g cap)(C)
  (f:b.ownsRow B 168 2 (.slice (S ⟨g,0,O⟩) (a.length+1) cap) (a.length+1) (bD a++[.int .i64 k,.int .i64 p])) (l:(w.alloc C).grownBy b v.ownBlock) :
  gu B (b.setCell ⟨N,3,O⟩ (.slice (S ⟨g,0,O⟩) (a.length+1) cap)) N h (.slice (S ⟨g,0,O⟩) (a.length+1) cap) (a++[(k,p)]) tk/\b.cell? ⟨N,3,O⟩=S v/\b.frozen? ⟨N,3,O⟩=false:=by
 have j:=nC c.blk
 have d:b.heap[N]?=S (.cells (xu h v tk).toArray 290 (0,0)):=by
  rw[l.block N (by simp;omega) (jaM c.apart),jap _ _ _ j];exact c.blk
 have q:g≠N:=λe=>by
  rcases f.2 with⟨_,u⟩|⟨m,t,s,o,_,i,_⟩
  .omega
  .have:g=m:=by simpa [Value.ownBlock] using congrArg Value.ownBlock o
   rw[<- this,e,d] at i;cases i
 refine⟨⟨?_,?_,c.pB,c.tk40⟩,by rw[cell_of_row _ _ _ _ _ _ d];rfl,frozen_of_row _ _ _ _ _ d⟩
 .rw[heap_setCell_same b N 3 _ _ _ d];simp[xu]
 .have n:bD (a++[(k,p)])=bD a++[.int .i64 k,.int .i64 p]:=by simp[bD]
  rw[n,jah]
  exact uZ f (λr e=>by
   have:g=r:=by simpa [Value.ownBlock] using e
   subst this
   exact heap_setCell_other _ _ _ _ q)
def DV.put(d:DV)(i:Nat)(s:List UInt8):DV:=if d.fail=0 then d.failing (-1) else d.jo.wrote i s
def DV.aV(d:DV):Int:=if d.fail=0 then 7 else 0
structure DV.fine(d:DV)(n m:Nat):Prop where
 ok:d.ok
 sn:d.sn
 len:d.fl.length=n
 wr:d.wr<=m
def DV.fine.more{d:DV}{n m m'}(h:d.fine n m)(a:m<=m'):d.fine n m':=⟨h.ok,h.sn,h.len,ja4 h.wr a⟩
theorem DV.ok.jo{d:DV}(h:d.ok):d.jo.ok:=by
 unfold DV.jo;split
 .exact h
 .exact h.failing (by have:=h.f1;omega) (by have:=h.f2;omega)
theorem DV.fine.put{d:DV}{n m}(h:d.fine n m){i s}(b:i<n)(a:s.length=16)(f:m<1000000000):(d.put i s).fine n (m+1):=by
 have c:=h.wr;unfold DV.put;split
 .exact⟨h.ok.failing (by omega) (by omega),Bd h.sn _,h.len,by show d.wr<=m+1;omega⟩
 .exact⟨h.ok.jo.wrote (by rw[DV.Lh,h.len];exact b) a (by rw[DV.Lj];omega),Zv (YO h.sn) _ _,by show d.jo.fl.length=n;rw[DV.Lh];exact h.len,by show d.jo.wr+1<=m+1;rw[DV.Lj];omega⟩
theorem DV.fine.flushed{d:DV}{n m}(h:d.fine n m):d.flushed.fine n m:=⟨h.ok.flushed,QC _,by show d.seen.length=n;rw[h.ok.same];exact h.len,h.wr⟩
def DV.oH(d:DV):d.aV=0/\d.fail≠0\/d.aV=7/\d.fail=0:=by
 unfold DV.aV;omega
def DV.puts(d:DV)(a:Nat)(s:ByteArray):Nat->DV × Int
 | 0=>(d,0)
 | k+1=>if (d.puts a s k).2=0 then ((d.puts a s k).1.put (a+k) (chunk s k),(d.puts a s k).1.aV) else d.puts a s k
def DV.zk{d:DV}{a s k}(h:(d.puts a s k).2=0):d.puts a s (k+1)=((d.puts a s k).1.put (a+k) (chunk s k),(d.puts a s k).1.aV):=by
 show(if (d.puts a s k).2=0 then _ else _)=_
 rw[if_pos h]
def DV.zi{d:DV}{a s k}(h:(d.puts a s k).2≠0):∀ j,k<=j->d.puts a s j=d.puts a s k:=by
 intro j c
 induction j with
 | zero=>simp_all
 | succ j b =>
  by_cases e:k=j+1
  .rw[<- e]
  .show(if (d.puts a s j).2=0 then _ else d.puts a s j)=_
   rw[(b (by omega)),if_neg h]
def DV.rO(d:DV)(a s k):(d.puts a s k).2=0\/(d.puts a s k).2=7:=by
 induction k with
 | zero=>exact .inl rfl
 | succ k b =>
  rcases b with h|h
  .rw[DV.zk h];rcases DV.oH (d.puts a s k).1 with c|c
   .omega
   .omega
  .right
   rw[DV.zi (k:=k) (by omega) _ (by omega)];exact h
theorem DV.fine.puts{d:DV}{n m}(h:d.fine n m){a s c}(i:s.size=c*16)(o:a+c<=n)(j:m+c<1000000000):∀ k,k<=c->(d.puts a s k).1.fine n (m+k):=by
 intro k
 induction k with
 | zero=>intro _;exact h
 | succ k g =>
  intro l;have b:=g (by omega);by_cases f:(d.puts a s k).2=0
  .rw[DV.zk f];exact b.put (by omega) (NP s c k i (by omega)) (by omega)
  .rw[DV.zi f _ (by omega)];exact b.more (by omega)
structure IV where
 d:DV
 h:HV
 t:List (Int × Int)
 held:List Nat
def dJ(h:HV)(q:Nat):Nat:=1+aB h.c.toNat+4*q
def aQ(h:HV):Nat:=dJ h h.p.toNat
structure IV.ok(v:IV)(m:Nat):Prop where
 d:v.d.fine v.d.fl.length m
 h:v.h.ok=true
 len:(v.t.length:Int)=v.h.c
 ents:∀ e∈v.t,bP e.1 e.2 v.h.p=true
 need:aQ v.h<=v.d.fl.length
 held:∀ q∈v.held,q<40
 few:v.held.length<=m
theorem IV.ok.more{v:IV}{m m'}(h:v.ok m)(a:m<=m'):v.ok m':=⟨h.d.more a,h.h,h.len,h.ents,h.need,h.held,ja4 h.few a⟩
def IV.ok.dev{v:IV}{m m'}(h:v.ok m){d}(hd:d.fine v.d.fl.length m')(a:m<=m'):({v with d:=d}:IV).ok m' :=
 ⟨by rw[hd.len];exact hd,h.h,h.len,h.ents,by rw[hd.len];exact h.need,h.held,ja4 h.few a⟩
def IV.ent(v:IV)(c:Int):Int × Int:=v.t.getD c.toNat (0,0)
def IV.there(v:IV)(c:Int):Bool:=decide (0<=c/\c<v.t.length)
def IV.oM{v:IV}{c}(h:v.there c=true):0<=c/\c<v.t.length:=of_decide_eq_true h
def IV.YJ{v:IV}{c}(h:v.there c=false):¬(0<=c/\c<v.t.length):=of_decide_eq_false h
theorem IV.ok.ent{v:IV}{m}(h:v.ok m){c}(a:v.there c=true):bP (v.ent c).1 (v.ent c).2 v.h.p=true:=by
 obtain⟨d,b⟩:=IV.oM a;apply h.ents;unfold IV.ent;simp_all
def kL(d:DV)(a:Nat):Nat->List UInt8
 | 0=>[]
 | k+1=>kL d a k++d.seen.getD (a+k) []
def sO:List UInt8:=List.replicate 64 0
def IV.iy(v:IV)(c:Int):List UInt8 :=
 if v.there c=true then (if (v.ent c).1=2 then kL v.d (dJ v.h (v.ent c).2.toNat) 4 else if (v.ent c).1=1 then sO else []) else []
def IV.ji(v:IV)(c:Int):Int:=if v.there c=true then (if (v.ent c).1=0 then 4 else 0) else 1
def IV.Ad(v:IV)(q:Nat):Bool:=v.t.any λe=>decide (e=(2,(q:Int)))
def IV.pK(v:IV)(q:Nat):Bool:=v.held.any λx=>decide (x=q)
def IV.jE(v:IV)(q:Nat):Bool := !v.Ad q && !v.pK q
def IV.iY(v:IV)(k:Nat):List Nat:=(List.range k).filter v.jE
def IV.jC(v:IV):List Nat:=v.iY v.h.p.toNat
def IV.BL(v:IV)(k):v.iY (k+1)=v.iY k++(if v.jE k=true then [k] else []):=by
 unfold IV.iY;rw[jbr,List.filter_append];congr 1;by_cases h:v.jE k=true
 .simp_all
 .simp_all
def IV.QE(v:IV)(k):(v.iY k).length<=k:=by
 have:=List.length_filter_le v.jE (List.range k)
 rw[List.length_range] at *
 exact this
def IV.BJ{v:IV}{k q}(h:q∈v.iY k):q<k/\v.jE q=true:=by
 unfold IV.iY at h;simp_all
def IV.fV(v:IV)(c:Nat)(e:Int × Int):DV:=v.d.put (1+c / 8) (eH (v.t.set c e) (((c / 8:Nat):Int))).data.toList
def IV.set(v:IV)(c:Nat)(e:Int × Int):IV :=
 if v.d.aV=0 then ⟨v.fV c e,v.h,v.t.set c e,if (v.t.getD c (0,0)).1=2 then v.held++[(v.t.getD c (0,0)).2.toNat] else v.held⟩ else {v with d:=v.fV c e}
def IV.flush(v:IV):IV:={v with d:=v.d.flushed,held:=[]}
def o9(v:IV)(c a:Int)(s:ByteArray):Bool:=v.there c&&decide (0<=a/\a<=4/\s.size % 16=0/\(s.size:Int)<=16*(4-a))
def IV.sJ(v:IV)(c a:Int)(s:ByteArray):DV × Int:=v.d.puts (dJ v.h (v.ent c).2.toNat+a.toNat) s (s.size / 16)
def IV.bQ(v:IV)(c a:Int)(s:ByteArray):Int:=if o9 v c a s=true then (if (v.ent c).1=2 then (v.sJ c a s).2 else 4) else 1
def IV.write(v:IV)(c a:Int)(s:ByteArray):IV:=if o9 v c a s=true/\(v.ent c).1=2 then {v with d:=(v.sJ c a s).1} else v
def IV.fP(v:IV)(q:Nat)(s:ByteArray):DV × Int:=v.d.puts (dJ v.h q+0) s 4
def IV.kJ(v:IV)(q:Nat)(s:ByteArray):IV:=({v with d:=(v.fP q s).1}:IV).flush
def IV.dH(v:IV)(c:Int)(s:ByteArray):Int :=
 if v.there c=true/\s.size=64 then
  if (v.ent c).1=2 then 5 else match v.jC with
   | []=>6
   | q::_=>if (v.fP q s).2=0 then (v.kJ q s).d.aV else (v.fP q s).2
 else 1
def IV.fill(v:IV)(c:Int)(s:ByteArray):IV :=
 if v.there c=true/\s.size=64 then
  if (v.ent c).1=2 then v else match v.jC with
   | []=>v
   | q::_=>if (v.fP q s).2=0 then (v.kJ q s).set c.toNat (2,(q:Int)) else {v with d:=(v.fP q s).1}
 else v
def IV.fF(v:IV)(c:Int):Int:=if v.there c=true then (if (v.ent c).1=1 then 0 else v.d.aV) else 1
def IV.clear(v:IV)(c:Int):IV:=if v.there c=true/\(v.ent c).1≠1 then v.set c.toNat (1,0) else v
def IV.kV(v:IV)(h:HV):IV :=
 if v.flush.d.aV=0 then {(({v.flush with d:=v.flush.d.put 0 (gK h.bytes).data.toList}:IV).flush) with h:=h} else {v.flush with d:=v.flush.d.put 0 (gK h.bytes).data.toList}
def IV.pR(v:IV)(back:Int):HV:=⟨v.h.c,v.h.p,back⟩
def IV.jg(v:IV)(back:Int):Int:=if (v.pR back).ok=true then v.flush.d.aV else 1
def IV.link(v:IV)(back:Int):IV:=if (v.pR back).ok=true then v.kV (v.pR back) else v
def PI{k p}{h:HV}(b:h.ok=true)(c:bP k p h.p=true):bP k p 40=true:=by
 have d:=HV.dS b;rcases jS c with a|a
 .exact lI (.inl ⟨a.1,a.2.1,by omega⟩)
 .exact lI (.inr a)
def zD{ts}{h:HV}(b:h.ok=true)(j:(ts.length:Int)=h.c)(f:∀ e∈ts,bP e.1 e.2 h.p=true)(r)(l:r<aB ts.length):iJ ts (r:Int)=0/\(eH ts (r:Int)).size=16:=by
 have m:=HV.dS b;have k:rV ts (r:Int)=true:=decide_eq_true ⟨by omega,by omega,by omega⟩
 have g  := Dt  (.inr (ja1 _)) λi _=>by
  rcases jav (((r:Int)).toNat*8+i) _ with a|a
  .rw[ja6,ja5 a];exact PI b (f _ (jad a))
  .rw[ja6,jaj a];decide
 have d:iJ ts (r:Int)=0:=by unfold iJ;simp_all
 refine⟨d,?_⟩;unfold eH;rw[if_pos d,strOfNums_size,Du]
def yC{ts:List (Int × Int)}{p}(b:∀ e∈ts,bP e.1 e.2 p=true)(c x)(d:bP x.1 x.2 p=true):∀ e∈ts.set c x,bP e.1 e.2 p=true:=by
 intro e a;rcases jaZ a with h|h
 .exact b e h
 .simp_all
def zF{n c}(h:c<n):c / 8<aB n:=by unfold aB;omega
def nK{h}(a:h.ok=true){n}(b:aQ h<=n):aB h.c.toNat<n/\∀ q:Nat,(q:Int)<h.p->dJ h q+4<=n:=by
 have d:=HV.dS a;unfold aQ dJ at b;refine⟨by omega,λq f=>?_⟩;unfold dJ;omega
theorem IV.ok.fV{v:IV}{m}(h:v.ok m){c}(a:c<v.t.length){e}(g:bP e.1 e.2 v.h.p=true)(b:m<1000000000):(v.fV c e).fine v.d.fl.length (m+1):=by
 have l:=zD  h.h (by rw[jal];exact h.len) (yC h.ents c e g) _ (by rw[jal];exact zF a);have j:=h.len;have i:=(nK h.h h.need).1;have k:=zF a;have f:v.h.c.toNat=v.t.length:=by omega
 rw[f] at i;exact h.d.put (by omega) (by simp_all) b
theorem IV.ok.set{v:IV}{m}(h:v.ok m){c}(a:c<v.t.length){e}(d:bP e.1 e.2 v.h.p=true)(g:m<1000000000):(v.set c e).ok (m+1):=by
 have hd:=h.fV a d g;unfold IV.set;split
 .refine⟨by rw[hd.len];exact hd,h.h,by rw[jal];exact h.len,yC h.ents c e d,by rw[hd.len];exact h.need,?_,?_⟩
  .intro q i;have b  := i;split at b
   .next l =>
    rcases List.mem_append.1 b with f|f
    .exact h.held q f
    .have k:bP (v.t.getD c (0,0)).1 (v.t.getD c (0,0)).2 v.h.p=true:=by
      rw[ja6,ja5 a];exact h.ents _ (jad a)
     have n:=HV.dS h.h;simp only[jaW] at *
     rcases jS k with j|j
     .omega
     .omega
   .exact h.held q b
  .show(if (v.t.getD c _).1=2 then v.held++[(v.t.getD c _).2.toNat] else v.held).length<=m+1
   have:=h.few
   split
   .simp;omega
   .omega
 .exact(h.dev hd (jbz m))
theorem IV.ok.flush{v:IV}{m}(h:v.ok m):v.flush.ok m :=
 ⟨by show v.d.flushed.fine v.d.flushed.fl.length m;rw[h.d.flushed.len];exact h.d.flushed,h.h,h.len,h.ents,by show aQ v.h<=v.d.flushed.fl.length;rw[h.d.flushed.len];exact h.need,(λq a=>by cases a),ja7 _⟩
def IV.ok.place{v:IV}{m}(h:v.ok m){c}(b:v.there c=true)(f:(v.ent c).1=2):0<=(v.ent c).2/\(v.ent c).2<v.h.p/\dJ v.h (v.ent c).2.toNat+4<=v.d.fl.length:=by
 rcases jS (h.ent b) with a|a
 .exact⟨a.2.1,a.2.2,(nK h.h h.need).2 _ (by omega)⟩
 .omega
def Eh{v c a s}(h:o9 v c a s=true):v.there c=true/\0<=a/\a<=4/\s.size % 16=0/\(s.size:Int)<=16*(4-a):=by
 unfold o9 at h;simp_all
theorem IV.ok.write{v:IV}{m}(h:v.ok m)(c f s)(g:m+10<=1000000000):(v.write c f s).ok (m+10):=by
 unfold IV.write;split
 .next a =>
  obtain⟨b,k,q,l,o⟩:=Eh a.1;obtain⟨j,i,n⟩:=h.place b a.2;exact h.dev ((h.d.puts  (by omega) (by omega) (by omega) _ (ja1 _)).more (by omega)) (by omega)
 .exact h.more (by omega)
theorem IV.ok.fP{v:IV}{m}(h:v.ok m){q}(a:q∈v.jC){s}(f:s.size=64)(b:m+10<=1000000000):(v.fP q s).1.fine v.d.fl.length (m+4):=by
 have:=(IV.BJ a).1
 have c:=(nK h.h h.need).2 q (by omega);exact h.d.puts  (by omega) (by omega) (by omega) 4 (ja1 _)
theorem IV.ok.kJ{v:IV}{m}(h:v.ok m){q}(b:q∈v.jC){s}(c:s.size=64)(a:m+10<=1000000000):(v.kJ q s).ok (m+4) :=
 (h.dev (h.fP b c a) (by omega)).flush
def BM{v:IV}{m}(h:v.ok m){q}(a:q∈v.jC):bP 2 (q:Int) v.h.p=true:=by
 have b:=HV.dS h.h;have:=(IV.BJ a).1
 exact lI (.inl ⟨rfl,by omega,by omega⟩)
theorem IV.ok.fill{v:IV}{m}(h:v.ok m)(c s)(d:m+10<=1000000000):(v.fill c s).ok (m+10):=by
 unfold IV.fill;split
 .next b =>
  obtain⟨i,g⟩:=IV.oM b.1;split
  .exact h.more (by omega)
  .split
   .exact h.more (by omega)
   .next q r f =>
    have a:q∈v.jC:=by simp_all
    split
    .exact((h.kJ a b.2 d).set (by show c.toNat<v.t.length;omega) (BM h a) (by omega)).more (by omega)
    .exact(h.dev (h.fP a b.2 d) (by omega)).more (by omega)
 .exact h.more (by omega)
theorem IV.ok.clear{v:IV}{m}(h:v.ok m)(c)(f:m+10<=1000000000):(v.clear c).ok (m+10):=by
 unfold IV.clear;split
 .next a =>
  obtain⟨d,b⟩:=IV.oM a.1;exact(h.set (by omega) (lI (.inr ⟨.inr rfl,rfl⟩)) (by omega)).more (by omega)
 .exact h.more (by omega)
def HV.xW(h:HV):(gK h.bytes).size=16:=zG _ (by show 5<=12;omega)
theorem IV.ok.kV{v:IV}{m}(h:v.ok m){x}(l:x.ok=true)(i:x.c=v.h.c)(b:x.p=v.h.p)(n:m+10<=1000000000):(v.kV x).ok (m+10):=by
 have f:=h.flush;have q:=(nK h.h h.need).1;have o  := h.d.flushed.len;have k:(v.flush.d.put 0 (gK _).data.toList).fine _ _:=f.d.put (by show 0<v.d.flushed.fl.length;omega) (by have:=HV.xW x;simpa using this) (by omega);have g:=f.dev k (jbz m);unfold IV.kV;split
 .have a:=g.flush;refine IV.ok.more (m:=m+1) ?_ (by omega);refine⟨a.d,l,a.len.trans i.symm,?_,?_,a.held,a.few⟩
  .intro e j;rw[b];exact a.ents e j
  .have:=a.need
   have e:aQ x=aQ v.h:=by unfold aQ dJ;rw[i,b]
   rw[e];exact this
 .exact g.more (by omega)
theorem IV.ok.link{v:IV}{m}(h:v.ok m)(back)(a:m+10<=1000000000):(v.link back).ok (m+10):=by
 unfold IV.link;split
 .next b=>exact h.kV b rfl rfl a
 .exact h.more (by omega)
def Yu{B N h v f tk}(k p:Int)(w)(d:gu B w N h v f tk)(i:(f.length:Int)=h.c) :
  κ prog 270 #[N,.agg #[k,p]] w λe w'=>e=.returned (.bool (decide (k=0/\p=0)))/\β w w w':=by
 obtain⟨l,c1,c3,m⟩:=(d.below ((ja0 w.heap.size w).alloc (ja1 _) (.cells #[k,p] 168))).cells;obtain⟨a,cap,j⟩:=d.form;rw[j] at c3;rw[<- i] at *
 go_enter func270,ntmps270;go_wp2;go_quiet (fail)
 by_cases b:k=0
 .by_cases g:p=0
  .subst b g;go_wp2;go_ret;exact⟨by simp,below_drewN ((ja0 _ _).alloc (ja1 _) _) _⟩
  .subst b;go_wp2;go_ret;exact⟨by simp,below_drewN ((ja0 _ _).alloc (ja1 _) _) _⟩
 .go_wp2;go_ret;exact⟨by simp[b],below_drewN ((ja0 _ _).alloc (ja1 _) _) _⟩
def Yw{B N h v f tk}(k p w)(b:gu B w N h v f tk)(m:(f.length:Int)≠h.c)(j:bP k p 40=false) :
  κ prog 270 #[N,.agg #[k,p]] w λe w'=>e=.returned false/\β w w w':=by
 obtain⟨n,c1,c3,o⟩:=(b.below ((ja0 w.heap.size w).alloc (ja1 _) (.cells #[k,p] 168))).cells;obtain⟨a,cap,i⟩:=b.form;rw[i] at c3;have l:χ _:=λW=>by have:=uU k p W;rw[j] at *;exact this
 go_enter func270,ntmps270;go_wp2;go_quiet (fail)
 go_wp2_with fail;refine cEq (l _) λq g=>?_
 go_wp2;go_ret;have d:=below_drewN ((ja0 w.heap.size w).alloc (ja1 _) (.cells #[k,p] 168)) nq;exact⟨rfl,d.trans (g.mono d.size)⟩
def Yx{B N h v b tk}(k p w)(i:gu B w N h v b tk)(P:(b.length:Int)≠h.c)(hl:b.length<=32)(Y:bP k p 40=true)(I:k≠2) :
    κ prog 270 #[N,.agg #[k,p]] w λe w'=>∃ D,e=.returned true/\gu B w' N h D (b++[(k,p)]) tk/\β B w w':=by
  have y:=i.below ((ja0 w.heap.size w).alloc (ja1 _) (.cells #[k,p] 168));obtain⟨c0,c1,c3,X⟩:=y.cells;obtain⟨L,a0,E,K,M⟩:=info_parts uQ;obtain⟨a,cap,V⟩:=i.form;subst V;obtain⟨n1,n2⟩:=qE P;obtain⟨k1,k2⟩:=qE I;have Z:χ (∀ W:ω,κ prog 229 #[.agg #[k,p]] W λe w'=>e=.returned true/\β W W w'):=λW=>by have:=uU k p W;rw[Y] at *;exact this
  have R:=ah y;have C:χ (B<=w.heap.size):=by unfold χ;have:=i.pB;have:=nC i.blk;omega
  go_enter func270,ntmps270;go_wp2;go_quiet (fail)
  go_wp2_with fail;refine cEq (Z _) λd m=>?_
  have x:=below_drewN ((ja0 w.heap.size w).alloc (ja1 _) (.cells #[k,p] 168)) nq;have G:χ (β w w d):=x.trans (m.mono x.size);have f:=(R.below (below_drewN (ja0 _ _) nq)).below m;obtain⟨c0,c1,c3,X⟩:=f.cells;have b0:d.cell? ⟨w,0,O⟩=S (k:υ):=by rw[m.cell (by simp),jaA,cell_of_row _ _ _ _ _ _ (heap_alloc_new w _)];rfl
  have b1:d.cell? ⟨w,1,O⟩=S (p:υ):=by rw[m.cell (by simp),jaA,cell_of_row _ _ _ _ _ _ (heap_alloc_new w _)];rfl
  have n:=f.below ((ja0 _ _).drew);have q:=ah n;have U:χ ((d.alloc (.cells #[k,p] 168)).drew.ownsRow B 168 2 (.slice a b.length cap) b.length (bD b)):=n.own.alloc _;have z:χ ((d.alloc (.cells #[k,p] 168)).drew.heap.size=d.heap.size+1):=by unfold χ;simp
  have A:χ (B<=(d.alloc (.cells #[k,p] 168)).drew.heap.size):=by unfold χ;rw[z.out];have:=n.pB;have:=nC f.blk;omega
  have Q:χ (B<=d.heap.size):=by unfold χ;have:=n.pB;have:=nC f.blk;omega
  have J:χ (N<d.heap.size):=nC f.blk;have a3:(d.alloc (.cells #[k,p] 168)).cell? ⟨N,3,O⟩=S (.slice a b.length cap):=by rw[jas _ _ _ J.out];exact c3
  go_wp2
  go_region_law (refine step_append_lies _ (by rfl) _ _ 144 (by rfl) B 168 L (.agg #[(0:Int),(0:Int)]) 2 16 underlying144 a0 E K M rfl (by decide) (.slice a b.length cap) b.length (bD b) (by rfl) U ⟨d,0,O⟩ 1 1 [k,p] (by rfl) (by rfl) (vH _ _ _ _) (λu hu=>by simp at *;rcases hu with rfl|rfl<;>rfl) (by decide) (by unfold maxLen;omega) (by omega) A (d.heap.size+1) z ?_;intro g j t s o F T
                 have l:=q.push k p g j (.cells #[k,p] 168) s o;have s3:=l.2.1;have fs:=l.2.2;have HP:χ (gu B (t.setCell ⟨N,3,O⟩ (.slice (S ⟨g,0,O⟩) (b.length+1) j)) N h (.slice (S ⟨g,0,O⟩) (b.length+1) j) (b++[(k,p)]) tk):=l.1;have H:χ (β B w (t.setCell ⟨N,3,O⟩ (.slice (S ⟨g,0,O⟩) (b.length+1) j))):=(((((G.mono C).alloc Q _).drew).grown o A (λr e=>(q.own.lt r e).1)).setCell q.pB _)
                 clear l s o F T)
  all_goals
    go_wp2;go_ret;exact⟨_,rfl,HP,H⟩
def Yp{B N h v b tk}(q:Nat)(w)(i:gu B w N h v b tk)(hf:(b.length:Int)≠h.c)(hl:b.length<=32)(C:q<40)(a8:(q:Int)<h.p)(H:tk.getD q false=false) :
    κ prog 270 #[N,.agg #[(2:Int),(q:Int)]] w λe w'=>∃ v',e=.returned true/\gu B w' N h v' (b++[(2,(q:Int))]) (tk.set q true)/\β B w w':=by
  have t:=i.below ((ja0 w.heap.size w).alloc (ja1 _) (.cells #[(2:Int),(q:Int)] 168));obtain⟨y,c1,c3,F⟩:=t.cells;obtain⟨i0,Z,a0,a2,Q⟩:=info_parts uQ;obtain⟨a,cap,V⟩:=i.form;subst V;obtain⟨n1,n2⟩:=qE hf;have U:bP 2 (q:Int) 40=true:=lI (.inl ⟨rfl,by omega,by omega⟩);have gq  := decide_eq_false (by omega);have q0:(0:Int)<=(q:Int):=by omega
  have q1:(q:Int)<40:=by omega
  have HE:χ (∀ W:ω,κ prog 229 #[.agg #[(2:Int),(q:Int)]] W λe w'=>e=.returned true/\β W W w'):=λW=>by have:=uU 2 (q:Int) W;rw[U] at *;exact this
  have R:=ah t;have G:χ (B<=w.heap.size):=by unfold χ;have:=i.pB;have:=nC i.blk;omega
  have a7  := nC i.blk;go_enter func270,ntmps270;go_wp2;go_quiet (fail)
  go_wp2_with fail;refine cEq (HE _) λd m=>?_
  have D:=below_drewN ((ja0 w.heap.size w).alloc (ja1 _) (.cells #[(2:Int),(q:Int)] 168)) nq;have I:χ (β w w d):=D.trans (m.mono D.size);have n:=(R.below (below_drewN (ja0 _ _) nq)).below m;obtain⟨y,c1,c3,F⟩:=n.cells;have K:d.cell? ⟨w,0,O⟩=S (.int .i64 2):=by rw[m.cell (by simp),jaA,cell_of_row _ _ _ _ _ _ (heap_alloc_new w _)];rfl
  have b1:d.cell? ⟨w,1,O⟩=S (.int .i64 (q:Int)):=by rw[m.cell (by simp),jaA,cell_of_row _ _ _ _ _ _ (heap_alloc_new w _)];rfl
  have P:=n.bit q C;rw[H] at *
  obtain⟨bt,fb⟩:=P;have Y:=ah n;go_wp2;go_quiet (fail)
  go_wp2;go_region;have f:=(Y.below (below_drewN (ja0 _ _) (nq+1))).zK q C;have X:χ (β B w ((d.drewN (nq+1)).setCell ⟨N,4+q,O⟩ true)):=(below_drewN (I.mono G) _).setCell f.pB _
  have a6:((d.drewN (nq+1)).setCell ⟨N,4+q,O⟩ true).cell? ⟨w,0,O⟩=S (.int .i64 2):=by
    rw[jan _ _ _ _ (λe=>by have:=congrArg Addr.block e;simp at this;omega),jaA];exact K
  have a9:((d.drewN (nq+1)).setCell ⟨N,4+q,O⟩ true).cell? ⟨w,1,O⟩=S (.int .i64 (q:Int)):=by
    rw[jan _ _ _ _ (λe=>by have:=congrArg Addr.block e;simp at this;omega),jaA];exact b1
  generalize (d.drewN (nq+1)).setCell ⟨N,4+q,O⟩ true=w4 at *
  obtain⟨y,c1,c3,F⟩:=f.cells;have j:=f.below ((ja0 _ _).drew);have s:=ah j;have T:χ ((w4.alloc (.cells #[(2:Int),(q:Int)] 168)).drew.ownsRow B 168 2 (.slice a b.length cap) b.length (bD b)):=j.own.alloc _;have x:χ ((w4.alloc (.cells #[(2:Int),(q:Int)] 168)).drew.heap.size=w4.heap.size+1):=by unfold χ;simp
  have E:χ (B<=(w4.alloc (.cells #[(2:Int),(q:Int)] 168)).drew.heap.size):=by unfold χ;rw[x.out];have:=j.pB;have:=nC f.blk;omega
  have a4:χ (B<=w4.heap.size):=by unfold χ;have:=j.pB;have:=nC f.blk;omega
  have M:χ (N<w4.heap.size):=nC f.blk;have a3:(w4.alloc (.cells #[(2:Int),(q:Int)] 168)).cell? ⟨N,3,O⟩=S (.slice a b.length cap):=by rw[jas _ _ _ M.out];exact c3
  go_wp2
  go_region_law (refine step_append_lies _ (by rfl) _ _ 144 (by rfl) B 168 i0 (.agg #[(0:Int),(0:Int)]) 2 16 underlying144 Z a0 a2 Q rfl (by decide) (.slice a b.length cap) b.length (bD b) (by rfl) T ⟨w4,0,O⟩ 1 1 [(2:Int),(q:Int)] (by rfl) (by rfl) (vH _ _ _ _) (λu hu=>by simp at *;rcases hu with rfl|rfl<;>rfl) (by decide) (by unfold maxLen;omega) (by omega) E (w4.heap.size+1) x ?_;intro g k A z o a1 a5
                 have l:=s.push 2 (q:Int) g k (.cells #[(2:Int),(q:Int)] 168) z o;have s3:=l.2.1;have fs:=l.2.2;have L:χ (gu B (A.setCell ⟨N,3,O⟩ (.slice (S ⟨g,0,O⟩) (b.length+1) k)) N h (.slice (S ⟨g,0,O⟩) (b.length+1) k) (b++[(2,(q:Int))]) (tk.set q true)):=l.1;have J:χ (β B w (A.setCell ⟨N,3,O⟩ (.slice (S ⟨g,0,O⟩) (b.length+1) k))):=((((X.alloc a4 _).drew).grown o E (λr e=>(s.own.lt r e).1)).setCell s.pB _)
                 clear l z o a1 a5)
  all_goals
    go_wp2;go_ret;exact⟨_,rfl,L,J⟩
def Yy{B N h v m tk}(q:Nat)(w)(l:gu B w N h v m tk)(C:(m.length:Int)≠h.c)(x:q<40)(j:h.p<=(q:Int)\/((q:Int)<h.p/\tk.getD q false=true)) :
  κ prog 270 #[N,.agg #[(2:Int),(q:Int)]] w λe w'=>e=.returned false/\β w w w':=by
 have o:=l.below ((ja0 w.heap.size w).alloc (ja1 _) (.cells #[(2:Int),(q:Int)] 168));obtain⟨n,c1,c3,s⟩:=o.cells;obtain⟨a,cap,E⟩:=l.form;subst E;obtain⟨I,K⟩:=qE C;have D:bP 2 (q:Int) 40=true:=lI (.inl ⟨rfl,by omega,by omega⟩);have F:(0:Int)<=(q:Int):=by omega
 have G:(q:Int)<40:=by omega
 have t:χ (∀ W:ω,κ prog 229 #[.agg #[(2:Int),(q:Int)]] W λe w'=>e=.returned true/\β W W w'):=λW=>by have:=uU 2 (q:Int) W;rw[D] at *;exact this
 have r:=ah o;rcases j with j|⟨J,d⟩
 .have y  := decide_eq_true j;go_enter func270,ntmps270;go_wp2;go_quiet (fail)
  go_wp2_with fail;refine cEq (t _) λb d=>?_
  have f:=below_drewN ((ja0 w.heap.size w).alloc (ja1 _) (.cells #[(2:Int),(q:Int)] 168)) nq;have k:χ (β w w b):=f.trans (d.mono f.size);have i:=(r.below (below_drewN (ja0 _ _) nq)).below d;obtain⟨n,c1,c3,s⟩:=i.cells;have z:b.cell? ⟨w,0,O⟩=S (.int .i64 2):=by rw[d.cell (by simp),jaA,cell_of_row _ _ _ _ _ _ (heap_alloc_new w _)];rfl
  have u:b.cell? ⟨w,1,O⟩=S (.int .i64 (q:Int)):=by rw[d.cell (by simp),jaA,cell_of_row _ _ _ _ _ _ (heap_alloc_new w _)];rfl
  go_wp2;go_quiet (fail)
  go_wp2;go_ret;exact⟨rfl,below_drewN k _⟩
 .have y:decide (h.p<=(q:Int))=false:=decide_eq_false (by omega);go_enter func270,ntmps270;go_wp2;go_quiet (fail)
  go_wp2_with fail;refine cEq (t _) λb g=>?_
  have f:=below_drewN ((ja0 w.heap.size w).alloc (ja1 _) (.cells #[(2:Int),(q:Int)] 168)) nq;have k:χ (β w w b):=f.trans (g.mono f.size);have i:=(r.below (below_drewN (ja0 _ _) nq)).below g;obtain⟨n,c1,c3,s⟩:=i.cells;have A:=i.bit q x;rw[d] at *
  obtain⟨L,H⟩:=A;have z:b.cell? ⟨w,0,O⟩=S (.int .i64 2):=by rw[g.cell (by simp),jaA,cell_of_row _ _ _ _ _ _ (heap_alloc_new w _)];rfl
  have u:b.cell? ⟨w,1,O⟩=S (.int .i64 (q:Int)):=by rw[g.cell (by simp),jaA,cell_of_row _ _ _ _ _ _ (heap_alloc_new w _)];rfl
  go_wp2;go_quiet (fail)
  go_wp2;go_ret;exact⟨rfl,below_drewN k _⟩
def take_any{B N h v a}(k p:Int)(w)(j:gu B w N h v a (fZ a))(A:h.ok=true)(D:(a.length:Int)<=h.c) :
  κ prog 270 #[N,.agg #[k,p]] w λe w' =>
   ∃ m,e=.returned (.bool (stepT h a (k,p)).isSome)/\(∀ i,stepT h a (k,p)=S i->gu B w' N h m i (fZ i))/\β B w w':=by
 have E:=HV.dS A;have t:B<=w.heap.size:=by have:=j.pB;have:=nC j.blk;omega
 by_cases d:(a.length:Int)=h.c
 .refine cEq (Yu k p w j d) λw' f=>?_
  by_cases o:k=0/\p=0
  .have b:stepT h a (k,p)=S a:=by unfold stepT;rw[if_pos d,if_pos (by rw[o.1,o.2])]
   exact⟨v,by rw[b,decide_eq_true o];rfl,λi g=>by rw[b] at *;cases g;exact j.below f,f.mono t⟩
  .have b:stepT h a (k,p)=none:=by unfold stepT;rw[if_pos d,if_neg (λe=>o ⟨congrArg Prod.fst e,congrArg Prod.snd e⟩)]
   exact⟨v,by rw[b,decide_eq_false o];rfl,(λi g=>by rw[b] at *;cases g),f.mono t⟩
 .cases s:bP k p 40 with
  | false =>
   have b:stepT h a (k,p)=none:=by
    unfold stepT;rw[if_neg d,if_neg (λe=>(PK s) (by have:=jS e.1;simp only at *;omega))]
   refine cEq (Yw k p w j d s) λw' f=>?_
   exact⟨v,by rw[b];rfl,(λi g=>by rw[b] at *;cases g),f.mono t⟩
  | true =>
   have C:=jS s;by_cases r:k=2
   .subst r;obtain⟨q,rfl⟩:∃ q:Nat,p=(q:Int):=⟨p.toNat,by omega⟩;have n:q<40:=by omega
    by_cases l:h.p<=(q:Int)\/((q:Int)<h.p/\(fZ a).getD q false=true)
    .have b:stepT h a (2,(q:Int))=none:=by
      unfold stepT;rw[if_neg d,if_neg];rintro⟨h1,h2⟩;rcases l with l|⟨_,l⟩
      .have:=jS h1;simp only at *;omega
      .rw[D9 a q n] at *
       exact h2 ⟨rfl,of_decide_eq_true l⟩
     refine cEq (Yy q w j d n l) λw' f=>?_
     exact⟨v,by rw[b];rfl,(λi g=>by rw[b] at *;cases g),f.mono t⟩
    .have x:(q:Int)<h.p:=by omega
     have y:(fZ a).getD q false=false:=by
      cases z:(fZ a).getD q false with
      | false=>rfl
      | true=>exact absurd (.inr ⟨x,z⟩) l
     have b:stepT h a (2,(q:Int))=S (a++[(2,(q:Int))]):=by
      unfold stepT;rw[if_neg d,if_pos];refine⟨lI (.inl ⟨rfl,by omega,x⟩),λe=>?_⟩;rw[D9 a q n] at *
      exact of_decide_eq_false y e.2
     refine(Yp q w j d (by omega) n x y).mono ?_;rintro e w' ⟨m,rfl,u,f⟩;exact⟨m,by rw[b];rfl,λi g=>by rw[b] at *;cases g;rw[Ll a q n];exact u,f⟩
   .have b:stepT h a (k,p)=S (a++[(k,p)]):=by
     unfold stepT;rw[if_neg d,if_pos];exact⟨lI (by show(k=2/\0<=p/\p<h.p)\/((k=0\/k=1)/\p=0);omega),λe=>r e.1⟩
    refine(Yx k p w j d (by omega) s r).mono ?_;rintro e w' ⟨m,rfl,u,f⟩;exact⟨m,by rw[b];rfl,λi g=>by rw[b] at *;cases g;rw[Lp a k p r];exact u,f⟩
def Vr{N:Nat}(s:ByteArray)(w)(a:s.size≠16) :
  κ prog 247 #[N,s] w λe w'=>e=.returned (.iface 96 (.int .i64 1))/\w'=w:=by
 go_enter func247,ntmps247;go_wp2;go_ret;simp_all
def qJ(h:HV)(a:List (Int × Int))(s:ByteArray):Value:=if (fQ h a s 8).isSome then .nilIface else .iface 96 (.int .i64 2)
def Vq{B N h v b}(s:ByteArray)(w)(y:s.size=16)(r:gu B w N h v b (fZ b))(K:h.ok=true)(G:(b.length:Int)<=h.c) :
  κ prog 247 #[N,s] w λe w' =>
   ∃ D,e=.returned (qJ h b s)/\(∀ d,fQ h b s 8=S d->gu B w' N h D d (fZ d))/\β B w w':=by
 have g1:((s.size:Int) != 16)=false:=by simp;omega
 have x:=ah y;have Q:=ah r;clear y r;go_enter func247,ntmps247;go_wp2;go_loopw [11] (λi wr=>∃(k:Nat) (a:List (Int × Int)) (n:υ),k<=8/\i=.int .i64 k/\fQ h b s k=S a/\gu B wr N h n a (fZ a)/\β B w wr) (λi _=>8-(intOf i).toNat)
 case atStart=>exact⟨0,b,v,ja7 _,rfl,rfl,Q,ja0 _ _⟩
 case round =>
  obtain⟨k,a,n,W,rfl,f,j,z⟩:=hrel;have L:=JH G k a f;have A:B<=wr.heap.size:=by have:=j.pB;have:=nC j.blk;omega
  by_cases T:k<8
  .have I:=zC f;have F:k*2<s.size:=by rw[x.out];omega
   have J:k*2+1<s.size:=by rw[x.out];omega
   have R:=oP s (k*2) F;have x1:=oP s (k*2+1) J;have C:χ (fQ h b s (k+1)=stepT h a (bAt s (k*2),bAt s (k*2+1))):=I;obtain⟨X,u0⟩:=jA s (k*2);obtain⟨Z,u1⟩:=jA s (k*2+1);generalize bAt s (k*2)=y0 at *
   generalize bAt s (k*2+1)=y1 at *
   have Y:(k:Int)*2<(s.size:Int):=by omega
   have U:(k:Int)*2+1<(s.size:Int):=by omega
   have j2:(0:Int)<=(k:Int)*2+1:=by omega
   have V:(0:Int)<=(k:Int)*2:=by omega
   have u:=ah z;have g:=ah (take_any y0 y1 (wr.alloc (.cells #[y0,y1] 168)).drew (j.below (((ja0 wr.heap.size wr).alloc (ja1 _) (.cells #[y0,y1] 168)).drew)) K L)
   cases m:stepT h a (y0,y1) with
   | none =>
    have l:χ (qJ h b s=.iface 96 (.int .i64 2)/\fQ h b s 8=O):=by
     have t:=wU (C.trans m) 8 (by omega);exact⟨by unfold qJ;rw[t];rfl,t⟩
    rw[m] at g;go_wp2;go_region;go_wp2_with fail;refine g.mono ?_;rintro e P ⟨v2,rfl,_,o⟩;go_wp2;go_ret;exact⟨v2,by rw[l.out.1];rfl,λd e=>(by rw[l.out.2] at e;cases e),(((u.alloc A _).drew).trans o)⟩
   | some q =>
    have l:χ (fQ h b s (k+1)=S q):=C.trans m;rw[m] at g;go_wp2;go_region;go_wp2_with fail;refine g.mono ?_;rintro e P ⟨v2,rfl,H,o⟩;go_wp2;go_roundw
    case rel =>
     exact⟨k+1,q,v2,by omega,by go_num,l,(H q rfl),(((u.alloc A _).drew).trans o)⟩
    case measure=>simp[intOf];omega
  .have E:k=8:=by omega
   subst E;have M:χ (qJ h b s=.nilIface):=by unfold χ qJ;rw[f];rfl
   go_wp2;go_ret;exact⟨n,by rw[M.out];rfl,λd e=>(by rw[f] at e;cases e;exact j),z⟩
def Yg(w:ω)(g o a c t)(d:w.heap[g]?=S (.cells c t (0,0)))(i:o+a.length<=c.size)(f:∀ v∈a,v.oneCell'=true) :
  w.setCells g o a=w.setRow g (c.toList.take o++a++c.toList.drop (o+a.length)).toArray:=by
 have b:=run_storeCells_cells (P:=prog) g o a 0 w (λj k=>by rw[jb0,cell_of_row _ _ _ _ _ _ d];simp;omega) (λj _=>frozen_of_row _ _ _ _ _ d) f;rw[(run_storeCells_at (P:=prog) g o t a 0 c w d (by omega) f)] at b;simp_all
def Yj(w:ω)(c t n)(h:c.size=n):(w.alloc (.cells c t)).there w 0 n:=by
 intro j a;simp_all
def Yf(w:ω)(c t a)(h:c.size=a.length)(b:∀ v∈a,v.oneCell'=true):(w.alloc (.cells c t)).setCells w 0 a=w.alloc (.cells a.toArray t):=by
 have e:List.take 0 c.toList++a++List.drop (0+a.length) c.toList=a:=by
  simp_all
 rw[Yg _ _ _ _ c t (heap_alloc_new w _) (by omega) b,jbd,e]
def Yi{P f g b a}{w:ω}{Q}(j:b.guard=O)(d t x y)(k:b.op=.store d x y)
  (c cells) (n:a.eval x=.pointer (S ⟨w,0,O⟩)) (l:a.eval y=.agg cells)
  (i:c.size=cells.size) (m:(P.info? d).map (·.size)=S cells.size) (o:∀ v∈cells.toList,v.oneCell'=true)
  (h:wpList P f Q g (a.put b.dst undef) (w.alloc (.cells cells t))):wpList P f Q (b::g) a (w.alloc (.cells c t)):=by
 refine wpList_store_mid j d x y k _ 0 _ n l (Yj w c t _ i) m (by simp_all) ?_;rw[Yf w c t _ (by simpa using i) o]
 simpa using h
def zX{h a}(b:lT h a=false):gQ h a=1/\dZ h a=[]:=by
 unfold gQ dZ;simp_all
def zY{h a}(b:lT h a=true):gQ h a=(bU h a a.length).2/\dZ h a=(bU h a a.length).1:=by
 unfold gQ dZ;simp_all
def XJ:(prog.info? 290).map (·.size)=S 44:=by kernel_rfl
def Ye(c p b):∀ v∈[Value.int .i64 c,.int .i64 p,.int .i64 b,.slice O 0 0,.bool false,.bool false,.bool false,.bool false,.bool false,.bool false,.bool false,.bool false,.bool false,.bool false,.bool false,.bool false,.bool false,.bool false,.bool false,.bool false,.bool false,.bool false,.bool false,.bool false,.bool false,.bool false,.bool false,.bool false,.bool false,.bool false,.bool false,.bool false,.bool false,.bool false,.bool false,.bool false,.bool false,.bool false,.bool false,.bool false,.bool false,.bool false,.bool false,.bool false],v.oneCell'=true:=by
 intro v a;have e:[Value.int .i64 c,.int .i64 p,.int .i64 b,.slice O 0 0,.bool _,.bool false,.bool false,.bool false,.bool false,.bool false,.bool false,.bool false,.bool false,.bool false,.bool false,.bool false,.bool false,.bool false,.bool false,.bool false,.bool false,.bool false,.bool false,.bool false,.bool false,.bool false,.bool false,.bool false,.bool false,.bool false,.bool false,.bool false,.bool false,.bool false,.bool false,.bool false,.bool false,.bool false,.bool _,.bool _,.bool _,.bool _,.bool _,.bool _]=[Value.int .i64 c,.int .i64 p,.int .i64 b,.slice O 0 0]++List.replicate 40 _:=rfl;rw[e] at a;rcases List.mem_append.1 a with h|h
 .simp only[jb7,jb1,or_false] at h;rcases h with rfl|rfl|rfl|rfl<;>rfl
 .rw[(List.mem_replicate.1 h).2];rfl
def A8(w):mO w O 0 []:=⟨rfl,λk a=>by omega⟩
def mV(B:Nat)(w:ω)(lt:Option Addr)(a:Nat)(ts:List (Int × Int)):Prop :=
 mO w lt ts.length ts/\w.ownsRow B 168 2 (.slice lt ts.length a) ts.length (bD ts)
def qK(B w):mV B w O 0 []:=⟨A8 w,jaa _ _ _ _⟩
def Vt(c p b la len cap a w)(d:HV.ok ⟨c,p,b⟩=false) :
  κ prog 209 #[.agg #[c,p,b],.slice la len cap] w λe w' =>
   ∃ lt f,e=.returned (.tuple #[.slice lt (dZ ⟨c,p,b⟩ a).length f,erV (gQ ⟨c,p,b⟩ a)])/\mV w w' lt f (dZ ⟨c,p,b⟩ a)/\β w w w':=by
 have i:lT ⟨c,p,b⟩ a=false:=by unfold lT;rw[d];rfl
 obtain⟨j,l⟩:=zX i;rw[j,l,eX];have g:HV.fault _=1:=if_neg (by rw[d];decide);have m:χ _:=λW=>by have:=qp c p b W;rw[g,eX] at *;exact this
 go_enter func209,ntmps209;go_wp2_with fail;refine cEq (m _) λn k=>?_
 go_wp2;go_ret2;exact⟨O,0,rfl,qK _ _,((ja0 _ _).alloc (ja1 _) _).trans (k.mono (by simp))⟩
def Vx(c p b la len cap a w)(n:Texts w la len a)(d:HV.ok ⟨c,p,b⟩=true)(j:len≠aB c.toNat) :
  κ prog 209 #[.agg #[c,p,b],.slice la len cap] w λe w' =>
   ∃ lt g,e=.returned (.tuple #[.slice lt (dZ ⟨c,p,b⟩ a).length g,erV (gQ ⟨c,p,b⟩ a)])/\mV w w' lt g (dZ ⟨c,p,b⟩ a)/\β w w w':=by
 have k:lT ⟨c,p,b⟩ a=false:=by unfold lT;rw[d,n.1,decide_eq_false j];rfl
 obtain⟨l,o⟩:=zX k;rw[l,o,eX];have i:HV.fault _=0:=if_pos d;have m:χ _:=λW=>by have:=qp c p b W;rw[i,aJ] at *;exact this
 obtain⟨g1,g2,_⟩:=HV.dS d;simp only at *
 have q:χ _:=λW=>by have:=rX c.toNat W (by omega);rw[show((c.toNat:Nat):Int)=c by omega] at *;exact this
 have t:((len:Int) != (aB c.toNat:Int))=true:=by simp;omega
 generalize aB c.toNat=u at *
 go_enter func209,ntmps209;go_wp2_with fail;refine cEq (m _) λs f=>?_
 have r:=rF f 0 _ rfl;go_wp2_with (go_at_call 101;refine cSt (q _) ?_)
 go_ret2;exact⟨O,0,rfl,qK _ _,((ja0 _ _).alloc (ja1 _) _).trans (f.mono (by simp))⟩
def Vw(c p b la len cap d w)(hT:Texts w la len d)(ab:len<=20)(F:HV.ok ⟨c,p,b⟩=true)(hr:len=aB c.toNat) :
  κ prog 209 #[.agg #[c,p,b],.slice la len cap] w λe w' =>
   ∃ lt u,e=.returned (.tuple #[.slice lt (dZ ⟨c,p,b⟩ d).length u,erV (gQ ⟨c,p,b⟩ d)])/\mV w w' lt u (dZ ⟨c,p,b⟩ d)/\β w w w':=by
 have hi:lT ⟨c,p,b⟩ d=true:=by unfold lT;rw[F,hT.1,decide_eq_true hr];rfl
 have ef:HV.fault ⟨c,p,b⟩=0:=if_pos F;have HC:χ (∀ W:ω,κ prog 27 #[.agg #[c,p,b]] W λe w'=>e=.returned .nilIface/\β W W w'):=λW=>by have:=qp c p b W;rw[ef,aJ] at this;exact this
 obtain⟨g1,g2,_⟩:=HV.dS F;simp only at g1 g2;have HR:χ (∀ W:ω,κ prog 101 #[c] W λe w'=>e=.returned (len:Int)/\w'=W):=λW=>by have:=rX c.toNat W (by omega);rw[show((c.toNat:Nat):Int)=c by omega,<- hr] at this;exact this
 have Y:=ah hT;have HK:=ah F;have HI:=ah hi;have a0:χ ((prog.info? 290).map (·.size)=S (#[.int .i64 c,.int .i64 p,.int .i64 b,.slice O 0 0,.bool false,.bool false,.bool false,.bool false,.bool false,.bool false,.bool false,.bool false,.bool false,.bool false,.bool false,.bool false,.bool false,.bool false,.bool false,.bool false,.bool false,.bool false,.bool false,.bool false,.bool false,.bool false,.bool false,.bool false,.bool false,.bool false,.bool false,.bool false,.bool false,.bool false,.bool false,.bool false,.bool false,.bool false,.bool false,.bool false,.bool false,.bool false,.bool false,.bool false]:Array υ).size):=XJ;have HZ:χ (∀ v∈(#[.int .i64 c,.int .i64 p,.int .i64 b,.slice O 0 0,.bool false,.bool false,.bool false,.bool false,.bool false,.bool false,.bool false,.bool false,.bool false,.bool false,.bool false,.bool false,.bool false,.bool false,.bool false,.bool false,.bool false,.bool false,.bool false,.bool false,.bool false,.bool false,.bool false,.bool false,.bool false,.bool false,.bool false,.bool false,.bool false,.bool false,.bool false,.bool false,.bool false,.bool false,.bool false,.bool false,.bool false,.bool false,.bool false,.bool false]:Array υ).toList,v.oneCell'=true):=Ye c p b;have a6:=HK.out;go_enter func209,ntmps209;go_wp2_with fail;refine cEq (HC.out _) λq G=>?_
 have x0:=rF G 0 _ rfl;have x1:=rF G 1 _ rfl;have x2:=rF G 2 _ rfl;have J:χ (β w w q):=((ja0 _ _).alloc (ja1 _) _).trans (G.mono (by simp))
 have a1:gu w.heap.size (q.alloc (.cells #[.int .i64 c,.int .i64 p,.int .i64 b,.slice O 0 0,.bool false,.bool false,.bool false,.bool false,.bool false,.bool false,.bool false,.bool false,.bool false,.bool false,.bool false,.bool false,.bool false,.bool false,.bool false,.bool false,.bool false,.bool false,.bool false,.bool false,.bool false,.bool false,.bool false,.bool false,.bool false,.bool false,.bool false,.bool false,.bool false,.bool false,.bool false,.bool false,.bool false,.bool false,.bool false,.bool false,.bool false,.bool false,.bool false,.bool false] 290)) q.heap.size ⟨c,p,b⟩ (.slice O 0 0) [] (fZ []):=by
  rw[Lm];exact⟨heap_alloc_new q _,jaa _ _ _ _,J.out.size,by simp⟩
 have L:=ah a1
 go_wp2_with (first
  | (go_at_call 101;refine cSt (HR.out _) ?_)
  | (refine Yi (by rfl) 290 290 (.tmp 7) (.tmp 24) (by rfl) _ #[.int .i64 c,.int .i64 p,.int .i64 b,.slice O 0 0,.bool false,.bool false,.bool false,.bool false,.bool false,.bool false,.bool false,.bool false,.bool false,.bool false,.bool false,.bool false,.bool false,.bool false,.bool false,.bool false,.bool false,.bool false,.bool false,.bool false,.bool false,.bool false,.bool false,.bool false,.bool false,.bool false,.bool false,.bool false,.bool false,.bool false,.bool false,.bool false,.bool false,.bool false,.bool false,.bool false,.bool false,.bool false,.bool false,.bool false] (by rfl) (by rfl) rfl a0.out HZ.out ?_))
 have Z:χ (β w w (q.alloc (.cells #[.int .i64 c,.int .i64 p,.int .i64 b,.slice O 0 0,.bool false,.bool false,.bool false,.bool false,.bool false,.bool false,.bool false,.bool false,.bool false,.bool false,.bool false,.bool false,.bool false,.bool false,.bool false,.bool false,.bool false,.bool false,.bool false,.bool false,.bool false,.bool false,.bool false,.bool false,.bool false,.bool false,.bool false,.bool false,.bool false,.bool false,.bool false,.bool false,.bool false,.bool false,.bool false,.bool false,.bool false,.bool false,.bool false,.bool false] 290))):=J.out.alloc J.out.size _;generalize q.alloc (.cells #[.int .i64 c,.int .i64 p,.int .i64 b,.slice O 0 0,.bool false,.bool false,.bool false,.bool false,.bool false,.bool false,.bool false,.bool false,.bool false,.bool false,.bool false,.bool false,.bool false,.bool false,.bool false,.bool false,.bool false,.bool false,.bool false,.bool false,.bool false,.bool false,.bool false,.bool false,.bool false,.bool false,.bool false,.bool false,.bool false,.bool false,.bool false,.bool false,.bool false,.bool false,.bool false,.bool false,.bool false,.bool false,.bool false,.bool false] 290)=wt at L Z |-;generalize q.heap.size=N at L |-;have T:χ (d.length=len):=Y.out.1
 have Q:χ (∀(j:Nat) (f:Int),f≠0->j<=len->bU ⟨c,p,b⟩ d j=([],f)->dZ ⟨c,p,b⟩ d=[]/\gQ ⟨c,p,b⟩ d=f):=λj f hf V e=>by
  obtain⟨l,k⟩:=zY HI.out;have e3:=La hf e d.length (by rw[T.out];exact V);rw[l,k,e3];exact⟨rfl,rfl⟩
 go_loopw [27] (λi wr=>∃(j:Nat) (v:υ),j<=len/\i=.int .i64 j/\(bU ⟨c,p,b⟩ d j).2=0/\(((bU ⟨c,p,b⟩ d j).1.length:Nat):Int)<=c/\gu w.heap.size wr N ⟨c,p,b⟩ v (bU ⟨c,p,b⟩ d j).1 (fZ (bU ⟨c,p,b⟩ d j).1)/\β w w wr) (λi _=>len-(intOf i).toNat)
 case atStart=>exact⟨0,.slice O 0 0,ja7 _,rfl,rfl,(by show(0:Int)<=c;omega),L.out,Z⟩
 case round =>
  obtain⟨j,v,V,rfl,x,I,r,D⟩:=hrel;by_cases a8:j<len
  .obtain⟨bb,ae,rfl,y,ac⟩:=Y.2 j a8;rw[<- D.cell (ja2 w _ y)] at y;have j0:(0:Int)<=(j:Int):=by omega
   have o:(j:Int)<(len:Int):=by omega
   have z:=ah D;by_cases B:(d.getD j ByteArray.empty).size=16
   .have m:=ah (Vq (d.getD j ByteArray.empty) wr B r a6 I)
    cases t:fQ ⟨c,p,b⟩ (bU ⟨c,p,b⟩ d j).1 (d.getD j ByteArray.empty) 8 with
    | none =>
     obtain⟨l,k⟩:=Q (j+1) 2 (by decide) (by omega) (zU x B t);have n:=ah l;have A:χ (erV (gQ ⟨c,p,b⟩ d)=.iface 96 (.int .i64 2)):=by unfold χ;rw[k];exact yD
     have H:qJ ⟨c,p,b⟩ (bU ⟨c,p,b⟩ d j).1 (d.getD j ByteArray.empty)=.iface 96 (.int .i64 2):=by unfold qJ;rw[t];rfl
     rw[H] at m;generalize d.getD j ByteArray.empty=s at y m;go_wp2_with fail;refine m.mono ?_;rintro e R ⟨v2,rfl,_,P⟩;go_wp2;go_ret2;exact⟨O,0,by rw[n.out,A.out];rfl,by rw[n.out];exact qK _ _,z.trans P⟩
    | some X =>
     have hg:=zV x B t;have a4:=JH (h:=⟨c,p,b⟩) I 8 X t;have M:=ah hg;have H:qJ ⟨c,p,b⟩ (bU ⟨c,p,b⟩ d j).1 (d.getD j ByteArray.empty)=.nilIface:=by unfold qJ;rw[t];rfl
     rw[H,t] at m;generalize d.getD j ByteArray.empty=s at y m;go_wp2_with fail;refine m.mono ?_;rintro e R ⟨v2,rfl,a5,P⟩;have a7:=ah (a5 X rfl);go_wp2;go_roundw
     case rel =>
      have fin:∃(o:Nat) (v3:υ),o<=len/\Value.int .i64 ((j:Int)+1)=.int .i64 o/\(bU ⟨c,p,b⟩ d o).2=0/\(((bU ⟨c,p,b⟩ d o).1.length:Nat):Int)<=c/\gu w.heap.size R N ⟨c,p,b⟩ v3 (bU ⟨c,p,b⟩ d o).1 (fZ (bU ⟨c,p,b⟩ d o).1)/\β w w R:=by
       refine⟨j+1,v2,by omega,by go_num,?_,?_,?_,z.trans P⟩
       .rw[M.out]
       .rw[M.out];exact a4
       .rw[M.out];exact a7
      first|exact fin|((repeat apply Exists.intro);exact⟨fin,rfl⟩)
     case measure=>simp[intOf];omega
   .obtain⟨l,k⟩:=Q (j+1) 1 (by decide) (by omega) (zW x B);have n:=ah l;have A:χ (erV (gQ ⟨c,p,b⟩ d)=.iface 96 (.int .i64 1)):=by unfold χ;rw[k];exact eX
    have m:=ah (Vr (N:=N) (d.getD j ByteArray.empty) wr B);generalize d.getD j ByteArray.empty=s at y m;go_wp2_with (go_at_call 247;refine cSt m ?_)
    go_ret2;exact⟨O,0,by rw[n.out,A.out];rfl,by rw[n.out];exact qK _ _,z⟩
  .have U:j=d.length:=by rw[T.out];omega
   obtain⟨l,k⟩:=zY HI;rw[<- U] at l k;obtain⟨c0,c1,c3,f3⟩:=r.cells;obtain⟨a,u,E⟩:=r.form;rw[E] at c3
   have a9:χ (mV w.heap.size wr a u (bU ⟨c,p,b⟩ d j).1):=by
    refine⟨?_,E▸r.own⟩;have C:=r.own;rw[E] at C;rcases C.2 with⟨h0,hn⟩|⟨g,aa,ad,a3,_⟩
    .have K:a=none:=by injection h0
     rw[K,List.length_eq_zero_iff.1 hn];exact A8 _
    .have K:a=S ⟨g,0,O⟩:=by injection a3
     rw[K] at C |-;exact vX C _ (by rw[jaf (by rw[qV];exact ja1 _)]) (ja1 _) rfl
   have A:χ (erV (gQ ⟨c,p,b⟩ d)=.nilIface):=by unfold χ;rw[l,x];exact aJ
   have n:=ah k;have z:=ah D;clear r D x I l k c0 c1 f3 E Q U;go_wp2;go_ret2;exact⟨a,u,by rw[n.out,A.out];rfl,by rw[n.out];exact a9,z⟩
def Vs(c p b:Int)(la len cap a w)(f:Texts w la len a)(j:len<=20) :
  κ prog 209 #[.agg #[c,p,b],.slice la len cap] w λe w' =>
   ∃ lt i,e=.returned (.tuple #[.slice lt (dZ ⟨c,p,b⟩ a).length i,erV (gQ ⟨c,p,b⟩ a)])/\mV w w' lt i (dZ ⟨c,p,b⟩ a)/\β w w w':=by
 cases d:HV.ok _ with
 | false=>exact Vt c p b la len cap a w d
 | true =>
  by_cases g:len=aB c.toNat
  .exact Vw c p b la len cap a w f j d g
  .exact Vx c p b la len cap a w f d g
def yO:Keyed prog 3:=int_keyed underlying3
def qC(l:List Nat):DataW Unit:=setOf (.agg []) (l.map λq:Nat=>Lit.int .i64 (q:Int))
def Hz(q:Nat)(h:q<1000):keyOf prog 3 (.int .i64 (q:Int))=S (.int .i64 (q:Int)) :=
 keyOf_int_mk underlying3 (WalkArith.wf_i64 (by omega))
structure Gd where
 g:Nat->Prop
 top:Nat
 lt:∀ k,g k->k<top
def Gd.of(n:Nat):Gd:=⟨λk=>k<n,n,λ_ h=>h⟩
instance:Coe Nat Gd:=⟨Gd.of⟩
def Gd.fresh(B:Gd){n k}(h:B.top<=n)(a:n<=k):¬B.g k:=λe=>by have:=B.lt k e;omega
def KP(w:ω)(k:Nat):Prop :=
 (∃ a t,w.heap[k]?=S (.cells a t (0,0))/\(t=178\/t=175\/t=180\/t=235))\/∃ b c,w.heap[k]?=S (.map b c)
def SP(B:Gd)(tb:Nat)(w:ω)(k:Nat):Prop:=¬B.g k/\(KP w k\/k=tb)
def aX(B:Gd)(tb:Nat)(w w':ω):Prop:=Kept (SP B tb w) w w'
def KP.of{w w' k}(e:w'.heap[k]?=w.heap[k]?)(h:KP w' k):KP w k:=by
 rcases h with⟨a,t,d,b⟩|⟨f,c,d⟩
 .exact .inl ⟨a,t,by simp_all,b⟩
 .exact .inr ⟨f,c,by simp_all⟩
theorem aX.trans{B tb a b c}(h:aX B tb a b)(k:aX B tb b c):aX B tb a c:=by
 refine⟨k.os.trans h.os,k.tape.trans h.tape,k.output.trans h.output,ja4 h.size k.size,λi f d=>?_⟩;have e:=h.block i f d;rw[k.block i (ja8 f h.size) (λs=>d ⟨s.1,s.2.imp (λx=>x.of e) id⟩),e]
theorem aX.refl(B tb w):aX B tb w w:=Kept.refl _ _
def aX.of_below{B tb}{w w':ω}(h:β w w w'):aX B tb w w':=Below.kept h
def aX.box{B tb w w'}(h:aX B tb w w'){k b t}(d:w.heap[k]?=S (.cells b t (0,0)))(i:¬(t=178\/t=175\/t=180\/t=235))(f:k≠tb):w'.heap[k]?=S (.cells b t (0,0)):=by
 rw[h.block k (lt_of_some d) (λs=>?_)]
 .exact d
 .rcases s.2 with(⟨c2,t2,a,p⟩|⟨g,c,a⟩)|a
  .simp_all
  .simp_all
  .exact f a
structure bV(B:Gd)(w:ω)(h:Hd)(d:DV):Prop extends aS 0 w h d where
 out:∀ k,h.fp k->¬B.g k
theorem bV.keep{B w w' h d}(hd:bV B w h d)(a:∀ k,h.fp k->w'.heap[k]?=w.heap[k]?):bV B w' h d:=⟨hd.toaS.keep a,hd.out⟩
def aS.base0{B w h d}(hd:aS B w h d):aS 0 w h d:=⟨hd.ok,ja7 _,hd.blk,ownsRow_base hd.of (ja7 _),ownsRow_base hd.os (ja7 _),ownsRow_base hd.op (ja7 _),hd.ne,hd.pn⟩
def aS.toG{B w h d}(hd:aS B w h d):bV B w h d:=⟨hd.base0,λk a=>Nat.not_lt.2 (hd.lt k a).1⟩
def bV.nilled{B w w' h d b}(hd:bV B w h d)(c:aS 0 w' {h with v2:=.slice O 0 0} b):bV B w' {h with v2:=.slice O 0 0} b :=
 ⟨c,λk a=>by
  rcases a with a|a|a|a
  .exact hd.out k (.inl a)
  .exact hd.out k (.inr (.inl a))
  .exact hd.out k (.inr (.inr (.inl a)))
  .cases a⟩
def bV.inP{B w h d}(hd:bV B w h d)(tb):∀ k,h.fp k->SP B tb w k:=by
 intro k a;obtain⟨b,t,e,p⟩:=hd.kinds k a;exact⟨hd.out k a,.inl (.inl ⟨b,t,e,by rcases p with p|p|p;exact .inl p;exact .inr (.inl p);simp_all⟩)⟩
def bV.Sr{B tb w w' h d}(hd:bV B w h d)(a:Kept h.fp w w'):aX B tb w w':=a.mono λk _ b=>hd.inP tb k b
def yt{B n m h d}(i)(s:ByteArray)(w)(hd:bV B w h d)(j:d.fine n m)(x:m<1000000000)(q:B.top<=w)(l:s.size=16)(u:i<n) :
  κ prog 105 #[h.p,(i:Int),s] w λe w' =>
   ∃ v2,e=.returned (erV d.aV)/\bV B w' {h with v2:=v2} (d.put i s.data.toList)/\Kept h.fp w w':=by
 have t:=j.len;have r:=j.wr;unfold DV.put DV.aV;by_cases b:d.fail=0
 .rw[if_pos b,if_pos b];refine(Zr (i:Int) s w hd.toaS l (by unfold DV.has;simp;omega) b).mono ?_;rintro e w' ⟨rfl,g,c⟩;exact⟨h.v2,by simp[erV],⟨g,hd.out⟩,c⟩
 .rw[if_neg b,if_neg b];refine(Zt i s w hd.toaS (ja7 _) l (by omega) (by omega) b).mono ?_;rintro e w' ⟨v,rfl,g,c,o⟩;refine⟨v,by simp[erV],⟨g,λk a=>?_⟩,c⟩;rcases a with a|a|a|a
  .exact hd.out k (.inl a)
  .exact hd.out k (.inr (.inl a))
  .exact hd.out k (.inr (.inr (.inl a)))
  .rcases o k a with f|f
   .exact hd.out k (.inr (.inr (.inr f)))
   .exact B.fresh q f
structure Ih where
 p:Nat
 h:Hd
 tb:Nat
 tc:Nat
 m:Nat
structure aI(B:Gd)(w:ω)(x:Ih)(v:IV):Prop where
 blk:w.heap[x.p]?=S (.cells #[x.h.p,v.h.c,v.h.p,v.h.b,.slice (S ⟨x.tb,0,O⟩) v.t.length x.tc,.map (S x.m)] 235 (0,0))
 pB:¬B.g x.p/\¬B.g x.tb
 mB:¬B.g x.m
 dev:bV B w x.h v.d
 own:w.ownsRow 0 168 2 (.slice (S ⟨x.tb,0,O⟩) v.t.length x.tc) v.t.length (bD v.t)
 map:w.ownsMap prog 3 (unitElem (H:=Unit)) x.m v.held.length (qC v.held)
def aI.cells{B w x v}(h:aI B w x v) :
  w.cell? ⟨x.p,0,O⟩=S (x.h.p:υ)/\w.cell? ⟨x.p,1,O⟩=S (v.h.c:υ)/\w.cell? ⟨x.p,2,O⟩=S (v.h.p:υ)/\w.cell? ⟨x.p,3,O⟩=S (v.h.b:υ) /\
  w.cell? ⟨x.p,4,O⟩=S (.slice (S ⟨x.tb,0,O⟩) v.t.length x.tc)/\w.cell? ⟨x.p,5,O⟩=S (.map (S x.m))/\∀ j,w.frozen? ⟨x.p,j,O⟩=false:=by
 have a:=h.blk;refine⟨?_,?_,?_,?_,?_,?_,λj=>frozen_of_row w x.p j _ _ a⟩<;>rw[cell_of_row w x.p _ _ _ _ a]<;>rfl
def wJ{P k R}{w w':ω}{b n}{D:DataW Unit}(h:w.ownsMap P k R b n D)(e:w'.heap[b]?=w.heap[b]?):w'.ownsMap P k R b n D:=by
 obtain⟨a,c,d,r⟩:=h;exact⟨a,c,by simp_all,r⟩
def uY{P k R}{w:ω}{b n}{D:DataW Unit}(h:w.ownsMap P k R b n D):∃ a c,w.heap[b]?=S (.map a c):=by
 obtain⟨a,d,f,r⟩:=h;simp_all
theorem aI.tb{B w x v}(h:aI B w x v):¬B.g x.tb/\∃ a,w.heap[x.tb]?=S (.cells a 168 (0,0)):=by
 obtain⟨_,a,b,_⟩:=fB h.own;exact⟨h.pB.2,a,b⟩
theorem aI.keep{B w w' x v}(h:aI B w x v)(a:w'.heap[x.p]?=w.heap[x.p]?)(b:w'.heap[x.m]?=w.heap[x.m]?)(c:w'.heap[x.tb]?=w.heap[x.tb]?)(hd:∀ k,x.h.fp k->w'.heap[k]?=w.heap[k]?):aI B w' x v :=
 ⟨by rw[a];exact h.blk,h.pB,h.mB,h.dev.keep hd,bg h.own (λk e=>by
  have:x.tb=k:=by simpa [Value.ownBlock] using e
  simp_all),wJ h.map b⟩
def aI.lts{B w x v}(h:aI B w x v):x.p<w/\x.m<w/\x.tb<w:=by
 obtain⟨_,d,b⟩:=h.tb;obtain⟨f,c,a⟩:=uY h.map;exact⟨lt_of_some h.blk,lt_of_some a,lt_of_some b⟩
def aI.below{B w w' x v}(h:aI B w x v)(a:β w w w'):aI B w' x v:=by
 obtain⟨d,c,f⟩:=h.lts;exact h.keep (a.block _ d) (a.block _ c) (a.block _ f) λk b=>a.block _ (h.dev.lt k b).2
theorem aI.drew{B w x v}(h:aI B w x v):aI B w.drew x v:=h.keep rfl rfl rfl λ_ _=>rfl
def aI.sW{B w w' x v}(h:aI B w x v){f i}(hd:bV B w' f i)(l:f.p=x.h.p)(b:Kept x.h.fp w w'):aI B w' {x with h:=f} {v with d:=i}/\aX B x.tb w w':=by
 have q:¬x.h.fp x.p:=λe=>by
  obtain⟨g,t,a,p⟩:=h.dev.kinds _ e;rw[h.blk] at *
  cases a;simp_all
 have s:¬x.h.fp x.m:=λe=>by
  obtain⟨g,t,a,p⟩:=h.dev.kinds _ e;obtain⟨z,c,j⟩:=uY h.map;simp_all
 have n:¬x.h.fp x.tb:=λe=>by
  obtain⟨g,t,a,p⟩:=h.dev.kinds _ e;obtain⟨_,y,j⟩:=h.tb;rw[j] at a;cases a;simp_all
 obtain⟨o,r,u⟩:=h.lts
 refine⟨⟨?_,h.pB,h.mB,hd,bg h.own (λk e=>by
  have:x.tb=k:=by simpa [Value.ownBlock] using e
  subst this;exact b.block _ u n),wJ h.map (b.block _ r s)⟩,h.dev.Sr b⟩
 rw[l,b.block _ o q];exact h.blk
def FT(ts c k p):bD (ts.set c (k,p))=((bD ts).set (c*2) (.int .i64 k)).set (c*2+1) (.int .i64 p):=by
 induction ts generalizing c with
 | nil=>simp[bD]
 | cons e ts b =>
  have a:∀(y:Int × Int) (l:List _),bD (y::l)=.int .i64 y.1::.int .i64 y.2::bD l:=λ_ _=>rfl
  cases c with
  | zero=>simp[a]
  | succ c =>
   rw[jar,a,b c,a,show(c+1)*2=c*2+1+1 by omega];simp
def aI.Ku{B w x v}(h:aI B w x v)(c)(k p:Int) :
  aI B ((w.setCell ⟨x.tb,c*2,O⟩ k).setCell ⟨x.tb,c*2+1,O⟩ p) x {v with t:=v.t.set c (k,p)} /\
  aX B x.tb w ((w.setCell ⟨x.tb,c*2,O⟩ k).setCell ⟨x.tb,c*2+1,O⟩ p):=by
 obtain⟨o,i,b,q,l,r,j⟩:=fB h.own;have f:x.p≠x.tb:=λe=>by have:=h.blk;simp_all
 have g:x.m≠x.tb:=λe=>by obtain⟨y,u,z⟩:=uY h.map;simp_all
 have d:∀ k,x.h.fp k->k≠x.tb:=λk a e=>by
  obtain⟨s,t,n,p⟩:=h.dev.kinds _ a;rw[e,b] at *
  cases n;simp_all
 refine⟨⟨?_,h.pB,h.mB,h.dev.keep λk a=>?_,?_,wJ h.map ?_⟩,(((Kept.refl _ w).setCell  (.inl ⟨h.pB.2,.inr rfl⟩) _).setCell  (.inl ⟨h.pB.2,.inr rfl⟩) _)⟩
 .rw[heap_setCell_other _ _ _ _ f,heap_setCell_other _ _ _ _ f];rw[jal];exact h.blk
 .rw[heap_setCell_other _ _ _ _ (d _ a),heap_setCell_other _ _ _ _ (d _ a)]
 .rw[jal];refine⟨by rw[qV,jal],.inr ⟨x.tb,x.tc,(i.setIfInBounds (c*2) (.int .i64 k)).setIfInBounds (c*2+1) (.int .i64 p),rfl,o,?_,q,l,by simp_all,?_⟩⟩
  .rw[heap_setCell_same _ _ _ _ _ _ (heap_setCell_same w x.tb _ _ _ _ b)]
  .rw[FT,<- j];simp only[Array.toList_setIfInBounds,List.take_set]
 .rw[heap_setCell_other _ _ _ _ g,heap_setCell_other _ _ _ _ g]
def Ih.fp(x:Ih)(k:Nat):Prop:=k=x.p\/k=x.m\/k=x.tb\/x.h.fp k
theorem aI.out{B w x v}(h:aI B w x v):∀ k,x.fp k->¬B.g k:=by
 rintro k (rfl|rfl|rfl|a)
 .exact h.pB.1
 .exact h.mB
 .exact h.pB.2
 .exact h.dev.out k a
def aI.iH{B w x v}(h:aI B w x v):∀ k,x.fp k->k<w:=by
 obtain⟨b,c,d⟩:=h.lts;rintro k (rfl|rfl|rfl|a)
 .exact b
 .exact c
 .exact d
 .exact(h.dev.lt k a).2
def aI.re{B C w x v}(h:aI B w x v)(a:∀ k,x.fp k->¬C.g k):aI C w x v :=
 ⟨h.blk,⟨a _ (.inl rfl),a _ (.inr (.inr (.inl rfl)))⟩,a _ (.inr (.inl rfl)),⟨h.dev.toaS,λk b=>a k (.inr (.inr (.inr b)))⟩,h.own,h.map⟩
def aI.aY{B w w' x v}(h:aI B w x v)(a:∀ k,x.fp k->w'.heap[k]?=w.heap[k]?):aI B w' x v :=
 h.keep (a _ (.inl rfl)) (a _ (.inr (.inl rfl))) (a _ (.inr (.inr (.inl rfl)))) λk b=>a k (.inr (.inr (.inr b)))
def Ap(c p b)(q:Nat)(w)(d:HV.ok ⟨c,p,b⟩=true)(k:q<=40) :
  κ prog 98 #[.agg #[c,p,b],(q:Int)] w λe w'=>e=.returned (dJ ⟨c,p,b⟩ q:Int)/\β w w w':=by
 obtain⟨g1,g2,_⟩:=HV.dS d;simp only at *
 have f:χ _:=λW=>by have:=rX c.toNat W (by omega);rw[show((c.toNat:Nat):Int)=c by omega] at *;exact this
 have a:χ (dJ ⟨c,p,b⟩ q=1+aB c.toNat+4*q):=rfl;have g:aB c.toNat<=10:=by unfold aB;omega
 generalize aB c.toNat=i at *
 generalize dJ _ q=j at *
 go_enter func98,ntmps98;go_wp2_with (go_at_call 101;refine cSt (f _) ?_)
 go_ret;exact⟨nU (by have:=a.out;omega),(ja0 _ _).alloc (ja1 _) _⟩
def wC(c p b w)(a:HV.ok ⟨c,p,b⟩=true) :
  κ prog 29 #[.agg #[c,p,b]] w λe w'=>e=.returned (aQ ⟨c,p,b⟩:Int)/\β w w w':=by
 have i:=HV.dS a;simp only at *
 have d:χ (∀ W:ω,κ prog 98 _ W λe w'=>e=.returned (aQ _:Int)/\β _ W w'):=λW=>by
  have:=Ap c p b p.toNat W a (by omega)
  rw[show((p.toNat:Nat):Int)=p by omega] at *;exact this
 generalize aQ _=n at *
 go_enter func29,ntmps29;go_wp2_with fail;refine cEq (d _) λg f=>?_
 go_wp2;go_ret;exact⟨rfl,((ja0 _ _).alloc (ja1 _) _).trans (f.mono (by simp))⟩
def aI.jZ{B w x v}(h:aI B w x v){c}(d:c<v.t.length) :
  w.cell? ⟨x.tb,c*2,O⟩=S (.int .i64 (v.t.getD c (0,0)).1)/\w.cell? ⟨x.tb,c*2+1,O⟩=S (.int .i64 (v.t.getD c (0,0)).2)/\∀ j,w.frozen? ⟨x.tb,j,O⟩=false:=by
 obtain⟨b,a⟩:=vW _ c d;refine⟨?_,?_,λj=>h.own.frozenAt j⟩
 .rw[h.own.cellAt _ (by omega)];exact b
 .rw[h.own.cellAt _ (by omega)];exact a
def IV.iT(v:IV)(c:Int):Int:=if v.there c=true then 0 else 1
def IV.bG(v:IV)(c:Int):Int × Int:=if v.there c=true then v.ent c else (0,0)
def sZ{B x v}(c:Int)(w)(h:aI B w x v) :
  κ prog 257 #[x.p,c] w λe w' =>
   e=.returned (.tuple #[.agg #[.int .i64 (v.bG c).1,.int .i64 (v.bG c).2],erV (v.iT c)])/\β w w w':=by
 obtain⟨m,c1,c2,c3,c4,o,j⟩:=h.cells;unfold IV.bG IV.iT
 cases a:v.there c with
 | true =>
  obtain⟨b,l⟩:=IV.oM a;obtain⟨k,rfl⟩:∃ k:Nat,c=(k:Int):=⟨c.toNat,by omega⟩;obtain⟨t0,t1,_⟩:=h.jZ (c:=k) (by omega);have f:χ (v.ent (k:Int)=v.t.getD k (0,0)):=rfl;rw[if_pos rfl,if_pos rfl,aJ,f.out];have i:x.tb<w.heap.size:=h.lts.2.2;have d  := h.lts.1;generalize (v.t.getD k (0,0)).1=y0 at *
  generalize (v.t.getD k (0,0)).2=y1 at *
  generalize v.t.length=n at *
  go_enter func257,ntmps257;go_wp2;exact bodyPost_ret (v:=.tuple #[.agg #[y0,y1],.nilIface]) (by simp[results,results257,go_sem]) rfl ⟨rfl,(by first|exact(ja0 _ _).alloc (ja1 _) _|exact((((ja0 _ _).alloc (ja1 _) _).setCell (ja1 _) _).setCell (ja1 _) _))⟩
 | false =>
  have b:=IV.YJ a;rw[if_neg (by simp),if_neg (by simp),eX];have d  := h.lts.1;generalize v.t.length=n at *
  by_cases g:c<0
  .go_enter func257,ntmps257;go_wp2;exact bodyPost_ret (v:=.tuple #[.agg #[(0:Int),(0:Int)],.iface 96 (.int .i64 1)]) (by simp[results,results257,go_sem]) rfl ⟨rfl,(by first|exact(ja0 _ _).alloc (ja1 _) _|exact((((ja0 _ _).alloc (ja1 _) _).setCell (ja1 _) _).setCell (ja1 _) _))⟩
  .go_enter func257,ntmps257;go_wp2;exact bodyPost_ret (v:=.tuple #[.agg #[(0:Int),(0:Int)],.iface 96 (.int .i64 1)]) (by simp[results,results257,go_sem]) rfl ⟨rfl,(by first|exact(ja0 _ _).alloc (ja1 _) _|exact((((ja0 _ _).alloc (ja1 _) _).setCell (ja1 _) _).setCell (ja1 _) _))⟩
