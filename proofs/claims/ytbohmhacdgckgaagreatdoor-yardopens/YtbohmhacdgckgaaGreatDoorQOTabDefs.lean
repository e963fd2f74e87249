/- Sectors as heads (C1), in the document's answer: what HeadOf gives. -/
import Derived.Test.YtbohmhacdgckgaaGreatDoorQOShapeHead2
import Derived.Laws.AppendOwnNone
set_option linter.all false
set_option maxHeartbeats 2000000
set_option maxRecDepth 100000
namespace Go.Proofs.YtbohmhacdgckgaaGreatDoor
open Go.RowKit renaming Below->β
open Go renaming World->ω, Value->υ, Calls->κ
open Option renaming none->O, some->S
open Go.Proofs.Tryz Go.RowKit
attribute [local go_sem ↓] Go.wp_at_zero Go.wp_at_succ
def BP{s:ByteArray}(h:bV s≠0):0<bV s:=by
 unfold bV at h |-;omega
def qx{w b a d:ω}{C:Array υ}{t:TypeId}{o:Obj}(g:β (w.alloc (.cells C t)).heap.size (w.alloc (.cells C t)) b)(j:β (b.alloc o).drew.heap.size (b.alloc o).drew a)(h:β a a d)(i:Nat)(v:υ)(f:C[i]?=S v) :
  d.cell? ⟨w.heap.size,i,O⟩=S v:=by
 have c:=kQ g j i v f;rw[h.cell (ja2 a _ c)];exact c
def lW{w a c:ω}{C:Array υ}{t:TypeId}{o:Obj}(b:β (w.alloc (.cells C t)).heap.size (w.alloc (.cells C t)) a)(d:β (a.alloc o).drew.heap.size (a.alloc o).drew c)(i:Nat) :
  c.frozen? ⟨w.heap.size,i,O⟩=false:=by
 have f:=b.size;simp at f
 rw[d.frozen (by simp;omega)]
 show(a.alloc o).frozen? _=_
 rw[jaQ _ _ _ (by omega),b.frozen (by simp),frozen_of_row _ _ _ _ _ (heap_alloc_new w _)]
def qy{w a b c:ω}{C:Array υ}{t:TypeId}{o:Obj}(d:β (w.alloc (.cells C t)).heap.size (w.alloc (.cells C t)) a)(f:β (a.alloc o).drew.heap.size (a.alloc o).drew b)(g:β b b c)(i:Nat) :
  c.frozen? ⟨w.heap.size,i,O⟩=false:=by
 have h:=d.size;have j:=f.size;have k:(a.alloc o).drew.heap.size=a.heap.size+1:=by simp
 simp at h
 rw[g.frozen (by show w.heap.size<b.heap.size;omega)]
 exact lW d f i
def lS{a b:ω}{C:Array υ}{t:TypeId}(c:β (a.alloc (.cells C t)).drew.heap.size (a.alloc (.cells C t)).drew b)(i:Nat)(v:υ)(d:C[i]?=S v):b.cell? ⟨a.heap.size,i,O⟩=S v:=by
 rw[c.cell (by simp)]
 simp_all
def pV{b a d:ω}{C:Array υ}{t:TypeId}(h:β (b.alloc (.cells C t)).drew.heap.size (b.alloc (.cells C t)).drew a)(g:β a a d)(i:Nat)(v:υ)(f:C[i]?=S v):d.cell? ⟨b.heap.size,i,O⟩=S v:=by
 have c:=lS h i v f;rw[g.cell (ja2 a _ c)];exact c
def Df{w a b f:ω}{o c:Obj}(d:β (w.alloc o).heap.size (w.alloc o) a)(g:β (a.alloc c).drew.heap.size (a.alloc c).drew b)(h:β b b f):β w w f :=
 (below3 d g).trans (h.mono (below3 d g).size)
def Rx(s:ByteArray)(w:ω)(a:bV s≠0) :
  κ prog 154 #[s] w λe i=>e=.returned (.tuple #[.agg (fV s).cells,dN s])/\β w w i:=by
 have c:=xW s (w.alloc (.cells #[(0:Int),(0:Int),(0:Int)] 67));have g:dN s=bV s:=by unfold dN;rw[if_neg a]
 have k:fV s=HV.zero:=by unfold fV;rw[if_neg (λh=>a h.1)]
 have d:=BP a;rw[g,k];generalize bV s=f at c d;go_enter func154,ntmps154
 go_wp2_with fail
 refine cEq c λm b=>?_
 obtain⟨j,l⟩:=nU b;go_wp2
 exact bodyPost_ret (v:=.tuple #[.agg #[(0:Int),(0:Int),(0:Int)],f]) (by simp[results,results154,go_sem,j]) rfl ⟨rfl,((((((ja0 _ _).alloc (ja1 _) _).trans (b.mono (by simp))).setCell (by simp) _).setCell (by simp) _).setCell (by simp) _)⟩
def Ry(s:ByteArray)(d:bV s=0):∃ F X,(∀ W:ω,κ prog 33 #[.agg #[bAt s 2,bAt s 3,(bAt s 4-1:Int)]] W λe c=>e=.returned (.int .i64 F)/\β W W c) /\
  (0<F/\(fV s).cells = #[.int .i64 0,.int .i64 0,.int .i64 0]/\dN s=2\/F=0/\(∀ W:ω,κ prog 111 #[.agg #[bAt s 2,bAt s 3,(bAt s 4-1:Int)]] W λe c=>e=.returned (.string X)/\β W W c)/\((X.toList==s.toList)=false/\(fV s).cells = #[.int .i64 0,.int .i64 0,.int .i64 0]/\dN s=2\/(X.toList==s.toList)=true/\(fV s).cells = #[.int .i64 (bAt s 2),.int .i64 (bAt s 3),.int .i64 (bAt s 4-1)]/\dN s=0)):=by
 have g:mV s=false->(fV s).cells = #[.int .i64 0,.int .i64 0,.int .i64 0]/\dN s=2:=λb=>by
  unfold dN fV;rw[b,if_neg (λh=>by cases h.2),if_pos d,if_neg (by decide)];exact⟨rfl,rfl⟩
 refine⟨_,fO (ql s).bytes,λW=>o8 _ _ _ W,?_⟩
 cases a:(ql s).ok with
 | true =>
  refine .inr ⟨if_pos a,λW=>Ar _ _ _ W a,?_⟩
  cases f:((fO (ql s).bytes).toList==s.toList) with
  | false=>exact .inl ⟨rfl,g (by unfold mV;rw[f,jbc])⟩
  | true =>
   have b:mV s=true:=by unfold mV;rw[f,a];rfl
   refine .inr ⟨rfl,?_⟩;unfold dN fV;rw[if_pos d,if_pos b,if_pos ⟨d,b⟩];exact⟨rfl,rfl⟩
 | false=>exact .inl ⟨by rw[show HV.fault ⟨bAt s 2,bAt s 3,bAt s 4-1⟩=1 from if_neg (by rw[show HV.ok ⟨bAt s 2,bAt s 3,bAt s 4-1⟩=false from a];decide)];decide,g (by unfold mV;rw[a];rfl)⟩
def Rw(s:ByteArray)(w:ω)(g:bV s=0) :
  κ prog 154 #[s] w λe t=>e=.returned (.tuple #[.agg (fV s).cells,dN s])/\β w w t:=by
 have k:=xW s (w.alloc (.cells #[(0:Int),(0:Int),(0:Int)] 67));obtain⟨F,X,o,n⟩:=Ry s g;have m:s.size=16:=yN g;obtain⟨M,U,Q,H,y,I⟩:=yu s m;obtain⟨K,u2⟩:=iP s 2;obtain⟨C,u3⟩:=iP s 3;obtain⟨G,u4⟩:=iP s 4;have f:=ah o;have d:=ah n;rw[g] at k;have B:=ah k;generalize (fV s).cells=D at d |-;generalize dN s=V at d |-;clear k g o n m;generalize bAt s 2=W at H K u2 f d;generalize bAt s 3=P at y C u3 f d;generalize bAt s 4=O at I G u4 f d;go_enter func154,ntmps154
 go_wp2_with fail
 refine B.out.mono ?_;rintro e r ⟨rfl,b⟩;obtain⟨R,T⟩:=nU b;have S:w.heap.size<r.heap.size:=by have:=b.size;simp at this;omega
 go_wp2
 go_region
 go_wp2_with fail
 refine(f.out _).mono ?_;rintro e Y ⟨rfl,a⟩;have l:=lS a 0 _ rfl;have r1:=lS a 1 _ rfl;have r2:=lS a 2 _ rfl;rcases d.out with⟨E,rfl,rfl⟩|⟨rfl,q,hd⟩
 .have hd:decide (0<F)=true:=by simpa using E
  have h:=kQ b a 0 _ rfl;have z:=lW b a 0;have j:=kQ b a 1 _ rfl;have A:=lW b a 1;have q2:=kQ b a 2 _ rfl;have J:=lW b a 2;have i:Hid (β w w _):=below3 b a;go_wp2
  exact bodyPost_ret (v:=.tuple #[.agg _,_]) (by simp[results,results154,go_sem,h,j,q2]) rfl ⟨rfl,((i.out.setCell (ja1 _) _).setCell (ja1 _) _).setCell (ja1 _) _⟩
 .have u:=ah q
  have L:=ah hd;clear q hd;go_wp2_with fail
  clear l r1 r2;refine(u.out _).mono ?_;rintro e N ⟨rfl,c⟩;have l:=pV a c 0 _ rfl;have h:=qx b a c 0 _ rfl;have z:=qy b a c 0;have r1:=pV a c 1 _ rfl;have j:=qx b a c 1 _ rfl;have A:=qy b a c 1;have r2:=pV a c 2 _ rfl;have q2:=qx b a c 2 _ rfl;have J:=qy b a c 2;have i:Hid (β w w _):=Df b a c;rcases L.out with⟨x,rfl,rfl⟩|⟨x,rfl,rfl⟩
  all_goals
   go_wp2
   exact bodyPost_ret (v:=.tuple #[.agg _,_]) (by simp[results,results154,go_sem,h,j,q2]) rfl ⟨rfl,((i.out.setCell (ja1 _) _).setCell (ja1 _) _).setCell (ja1 _) _⟩
def Gu(s:ByteArray)(w:ω) :
  κ prog 154 #[s] w λe b=>e=.returned (.tuple #[.agg (fV s).cells,dN s])/\β w w b:=by
 by_cases a:bV s=0
 .exact Rw s w a
 .exact Rx s w a
def pq{a b:Int}(h:a≠b):(a==b)=false/\(a != b)=true:=by simp[h]
def rG{a b:Int}(h:a=b):(a==b)=true/\(a != b)=false:=by simp[h]
def bI(k p a:Int):Bool:=decide ((k=2/\0<=p/\p<a)\/((k=0\/k=1)/\p=0))
def kN{k p n:Int}(h:(k=2/\0<=p/\p<n)\/((k=0\/k=1)/\p=0)):bI k p n=true:=decide_eq_true h
def zS{k p n:Int}(h:¬((k=2/\0<=p/\p<n)\/((k=0\/k=1)/\p=0))):bI k p n=false:=decide_eq_false h
def jh{k p n:Int}(h:bI k p n=true):(k=2/\0<=p/\p<n)\/((k=0\/k=1)/\p=0):=of_decide_eq_true h
def LY{k p n:Int}(h:bI k p n=false):¬((k=2/\0<=p/\p<n)\/((k=0\/k=1)/\p=0)):=of_decide_eq_false h
def tX(k p:Int)(w:ω) :
  κ prog 229 #[.agg #[k,p]] w λe g=>e=.returned (.bool (bI k p 40))/\β w w g:=by
 have c:β w w (w.alloc (.cells #[k,p] 168)):=(ja0 _ _).alloc (ja1 _) _;by_cases b:k=0
 .have a:Hid (bI k p 40=(p==0)):=by
   unfold Hid;rw[jaC,beq_iff_eq];exact⟨λh=>by have:=jh h;omega,λh=>kN (.inr ⟨.inl b,h⟩)⟩
  obtain⟨l,v2⟩:=rG b;clear b;go_enter func229,ntmps229
  go_wp2
  go_ret
  exact⟨nZ a.out.symm,c⟩
 .by_cases d:k=1
  .have a:Hid (bI k p 40=(p==0)):=by
    unfold Hid;rw[jaC,beq_iff_eq];exact⟨λh=>by have:=jh h;omega,λh=>kN (.inr ⟨.inr d,h⟩)⟩
   obtain⟨i,m⟩:=rG d;clear b d;go_enter func229,ntmps229
   go_wp2
   go_ret
   exact⟨nZ a.out.symm,c⟩
  .by_cases f:k=2
   .have a:Hid (bI k p 40=inB p 0 39):=by
     unfold Hid;rw[jaC];exact⟨λh=>qp (by have:=jh h;omega),λh=>kN (.inl ⟨f,by have:=of_decide_eq_true h;omega⟩)⟩
    obtain⟨n,j⟩:=rG f;clear b d f;go_enter func229,ntmps229
    go_wp2_with (go_at_call 96;refine cEq (lI _ _ _ _) λg rfl=>?_)
    go_ret
    exact⟨nZ a.out.symm,c⟩
   .have a:Hid (bI k p 40=false):=zS (by omega)
    go_enter func229,ntmps229
    go_wp2
    go_ret
    exact⟨nZ a.out.symm,c⟩
def Eh(k p n:Int)(w:ω) :
  κ prog 178 #[.agg #[k,p],n] w λe i=>e=.returned (.bool (bI k p n))/\β w w i:=by
 have d:β w w (w.alloc (.cells #[k,p] 168)):=(ja0 _ _).alloc (ja1 _) _;by_cases b:k=2
 .obtain⟨r,o⟩:=rG b
  by_cases f:0<=p
  .have a:Hid (bI k p n=decide (p<n)):=by
    unfold Hid;rw[jaC,decide_eq_true_eq];exact⟨λh=>by have:=jh h;omega,λh=>kN (.inl ⟨b,f,h⟩)⟩
   have j:decide (0<=p)=true:=decide_eq_true f;clear b;go_enter func178,ntmps178
   go_wp2
   go_ret
   exact⟨nZ a.out.symm,d⟩
  .have a:Hid (bI k p n=false):=zS (by omega)
   have j:decide (0<=p)=false:=decide_eq_false f;clear b;go_enter func178,ntmps178
   go_wp2
   go_ret
   exact⟨nZ a.out.symm,d⟩
 .by_cases c:k=0
  .have a:Hid (bI k p n=(p==0)):=by
    unfold Hid;rw[jaC,beq_iff_eq];exact⟨λh=>by have:=jh h;omega,λh=>kN (.inr ⟨.inl c,h⟩)⟩
   obtain⟨l,v2⟩:=rG c;clear c b;go_enter func178,ntmps178
   go_wp2
   go_ret
   exact⟨nZ a.out.symm,d⟩
  .obtain⟨l,v2⟩:=pq c
   by_cases g:k=1
   .have a:Hid (bI k p n=(p==0)):=by
     unfold Hid;rw[jaC,beq_iff_eq];exact⟨λh=>by have:=jh h;omega,λh=>kN (.inr ⟨.inr g,h⟩)⟩
    obtain⟨m,q⟩:=rG g;clear c g b;go_enter func178,ntmps178
    go_wp2
    go_ret
    exact⟨nZ a.out.symm,d⟩
   .have a:Hid (bI k p n=false):=zS (by omega)
    go_enter func178,ntmps178
    go_wp2
    go_ret
    exact⟨nZ a.out.symm,d⟩
def ay(n:Nat):Nat:=(n+7) / 8
def qL(n:Nat)(w:ω)(h:n<=50) :
  κ prog 101 #[(n:Int)] w λe a=>e=.returned (ay n:Int)/\a=w:=by
 go_enter func101,ntmps101
 go_wp2
 go_ret
 exact⟨qH (by unfold ay;omega),rfl⟩
def pz(n:Nat)(w:ω)(h:n<=50) :
  κ prog 107 #[(n:Int)] w λe f=>e=.returned (ay n:Int)/\f=w:=by
 go_enter func107,ntmps107
 go_wp2
 go_loop [3] (λi=>∃ k:Nat,k<=ay n/\i=.int .i64 k) (λi=>ay n-(intOf i).toNat)
 case atStart=>exact⟨0,ja5 _,rfl⟩
 case round =>
  obtain⟨k,c,rfl⟩:=hrel;by_cases a:k<ay n
  .have g:8*k<n:=by unfold ay at a;omega
   go_wp2
   go_round
   case rel=>exact⟨k+1,by omega,by go_num⟩
   case measure=>simp[intOf];omega
  .have g:n<=8*k:=by unfold ay at a;omega
   have j:k<=10:=by unfold ay at c;omega
   have b:k=ay n:=by omega
   have d:Hid _:=b;clear b c a;go_wp2
   go_ret
   exact⟨qH (by rw[d.out]),rfl⟩
def lK(w:ω)(c:Option Addr)(len:Nat)(ts:List (Int × Int)):Prop :=
 ts.length=len/\∀ k,k<len->∃ b a,c=S ⟨b,a,O⟩/\w.cell? ⟨b,a+k*2,O⟩=S (.int .i64 (ts.getD k (0,0)).1)/\w.cell? ⟨b,a+k*2+1,O⟩=S (.int .i64 (ts.getD k (0,0)).2)
def lK.below{w a:ω}{f:Option Addr}{len:Nat}{ts:List (Int × Int)}(h:lK w f len ts)(g:β w w a):lK a f len ts:=by
 refine⟨h.1,λk i=>?_⟩
 obtain⟨b,j,e,d,c⟩:=h.2 k i;exact⟨b,j,e,by rw[g.cell (ja2 w _ d)];exact d,by rw[g.cell (ja2 w _ c)];exact c⟩
def jG(ts:List (Int × Int))(r k:Nat):List Int:=(List.range 16).map λj=>if j / 2<k then (if j % 2=0 then (ts.getD (r*8+j / 2) (0,0)).1 else (ts.getD (r*8+j / 2) (0,0)).2) else 0
def BH(ts:List (Int × Int))(r k:Nat):(jG ts r k).length=16:=by simp[jG]
def G5(ts:List (Int × Int))(r:Nat):jG ts r 0=List.replicate 16 0:=by
 simp[jG,List.map_const']
def GZ(ts:List (Int × Int))(r k:Nat):jG ts r (k+1)=((jG ts r k).set (k*2) (ts.getD (r*8+k) (0,0)).1).set (k*2+1) (ts.getD (r*8+k) (0,0)).2:=by
 apply jbe
 intro j;by_cases b:j<16
 .rw[jbf,jbf]
  by_cases f:k*2+1=j
  .have a:j / 2=k:=by omega
   have c:¬j % 2=0:=by omega
   simp[jG,b,f,a,c]
  .rw[if_neg f]
   by_cases d:k*2=j
   .have a:j / 2=k:=by omega
    have c:j % 2=0:=by omega
    simp[jG,b,d,a,c]
   .rw[if_neg d]
    have a:j / 2<k+1↔j / 2<k:=by omega
    simp[jG,b,a]
 .rw[jaj (by rw[BH];omega),jaj (by rw[jag,jag,BH];omega)]
def SI(ts:List (Int × Int))(r k:Nat)(h:ts.length<=r*8+k):jG ts r k=jG ts r 8:=by
 apply jbu
 intro j b;have c:=List.mem_range.1 b;have a:j / 2<8:=by omega
 rw[if_pos a];by_cases e:j / 2<k
 .rw[if_pos e]
 .have:ts.getD (r*8+j / 2) (0,0)=(0,0):=by
   rw[ja6,jaj (by omega)];rfl
  simp_all
def rowOk(ts:List (Int × Int))(r:Nat):Bool:=(List.range 8).all λi=>bI (ts.getD (r*8+i) (0,0)).1 (ts.getD (r*8+i) (0,0)).2 40
def qJ(ts:List (Int × Int))(row:Int):Bool:=decide (ts.length<=32/\0<=row/\row<ay ts.length)
def gV(ts:List (Int × Int))(row:Int):Int:=if qJ ts row=true then (if rowOk ts row.toNat=true then 0 else 2) else 1
def eP(ts:List (Int × Int))(row:Int):ByteArray:=if gV ts row=0 then strOfNums (jG ts row.toNat 8) else ⟨#[]⟩
def GX{ts:List (Int × Int)}{r i:Nat}(a:i<8)(h:bI (ts.getD (r*8+i) (0,0)).1 (ts.getD (r*8+i) (0,0)).2 40=false):rowOk ts r=false:=by
 unfold rowOk;rw[List.all_eq_false];exact⟨i,List.mem_range.2 a,by rw[h];decide⟩
def BG{ts:List (Int × Int)}{r k:Nat}(b:ts.length<=r*8+k\/8<=k)(h:∀ i,i<k->bI (ts.getD (r*8+i) (0,0)).1 (ts.getD (r*8+i) (0,0)).2 40=true):rowOk ts r=true:=by
 unfold rowOk;rw[List.all_eq_true];intro i a;have c:=List.mem_range.1 a;by_cases e:i<k
 .exact h i e
 .have:ts.getD (r*8+i) (0,0)=(0,0):=by
   rw[ja6,jaj (by omega)];rfl
  rw[this];decide
structure jI(w:ω)(N:Nat)(bs:List Int)(wr:ω):Prop where
 blk:wr.heap[N]?=S (.cells (byV bs).toArray 174 (0,0))
 bel:β w w wr
 len:bs.length=16
 new:w.heap.size<=N
def jI.cell{w wr:ω}{N:Nat}{a:List Int}(h:jI w N a wr)(j:Nat)(b:j<16):wr.cell? ⟨N,j,O⟩=S (.int .u8 (a.getD j 0)):=by
 rw[cell_of_row _ _ _ _ _ _ h.blk,jaM];exact sU a j (by rw[h.len];exact b)
def jI.frozen{w wr:ω}{N:Nat}{a:List Int}(h:jI w N a wr)(j:Nat):wr.frozen? ⟨N,j,O⟩=false:=frozen_of_row _ _ _ _ _ h.blk
def lY{w:ω}{k:Nat}{o:Obj}(h:w.heap[k]?=S o):k<w.heap.size:=by
 rcases jat k _ with a|a
 .exact a
 .simp_all
def jI.below{w wr a:ω}{N:Nat}{b:List Int}(h:jI w N b wr)(c:β wr wr a):jI w N b a :=
 ⟨by rw[c.block N (lY h.blk)];exact h.blk,h.bel.trans (c.mono h.bel.size),h.len,h.new⟩
theorem jI.set{w wr:ω}{N:Nat}{a:List Int}(h:jI w N a wr)(j:Nat)(v:Int):jI w N (a.set j v) (wr.setCell ⟨N,j,O⟩ (.int .u8 v)):=by
 refine⟨?_,h.bel.setCell h.new _,by rw[jag];exact h.len,h.new⟩
 rw[heap_setCell_same wr N j _ _ _ h.blk];simp[byV,List.map_set]
def jI.start(w:ω):jI w w.heap.size (List.replicate 16 0) (w.alloc (.cells #[.int .u8 0,.int .u8 0,.int .u8 0,.int .u8 0,.int .u8 0,.int .u8 0,.int .u8 0,.int .u8 0,.int .u8 0,.int .u8 0,.int .u8 0,.int .u8 0,.int .u8 0,.int .u8 0,.int .u8 0,.int .u8 0] 174)) :=
 ⟨heap_alloc_new w _,(ja0 _ _).alloc (ja1 _) _,by simp,ja1 _⟩
def jI.conv{w wr:ω}{N:Nat}{a:List Int}(h:jI w N a wr):(convert 185 9 (.slice (S ⟨N,0,O⟩) 16 16)).run prog wr=.ok (.string (strOfNums a)) wr :=
 run_convert_bytes_arg  wr 185 5 underlying185 underlying5 N 0 16 16 a h.len (λi b=>by rw[jaq];exact h.cell i b) 9 underlying9
def SL(c:Option Addr)(len cap:Nat)(ts:List (Int × Int))(row:Int)(w:ω)(i:lK w c len ts)(l:len<=50)(b:qJ ts row=false) :
  κ prog 174 #[.slice c len cap,row] w λe a=>e=.returned (.tuple #[.string (eP ts row),erV (gV ts row)])/\β w w a:=by
 have d:gV ts row=1:=by unfold gV;rw[if_neg (by rw[b];decide)]
 have h:eP ts row=⟨#[]⟩:=by unfold eP;rw[d,if_neg (by decide)]
 rw[h,d,eu];have g:=of_decide_eq_false b;rw[i.1] at g;by_cases k:32<len
 .have g1:decide (32<(len:Int))=true:=by simp;omega
  go_enter func174,ntmps174
  go_wp2
  go_ret2
  exact⟨rfl,ja0 _ _⟩
 .have g1:decide (32<(len:Int))=false:=by simp;omega
  have g2:inB row 0 ((ay len:Int)-1)=false:=xC (by omega)
  have g3:ay len<=7:=by unfold ay;omega
  have f:=ah (qL len w (by omega))
  generalize ay len=j at g2 g3 f;go_enter func174,ntmps174
  go_wp2_with (first|(go_at_call 101;refine f.out.mono ?_;rintro e a ⟨rfl,rfl⟩)|(go_at_call 96;refine(lI _ _ _ _).mono ?_;rintro e a ⟨rfl,rfl⟩))
  go_ret2
  exact⟨rfl,ja0 _ _⟩
def row_in(b o len cap:Nat)(ts:List (Int × Int))(r:Nat)(w:ω)(R:lK w (some ⟨b,o,none⟩) len ts)(a4:len<=32)(U:r<ay len)(a3:len<=cap) :
  κ prog 174 #[.slice (some ⟨b,o,none⟩) len cap,(r:Int)] w λe w'=>e=.returned (.tuple #[.string (eP ts r),erV (gV ts r)])/\β w w w':=by
 have a1:qJ ts r=true:=decide_eq_true (by rw[R.1];omega)
 have M:=ah (qL len w (by omega))
 have g1:decide (32<(len:Int))=false:=by simp;omega
 have g2:inB r 0 ((ay len:Int)-1)=true:=qp (by omega)
 have a5:r*8<len:=by unfold ay at U;omega
 have Y:ay len<=4:=by unfold ay;omega
 have E:=ah R;have W:=ah a1;obtain⟨P,V⟩:∃ P,P=ay len:=⟨_,rfl⟩;rw[<- V] at M g2 U Y;clear V
 obtain⟨cnt,a7,a6,a2⟩:∃ cnt:Nat,cnt<=8/\r*8+cnt<=len/\(cnt=8\/r*8+cnt=len):=by
  by_cases h:r*8+8<=len
  .exact⟨8,by omega,h,.inl rfl⟩
  .exact⟨len-r*8,by omega,by omega,.inr (by omega)⟩
 have X:((r:Int)*8+8<=(len:Int)/\((r:Int)*8+8).toNat-r*8=cnt)\/(¬(r:Int)*8+8<=(len:Int)/\len-r*8=cnt):=by omega
 have T:Hid (∀ k,k<cnt->bI (ts.getD (r*8+k) (0,0)).1 (ts.getD (r*8+k) (0,0)).2 40=false->erV (gV ts r)=.iface 96 (.int .i64 2)/\eP ts r=⟨#[]⟩):=λk Q d=>by
  have z:gV ts r=2:=by unfold gV;rw[if_pos W.out,if_neg (by rw[show(r:Int).toNat=r from rfl,GX (by omega) d];decide)]
  exact⟨by rw[z];exact xg,by unfold eP;rw[z,if_neg (by decide)]⟩
 have O:Hid ((∀ k,k<cnt->bI (ts.getD (r*8+k) (0,0)).1 (ts.getD (r*8+k) (0,0)).2 40=true)->erV (gV ts r)=.nilIface/\strOfNums (jG ts r cnt)=eP ts r):=λh=>by
  have z:gV ts r=0:=by unfold gV;rw[if_pos W.out,if_pos (show rowOk ts (r:Int).toNat=true from BG (by rw[E.out.1];omega) h)]
  refine⟨by rw[z];exact aN,?_⟩
  unfold eP;rw[if_pos z];rcases a2 with rfl|h3
  .rfl
  .rw[SI ts r cnt (by rw[E.out.1];omega)];rfl
 rcases X with⟨h8,S⟩|⟨h8,S⟩
 .have e8:cnt=8:=by omega
  subst e8;go_enter func174,ntmps174
  go_wp2_with (first|(go_at_call 101;refine cSt M.out ?_)|(go_at_call 96;refine cSt (lI _ _ _ _) ?_))
  try rw[show r*8+8-r*8=8 by omega]
  go_loopw [34] (λi wr=>∃ k:Nat,k<=8/\i=.int .i64 k/\jI w w.heap.size (jG ts r k) wr/\∀ j,j<k->bI (ts.getD (r*8+j) (0,0)).1 (ts.getD (r*8+j) (0,0)).2 40=true) (λi _=>8-(intOf i).toNat)
  case atStart=>exact⟨0,ja5 _,rfl,by rw[G5];exact jI.start w,λj I=>by omega⟩
  case round =>
   obtain⟨k,Q,rfl,g,D⟩:=hrel;by_cases J:k<8
   .obtain⟨b',a0,e,s,q⟩:=E.out.2 (r*8+k) (by omega)
    cases e
    rw[<- g.bel.cell (ja2 w _ s),show o+(r*8+k)*2=o+r*8*2+k*2 by omega] at s
    rw[<- g.bel.cell (ja2 w _ q),show o+(r*8+k)*2+1=o+r*8*2+k*2+1 by omega] at q
    have v:Hid (jG ts r (k+1)=((jG ts r k).set (k*2) (ts.getD (r*8+k) (0,0)).1).set (k*2+1) (ts.getD (r*8+k) (0,0)).2):=GZ ts r k;have K:=ah (T.out k J);have t:=tX (ts.getD (r*8+k) (0,0)).1 (ts.getD (r*8+k) (0,0)).2 (wr.alloc (.cells #[.int .i64 (ts.getD (r*8+k) (0,0)).1,.int .i64 (ts.getD (r*8+k) (0,0)).2] 168))
    cases d:bI (ts.getD (r*8+k) (0,0)).1 (ts.getD (r*8+k) (0,0)).2 40 with
    | false =>
     have B:=ah (K.out d);have x:=ah g;rw[d] at t;have a:=ah t;generalize (ts.getD (r*8+k) (0,0)).1=c at s a;generalize (ts.getD (r*8+k) (0,0)).2=f at q a;go_wp2_with fail
     refine cEq a.out λu m=>?_
     go_wp2
     go_ret2
     exact⟨by rw[B.out.1,B.out.2];rfl,(x.out.below (((ja0 _ _).alloc (ja1 _) _).trans (m.mono (by simp)))).bel⟩
    | true =>
     have G:Hid (∀ j,j<k+1->bI (ts.getD (r*8+j) (0,0)).1 (ts.getD (r*8+j) (0,0)).2 40=true):=λj I=>by
      by_cases e:j=k
      .rw[e];exact d
      .exact D j (by omega)
     have x:=ah g;have A:=jh d;rw[d] at t;have a:=ah t;generalize (ts.getD (r*8+k) (0,0)).1=c at s a v A;generalize (ts.getD (r*8+k) (0,0)).2=f at q a v A;have k0:0<=c:=by omega
     have l:c<256:=by omega
     have p0:0<=f:=by omega
     have p1:f<256:=by omega
     go_wp2_with fail
     refine cEq a.out λu m=>?_
     have n:=x.out.below (((ja0 _ _).alloc (ja1 _) _).trans (m.mono (by simp)))
     have b0:u.cell? ⟨wr,0,none⟩=some (c:υ):=by rw[m.cell (by simp),cell_of_row _ _ _ _ _ _ (heap_alloc_new wr _)];rfl
     have b1:u.cell? ⟨wr,1,none⟩=some (f:υ):=by rw[m.cell (by simp),cell_of_row _ _ _ _ _ _ (heap_alloc_new wr _)];rfl
     have c0:=n.cell (k*2) (by omega)
     have c1:=n.cell (k*2+1) (by omega)
     have f0:=n.frozen (k*2);have f1:=n.frozen (k*2+1);have i0:(k:Int)*2<16:=by omega
     have i1:(k:Int)*2+1<16:=by omega
     have L:=ah n;go_wp2
     go_region
     go_wp2
     go_roundw
     case rel =>
      have C:=(L.out.set (k*2) c).set (k*2+1) f;rw[<- v.out] at C;have fin:∃ l:Nat,l<=8/\Value.int .i64 ((k:Int)+1)=.int .i64 l/\jI w w.heap.size (jG ts r l) ((u.setCell ⟨w.heap.size,k*2,none⟩ (.int .u8 c)).setCell ⟨w.heap.size,k*2+1,none⟩ (.int .u8 f)).drew/\∀ j,j<l->bI (ts.getD (r*8+j) (0,0)).1 (ts.getD (r*8+j) (0,0)).2 40=true:=⟨k+1,by omega,by go_num,C.below ((ja0 _ _).drew),G.out⟩
      first|exact fin|((repeat apply Exists.intro);exact⟨fin,rfl⟩)
     case measure=>simp[intOf];omega
   .have F:k=8:=by omega
    subst F;have y:=ah (O.out D);have N:=g.conv;have H:=ah g.bel;rw[y.out.2] at N;go_wp2
    go_ret2
    exact⟨by rw[y.out.1];rfl,H.out⟩
 .have Z:=ah S
  go_enter func174,ntmps174
  go_wp2_with (first|(go_at_call 101;refine cSt M.out ?_)|(go_at_call 96;refine cSt (lI _ _ _ _) ?_))
  (first|rw[Z.out]|rw[show(min ((r:Int)*8+8) (len:Int)).toNat-r*8=cnt by omega]);go_loopw [34] (λi wr=>∃ k:Nat,k<=cnt/\i=.int .i64 k/\jI w w.heap.size (jG ts r k) wr/\∀ j,j<k->bI (ts.getD (r*8+j) (0,0)).1 (ts.getD (r*8+j) (0,0)).2 40=true) (λi _=>cnt-(intOf i).toNat)
  case atStart=>exact⟨0,ja5 _,rfl,by rw[G5];exact jI.start w,λj I=>by omega⟩
  case round =>
   obtain⟨k,Q,rfl,g,D⟩:=hrel;by_cases J:k<cnt
   .obtain⟨b',a0,e,s,q⟩:=E.out.2 (r*8+k) (by omega)
    cases e
    rw[<- g.bel.cell (ja2 w _ s),show o+(r*8+k)*2=o+r*8*2+k*2 by omega] at s
    rw[<- g.bel.cell (ja2 w _ q),show o+(r*8+k)*2+1=o+r*8*2+k*2+1 by omega] at q
    have v:Hid (jG ts r (k+1)=((jG ts r k).set (k*2) (ts.getD (r*8+k) (0,0)).1).set (k*2+1) (ts.getD (r*8+k) (0,0)).2):=GZ ts r k;have K:=ah (T.out k J);have t:=tX (ts.getD (r*8+k) (0,0)).1 (ts.getD (r*8+k) (0,0)).2 (wr.alloc (.cells #[.int .i64 (ts.getD (r*8+k) (0,0)).1,.int .i64 (ts.getD (r*8+k) (0,0)).2] 168))
    cases d:bI (ts.getD (r*8+k) (0,0)).1 (ts.getD (r*8+k) (0,0)).2 40 with
    | false =>
     have B:=ah (K.out d);have x:=ah g;rw[d] at t;have a:=ah t;generalize (ts.getD (r*8+k) (0,0)).1=c at s a;generalize (ts.getD (r*8+k) (0,0)).2=f at q a;go_wp2_with fail
     refine cEq a.out λu m=>?_
     go_wp2
     go_ret2
     exact⟨by rw[B.out.1,B.out.2];rfl,(x.out.below (((ja0 _ _).alloc (ja1 _) _).trans (m.mono (by simp)))).bel⟩
    | true =>
     have G:Hid (∀ j,j<k+1->bI (ts.getD (r*8+j) (0,0)).1 (ts.getD (r*8+j) (0,0)).2 40=true):=λj I=>by
      by_cases e:j=k
      .rw[e];exact d
      .exact D j (by omega)
     have x:=ah g;have A:=jh d;rw[d] at t;have a:=ah t;generalize (ts.getD (r*8+k) (0,0)).1=c at s a v A;generalize (ts.getD (r*8+k) (0,0)).2=f at q a v A;have k0:0<=c:=by omega
     have l:c<256:=by omega
     have p0:0<=f:=by omega
     have p1:f<256:=by omega
     go_wp2_with fail
     refine cEq a.out λu m=>?_
     have n:=x.out.below (((ja0 _ _).alloc (ja1 _) _).trans (m.mono (by simp)))
     have b0:u.cell? ⟨wr,0,none⟩=some (c:υ):=by rw[m.cell (by simp),cell_of_row _ _ _ _ _ _ (heap_alloc_new wr _)];rfl
     have b1:u.cell? ⟨wr,1,none⟩=some (f:υ):=by rw[m.cell (by simp),cell_of_row _ _ _ _ _ _ (heap_alloc_new wr _)];rfl
     have c0:=n.cell (k*2) (by omega)
     have c1:=n.cell (k*2+1) (by omega)
     have f0:=n.frozen (k*2);have f1:=n.frozen (k*2+1);have i0:(k:Int)*2<16:=by omega
     have i1:(k:Int)*2+1<16:=by omega
     have L:=ah n;go_wp2
     go_region
     go_wp2
     go_roundw
     case rel =>
      have C:=(L.out.set (k*2) c).set (k*2+1) f;rw[<- v.out] at C;have fin:∃ l:Nat,l<=cnt/\Value.int .i64 ((k:Int)+1)=.int .i64 l/\jI w w.heap.size (jG ts r l) ((u.setCell ⟨w.heap.size,k*2,none⟩ (.int .u8 c)).setCell ⟨w.heap.size,k*2+1,none⟩ (.int .u8 f)).drew/\∀ j,j<l->bI (ts.getD (r*8+j) (0,0)).1 (ts.getD (r*8+j) (0,0)).2 40=true:=⟨k+1,by omega,by go_num,C.below ((ja0 _ _).drew),G.out⟩
      first|exact fin|((repeat apply Exists.intro);exact⟨fin,rfl⟩)
     case measure=>simp[intOf];omega
   .have F:k=cnt:=by omega
    subst F;have y:=ah (O.out D);have N:=g.conv;have H:=ah g.bel;rw[y.out.2] at N;go_wp2
    go_ret2
    exact⟨by rw[y.out.1];rfl,H.out⟩
def SK(d:Option Addr)(len cap:Nat)(ts:List (Int × Int))(row:Int)(w:ω)(c:lK w d len ts)(l:len<=50)(k:len<=cap) :
  κ prog 174 #[.slice d len cap,row] w λe i=>e=.returned (.tuple #[.string (eP ts row),erV (gV ts row)])/\β w w i:=by
 cases f:qJ ts row with
 | false=>exact SL d len cap ts row w c l f
 | true =>
  have a:=of_decide_eq_true f;obtain⟨r,rfl⟩:=Int.eq_ofNat_of_zero_le a.2.1;rw[c.1] at a
  have j:0<len:=by
   rcases Nat.eq_zero_or_pos len with h|h
   .subst h;simp[ay] at a;omega
   .exact h
  obtain⟨b,g,rfl,_⟩:=c.2 0 j;exact row_in b g len cap ts r w c a.1 (by omega) k
def lH(ts:List (Int × Int))(r k:Nat):List Int:=(List.range k).flatMap λi=>[(ts.getD (r*8+i) (0,0)).1,(ts.getD (r*8+i) (0,0)).2]
def Sv(ts:List (Int × Int))(r k:Nat):byV (lH ts r (k+1))=byV (lH ts r k)++[.int .u8 (ts.getD (r*8+k) (0,0)).1,.int .u8 (ts.getD (r*8+k) (0,0)).2]:=by
 simp[lH,byV,jb9]
def GU(ts:List (Int × Int))(r k:Nat):(lH ts r k).length=2*k:=by
 induction k with
 | zero=>rfl
 | succ k a =>
  have:lH ts r (k+1)=lH ts r k++[(ts.getD (r*8+k) (0,0)).1,(ts.getD (r*8+k) (0,0)).2]:=by simp[lH,jb9]
  rw[this,jak,a];simp;omega
def Sz(c:Option Addr)(len cap:Nat)(ts:List (Int × Int))(row:Int)(w:ω)(i:lK w c len ts)(m:len<=50)(b:qJ ts row=false) :
  κ prog 108 #[.slice c len cap,row] w λe a=>e=.returned (.tuple #[.string (eP ts row),gV ts row])/\β w w a:=by
 have d:gV ts row=1:=by unfold gV;rw[if_neg (by rw[b];decide)]
 have h:eP ts row=⟨#[]⟩:=by unfold eP;rw[d,if_neg (by decide)]
 rw[h,d];have g:=of_decide_eq_false b;rw[i.1] at g;by_cases l:32<len
 .have g1:decide (32<(len:Int))=true:=by simp;omega
  go_enter func108,ntmps108
  go_wp2
  go_ret2
  exact⟨rfl,ja0 _ _⟩
 .have g1:decide (32<(len:Int))=false:=by simp;omega
  by_cases k:row<0
  .go_enter func108,ntmps108
   go_wp2
   go_ret2
   exact⟨rfl,ja0 _ _⟩
  .have g3:decide ((ay len:Int)<=row)=true:=by simp;omega
   have f:=ah (pz len w (by omega))
   generalize ay len=j at g3 f;go_enter func108,ntmps108
   go_wp2_with (go_at_call 107;refine f.out.mono ?_;rintro e a ⟨rfl,rfl⟩)
   go_ret2
   exact⟨rfl,ja0 _ _⟩
def uh{w a:ω}{B e size n:Nat}{v:υ}{b:List υ}(h:w.ownsRow B e size v n b)(m:∀ k,v.ownBlock=S k->a.heap[k]?=w.heap[k]?):a.ownsRow B e size v n b:=by
 refine⟨h.1,?_⟩;rcases h.2 with i|⟨g,cap,d,c,q,f,j,o,r,l⟩
 .exact .inl i
 .exact .inr ⟨g,cap,d,c,q,by rw[m g (by rw[c];rfl)];exact f,j,o,r,l⟩
def uz(w:ω)(x y:υ)(t:TypeId):∀ j u,[x,y][j]?=S u->(w.alloc (.cells #[x,y] t)).cell? ((⟨w.heap.size,0,O⟩:Addr).add j)=S u:=by
 intro j u a;rw[Go.WideShapes.add_plain,jaq,cell_of_row _ _ _ _ _ _ (heap_alloc_new w _)]
 simpa using a
def SC(b G len cap:Nat)(ts:List (Int × Int))(r:Nat)(w:ω)(hT:lK w (some ⟨b,G,none⟩) len ts)(ac:len<=32)(hr:r<ay len) :
  κ prog 108 #[.slice (some ⟨b,G,none⟩) len cap,(r:Int)] w λe w'=>e=.returned (.tuple #[.string (eP ts r),gV ts r])/\β w w w':=by
 have M:qJ ts r=true:=decide_eq_true (by rw[hT.1];omega)
 have HR:=ah (pz len w (by omega))
 have g1:decide (32<(len:Int))=false:=by simp;omega
 have g2:decide ((r:Int)<0)=false:=by simp
 have g3:decide (ay len<=r)=false:=by simp;omega
 have ai:r*8<len:=by unfold ay at hr;omega
 have Y:=ah hT;have T:=ah M
 have a7:Hid (∀ k,k<8->bI (ts.getD (r*8+k) (0,0)).1 (ts.getD (r*8+k) (0,0)).2 40=false->gV ts r=2/\eP ts r=⟨#[]⟩):=λk hk s=>by
  have B:gV ts r=2:=by unfold gV;rw[if_pos T.out,if_neg (by rw[show(r:Int).toNat=r from rfl,GX (by omega) s];decide)]
  exact⟨B,by unfold eP;rw[B,if_neg (by decide)]⟩
 have a3:Hid ((∀ k,k<8->bI (ts.getD (r*8+k) (0,0)).1 (ts.getD (r*8+k) (0,0)).2 40=true)->gV ts r=0/\strOfNums (lH ts r 8)=eP ts r):=λh=>by
  have B:gV ts r=0:=by unfold gV;rw[if_pos T.out,if_pos (show rowOk ts (r:Int).toNat=true from BG (.inr (ja1 8)) h)]
  exact⟨B,by unfold eP;rw[if_pos B];rfl⟩
 obtain⟨i0,J,Z,a0,V⟩:=info_parts EN;generalize ay len=rn at g3 HR;go_enter func108,ntmps108
 go_wp2_with (go_at_call 107;refine cSt HR.out ?_)
 go_loopw [6,7] (λv i wr=>∃ k:Nat,k<=8/\i=.int .i64 k/\wr.ownsRow w.heap.size 5 1 v (2*k) (byV (lH ts r k))/\β w w wr/\∀ j,j<k->bI (ts.getD (r*8+j) (0,0)).1 (ts.getD (r*8+j) (0,0)).2 40=true) (λ_ i _=>8-(intOf i).toNat)
 case atStart=>exact⟨0,ja5 _,rfl,jae _ _ _ _,ja0 _ _,λj hj=>by omega⟩
 case round =>
  obtain⟨k,hk,rfl,H,K,a1⟩:=hrel;have y:=ah H;have c:=ah K;by_cases a4:k<8
  .have C:=Sv ts r k
   have a5:=ah (a7.out k a4);have n:=Eh (ts.getD (r*8+k) (0,0)).1 (ts.getD (r*8+k) (0,0)).2 40 (wr.alloc (.cells #[.int .i64 (ts.getD (r*8+k) (0,0)).1,.int .i64 (ts.getD (r*8+k) (0,0)).2] 168))
   have N:(∃ g:decide (8*(r:Int)+k<len)=true,decide (8*r+k<len)=true/\(wr.alloc (.cells #[(0:Int),(0:Int)] 168)).cell? ⟨b,G+(8*r+k)*2,none⟩=some (.int .i64 (ts.getD (r*8+k) (0,0)).1)/\(wr.alloc (.cells #[(0:Int),(0:Int)] 168)).cell? ⟨b,G+(8*r+k)*2+1,none⟩=some (.int .i64 (ts.getD (r*8+k) (0,0)).2))\/(decide (8*(r:Int)+k<len)=false/\decide (8*r+k<len)=false/\ts.getD (r*8+k) (0,0)=(0,0)):=by
    by_cases M:r*8+k<len
    .obtain⟨b',ab,e,d,m⟩:=Y.out.2 (r*8+k) M
     cases e
     rw[<- K.cell (ja2 w _ d)] at d;rw[<- K.cell (ja2 w _ m)] at m;rw[show 8*r+k=r*8+k by omega]
     exact .inl ⟨by simp;omega,by simp;omega,by rw[jar _ _ _ (ja2 wr _ d)];exact d,by rw[jar _ _ _ (ja2 wr _ m)];exact m⟩
    .refine .inr ⟨by simp;omega,by simp;omega,?_⟩
     rw[ja6,jaj (by rw[Y.out.1];omega)];rfl
   cases s:bI (ts.getD (r*8+k) (0,0)).1 (ts.getD (r*8+k) (0,0)).2 40 with
   | false =>
    have F:=ah (a5.out s);rw[s] at n;rcases N with⟨g,I,d,m⟩|⟨g,I,d⟩
    .have q1:(0:Int)<=8*(r:Int)+(k:Int):=by omega
     have q2  := of_decide_eq_true g;have l:=ah n;generalize (ts.getD (r*8+k) (0,0)).1=o at d l;generalize (ts.getD (r*8+k) (0,0)).2=t at m l;go_wp2_with fail
     refine cEq l.out λa f=>?_
     go_wp2
     go_ret2
     exact⟨by rw[F.out.1,F.out.2];rfl,(c.out.alloc c.out.size _).trans (f.mono (by have:=c.out.size;simp;omega))⟩
    .rw[d] at n
     have l:=ah n;go_wp2_with fail
     refine cEq l.out λa f=>?_
     go_wp2
     go_ret2
     exact⟨by rw[F.out.1,F.out.2];rfl,(c.out.alloc c.out.size _).trans (f.mono (by have:=c.out.size;simp;omega))⟩
   | true =>
    have U:Hid (∀ j,j<k+1->bI (ts.getD (r*8+j) (0,0)).1 (ts.getD (r*8+j) (0,0)).2 40=true):=λj hj=>by
     by_cases e:j=k
     .rw[e];exact s
     .exact a1 j (by omega)
    have X:=jh s;rw[s] at n;rcases N with⟨g,I,d,m⟩|⟨g,I,d⟩
    .have q1:(0:Int)<=8*(r:Int)+(k:Int):=by omega
     have q2  := of_decide_eq_true g;have l:=ah n;generalize (ts.getD (r*8+k) (0,0)).1=o at d l C X;generalize (ts.getD (r*8+k) (0,0)).2=t at m l C X;have k0:0<=o:=by omega
     have k1:o<256:=by omega
     have p0:0<=t:=by omega
     have p1:t<256:=by omega
     have O:=ah C;go_wp2_with fail
     refine cEq l.out λa f=>?_
     have b0:a.cell? ⟨wr,0,none⟩=some (o:υ):=by rw[f.cell (by simp),cell_of_row _ _ _ _ _ _ (heap_alloc_new wr _)];rfl
     have b1:a.cell? ⟨wr,1,none⟩=some (t:υ):=by rw[f.cell (by simp),cell_of_row _ _ _ _ _ _ (heap_alloc_new wr _)];rfl
     have x:Hid (β wr wr a):=((ja0 _ _).alloc (ja1 _) _).trans (f.mono (by simp))
     have z:Hid (w.heap.size<=a.heap.size):=ja4 c.out.size x.out.size;have Q:Hid ((a.alloc (.cells #[.int .u8 o,.int .u8 t] 5)).ownsRow w.heap.size 5 1 u6 (2*k) (byV (lH ts r k))):=(uh y.out (λq e=>x.out.block q (y.out.lt q e).2)).alloc _
     have D:Hid (w.heap.size<=(a.alloc (.cells #[.int .u8 o,.int .u8 t] 5)).heap.size):=by unfold Hid;have:=z.out;simp;omega
     go_wp2_with (at_builtin;go_loud (refine wpList_append_lies _ (by rfl) _ _ 185 (by rfl) w.heap.size 5 i0 (.int .u8 0) 1 1 underlying185 J Z a0 V rfl (by decide) u6 (2*k) (byV (lH ts r k)) (by rfl) Q.out ⟨a,0,none⟩ 2 2 [.int .u8 o,.int .u8 t] (by rfl) (by rfl) (uz _ _ _ _) (λu A=>by simp at A;rcases A with rfl|rfl<;>rfl) (by decide) (by unfold maxLen;omega) (by omega) D.out (a.heap.size+1) (by simp) ?_;intro g2 E w3 L R a6 a8))
     go_roundw
     case rel =>
      exact⟨k+1,by omega,by go_num,by rw[O.out];exact L,((c.out.trans (x.out.mono c.out.size)).alloc z.out _).grown R D.out (λq e=>(y.out.lt q e).1),U.out⟩
     case measure=>simp[intOf];omega
    .rw[d] at n C
     have l:=ah n;have O:=ah C;go_wp2_with fail
     refine cEq l.out λa f=>?_
     have b0:a.cell? ⟨wr,0,none⟩=some (.int .i64 0):=by rw[f.cell (by simp),cell_of_row _ _ _ _ _ _ (heap_alloc_new wr _)];rfl
     have b1:a.cell? ⟨wr,1,none⟩=some (.int .i64 0):=by rw[f.cell (by simp),cell_of_row _ _ _ _ _ _ (heap_alloc_new wr _)];rfl
     have x:Hid (β wr wr a):=((ja0 _ _).alloc (ja1 _) _).trans (f.mono (by simp))
     have z:Hid (w.heap.size<=a.heap.size):=ja4 c.out.size x.out.size;have Q:Hid ((a.alloc (.cells #[.int .u8 0,.int .u8 0] 5)).ownsRow w.heap.size 5 1 u6 (2*k) (byV (lH ts r k))):=(uh y.out (λq e=>x.out.block q (y.out.lt q e).2)).alloc _
     have D:Hid (w.heap.size<=(a.alloc (.cells #[.int .u8 0,.int .u8 0] 5)).heap.size):=by unfold Hid;have:=z.out;simp;omega
     go_wp2_with (at_builtin;go_loud (refine wpList_append_lies _ (by rfl) _ _ 185 (by rfl) w.heap.size 5 i0 (.int .u8 0) 1 1 underlying185 J Z a0 V rfl (by decide) u6 (2*k) (byV (lH ts r k)) (by rfl) Q.out ⟨a,0,none⟩ 2 2 [.int .u8 0,.int .u8 0] (by rfl) (by rfl) (uz _ _ _ _) (λu A=>by simp at A;rcases A with rfl|rfl<;>rfl) (by decide) (by unfold maxLen;omega) (by omega) D.out (a.heap.size+1) (by simp) ?_;intro g2 E w3 L R a6 a8))
     go_roundw
     case rel =>
      exact⟨k+1,by omega,by go_num,by rw[O.out];exact L,((c.out.trans (x.out.mono c.out.size)).alloc z.out _).grown R D.out (λq e=>(y.out.lt q e).1),U.out⟩
     case measure=>simp[intOf];omega
  .have a2:k=8:=by omega
   subst a2;have S:=ah (a3.out a1);rcases H.2 with⟨_,h0⟩|⟨g,E,ad,W,ae,hh,af,aa,N,ag⟩
   .omega
   .have a9:(convert 185 9 (.slice (some ⟨g,0,none⟩) 16 E)).run prog wr=.ok (.string (strOfNums (lH ts r 8))) wr:=by
     rw[W] at H
     exact run_convert_bytes_arg (P:=prog) wr 185 5 underlying185 underlying5 g 0 16 E (lH ts r 8) (GU ts r 8) (λi J=>by
      rw[jaq,H.cellAt i (by omega)]
      exact sU _ i (by rw[GU];omega)) 9 underlying9
    rw[S.out.2] at a9;subst W;go_wp2
    go_ret2
    exact⟨by rw[S.out.1];rfl,c.out⟩
def GV(d:Option Addr)(len cap:Nat)(ts:List (Int × Int))(row:Int)(w:ω)(c:lK w d len ts)(k:len<=50) :
  κ prog 108 #[.slice d len cap,row] w λe i=>e=.returned (.tuple #[.string (eP ts row),gV ts row])/\β w w i:=by
 cases f:qJ ts row with
 | false=>exact Sz d len cap ts row w c k f
 | true =>
  have a:=of_decide_eq_true f;obtain⟨r,rfl⟩:=Int.eq_ofNat_of_zero_le a.2.1;rw[c.1] at a
  have j:0<len:=by
   rcases Nat.eq_zero_or_pos len with h|h
   .subst h;simp[ay] at a;omega
   .exact h
  obtain⟨b,g,rfl,_⟩:=c.2 0 j;exact SC b g len cap ts r w c a.1 (by omega)
def zU(f:Int)(w:ω):κ prog 10 #[.nilIface,f] w λe a=>e=.returned (.bool (f==0))/\a=w:=by
 go_enter func10,ntmps10
 go_wp2
 go_ret
 simp_all
def Ej(n:Int)(w:ω)(b:0<n):κ prog 10 #[.iface 96 (.int .i64 n),n] w λe a=>e=.returned true/\a=w:=by
 have c:∀ w:ω,(Instr.typeAssert (.iface 96 (.int .i64 n)) 27 96 true).run prog w=.ok (.tuple #[n,true]) w:=λ_=>by kernel_rfl
 go_enter func10,ntmps10
 go_wp2
 go_ret
 simp_all
def oH(f:Int)(w:ω)(h:0<=f):κ prog 10 #[erV f,f] w λe b=>e=.returned true/\b=w:=by
 by_cases a:f=0
 .subst a
  exact zU 0 w
 .have e:erV f=.iface 96 (.int .i64 f):=by unfold erV;rw[if_neg a]
  rw[e];exact Ej f w (by omega)
def jB(ts:List (Int × Int)):List Value:=ts.flatMap λe=>[.int .i64 e.1,.int .i64 e.2]
def pX(ts:List (Int × Int)):(jB ts).length=ts.length*2:=by
 induction ts with
 | nil=>rfl
 | cons e ts a=>simp only[jB,List.flatMap_cons,jak,jax,jbr] at a |-;omega
def L6(ts:List (Int × Int)):∀ u∈jB ts,u.oneCell'=true:=by
 intro u a;obtain⟨e,_,h⟩:=List.mem_flatMap.1 a;simp at h
 rcases h with rfl|rfl<;>rfl
def uP(ts:List (Int × Int))(k:Nat)(a:k<ts.length):(jB ts)[k*2]?=S (.int .i64 (ts.getD k (0,0)).1)/\(jB ts)[k*2+1]?=S (.int .i64 (ts.getD k (0,0)).2):=by
 induction ts generalizing k with
 | nil=>simp at a
 | cons e ts c =>
  cases k with
  | zero=>exact⟨rfl,rfl⟩
  | succ k =>
   have b:jB (e::ts)=[.int _ _,.int _ _]++jB ts:=rfl;rw[b,show(k+1)*2=2+k*2 by omega,show 2+k*2+1=2+(k*2+1) by omega,jb0 (by simp),jb0 (by simp)]
   simp_all
def tK:(prog.info? 168).map (λi=>(i.zero,i.size,i.bytes))=S (S (.agg #[(0:Int),(0:Int)]),2,16):=by kernel_rfl
def uQ{w:ω}{B g n cap:Nat}{ts:List (Int × Int)}{c:List υ}(b:w.ownsRow B 168 2 (.slice (S ⟨g,0,O⟩) n cap) n c)(k:Nat)(d:c.take (k*2)=jB ts)(h:k<=n)(f:ts.length=k):lK w (S ⟨g,0,O⟩) k ts:=by
 refine⟨f,λi j=>⟨g,0,rfl,?_,?_⟩⟩
 .have a:=(uP ts i (by omega)).1
  rw[<- d,List.getElem?_take_of_lt (by omega)] at a
  rw[jaq,b.cellAt _ (by omega)];exact a
 .have a:=(uP ts i (by omega)).2
  rw[<- d,List.getElem?_take_of_lt (by omega)] at a
  rw[jaq,b.cellAt _ (by omega)];exact a
def NC(s:ByteArray):0<=dN s:=by
 unfold dN;split
 .omega
 .next h=>have:=BP h;omega
def qA{w a:ω}{C:Array υ}{t:TypeId}(b:β (w.alloc (.cells C t)).heap.size (w.alloc (.cells C t)) a)(i:Nat)(v:υ)(c:C[i]?=S v):a.cell? ⟨w.heap.size,i,O⟩=S v:=by
 rw[b.cell (by simp),cell_of_row _ _ _ _ _ _ (heap_alloc_new w _)];exact c
def stepT(h:HV)(a:List (Int × Int))(e:Int × Int):Option (List (Int × Int)) :=
 if (a.length:Int)=h.c then (if e=(0,0) then S a else O)
 else if bI e.1 e.2 h.p=true/\¬(e.1=2/\e∈a) then S (a++[e]) else O
def jA(s:ByteArray)(i:Nat):Int × Int:=(bAt s (i*2),bAt s (i*2+1))
def fD(h:HV)(b:List (Int × Int))(s:ByteArray):Nat->Option (List (Int × Int))
 | 0=>S b
 | i+1=>match fD h b s i with
  | none=>O
  | some a=>stepT h a (jA s i)
def vG{h:HV}{b:List (Int × Int)}{s:ByteArray}{i:Nat}(e:fD h b s i=O):∀ j,i<=j->fD h b s j=none:=by
 intro j d
 induction j with
 | zero=>simp_all
 | succ j c =>
  by_cases f:i=j+1
  .simp_all
  .show(match fD h b s j with|none=>O|some a=>stepT h a _)=O
   rw[(c (by omega))]
def yC{h:HV}{b a:List (Int × Int)}{s:ByteArray}{i:Nat}(e:fD h b s i=S a):fD h b s (i+1)=stepT h a (jA s i):=by
 show(match fD h b s i with|none=>O|some a=>stepT h a _)=_
 rw[e]
def Uk{h:HV}{d a:List (Int × Int)}{e:Int × Int}(b:stepT h d e=S a)(f:(d.length:Int)<=h.c):(a.length:Int)<=h.c:=by
 unfold stepT at b;split at b
 .simp_all
 .split at b
  .cases b;simp;omega
  .cases b
def GY{h:HV}{b:List (Int × Int)}{s:ByteArray}(g:(b.length:Int)<=h.c):∀(i:Nat) (a:List (Int × Int)),fD h b s i=S a->(a.length:Int)<=h.c:=by
 intro i
 induction i with
 | zero=>intro a e;cases e;exact g
 | succ i f =>
  intro a e
  cases d:fD h b s i with
  | none=>rw[vG d _ (by omega)] at e;cases e
  | some x=>rw[yC d] at e;exact Uk e (f x d)
def bP(h:HV)(b:List ByteArray):Nat->List (Int × Int) × Int
 | 0=>([],0)
 | j+1=>if (bP h b j).2=0 then (if (b.getD j ByteArray.empty).size=16 then (match fD h (bP h b j).1 (b.getD j ByteArray.empty) 8 with|some a=>(a,0)|none=>([],2)) else ([],1)) else ([],(bP h b j).2)
def kV(h:HV)(a:List ByteArray):Bool:=h.ok&&decide (a.length=ay h.c.toNat)
def dO(h:HV)(a:List ByteArray):List (Int × Int):=if kV h a=true then (bP h a a.length).1 else []
def fP(h:HV)(a:List ByteArray):Int:=if kV h a=true then (bP h a a.length).2 else 1
def Iy{h:HV}{a:List ByteArray}{j:Nat}{f:Int}(b:f≠0)(e:bP h a j=([],f)):∀ i,j<=i->bP h a i=([],f):=by
 intro i g
 induction i with
 | zero=>simp_all
 | succ i c =>
  by_cases d:j=i+1
  .simp_all
  .unfold bP
   rw[(c (by omega)),if_neg b]
def yT{h:HV}{a:List ByteArray}{j:Nat}(e:(bP h a j).2=0)(b:(a.getD j ByteArray.empty).size≠16):bP h a (j+1)=([],1):=by
 show(if (bP h a j).2=0 then _ else _)=_
 simp_all
def yR{h:HV}{a:List ByteArray}{j:Nat}(e:(bP h a j).2=0)(c:(a.getD j ByteArray.empty).size=16)(b:fD h (bP h a j).1 (a.getD j ByteArray.empty) 8=O):bP h a (j+1)=([],2):=by
 show(if (bP h a j).2=0 then _ else _)=_
 simp_all
def yS{h:HV}{b:List ByteArray}{j:Nat}{a:List (Int × Int)}(e:(bP h b j).2=0)(d:(b.getD j ByteArray.empty).size=16)(c:fD h (bP h b j).1 (b.getD j ByteArray.empty) 8=S a):bP h b (j+1)=(a,0):=by
 show(if (bP h b j).2=0 then _ else _)=_
 simp_all
def Uw(h:HV)(b:List ByteArray)(j:Nat):0<=(bP h b j).2:=by
 induction j with
 | zero=>exact jb4 0
 | succ j f =>
  by_cases e:(bP h b j).2=0
  .by_cases c:(b.getD j ByteArray.empty).size=16
   .cases d:fD h _ _ 8 with
    | none=>rw[yR e c d];decide
    | some a=>rw[yS e c d];exact jb4 0
   .rw[yT e c];decide
  .have:bP h b (j+1)=([],(bP h b j).2):=by
    show(if (bP h b j).2=0 then _ else _)=_
    rw[if_neg e]
   simp_all
def UF(h:HV)(a:List ByteArray):0<=fP h a:=by
 unfold fP;split
 .exact Uw h a _
 .omega
def fH(a:List (Int × Int)):List Bool:=(List.range 40).map λq:Nat=>decide (((2:Int),(q:Int))∈a)
def CJ(a:List (Int × Int)):(fH a).length=40:=by simp[fH]
def CG(a:List (Int × Int))(q:Nat)(b:q<40):(fH a).getD q false=decide (((2:Int),(q:Int))∈a):=by
 simp[fH,List.getD,b]
def II:fH []=List.replicate 40 false:=by
 simp[fH,List.map_const']
def IJ(a:List (Int × Int))(k p:Int)(b:k≠2):fH (a++[(k,p)])=fH a:=by
 apply jbu
 intro q _;have:((2:Int),(q:Int))≠(k,p):=λe=>b (congrArg Prod.fst e).symm
 simp[this]
def IG(a:List (Int × Int))(q:Nat)(b:q<40):fH (a++[(2,(q:Int))])=(fH a).set q true:=by
 apply jbe
 intro i;rw[jbf];by_cases e:q=i
 .subst e
  simp[fH,b]
 .rw[if_neg e]
  by_cases c:i<40
  .simp[fH,c]
   omega
  .rw[jaj (by rw[CJ];omega),jaj (by rw[CJ];omega)]
def vP(h:HV)(v:υ)(tk:List Bool):List Value:=[.int .i64 h.c,.int .i64 h.p,.int .i64 h.b,v]++tk.map .bool
structure fJ(B:Nat)(w:ω)(N:Nat)(h:HV)(v:υ)(acc:List (Int × Int))(tk:List Bool):Prop where
 blk:w.heap[N]?=S (.cells (vP h v tk).toArray 290 (0,0))
 own:w.ownsRow B 168 2 v acc.length (jB acc)
 pB:B<=N
 tk40:tk.length=40
def fJ.below{B N:Nat}{w b:ω}{h:HV}{v:υ}{c:List (Int × Int)}{tk:List Bool}(a:fJ B w N h v c tk)(d:β w w b):fJ B b N h v c tk :=
 ⟨by rw[d.block N (lY a.blk)];exact a.blk,uh a.own (λq e=>d.block q (a.own.lt q e).2),a.pB,a.tk40⟩
def fJ.cells{B N:Nat}{w:ω}{h:HV}{v:υ}{b:List (Int × Int)}{tk:List Bool}(a:fJ B w N h v b tk) :
  w.cell? ⟨N,0,O⟩=S (h.c:υ)/\w.cell? ⟨N,1,O⟩=S (h.p:υ)/\w.cell? ⟨N,3,O⟩=S v/\w.frozen? ⟨N,3,O⟩=false:=by
 refine⟨?_,?_,?_,frozen_of_row _ _ _ _ _ a.blk⟩<;>(rw[cell_of_row _ _ _ _ _ _ a.blk];rfl)
def fJ.bit{B N:Nat}{w:ω}{h:HV}{v:υ}{c:List (Int × Int)}{tk:List Bool}(a:fJ B w N h v c tk)(q:Nat)(b:q<40) :
  w.cell? ⟨N,4+q,O⟩=S (.bool (tk.getD q false))/\w.frozen? ⟨N,4+q,O⟩=false:=by
 refine⟨?_,frozen_of_row _ _ _ _ _ a.blk⟩;have d:q<tk.length:=by rw[a.tk40];exact b
 rw[cell_of_row _ _ _ _ _ _ a.blk,jaM,vP,jb0 (by simp)]
 simp_all
def fJ.form{B N:Nat}{w:ω}{h:HV}{v:υ}{b:List (Int × Int)}{tk:List Bool}(c:fJ B w N h v b tk):∃ a cap,v=.slice a b.length cap:=by
 rcases c.own.2 with⟨i,j⟩|⟨g,cap,d,f,_⟩
 .simp_all
 .simp_all
def fJ.apart{B N:Nat}{w:ω}{h:HV}{v:υ}{f:List (Int × Int)}{tk:List Bool}(b:fJ B w N h v f tk):v.ownBlock≠S N:=λe=>by
 rcases b.own.2 with⟨d,_⟩|⟨g,cap,i,c,_,a,_⟩
 .rw[d] at e;cases e
 .rw[c] at e
  have:g=N:=by simpa [Value.ownBlock] using e
  rw[this,b.blk] at a;cases a
def fJ.yJ{B N:Nat}{w:ω}{h:HV}{v:υ}{b:List (Int × Int)}{tk:List Bool}(a:fJ B w N h v b tk)(q:Nat)(d:q<40) :
  fJ B (w.setCell ⟨N,4+q,O⟩ true) N h v b (tk.set q true):=by
 refine⟨?_,uh a.own (λr e=>heap_setCell_other _ _ _ _ (λc=>a.apart (e.trans (congrArg S c)))),a.pB,by rw[jag];exact a.tk40⟩
 rw[heap_setCell_same w N _ _ _ _ a.blk]
 congr 2
 simp only[vP,jab];rw[List.set_append_right _ _ (by simp)]
 simp_all
def fJ.push{B N:Nat}{w b:ω}{h:HV}{v:υ}{a:List (Int × Int)}{tk:List Bool}(c:fJ B w N h v a tk)(k p:Int)(g cap:Nat)(C:Obj)
  (f:b.ownsRow B 168 2 (.slice (S ⟨g,0,O⟩) (a.length+1) cap) (a.length+1) (jB a++[.int .i64 k,.int .i64 p])) (l:(w.alloc C).grownBy b v.ownBlock) :
  fJ B (b.setCell ⟨N,3,O⟩ (.slice (S ⟨g,0,O⟩) (a.length+1) cap)) N h (.slice (S ⟨g,0,O⟩) (a.length+1) cap) (a++[(k,p)]) tk/\b.cell? ⟨N,3,O⟩=S v/\b.frozen? ⟨N,3,O⟩=false:=by
 have j:=lY c.blk
 have d:b.heap[N]?=S (.cells (vP h v tk).toArray 290 (0,0)):=by
  rw[l.block N (by simp;omega) (jaF c.apart),jam _ _ _ j];exact c.blk
 have q:g≠N:=λe=>by
  rcases f.2 with⟨_,u⟩|⟨m,t,s,o,_,i,_⟩
  .omega
  .have:g=m:=by simpa [Value.ownBlock] using congrArg Value.ownBlock o
   rw[<- this,e,d] at i;cases i
 refine⟨⟨?_,?_,c.pB,c.tk40⟩,by rw[cell_of_row _ _ _ _ _ _ d];rfl,frozen_of_row _ _ _ _ _ d⟩
 .rw[heap_setCell_same b N 3 _ _ _ d]
  simp[vP]
 .have n:jB (a++[(k,p)])=jB a++[.int .i64 k,.int .i64 p]:=by simp[jB]
  rw[n,jak]
  exact uh f (λr e=>by
   have:g=r:=by simpa [Value.ownBlock] using e
   subst this
   exact heap_setCell_other _ _ _ _ q)
