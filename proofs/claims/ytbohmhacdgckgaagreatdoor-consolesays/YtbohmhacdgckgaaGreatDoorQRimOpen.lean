/- A part. -/
import Derived.Test.YtbohmhacdgckgaaGreatDoorQConR3
set_option linter.all false
set_option maxHeartbeats 4000000
set_option maxRecDepth 100000
namespace Go.Proofs.YtbohmhacdgckgaaGreatDoor
open Go.RowKit renaming Below->β, Hid->χ
open Go renaming World->ω, Value->υ, Calls->κ
open Option renaming none->O, some->S
open Go.Proofs.Tryz Go.RowKit Go.Maps
attribute [local go_sem ↓] Go.wp_at_zero Go.wp_at_succ
def cmds:List (List UInt8 × Int):=[([114,101,97,100],2),([102,105,108,108],3),([119,105,112,101],2),([102,108,117,115,104],0),([98,108,97,110,107],1),([115,110,97,112],1),([99,104,97,105,110],0),([115,116,97,114,116],4),([115,116,101,112],0),([112,97,117,115,101],0),([114,101,115,117,109,101],0),([99,97,110,99,101,108],0),([112,105,118,111,116],0),([116,105,99,107],1),([115,116,97,116,117,115],0),([102,97,105,108],2),([99,114,97,115,104],1)]
def jD(l:List UInt8):Int:=(cmds.lookup l).getD (-1)
def CG(l w):κ prog 87 #[.string (bytesOf l)] w λe w'=>e=.returned (jD l)/\w'=w:=by
 have a:=dV l;by_cases h:l∈cmds.map (·.1)
 .simp only[cmds,List.map,jb7,jb1,or_false] at h;rcases h with rfl|rfl|rfl|rfl|rfl|rfl|rfl|rfl|rfl|rfl|rfl|rfl|rfl|rfl|rfl|rfl|rfl
  all_goals
   generalize bytesOf _=S at a |-;go_enter func87,ntmps87;go_wp2;go_ret;exact⟨rfl,rfl⟩
 .have c:jD l = -1:=by
   unfold jD;rw[List.lookup_eq_none_iff.2 λp b=>by simpa using λe:l=p.1=>h (e▸jbP b)];rfl
  have g:∀ x∈cmds.map (·.1),((bytesOf l).toList==x)=false:=λx d=>by rw[a];simpa using λe:l=x=>h (e▸d)
  generalize bytesOf l=S at g |-;simp only[cmds,List.map,jb7,jb1,or_false,forall_eq_or_imp,forall_eq] at g;rw[c];go_enter func87,ntmps87;go_wp2;go_ret;exact⟨rfl,rfl⟩
def gY(l:List Int):List UInt8:=Lib.join (l.map Lib.itoa) [32]
def Ii(l x):gY (l++[x])=(if l=[] then [] else gY l++[32])++Lib.itoa x:=by
 unfold gY
 cases l with
 | nil=>exact Lib.join_one _ _
 | cons a r =>
  rw[if_neg (by simp),jbs,jbA,jaU,Lib.join_cons,Lib.join_cons];simp[Lib.joinTail]
theorem Cj(l:List Int)(h:∀ x∈l,-1<=x/\x<=1000000000):∀ k,(gY (l.take k)).length<=22*k
 | 0=>by simp[gY,Lib.join_nil]
 | k+1=>by
  have b:=Cj l h k;by_cases a:k<l.length
  .have d:=h _ (jad a);have c:=jbb l[k] (by omega) (by omega);rw[jaC,ja5 a];show(gY (l.take k++[l[k]])).length<=_
   rw[Ii];split<;>(simp;omega)
  .rw[jaf (by omega)];rw[jaf (by omega)] at b;omega
def Ij{a cap}(l w)(h:Nums w a l)(J:l.length<=100)(C:∀ x∈l,-1<=x/\x<=1000000000) :
  κ prog 165 #[.slice a l.length cap] w λe w'=>e=.returned (.string (bytesOf (gY l)))/\β w w w':=by
 have r:=ah λk W (c:β w w W) (b:k<l.length)=>(h.below c) k b
 have t:χ (∀ k,k<l.length->∃ x,l.getD k 0=x/\l.take (k+1)=l.take k++[x] /\ -1<=x/\x<=1000000000):=λk b=>by
  refine⟨l[k],by simp[List.getD,b],?_,C _ (jad b)⟩;rw[jaC,ja5 b];rfl
 have M:χ (∀ k,k<=100->(gY (l.take k)).length<=2200):=λk b=>by
  have:=Cj l C k
  omega
 have d:χ (∀ k,k<=l.length->(l.take k=[]↔k=0)):=λk b=>by
  rw[List.take_eq_nil_iff];constructor
  .rintro(e|e)
   .exact e
   .rw[e] at b;simpa using b
  .exact .inl
 have D:χ (l.take l.length=l):=jaf (ja1 _);generalize l.length=n at r t J d D |-;go_enter func165,ntmps165;go_wp2;go_loopw [3,4] (λu i wr=>∃ k:Nat,k<=n/\i=.int .i64 (k:Int)/\u=.string (bytesOf (gY (l.take k)))/\β w w wr) (λ_ i _=>n-(intOf i).toNat)
 case atStart=>exact⟨0,by omega,rfl,rfl,ja0 _ _⟩
 case round =>
  obtain⟨k,b,rfl,rfl,c⟩:=hrel;by_cases z:k<n
  .obtain⟨g,o,rfl,c1⟩:=r.out k wr c z;obtain⟨x,P,B,E,Q⟩:=t.out k z;rw[P] at c1;have T:(0:Int)<=(k:Int):=by omega
   have R:(k:Int)<(n:Int):=by omega
   have j:=ah (Ii (l.take k) x);rw[<- B] at j;have H:=jbb x (by omega) (by omega);have K:=M.out k (by omega);have y:=ah (Fp x wr E Q);obtain⟨L,q,F⟩:∃ L,χ (L=bytesOf (Lib.itoa x))/\L.size=(Lib.itoa x).length:=⟨_,rfl,rfl⟩;obtain⟨S,v,G⟩:∃ S,χ (S=bytesOf (gY (l.take k)))/\S.size=(gY (l.take k)).length:=⟨_,rfl,rfl⟩;rw[<- q.out] at y;rw[<- v.out];have A:=ah c;have U:¬9223372036854775807<S.size+L.size:=by omega
   have q2:¬9223372036854775807<S.size+1:=by omega
   by_cases f:k=0
   .have N:¬0<(k:Int):=by omega
    have m:χ (S++L=bytesOf (gY (l.take (k+1)))):=by
     unfold χ;rw[j.out,if_pos ((d.out k b).2 f),v.out,q.out,(d.out k b).2 f,qo];rfl
    clear c j G F K H r t d B f;go_wp2_with fail;refine cBl y.out A.out λW s=>?_
    go_wp2;go_roundw
    case rel=>exact⟨k+1,by omega,by go_num,by rw[m.out],s.out⟩
    case measure=>simp[intOf];omega
   .have N:0<(k:Int):=by omega
    have m:χ (S++⟨#[32]⟩++L=bytesOf (gY (l.take (k+1)))):=by
     unfold χ;rw[j.out,if_neg λe=>f ((d.out k b).1 e),v.out,q.out];show bytesOf _++bytesOf [32]++_=_
     rw[qo,qo]
    have V:¬9223372036854775807<(S++⟨#[32]⟩).size+L.size:=by
     rw[jaN];show ¬_<S.size+1+L.size
     omega
    go_wp2_with fail;refine cBl y.out A.out λW s=>?_
    go_wp2;go_roundw
    case rel=>exact⟨k+1,by omega,by go_num,by rw[m.out],s.out⟩
    case measure=>simp[intOf];omega
  .have I:k=n:=by omega
   subst I;rw[D.out];go_wp2;go_ret;exact⟨rfl,c⟩
def tJ:List UInt8:=[48,49,50,51,52,53,54,55,56,57,97,98,99,100,101,102]
def wo(b:UInt8):List UInt8:=[tJ.getD (b.toNat / 16) 0,tJ.getD (b.toNat % 16) 0]
def hexL(l:List UInt8):List UInt8:=l.flatMap wo
def hexT(l:List UInt8):List UInt8:=if l=[] then [45] else hexL l
def GY(l):(hexL l).length=2*l.length:=by
 unfold hexL
 induction l with
 | nil=>rfl
 | cons b r a=>rw[List.flatMap_cons,jah,a];simp[wo];omega
def GZ{l:List UInt8}{k b}(h:l[k]?=S b):hexL (l.take (k+1))=hexL (l.take k)++wo b:=by
 rw[jaC,h];simp[hexL]
def G6:∀ c:Fin 16,(⟨#[48,49,50,51,52,53,54,55,56,57,97,98,99,100,101,102]⟩:ByteArray).extract c.val (c.val+1)=bytesOf [tJ.getD c.val 0]:=by decide +kernel
def XI(l w)(G:l.length<=100000) :
  κ prog 162 #[.string (bytesOf l)] w λe w'=>e=.returned (.string (bytesOf (hexT l)))/\β w w w':=by
 obtain⟨S,v,B⟩:∃ S,χ (S=bytesOf l)/\S.size=l.length:=⟨_,rfl,rfl⟩;rw[<- v.out];have D:=ah (λk=>GY (l.take k));generalize F:l.length=n at G B;have t:=ah F;go_enter func162,ntmps162;go_wp2;go_loopw [3,4] (λu i wr=>∃ k:Nat,k<=n/\i=.int .i64 (k:Int)/\u=.string (bytesOf (hexL (l.take k)))/\β w w wr) (λ_ i _=>n-(intOf i).toNat)
 case atStart=>exact⟨0,by omega,rfl,rfl,ja0 _ _⟩
 case round =>
  obtain⟨k,M,rfl,rfl,j⟩:=hrel;have m:=ah j;obtain⟨X,d,s⟩:∃ X,χ (X=bytesOf (hexL (l.take k)))/\X.size=(hexL (l.take k)).length:=⟨_,rfl,rfl⟩;rw[<- d.out]
  have L:X.size<=200000:=by
   have:=D.out k
   rw[jay,t.out] at this;omega
  by_cases K:k<n
  .obtain⟨b,H,E⟩:=bytes_at v.out (show k<S.size by omega);have y:(k:Int)<(n:Int):=by omega
   have N:=b.toNat_lt;obtain⟨c,I⟩:∃ c:Nat,((S[k]'(by omega)).toNat)=c:=⟨_,rfl⟩;have x:b.toNat=c:=by rw[<- I,E]
   have A:=ah x;have J:=ah (GZ H);have P:c<256:=by omega
   have z:χ ((⟨#[48,49,50,51,52,53,54,55,56,57,97,98,99,100,101,102]⟩:ByteArray).extract (c / 16) (c / 16+1)=bytesOf [tJ.getD (c / 16) 0]):=G6 ⟨c / 16,by omega⟩;have C:χ ((⟨#[48,49,50,51,52,53,54,55,56,57,97,98,99,100,101,102]⟩:ByteArray).extract (c % 16) (c % 16+1)=bytesOf [tJ.getD (c % 16) 0]):=G6 ⟨c % 16,by omega⟩;go_wp2;go_region;go_wp2;go_roundw
   case rel =>
    refine⟨k+1,by omega,by go_num,?_,m.out.drew⟩;rw[z.out,C.out,d.out,qo,qo,J.out,jaR];unfold wo;rw[A.out];rfl
   case measure=>simp[intOf];omega
  .have y:¬(k:Int)<(n:Int):=by omega
   have o:l.take k=l:=jaf (by rw[t.out];omega);rw[o] at d;have f:X.toList=hexL l:=by rw[d.out,dV]
   by_cases a:l=[]
   .have g:(X.toList==[])=true:=by rw[f,a];rfl
    have q:χ (hexT l=[45]):=if_pos a;clear j f a s o;go_wp2;go_ret;exact⟨by rw[q.out];rfl,m.out⟩
   .have g:(X.toList==[])=false:=by
     rw[f]
     cases l with
     | nil=>exact absurd rfl a
     | cons b r=>rfl
    have q:χ (bytesOf (hexT l)=X):=by unfold χ hexT;rw[if_neg a,d.out]
    clear j f a s o;go_wp2;go_ret;exact⟨by rw[q.out];rfl,m.out⟩
structure Fill(w:ω)(g N k:Nat)(b:Int)(wr:ω):Prop where
 at_:∀ j,j<N->wr.cell? ⟨g,j,O⟩=S (.int .u8 (if j<k then b else 0))
 fz:∀ j,wr.frozen? ⟨g,j,O⟩=false
 bel:β w w wr
 new:w.heap.size<=g
def Fill.step{w wr g N k b}(h:Fill w g N k b wr)(c:k<N):Fill w g N (k+1) b (wr.setCell ⟨g,k,O⟩ (.int .u8 b)):=by
 refine⟨λj a=>?_,λj=>(World.frozen?_setCell _ _ _ _).trans (h.fz j),h.bel.setCell h.new _,h.new⟩;by_cases e:j=k
 .subst e;rw[World.cell?_setCell_same _ _ _ (h.at_ j a),if_pos (by omega)]
 .rw[jan _ _ _ _ (by simp_all),h.at_ j a];by_cases q:j<k
  .rw[if_pos q,if_pos (by omega)]
  .rw[if_neg q,if_neg (by omega)]
def Fill.text{w wr g N b}(h:Fill w g N N (b.toNat:Int) wr):(convert 185 9 (.slice (S ⟨g,0,O⟩) N N)).run prog wr=.ok (.string (bytesOf (List.replicate N b))) wr:=by
 refine vT N N (by simp) λj v c=>?_
 have a:j<N:=by
  rcases jav j N with q|q
  .exact q
  .rw[jaj (by rw[pV,jam];exact q)] at c;cases c
 rw[jak,h.at_ j a,if_pos a]
 simpa [bM,a] using c
def Lc(n:Nat)(b c w)(G:n<=200)(r:c=(b.toNat:Int)) :
  κ prog 164 #[(n:Int),c] w λe w'=>e=.returned (.string (bytesOf (List.replicate (16*n) b)))/\β w w w':=by
 obtain⟨y,u,l,q,s⟩:=info_parts BZ;obtain⟨v,A,d,t⟩:=run_make_full  w w.heap.size 185 5 y _ 1 underlying185 u l q .i64 .i64 (16*n) (by rw[s];omega) (by unfold maxLen;omega) (ja1 _);have m  := (ja0 _ _).grown t (ja1 _) (λk e=>by cases e)
 have o:χ (Fill w w.heap.size (16*n) 0 c v):=by
  refine⟨λj B=>?_,λj=>d.frozenAt j,m,ja1 _⟩;rw[d.cellAt j (by omega),if_neg (by omega),Nat.mul_one];show(madeCells #[Value.int .u8 0] (16*n)).toList[j]?=_
  rw[toList_madeCells_one];simp[B]
 have x:=b.toNat_lt;have J:0<=c:=by omega
 have c1:c<256:=by omega
 have E:IntKind.u8.wrap c=c:=by unfold IntKind.wrap;simp[IntKind.bits,IntKind.signed];omega
 have f:χ (∀ wr,Fill w w.heap.size (16*n) (16*n) c wr->(convert 185 9 _).run prog wr=.ok _ wr):=λwr h=>by subst r;exact h.text
 clear d t m u l q s r x;have z:(16:Int)*(n:Int)=((16*n:Nat):Int):=by omega
 generalize F:16*n=N at z A o f |-;have I:N<=3200:=by omega
 generalize bytesOf _=S at f |-;go_enter func164,ntmps164;go_wp2;go_loopw [6] (λi wr=>∃ k:Nat,k<=N/\i=.int .i64 (k:Int)/\Fill w w.heap.size N k c wr) (λi _=>N-(intOf i).toNat)
 case atStart=>exact⟨0,by omega,rfl,o.out⟩
 case round =>
  obtain⟨k,C,rfl,a⟩:=hrel;by_cases g:k<N
  .have D:(k:Int)<(N:Int):=by omega
   have c2:=a.at_ k g;have c3:=a.fz k;go_wp2;go_roundw
   case rel=>exact⟨k+1,by omega,by go_num,(a.step g)⟩
   case measure=>simp[intOf];omega
  .have e:k=N:=by omega
   subst e;have H:=f.out _ a;go_wp2;go_ret;exact⟨rfl,a.bel⟩
def gX(n c:Int):List UInt8:=List.replicate (16*n.toNat) (UInt8.ofNat c.toNat)
def aY(y:YV)(n:Int):List (List Bool):=(List.range 5).map λi=>List.replicate (y.dev i).pend.length (n==1)
def kR(y:YV):List Int:=match y.j with
 | none=>[0,-1,0,0]
 | some j=>[j.kind,j.file,j.state,(S4.cnt j.x 64:Nat)]
def doV(y:YV)(w:List UInt8)(a b c d:Int):Int × YV :=
 if w=[102,105,108,108] then (if 0<=b/\b<=128/\0<=c/\c<=255 then y.bQ a (bytesOf (gX b c)) else 1,if 0<=b/\b<=128/\0<=c/\c<=255 then y.write a (bytesOf (gX b c)) else y) else
 if w=[119,105,112,101] then (y.lU a b,y.wipe a b) else
 if w=[102,108,117,115,104] then (0,y.flush) else
 if w=[98,108,97,110,107] then (y.dP a (-1),y.blank a (-1)) else
 if w=[115,110,97,112] then (y.iU a,y.snap a) else
 if w=[115,116,97,114,116] then (y.iE (gZ y a b c d),y.start (gZ y a b c d)) else
 if w=[112,97,117,115,101] then (y.fD true,y.pause true) else
 if w=[114,101,115,117,109,101] then (y.fD false,y.pause false) else
 if w=[99,97,110,99,101,108] then (y.nM,y.cancel) else
 if w=[112,105,118,111,116] then (y.jK,y.pivot) else
 if w=[116,105,99,107] then (YV.nX a,y.tick a) else
 if w=[102,97,105,108] then (YV.jF a b,y.arm a b) else
 (y.iR (aY y a),if y.iR (aY y a)=0 then y.crash (aY y a) else y)
def nV(y:YV)(w:List UInt8)(a b c d:Int):List UInt8 × YV :=
 if w=[114,101,97,100] then (if y.s.aT y.l a b=0 then hexT (y.s.fG y.l a b).data.toList else iL (y.s.aT y.l a b),y) else
 if w=[99,104,97,105,110] then (gY y.l,y) else
 if w=[115,116,101,112] then (if y.bF=0 then (if y.eP=true then [109,111,118,101,100] else [115,116,105,108,108]) else iL y.bF,y.step) else
 if w=[115,116,97,116,117,115] then (gY (kR y),y) else
 (fO (doV y w a b c d).1,(doV y w a b c d).2)
def lM(l:List UInt8):Option (List UInt8 × List Int) :=
 if l.length<=200/\jD ((aG l).headD [])=((aG l).length:Int)-1 then ((aG l).tail.mapM dK).map λn=>((aG l).headD [],n) else O
def dG(y:YV)(l:List UInt8):List UInt8 × YV:=match lM l with
 | none=>(iL 11,y)
 | some (w,n)=>nV y w (n.getD 0 0) (n.getD 1 0) (n.getD 2 0) (n.getD 3 0)
def KOk(y:YV):Prop:=∀ j,y.j=S j->(0<=j.kind/\j.kind<=3) /\ -1<=j.file/\j.file<=4
def KJ(a b:JV):Prop:=b.kind=a.kind/\b.file=a.file
def KJ.of{a b}(h:jH b=jH a):KJ a b:=⟨congrArg aP.kind h,congrArg aP.file h⟩
theorem KOk.map{y}(h:KOk y){f}(b:∀ j,KJ j (f j)):∀ j,y.j.map f=S j->(0<=j.kind/\j.kind<=3) /\ -1<=j.file/\j.file<=4:=λj c=>by
 cases d:y.j with
 | none=>simp_all
 | some a =>
  rw[d] at c;cases c;rw[(b a).1,(b a).2];exact h a d
theorem KOk.aA{y}(h:KOk y)(d):KOk (y.aA d):=by
 unfold YV.aA;split<;>exact h
theorem KOk.blank{y}(h:KOk y)(f b):KOk (y.blank f b):=by
 unfold YV.blank
 repeat' split
 all_goals exact h
theorem KOk.snap{y}(h:KOk y)(f):KOk (y.snap f):=by
 unfold YV.snap
 repeat' split
 all_goals first|exact h|exact(h.blank _ _).aA _|exact h.blank _ _
theorem KOk.write{y}(h:KOk y)(fr t):KOk (y.write fr t):=by
 unfold YV.write YV.mark;split
 .exact h.map λj=>.of (yA j _ _).2.1
 .exact h
theorem KOk.wipe{y}(h:KOk y)(fr n):KOk (y.wipe fr n):=by
 unfold YV.wipe YV.mark;split
 .exact h.map λj=>.of (yA j _ _).2.1
 .exact h
def FC{d:aP}(hd:d.kv.fault=0):(0<=d.kind/\d.kind<=3) /\ -1<=d.file/\d.file<=4:=by
 have a:0<=d.root/\d.root<=4/\0<=d.kind/\d.kind<=3 /\ -1<=d.file/\d.file<=4/\0<=d.rate/\d.rate<=1000/\0<=d.burst/\d.burst<=1000:=of_decide_eq_true (KV.qF hd).1;omega
theorem KOk.start{y}(h:KOk y)(d):KOk (y.start d):=by
 unfold YV.start;split
 .next a =>
  split
  .intro j b;cases b
   have hd:d.kv.fault=0:=by
    unfold YV.lu at a;omega
   exact FC hd
  .exact h.aA _
 .exact h
def X5(s j):KJ j (stepJ s j):=.of (uo s j).2
def KE(s j):KJ j (dY s j):=.of (DU s j).2
def KOk.one{y a b}(h:KOk y)(f:y.j=S a)(c:KJ a b):∀ j,S b=S j->(0<=j.kind/\j.kind<=3) /\ -1<=j.file/\j.file<=4:=λj d=>by
 cases d;rw[c.1,c.2];exact h a f
theorem KOk.step{y}(h:KOk y):KOk y.step:=by
 unfold YV.step;split
 .exact h
 .next j b =>
  have a:=X5 y.s j;have d:=KE (stepS y.s j) (stepJ y.s j);have c:KJ j _:=⟨d.1.trans a.1,d.2.trans a.2⟩
  repeat' split
  all_goals first
   | exact h
   | exact h.one b a
   | exact KOk.aA (y:={y with s:=stepS y.s j,j:=S _}) (h.one b a) _
   | exact KOk.aA (y:={y with s:=dQ _ _,j:=S _}) (h.one b c) _
   | exact KOk.aA (y:={y with s:=dQ _ _,l:=((dQ _ _).walk _).1,j:=S ((dY _ _).at 4)}) (h.one b c) _
theorem KOk.over{y}(h:KOk y)(r st):KOk (y.over r st):=by
 unfold YV.over;split
 .exact h.map λj=>⟨rfl,rfl⟩
 .exact h.aA _
theorem KOk.cancel{y}(h:KOk y):KOk y.cancel:=by
 unfold YV.cancel;split
 .exact h.over _ _
 .exact h
theorem KOk.pause{y}(h:KOk y)(a):KOk (y.pause a):=by
 unfold YV.pause;split
 .exact h.map λj=>.of (wL j a).2
 .exact h
theorem KOk.tick{y}(h:KOk y)(n):KOk (y.tick n):=by
 unfold YV.tick;split
 .exact h.map λj=>.of (zZ j n).2
 .exact h
theorem KOk.arm{y}(h:KOk y)(f n):KOk (y.arm f n):=by
 unfold YV.arm
 repeat' split
 all_goals exact h
theorem KOk.pivot{y}(h:KOk y):KOk y.pivot:=by
 unfold YV.pivot;split
 .exact h
 .next j a =>
  have b:=KE y.s j
  repeat' split
  all_goals first|exact h|exact KOk.over (y:={y with s:=dQ y.s j,j:=S _}) (h.one a b) _ _|exact h.one a b
theorem KOk.crash{y:YV}(k)(b:y.iR k=0):KOk (y.crash k):=by
 unfold YV.iR jJ at b;intro j c;have a:(if lZ _ _=true then S _ else O)=S j:=c;split at a
 .cases a;refine FC ?_;split at b
  .exact yw (by assumption)
  .omega
 .cases a
def KOk.stat{y C m}(h:KOk y)(b:YOk y C m):∀ x∈kR y,-1<=x/\x<=1000000000:=by
 unfold kR;split
 .simp_all
 .next j a =>
  have f:=h j a
  have g:0<=j.state/\j.state<=5:=by
   unfold JV.state;have:=(b.set j a).2.2
   omega
  have d:S4.cnt j.x 64<=64:=S4.cnt_le _ _;intro x c;simp at c;omega
namespace S4
structure vO(w:ω)(q n x:Nat):Prop where
 n8:w.cell? ⟨q,8,O⟩=S (.int .i64 (n:Int))
 bit:∀ j,j<64->w.cell? ⟨q,9+j,O⟩=S (.bool (x.testBit j))/\w.frozen? ⟨q,9+j,O⟩=false
def Jl{q n x}(i:Int)(w)(h:vO w q n x) :
  κ prog 233 #[.pointer (S ⟨q,8,O⟩),i] w λe w'=>e=.returned (.bool (iD n i))/\w'=w:=by
 have c:=h.n8;by_cases b:0<=i
 .have a:χ (decide (i<(n:Int))=iD n i):=by unfold χ iD;simp[b]
  go_enter func233,ntmps233;go_wp2;go_ret;exact⟨rU a,rfl⟩
 .have a:χ (false=iD n i):=by unfold χ iD;simp[b]
  go_enter func233,ntmps233;go_wp2;go_ret;exact⟨rU a,rfl⟩
def Jk{q n x}(w)(h:vO w q n x) :
  κ prog 208 #[.pointer (S ⟨q,8,O⟩)] w λe w'=>e=.returned (.int .i64 (cnt x 64:Nat))/\w'=w:=by
 obtain⟨j,d⟩:∃ j,cnt x 64=j:=⟨_,rfl⟩;rw[d];go_enter func208,ntmps208;go_wp2;go_loop [3,4] (λc i=>∃(k a:Nat),k<=64/\i=.int .i64 k/\c=.int .i64 (a:Nat)/\cnt x k=a) (λ_ i=>64-(intOf i).toNat)
 case atStart=>exact⟨0,0,ja7 _,rfl,rfl,rfl⟩
 case round =>
  obtain⟨k,a,u,rfl,rfl,g⟩:=hrel;have r:=cnt_le x k;rw[g] at r;have l:=ah g;by_cases o:k<64
  .obtain⟨c1,_⟩:=h.bit k o;have s:(0:Int)<=(k:Int):=by omega
   have t:(k:Int)<64:=by omega
   have b:χ (cnt x (k+1)=a+if x.testBit k then 1 else 0):=by
    unfold χ;show cnt x k+_=_
    rw[l.out]
   cases f:x.testBit k with
   | true =>
    rw[f] at c1 b;go_wp2;go_round
    case rel=>exact⟨k+1,a+1,by omega,by go_num,by go_num,b⟩
    case measure=>simp[intOf];omega
   | false =>
    rw[f] at c1 b;go_wp2;go_round
    case rel=>exact⟨k+1,a,by omega,by go_num,rfl,b⟩
    case measure=>simp[intOf];omega
  .have m:k=64:=by omega
   subst m;have e  := d.symm.trans l;subst e;go_wp2;go_ret;exact⟨rfl,rfl⟩
def Dn{q n x}(c)(M:jP x c)(f:Int)(w)(h:vO w q n x)(L:jY n x) :
  κ prog 205 #[.pointer (S ⟨q,8,O⟩),f] w λe w'=>e=.returned (.tuple #[nT c f,.bool (oW c)])/\w'=w:=by
 have D:=ah h;have s:=ah M;have H:=ah L;have V:=h.n8;have X:=L.n1;obtain⟨F,J⟩:∃ F,nT c f=F:=⟨_,rfl⟩;obtain⟨u,I⟩:∃ u,oW c=u:=⟨_,rfl⟩;rw[J,I];have t:=ah J;have y:=ah I;go_enter func205,ntmps205;go_wp2_with fail;go_loop [6] (λi=>∃ v:Int,i=.int .i64 v/\f<=v/\(v=f\/(0<=f/\v<=(n:Int)))/\∀ j:Nat,f<=(j:Int)->(j:Int)<v->x.testBit j=false) (λi=>64-(intOf i).toNat)
 case atStart=>exact⟨f,rfl,jby _,.inl rfl,λj d o=>by omega⟩
 case round =>
  obtain⟨v,rfl,P,W,B⟩:=hrel;have b:=ah B;have g:=Jl v w D
  cases r:iD n v with
  | true =>
   rw[r] at g;obtain⟨k,rfl,N⟩:=CO r;obtain⟨c1,_⟩:=D.bit k (by omega);have R:(0:Int)<=(k:Int):=by omega
   have T:(k:Int)<64:=by omega
   cases a:x.testBit k with
   | true =>
      rw[a] at c1;obtain⟨C,A⟩:=Uc s (by omega) a P (λj d o=>b j d (by omega));have l  := t.symm.trans C;have m  := y.symm.trans A;subst l m;go_wp2_with fail;refine cSt g ?_;go_wp2;go_ret2;exact⟨rfl,rfl⟩
   | false =>
      rw[a] at c1
      have z:χ (∀ j:Nat,f<=(j:Int)->(j:Int)<(k:Int)+1->x.testBit j=false):=λj d o=>by
       by_cases e:j=k
       .subst e;exact a
       .exact b j d (by omega)
      go_wp2_with fail;refine cSt g ?_;go_wp2;go_round
      case rel=>exact⟨(k:Int)+1,by go_num,by omega,by omega,z⟩
      case measure=>simp[intOf];omega
  | false =>
   rw[r] at g
   have K:χ (nT c f=((c.headD 0:Nat):Int)):=by
      refine Ue s ?_;by_cases Q:f<0
      .exact .inl Q
      .refine .inr (λj d o=>?_);by_cases E:(j:Int)<v
       .exact b j d E
       .have:n<=j:=by
            unfold iD at *
            simp at *
            have:=r (by omega)
            omega
        exact H.hi j this
   go_wp2_with fail;refine cSt g ?_;go_wp2_with fail;go_loop [7] (λi=>∃ k:Nat,k<=n/\i=.int .i64 k/\∀ j:Nat,j<k->x.testBit j=false) (λi=>64-(intOf i).toNat)
   case atStart=>exact⟨0,ja7 _,rfl,λj E=>by omega⟩
   case round =>
      obtain⟨k,N,rfl,B⟩:=hrel;have b:=ah B;by_cases U:k<n
      .obtain⟨c1,_⟩:=D.bit k (by omega);have R:(0:Int)<=(k:Int):=by omega
       have T:(k:Int)<64:=by omega
       have g1  := decide_eq_true (by omega)
       cases a:x.testBit k with
       | true =>
        rw[a] at c1;obtain⟨C,A⟩:=QV s (by omega) a b;have l  := t.symm.trans (K.trans (by rw[C]));have m  := y.symm.trans A;subst l m;go_wp2;go_ret2;exact⟨rfl,rfl⟩
       | false =>
        rw[a] at c1
        have z:χ (∀ j:Nat,j<k+1->x.testBit j=false):=λj o=>by
            by_cases e:j=k
            .subst e;exact a
            .exact b j (by omega)
        go_wp2;go_round
        case rel=>exact⟨k+1,by omega,by go_num,z⟩
        case measure=>simp[intOf];omega
      .have g1  := decide_eq_false (by omega)
       have G  := Uh s (λj E=>by
        by_cases q:j<n
        .exact b j (by omega)
        .exact H.hi j (by omega))
       have l:F=0:=t.symm.trans (K.trans (by rw[G];rfl));have m:u=false:=y.symm.trans (by rw[G];rfl);subst l m;go_wp2;go_ret2;exact⟨rfl,rfl⟩
def Dp{q n x}(i:Int)(b:Bool)(w)(h:vO w q n x)(r:n<=64) :
  κ prog 182 #[.pointer (S ⟨q,8,O⟩),i,b] w λe w'=>e=.returned (.bool (gI n x i b))/\w'=if gI n x i b=true then w.setCell ⟨q,9+i.toNat,O⟩ b else w:=by
 have d:=Jl i w h
 cases c:iD n i with
 | false =>
  rw[c] at d;have j:gI n x i b=false:=by unfold gI;simp[c]
  rw[j,if_neg (by simp)];go_enter func182,ntmps182;go_wp2_with fail;refine cSt d ?_;go_wp2;go_ret;exact⟨rfl,rfl⟩
 | true =>
  obtain⟨k,rfl,u⟩:=CO c;rw[c] at d;obtain⟨c1,t⟩:=h.bit k (by omega);have m:(0:Int)<=(k:Int):=by omega
  have s:(k:Int)<64:=by omega
  have g:gI n x (k:Int) b=(x.testBit k != b):=by unfold gI hasB;rw[c];simp
  generalize o:x.testBit k=a at *
  cases f:(a != b) with
  | false =>
   have l:(a==b)=true:=by revert f;cases a<;>cases b<;>simp
   rw[(g.trans f),if_neg (by simp)];go_enter func182,ntmps182;go_wp2_with fail;refine cSt d ?_;go_wp2;go_ret;exact⟨rfl,rfl⟩
  | true =>
   have l:(a==b)=false:=by revert f;cases a<;>cases b<;>simp
   rw[(g.trans f),if_pos rfl,show((k:Int)).toNat=k from rfl];go_enter func182,ntmps182;go_wp2_with fail;refine cSt d ?_;go_wp2;go_ret;exact⟨rfl,rfl⟩
def jW(t:TypeId)(a:Array υ)(w:ω)(q:Nat)(r b l:Int):Prop:=w.heap[q]?=S (.cells (a.setIfInBounds 77 (.int .i64 l)) t (0,0))/\a.size=78/\a[75]?=S (r:υ)/\a[76]?=S (b:υ)
def jW.cells{t c w q r b l}(h:jW t c w q r b l) :
  w.cell? ⟨q,75,O⟩=S (r:υ)/\w.cell? ⟨q,76,O⟩=S (b:υ)/\w.cell? ⟨q,77,O⟩=S (l:υ)/\w.frozen? ⟨q,77,O⟩=false:=by
 obtain⟨a,d,g,f⟩:=h;refine⟨?_,?_,?_,?_⟩
 .simp[World.cell?,a,g]
 .simp[World.cell?,a,f]
 .simp[World.cell?,a,d]
 .simp[World.frozen?,a]
def jW.set{t a w q r b l}(h:jW t a w q r b l)(c:Int):jW t a (w.setCell ⟨q,77,O⟩ c) q r b c:=by
 obtain⟨f,d⟩:=h;refine⟨?_,d⟩;rw[heap_setCell_same w q 77 _ _ _ f];simp
theorem jW.drew{t a w q r b l}(h:jW t a w q r b l):jW t a w.drew q r b l:=h
def uF.set{a w q u}(h:Kept (λk=>k=q) a w):Kept (λk=>k=q) a (w.setCell ⟨q,77,O⟩ u):=Kept.setCell  h  (.inl rfl) _
def Vf{t d q r b l}(n:Nat)(w)(h:jW t d w q r b l)(J:n<=100000)(o:0<=r/\r<=1000)(y:0<=l/\l<=b)(D:b<=1000) :
  κ prog 135 #[.pointer (S ⟨q,75,O⟩),(n:Int)] w λe w'=>(∃ v,e=.returned v)/\jW t d w' q r b (gU r b l n)/\Kept (λk=>k=q) w w':=by
 have x:gU r b l ((0:Nat):Int)=l:=by unfold gU;simp;omega
 have A:χ (jW t d w q r b (gU r b l ((0:Nat):Int))):=by rw[x];exact h
 go_enter func135,ntmps135;go_wp2_with fail;go_loopw [4] (λi wr=>∃ k:Nat,k<=n/\i=.int .i64 k/\jW t d wr q r b (gU r b l k)/\Kept (λk=>k=q) w wr) (λi _=>n-(intOf i).toNat)
 case atStart=>exact⟨0,ja7 _,rfl,A,Kept.refl _ _⟩
 case round =>
  obtain⟨k,F,rfl,s,B⟩:=hrel;have c:χ (jW t d wr q r b (gU r b l k)):=s;have a:χ (Kept (λk=>k=q) w wr):=B;have I:=D8 (r:=r) (b:=b) (l:=l) (n:=(k:Int)) o.1 y.1 (by omega) (by omega);have g:χ ((k:Int)=n\/b<=gU r b l k\/r<=0->gU r b l k=gU r b l n):=YK o.1 (by omega);have z:χ (gU r b l k<b->(if gU r b l k+r<b then gU r b l k+r else b)=gU r b l ((k:Int)+1)):=YL;obtain⟨H,c1,c2,E⟩:=s.cells;generalize K:gU r b l k=v at *
  by_cases C:k<n
  .by_cases f:v<b
   .have g2  := decide_eq_true f;by_cases m:0<r
    .have g3  := decide_eq_true m;have G:IntKind.i64.wrap (v+r)=v+r:=ja9 _ (by omega);have u:=ah (z f);by_cases j:v+r<b
     .rw[if_pos j] at *
      as_aux_lemma =>
       go_wp2_with fail;go_region;go_wp2_with fail;go_region;go_wp2;go_roundw
       case rel=>exact⟨k+1,by omega,by go_num,by rw[show((k+1:Nat):Int)=(k:Int)+1 by omega,<- u.out];first|exact(c.set _)|exact(c.drew.set _).drew|(rw[show min b (v+r)=v+r by omega];exact(c.drew.set _).drew),by first|exact uF.set a|exact(uF.set a).drew|exact(uF.set a.drew).drew⟩
       case measure=>simp[intOf];omega
     .rw[if_neg j] at *
      as_aux_lemma =>
       go_wp2_with fail;go_region;go_wp2_with fail;go_region;go_wp2;go_roundw
       case rel=>exact⟨k+1,by omega,by go_num,by rw[show((k+1:Nat):Int)=(k:Int)+1 by omega,<- u.out];first|exact(c.set _)|exact(c.drew.set _).drew|(rw[show min b (v+r)=b by omega];exact(c.drew.set _).drew),by first|exact uF.set a|exact(uF.set a).drew|exact(uF.set a.drew).drew⟩
       case measure=>simp[intOf];omega
    .have g3  := decide_eq_false m
     as_aux_lemma =>
      go_wp2_with fail;go_region;go_wp2;go_end0
      exact⟨⟨_,rfl⟩,by rw[<- (g.out (.inr (.inr (by omega))))];exact c,by first|exact a|exact a.drew⟩
   .have g2  := decide_eq_false f
    as_aux_lemma =>
     go_wp2_with fail;go_region;go_wp2;go_end0
     exact⟨⟨_,rfl⟩,by rw[<- (g.out (.inr (.inl (by omega))))];exact c,by first|exact a|exact a.drew⟩
  .as_aux_lemma =>
    go_wp2_with fail;go_region;go_wp2;go_end0
    exact⟨⟨_,rfl⟩,by rw[<- (g.out (.inl (by omega)))];exact c,by first|exact a|exact a.drew⟩
def Jj{t c p r b l}(n:Int)(w)(h:jW t c w p r b l)(f:0<=l/\l<=1000) :
  κ prog 206 #[.pointer (some ⟨p,75,O⟩),n] w λe w'=>e=.returned (.bool (inB n l))/\jW t c w' p r b (jU l n)/\Kept (λk=>k=p) w w':=by
 have d:χ (jW t c w p r b l):=h;obtain⟨j,c1,c2,i⟩:=h.cells;by_cases m:n<0
 .have a:inB n l=false:=by unfold inB;simp;omega
  have HV:χ (jU l n=l):=by unfold χ jU;simp[a]
  rw[a];go_enter func206,ntmps206;go_wp2;go_ret;exact⟨rfl,by rw[HV.out];exact d,Kept.refl _ w⟩
 .by_cases g:l<n
  .have a:inB n l=false:=by unfold inB;simp;omega
   have HV:χ (jU l n=l):=by unfold χ jU;simp[a]
   rw[a];go_enter func206,ntmps206;go_wp2;go_ret;exact⟨rfl,by rw[HV.out];exact d,Kept.refl _ w⟩
  .have a:inB n l=true:=by unfold inB;simp;omega
   have HV:χ (jU l n=l-n):=by unfold χ jU;simp[a]
   have o:IntKind.i64.wrap (l-n)=l-n:=ja9 _ (by omega);rw[a];go_enter func206,ntmps206;go_wp2;go_ret;exact⟨rfl,by rw[HV.out];exact d.set _,Kept.setCell (S:=λk=>k=p) (Kept.refl _ w)  (.inl rfl) _⟩
end S4
def jR(a:List (Int × Int))(e:Int × Int)(j:Nat):Bool:=(a.take j).any λx=>decide (e.1=2/\x=e)
def Pz(a e j)(b:j<a.length):jR a e (j+1)=(jR a e j||decide (e.1=2/\a.getD j (0,0)=e)):=by
 unfold jR
 have:a.take (j+1)=a.take j++[a.getD j (0,0)]:=by
  simp_all
 rw[this];simp
def Py(a e):jR a e a.length=decide (e.1=2/\e∈a):=by
 unfold jR;rw[jaG];constructor
 .simp_all
 .simp_all
def UU{w:ω}{B a e size n v b}(h:w.ownsRow a e size v n b)(i:B<=a):w.ownsRow B e size v n b:=by
 refine⟨h.1,?_⟩;rcases h.2 with f|⟨g2,g,c,d,j,r⟩
 .exact .inl f
 .exact .inr ⟨g2,g,c,d,by omega,r⟩
structure pF(B:Nat)(w:ω)(v:υ)(acc:List (Int × Int)):Prop where
 own:w.ownsRow B 168 2 v acc.length (bD acc)
def pF.below{B w w' v a}(h:pF B w v a)(b:β w w w'):pF B w' v a :=
 ⟨uZ h.own (λq e=>b.block q (h.own.lt q e).2)⟩
def pF.ents{B w v b}(h:pF B w v b):∃ a cap,v=.slice a b.length cap/\mO w a b.length b:=by
 have c:=h.own;rcases c.2 with⟨f,j⟩|⟨g,i,k,d,_⟩
 .have e  := List.length_eq_zero_iff.1 j;subst e;exact⟨O,0,f,A8 _⟩
 .rw[d] at c;exact⟨_,i,d,vX c _ (by rw[jaf (by rw[qV];omega)]) (ja1 _) rfl⟩
def Ym(c p b la len cap a w)(d:HV.ok ⟨c,p,b⟩=false) :
  κ prog 155 #[.agg #[c,p,b],.slice la len cap] w λe w' =>
   ∃ lt f,e=.returned (.tuple #[.slice lt (dZ ⟨c,p,b⟩ a).length f,gQ ⟨c,p,b⟩ a])/\mV w w' lt f (dZ ⟨c,p,b⟩ a)/\β w w w':=by
 have i:lT ⟨c,p,b⟩ a=false:=by unfold lT;rw[d];rfl
 obtain⟨j,l⟩:=zX i;rw[j,l];have g:HV.fault _=1:=if_neg (by rw[d];decide);have m:χ _:=λW=>by have:=qB c p b W;rw[g] at *;exact this
 go_enter func155,ntmps155;go_wp2_with fail;refine cEq (m _) λn k=>?_
 go_wp2;go_ret2;exact⟨O,0,rfl,qK _ _,((ja0 _ _).alloc (ja1 _) _).trans (k.mono (by simp))⟩
def Yo(c p b la len cap a w)(n:Texts w la len a)(d:HV.ok ⟨c,p,b⟩=true)(j:len≠aB c.toNat) :
  κ prog 155 #[.agg #[c,p,b],.slice la len cap] w λe w' =>
   ∃ lt g,e=.returned (.tuple #[.slice lt (dZ ⟨c,p,b⟩ a).length g,gQ ⟨c,p,b⟩ a])/\mV w w' lt g (dZ ⟨c,p,b⟩ a)/\β w w w':=by
 have k:lT ⟨c,p,b⟩ a=false:=by unfold lT;rw[d,n.1,decide_eq_false j];rfl
 obtain⟨l,o⟩:=zX k;rw[l,o];have i:HV.fault _=0:=if_pos d;have m:χ _:=λW=>by have:=qB c p b W;rw[i] at *;exact this
 obtain⟨g1,g2,_⟩:=HV.dS d;simp only at *
 have q:χ _:=λW=>by have:=qG c.toNat W (by omega);rw[show((c.toNat:Nat):Int)=c by omega] at *;exact this
 have t:((len:Int) != (aB c.toNat:Int))=true:=by simp;omega
 generalize aB c.toNat=u at *
 go_enter func155,ntmps155;go_wp2_with fail;refine cEq (m _) λs f=>?_
 have r:=rF f 0 _ rfl;go_wp2_with (go_at_call 107;refine cSt (q _) ?_)
 go_ret2;exact⟨O,0,rfl,qK _ _,((ja0 _ _).alloc (ja1 _) _).trans (f.mono (by simp))⟩
def XR(b a e):Value.bool b=.bool (b && !jR a e 0):=by cases b<;>rfl
def DK{a x y}(h:y=x):Value.bool (a && !x)=.bool (a && !y):=by rw[h]
def P8{a y}(h:y=true):Value.bool false=.bool (a && !y):=by simp_all
def XY{h a y0 y1}(b:(a.length:Int)=h.c):stepT h a (y0,y1)=if y0=0/\y1=0 then S a else none:=by
 unfold stepT;simp_all
def X3{h a y0 y1}(b:(a.length:Int)≠h.c):stepT h a (y0,y1)=if (bP y0 y1 h.p && !jR a (y0,y1) a.length)=true then S (a++[(y0,y1)]) else none:=by
 unfold stepT;rw[if_neg b,Py];by_cases d:bP y0 y1 h.p=true/\¬(y0=2/\(y0,y1)∈a)
 .simp_all
 .rw[if_neg d,if_neg];intro f;simp_all
def Yn(c p b la len cap g w)(hT:Texts w la len g)(bv:len<=20)(hk:HV.ok ⟨c,p,b⟩=true)(hr:len=aB c.toNat) :
    κ prog 155 #[.agg #[c,p,b],.slice la len cap] w λe w' =>
      ∃ lt cp,e=.returned (.tuple #[.slice lt (dZ ⟨c,p,b⟩ g).length cp,gQ ⟨c,p,b⟩ g])/\mV w w' lt cp (dZ ⟨c,p,b⟩ g)/\β w w w':=by
  have hi:lT ⟨c,p,b⟩ g=true:=by unfold lT;rw[hk,hT.1,decide_eq_true hr];rfl
  have ef:HV.fault ⟨c,p,b⟩=0:=if_pos hk;have HC:χ (∀ W:ω,κ prog 33 #[.agg #[c,p,b]] W λe w'=>e=.returned (0:Int)/\β W W w'):=λW=>by have:=qB c p b W;rw[ef] at this;exact this
  obtain⟨g1,g2,_⟩:=HV.dS hk;simp only at g1 g2;have HR:χ (∀ W:ω,κ prog 107 #[c] W λe w'=>e=.returned (len:Int)/\w'=W):=λW=>by have:=qG c.toNat W (by omega);rw[show((c.toNat:Nat):Int)=c by omega,<- hr] at this;exact this
  have HT:=ah hT;have HI:=ah hi;have aD:χ (g.length=len):=hT.1
  have ab:χ (∀(j:Nat) (f:Int),f≠0->j<=len->bU ⟨c,p,b⟩ g j=([],f)->dZ ⟨c,p,b⟩ g=[]/\gQ ⟨c,p,b⟩ g=f):=λj f hf hj e=>by
    obtain⟨x,t⟩:=zY HI.out;have e3:=La hf e g.length (by rw[aD.out];exact hj);rw[x,t,e3];exact⟨rfl,rfl⟩
  obtain⟨i0,bq,b9,bs,bm⟩:=info_parts uQ;clear hk hi ef hT hr;go_enter func155,ntmps155;go_wp2_with fail;refine(HC.out _).mono ?_;rintro e w1 ⟨rfl,al⟩;have x0:=rF al 0 _ rfl;obtain⟨d,a9⟩:∃ d,d=w.alloc (.cells #[c,p,b] 67):=⟨_,rfl⟩
  have HF:χ (∀ W:ω,β d d W->W.cell? ⟨w,0,O⟩=S (c:υ)/\W.cell? ⟨w,1,O⟩=S (p:υ)/\Texts W la len g/\β w w W):=λW D=>by
    rw[a9] at D;have X:β w w W:=((ja0 _ _).alloc (ja1 _) _).trans (D.mono (by simp));exact⟨rF D 0 _ rfl,rF D 1 _ rfl,HT.out.below X,X⟩
  have bo:χ (β d d w1):=by unfold χ;rw[a9];exact al
  have bf:χ (w.heap.size<=d):=by unfold χ;rw[a9];simp
  clear a9 al HT;go_wp2_with (go_at_call 107;refine(HR.out _).mono ?_;rintro e w' ⟨rfl,hw⟩;have b8:=hw.symm;subst b8;clear hw)
  clear x0 HC HR;go_loopw [7,8] (λv i wr=>∃ j:Nat,j<=len/\i=.int .i64 j/\(bU ⟨c,p,b⟩ g j).2=0/\(((bU ⟨c,p,b⟩ g j).1.length:Nat):Int)<=c/\pF d.heap.size wr v (bU ⟨c,p,b⟩ g j).1/\β d d wr) (λ_ i _=>len-(intOf i).toNat)
  case atStart=>exact⟨0,ja7 _,rfl,rfl,(by show(0:Int)<=c;omega),⟨jaa _ _ _ _⟩,bo.out⟩
  case round =>
    obtain⟨j,hj,rfl,M,hl,z,A⟩:=hrel;obtain⟨Z,d1,dT,Q⟩:=HF.out _ A;by_cases aq:j<len
    . obtain⟨bb,ar,rfl,L,ad⟩:=dT.2 j aq;unfold maxLen at ad;have j0:(0:Int)<=(j:Int):=by omega
      have R:(j:Int)<(len:Int):=by omega
      have bd:=ah A;by_cases H:(g.getD j ByteArray.empty).size=16
      . have HG:χ (∀ a2,fQ ⟨c,p,b⟩ (bU ⟨c,p,b⟩ g j).1 (g.getD j ByteArray.empty) 8=S a2->bU ⟨c,p,b⟩ g (j+1)=(a2,0)):=λa2 X=>zV M H X
        have HN:χ (fQ ⟨c,p,b⟩ (bU ⟨c,p,b⟩ g j).1 (g.getD j ByteArray.empty) 8=O->dZ ⟨c,p,b⟩ g=[]/\gQ ⟨c,p,b⟩ g=2):=λX=>ab.out (j+1) 2 (by decide) (by omega) (zU M H X)
        have HO:=ah z
        have aR:χ (∀ W:ω,β d d W->W.cell? ⟨bb,ar+j,O⟩=S (.string (g.getD j ByteArray.empty))):=λW D=>by
          obtain⟨b2,o2,t,be,_⟩:=(HF.out W D).2.2.1.2 j aq;cases t;exact be
        clear M z A Z d1 dT;generalize (bU ⟨c,p,b⟩ g j).1=B at HG HN HO hl;generalize g.getD j ByteArray.empty=s at HG HN aR L ad H;have av:((s.size:Int) != 16)=false:=by simp;omega
        have HS:=ah H;clear H;go_wp2;clear L av;go_loopw [7,9] (λv k wr=>∃(q:Nat) (a:List (Int × Int)),q<=8/\k=.int .i64 q/\fQ ⟨c,p,b⟩ B s q=S a/\(a.length:Int)<=c/\pF d.heap.size wr v a/\β d d wr) (λ_ k _=>8-(intOf k).toNat)
        case atStart=>exact⟨0,B,ja7 _,rfl,rfl,hl,HO.out,bd.out⟩
        case round =>
          obtain⟨q,a,hq,rfl,a8,ap,z,A⟩:=hrel;obtain⟨n,ba⟩:∃ n,n=wr:=⟨wr,rfl⟩;subst ba;have bn:d.heap.size<=n:=A.size;by_cases bw:q<8
          . have b4:=zC a8;have b7:2*q<s.size:=by rw[HS.out];omega
            have bi:2*q+1<s.size:=by rw[HS.out];omega
            have x0:=oP s (2*q) b7;have x1:=oP s (2*q+1) bi
            have I:χ (fQ ⟨c,p,b⟩ B s (q+1)=stepT ⟨c,p,b⟩ a (bAt s (2*q),bAt s (2*q+1))):=by
              unfold χ;rw[b4];unfold jZ;rw[jbv q 2]
            obtain⟨l0,u0⟩:=jA s (2*q);obtain⟨l1,u1⟩:=jA s (2*q+1);generalize bAt s (2*q)=y0 at x0 I l0 u0;generalize bAt s (2*q+1)=y1 at x1 I l1 u1;have j2:(0:Int)<=2*(q:Int):=by omega
            have j3:2*(q:Int)<(s.size:Int):=by omega
            have j4:(2*(q:Int)).toNat=2*q:=by omega
            have j5:(0:Int)<=2*(q:Int)+1:=by omega
            have j6:2*(q:Int)+1<(s.size:Int):=by omega
            have j7:(2*(q:Int)+1).toNat=2*q+1:=by omega
            have L:=aR.out n A;have bl:(n.alloc (.cells #[(0:Int),(0:Int)] 168)).cell? ⟨bb,ar+j,O⟩=S (s:υ):=by rw[jas _ _ _ (ja2 n _ L)];exact L
            have B1:β d d (n.alloc (.cells #[y0,y1] 168)).drew:=(A.alloc bn _).drew;obtain⟨Z,d1,_,Q⟩:=HF.out _ B1;obtain⟨ga,ag,hv,J⟩:=z.ents;subst hv;have a7:=ah z;have a5:=ah B1;have a3:=ah Q;clear z A a8 b4 Q;by_cases Y:(a.length:Int)=c
            . obtain⟨f1,f2⟩:=tu Y;have aa:=XY (h:=⟨c,p,b⟩) (y0:=y0) (y1:=y1) Y;by_cases hz:y0=0/\y1=0
              . have K:χ (fQ ⟨c,p,b⟩ B s (q+1)=S a):=by unfold χ;rw[I.out,aa,if_pos hz]
                obtain⟨z0,z1⟩:=hz;subst z0 z1;clear Y aa I J;go_wp2;go_region;go_wp2;go_roundw
                case rel =>
                  have fin:∃(N:Nat) (a1:List (Int × Int)),N<=8/\Value.int .i64 ((q:Int)+1)=.int .i64 N/\fQ ⟨c,p,b⟩ B s N=S a1/\(a1.length:Int)<=c/\pF d.heap.size (n.alloc (.cells #[(0:Int),(0:Int)] 168)).drew (.slice ga a.length ag) a1/\β d d (n.alloc (.cells #[(0:Int),(0:Int)] 168)).drew :=
                    ⟨q+1,a,by omega,by go_num,K.out,ap,a7.out.below (((ja0 _ _).alloc (ja1 _) _).drew),a5.out⟩
                  first|exact fin|((repeat apply Exists.intro);exact⟨fin,rfl⟩)
                case measure=>simp[intOf];omega
              . have K:χ (fQ ⟨c,p,b⟩ B s 8=O):=wU (show fQ ⟨c,p,b⟩ B s (q+1)=O by rw[I.out,aa,if_neg hz]) 8 (by omega);have gp:decide (0<y0+y1)=true:=decide_eq_true (by omega);obtain⟨x,t⟩:=HN.out K.out;have C:=ah x;have P:=ah t;clear Y aa I J hz x t;go_wp2;go_region;go_wp2;go_ret2;exact⟨O,0,by rw[C.out,P.out];rfl,by rw[C.out];exact qK _ _,a3.out⟩
            . obtain⟨f1,f2⟩:=qE Y;have aL:=X3 (h:=⟨c,p,b⟩) (y0:=y0) (y1:=y1) Y;have a4:χ (fQ ⟨c,p,b⟩ B s (q+1)=if (bP y0 y1 p && !jR a (y0,y1) a.length)=true then S (a++[(y0,y1)]) else O):=by unfold χ;rw[I.out,aL]
              have hE:=FU y0 y1 p (n.alloc (.cells #[y0,y1] 168)).drew;generalize bP y0 y1 p=F at a4 hE;have HE:=ah hE;have aM:=ah J;clear aL I hE J;go_wp2;go_region;go_wp2_with fail;refine HE.out.mono ?_;rintro e o ⟨rfl,a0⟩;have aw:χ (β d d o):=a5.out.trans (a0.mono a5.out.size);have an:χ (β n n o):=(((ja0 _ _).alloc (ja1 _) _).drew).trans (a0.mono (by simp))
              have b0:o.cell? ⟨n,0,O⟩=S (y0:υ):=by
                rw[a0.cell (by simp)];show(n.alloc _).cell? _=_
                rw[cell_of_row _ _ _ _ _ _ (heap_alloc_new n _)];rfl
              have b1:o.cell? ⟨n,1,O⟩=S (y1:υ):=by
                rw[a0.cell (by simp)];show(n.alloc _).cell? _=_
                rw[cell_of_row _ _ _ _ _ _ (heap_alloc_new n _)];rfl
              have bk:=ah (aM.out.below an.out);have bp:χ (∀ W:ω,β o o W->W.cell? ⟨n,0,O⟩=S (y0:υ)/\W.cell? ⟨n,1,O⟩=S (y1:υ)):=λW D=>⟨by rw[D.cell (ja2 o _ b0)];exact b0,by rw[D.cell (ja2 o _ b1)];exact b1⟩
              clear a0 HE aM Z d1 L bl;go_wp2;go_loopw [11,12] (λokv m wx=>∃ l:Nat,l<=a.length/\m=.int .i64 l/\okv=.bool (F && !jR a (y0,y1) l)/\β o o wx) (λ_ m _=>a.length-(intOf m).toNat)
              case atStart=>exact⟨0,ja7 _,rfl,XR _ _ _,ja0 _ _⟩
              case round =>
                obtain⟨l,bE,rfl,rfl,E⟩:=hrel;obtain⟨c0,c1⟩:=bp.out _ E;have bA:a.length<=32:=by omega
                by_cases hm:l<a.length
                . obtain⟨b3,o3,e3,h1,h2⟩:=bk.out.2 l hm;subst e3;rw[<- E.cell (ja2 o _ h1)] at h1;rw[<- E.cell (ja2 o _ h2)] at h2;have U:=Pz a (y0,y1) l hm;have m0:(0:Int)<=(l:Int):=by omega
                  have m1:(l:Int)<(a.length:Int):=by omega
                  have ac:=ah E;clear E;by_cases hy:y0=2
                  . subst hy;by_cases V:a.getD l (0,0)=(2,y1)
                    . have G:jR a (2,y1) (l+1)=true:=by rw[U,decide_eq_true ⟨rfl,V⟩,Bool.or_true]
                      rw[V] at h1 h2;have T:=ah G;clear U G V;go_wp2;go_quiet (fail)
                      go_wp2;go_roundw
                      case rel =>
                        have fin:∃ y:Nat,y<=a.length/\Value.int .i64 ((l:Int)+1)=.int .i64 y/\Value.bool false=.bool (F && !jR a (2,y1) y)/\β o o (wr.drewN nq):=⟨l+1,by omega,by go_num,P8 T.out,below_drewN ac.out _⟩
                        first|exact fin|((repeat apply Exists.intro);exact⟨fin,rfl⟩)
                      case measure=>simp[intOf];omega
                    . have G:jR a (2,y1) (l+1)=jR a (2,y1) l:=by rw[U,decide_eq_false (λe=>V e.2),jbB]
                      have T:=ah G
                      have a6:(a.getD l (0,0)).1≠2\/(a.getD l (0,0)).2≠y1:=by
                        by_cases x:(a.getD l (0,0)).1=2
                        . exact .inr (λt=>V (Prod.ext x t))
                        . exact .inl x
                      clear U G V;generalize (a.getD l (0,0)).1=xk at h1 a6;generalize (a.getD l (0,0)).2=xp at h2 a6;by_cases ae:xk=2
                      . have ao:xp≠y1:=by omega
                        obtain⟨t1,t2⟩:=qE ao;subst ae;clear a6 ao;go_wp2;go_quiet (fail)
                        go_wp2;go_roundw
                        case rel =>
                          have fin:∃ y:Nat,y<=a.length/\Value.int .i64 ((l:Int)+1)=.int .i64 y/\Value.bool (F && !jR a (2,y1) l)=.bool (F && !jR a (2,y1) y)/\β o o (wr.drewN nq):=⟨l+1,by omega,by go_num,DK T.out,below_drewN ac.out _⟩
                          first|exact fin|((repeat apply Exists.intro);exact⟨fin,rfl⟩)
                        case measure=>simp[intOf];omega
                      . obtain⟨t1,t2⟩:=qE ae;clear a6 ae;go_wp2;go_quiet (fail)
                        go_wp2;go_roundw
                        case rel =>
                          have fin:∃ y:Nat,y<=a.length/\Value.int .i64 ((l:Int)+1)=.int .i64 y/\Value.bool (F && !jR a (2,y1) l)=.bool (F && !jR a (2,y1) y)/\β o o (wr.drewN nq):=⟨l+1,by omega,by go_num,DK T.out,below_drewN ac.out _⟩
                          first|exact fin|((repeat apply Exists.intro);exact⟨fin,rfl⟩)
                        case measure=>simp[intOf];omega
                  . have G:jR a (y0,y1) (l+1)=jR a (y0,y1) l:=by rw[U,decide_eq_false (λe=>hy e.1),jbB]
                    have T:=ah G;obtain⟨t1,t2⟩:=qE hy;clear U G hy;go_wp2;go_quiet (fail)
                    go_wp2;go_roundw
                    case rel =>
                      have fin:∃ y:Nat,y<=a.length/\Value.int .i64 ((l:Int)+1)=.int .i64 y/\Value.bool (F && !jR a (y0,y1) l)=.bool (F && !jR a (y0,y1) y)/\β o o (wr.drewN nq):=⟨l+1,by omega,by go_num,DK T.out,below_drewN ac.out _⟩
                      first|exact fin|((repeat apply Exists.intro);exact⟨fin,rfl⟩)
                    case measure=>simp[intOf];omega
                . have bh:l=a.length:=by omega
                  subst bh;have ai:χ (β d d wr):=aw.out.trans (E.mono aw.out.size);have aE:=ah (((a7.out.below an.out).below E).own)
                  cases hX:(F && !jR a (y0,y1) a.length) with
                  | false =>
                    have K:χ (fQ ⟨c,p,b⟩ B s 8=O):=wU (show fQ ⟨c,p,b⟩ B s (q+1)=O by rw[a4.out,hX,if_neg (by decide)]) 8 (by omega);obtain⟨x,t⟩:=HN.out K.out;have C:=ah x;have P:=ah t;clear x t a4 E;go_wp2;go_ret2;exact⟨O,0,by rw[C.out,P.out];rfl,by rw[C.out];exact qK _ _,(HF.out _ ai.out).2.2.2⟩
                  | true =>
                    have K:χ (fQ ⟨c,p,b⟩ B s (q+1)=S (a++[(y0,y1)])):=by unfold χ;rw[a4.out,hX,if_pos rfl]
                    have bu:χ ((wr.alloc (.cells #[y0,y1] 168)).ownsRow d.heap.size 168 2 (.slice ga a.length ag) a.length (bD a)):=aE.out.alloc _;have az:χ (d.heap.size<=wr):=ai.out.size;have ax:χ (d.heap.size<=(wr.alloc (.cells #[y0,y1] 168)).heap.size):=by unfold χ;have:=az.out;simp;omega
                    have bt:χ (bD (a++[(y0,y1)])=bD a++[.int .i64 y0,.int .i64 y1]):=by unfold χ;simp[bD]
                    clear a4 E;go_wp2_with (at_builtin;go_loud (refine wpList_append_lies _ (by rfl) _ _ 144 (by rfl) d.heap.size 168 i0 (.agg #[(0:Int),(0:Int)]) 2 16 underlying144 bq b9 bs bm rfl (by decide) (.slice ga a.length ag) a.length (bD a) (by rfl) bu.out ⟨wr,0,O⟩ 1 1 [y0,y1] (by rfl) (by rfl) (vH _ _ _ _) (λu hu=>by simp at hu;rcases hu with rfl|rfl<;>rfl) (by decide) (by unfold maxLen;omega) (by omega) ax (wr.heap.size+1) (by simp) ?_;intro g3 b5 w3 br bj bL bB))
                    go_roundw
                    case rel =>
                      have fin:∃(N:Nat) (a1:List (Int × Int)),N<=8/\Value.int .i64 ((q:Int)+1)=.int .i64 N/\fQ ⟨c,p,b⟩ B s N=S a1/\(a1.length:Int)<=c/\pF d.heap.size w3 (.slice (S ⟨g3,0,O⟩) (a.length+1) b5) a1/\β d d w3:=by
                        refine⟨q+1,a++[(y0,y1)],by omega,by go_num,K,?_,⟨?_⟩,(ai.alloc az _).grown bj ax (λr e=>(aE.lt r e).1)⟩
                        . rw[jah];simp;omega
                        . rw[bt.out,jah];exact br
                      first|exact fin|((repeat apply Exists.intro);exact⟨fin,rfl⟩)
                    case measure=>simp[intOf];omega
          . have b6:q=8:=by omega
            subst b6;have hg:=HG a a8;have af:=ah hg;have a7:=ah z;have a5:=ah A;clear hg a8 z A;go_wp2;go_roundw
            case rel =>
              have fin:∃ R:Nat,R<=len/\Value.int .i64 ((j:Int)+1)=.int .i64 R/\(bU ⟨c,p,b⟩ g R).2=0/\(((bU ⟨c,p,b⟩ g R).1.length:Nat):Int)<=c/\pF d.heap.size n u7 (bU ⟨c,p,b⟩ g R).1/\β d d n:=by
                refine⟨j+1,by omega,by go_num,?_,?_,?_,a5⟩
                . rw[af.out]
                . rw[af.out];exact ap
                . rw[af.out];exact a7
              first|exact fin|((repeat apply Exists.intro);exact⟨fin,rfl⟩)
            case measure=>simp[intOf];omega
      . obtain⟨x,t⟩:=ab (j+1) 1 (by decide) (by omega) (zW M H);have C:=ah x;have P:=ah t;have a3:=ah Q;generalize g.getD j ByteArray.empty=s at L ad H;have av:((s.size:Int) != 16)=true:=by simp;omega
        clear x t H M hl z A ab Z d1 dT Q;go_wp2;go_ret2;exact⟨O,0,by rw[C.out,P.out];rfl,by rw[C.out];exact qK _ _,a3⟩
    . have am:j=g.length:=by rw[aD.out];omega
      obtain⟨x,t⟩:=zY HI;rw[<- am] at x t;obtain⟨a,cp,hv,J⟩:=z.ents;subst hv;have P:χ (gQ ⟨c,p,b⟩ g=0):=by unfold χ;rw[x,M]
      have C:=ah t;have bc:χ (mV w.heap.size wr a cp (bU ⟨c,p,b⟩ g j).1):=⟨J,UU z.own bf⟩;have a3:=ah Q;clear z A M hl x t ab am J Z d1 dT Q;go_wp2;go_ret2;exact⟨a,cp,by rw[C.out,P.out];rfl,by rw[C.out];exact bc,a3⟩
def Yl(c p b:Int)(la len cap a w)(f:Texts w la len a)(j:len<=20) :
  κ prog 155 #[.agg #[c,p,b],.slice la len cap] w λe w' =>
   ∃ lt i,e=.returned (.tuple #[.slice lt (dZ ⟨c,p,b⟩ a).length i,gQ ⟨c,p,b⟩ a])/\mV w w' lt i (dZ ⟨c,p,b⟩ a)/\β w w w':=by
 cases d:HV.ok ⟨c,p,b⟩ with
 | false=>exact Ym c p b la len cap a w d
 | true =>
  by_cases g:len=aB c.toNat
  .exact Yn c p b la len cap a w f j d g
  .exact Yo c p b la len cap a w f d g
def QU(s)(h:dW s≠0):0<dW s:=by
 have:=QT s
 omega
def zJ{d m}(a:d.fine d.fl.length m)(i)(b:i<d.fl.length):bytesOf (lastTo d i d.pend.length)=bytesOf (d.seen.getD i []):=by rw[Kq a.sn i b]
def UL{B m q d}(w)(hd:dh B w q d)(a:d.fine d.fl.length m)(i:dW (bytesOf (d.seen.getD 0 []))≠0) :
  κ prog 79 #[q.p] w λe w'=>e=.returned (.tuple #[.pointer O,dL d])/\β w w w':=by
 have j:dL d=dW (bytesOf (d.seen.getD 0 [])):=by unfold dL;rw[if_neg i]
 rw[j];have v:=a.ok.few;have u:=a.ok.few2;have k:=wY 0 w hd.todR a.ok.n1 (by omega);rw[zJ a 0 a.ok.n1] at *
 have o:χ _:=k;have l:=ah (Jt (bytesOf (d.seen.getD 0 [])));have r:=QU _ i;generalize dW _=f at *
 have n:χ (∀ W:ω,κ prog 154 _ W λe w'=>e=.returned (.tuple #[.agg #[_,_,_],f])/\β W W w'):=l;generalize (iq _).c=c at *
 generalize (iq _).p=p at *
 generalize (iq _).b=b at *
 generalize bytesOf _=s at *
 go_enter func79,ntmps79;go_wp2_with fail;refine cSt o ?_;go_wp2_with fail;refine cEq (n _) λt g=>?_
 go_wp2;go_ret2;exact⟨rfl,g.alloc g.size _⟩
def VZ{B g cap w f q d h ts}(hd:dh B w q d)(n:B.top<=w)(l:β w w f)(j:f.ownsRow 0 168 2 (.slice (S ⟨g,0,O⟩) ts.length cap) ts.length (bD ts))(o:¬B.g g) :
  aU B (f.alloc (.cells #[q.p,h.c,h.p,h.b,.slice (S ⟨g,0,O⟩) ts.length cap,.slice O 0 0] 146)) ⟨f,q,.slice (S ⟨g,0,O⟩) ts.length cap,.slice O 0 0⟩ ⟨d,h,ts,[]⟩:=by
 have i  := hd.keep λk a=>l.block k (hd.lt k a).2
 have m:=ja0 _ f |>.alloc (ja1 _) (.cells #[q.p,h.c,h.p,h.b,.slice (S ⟨g,0,O⟩) ts.length cap,.slice O 0 0] 146)
 refine⟨heap_alloc_new _ _,B.fresh n l.size,i.keep λk a=>m.block k (i.lt k a).2,bg j λk a=>m.block k (j.lt k a).2,jaa _ _ _ _,(λk e=>by cases e),(λk e=>by
  have:g=k:=by simpa [Value.ownBlock] using e
  simp_all),λk e=>by cases e⟩
def UM{B m q d}(w)(hd:dh B w q d)(t:d.fine d.fl.length m)(hB:B.top<=w)(T:dW (bytesOf (d.seen.getD 0 []))=0) :
    κ prog 79 #[q.p] w λe w'=>β w w w' /\
      ((dL d≠0/\e=.returned (.tuple #[.pointer O,dL d]))\/(dL d=0/\∃ r:Qh,r.d=q/\(∀ k,r.vt.ownBlock=some k->w<=k)/\e=.returned (.tuple #[r.p,(0:Int)])/\aU B w' r (kY d))):=by
  have n:(aK d).ok=true:=GU T;have b5:HV.ok ⟨(aK d).c,(aK d).p,(aK d).b⟩=true:=n;have a8:=t.ok.n1;have bE:=t.ok.few;have bO:=t.ok.few2;have aE:=t.ok.l2;have bL:=t.ok.same;have b7:=HV.dS n;obtain⟨c0,_⟩:=hd.cells;have lq:q.p<w.heap.size:=(hd.lt q.p (.inl rfl)).2;have ae:=wY 0 w hd.todR a8 (by omega);rw[zJ t 0 a8] at ae;have b9:χ (κ prog 81 #[q.p,(0:Int)] w λe w'=>e=.returned (.string (bytesOf (d.seen.getD 0 [])))/\w'=w):=ae;have ab:=Jt (bytesOf (d.seen.getD 0 []));rw[T] at ab;have b1:χ (∀ W:ω,κ prog 154 #[.string (bytesOf (d.seen.getD 0 []))] W λe w'=>e=.returned (.tuple #[.agg #[.int .i64 (aK d).c,.int .i64 (aK d).p,.int .i64 (aK d).b],(0:Int)])/\β W W w'):=ab;have b0:=ah (λW=>zu (aK d).c (aK d).p (aK d).b W b5);have a7:χ (∀ W:ω,κ prog 107 #[.int .i64 (aK d).c] W λe w'=>e=.returned (aB (aK d).c.toNat:Int)/\w'=W):=λW=>by have:=qG (aK d).c.toNat W (by omega);rw[show(((aK d).c.toNat:Nat):Int)=(aK d).c by omega] at this;exact this
  have bv:aB (aK d).c.toNat<=5:=by unfold aB;omega
  have bk:χ (¬d.fl.length<aQ (aK d)->aB (aK d).c.toNat<d.fl.length):=λj=>by
    have:=(nK n (ja1 _)).1
    omega
  have b3:=ah λW (C:β w w W)=>hd.keep λk n=>C.block k (hd.lt k n).2
  have ap:χ (∀(k:Nat) (W:ω),1+k<d.fl.length->β w w W->κ prog 81 #[q.p,(1+(k:Int):Int)] W λe w'=>e=.returned (.string (oC d k))/\w'=W):=λk W n C=>by
    have:=wY (1+k) W (b3 W C).todR n (by omega)
    rw[zJ t (1+k) n,show(((1+k:Nat):Int))=1+(k:Int) by omega] at this;exact this
  have ad:χ (d.fl.length<aQ (aK d)->dL d=1):=λj=>by unfold dL;rw[if_pos T,if_pos j]
  have a3:χ (¬d.fl.length<aQ (aK d)->dL d=gQ (aK d) (gJ d (aB (aK d).c.toNat))):=λj=>by unfold dL;rw[if_pos T,if_neg j];rfl
  have a5:=ah λ(j:gQ (aK d) (gJ d (aB (aK d).c.toNat))=0)=>(D5 j).2.2.2
  have aq:χ (0<=gQ (aK d) (gJ d (aB (aK d).c.toNat))):=Yk _ _
  have an:χ (aB (aK d).c.toNat<d.fl.length->∀ k,k<aB (aK d).c.toNat->(oC d k).size=16):=λj k H=>by
    have j:1+k<d.seen.length:=by omega
    have:(d.seen.getD (1+k) []).length=16:=by rw[ja6,ja5 j];exact aE _ (jad j)
    show(d.seen.getD (1+k) []).toArray.size=16
    simpa using this
  have a0:=ah λ(j:aB (aK d).c.toNat<d.fl.length) W a cap (v:W.ownsRow w.heap.size 9 1 (.slice a (aB (aK d).c.toNat) cap) (aB (aK d).c.toNat) (kS (gJ d (aB (aK d).c.toNat))))=>Yl (aK d).c (aK d).p (aK d).b a _ cap (gJ d (aB (aK d).c.toNat)) W (Ld v (Dv d _) λk H=>by rw[JK d _ k H,an.out j k H];unfold maxLen;omega) (by omega)
  have aM:χ (gJ d 0=[]):=rfl;have ao:χ (∀ k,gJ d (k+1)=gJ d k++[oC d k]):=JL d
  have a4:χ (∀(W:ω) (g o:Nat),β w w W->W.ownsRow 0 168 2 (.slice (some ⟨g,0,O⟩) (dZ (aK d) (gJ d (aB (aK d).c.toNat))).length o) (dZ (aK d) (gJ d (aB (aK d).c.toNat))).length (bD (dZ (aK d) (gJ d (aB (aK d).c.toNat))))->w.heap.size<=g ->
      aU B (W.alloc (.cells #[q.p,.int .i64 (aK d).c,.int .i64 (aK d).p,.int .i64 (aK d).b,.slice (some ⟨g,0,O⟩) (dZ (aK d) (gJ d (aB (aK d).c.toNat))).length o,.slice O 0 0] 146)) ⟨W.heap.size,q,.slice (some ⟨g,0,O⟩) (dZ (aK d) (gJ d (aB (aK d).c.toNat))).length o,.slice O 0 0⟩ (kY d)):=λW g o C v bl=>VZ hd hB C v (B.fresh hB bl)
  obtain⟨i2,aD,bn,av,b8⟩:=info_parts wu;have c7:=b7.1;generalize kY d=V at a4 |-;generalize dL d=F at ad a3 |-;generalize oC d=R at ap ao an;generalize gQ (aK d) (gJ d (aB (aK d).c.toNat))=TF at a3 a0 a5 aq;generalize dZ (aK d) (gJ d (aB (aK d).c.toNat))=D at a0 a4 a5;generalize aQ (aK d)=nn at *
  generalize aB (aK d).c.toNat=E at *
  generalize gJ d=L at *
  generalize (aK d).c=c at *
  generalize (aK d).p=p at *
  generalize (aK d).b=b at *
  generalize bytesOf (d.seen.getD 0 [])=s at *
  go_enter func79,ntmps79;go_wp2_with fail;refine cEq b9 λw' hw=>?_
  have b4:=hw.symm;subst b4;go_wp2_with fail;refine cEq (b1 _) λA a6=>?_
  have M:χ (β w w (A.alloc (.cells #[c,p,b] 67))):=a6.alloc a6.size _;have G:χ ((A.alloc (.cells #[c,p,b] 67)).heap[A.heap.size]?=some (.cells #[c,p,b] 67 (0,0))):=heap_alloc_new _ _;have bA:χ (w.heap.size<=A):=a6.size;go_wp2;generalize A.alloc (.cells #[c,p,b] 67)=l at *
  generalize A.heap.size=N at *
  have U:N<l.heap.size:=lt_of_some G;have bo:q.p<l.heap.size:=ja8 lq M.size;have y0:l.cell? ⟨N,0,O⟩=some (c:υ):=by rw[cell_of_row _ _ _ _ _ _ G.out];rfl
  have y1:l.cell? ⟨N,1,O⟩=some (p:υ):=by rw[cell_of_row _ _ _ _ _ _ G.out];rfl
  have y2:l.cell? ⟨N,2,O⟩=some (b:υ):=by rw[cell_of_row _ _ _ _ _ _ G.out];rfl
  have y3:l.cell? ⟨q.p,0,O⟩=some (.slice (some ⟨q.bf,0,O⟩) d.fl.length q.cf):=(M.cell (p:=⟨q.p,0,O⟩) lq).trans c0
  go_region_held3 (λW=>β l l W/\W.cell? ⟨N,0,O⟩=some (c:υ)/\W.cell? ⟨N,1,O⟩=some (p:υ)/\W.cell? ⟨N,2,O⟩=some (b:υ)/\W.cell? ⟨q.p,0,O⟩=some (.slice (some ⟨q.bf,0,O⟩) d.fl.length q.cf))
    (first|(exact⟨jba (ja0 _ _),y0,y1,y2,y3⟩)|assumption|(exact⟨by assumption,(jax (by assumption) U).trans y0,(jax (by assumption) U).trans y1,(jax (by assumption) U).trans y2,(jax (by assumption) bo).trans y3⟩))
    (first
      | (go_at_call 34;refine cEq (b0 _) λf bb=>?_;have c6:=jaF (by assumption:β l l _/\_).1 (bb.mono (by assumption:β l l _/\_).1.size)))
  all_goals
    obtain⟨af,z0,z1,z2,z3⟩:=(by assumption:β l l f/\_);have X:=ah (M.trans (af.mono M.size));have bq:χ (f.heap[N]?=some (.cells #[c,p,b] 67 (0,0))):=by unfold χ;rw[af.block _ U];exact G
    have K:N<f.heap.size:=lt_of_some bq;by_cases j:d.fl.length<nn
    . have hF:=ad j;go_wp2;go_ret2;exact⟨X,.inl ⟨by rw[hF];decide,by rw[hF];rfl⟩⟩
    . have HF:=ah (a3 j);have ax:=bk j;have bc:=ah (a0 ax);go_wp2;generalize decide (d.fl.length<nn)=db;go_loopw [6,7] (λu i wr=>∃(k:Nat) (a:Option Addr) (cap:Nat),k<=E/\i=.int .i64 k/\u=.slice a k cap/\wr.ownsRow f.heap.size 9 1 (.slice a k cap) k (kS (L k))/\β f f wr) (λ_ i _=>E-(intOf i).toNat)
      case atStart=>exact⟨0,O,0,ja7 _,rfl,rfl,by rw[aM.out];exact jaa _ _ _ _,ja0 _ _⟩
      case round =>
        obtain⟨k,a,cap,H,rfl,rfl,v,x⟩:=hrel;have ai:β w w wr:=X.trans (x.mono X.size);have aa:f.heap.size<=wr:=x.size;have x0:wr.cell? ⟨N,0,O⟩=some (c:υ):=(x.cell (p:=⟨N,0,O⟩) K).trans z0;have x1:wr.cell? ⟨N,1,O⟩=some (p:υ):=(x.cell (p:=⟨N,1,O⟩) K).trans z1;have x2:wr.cell? ⟨N,2,O⟩=some (b:υ):=(x.cell (p:=⟨N,2,O⟩) K).trans z2;by_cases bN:k<E
        . have bt:=ah (ap k wr (by omega) ai);have bu:=ah (ao k);have ag:χ ((wr.alloc (.cells #[.string (R k)] 9)).ownsRow f.heap.size 9 1 (.slice a k cap) k (kS (L k))):=v.alloc _;have al:χ (f.heap.size<=(wr.alloc (.cells #[.string (R k)] 9)).heap.size):=by unfold χ;simp;omega
          have aw:χ (β f f (wr.alloc (.cells #[.string (R k)] 9))):=x.alloc aa _;have bs:χ ((wr.alloc (.cells #[.string (R k)] 9)).heap.size=wr.heap.size+1):=by unfold χ;simp
          have br:χ (∀ i y,([.string (R k)]:List υ)[i]?=some y->(wr.alloc (.cells #[.string (R k)] 9)).cell? ((⟨wr.heap.size,0,O⟩:Addr).add i)=some y):=cell_one_new _ _ _;have bS:IntKind.i64.wrap (1+(k:Int))=1+(k:Int):=ja9 _ (by omega);generalize R k=S at *
          go_wp2_with (first
            | (go_at_call 107;refine cSt (a7 _) ?_)
            | (go_at_call 81;refine cSt bt ?_)
            | (at_builtin;refine wpList_append_lies _ (by rfl) _ _ 44 (by rfl) f.heap.size 9 i2 (.string ⟨#[]⟩) 1 16 underlying44 aD bn av b8 rfl (by decide) (.slice a k cap) k (kS (L k)) (by rfl) ag ⟨wr,0,O⟩ 1 1 [S] (by rfl) (by rfl) br (λu hu=>by simp at *;subst hu;rfl) (by decide) (by unfold maxLen;omega) (by omega) al (wr.heap.size+1) bs ?_;intro g3 Z I bp bd bX bR))
          have aR:χ (I.ownsRow f.heap.size 9 1 (.slice (some ⟨g3,0,O⟩) (k+1) Z) (k+1) (kS (L (k+1)))):=by
            unfold χ;have e2:kS (L (k+1))=kS (L k)++[.string S]:=by rw[bu.out];simp[kS]
            rw[e2];exact bp
          have bh:χ (β f f I):=aw.grown bd al (λr e=>(ag.lt r e).1);go_roundw
          case rel =>
            have fin:∃(z:Nat) (a1:Option Addr) (am:Nat),z<=E/\Value.int .i64 ((k:Int)+1)=.int .i64 z/\Value.slice (some ⟨g3,0,O⟩) (k+1) Z=.slice a1 z am/\I.ownsRow f.heap.size 9 1 (.slice a1 z am) z (kS (L z))/\β f f I :=
              ⟨k+1,some ⟨g3,0,O⟩,Z,by omega,by go_num,rfl,aR,bh⟩
            first|exact fin|((repeat apply Exists.intro);exact⟨fin,rfl⟩)
          case measure=>simp[intOf];omega
        . have ba:k=E:=by omega
          subst ba;have b6:=ah (bc wr a cap (ownsRow_base v X.size));have P:=ah ai;have a2:N<wr.heap.size:=ja8 K aa
          go_wp2_with (first
            | (go_at_call 107;refine cSt (a7 _) ?_))
          refine b6.mono ?_;rintro e w4 ⟨lt,o,rfl,a9,Y⟩;have Q:=ah (P.trans (Y.mono P.size));have y0:=(Y.cell (p:=⟨N,0,O⟩) a2).trans x0;have y1:=(Y.cell (p:=⟨N,1,O⟩) a2).trans x1;have y2:=(Y.cell (p:=⟨N,2,O⟩) a2).trans x2;by_cases J:TF=0
          . have c5:=a5 J;obtain⟨g,bB,hv,ar,_⟩:=a9.2.form (by omega);injection hv with hv1 hv2 hv3;subst hv1;subst hv3;have bm:χ (w4.ownsRow 0 168 2 (.slice (some ⟨g,0,O⟩) D.length o) D.length (bD D)):=ownsRow_base a9.2 (ja7 _);have be:=ah (a4 w4 g o Q bm (ja4 P.size ar));have b2:χ (w.heap.size<=g):=ja4 P.size ar;have az  := HF.trans J;have bi:=ah az;have bj:=ah (Q.alloc Q.size (.cells #[q.p,c,p,b,.slice (some ⟨g,0,O⟩) D.length o,.slice O 0 0] 146));rw[J];generalize D.length=tl at *
            go_wp2;go_ret2
            exact⟨bj,.inr ⟨bi,_,rfl,λr e=>(by
              have:g=r:=by simpa [Value.ownBlock] using e
              rw[<- this];exact b2),rfl,be⟩⟩
          . have ac:χ (F=TF):=HF;have aL:=ah J;have bw:0<TF:=by have:=aq.out;omega
            go_wp2;go_ret2;exact⟨Q,.inl ⟨by rw[ac.out];exact aL,by rw[ac.out];rfl⟩⟩
def UN{B m q d}(w)(hd:dh B w q d)(b:d.fine d.fl.length m)(c:B.top<=w) :
  κ prog 79 #[q.p] w λe w'=>β w w w' /\
   ((dL d≠0/\e=.returned (.tuple #[.pointer O,dL d]))\/(dL d=0/\∃ r:Qh,r.d=q/\(∀ k,r.vt.ownBlock=S k->w<=k)/\e=.returned (.tuple #[r.p,(0:Int)])/\aU B w' r (kY d))):=by
 by_cases a:dW (bytesOf (d.seen.getD 0 []))=0
 .exact UM w hd b c a
 .refine cEq (UL w hd b a) λw' g=>?_
  have f:dL d=dW (bytesOf (d.seen.getD 0 [])):=by unfold dL;rw[if_neg a]
  simp_all
