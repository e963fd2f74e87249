/- A part. -/
import Derived.Test.YtbohmhacdgckgaaGreatDoorQJobN1
set_option linter.all false
set_option maxHeartbeats 16000000
set_option maxRecDepth 100000
namespace Go.Proofs.YtbohmhacdgckgaaGreatDoor
open Go.RowKit renaming Below->β, Hid->χ
open Go renaming World->ω, Value->υ, Calls->κ
open Option renaming none->O, some->S
open Go.Proofs.Tryz Go.RowKit Go.Maps
attribute [local go_sem ↓] Go.wp_at_zero Go.wp_at_succ
def Zd{o sp cap C m a K s j}(w)(hd:JHd w o sp a cap j)(L:bH w sp K s m)(N:Nums w a j.l)(ok:JOk s C j) :
  κ prog 193 #[o,(j.n:Int)] w λe w'=>∃ b,e=.returned (.tuple #[.pointer (S ⟨b,0,O⟩),.nilIface])/\S4.iQ w' b j.n (kN s j j.n)/\w<=b/\β w w w':=by
 have x:j.n<=64:=by have:=ok.n;have:=ok.c40;omega
 have A:=ah (S4.XL j.n w x);have U:χ _:=LC s j x;have I:χ (∀ k:Nat,kN s j (k+1)=S4.fK j.n _ (k:Int) _):=λk=>rfl
 have D:χ (kN s j 0=0):=rfl;generalize kN s j=X at *
 generalize j.n=n at *
 go_enter func193,ntmps193;go_wp2_with fail;refine A.mono ?_;rintro e H ⟨rfl,G,R⟩;have t:χ (S4.iQ H w.heap.size n (X 0)):=by unfold χ;rw[D.out];exact G
 obtain⟨b,g⟩:∃ b,w.heap.size=b:=⟨_,rfl⟩;have q:=ah g;rw[g] at t;rw[g];go_wp2;go_loopw [18] (λi wr=>∃ k:Nat,k<=n/\i=.int .i64 (k:Int)/\S4.iQ wr b n (X k)/\β w w wr) (λi _=>n-(intOf i).toNat)
 case atStart=>exact⟨0,ja7 _,rfl,t,R⟩
 case round =>
  obtain⟨k,hk,rfl,E,d⟩:=hrel;have y:=ah E;have f:=ah d;by_cases Y:k<n
  .have M:=ah ((λc W (d:β w w W)=>LD c W (hd.below d) (L.below d) (N.below d) ok) (k:Int) wr f);have z:=ah (I k);generalize j.jr s (k:Int)=r at *
   go_wp2_with fail;refine cEq M λT v=>?_
   have u:=ah (f.trans (v.mono f.size));have P:=ah (S4.zQ (k:Int) r T (y.below v) (U k));rw[<- z.out] at *
   generalize S4.gI n (X k) (k:Int) r=V at *
   go_wp2_with fail;refine P.mono ?_;rintro e Z ⟨rfl,Q,F⟩;have B:χ _:=u.trans ((Kept.of4 F).below u.size (λi e=>by rw[e,<- q.out];exact ja1 _));go_wp2;go_roundw
   case rel =>
    exact⟨k+1,by omega,by go_num,Q,B⟩
   case measure=>simp[intOf];omega
  .have J:k=n:=by omega
   subst J;go_wp2;go_ret2;exact⟨b,rfl,y,by rw[q.out];exact ja1 _,f⟩
def bI(d:aP):Obj:=.cells #[d.root,d.kind,d.file,d.rate,d.burst] 82 (0,0)
def qw(d)(w:ω):∀ W,β (w.alloc (bI d)).heap.size (w.alloc (bI d)) W->W.cell? ⟨w,0,O⟩=S (d.root:υ)/\W.cell? ⟨w,1,O⟩=S (d.kind:υ)/\W.cell? ⟨w,2,O⟩=S (d.file:υ)/\W.cell? ⟨w,3,O⟩=S (d.rate:υ)/\W.cell? ⟨w,4,O⟩=S (d.burst:υ):=λW b=>by
 have a:w.heap.size<(w.alloc (bI d)).heap.size:=by simp
 refine⟨?_,?_,?_,?_,?_⟩<;>(rw[cell_of_row _ _ _ _ _ _ ((b.block _ a).trans (heap_alloc_new w _))];rfl)
def uM(d)(w:ω):∀ W,β (w.alloc (bI d)).heap.size (w.alloc (bI d)) W->W.rangeAt w 0 [.int .i64 d.root,.int .i64 d.kind,.int .i64 d.file,.int .i64 d.rate,.int .i64 d.burst]:=λW b j v a=>by
 obtain⟨i,g,c,k,f⟩:=qw d w W b
 match j,a with
 | 0,a=>simp_all
 | 1,a=>simp_all
 | 2,a=>simp_all
 | 3,a=>simp_all
 | 4,a=>simp_all
def vG:(prog.info? 82).map (·.size)=S 5:=by kernel_rfl
def IL{sp m xs s}(d w)(h:bH w sp xs s m)(hf:newF s d≠0) :
  κ prog 125 #[.pointer (S ⟨sp,6,O⟩),.agg #[d.root,d.kind,d.file,d.rate,d.burst]] w λe w'=>e=.returned (.tuple #[.pointer O,erV (newF s d)])/\β w w w':=by
 have b:χ (β w w (w.alloc (bI d))):=(ja0 _ _).alloc (ja1 _) _;have i:=ah (qw d w);have J:=ah (uM d w);have HI:χ ((prog.info? 82).map (·.size)=S ([.int .i64 d.root,.int .i64 d.kind,.int .i64 d.file,.int .i64 d.rate,.int .i64 d.burst]:List υ).length):=vG;have y:=ah λW (A:β w w W)=>vU d.root W (h.below A)
 have a0:=ah λW (hx:(S4.inB d.rate 1000&&S4.inB d.burst 1000)=false)=>S4.Nv d.rate d.burst W hx
 have N:=ah λW (h1:S4.inB d.rate 1000=true) (h2:S4.inB d.burst 1000=true)=>S4.EG d.rate d.burst W h1 h2
 obtain⟨Q,a4,a5,_⟩:=s.walk_good d.root;have V:=ah λW a cap (A:β w w W) (hn:Nums W a (s.walk d.root).1) (k:(s.walk d.root).1≠[]) (Z:(s.walk d.root).1.length<=cap)=>EN _ d W (h.below A) hn Q k (by omega) Z
 have E:χ (newF s d=if (s.walk d.root).2≠0 then (s.walk d.root).2 else if (s.walk d.root).1=[] then 4 else if (S4.inB d.rate 1000&&S4.inB d.burst 1000)=false then 1 else kP s (s.walk d.root).1 d):=rfl;have a1:=ah hf;generalize newF s d=j at *
 generalize kP s (s.walk d.root).1 d=u at *
 generalize s.walk d.root=R at *
 obtain⟨l,f⟩:=R;simp only at *
 unfold bI at *
 by_cases k:f=0
 .subst k;rw[aJ] at *
  have I:χ (j=if l=[] then 4 else if (S4.inB d.rate 1000&&S4.inB d.burst 1000)=false then 1 else u):=by unfold χ;rw[E.out,if_neg (by simp)]
  by_cases v:l=[]
  .subst v;have P:χ (j=4):=by unfold χ;rw[I.out,if_pos rfl]
   rw[P.out,bC (by decide)];obtain⟨B,_⟩:=i _ (ja0 _ _);go_enter func125,ntmps125;go_wp2_with fail;refine(y _ b).mono ?_;rintro e z ⟨a,cap,rfl,n,t,c⟩;have x:=ah (b.trans (c.mono b.size));go_wp2;go_ret2;exact⟨rfl,x⟩
  .have G:χ (j=if (S4.inB d.rate 1000&&S4.inB d.burst 1000)=false then 1 else u):=by unfold χ;rw[I.out,if_neg v]
   have a3  := List.length_pos_iff.2 v;have a6:((l.length:Int)==0)=false:=by simp;omega
   cases r:(S4.inB d.rate 1000&&S4.inB d.burst 1000) with
   | false =>
    have q:χ (j=1):=by unfold χ;rw[G.out,r,if_pos rfl]
    rw[q.out,eX];generalize a7:l.length=ln at *
    obtain⟨B,X,K,L,d4⟩:=i _ (ja0 _ _);go_enter func125,ntmps125;go_wp2_with fail;refine(y _ b).mono ?_;rintro e z ⟨a,cap,rfl,n,t,c⟩;obtain⟨M,U,q2,q3,q4⟩:=i _ c;go_wp2_with fail;refine cSt ((λW=>a0 W r) _) ?_;go_wp2;go_ret2;exact⟨rfl,(b.trans (c.mono b.size))⟩
   | true =>
    have D:χ (j=u):=by unfold χ;rw[G.out,r,if_neg (by decide)]
    rw[jb3] at *
    have a2:u≠0:=by rw[<- D.out];exact a1
    rw[D.out];rw[bC a2] at *
    obtain⟨B,X,K,L,d4⟩:=i _ (ja0 _ _);go_enter func125,ntmps125;go_wp2_with fail;refine(y _ b).mono ?_;rintro e z ⟨a,cap,rfl,n,t,c⟩;have x:=ah (b.trans (c.mono b.size));have H:=ah c;obtain⟨g,o,rfl,_⟩:=n 0 a3;have q:=ah n;have Y:=(t g o rfl).2.2;obtain⟨M,U,q2,q3,q4⟩:=i _ c;go_wp2_with fail;refine((λW=>N W r.1 r.2) _).mono ?_;rintro e w2 ⟨rfl,_,C⟩;have F:=ah (x.trans (C.mono x.size));go_wp2_with (refine wpList_load_mid (by rfl) 82 (.tmp 3) (by rfl) w.heap.size 0 (by rfl) [d.root,d.kind,d.file,d.rate,d.burst] _ (J _ (H.trans (C.mono H.size))) underlying82 rfl HI ?_)
    refine cBl (V w2 (S ⟨g,o,O⟩) cap F (q.below C) v Y) F λw3 T=>?_
    go_wp2;go_ret2;exact⟨rfl,T⟩
 .have q:χ (j=f):=by unfold χ;rw[E.out,if_pos k]
  rw[q.out];rw[bC k] at *
  obtain⟨B,_⟩:=i _ (ja0 _ _);go_enter func125,ntmps125;go_wp2_with fail;refine(y _ b).mono ?_;rintro e z ⟨a,cap,rfl,n,t,c⟩;go_wp2;go_ret2;exact⟨rfl,(b.trans (c.mono b.size))⟩
def MG(w):(zeroValue 198).run prog w=.ok (.agg ((.pointer O::.int .i64 0::.int .i64 0::.int .i64 0::.int .i64 0::.int .i64 0::.slice O 0 0::.int .i64 0::.int .i64 0::Value.bool false::Value.bool false::Value.bool false::Value.bool false::Value.bool false::Value.bool false::Value.bool false::Value.bool false::Value.bool false::Value.bool false::Value.bool false::Value.bool false::Value.bool false::Value.bool false::Value.bool false::Value.bool false::Value.bool false::Value.bool false::Value.bool false::Value.bool false::Value.bool false::Value.bool false::Value.bool false::Value.bool false::Value.bool false::Value.bool false::Value.bool false::Value.bool false::Value.bool false::Value.bool false::Value.bool false::Value.bool false::Value.bool false::Value.bool false::Value.bool false::Value.bool false::Value.bool false::Value.bool false::Value.bool false::Value.bool false::Value.bool false::Value.bool false::Value.bool false::Value.bool false::Value.bool false::Value.bool false::Value.bool false::Value.bool false::Value.bool false::Value.bool false::Value.bool false::Value.bool false::Value.bool false::Value.bool false::Value.bool false::Value.bool false::Value.bool false::Value.bool false::Value.bool false::Value.bool false::Value.bool false::Value.bool false::Value.bool false::Value.bool false::.int .i64 0::.int .i64 0::.int .i64 0::.int .i64 0::.int .i64 0::[]:List υ).toArray)) w:=by kernel_rfl
def ug(f:Nat)(d kd fl c b:Int)(a:Option Addr)(ln cap:Nat):Array Value:=((.pointer (S ⟨f,0,O⟩)::.int .i64 d::.int .i64 kd::.int .i64 fl::.int .i64 c::.int .i64 b::.slice a ln cap::.int .i64 0::.int .i64 0::Value.bool false::Value.bool false::Value.bool false::Value.bool false::Value.bool false::Value.bool false::Value.bool false::Value.bool false::Value.bool false::Value.bool false::Value.bool false::Value.bool false::Value.bool false::Value.bool false::Value.bool false::Value.bool false::Value.bool false::Value.bool false::Value.bool false::Value.bool false::Value.bool false::Value.bool false::Value.bool false::Value.bool false::Value.bool false::Value.bool false::Value.bool false::Value.bool false::Value.bool false::Value.bool false::Value.bool false::Value.bool false::Value.bool false::Value.bool false::Value.bool false::Value.bool false::Value.bool false::Value.bool false::Value.bool false::Value.bool false::Value.bool false::Value.bool false::Value.bool false::Value.bool false::Value.bool false::Value.bool false::Value.bool false::Value.bool false::Value.bool false::Value.bool false::Value.bool false::Value.bool false::Value.bool false::Value.bool false::Value.bool false::Value.bool false::Value.bool false::Value.bool false::Value.bool false::Value.bool false::Value.bool false::Value.bool false::Value.bool false::Value.bool false::.int .i64 (-1)::.int .i64 2::.int .i64 c::.int .i64 b::.int .i64 b::[]:List υ).toArray)
def V4(d b kd fl c f a ln cap):(ug d b kd fl c f a ln cap).size=78:=by kernel_rfl
def V3(f d kd fl c b a ln cap):∀ k,k<64->(ug f d kd fl c b a ln cap)[9+k]?=S (.bool false):=by
 have h:ug f d kd fl c b a ln cap = #[.pointer (S ⟨f,0,O⟩),.int .i64 d,.int .i64 kd,.int .i64 fl,.int .i64 c,.int .i64 b,.slice a ln cap,.int .i64 0,.int .i64 0]++Array.replicate 64 (.bool false) ++ #[.int .i64 (-1),.int .i64 2,.int .i64 c,.int .i64 b,.int .i64 b]:=by kernel_rfl
 intro k g;rw[h,Array.getElem?_append_left (by simp;omega),Array.getElem?_append_right (by simp)];simp[g]
def V5{b cap a J}(w:ω)(j:J.deep=0)(f:J.n=0)(o:J.x=0)(g:J.last = -1)(m:J.lv=J.burst) :
  bT (w.alloc (.cells (ug b J.rt J.kind J.file J.rate J.burst a J.l.length cap) 198)) w b a cap J 2:=by
 refine⟨_,heap_alloc_new w _,V4 ..,λi r=>?_⟩;by_cases q:9<=i/\i<73
 .obtain⟨k,rfl⟩:∃ k,i=9+k:=⟨i-9,by omega⟩;rw[V3 _ _ _ _ _ _ _ _ _ k (by omega),wR (by omega),o,Nat.zero_testBit]
 .by_cases d:i<9
  .match i,d with
   | 0,_=>rfl
   | 1,_=>rfl
   | 2,_=>rfl
   | 3,_=>rfl
   | 4,_=>rfl
   | 5,_=>rfl
   | 6,_=>rfl
   | 7,_=>show S _=S (Value.int .i64 ((J.deep:Nat):Int));rw[j];rfl
   | 8,_=>show S _=S (Value.int .i64 ((J.n:Nat):Int));rw[f];rfl
  .obtain⟨k,rfl⟩:∃ k,i=73+k:=⟨i-73,by omega⟩;have c:k<5:=by omega
   match k,c with
   | 0,_=>show S (Value.int .i64 (-1))=S (Value.int .i64 _);rw[g]
   | 1,_=>rfl
   | 2,_=>rfl
   | 3,_=>rfl
   | 4,_=>show S (Value.int .i64 _)=S (Value.int .i64 J.lv);rw[m]
def bT.Xx{w xp b cap a j is}(h:bT w xp b a cap j is)(n:Nat):bT (w.setCell ⟨xp,8,O⟩ (n:Int)) xp b a cap {j with n:=n} is :=
 h.set 8 (by omega) _ λk c=>by
  by_cases e:k=8
  .subst e;rfl
  .unfold rjC;simp only[if_neg e]
def bT.Kr{w xp b cap a j is}(h:bT w xp b a cap j is)(n:Nat):bT (w.setCell ⟨xp,7,O⟩ (n:Int)) xp b a cap {j with deep:=n} is :=
 h.set 7 (by omega) _ λk c=>by
  by_cases e:k=7
  .subst e;rfl
  .unfold rjC;simp only[if_neg e]
def V8{B m qs s}(d w)(h:bJ w B qs s m)(D:(s.walk d.root).2≠0\/(s.walk d.root).1=[]\/(S4.inB d.rate 1000&&S4.inB d.burst 1000)=false) :
  κ prog 83 #[B,.agg #[d.root,d.kind,d.file,d.rate,d.burst]] w λe w'=>e=.returned (.tuple #[.pointer O,newF s d])/\β w w w':=by
 have c:χ (β w w (w.alloc (bI d))):=(ja0 _ _).alloc (ja1 _) _;have i:=ah (qw d w);have r:=ah (wW d.root (w.alloc (bI d)) (h.below c));obtain⟨H,I,J,_⟩:=s.walk_good d.root;have q:χ (newF s d=if (s.walk d.root).2≠0 then (s.walk d.root).2 else if (s.walk d.root).1=[] then 4 else if (S4.inB d.rate 1000&&S4.inB d.burst 1000)=false then 1 else kP s (s.walk d.root).1 d):=rfl;generalize newF s d=t at *
 generalize kP s (s.walk d.root).1 d=P at *
 generalize s.walk d.root=R at *
 obtain⟨l,f⟩:=R;simp only at *
 unfold bI at *
 by_cases x:f=0
 .subst x;by_cases j:l=[]
  .subst j;have C:χ (t=4):=by unfold χ;rw[q.out,if_neg (by simp),if_pos rfl]
   rw[C.out];obtain⟨z,_⟩:=i _ (ja0 _ _);go_enter func83,ntmps83;go_wp2_with fail;refine r.mono ?_;rintro e v ⟨a,cap,rfl,y,u,g⟩;have b:=ah (c.trans (g.mono c.size));go_wp2;go_ret2;exact⟨rfl,b⟩
  .have E:(S4.inB d.rate 1000&&S4.inB d.burst 1000)=false:=by
    rcases D with e|e|e
    .exact absurd rfl e
    .exact absurd e j
    .exact e
   have o:χ (t=1):=by unfold χ;rw[q.out,if_neg (by simp),if_neg j,E,if_pos rfl]
   rw[o.out];have L:0<l.length:=List.length_pos_iff.2 j;have N:((l.length:Int)==0)=false:=by simp;omega
   obtain⟨z,_⟩:=i _ (ja0 _ _);generalize l.length=ln at *
   have F:d.rate<0\/(0<=d.rate/\1000<d.rate)\/(0<=d.rate/\d.rate<=1000/\d.burst<0)\/(0<=d.rate/\d.rate<=1000/\0<=d.burst/\1000<d.burst):=by
    unfold S4.inB at *
    simp at *
    omega
   go_enter func83,ntmps83;go_wp2_with fail;refine r.mono ?_;rintro e v ⟨a,cap,rfl,y,u,g⟩;have b:=ah (c.trans (g.mono c.size));obtain⟨G,K,q2,M,Q⟩:=i _ g;rcases F with k|⟨k,n⟩|⟨k,n,A⟩|⟨k,n,A,T⟩
   .have g1:decide (d.rate<0)=true:=decide_eq_true k;go_wp2;go_ret2;exact⟨rfl,b⟩
   .have g1:decide (d.rate<0)=false:=decide_eq_false (by omega);have g2  := decide_eq_true n;go_wp2;go_ret2;exact⟨rfl,b⟩
   .have g1:decide (d.rate<0)=false:=decide_eq_false (by omega);have g2:decide (1000<d.rate)=false:=decide_eq_false (by omega);have g3  := decide_eq_true A;go_wp2;go_ret2;exact⟨rfl,b⟩
   .have g1:decide (d.rate<0)=false:=decide_eq_false (by omega);have g2:decide (1000<d.rate)=false:=decide_eq_false (by omega);have g3  := decide_eq_false (by omega);go_wp2;go_ret2;exact⟨rfl,b⟩
 .have o:χ (t=f):=by unfold χ;rw[q.out,if_pos x]
  rw[o.out];have gf:decide (0<f)=true:=decide_eq_true (by omega);obtain⟨z,_⟩:=i _ (ja0 _ _);go_enter func83,ntmps83;go_wp2_with fail;refine r.mono ?_;rintro e v ⟨a,cap,rfl,y,u,g⟩;have b:=ah (c.trans (g.mono c.size));go_wp2;go_ret2;exact⟨rfl,b⟩
structure RN(w:ω)(N xp mp:Nat)(g o cap:Nat)(qs:Nat->Qh)(s:SV)(m:Nat)(d:aP)(J:JV)(wr:ω):Prop where
 shelf:bJ wr mp qs s m
 job:bT wr xp mp (S ⟨g,o,O⟩) cap J 2
 nums:Nums wr (S ⟨g,o,O⟩) J.l
 aA:wr.rangeAt N 0 [d.root,d.kind,d.file,d.rate,d.burst]
 bel:β w w wr
 xw:w.heap.size<=xp
 nx:N≠xp
 gw:w.heap.size<=g
 gx:g≠xp
 cap:J.l.length<=cap
 old:∀ k,fpQ qs s k->k<w.heap.size
 mpw:mp<w.heap.size
 nw:w.heap.size<=N
theorem RN.drewN{w wr N xp a g o cap m qs s d J}(h:RN w N xp a g o cap qs s m d J wr)(n):RN w N xp a g o cap qs s m d J (wr.drewN n) :=
 ⟨h.shelf.below (below_drewN (ja0 _ _) n),h.job.keep rfl,h.nums,h.aA,below_drewN h.bel n,h.xw,h.nx,h.gw,h.gx,h.cap,h.old,h.mpw,h.nw⟩
theorem RN.drew{w wr N xp a g o cap m qs s d J}(h:RN w N xp a g o cap qs s m d J wr):RN w N xp a g o cap qs s m d J wr.drew :=
 ⟨h.shelf.below (ja0 _ _).drew,h.job.keep rfl,h.nums,h.aA,h.bel.drew,h.xw,h.nx,h.gw,h.gx,h.cap,h.old,h.mpw,h.nw⟩
theorem RN.below{w wr w' N xp b g o cap m qs s d J}(h:RN w N xp b g o cap qs s m d J wr)(a:β wr wr w'):RN w N xp b g o cap qs s m d J w' :=
 ⟨h.shelf.below a,h.job.keep (a.block _ h.job.lt),h.nums.below a,λj v c=>by
  have:=h.aA j v c
  exact(a.cell  (ja2 _ _ this)).trans this,h.bel.trans (a.mono h.bel.size),h.xw,h.nx,h.gw,h.gx,h.cap,h.old,h.mpw,h.nw⟩
def RN.put{w wr N xp a g o cap m i qs s d J b v}(h:RN w N xp a g o cap qs s m d J wr)(q:bT (wr.setCell ⟨xp,i,O⟩ v) xp a (S ⟨g,o,O⟩) cap b 2)(c:b.l=J.l):RN w N xp a g o cap qs s m d b (wr.setCell ⟨xp,i,O⟩ v) :=
 ⟨h.shelf.keep (heap_setCell_other _ _ _ _ (λe=>by have r:a=xp:=e;have:=h.mpw;have:=h.xw;omega)) (λk f=>heap_setCell_other _ _ _ _ (λe=>by have r:k=xp:=e;have:=h.old k f;have:=h.xw;omega)),q,by rw[c];exact h.nums.keep λu t e=>by cases e;exact heap_setCell_other _ _ _ _ h.gx,λj v n=>(jab (heap_setCell_other _ _ _ _ h.nx)).trans (h.aA j v n),h.bel.setCell  h.xw _,h.xw,h.nx,h.gw,h.gx,by rw[c];exact h.cap,h.old,h.mpw,h.nw⟩
def RN.rj{w wr N xp b g o cap m C qs s d J}(h:RN w N xp b g o cap qs s m d J wr)(c:JOk s C J):RJ wr b xp (S ⟨g,o,O⟩) cap qs s m C J 2 :=
 ⟨h.shelf,h.job,h.nums,λi f e a=>by
  cases e;rcases a with a|a
  .have:=h.old g a;have:=h.gw;omega
  .exact h.gx a,c,h.cap⟩
def RN.cells{w wr N xp a g o cap m qs s d J}(h:RN w N xp a g o cap qs s m d J wr):wr.cell? ⟨N,0,O⟩=S (d.root:υ)/\wr.cell? ⟨N,1,O⟩=S (d.kind:υ)/\wr.cell? ⟨N,2,O⟩=S (d.file:υ)/\wr.cell? ⟨N,3,O⟩=S (d.rate:υ)/\wr.cell? ⟨N,4,O⟩=S (d.burst:υ) :=
 ⟨h.aA 0 _ rfl,h.aA 1 _ rfl,h.aA 2 _ rfl,h.aA 3 _ rfl,h.aA 4 _ rfl⟩
def bJ.heads{w sp m a s}(h:bJ w sp a s m){k:Nat}{v}(d:s.file (k:Int)=S v):w.cell? ⟨sp,k,O⟩=S ((a k).p:υ)/\w.cell? ⟨(a k).p,1,O⟩=S (v.h.c:υ)/\w.cell? ⟨(a k).p,3,O⟩=S (v.h.b:υ):=by
 obtain⟨f,_⟩:=h.iM d;exact⟨(h.kU d),f.cells.2.1,f.cells.2.2.2.1⟩
def og(w:ω)(b m:Nat)(qs:Nat->Qh)(s:SV)(d:aP)(e:Ending)(w':ω):Prop :=
 β w w w'/\((newF s d≠0/\e=.returned (.tuple #[.pointer O,newF s d]))\/(newF s d=0/\∃(xp cap:Nat) (a:Option Addr),e=.returned (.tuple #[xp,(0:Int)])/\w.heap.size<=xp/\(∀ g o,a=S ⟨g,o,O⟩->w.heap.size<=g)/\∀ C,JOk s C (iw s d)->RJ w' b xp a cap qs s m C (iw s d) 2))
def og.bad{w:ω}{w' c m qs s d f}(b:β w w w')(a:newF s d=f)(g:f≠0):og w c m qs s d (.returned (.tuple #[.pointer O,f])) w':=⟨b,.inl ⟨by omega,by rw[a]⟩⟩
def og.good{w wr N xp a g o cap m qs s d}(b:newF s d=0)(h:RN w N xp a g o cap qs s m d (iw s d) wr):og w a m qs s d (.returned (.tuple #[xp,(0:Int)])) wr :=
 ⟨h.bel,.inr ⟨b,xp,cap,S _,rfl,h.xw,λi f e=>by cases e;exact h.gw,λC c=>h.rj c⟩⟩
def RN.want{w wr N xp a g o cap m k qs s d}{J:JV}(h:RN w N xp a g o cap qs s m d (J.put (kN s J k)) wr)(b:k<J.n)(c:J.n<=64):RN w N xp a g o cap qs s m d (J.put (kN s J (k+1))) (wr.setCell ⟨xp,9+k,O⟩ (.bool (J.jr s (k:Int)))):=by
 refine h.put ?_ rfl;refine h.job.zK  (by omega) λq i=>?_
 show(S4.fK _ _ (k:Int) _).testBit q=_
 rw[S4.yZ];have f  := S4.TN b;by_cases e:q=k
 .simp_all
 .rw[if_neg e,if_neg (λq=>e (by omega))];rfl
def V9{y m qs s}(d w)(h:bJ w y qs s m)(a5:(s.walk d.root).2=0)(Y:(s.walk d.root).1≠[])(ac:S4.inB d.rate 1000=true)(ao:S4.inB d.burst 1000=true) :
  κ prog 83 #[y,.agg #[d.root,d.kind,d.file,d.rate,d.burst]] w (og w y m qs s d):=by
 have K:χ (β w w (w.alloc (bI d))):=(ja0 _ _).alloc (ja1 _) _;have a1:=ah (qw d w);have a6:=ah (uM d w);have HI:χ ((prog.info? 82).map (·.size)=S ([.int .i64 d.root,.int .i64 d.kind,.int .i64 d.file,.int .i64 d.rate,.int .i64 d.burst]:List υ).length):=vG;have T:=ah (wW d.root (w.alloc (bI d)) (h.below K.out));rw[a5] at T;obtain⟨hg,cj,_,_⟩:=s.walk_good d.root;have a8:=Linked.nodup _ _ (SV.sH a5)
 have ag:χ (newF s d=kP s (s.walk d.root).1 d):=by
  unfold χ newF;rw[if_neg (by rw[a5];simp),if_neg Y,ac,ao,if_neg (by decide)]
 have b1:=ah (SK (s.walk d.root).1 d.file a8);have ca:χ (newF s d=0->xP s d m):=CQ h.ok;obtain⟨r,hl⟩:=SV.Lu a5 Y;obtain⟨v,hv,cb⟩:=hg d.root (by rw[hl];exact jai);obtain⟨r0,r5,_⟩:=SV.eG hv;have E:=HV.dS (h.ok _ _ (SV.eG hv).2.2).h;have cq:=hg.iF Y
 have b3:χ ((cO s d).n=v.h.c.toNat):=by
  unfold χ;show(s.iF (s.walk d.root).1).toNat=_
  omega
 have bw:v.h.c=((cO s d).n:Int):=by rw[b3.out];omega
 have bA:(cO s d).n<=64:=by rw[b3.out];omega
 obtain⟨rk,aa⟩:∃ rk:Nat,d.root=(rk:Int):=⟨d.root.toNat,by omega⟩
 have av:χ (∀ W:ω,β w w W->W.cell? ⟨y,rk,O⟩=S ((qs rk).p:υ)/\W.cell? ⟨(qs rk).p,1,O⟩=S (.int .i64 ((cO s d).n:Int))):=λW be=>by
  have bs:=hv;rw[aa] at bs;obtain⟨e1,e2,_⟩:=(h.below be).heads bs;rw[bw] at e2;exact⟨e1,e2⟩
 have cw:(0:Int)<=(rk:Int):=by omega
 have cy:(rk:Int)<5:=by omega
 have ci:χ (∀ k:Nat,∀ u,s.file (k:Int)=S u->∀ W:ω,bJ W y qs s m->W.cell? ⟨y,k,O⟩=S ((qs k).p:υ)/\W.cell? ⟨(qs k).p,1,O⟩=S (u.h.c:υ)/\W.cell? ⟨(qs k).p,3,O⟩=S (u.h.b:υ)):=λk u hu W hW=>hW.heads hu
 have co:χ (∀ k:Nat,k<5->s.file (k:Int)=O->∀ W:ω,bJ W y qs s m->W.cell? ⟨y,k,O⟩=S (.pointer O)):=λk R hn W hW=>by
  have:=hW.cell R
  rw[SV.Bo R] at hn;rw[hn] at this;exact this
 have cd:χ (∀ k,fpQ qs s k->k<w.heap.size):=λk R=>h.iH R
 have ce:χ (y<w.heap.size):=lt_of_some h.blk;have bm:χ (∀ W:ω,β w w W->bJ W y qs s m):=λW E=>h.below E
 have bp:0<(s.walk d.root).1.length:=List.length_pos_iff.2 Y;have bO:(((s.walk d.root).1.length:Int)==0)=false:=by simp;omega
 have cr:0<=d.rate/\d.rate<=1000:=by unfold S4.inB at ac;simpa using ac
 have be:0<=d.burst/\d.burst<=1000:=by unfold S4.inB at ao;simpa using ao
 have g1:decide (d.rate<0)=false:=decide_eq_false (by omega);have g2:decide (1000<d.rate)=false:=decide_eq_false (by omega);have g3:decide (d.burst<0)=false:=decide_eq_false (by omega);have g4:decide (1000<d.burst)=false:=decide_eq_false (by omega)
 have ba:χ ((-1:Int) ∉ (s.walk d.root).1):=λhm=>by
  obtain⟨u,hu,_⟩:=hg _ hm;have:=(SV.eG hu).1
  omega
 have U:χ ((cO s d).l=(s.walk d.root).1):=rfl;have b6:χ (s.iF (s.walk d.root).1=((cO s d).n:Int)):=by unfold χ;omega
 have am:χ (∀(W:ω) (a:Option Addr) (cap:Nat),bT (W.alloc (.cells (ug y d.root d.kind d.file d.rate d.burst a (s.walk d.root).1.length cap) 198)) W.heap.size y a cap {cO s d with deep:=0,n:=0} 2):=λW a cap=>V5 (J:={cO s d with deep:=0,n:=0}) W rfl rfl rfl rfl rfl
 have ae:χ ((cO s d).deep=pJ (s.walk d.root).1 d):=rfl;have aD:χ (∀ dp:Nat,dp=(cO s d).deep->({{{cO s d with deep:=0,n:=0} with n:=(cO s d).n} with deep:=dp}:JV)=cO s d):=λdp e=>by subst e;rfl
 have bl:χ ((0:Nat)=(cO s d).deep->({{cO s d with deep:=0,n:=0} with n:=(cO s d).n}:JV)=cO s d):=λe=>by
  have:(cO s d).deep=0:=e.symm
  show(⟨(cO s d).rt,(cO s d).kind,(cO s d).file,(cO s d).rate,(cO s d).burst,(cO s d).l,0,(cO s d).n,(cO s d).x,(cO s d).last,(cO s d).stage,(cO s d).lv⟩:JV)=_
  conv=>lhs;rw[<- this]
 have b9:χ (iw s d=(cO s d).put (kN s (cO s d) (cO s d).n)):=rfl;have br:χ (cO s d=(cO s d).put (kN s (cO s d) 0)):=rfl;unfold bI at K a1 a6 T;have aq:χ (d.root=(rk:Int)):=aa;clear h hg hv cb hl E cq bw b3 a5 ac ao r0 r5;generalize bS:cO s d=t at av bA U b6 am ae aD bl b9 br;generalize ch:(s.walk d.root).1=l at T cj a8 Y ag b1 ba U b6 am ae bp bO;rw[aa] at T HI a1 K a6 |-;clear ch aa;generalize (qs rk).p=ip at av;have hz:=MG w;obtain⟨d0,d1,d2,d3,d4⟩:=a1.out _ (ja0 _ _);go_enter func83,ntmps83;go_wp2_with fail;refine T.out.mono ?_;rintro e D ⟨a,cap,rfl,ax,b7,a9⟩;have V:=ah (K.out.trans (a9.mono K.out.size));have aE:=ah a9;obtain⟨g,o,rfl,bj⟩:=ax 0 bp;have af:=ah ax;obtain⟨bk,bN⟩:=b7 g o rfl;have bE:w.heap.size<=g:=ja4 K.out.size bk;have c5:g<D.heap.size:=ja2 _ _ bj;obtain⟨q0,q1,q2,q3,q4⟩:=a1.out _ a9;have bc:=ah (a6.out _ a9);have cn:w.heap.size<D:=ja2 _ _ q0;clear ax b7 a9 T bk d0 d1 d2 d3 d4 bj hz;have hz:=MG D;have a3:=ah (am.out D (S ⟨g,o,O⟩) cap);rw[aq.out] at a3;have I:χ (β D D (D.alloc (.cells (ug y (rk:Int) d.kind d.file d.rate d.burst (S ⟨g,o,O⟩) l.length cap) 198))):=(ja0 _ _).alloc (ja1 _) _;unfold ug at a3 I;go_wp2_with (refine wpList_load_mid (by rfl) 82 (.tmp 3) (by rfl) w.heap.size 0 (by rfl) [(rk:Int),d.kind,d.file,d.rate,d.burst] _ bc.out underlying82 rfl HI.out ?_)
 generalize D.alloc (.cells ((.pointer (S ⟨y,0,O⟩)::.int .i64 (rk:Int)::.int .i64 d.kind::.int .i64 d.file::.int .i64 d.rate::.int .i64 d.burst::.slice (S ⟨g,o,O⟩) l.length cap::.int .i64 0::.int .i64 0::Value.bool false::Value.bool false::Value.bool false::Value.bool false::Value.bool false::Value.bool false::Value.bool false::Value.bool false::Value.bool false::Value.bool false::Value.bool false::Value.bool false::Value.bool false::Value.bool false::Value.bool false::Value.bool false::Value.bool false::Value.bool false::Value.bool false::Value.bool false::Value.bool false::Value.bool false::Value.bool false::Value.bool false::Value.bool false::Value.bool false::Value.bool false::Value.bool false::Value.bool false::Value.bool false::Value.bool false::Value.bool false::Value.bool false::Value.bool false::Value.bool false::Value.bool false::Value.bool false::Value.bool false::Value.bool false::Value.bool false::Value.bool false::Value.bool false::Value.bool false::Value.bool false::Value.bool false::Value.bool false::Value.bool false::Value.bool false::Value.bool false::Value.bool false::Value.bool false::Value.bool false::Value.bool false::Value.bool false::Value.bool false::Value.bool false::Value.bool false::Value.bool false::Value.bool false::Value.bool false::Value.bool false::Value.bool false::Value.bool false::Value.bool false::.int .i64 (-1)::.int .i64 2::.int .i64 d.rate::.int .i64 d.burst::.int .i64 d.burst::[]:List υ).toArray) 198)=W2 at a3 I |-;have G:χ (RN w w.heap.size D.heap.size y g o cap qs s m d {t with deep:=0,n:=0} W2):=⟨bm.out _ (V.out.trans (I.out.mono V.out.size)),a3.out,(by show Nums W2 _ t.l;rw[U.out];exact af.out.below I.out),(by rw[aq.out];exact a6.out _ (aE.out.trans (I.out.mono aE.out.size))),V.out.trans (I.out.mono V.out.size),V.out.size,by omega,bE,by omega,by show t.l.length<=cap;rw[U.out];exact bN,cd.out,ce.out,ja1 _⟩
 clear a3 I q0 q1 q2 q3 q4 hz af bc aE V a6 a1 K am bm;generalize bR:D.heap.size=xp at G c5 cn |-;have bq:χ (W2.cell? ⟨xp,8,O⟩=S (.int .i64 0)):=G.out.job.cell (i:=8) (by omega);have c8:=bq.out;have f8:=G.out.job.thaw 8;obtain⟨n0,_⟩:=G.out.cells;rw[aq.out] at n0;obtain⟨n1,n2⟩:=av.out W2 G.out.bel;have ai:χ (RN w w.heap.size xp y g o cap qs s m d {{t with deep:=0,n:=0} with n:=t.n} (W2.setCell ⟨xp,8,O⟩ (t.n:Int))):=G.put (G.job.Xx t.n) rfl;clear G bq bR;go_quiet (fail)
 go_wp2;go_loopw [10,11] (λu i wr=>∃ k:Nat,k<=l.length/\u=.int .i64 (ny l d.file k)/\i=.int .i64 (k:Int)/\RN w w.heap.size xp y g o cap qs s m d {{t with deep:=0,n:=0} with n:=t.n} wr) (λ_ i _=>l.length-(intOf i).toNat)
 case atStart=>exact⟨0,ja7 _,rfl,rfl,by first|exact ai|exact ai.drewN _|exact ai.drew⟩
 case round =>
  clear ai c8 f8 n0 n1 n2;obtain⟨k,R,rfl,rfl,F⟩:=hrel;have N:=ah F;obtain⟨n0,n1,n2,n3,n4⟩:=F.cells;rw[aq.out] at n0;by_cases aL:k<l.length
  .have cg:=F.nums k (by show k<t.l.length;rw[U.out];exact aL);obtain⟨g',o',ee,b8⟩:=cg;cases ee;have bi:wr.cell? ⟨g,o+k,O⟩=S (.int .i64 (l.getD k 0)):=by rw[<- U.out];exact b8
   have a2:χ (ny l d.file (k+1)=if l.getD k 0=d.file then (k:Int) else ny l d.file k):=rfl;clear F b8;have k0:(0:Int)<=(k:Int):=by omega
   have A:(k:Int)<(l.length:Int):=by omega
   have k2:decide ((k:Int)<(l.length:Int))=true:=decide_eq_true A;generalize ny l d.file k=la at a2;by_cases X:l.getD k 0=d.file
   .have ge:(l.getD k 0==d.file)=true:=by simpa using X
    have b4:χ (ny l d.file (k+1)=(k:Int)):=by unfold χ;rw[a2.out,if_pos X]
    clear X a2;generalize l.getD k 0=nk at bi ge;go_wp2;go_region;go_wp2;go_roundw
    case rel =>
     have fin:∃ A:Nat,A<=l.length/\Value.int .i64 (k:Int)=.int .i64 (ny l d.file A)/\Value.int .i64 ((k:Int)+1)=.int .i64 (A:Int)/\RN w w.heap.size xp y g o cap qs s m d {{t with deep:=0,n:=0} with n:=t.n} wr.drew:=⟨k+1,by omega,by rw[b4.out],by go_num,N.drew⟩
     first|exact fin|((repeat apply Exists.intro);exact⟨fin,rfl⟩)
    case measure=>simp[intOf];omega
   .have ge:(l.getD k 0==d.file)=false:=by simpa using X
    have b4:χ (ny l d.file (k+1)=la):=by unfold χ;rw[a2.out,if_neg X]
    clear X a2;generalize l.getD k 0=nk at bi ge;go_wp2;go_region;go_wp2;go_roundw
    case rel =>
     have fin:∃ A:Nat,A<=l.length/\Value.int .i64 la=.int .i64 (ny l d.file A)/\Value.int .i64 ((k:Int)+1)=.int .i64 (A:Int)/\RN w w.heap.size xp y g o cap qs s m d {{t with deep:=0,n:=0} with n:=t.n} wr.drew:=⟨k+1,by omega,by rw[b4.out],by go_num,N.drew⟩
     first|exact fin|((repeat apply Exists.intro);exact⟨fin,rfl⟩)
    case measure=>simp[intOf];omega
  .have aM:k=l.length:=by omega
   subst aM;have k2:decide ((l.length:Int)<(l.length:Int))=false:=decide_eq_false (by omega);rw[b1.out];have ar:=uP l d.file a8;have az:=Px (l:=l) (f:=d.file) a8;have aw:=Oi (l:=l) (f:=d.file);have a4:=ah F.bel;have f7:=F.job.thaw 7;have c7:wr.cell? ⟨xp,7,O⟩=S (.int .i64 0):=F.job.cell (i:=7) (by omega);have bv:=ah F.shelf;clear F a8 b1;generalize c9:Lib.idxOf l d.file=z at ar az aw
   have cu : -1<=z/\z<(l.length:Int):=by
    rcases ar with⟨e,_⟩|⟨q,e,B,_⟩
    .omega
    .omega
   by_cases M:d.kind=1
   have gk:(d.kind==1)=true:=by simpa using M
   have Z:χ (newF s d=oK s l d.file):=by unfold χ;rw[ag.out];unfold kP;rw[if_pos M]
   have bL:χ ((0:Nat)=t.deep):=by unfold χ;rw[ae.out];unfold pJ;rw[if_pos M]
   have ad:χ (s.file d.file=O->newF s d=4):=λe=>by rw[Z.out];unfold oK;rw[e]
   have bB:χ (d.file<0\/5<=d.file->s.file d.file=O):=λe=>by unfold SV.file;rw[if_neg (by omega)]
   cases H:decide (d.file<0);cases Q:decide (5<=d.file)
   rotate_left
   iterate 2
    .go_wp2;go_quiet (fail)
     go_wp2;go_ret2;exact og.bad (below_drewN a4 _) (ad (bB (by simp at *;omega))) (by decide)
   rotate_right
   have cl:=of_decide_eq_false H;have c6:=of_decide_eq_false Q;obtain⟨L,b2⟩:∃ L:Nat,d.file=(L:Int):=⟨d.file.toNat,by omega⟩;have cv:(0:Int)<=(L:Int):=by omega
   have cx:(L:Int)<5:=by omega
   rw[b2] at n2 H Q;rcases hfile:s.file d.file with _|u
   .have bX:=ah (ad hfile);rw[b2] at hfile;have nf:=co L (by omega) hfile wr bv;clear hfile;go_wp2;go_quiet (fail)
    go_wp2;go_ret2;exact og.bad (below_drewN a4 _) bX (by decide)
   have a0:χ (newF s d=if l.contains d.file=true\/u.h.b ≠ -1\/u.h.c≠s.iF l then 2 else 0):=by unfold χ;rw[Z.out];unfold oK;rw[hfile]
   rw[b6.out] at a0;rw[b2] at hfile;obtain⟨u1,u2,u3⟩:=ci L u hfile wr bv;clear hfile cl c6;generalize (qs L).p=ct at u1 u2 u3;generalize u.h.c=uc at u2 a0;generalize u.h.b=ub at u3 a0;have c0:χ (0<=z\/ub ≠ -1\/uc≠(t.n:Int)->newF s d=2):=λe=>by rw[a0.out,if_pos (e.imp_left aw.2)]
   cases gx:decide (0<=z);cases bo:(ub != -1);cases bd:(uc != (t.n:Int))
   rotate_left
   iterate 3
    .go_wp2;go_quiet (fail)
     go_wp2;go_quiet (fail)
     go_wp2;go_ret2;exact og.bad (below_drewN (below_drewN a4 _) _) (c0 (by simp at *;omega)) (by decide)
   rotate_right
   have ab:χ (newF s d=0):=by unfold χ;rw[a0.out,if_neg (by rintro(e|e|e);exact of_decide_eq_false gx (aw.1 e);simp at bo;exact e bo;simp at bd;exact e bd)]
   have P:χ (RN w w.heap.size xp y g o cap qs s m d t wr):=by have:=N;rw[bl.out bL.out] at this;exact this
   rotate_left
   have gk:(d.kind==1)=false:=by simpa using M
   by_cases an:¬(d.kind=2\/d.kind=3)
   .have H:(d.kind==2)=false:=by simp;omega
    have Q:(d.kind==3)=false:=by simp;omega
    have af:χ (newF s d=1):=by unfold χ;rw[ag.out];unfold kP;rw[if_neg M,if_neg an]
    go_wp2;go_ret2;exact og.bad a4 af (by decide)
   have an:d.kind=2\/d.kind=3:=jag an;have Z:χ (newF s d=if d.kind=2/\d.file = -1\/(l.drop 1).contains d.file=true then 0 else 4):=by unfold χ;rw[ag.out];unfold kP;rw[if_neg M,if_pos an]
   have bt:χ (t.deep=if z = -1 then l.length else z.toNat):=by unfold χ;rw[ae.out];unfold pJ;rw[if_neg M,c9]
   by_cases a7:d.kind=2/\d.file = -1
   have H:(d.kind==2)=true:=by simpa using a7.1
   have Q:(d.file == -1)=true:=by simpa using a7.2
   have ck:z = -1:=by
    rcases ar with⟨e,_⟩|⟨q,e,B,hd⟩
    .exact e
    .exfalso
     have bf:d.file∈l:=by
      rw[<- hd,ja6,ja5 B];exact jad B
     rw[a7.2] at bf;exact ba bf
   have ab:χ (newF s d=0):=by unfold χ;rw[Z.out,if_pos (.inl a7)]
   have gl:decide ((l.length:Int)<1)=false:=decide_eq_false (by omega)
   have P:χ (RN w w.heap.size xp y g o cap qs s m d t (wr.setCell ⟨xp,7,O⟩ (l.length:Int))):=by
    have:=N.put (N.job.Kr l.length) rfl
    rw[aD.out l.length (by rw[bt.out,if_pos ck])] at this;exact this
   rotate_left
   have bh:χ (newF s d=if 1<=z then 0 else 4):=by
    unfold χ;rw[Z.out];by_cases e:1<=z
    .rw[if_pos (.inr (az.2 e)),if_pos e]
    .rw[if_neg (by rintro(x|x);exact a7 x;exact e (az.1 x)),if_neg e]
   have bn:(d.kind==2)=true/\(d.file == -1)=false\/(d.kind==2)=false/\(d.kind==3)=true:=by simp;omega
   by_cases b5:¬1<=z
   .have gl:decide (z<1)=true:=decide_eq_true (by omega);have ad:χ (newF s d=4):=by unfold χ;rw[bh.out,if_neg b5]
    rcases bn with⟨H,Q⟩|⟨H,gc⟩
    all_goals
     go_wp2;go_ret2;exact og.bad a4 ad (by decide)
   have b5:1<=z:=by omega
   have gl:decide (z<1)=false:=decide_eq_false (by omega);have ab:χ (newF s d=0):=by unfold χ;rw[bh.out,if_pos b5]
   obtain⟨xk,bb⟩:∃ xk:Nat,z=(xk:Int):=⟨z.toNat,by omega⟩
   have P:χ (RN w w.heap.size xp y g o cap qs s m d t (wr.setCell ⟨xp,7,O⟩ z)):=by
    have:=N.put (N.job.Kr xk) rfl
    rw[aD.out xk (by rw[bt.out,if_neg (by omega)];omega),<- bb] at this;exact this
   clear bb;rcases bn with⟨H,Q⟩|⟨H,gc⟩
   all_goals
    go_wp2
    (try (go_quiet (fail);go_wp2;go_quiet (fail);go_wp2))
    go_loopw [12] (λi wr=>∃ k:Nat,k<=t.n/\i=.int .i64 (k:Int)/\RN w w.heap.size xp y g o cap qs s m d (t.put (kN s t k)) wr) (λi _=>t.n-(intOf i).toNat)
    case atStart=>exact⟨0,ja7 _,rfl,by rw[<- br.out];first|exact P|exact P.drewN _|exact(P.drewN _).drewN _|exact P.drew⟩
    case round =>
     obtain⟨k,R,rfl,B⟩:=hrel;obtain⟨C,hJ,_,_⟩:=(ca ab).jok;rw[bS] at hJ;have HQ:=ah B;by_cases aL:k<t.n
     .have b0:χ (∀ W:ω,β wr wr W->κ prog 157 #[xp,(k:Int)] W λe w'=>e=.returned (.bool (t.jr s (k:Int)))/\β W W w'):=λW E=>JR (j:=t.put (kN s t k)) (k:Int) W ((B.below E).rj (hJ.newX k))
      have al:χ (∀ W:ω,β wr wr W->RN w w.heap.size xp y g o cap qs s m d (t.put (kN s t (k+1))) (W.setCell ⟨xp,9+k,O⟩ (.bool (t.jr s (k:Int))))/\W.cell? ⟨xp,9+k,O⟩=S (.bool ((kN s t k).testBit k))/\W.frozen? ⟨xp,9+k,O⟩=false):=λW E=>⟨(B.below E).want aL bA,by rw[(B.below E).job.cell (i:=9+k) (by omega),wR (by omega)];rfl,(B.below E).job.thaw _⟩
      have k0:(0:Int)<=(k:Int):=by omega
      have cs:(k:Int)<64:=by omega
      have A:decide ((k:Int)<(t.n:Int))=true:=decide_eq_true (by omega);have aR:χ (β wr wr wr.drew):=(ja0 _ _).drew;clear B hJ;generalize t.jr s (k:Int)=wb at b0 al;generalize (kN s t k).testBit k=ob at al;go_wp2
      go_region_held3 (λW=>True)
       (first|exact trivial)
       (first
         | (go_at_call 157;refine(b0 _ aR).mono ?_;rintro e w5 ⟨rfl,bu⟩;have cm:=ah (aR.trans (bu.mono aR.size));have ap:=al _ cm;have cc:=ap.2.1;have ff:=ap.2.2;have cp:=ah ap.1;clear ap bu))
      clear b0 al HQ cc ff;go_wp2;go_roundw
      case rel =>
       have fin:∃ A:Nat,A<=t.n/\Value.int .i64 ((k:Int)+1)=.int .i64 (A:Int)/\RN w w.heap.size xp y g o cap qs s m d (t.put (kN s t A)) (w5.setCell ⟨xp,9+k,O⟩ wb):=⟨k+1,by omega,by go_num,cp⟩
       first|exact fin|((repeat apply Exists.intro);exact⟨fin,rfl⟩)
      case measure=>simp[intOf];omega
     .have aM:k=t.n:=by omega
      have A:decide ((k:Int)<(t.n:Int))=false:=decide_eq_false (by omega);have cf:χ (RN w w.heap.size xp y g o cap qs s m d (iw s d) wr):=by unfold χ;rw[b9.out,<- aM];exact HQ
      clear B HQ hJ;go_wp2;go_ret2;exact og.good ab cf
structure Zj where
 xp:Nat
 a:Option Addr
 cap:Nat
structure Zh where
 ds:Nat->Rh
 tp:Rh
 qs:Nat->Qh
 sp:Nat
 la:Option Addr
 lc:Nat
 jb:Zj
def Zh.fpF(Z:Zh)(s:SV)(i k:Nat):Prop:=match s i with
 | none=>(Z.ds i).fp k
 | some _=>(Z.qs i).fp k
def Zh.dp(Z:Zh)(s:SV)(i:Nat):Nat:=match s i with
 | none=>(Z.ds i).p
 | some _=>(Z.qs i).d.p
def Zh.dN{Z:Zh}{s i k}(h:s i=O):Z.fpF s i k=(Z.ds i).fp k:=by unfold Zh.fpF;rw[h]
def Zh.eY{Z:Zh}{s i k v}(h:s i=S v):Z.fpF s i k=(Z.qs i).fp k:=by unfold Zh.fpF;rw[h]
def Zh.dp_none{Z:Zh}{s i}(h:s i=O):Z.dp s i=(Z.ds i).p:=by unfold Zh.dp;rw[h]
def Zh.lX{Z:Zh}{s i v}(h:s i=S v):Z.dp s i=(Z.qs i).d.p:=by unfold Zh.dp;rw[h]
def Zj.fp(b:Zj)(j:Option JV)(k:Nat):Prop:=j≠O/\k=b.xp
def fpZ(a:Nat)(Z:Zh)(y:YV)(k:Nat):Prop:=k=a\/k=Z.sp\/(∃ i,i<5/\Z.fpF y.s i k)\/Z.tp.fp k\/Z.jb.fp y.j k
def sQ(b:Zj):Option JV->υ
 | none=>.pointer O
 | some _=>.pointer (S ⟨b.xp,0,O⟩)
structure kH(w:ω)(yp:Nat)(Z:Zh)(s:SV)(d:aP)(n:Nat)(jv:υ):Prop where
 is:∃ cur,w.heap[yp]?=S (.cells cur 92 (0,0))/\(∀ i,i<5->cur[i]?=S (Z.dp s i:υ))/\cur[5]?=S (Z.tp.p:υ)/\cur[6]?=S (Z.sp:υ) /\
  cur[7]?=S (d.root:υ)/\cur[8]?=S (d.kind:υ)/\cur[9]?=S (d.file:υ)/\cur[10]?=S (d.rate:υ)/\cur[11]?=S (d.burst:υ)/\cur[12]?=S (.slice Z.la n Z.lc)/\cur[13]?=S jv
structure au(w:ω)(yp:Nat)(Z:Zh)(y:YV):Prop where
 blk:kH w yp Z y.s y.kd y.l.length (sQ Z.jb y.j)
 shf:w.heap[Z.sp]?=S (.cells #[bZ (Z.qs 0) (y.s 0),bZ (Z.qs 1) (y.s 1),bZ (Z.qs 2) (y.s 2),bZ (Z.qs 3) (y.s 3),bZ (Z.qs 4) (y.s 4)] 87 (0,0))
 img:∀ i v,i<5->y.s i=S v->aU Gd.no w (Z.qs i) v
 dev:∀ i,i<5->y.s i=O->dh Gd.no w (Z.ds i) (y.dv i)
 top:dh Gd.no w Z.tp y.top
 apart:∀ i j,i<5->j<5->i≠j->∀ k,Z.fpF y.s i k->¬Z.fpF y.s j k
 apTop:∀ i,i<5->∀ k,Z.tp.fp k->¬Z.fpF y.s i k
 list:Nums w Z.la y.l/\(∀ g o,Z.la=S ⟨g,o,O⟩->g<w.heap.size)/\Apart Z.la (fpZ yp Z y)
 job:∀ j,y.j=S j->bT w Z.jb.xp Z.sp Z.jb.a Z.jb.cap j j.state/\Nums w Z.jb.a j.l/\j.l≠[]/\j.l.length<=Z.jb.cap/\Apart Z.jb.a (fpZ yp Z y)
def kH.lt{w a n Z s d f}(h:kH w a Z s d n f):a<w:=by
 obtain⟨c,b,_⟩:=h.is;exact lt_of_some b
def kH.keep{w w' a n Z s d b}(h:kH w a Z s d n b)(e:w'.heap[a]?=w.heap[a]?):kH w' a Z s d n b:=⟨by rw[e];exact h.is⟩
def kH.cells{w a n Z s d g}(h:kH w a Z s d n g) :
  (∀ i,i<5->w.cell? ⟨a,i,O⟩=S (Z.dp s i:υ))/\w.cell? ⟨a,5,O⟩=S (Z.tp.p:υ)/\w.cell? ⟨a,6,O⟩=S (Z.sp:υ)/\w.cell? ⟨a,7,O⟩=S (d.root:υ)/\w.cell? ⟨a,8,O⟩=S (d.kind:υ)/\w.cell? ⟨a,9,O⟩=S (d.file:υ)/\w.cell? ⟨a,10,O⟩=S (d.rate:υ)/\w.cell? ⟨a,11,O⟩=S (d.burst:υ)/\w.cell? ⟨a,12,O⟩=S (.slice Z.la n Z.lc)/\w.cell? ⟨a,13,O⟩=S g/\∀ i,w.frozen? ⟨a,i,O⟩=false:=by
 obtain⟨c,f,k,l,t,v,o,u,j,q,r,x⟩:=h.is;have b:∀ i,w.cell? _=c[i]?:=λi=>cell_of_row w a _ _ _ _ f
 exact⟨λi m=>(b i).trans (k i m),(b 5).trans l,(b 6).trans t,(b 7).trans v,(b 8).trans o,(b 9).trans u,(b 10).trans j,(b 11).trans q,(b 12).trans r,(b 13).trans x,λi=>frozen_of_row w a i _ _ f⟩
def dh.oZ{B w h d}(hd:dh B w h d){k a t}(i:w.heap[k]?=S (.cells a t (0,0)))(g:¬(t=127\/t=9\/t=3\/t=146\/t=168)):¬h.fp k:=λb=>by
 obtain⟨f,t2,c,p⟩:=hd.kinds k b;simp_all
def au.lY{w d Z y}(h:au w d Z y){i k}(c:i<5)(b:Z.fpF y.s i k):k<w:=by
 cases a:y.s i with
 | none=>rw[Zh.dN a] at *;exact((h.dev i c a).lt k b).2
 | some v=>rw[Zh.eY a] at *;exact(h.img i v c a).iH k b
def au.rG{w g Z y}(h:au w g Z y){i k}(b:i<5){f t}(d:w.heap[k]?=S (.cells f t (0,0)))(c:¬(t=127\/t=9\/t=3\/t=146\/t=168)):¬Z.fpF y.s i k:=by
 cases a:y.s i with
 | none=>rw[Zh.dN a];exact(h.dev i b a).oZ d c
 | some v=>rw[Zh.eY a];exact(h.img i v b a).wG d c
def au.yM{w b Z y}(h:au w b Z y)(c:y.j≠O):∃ a,w.heap[Z.jb.xp]?=S (.cells a 198 (0,0)):=by
 cases e:y.j with
 | none=>simp_all
 | some j =>
  obtain⟨a,d,_⟩:=(h.job j e).1.blk;simp_all
def au.gG{w b Z y}(h:au w b Z y){k}(a:fpZ b Z y k):k<w:=by
 rcases a with rfl|rfl|⟨i,f,a⟩|a|⟨c,rfl⟩
 .exact h.blk.lt
 .exact lt_of_some h.shf
 .exact h.lY f a
 .exact(h.top.lt k a).2
 .obtain⟨g,d⟩:=h.yM c;exact lt_of_some d
def au.lC{w a Z y}(h:au w a Z y):a≠Z.sp/\(∀ i,i<5->¬Z.fpF y.s i a)/\¬Z.tp.fp a/\¬Z.jb.fp y.j a:=by
 obtain⟨c,b,_⟩:=h.blk.is;refine⟨λe=>?_,λi g=>h.rG g b (by decide),h.top.oZ b (by decide),λ⟨d,l⟩=>?_⟩
 .have f:=h.shf;simp_all
 .obtain⟨k,f⟩:=h.yM d;simp_all
def au.pY{w b Z y}(h:au w b Z y):(∀ i,i<5->¬Z.fpF y.s i Z.sp)/\¬Z.tp.fp Z.sp/\¬Z.jb.fp y.j Z.sp:=by
 refine⟨λi c=>h.rG c h.shf (by decide),h.top.oZ h.shf (by decide),λ⟨a,f⟩=>?_⟩;obtain⟨d,g⟩:=h.yM a;have k:=h.shf;simp_all
def au.kW{w d Z y}(h:au w d Z y){k}(b:Z.jb.fp y.j k):(∀ i,i<5->¬Z.fpF y.s i k)/\¬Z.tp.fp k:=by
 obtain⟨c,rfl⟩:=b;obtain⟨g,a⟩:=h.yM c;exact⟨λi f=>h.rG f a (by decide),h.top.oZ a (by decide)⟩
def au.inS{w d Z y}(g:au w d Z y){k}(b:fpQ Z.qs y.s k):∃ i,i<5/\Z.fpF y.s i k:=by
 obtain⟨i,f,j,a⟩:=b
 cases c:y.s i with
 | none=>simp_all
 | some v=>exact⟨i,f,by rw[Zh.eY c];exact a⟩
def au.shelf{w b m Z y}(h:au w b Z y)(g:y.s.ok m):bJ w Z.sp Z.qs y.s m:=by
 refine⟨h.shf,h.img,g,λi j f n d q r k l a=>?_⟩
 cases o:y.s i with
 | none=>simp_all
 | some v =>
  cases c:y.s j with
  | none=>simp_all
  | some u=>exact h.apart i j f n d k (by rw[Zh.eY o];exact l) (by rw[Zh.eY c];exact a)
def au.rj{w d m C Z y j}(h:au w d Z y)(i:y.s.ok m)(k:y.j=S j)(f:JOk y.s C j):RJ w Z.sp Z.jb.xp Z.jb.a Z.jb.cap Z.qs y.s m C j j.state:=by
 obtain⟨n,c,r,l,q⟩:=h.job j k;refine⟨h.shelf i,n,c,λg o e b=>q g o e ?_,f,l⟩;rcases b with b|b
 .exact .inr (.inr (.inl (h.inS b)))
 .exact .inr (.inr (.inr (.inr ⟨(by simp_all),b⟩)))
def TG{w w':ω}{g:Nat}(e:w'.heap[g]?=w.heap[g]?)(h:g<w):g<w':=by
 rcases jav g _ with q|q
 .exact q
 .simp_all
def Apart.CP{S b}{w:ω}{w' a}(d:Apart a S)(f:∀ g o,a=some ⟨g,o,O⟩->g<w)(c:Moved S w b w'):Apart a b:=λg o e=>c.out (f g o e) (d g o e)
theorem au.keep{w w' l Z y}(h:au w l Z y)(b:∀ k,fpZ l Z y k->w'.heap[k]?=w.heap[k]?)(m:∀ g o,Z.la=S ⟨g,o,O⟩->g<w->w'.heap[g]?=w.heap[g]?)(u:∀ g o,Z.jb.a=S ⟨g,o,O⟩->g<w->w'.heap[g]?=w.heap[g]?):au w' l Z y :=
 ⟨h.blk.keep (b _ (.inl rfl)),(b _ (.inr (.inl rfl))).trans h.shf,λi v d f=>(h.img i v d f).aY λk c=>b k (.inr (.inr (.inl ⟨i,d,by rw[Zh.eY f];exact c⟩))),λi d f=>(h.dev i d f).keep λk c=>b k (.inr (.inr (.inl ⟨i,d,by rw[Zh.dN f];exact c⟩))),h.top.keep λk c=>b k (.inr (.inr (.inr (.inl c)))),h.apart,h.apTop,
  ⟨h.list.1.keep λg o e=>m g o e (h.list.2.1 g o e),λg o e=>TG (m g o e (h.list.2.1 g o e)) (h.list.2.1 g o e),h.list.2.2⟩,λj s=>by
  obtain⟨x,n,q,t,z⟩:=h.job j s;have r:y.j≠none:=by simp_all
  exact⟨x.keep (b _ (.inr (.inr (.inr (.inr ⟨r,rfl⟩))))),n.keep λg o e=>u g o e (n.lt q e),q,t,z⟩⟩
def au.below{w w' c Z y}(h:au w c Z y)(b:β w w w'):au w' c Z y :=
 h.keep (λ_ d=>b.block _ (h.gG d)) (λ_ _ _ a=>b.block _ a) λ_ _ _ a=>b.block _ a
def bY(b:Nat)(Z:Zh)(y y':YV)(w w':ω):Prop:=∃ Z':Zh,(Z'.la=Z.la\/∀ g o,Z'.la=S ⟨g,o,O⟩->w.heap.size<=g/\g<w'.heap.size)/\(Z'.jb.a=Z.jb.a\/∀ g o,Z'.jb.a=S ⟨g,o,O⟩->w.heap.size<=g/\g<w'.heap.size)/\au w' b Z' y'/\Moved (fpZ b Z y) w (fpZ b Z' y') w'
theorem bY.of_below{w w' a Z y}(h:au w a Z y)(b:β w w w'):bY a Z y y w w':=⟨Z,.inl rfl,.inl rfl,h.below b,Moved.of_below b⟩
structure oO(Z Z':Zh):Prop where
 la:Z'.la=Z.la
 lc:Z'.lc=Z.lc
 jb:Z'.jb=Z.jb
 sp:Z'.sp=Z.sp
 tp:Z'.tp.p=Z.tp.p
def oO.refl(Z):oO Z Z:=⟨rfl,rfl,rfl,rfl,rfl⟩
theorem oO.trans{Z d c}(a:oO Z d)(b:oO d c):oO Z c:=⟨b.la.trans a.la,b.lc.trans a.lc,b.jb.trans a.jb,b.sp.trans a.sp,b.tp.trans a.tp⟩
def aF(a:Nat)(Z:Zh)(y y':YV)(w w':ω):Prop:=∃ Z':Zh,oO Z Z'/\au w' a Z' y'/\Moved (fpZ a Z y) w (fpZ a Z' y') w'
def aF.out{w w' a Z y z}(h:aF a Z y z w w'):bY a Z y z w w':=by
 obtain⟨Z',b,d,c⟩:=h;exact⟨Z',.inl b.la,.inl (by rw[b.jb]),d,c⟩
theorem aF.refl{w a Z y}(h:au w a Z y):aF a Z y y w w:=⟨Z,.refl Z,h,Moved.refl _ _⟩
theorem aF.below{w w' a Z y}(h:au w a Z y)(b:β w w w'):aF a Z y y w w':=⟨Z,.refl Z,h.below b,Moved.of_below b⟩
theorem aF.trans{w c w' a Z b y y1 y'}(f:oO Z b)(d:Moved (fpZ a Z y) w (fpZ a b y1) c)(h:aF a b y1 y' c w'):aF a Z y y' w w':=by
 obtain⟨Z',j,i,g⟩:=h;exact⟨Z',f.trans j,i,d.trans g⟩
def aF.from{w:ω}{a w' b Z y y'}(g:β w w a)(h:aF b Z y y' a w'):aF b Z y y' w w':=by
 obtain⟨Z',f,d,c⟩:=h;exact⟨Z',f,d,(Moved.of_below g).trans c⟩
def JV.KU{j:JV}:j.state<4↔j.stage<4:=by
 unfold JV.state;omega
def sN{f Z y}(w)(h:au w f Z y) :
  κ prog 122 #[f] w λe w'=>e=.returned y.busy/\w'=w:=by
 obtain⟨_,_,_,_,_,_,_,_,_,c,_⟩:=h.blk.cells
 cases a:y.j with
 | none =>
  rw[a] at c;have g:w.cell? _=S (.pointer O):=c;have d:y.busy=false:=by unfold YV.busy;rw[a]
  rw[d];clear h c a d;go_enter func122,ntmps122;go_wp2;go_ret;exact⟨rfl,rfl⟩
 | some j =>
  rw[a] at c;have g:w.cell? _=S (.pointer _):=c;have i:=ah (VY w (h.job j a).1);have d:y.busy=decide (j.state<4):=by unfold YV.busy;rw[a];exact decide_eq_decide.2 JV.KU.symm
  rw[d];clear h c a d;generalize decide (j.state<4)=b at *
  go_enter func122,ntmps122;go_wp2_with fail;refine cSt i ?_;go_wp2;go_ret;exact⟨rfl,rfl⟩
def kar{g Z y}(w)(h:au w g Z y) :
  κ prog 68 #[g] w λe w' =>
   e=.returned (match y.j with|none=>.agg #[(0:Int),(-1:Int),(0:Int),(0:Int)] | some j=>.agg #[j.kind,j.file,j.state,.int .i64 (S4.cnt j.x 64:Nat)])/\β w w w':=by
 obtain⟨_,_,_,_,_,_,_,_,_,f,_⟩:=h.blk.cells
 cases d:y.j with
 | none =>
  rw[d] at f;unfold sQ at *
  have k:=h.blk.lt;go_enter func68,ntmps68;go_wp2;exact bodyPost_ret (v:=.agg #[(0:Int),(-1:Int),(0:Int),(0:Int)]) (by simp[results,results68,go_sem]) rfl ⟨rfl,(ja0 _ _).alloc (ja1 _) _⟩
 | some j =>
  have k:=h.blk.lt;have c:χ (β _ w (w.alloc (.cells #[(0:Int),(0:Int),(0:Int),(0:Int)] 120))):=(ja0 _ _).alloc (ja1 _) _;rw[d] at f;unfold sQ at *
  go_enter func68,ntmps68;go_wp2_with fail;refine cEq (WC _ (((h.below c).job j d).1)) λa i=>?_
  have b  := (i.block _ (by simp)).trans (heap_alloc_new w _);have l:a.cell? ⟨w,0,O⟩=S (.int .i64 0):=by rw[cell_of_row _ _ _ _ _ _ b];rfl
  have m:a.cell? ⟨w,1,O⟩=S (.int .i64 0):=by rw[cell_of_row _ _ _ _ _ _ b];rfl
  have q2:a.cell? ⟨w,2,O⟩=S (.int .i64 0):=by rw[cell_of_row _ _ _ _ _ _ b];rfl
  have n:a.cell? ⟨w,3,O⟩=S (.int .i64 0):=by rw[cell_of_row _ _ _ _ _ _ b];rfl
  have o:=frozen_of_row a _ 0 _ _ b;have r:=frozen_of_row a _ 1 _ _ b;have q:=frozen_of_row a _ 2 _ _ b;have s:=frozen_of_row a _ 3 _ _ b;go_wp2;exact bodyPost_ret  (by simp[results,results68,go_sem,l,m,q2,n]) rfl ⟨rfl,((((c.trans (i.mono c.size)).setCell (ja1 _) _).setCell (ja1 _) _).setCell (ja1 _) _).setCell (ja1 _) _⟩
def au.Hq{w w' c Z y j j'}(h:au w c Z y)(A:y.j=S j)(f:Kept (λk=>k=Z.jb.xp) w w')(E:bT w' Z.jb.xp Z.sp Z.jb.a Z.jb.cap j' j'.state)(C:j'.l=j.l) :
  au w' c Z {y with j:=S j'}/\Moved (fpZ c Z y) w (fpZ c Z {y with j:=S j'}) w':=by
 have q:y.j≠none:=by simp_all
 have r:∀ k,fpZ c Z {y with j:=S j'} k↔fpZ c Z y k:=λk=>by
  constructor
  .rintro(e|e|e|e|e)
   .exact .inl e
   .exact .inr (.inl e)
   .exact .inr (.inr (.inl e))
   .exact .inr (.inr (.inr (.inl e)))
   .exact .inr (.inr (.inr (.inr ⟨q,e.2⟩)))
  .rintro(e|e|e|e|e)
   .exact .inl e
   .exact .inr (.inl e)
   .exact .inr (.inr (.inl e))
   .exact .inr (.inr (.inr (.inl e)))
   .exact .inr (.inr (.inr (.inr ⟨(by simp_all),e.2⟩)))
 have x:Z.jb.fp _ _:=⟨q,rfl⟩;obtain⟨z,I⟩:=h.kW x;have n:Moved _ w _ w':=⟨f.mono λk _ e=>by subst e;exact .inr (.inr (.inr (.inr x))),λk e=>.inl ((r k).1 e)⟩;obtain⟨J,D,F,H,B⟩:=h.job j A;have u:=h.blk.keep (f.block c h.blk.lt (λe=>h.lC.2.2.2 ⟨q,e⟩));rw[A] at u;refine⟨⟨u,(f.block _ (lt_of_some h.shf) (λe=>h.pY.2.2 ⟨q,e⟩)).trans h.shf,λi v d m=>(h.img i v d m).aY λk b=>?_,λi d m=>(h.dev i d m).keep λk b=>?_,h.top.keep λk b=>?_,h.apart,h.apTop,⟨h.list.1.moved n h.list.2.2,λg o e=>ja8 (h.list.2.1 g o e) n.size,λg o e b=>h.list.2.2 g o e ((r g).1 b)⟩,λa G=>?_⟩,n⟩
 .have t:Z.fpF y.s i k:=by rw[Zh.eY m];exact b
  exact f.block k (h.lY d t) λe=>z i d (by simp_all)
 .have t:Z.fpF y.s i k:=by rw[Zh.dN m];exact b
  exact f.block k (h.lY d t) λe=>z i d (by simp_all)
 .exact f.block k (h.top.lt k b).2 λe=>I (by simp_all)
 .cases G;rw[C];exact⟨E,D.moved n B,F,H,λg o e b=>B g o e ((r g).1 b)⟩
def au.qL{w w' n Z y}(h:au w n Z y){m r}(hd:dh Gd.no w' m r)(I:m.p=Z.tp.p)(f:Moved Z.tp.fp w m.fp w') :
  au w' n {Z with tp:=m} {y with top:=r}/\Moved (fpZ n Z y) w (fpZ n {Z with tp:=m} {y with top:=r}) w':=by
 obtain⟨_,_,H,_⟩:=h.lC;obtain⟨_,B,_⟩:=h.pY
 have l:Moved (fpZ n Z y) w (fpZ n {Z with tp:=m} _) w':=⟨f.kept.mono λk _ a=>.inr (.inr (.inr (.inl a))),λk a=>by
  rcases a with a|a|a|a|a
  .exact .inl (.inl a)
  .exact .inl (.inr (.inl a))
  .exact .inl (.inr (.inr (.inl a)))
  .rcases f.new k a with d|d
   .exact .inl (.inr (.inr (.inr (.inl d))))
   omega
  .exact .inl (.inr (.inr (.inr (.inr a))))⟩
 have x:=λi (b:i<5) k (a:Z.fpF _ i k)=>f.block (h.lY b a) λe=>h.apTop i b k e a
 refine⟨⟨?_,(f.block (lt_of_some h.shf) B).trans h.shf,λi v b q=>(h.img i v b q).aY λk a=>x i b k (by rw[Zh.eY q];exact a),λi b q=>(h.dev i b q).keep λk a=>x i b k (by rw[Zh.dN q];exact a),hd,h.apart,λi b k a s=>?_,⟨h.list.1.moved l h.list.2.2,λg o e=>ja8 (h.list.2.1 g o e) l.size,h.list.2.2.CP h.list.2.1 l⟩,λj G=>?_⟩,l⟩
 .obtain⟨c,d,C,J,E⟩:=h.blk.is;exact⟨c,(f.block h.blk.lt H).trans d,C,by simp_all,E⟩
 .rcases f.new k a with d|d
  .exact h.apTop i b k d s
  .have:=h.lY b s;omega
 .obtain⟨t,z,A,D,u⟩:=h.job j G;have F:y.j≠none:=by simp_all
  exact⟨t.keep (f.block t.lt (h.kW ⟨F,rfl⟩).2),z.moved l u,A,D,u.moved z A l⟩
def kat{b C m Z y}(n:Int)(w)(h:au w b Z y)(t:YOk y C m) :
  κ prog 60 #[b,n] w λe w'=>e=.returned (YV.nX n)/\aF b Z y (y.tick n) w w':=by
 have k:=ah (sN w h);have f:χ (aF b Z y y w w):=aF.below h (ja0 _ _);obtain⟨_,_,_,_,_,_,_,_,_,l,_⟩:=h.blk.cells;unfold YV.nX
 cases q:S4.inB n 100000 with
 | false =>
  have E:y.tick n=y:=by
   unfold YV.tick;split
   .cases a:y.j with
    | none =>
     show({y with j:=O}:YV)=y
     rw[<- a]
    | some j =>
     show({y with j:=S (kM j n)}:YV)=y
     rw[show kM j n=j by unfold kM;rw[if_neg (by rw[q];decide)],<- a]
   .rfl
  rw[E,if_neg (by decide)];have I:n<0\/100000<n:=by unfold S4.inB at *;simp at *;omega
  by_cases N:n<0
  .go_enter func60,ntmps60;go_wp2;go_ret;exact⟨rfl,f⟩
  .go_enter func60,ntmps60;go_wp2;go_ret;exact⟨rfl,f⟩
 | true =>
  have I:0<=n/\n<=100000:=by unfold S4.inB at *;simp at *;omega
  rw[if_pos rfl];by_cases c:y.busy=true
  .obtain⟨j,a,A⟩:=mZ c;rw[c] at k;have r:=(t.job j a A).ok;have i:=r.lv;have g:y.tick n={y with j:=S (kM j n)}:=by unfold YV.tick;rw[if_pos c,a];rfl
   have d:({j with lv:=S4.gU j.rate j.burst j.lv ((n.toNat:Nat):Int)}:JV)=kM j n:=by unfold kM;rw[q,if_pos rfl,show((n.toNat:Nat):Int)=n by omega]
   rw[a] at l;have Q:w.cell? ⟨b,13,O⟩=S (Z.jb.xp:υ):=l;obtain⟨P,s,u⟩:=(h.job j a).1.bkt
   have B:χ (κ prog 135 #[.pointer (S ⟨Z.jb.xp,75,O⟩),n] w λe w'=>(∃ v,e=.returned v)/\aF b Z y (y.tick n) w w'):=by
    have:=S4.Vf n.toNat w s (by omega) r.rate ⟨i.1,i.2.1⟩ i.2.2
    rw[show((n.toNat:Nat):Int)=n by omega] at this;refine this.mono ?_;rintro e w' ⟨K,D,x⟩;refine⟨K,?_⟩;have o:=bT.ofB D u;rw[show n=((n.toNat:Nat):Int) by omega,d] at o;have H:(kM j n).state=j.state:=by rw[<- d];rfl
    rw[<- H] at o;obtain⟨G,z⟩:=h.Hq a (Kept.of4 x) o (by rw[<- d]);rw[g];exact⟨Z,.refl Z,G,z⟩
   generalize y.tick n=y' at *
   clear h t f l s u r i g d q;go_enter func60,ntmps60;go_wp2_with fail;refine cSt k ?_;go_wp2_with fail;refine B.mono ?_;rintro e M ⟨⟨v,rfl⟩,F⟩;have L:=ah F;go_wp2;go_ret;exact⟨rfl,L⟩
  .have J:y.busy=false:=by simpa using c
   rw[J] at *
   have g:y.tick n=y:=by unfold YV.tick;rw[if_neg c]
   rw[g];go_enter func60,ntmps60;go_wp2_with fail;refine cSt k ?_;go_wp2;go_ret;exact⟨rfl,f⟩
def dh.ou{B w h d}(hd:dh B w h d):dh (Gd.but w h.fp) w h d:=⟨hd.todR,λ_ a b=>b.2 a⟩
def dh.noG{B w h d}(hd:dh B w h d):dh Gd.no w h d:=⟨hd.todR,λ_ _ a=>a⟩
def dh.moved{w w'}{h:Rh}{a d T}(hd:dh (Gd.but w h.fp) w' a d)(b:Kept T w w')(c:∀ k,T k->¬(Gd.but w h.fp).g k):Moved h.fp w a.fp w':=oz b c hd.out
def kav{c m Z y}(s:ByteArray)(w)(h:au w c Z y)(b:y.top.fine y.top.fl.length m)(l:m<1000000000)(j:s.size=16) :
  κ prog 109 #[Z.tp.p,(0:Int),s] w λe w'=>e=.returned y.top.aV/\aF c Z y {y with top:=y.top.put 0 s.data.toList} w w':=by
 refine(vw 0 s w h.top.ou b l (ja1 _) j (by have:=b.ok.n1;omega)).mono ?_;rintro e w' ⟨q,rfl,a,d,f,_⟩;obtain⟨g,o⟩:=h.qL d.noG a (d.moved f λk n i=>i.2 n);exact⟨rfl,{Z with tp:=q},⟨rfl,rfl,rfl,rfl,a⟩,g,o⟩
def kau{b m Z y}(w)(h:au w b Z y)(a:y.top.fine y.top.fl.length m) :
  κ prog 110 #[Z.tp.p] w λe w'=>e=.returned (.tuple #[])/\aF b Z y {y with top:=y.top.flushed} w w':=by
 refine(zo w h.top.todR a.ok a.sn).mono ?_;rintro e w' ⟨rfl,i,f⟩;have c  := h.top.ou.nilled i;obtain⟨g,j⟩:=h.qL c.noG rfl (c.moved f λk d l=>l.2 d);exact⟨rfl,{Z with tp:={Z.tp with v1:=.slice _ 0 0,v2:=.slice _ 0 0}},⟨rfl,rfl,rfl,rfl,rfl⟩,g,j⟩
def WB{w:ω}{w' sp m' a}{qs:Nat->Qh}{z s:SV}(d:bJ w' sp a z m')(j:w'.heap[sp]?=w.heap[sp]?)(h:w.heap[sp]?=S (.cells #[bZ (qs 0) (s 0),bZ (qs 1) (s 1),bZ (qs 2) (s 2),bZ (qs 3) (s 3),bZ (qs 4) (s 4)] 87 (0,0))):∀ i,i<5->(z i=O↔s i=O):=by
 have k:=d.blk
 have g:∀ i,bZ (qs i) (s i)=bZ (a i) (z i)->(z i=O↔s i=O):=λi e=>by
  cases c:z i with
  | none =>
   cases b:s i with
   | none=>simp_all
   | some v=>rw[c,b] at e;cases e
  | some u =>
   cases b:s i with
   | none=>rw[c,b] at e;cases e
   | some v=>simp_all
 have l:(#[bZ (qs 0) (s 0),bZ (qs 1) (s 1),bZ (qs 2) (s 2),bZ (qs 3) (s 3),bZ (qs 4) (s 4)]:Array _) = #[bZ (a 0) (z 0),bZ (a 1) (z 1),bZ (a 2) (z 2),bZ (a 3) (z 3),bZ (a 4) (z 4)]:=by
  simp_all
 intro i f
 match i,f with
 | 0,_=>simp_all
 | 1,_=>simp_all
 | 2,_=>simp_all
 | 3,_=>simp_all
 | 4,_=>simp_all
def au.lG{S U w w' F m' Z y qs' z j'}(h:au w F Z y)(P:bJ w' Z.sp qs' z m')(J:Moved S w U w')
  (ac:∀ i,i<5->y.s i≠O->z i≠O/\(qs' i).d.p=(Z.qs i).d.p)
  (hS:∀ k,S k->fpQ Z.qs y.s k\/Z.jb.fp y.j k) (aa:∀ k,fpQ qs' z k\/Z.jb.fp y.j k->U k\/k<w/\(fpQ Z.qs y.s k\/Z.jb.fp y.j k)) (T:j'=O↔y.j=O)
  (hj:∀ a,j'=some a->∃ j,y.j=some j/\a.l=j.l/\bT w' Z.jb.xp Z.sp Z.jb.a Z.jb.cap a a.state) :
  au w' F {Z with qs:=qs'} {y with s:=z,j:=j'}/\Moved (fpZ F Z y) w (fpZ F {Z with qs:=qs'} {y with s:=z,j:=j'}) w':=by
 obtain⟨_,n1,n2,n3⟩:=h.lC;obtain⟨m1,m2,m3⟩:=h.pY
 have K:∀ k,S k->(∃ i,i<5/\Z.fpF y.s i k/\y.s i≠O)\/Z.jb.fp y.j k:=λk f=>by
  rcases hS k f with⟨i,m,A,n⟩|f
  .cases q:y.s i with
   | none=>exact absurd q A
   | some v=>exact .inl ⟨i,m,by rw[Zh.eY q];exact n,(by rw[q];intro e;cases e)⟩
  .exact .inr f
 have a8:¬S F:=λe=>by
  rcases K F e with⟨i,m,n,_⟩|f
  .exact n1 i m n
  .exact n3 f
 have a3:¬S Z.sp:=λe=>by
  rcases K _ e with⟨i,m,n,_⟩|f
  .exact m1 i m n
  .exact m3 f
 have ad:=J.block h.blk.lt a8;have N:=WB P (J.block (lt_of_some h.shf) a3) h.shf
 have a5:∀ i,i<5->({Z with qs:=qs'}:Zh).dp z i=Z.dp y.s i:=λi m=>by
  cases x:z i with
  | none=>rw[Zh.dp_none x,Zh.dp_none ((N i m).1 x)]
  | some u =>
   cases q:y.s i with
   | none=>rw[(N i m).2 q] at *;cases x
   | some v=>rw[Zh.lX x,Zh.lX q];exact(ac i m (by rw[q];intro e;cases e)).2
 have a0:∀ i,i<5->y.s i=O->∀ k,(Z.ds i).fp k->¬S k:=λi m q k f e=>by
  have C:Z.fpF y.s i k:=by rw[Zh.dN q];exact f
  rcases K k e with⟨D,B,n,A⟩|n
  .exact h.apart i D m B (λe=>A (by rw[<- e];exact q)) k C n
  .exact(h.kW n).1 i m C
 have a2:∀ k,Z.tp.fp k->¬S k:=λk f e=>by
  rcases K k e with⟨D,B,n,_⟩|n
  .exact h.apTop D B k f n
  .exact(h.kW n).2 f
 have X:∀ k,fpQ qs' z k\/Z.jb.fp y.j k->(fpQ Z.qs y.s k\/Z.jb.fp y.j k)\/w.heap.size<=k:=λk f=>by
  rcases aa k f with r|r
  .rcases J.new k r with I|I
   .exact .inl (hS k I)
   .exact .inr I
  .exact .inl r.2
 have L:∀ i k,i<5->({Z with qs:=qs'}:Zh).fpF z i k->(y.s i=O/\(Z.ds i).fp k)\/(z i≠O/\fpQ qs' z k/\(qs' i).fp k):=λi k m f=>by
  cases x:z i with
  | none=>rw[Zh.dN x] at *;exact .inl ⟨(N i m).1 x,f⟩
  | some u=>rw[Zh.eY x] at *;exact .inr ⟨(by intro e;cases e),⟨i,m,(by rw[x];intro e;cases e),f⟩,f⟩
 have R:∀ k,k<w.heap.size->fpQ qs' z k->(∃ i,i<5/\Z.fpF y.s i k/\y.s i≠O)\/Z.jb.fp y.j k:=λk M f=>by
  rcases X k (.inl f) with r|r
  .rcases r with⟨i,m,A,n⟩|r
   .cases q:y.s i with
    | none=>exact absurd q A
    | some v=>exact .inl ⟨i,m,by rw[Zh.eY q];exact n,(by rw[q];intro e;cases e)⟩
   .exact .inr r
  .omega
 have H:Moved (fpZ F Z y) w (fpZ F {Z with qs:=qs'} {y with s:=z,j:=j'}) w':=by
  refine⟨J.kept.mono λk _ f=>?_,λk f=>?_⟩
  .rcases K k f with⟨i,m,n,_⟩|n
   .exact .inr (.inr (.inl ⟨i,m,n⟩))
   .exact .inr (.inr (.inr (.inr n)))
  .rcases f with rfl|rfl|⟨i,m,n⟩|n|⟨a7,E⟩
   .exact .inl (.inl rfl)
   .exact .inl (.inr (.inl rfl))
   .rcases L i k m n with⟨q,f⟩|⟨_,f,_⟩
    .exact .inl (.inr (.inr (.inl ⟨i,m,by rw[Zh.dN q];exact f⟩)))
    .rcases X k (.inl f) with r|r
     .rcases r with r|r
      .exact .inl (.inr (.inr (.inl (h.inS r))))
      .exact .inl (.inr (.inr (.inr (.inr r))))
     .exact .inr r
   .exact .inl (.inr (.inr (.inr (.inl n))))
   .exact .inl (.inr (.inr (.inr (.inr ⟨λe=>a7 (T.2 e),E⟩))))
 obtain⟨c,h1,h2,h3,h4,h5⟩:=h.blk.is;refine⟨⟨⟨c,by rw[ad];exact h1,λi m=>by rw[a5 i m];exact h2 i m,h3,h4,?_⟩,P.blk,P.img,λi m x=>?_,?_,λi j m E V k f t=>?_,λi m k f t=>?_,⟨h.list.1.moved H h.list.2.2,λg o e=>ja8 (h.list.2.1 g o e) H.size,h.list.2.2.CP h.list.2.1 H⟩,λa ha=>?_⟩,H⟩
 .have ej:sQ Z.jb j'=sQ Z.jb y.j:=by
   cases e:j' with
   | none=>rw[T.1 e]
   | some a =>
    cases Q:y.j with
    | none=>rw[T.2 Q] at e;cases e
    | some b=>rfl
  rw[show sQ ({Z with qs:=qs'}:Zh).jb ({y with s:=z,j:=j'}:YV).j=sQ Z.jb y.j from ej];exact h5
 .have q:=(N i m).1 x;have hd:=h.dev i m q;exact hd.keep λk f=>J.block (hd.lt k f).2 (a0 i m q k f)
 .exact h.top.keep λk f=>J.block (h.top.lt k f).2 (a2 k f)
 .rcases L i k m f with⟨q,f⟩|⟨A,f,a6⟩
  .have M:=((h.dev i m q).lt k f).2;have C:Z.fpF y.s i k:=by rw[Zh.dN q];exact f
   rcases L j k E t with⟨G,t⟩|⟨_,t,_⟩
   .exact h.apart i j m E V k C (by rw[Zh.dN G];exact t)
   .rcases R k M t with⟨D,B,n,A⟩|n
    .exact h.apart i D m B (λe=>A (by rw[<- e];exact q)) k C n
    .exact(h.kW n).1 i m C
  .rcases L j k E t with⟨G,t⟩|⟨ab,_,a1⟩
   .have M:=((h.dev j E G).lt k t).2;have C:Z.fpF y.s j k:=by rw[Zh.dN G];exact t
    rcases R k M f with⟨D,B,n,a4⟩|n
    .exact h.apart j D E B (λe=>a4 (by rw[<- e];exact G)) k C n
    .exact(h.kW n).1 j E C
   .exact P.apart i j m E V A ab k a6 a1
 .rcases L i k m t with⟨G,t⟩|⟨_,t,_⟩
  .exact h.apTop i m k f (by rw[Zh.dN G];exact t)
  .rcases R k (h.top.lt k f).2 t with⟨D,B,n,_⟩|n
   .exact h.apTop D B k f n
   .exact(h.kW n).2 f
 .obtain⟨j,e1,Q,e3⟩:=hj a ha;obtain⟨r,I,Y,a9,W⟩:=h.job j e1;rw[Q];exact⟨e3,I.moved H W,Y,a9,W.moved I Y H⟩
def au.xq{w f w' g m' Z y z qs'}(h:au w g Z y)(l:β w w f)(t:bJ w' Z.sp qs' z m')(d:jX Z.qs y.s f qs' z w'):aF g Z y {y with s:=z} w w':=by
 have c:=h.below l
 obtain⟨q,r⟩:=c.lG  t d.toMoved d.dp (λk b=>.inl b) (λk b=>by
  rcases b with b|b
  .exact .inl b
  .exact .inr ⟨c.gG (.inr (.inr (.inr (.inr b)))),.inr b⟩) Iff.rfl (λa m=>⟨a,m,rfl,by
  obtain⟨n,_⟩:=c.job a m;have v:y.j≠none:=by simp_all
  exact n.keep (d.block n.lt λe=>by
   obtain⟨i,u,o⟩:=c.inS e
   exact(c.kW ⟨v,rfl⟩).1 i u o)⟩)
 exact⟨{Z with qs:=qs'},⟨rfl,rfl,rfl,rfl,rfl⟩,q,(Moved.of_below l).trans r⟩
def au.zl{w a w' b m' Z y R e}(h:au w b Z y)(g:β w w a)(hd:bK a Z.sp Z.qs y.s m' R e w') :
  e=.returned (zA R.2)/\aF b Z y {y with s:=R.1} w w':=by
 obtain⟨i,d,c,f⟩:=hd;exact⟨d,h.xq g c f⟩
def au.yu{w f w' i m C Z y z j a}(h:au w i Z y)(t:y.j=S j)(d:β w w f)(hd:eu Z.sp Z.jb.xp Z.jb.a Z.jb.cap Z.qs y.s z m C a f w')(o:a.l=j.l):aF i Z y {y with s:=z,j:=S a} w w':=by
 obtain⟨qs',n,g⟩:=hd;have r:y.j≠none:=by simp_all
 obtain⟨q,u⟩:=(h.below d).lG (j':=S a) n.shelf g.toMoved g.dp (λk c=>by
  rcases c with c|c
  .exact .inl c
  .exact .inr ⟨r,c⟩) (λk c=>by
  rcases c with c|c
  .exact .inl (.inl c)
  .exact .inl (.inr c.2)) (by simp_all) (λb d=>by
  cases d
  exact⟨j,t,o,n.job⟩)
 exact⟨{Z with qs:=qs'},⟨rfl,rfl,rfl,rfl,rfl⟩,q,(Moved.of_below d).trans u⟩
def au.own{w A f Z Z' y y'}(h:au w f Z y)(b:Kept (λk=>k=f) w A)(I:kH A f Z' y'.s y'.kd y'.l.length (sQ Z'.jb y'.j))
  (M:Z'.ds=Z.ds/\Z'.tp=Z.tp/\Z'.qs=Z.qs/\Z'.sp=Z.sp) (N:y'.dv=y.dv/\y'.top=y.top/\y'.s=y.s) (m:Nums w Z'.la y'.l/\(∀ g o,Z'.la=S ⟨g,o,O⟩->g<w)/\Apart Z'.la (fpZ f Z' y'))
  (P:∀ j,y'.j=S j->bT w Z'.jb.xp Z'.sp Z'.jb.a Z'.jb.cap j j.state/\Nums w Z'.jb.a j.l/\j.l≠[]/\j.l.length<=Z'.jb.cap/\Apart Z'.jb.a (fpZ f Z' y')):au A f Z' y':=by
 obtain⟨H,Q,R,_⟩:=h.lC;obtain⟨C,B,z,K⟩:=M;obtain⟨y1,U,q⟩:=N;have t:∀ i k,Z'.fpF y'.s i k=Z.fpF y.s i k:=λi k=>by unfold Zh.fpF;rw[q,C,z]
 have E:=λi (d:i<5) k (r:Z.fpF y.s i k)=>b.block k (h.lY d r) (λe=>Q i d (by simp_all))
 obtain⟨c,W,_⟩:=h.blk.is;refine⟨I,?_,λi v d n=>?_,λi d n=>?_,?_,λi j d T J k=>?_,λi d k b=>?_,⟨m.1.keep λg o e=>b.block g (m.2.1 g o e) λx=>m.2.2 g o e (.inl x),λg o e=>ja8 (m.2.1 g o e) b.size,m.2.2⟩,λj e=>?_⟩
 .rw[K,z,q,b.block _ (lt_of_some h.shf) (λe=>H e.symm)];exact h.shf
 .rw[q] at *;rw[z]
  exact(h.img i v d n).aY λk b=>E i d k (by rw[Zh.eY n];exact b)
 .rw[q] at *;rw[C,y1]
  exact(h.dev i d n).keep λk b=>E i d k (by rw[Zh.dN n];exact b)
 .rw[B,U];exact h.top.keep λk r=>b.block k (h.top.lt k r).2 (λe=>R (by simp_all))
 .rw[t,t];exact h.apart i j d T J k
 .rw[B] at *;rw[t];exact h.apTop i d k b
 .obtain⟨u,F,G,L,D⟩:=P j e;obtain⟨X,V,_⟩:=u.blk;exact⟨u.keep (b.block _ u.lt λe=>by simp_all),F.keep λg o e=>b.block g (F.lt G e) λx=>D g o e (.inl x),G,L,D⟩
def kdV(d:aP):List Value:=[.int .i64 d.root,.int .i64 d.kind,.int .i64 d.file,.int .i64 d.rate,.int .i64 d.burst]
theorem kH.size{w b n Z s d a}{c:Array υ}(f:kH w b Z s d n a)(e:c[13]?=S a):13<c.size:=by
 rcases jav 13 _ with h|h
 .exact h
 .simp_all
def kH.rZ{w a n Z s d b}(h:kH w a Z s d n b)(k):kH (w.setCells a 7 (kdV k)) a Z s k n b:=by
 obtain⟨c,j,f,q,v,y,r,x,m,t,u,l⟩:=h.is;have o:=h.size l;refine⟨_,heap_setCell_same _ a 11 _ _ _ (heap_setCell_same _ a 10 _ _ _ (heap_setCell_same _ a 9 _ _ _ (heap_setCell_same _ a 8 _ _ _ (heap_setCell_same w a 7 _ _ _ j)))),λi g=>?_,?_,?_,?_,?_,?_,?_,?_,?_,?_⟩
 .rw[ja3 (by omega),ja3 (by omega),ja3 (by omega),ja3 (by omega),ja3 (by omega)];exact f i g
 all_goals (first
  | (rw[jac (by first|omega|(simp;omega))])
  | (rw[ja3 (by omega),jac (by first|omega|(simp;omega))])
  | (rw[ja3 (by omega),ja3 (by omega),jac (by first|omega|(simp;omega))])
  | (rw[ja3 (by omega),ja3 (by omega),ja3 (by omega),jac (by first|omega|(simp;omega))])
  | (rw[ja3 (by omega),ja3 (by omega),ja3 (by omega),ja3 (by omega),jac (by first|omega|(simp;omega))])
  | (rw[ja3 (by omega),ja3 (by omega),ja3 (by omega),ja3 (by omega),ja3 (by omega)];assumption))
def kH.um{w a n m Z s d b}(h:kH w a Z s d n b)(la lc):kH (w.setCell ⟨a,12,O⟩ (.slice la m lc)) a {Z with la:=la,lc:=lc} s d m b:=by
 obtain⟨c,j,f,q,v,y,r,x,l,t,u,k⟩:=h.is;have o:=h.size k;refine⟨_,heap_setCell_same w a 12 _ _ _ j,λi g=>?_,?_,?_,?_,?_,?_,?_,?_,?_,?_⟩
 .rw[ja3 (by omega)];exact f i g
 all_goals (first|(rw[jac (by omega)])|(rw[ja3 (by omega)];assumption))
def kH.wZ{w a n Z s d k}(h:kH w a Z s d n k)(b v):kH (w.setCell ⟨a,13,O⟩ v) a {Z with jb:=b} s d n v:=by
 obtain⟨c,j,f,q,x,z,r,y,m,t,u,l⟩:=h.is;have o:=h.size l;refine⟨_,heap_setCell_same w a 13 _ _ _ j,λi g=>?_,?_,?_,?_,?_,?_,?_,?_,?_,?_⟩
 .rw[ja3 (by omega)];exact f i g
 all_goals (first|(rw[jac (by omega)])|(rw[ja3 (by omega)];assumption))
theorem au.rZ{w a Z y}(h:au w a Z y)(d):au (w.setCells a 7 (kdV d)) a Z {y with kd:=d}/\Moved (fpZ a Z y) w (fpZ a Z {y with kd:=d}) (w.setCells a 7 (kdV d)):=by
 have b:Kept _ w (w.setCells a 7 (kdV d)):=Kept.setCells (S:=λk=>k=a) (Kept.refl _ w) (.inl rfl) _ _;exact⟨h.own   b (h.blk.rZ d) ⟨rfl,rfl,rfl,rfl⟩ ⟨rfl,rfl,rfl⟩ h.list h.job,b.mono λk _ e=>.inl e,λk b=>.inl b⟩
theorem au.um{w a lc Z y la l}(h:au w a Z y)(c:Nums w la l)(d:l≠[])(f:Apart la (fpZ a Z y)) :
  au (w.setCell ⟨a,12,O⟩ (.slice la l.length lc)) a {Z with la:=la,lc:=lc} {y with l:=l}/\Moved (fpZ a Z y) w (fpZ a {Z with la:=la,lc:=lc} {y with l:=l}) (w.setCell ⟨a,12,O⟩ (.slice la l.length lc)):=by
 have b:Kept _ w (w.setCell ⟨a,12,O⟩ (.slice la l.length lc)):=Kept.setCell (S:=λk=>k=a)  (Kept.refl _ w) (.inl rfl) _;exact⟨h.own   b (h.blk.um la lc) ⟨rfl,rfl,rfl,rfl⟩ ⟨rfl,rfl,rfl⟩ ⟨c,λg o e=>c.lt d e,f⟩ h.job,b.mono λk _ e=>.inl e,λk b=>.inl b⟩
theorem au.wZ{w c Z y b j}(h:au w c Z y)(f:bT w b.xp Z.sp b.a b.cap j j.state)(n:Nums w b.a j.l)(g:j.l≠[])(m:j.l.length<=b.cap)(i:Apart b.a (fpZ c {Z with jb:=b} {y with j:=some j}))(d:Apart Z.la (fpZ c {Z with jb:=b} {y with j:=some j})) :
  au (w.setCell ⟨c,13,O⟩ b.xp) c {Z with jb:=b} {y with j:=some j}:=by
 exact h.own   (Kept.setCell (S:=λk=>k=c)  (Kept.refl _ w) (.inl rfl) _) (h.blk.wZ b _) ⟨rfl,rfl,rfl,rfl⟩ ⟨rfl,rfl,rfl⟩ ⟨h.list.1,h.list.2.1,d⟩ λj' e=>by
  simp_all
def au.stage{w a Z y j}(h:au w a Z y)(b:y.j=some j){st:Int}(c:st≠1) :
  au (w.setCell ⟨Z.jb.xp,74,O⟩ st) a Z {y with j:=some (j.at st)}/\Moved (fpZ a Z y) w (fpZ a Z {y with j:=some (j.at st)}) (w.setCell ⟨Z.jb.xp,74,O⟩ st):=by
 refine h.Hq  b (Kept.setCell (S:=λk=>k=Z.jb.xp)  (Kept.refl _ w) (.inl rfl) _) ?_ rfl;rw[j.xQ c];exact((h.job j b).1.o8 st).staged st
def au.qH{w U A x i Z Z' y y'}(h:au w x Z y)(r:i<5)(q:Moved (Z.fpF y.s i) w (Z'.fpF y'.s i) U)(E:Kept (λk=>k=Z.sp) U A)
  (a5:A.heap[Z.sp]?=S (.cells #[bZ (Z'.qs 0) (y'.s 0),bZ (Z'.qs 1) (y'.s 1),bZ (Z'.qs 2) (y'.s 2),bZ (Z'.qs 3) (y'.s 3),bZ (Z'.qs 4) (y'.s 4)] 87 (0,0)))
  (a0:Z'.dp y'.s i=Z.dp y.s i) (a1:∀ v,y'.s i=S v->aU Gd.no A (Z'.qs i) v) (a3:y'.s i=O->dh Gd.no A (Z'.ds i) (y'.dv i))
  (z:∀ j,j≠i->y'.s j=y.s j/\y'.dv j=y.dv j/\Z'.qs j=Z.qs j/\Z'.ds j=Z.ds j) (hz:Z'.tp=Z.tp/\Z'.jb=Z.jb/\Z'.sp=Z.sp/\Z'.la=Z.la/\Z'.lc=Z.lc) (hy:y'.top=y.top/\y'.j=y.j/\y'.kd=y.kd/\y'.l=y.l) :
  au A x Z' y'/\Moved (fpZ x Z y) w (fpZ x Z' y') A:=by
 obtain⟨n0,n1,n2,n3⟩:=h.lC;obtain⟨m1,m2,m3⟩:=h.pY;obtain⟨t1,t2,t3,t4,t5⟩:=hz;obtain⟨u1,u2,u3,u4⟩:=hy
 have H:∀ j,j≠i->∀ k,Z'.fpF y'.s j k=Z.fpF y.s j k:=λj f k=>by
  obtain⟨u,_,D,C⟩:=z j f;unfold Zh.fpF;rw[u,D,C]
 have I:=λk (d:k<w.heap.size) (m:¬Z.fpF y.s i k) (P:k≠Z.sp)=>(E.block k (ja8 d q.size) P).trans (q.block d m)
 have B:Moved (fpZ x Z y) w (fpZ x Z' y') A:=by
  refine⟨⟨E.os.trans q.kept.os,E.tape.trans q.kept.tape,E.output.trans q.kept.output,ja4 q.size E.size,λk d z=>I k d (λe=>z (.inr (.inr (.inl ⟨i,r,e⟩)))) (λe=>z (.inr (.inl e)))⟩,λk d=>?_⟩;rcases d with d|d|⟨j,f,d⟩|d|d
  .exact .inl (.inl d)
  .rw[t3] at *;exact .inl (.inr (.inl d))
  .by_cases e:j=i
   .rw[e] at d;rcases q.new k d with m|m
    .exact .inl (.inr (.inr (.inl ⟨i,r,m⟩)))
    .exact .inr m
   .rw[H j e] at *;exact .inl (.inr (.inr (.inl ⟨j,f,d⟩)))
  .rw[t1] at *;exact .inl (.inr (.inr (.inr (.inl d))))
  .rw[t2,u2] at *;exact .inl (.inr (.inr (.inr (.inr d))))
 have W:=λj (f:j<5) (e:j≠i) k (d:Z.fpF y.s j k)=>I k (h.lY f d) (λF=>h.apart j i f r e k d F) (λF=>m1 j f (by rw[<- F];exact d))
 have a2:∀ j,Z'.dp y'.s j=Z.dp y.s j:=λj=>by
  by_cases e:j=i
  .rw[e];exact a0
  .obtain⟨u,_,D,C⟩:=z j e;unfold Zh.dp;rw[u,D,C]
 refine⟨⟨?_,by rw[t3];exact a5,λj v f n=>?_,λj f n=>?_,?_,λa b T Y V k d t=>?_,λj f k d t=>?_,?_,λj f=>?_⟩,B⟩
 .obtain⟨c,m,P,h3,h4,h5,h6,L,J,N,Q,M⟩:=h.blk.is;refine⟨c,(I x h.blk.lt (n1 i r) n0).trans m,λj f=>by rw[a2];exact P j f,by rw[t1];exact h3,by rw[t3];exact h4,?_⟩;rw[u3,u4,t4,t5,t2,u2];exact⟨h5,h6,L,J,N,Q,M⟩
 .by_cases e:j=i
  .rw[e] at n |-;exact a1 v n
  .obtain⟨u,_,D,C⟩:=z j e;rw[u] at n;rw[D];exact(h.img j v f n).aY λk d=>W j f e k (by rw[Zh.eY n];exact d)
 .by_cases e:j=i
  .rw[e] at n |-;exact a3 n
  .obtain⟨u,F,D,C⟩:=z j e;rw[u] at n;rw[C,F];exact(h.dev j f n).keep λk d=>W j f e k (by rw[Zh.dN n];exact d)
 .rw[t1,u1];exact h.top.keep λk d=>I k (h.top.lt k d).2 (h.apTop i r k d) (λe=>m2 (by rw[<- e];exact d))
 .have R:∀ j,j<5->j≠i->Z.fpF y.s j k->¬Z'.fpF y'.s i k:=λj f e X a4=>by
   rcases q.new k a4 with m|m
   .exact h.apart j i f r e k X m
   .have:=h.lY f X;omega
  by_cases K:a=i
  .have G:b≠i:=λe=>V (by rw[K,e])
   rw[H b G] at *
   rw[K] at d;exact R b Y G t d
  .rw[H a K] at *
   by_cases G:b=i
   .rw[G] at t;exact R a T K d t
   .rw[H b G] at *;exact h.apart a b T Y V k d t
 .rw[t1] at *
  by_cases e:j=i
  .rw[e] at t;rcases q.new k t with m|m
   .exact h.apTop i r k d m
   .have:=(h.top.lt k d).2;omega
  .rw[H j e] at *;exact h.apTop j f k d t
 .rw[t4,u4];exact⟨h.list.1.moved B h.list.2.2,λg o e=>ja8 (h.list.2.1 g o e) B.size,h.list.2.2.CP h.list.2.1 B⟩
 .rw[u2] at *
  obtain⟨L,J,N,Q,M⟩:=h.job j f;have hn:y.j≠none:=by rw[f];intro e;cases e
  rw[t2,t3];exact⟨L.keep (I _ L.lt ((h.kW ⟨hn,rfl⟩).1 i r) (λe=>m3 ⟨hn,e.symm⟩)),J.moved B M,N,Q,M.moved J N B⟩
