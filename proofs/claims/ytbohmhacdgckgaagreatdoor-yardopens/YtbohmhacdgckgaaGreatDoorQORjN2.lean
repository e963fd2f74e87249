/- What a job wants at first (program). -/
import Derived.Test.YtbohmhacdgckgaaGreatDoorQOJobN1
set_option linter.all false
set_option maxHeartbeats 16000000
set_option maxRecDepth 100000
namespace Go.Proofs.YtbohmhacdgckgaaGreatDoor
open Go.RowKit renaming Below->β
open Go renaming World->ω, Value->υ, Calls->κ
open Option renaming none->O, some->S
open Go.Proofs.Tryz Go.RowKit Go.Maps
attribute [local go_sem ↓] Go.wp_at_zero Go.wp_at_succ
def Vo{u sp cap C m:Nat}{a:Option Addr}{O:Nat->Ih}{s:SV}{j:JV}(w:ω)(hd:JHd w u sp a cap j)(P:bD w sp O s m)(Q:Nums w a j.l)(ok:JOk s C j) :
  κ prog 193 #[u,(j.n:Int)] w λe D=>∃ b,e=.returned (.tuple #[.pointer (some ⟨b,0,none⟩),.nilIface])/\S4.iq D b j.n (jR s j j.n)/\w.heap.size<=b/\β w w D:=by
 have q:j.n<=64:=by have:=ok.n;have:=ok.c40;omega
 have y:=ah (S4.Uc j.n w q);have t:Hid _:=IW s j q;have g:Hid (∀ k:Nat,jR s j (k+1)=S4.eY j.n _ (k:Int) _):=λk=>rfl
 have z:Hid (jR s j 0=0):=rfl;generalize jR s j=X at t g z |-;generalize j.n=n at y t g q |-;go_enter func193,ntmps193
 go_wp2_with fail
 refine y.out.mono ?_;rintro e M ⟨rfl,L,S⟩;have B:Hid (S4.iq M w.heap.size n (X 0)):=by unfold Hid;rw[z.out];exact L
 obtain⟨b,r⟩:∃ b,w.heap.size=b:=⟨_,rfl⟩;have v:=ah r;rw[r] at B;rw[r];go_wp2
 go_loopw [18] (λi wr=>∃ k:Nat,k<=n/\i=.int .i64 (k:Int)/\S4.iq wr b n (X k)/\β w w wr) (λi _=>n-(intOf i).toNat)
 case atStart=>exact⟨0,ja5 _,rfl,B.out,S⟩
 case round =>
  obtain⟨k,Z,rfl,J,d⟩:=hrel;have H:=ah J;have f:=ah d;by_cases V:k<n
  .have G:=ah ((λc W (d:β w w W)=>IX c W (hd.below d) (P.below d) (Q.below d) ok) (k:Int) wr f.out)
   have x:=ah (g.out k);generalize j.iL s (k:Int)=A at G x;go_wp2_with fail
   refine cEq G.out λT F=>?_
   have E:=ah (f.out.trans (F.mono f.out.size));have o:=ah (S4.yO (k:Int) A T (H.out.below F) (t.out k));rw[<- x.out] at o;generalize S4.fK n (X k) (k:Int) A=U at o;go_wp2_with fail
   refine o.out.mono ?_;rintro e Y ⟨rfl,R,K⟩;have I:Hid _:=E.out.trans ((Kept.of4 K).below E.out.size (λi e=>by rw[e,<- v.out];exact ja1 _))
   go_wp2
   go_roundw
   case rel =>
    exact⟨k+1,by omega,by go_num,R,I.out⟩
   case measure=>simp[intOf];omega
  .have N:k=n:=by omega
   subst N;go_wp2
   go_ret2
   exact⟨b,rfl,H.out,by rw[v.out];exact ja1 _,f.out⟩
def bF(d:aP):Obj:=.cells #[d.root,d.kind,d.file,d.rate,d.burst] 82 (0,0)
def oZ(d:aP)(w:ω):∀ W:ω,β (w.alloc (bF d)).heap.size (w.alloc (bF d)) W->W.cell? ⟨w,0,O⟩=S (d.root:υ)/\W.cell? ⟨w,1,O⟩=S (d.kind:υ)/\W.cell? ⟨w,2,O⟩=S (d.file:υ)/\W.cell? ⟨w,3,O⟩=S (d.rate:υ)/\W.cell? ⟨w,4,O⟩=S (d.burst:υ):=λW b=>by
 have a:w.heap.size<(w.alloc (bF d)).heap.size:=by simp
 refine⟨?_,?_,?_,?_,?_⟩<;>(rw[cell_of_row _ _ _ _ _ _ ((b.block _ a).trans (heap_alloc_new w _))];rfl)
def sZ(d:aP)(w:ω):∀ W:ω,β (w.alloc (bF d)).heap.size (w.alloc (bF d)) W->W.rangeAt w.heap.size 0 [.int .i64 d.root,.int .i64 d.kind,.int .i64 d.file,.int .i64 d.rate,.int .i64 d.burst]:=λW b j v a=>by
 obtain⟨i,g,c,k,f⟩:=oZ d w W b
 match j,a with
 | 0,a=>simp_all
 | 1,a=>simp_all
 | 2,a=>simp_all
 | 3,a=>simp_all
 | 4,a=>simp_all
def uq:(prog.info? 82).map (·.size)=S 5:=by kernel_rfl
def FM{sp m:Nat}{xs:Nat->Ih}{s:SV}(d:aP)(w:ω)(h:bD w sp xs s m)(hf:newF s d≠0) :
  κ prog 125 #[.pointer (some ⟨sp,6,none⟩),.agg #[d.root,d.kind,d.file,d.rate,d.burst]] w λe T=>e=.returned (.tuple #[.pointer none,erV (newF s d)])/\β w w T:=by
 have b:Hid (β w w (w.alloc (bF d))):=(ja0 _ _).alloc (ja1 _) _;have j:=ah (oZ d w);have F:=ah (sZ d w);have HI:Hid ((prog.info? 82).map (·.size)=some ([.int .i64 d.root,.int .i64 d.kind,.int .i64 d.file,.int .i64 d.rate,.int .i64 d.burst]:List υ).length):=uq
 have i:=ah λW (C:β w w W)=>uN d.root W (h.below C)
 have a2:=ah λW (hx:(S4.inB d.rate 1000&&S4.inB d.burst 1000)=false)=>S4.Ko d.rate d.burst W hx
 have S:=ah λW (h1:S4.inB d.rate 1000=true) (h2:S4.inB d.burst 1000=true)=>S4.Dk d.rate d.burst W h1 h2
 obtain⟨V,G,H,_⟩:=s.walk_good d.root;have u:=ah λW a cap (C:β w w W) (hn:Nums W a (s.walk d.root).1) (r:(s.walk d.root).1≠[]) (hc:(s.walk d.root).1.length<=cap)=>Dw _ d W (h.below C) hn V r (by omega) hc
 have k:Hid (newF s d=if (s.walk d.root).2≠0 then (s.walk d.root).2 else if (s.walk d.root).1=[] then 4 else if (S4.inB d.rate 1000&&S4.inB d.burst 1000)=false then 1 else jX s (s.walk d.root).1 d):=rfl
 have L:=ah hf;generalize newF s d=q at k L |-;generalize jX s (s.walk d.root).1 d=y at u k;generalize s.walk d.root=R at i u k G H;obtain⟨l,f⟩:=R;simp only at i u k G H;unfold bF at b j F;by_cases r:f=0
 .subst r
  rw[aN] at i;have N:Hid (q=if l=[] then 4 else if (S4.inB d.rate 1000&&S4.inB d.burst 1000)=false then 1 else y):=by unfold Hid;rw[k.out,if_neg (by simp)]
  by_cases z:l=[]
  .subst z
   have U:Hid (q=4):=by unfold Hid;rw[N.out,if_pos rfl]
   rw[U.out,bJ (by decide)]
   obtain⟨D,_⟩:=j.out _ (ja0 _ _);go_enter func125,ntmps125
   go_wp2_with fail
   refine(i.out _ b.out).mono ?_;rintro e B ⟨a,cap,rfl,t,x,c⟩;have A:=ah (b.out.trans (c.mono b.out.size));go_wp2
   go_ret2
   exact⟨rfl,A.out⟩
  .have K:Hid (q=if (S4.inB d.rate 1000&&S4.inB d.burst 1000)=false then 1 else y):=by unfold Hid;rw[N.out,if_neg z]
   have a4  := List.length_pos_iff.2 z;have a1:((l.length:Int)==0)=false:=by simp;omega
   cases n:(S4.inB d.rate 1000&&S4.inB d.burst 1000) with
   | false =>
    have v:Hid (q=1):=by unfold Hid;rw[K.out,n,if_pos rfl]
    rw[v.out,eu];generalize a5:l.length=ln at i a1;obtain⟨D,Z,O,P,d4⟩:=j.out _ (ja0 _ _);go_enter func125,ntmps125
    go_wp2_with fail
    refine(i.out _ b.out).mono ?_;rintro e B ⟨a,cap,rfl,t,x,c⟩;obtain⟨Q,Y,q2,q3,q4⟩:=j.out _ c;go_wp2_with fail
    refine cSt ((λW=>a2.out W n) _) ?_
    go_wp2
    go_ret2
    exact⟨rfl,(b.out.trans (c.mono b.out.size))⟩
   | true =>
    have I:Hid (q=y):=by unfold Hid;rw[K.out,n,if_neg (by decide)]
    rw[jaS] at n;have a3:y≠0:=by rw[<- I.out];exact L.out
    rw[I.out];rw[bJ a3] at u |-;obtain⟨D,Z,O,P,d4⟩:=j.out _ (ja0 _ _);go_enter func125,ntmps125
    go_wp2_with fail
    refine(i.out _ b.out).mono ?_;rintro e B ⟨a,cap,rfl,t,x,c⟩;have A:=ah (b.out.trans (c.mono b.out.size));have M:=ah c;obtain⟨g,o,rfl,_⟩:=t 0 a4;have v:=ah t;have a0:=(x g o rfl).2.2;obtain⟨Q,Y,q2,q3,q4⟩:=j.out _ c;go_wp2_with fail
    refine((λW=>S.out W n.1 n.2) _).mono ?_
    rintro e w2 ⟨rfl,_,E⟩;have J:=ah (A.out.trans (E.mono A.out.size));go_wp2_with (refine wpList_load_mid (by rfl) 82 (.tmp 3) (by rfl) w.heap.size 0 (by rfl) [d.root,d.kind,d.file,d.rate,d.burst] _ (F.out _ (M.out.trans (E.mono M.out.size))) underlying82 rfl HI.out ?_)
    refine cBl (u.out w2 (some ⟨g,o,none⟩) cap J.out (v.out.below E) z a0) J.out λw3 X=>?_
    go_wp2
    go_ret2
    exact⟨rfl,X.out⟩
 .have v:Hid (q=f):=by unfold Hid;rw[k.out,if_pos r]
  rw[v.out];rw[bJ r] at i |-;obtain⟨D,_⟩:=j.out _ (ja0 _ _);go_enter func125,ntmps125
  go_wp2_with fail
  refine(i.out _ b.out).mono ?_;rintro e B ⟨a,cap,rfl,t,x,c⟩;go_wp2
  go_ret2
  exact⟨rfl,(b.out.trans (c.mono b.out.size))⟩
def Jz(w:ω):(zeroValue 198).run prog w=.ok (.agg ((.pointer O::.int .i64 0::.int .i64 0::.int .i64 0::.int .i64 0::.int .i64 0::.slice O 0 0::.int .i64 0::.int .i64 0::Value.bool false::Value.bool false::Value.bool false::Value.bool false::Value.bool false::Value.bool false::Value.bool false::Value.bool false::Value.bool false::Value.bool false::Value.bool false::Value.bool false::Value.bool false::Value.bool false::Value.bool false::Value.bool false::Value.bool false::Value.bool false::Value.bool false::Value.bool false::Value.bool false::Value.bool false::Value.bool false::Value.bool false::Value.bool false::Value.bool false::Value.bool false::Value.bool false::Value.bool false::Value.bool false::Value.bool false::Value.bool false::Value.bool false::Value.bool false::Value.bool false::Value.bool false::Value.bool false::Value.bool false::Value.bool false::Value.bool false::Value.bool false::Value.bool false::Value.bool false::Value.bool false::Value.bool false::Value.bool false::Value.bool false::Value.bool false::Value.bool false::Value.bool false::Value.bool false::Value.bool false::Value.bool false::Value.bool false::Value.bool false::Value.bool false::Value.bool false::Value.bool false::Value.bool false::Value.bool false::Value.bool false::Value.bool false::Value.bool false::Value.bool false::.int .i64 0::.int .i64 0::.int .i64 0::.int .i64 0::.int .i64 0::[]:List υ).toArray)) w:=by kernel_rfl
def rW(f:Nat)(d kd fl c b:Int)(a:Option Addr)(ln cap:Nat):Array Value:=((.pointer (S ⟨f,0,O⟩)::.int .i64 d::.int .i64 kd::.int .i64 fl::.int .i64 c::.int .i64 b::.slice a ln cap::.int .i64 0::.int .i64 0::Value.bool false::Value.bool false::Value.bool false::Value.bool false::Value.bool false::Value.bool false::Value.bool false::Value.bool false::Value.bool false::Value.bool false::Value.bool false::Value.bool false::Value.bool false::Value.bool false::Value.bool false::Value.bool false::Value.bool false::Value.bool false::Value.bool false::Value.bool false::Value.bool false::Value.bool false::Value.bool false::Value.bool false::Value.bool false::Value.bool false::Value.bool false::Value.bool false::Value.bool false::Value.bool false::Value.bool false::Value.bool false::Value.bool false::Value.bool false::Value.bool false::Value.bool false::Value.bool false::Value.bool false::Value.bool false::Value.bool false::Value.bool false::Value.bool false::Value.bool false::Value.bool false::Value.bool false::Value.bool false::Value.bool false::Value.bool false::Value.bool false::Value.bool false::Value.bool false::Value.bool false::Value.bool false::Value.bool false::Value.bool false::Value.bool false::Value.bool false::Value.bool false::Value.bool false::Value.bool false::Value.bool false::Value.bool false::Value.bool false::Value.bool false::.int .i64 (-1)::.int .i64 2::.int .i64 c::.int .i64 b::.int .i64 b::[]:List υ).toArray)
def RZ(d:Nat)(b kd fl c f:Int)(a:Option Addr)(ln cap:Nat):(rW d b kd fl c f a ln cap).size=78:=by kernel_rfl
def RY(f:Nat)(d kd fl c b:Int)(a:Option Addr)(ln cap:Nat):∀ k,k<64->(rW f d kd fl c b a ln cap)[9+k]?=S (.bool false):=by
 have h:rW f d kd fl c b a ln cap = #[.pointer (S ⟨f,0,O⟩),.int .i64 d,.int .i64 kd,.int .i64 fl,.int .i64 c,.int .i64 b,.slice a ln cap,.int .i64 0,.int .i64 0]++Array.replicate 64 (.bool false) ++ #[.int .i64 (-1),.int .i64 2,.int .i64 c,.int .i64 b,.int .i64 b]:=by kernel_rfl
 intro k g;rw[h,Array.getElem?_append_left (by simp;omega),Array.getElem?_append_right (by simp)]
 simp[g]
def Si{b cap:Nat}{a:Option Addr}{J:JV}(w:ω)(j:J.deep=0)(f:J.n=0)(o:J.x=0)(g:J.last = -1)(m:J.lv=J.burst) :
  bK (w.alloc (.cells (rW b J.rt J.kind J.file J.rate J.burst a J.l.length cap) 198)) w.heap.size b a cap J 2:=by
 refine⟨_,heap_alloc_new w _,RZ ..,λi r=>?_⟩
 by_cases q:9<=i/\i<73
 .obtain⟨k,rfl⟩:∃ k,i=9+k:=⟨i-9,by omega⟩
  rw[RY _ _ _ _ _ _ _ _ _ k (by omega),vF (by omega),o,Nat.zero_testBit]
 .by_cases d:i<9
  .match i,d with
   | 0,_=>rfl
   | 1,_=>rfl
   | 2,_=>rfl
   | 3,_=>rfl
   | 4,_=>rfl
   | 5,_=>rfl
   | 6,_=>rfl
   | 7,_=>show S _=S (Value.int .i64 ((J.deep:Nat):Int));rw[j];rfl
   | 8,_=>show S _=S (Value.int .i64 ((J.n:Nat):Int));rw[f];rfl
  .obtain⟨k,rfl⟩:∃ k,i=73+k:=⟨i-73,by omega⟩
   have c:k<5:=by omega
   match k,c with
   | 0,_=>show S (Value.int .i64 (-1))=S (Value.int .i64 _);rw[g]
   | 1,_=>rfl
   | 2,_=>rfl
   | 3,_=>rfl
   | 4,_=>show S (Value.int .i64 _)=S (Value.int .i64 J.lv);rw[m]
def bK.TK{w:ω}{xp b cap:Nat}{a:Option Addr}{j:JV}{is:Int}(h:bK w xp b a cap j is)(n:Nat):bK (w.setCell ⟨xp,8,O⟩ (n:Int)) xp b a cap {j with n:=n} is :=
 h.set 8 (by omega) _ λk c=>by
  by_cases e:k=8
  .subst e;rfl
  .unfold rjC;simp only[if_neg e]
def bK.Ht{w:ω}{xp b cap:Nat}{a:Option Addr}{j:JV}{is:Int}(h:bK w xp b a cap j is)(n:Nat):bK (w.setCell ⟨xp,7,O⟩ (n:Int)) xp b a cap {j with deep:=n} is :=
 h.set 7 (by omega) _ λk c=>by
  by_cases e:k=7
  .subst e;rfl
  .unfold rjC;simp only[if_neg e]
def Sm{F m:Nat}{qs:Nat->Qh}{s:SV}(d:aP)(w:ω)(h:bG w F qs s m)(r:(s.walk d.root).2≠0\/(s.walk d.root).1=[]\/(S4.inB d.rate 1000&&S4.inB d.burst 1000)=false) :
  κ prog 83 #[F,.agg #[d.root,d.kind,d.file,d.rate,d.burst]] w λe G=>e=.returned (.tuple #[.pointer none,newF s d])/\β w w G:=by
 have b:Hid (β w w (w.alloc (bF d))):=(ja0 _ _).alloc (ja1 _) _;have k:=ah (oZ d w);have i:=ah (vI d.root (w.alloc (bF d)) (h.below b.out));obtain⟨M,B,C,_⟩:=s.walk_good d.root;have g:Hid (newF s d=if (s.walk d.root).2≠0 then (s.walk d.root).2 else if (s.walk d.root).1=[] then 4 else if (S4.inB d.rate 1000&&S4.inB d.burst 1000)=false then 1 else jX s (s.walk d.root).1 d):=rfl
 generalize newF s d=v at g |-;generalize jX s (s.walk d.root).1 d=P at g;generalize s.walk d.root=R at i g B C r;obtain⟨l,f⟩:=R;simp only at i g B C r;unfold bF at b k i;by_cases z:f=0
 .subst z
  by_cases n:l=[]
  .subst n
   have H:Hid (v=4):=by unfold Hid;rw[g.out,if_neg (by simp),if_pos rfl]
   rw[H.out];obtain⟨D,_⟩:=k.out _ (ja0 _ _);go_enter func83,ntmps83
   go_wp2_with fail
   refine i.out.mono ?_;rintro e y ⟨a,cap,rfl,A,x,j⟩;have c:=ah (b.out.trans (j.mono b.out.size));go_wp2
   go_ret2
   exact⟨rfl,c.out⟩
  .have u:(S4.inB d.rate 1000&&S4.inB d.burst 1000)=false:=by
    rcases r with e|e|e
    .exact absurd rfl e
    .exact absurd e n
    .exact e
   have t:Hid (v=1):=by unfold Hid;rw[g.out,if_neg (by simp),if_neg n,u,if_pos rfl]
   rw[t.out];have I:0<l.length:=List.length_pos_iff.2 n;have J:((l.length:Int)==0)=false:=by simp;omega
   obtain⟨D,_⟩:=k.out _ (ja0 _ _);generalize l.length=ln at i J I
   have K:d.rate<0\/(0<=d.rate/\1000<d.rate)\/(0<=d.rate/\d.rate<=1000/\d.burst<0)\/(0<=d.rate/\d.rate<=1000/\0<=d.burst/\1000<d.burst):=by
    unfold S4.inB at u;simp at u
    omega
   go_enter func83,ntmps83
   go_wp2_with fail
   refine i.out.mono ?_;rintro e y ⟨a,cap,rfl,A,x,j⟩;have c:=ah (b.out.trans (j.mono b.out.size));obtain⟨L,N,q2,O,Q⟩:=k.out _ j;rcases K with o|⟨o,q⟩|⟨o,q,E⟩|⟨o,q,E,S⟩
   .have g1:decide (d.rate<0)=true:=decide_eq_true o
    go_wp2
    go_ret2
    exact⟨rfl,c.out⟩
   .have g1:decide (d.rate<0)=false:=decide_eq_false (by omega)
    have g2  := decide_eq_true q;go_wp2
    go_ret2
    exact⟨rfl,c.out⟩
   .have g1:decide (d.rate<0)=false:=decide_eq_false (by omega)
    have g2:decide (1000<d.rate)=false:=decide_eq_false (by omega)
    have g3  := decide_eq_true E;go_wp2
    go_ret2
    exact⟨rfl,c.out⟩
   .have g1:decide (d.rate<0)=false:=decide_eq_false (by omega)
    have g2:decide (1000<d.rate)=false:=decide_eq_false (by omega)
    have g3  := decide_eq_false (by omega)
    go_wp2
    go_ret2
    exact⟨rfl,c.out⟩
 .have t:Hid (v=f):=by unfold Hid;rw[g.out,if_pos z]
  rw[t.out];have gf:decide (0<f)=true:=decide_eq_true (by omega)
  obtain⟨D,_⟩:=k.out _ (ja0 _ _);go_enter func83,ntmps83
  go_wp2_with fail
  refine i.out.mono ?_;rintro e y ⟨a,cap,rfl,A,x,j⟩;have c:=ah (b.out.trans (j.mono b.out.size));go_wp2
  go_ret2
  exact⟨rfl,c.out⟩
structure RN(w:ω)(N xp mp:Nat)(g o cap:Nat)(qs:Nat->Qh)(s:SV)(m:Nat)(d:aP)(J:JV)(wr:ω):Prop where
 shelf:bG wr mp qs s m
 job:bK wr xp mp (S ⟨g,o,O⟩) cap J 2
 nums:Nums wr (S ⟨g,o,O⟩) J.l
 aA:wr.rangeAt N 0 [d.root,d.kind,d.file,d.rate,d.burst]
 bel:β w w wr
 xw:w.heap.size<=xp
 nx:N≠xp
 gw:w.heap.size<=g
 gx:g≠xp
 cap:J.l.length<=cap
 old:∀ k,fpQ qs s k->k<w.heap.size
 mpw:mp<w.heap.size
 nw:w.heap.size<=N
theorem RN.drewN{w wr:ω}{N xp a g o cap m:Nat}{qs:Nat->Qh}{s:SV}{d:aP}{J:JV}(h:RN w N xp a g o cap qs s m d J wr)(n:Nat):RN w N xp a g o cap qs s m d J (wr.drewN n) :=
 ⟨h.shelf.below (below_drewN (ja0 _ _) n),h.job.keep rfl,h.nums,h.aA,below_drewN h.bel n,h.xw,h.nx,h.gw,h.gx,h.cap,h.old,h.mpw,h.nw⟩
theorem RN.drew{w wr:ω}{N xp a g o cap m:Nat}{qs:Nat->Qh}{s:SV}{d:aP}{J:JV}(h:RN w N xp a g o cap qs s m d J wr):RN w N xp a g o cap qs s m d J wr.drew :=
 ⟨h.shelf.below (ja0 _ _).drew,h.job.keep rfl,h.nums,h.aA,h.bel.drew,h.xw,h.nx,h.gw,h.gx,h.cap,h.old,h.mpw,h.nw⟩
theorem RN.below{w wr b:ω}{N xp c g o cap m:Nat}{qs:Nat->Qh}{s:SV}{d:aP}{J:JV}(h:RN w N xp c g o cap qs s m d J wr)(a:β wr wr b):RN w N xp c g o cap qs s m d J b :=
 ⟨h.shelf.below a,h.job.keep (a.block _ h.job.lt),h.nums.below a,λj v f=>by
  have:=h.aA j v f
  exact(a.cell  (ja2 _ _ this)).trans this,h.bel.trans (a.mono h.bel.size),h.xw,h.nx,h.gw,h.gx,h.cap,h.old,h.mpw,h.nw⟩
def RN.put{w wr:ω}{N xp a g o cap m i:Nat}{qs:Nat->Qh}{s:SV}{d:aP}{J b:JV}{v:υ}(h:RN w N xp a g o cap qs s m d J wr)(q:bK (wr.setCell ⟨xp,i,O⟩ v) xp a (S ⟨g,o,O⟩) cap b 2)(c:b.l=J.l):RN w N xp a g o cap qs s m d b (wr.setCell ⟨xp,i,O⟩ v) :=
 ⟨h.shelf.keep (heap_setCell_other _ _ _ _ (λe=>by have r:a=xp:=e;have:=h.mpw;have:=h.xw;omega)) (λk f=>heap_setCell_other _ _ _ _ (λe=>by have r:k=xp:=e;have:=h.old k f;have:=h.xw;omega)),q,by rw[c];exact h.nums.keep λu t e=>by cases e;exact heap_setCell_other _ _ _ _ h.gx,λj v n=>(jad (heap_setCell_other _ _ _ _ h.nx)).trans (h.aA j v n),h.bel.setCell  h.xw _,h.xw,h.nx,h.gw,h.gx,by rw[c];exact h.cap,h.old,h.mpw,h.nw⟩
def RN.rj{w wr:ω}{N xp b g o cap m C:Nat}{qs:Nat->Qh}{s:SV}{d:aP}{J:JV}(h:RN w N xp b g o cap qs s m d J wr)(c:JOk s C J):RJ wr b xp (S ⟨g,o,O⟩) cap qs s m C J 2 :=
 ⟨h.shelf,h.job,h.nums,λi f e a=>by
  cases e
  rcases a with a|a
  .have:=h.old g a;have:=h.gw;omega
  .exact h.gx a,c,h.cap⟩
def RN.cells{w wr:ω}{N xp a g o cap m:Nat}{qs:Nat->Qh}{s:SV}{d:aP}{J:JV}(h:RN w N xp a g o cap qs s m d J wr):wr.cell? ⟨N,0,O⟩=S (d.root:υ)/\wr.cell? ⟨N,1,O⟩=S (d.kind:υ)/\wr.cell? ⟨N,2,O⟩=S (d.file:υ)/\wr.cell? ⟨N,3,O⟩=S (d.rate:υ)/\wr.cell? ⟨N,4,O⟩=S (d.burst:υ) :=
 ⟨h.aA 0 _ rfl,h.aA 1 _ rfl,h.aA 2 _ rfl,h.aA 3 _ rfl,h.aA 4 _ rfl⟩
def bG.heads{w:ω}{sp m:Nat}{a:Nat->Qh}{s:SV}(h:bG w sp a s m){k:Nat}{v:IV}(d:s.file (k:Int)=S v):w.cell? ⟨sp,k,O⟩=S ((a k).p:υ)/\w.cell? ⟨(a k).p,1,O⟩=S (v.h.c:υ)/\w.cell? ⟨(a k).p,3,O⟩=S (v.h.b:υ):=by
 obtain⟨f,_⟩:=h.gY d;exact⟨(h.jW d),f.cells.2.1,f.cells.2.2.2.1⟩
def nC(w:ω)(c m:Nat)(qs:Nat->Qh)(s:SV)(d:aP)(e:Ending)(b:ω):Prop :=
 β w w b/\((newF s d≠0/\e=.returned (.tuple #[.pointer O,newF s d]))\/(newF s d=0/\∃(xp cap:Nat) (a:Option Addr),e=.returned (.tuple #[xp,(0:Int)])/\w.heap.size<=xp/\(∀ g o,a=S ⟨g,o,O⟩->w.heap.size<=g)/\∀ C,JOk s C (gI s d)->RJ b c xp a cap qs s m C (gI s d) 2))
def nC.bad{w a:ω}{g m:Nat}{qs:Nat->Qh}{s:SV}{d:aP}{f:Int}(c:β w w a)(b:newF s d=f)(i:f≠0):nC w g m qs s d (.returned (.tuple #[.pointer O,f])) a:=⟨c,.inl ⟨by omega,by rw[b]⟩⟩
def nC.good{w wr:ω}{N xp a g o cap m:Nat}{qs:Nat->Qh}{s:SV}{d:aP}(b:newF s d=0)(h:RN w N xp a g o cap qs s m d (gI s d) wr):nC w a m qs s d (.returned (.tuple #[xp,(0:Int)])) wr :=
 ⟨h.bel,.inr ⟨b,xp,cap,S _,rfl,h.xw,λi f e=>by cases e;exact h.gw,λC c=>h.rj c⟩⟩
def RN.want{w wr:ω}{N xp a g o cap m k:Nat}{qs:Nat->Qh}{s:SV}{d:aP}{J:JV}(h:RN w N xp a g o cap qs s m d (J.put (jR s J k)) wr)(b:k<J.n)(c:J.n<=64):RN w N xp a g o cap qs s m d (J.put (jR s J (k+1))) (wr.setCell ⟨xp,9+k,O⟩ (.bool (J.iL s (k:Int)))):=by
 refine h.put ?_ rfl;refine h.job.yJ  (by omega) λq i=>?_
 show(S4.eY _ _ (k:Int) _).testBit q=_
 rw[S4.yc];have f  := S4.O0 b;by_cases e:q=k
 .simp_all
 .rw[if_neg e,if_neg (λq=>e (by omega))];rfl
def Sr{y m:Nat}{qs:Nat->Qh}{s:SV}(d:aP)(w:ω)(h:bG w y qs s m)(a3:(s.walk d.root).2=0)(V:(s.walk d.root).1≠[])(aa:S4.inB d.rate 1000=true)(am:S4.inB d.burst 1000=true) :
    κ prog 83 #[y,.agg #[d.root,d.kind,d.file,d.rate,d.burst]] w (nC w y m qs s d):=by
  have K:Hid (β w w (w.alloc (bF d))):=(ja0 _ _).alloc (ja1 _) _;have Z:=ah (oZ d w);have a4:=ah (sZ d w);have HI:Hid ((prog.info? 82).map (·.size)=some ([.int .i64 d.root,.int .i64 d.kind,.int .i64 d.file,.int .i64 d.rate,.int .i64 d.burst]:List υ).length):=uq
  have R:=ah (vI d.root (w.alloc (bF d)) (h.below K.out));rw[a3] at R;obtain⟨hg,cg,_,_⟩:=s.walk_good d.root;have a6:=Linked.nodup _ _ (SV.qR a3)
  have ae:Hid (newF s d=jX s (s.walk d.root).1 d):=by
    unfold Hid newF;rw[if_neg (by rw[a3];simp),if_neg V,aa,am,if_neg (by decide)]
  have aR:=ah (OC (s.walk d.root).1 d.file a6);have c5:Hid (newF s d=0->wz s d m):=AV h.ok;obtain⟨r,hl⟩:=SV.IU a3 V;obtain⟨v,hv,c6⟩:=hg d.root (by rw[hl];exact jaf)
  obtain⟨r0,r5,_⟩:=SV.dS hv;have E:=HV.dK (h.ok _ _ (SV.dS hv).2.2).h;have cn:=hg.gJ V
  have b1:Hid ((bY s d).n=v.h.c.toNat):=by
    unfold Hid;show(s.gJ (s.walk d.root).1).toNat=_
    omega
  have bt:v.h.c=((bY s d).n:Int):=by rw[b1.out];omega
  have bu:(bY s d).n<=64:=by rw[b1.out];omega
  obtain⟨rk,a8⟩:∃ rk:Nat,d.root=(rk:Int):=⟨d.root.toNat,by omega⟩
  have aq:Hid (∀ W:ω,β w w W->W.cell? ⟨y,rk,none⟩=some ((qs rk).p:υ)/\W.cell? ⟨(qs rk).p,1,none⟩=some (.int .i64 ((bY s d).n:Int))):=λW bc=>by
    have bp:=hv;rw[a8] at bp;obtain⟨e1,e2,_⟩:=(h.below bc).heads bp;rw[bt] at e2;exact⟨e1,e2⟩
  have ct:(0:Int)<=(rk:Int):=by omega
  have cv:(rk:Int)<5:=by omega
  have cf:Hid (∀ k:Nat,∀ u,s.file (k:Int)=some u->∀ W:ω,bG W y qs s m->W.cell? ⟨y,k,none⟩=some ((qs k).p:υ)/\W.cell? ⟨(qs k).p,1,none⟩=some (u.h.c:υ)/\W.cell? ⟨(qs k).p,3,none⟩=some (u.h.b:υ)):=λk u hu W hW=>hW.heads hu
  have cl:Hid (∀ k:Nat,k<5->s.file (k:Int)=none->∀ W:ω,bG W y qs s m->W.cell? ⟨y,k,none⟩=some (.pointer none)):=λk Q hn W hW=>by
    have:=hW.cell Q
    rw[SV.zZ Q] at hn;rw[hn] at this;exact this
  have c9:Hid (∀ k,fpQ qs s k->k<w.heap.size):=λk Q=>h.gQ Q
  have ca:Hid (y<w.heap.size):=lt_of_some h.blk;have bj:Hid (∀ W:ω,β w w W->bG W y qs s m):=λW E=>h.below E
  have bm:0<(s.walk d.root).1.length:=List.length_pos_iff.2 V;have bE:(((s.walk d.root).1.length:Int)==0)=false:=by simp;omega
  have co:0<=d.rate/\d.rate<=1000:=by unfold S4.inB at aa;simpa using aa
  have bc:0<=d.burst/\d.burst<=1000:=by unfold S4.inB at am;simpa using am
  have g1:decide (d.rate<0)=false:=decide_eq_false (by omega)
  have g2:decide (1000<d.rate)=false:=decide_eq_false (by omega)
  have g3:decide (d.burst<0)=false:=decide_eq_false (by omega)
  have g4:decide (1000<d.burst)=false:=decide_eq_false (by omega)
  have b8:Hid ((-1:Int) ∉ (s.walk d.root).1):=λhm=>by
    obtain⟨u,hu,_⟩:=hg _ hm;have:=(SV.dS hu).1
    omega
  have S:Hid ((bY s d).l=(s.walk d.root).1):=rfl;have b4:Hid (s.gJ (s.walk d.root).1=((bY s d).n:Int)):=by unfold Hid;omega
  have ai:Hid (∀(W:ω) (a:Option Addr) (cap:Nat),bK (W.alloc (.cells (rW y d.root d.kind d.file d.rate d.burst a (s.walk d.root).1.length cap) 198)) W.heap.size y a cap {bY s d with deep:=0,n:=0} 2):=λW a cap=>Si (J:={bY s d with deep:=0,n:=0}) W rfl rfl rfl rfl rfl
  have ac:Hid ((bY s d).deep=oG (s.walk d.root).1 d):=rfl;have ax:Hid (∀ dp:Nat,dp=(bY s d).deep->({{{bY s d with deep:=0,n:=0} with n:=(bY s d).n} with deep:=dp}:JV)=bY s d):=λdp e=>by subst e;rfl
  have bi:Hid ((0:Nat)=(bY s d).deep->({{bY s d with deep:=0,n:=0} with n:=(bY s d).n}:JV)=bY s d):=λe=>by
    have:(bY s d).deep=0:=e.symm
    show(⟨(bY s d).rt,(bY s d).kind,(bY s d).file,(bY s d).rate,(bY s d).burst,(bY s d).l,0,(bY s d).n,(bY s d).x,(bY s d).last,(bY s d).stage,(bY s d).lv⟩:JV)=_
    conv=>lhs;rw[<- this]
  have b7:Hid (gI s d=(bY s d).put (jR s (bY s d) (bY s d).n)):=rfl;have bo:Hid (bY s d=(bY s d).put (jR s (bY s d) 0)):=rfl;unfold bF at K Z a4 R;have ao:Hid (d.root=(rk:Int)):=a8;clear h hg hv c6 hl E cn bt b1 a3 aa am r0 r5;generalize bN:bY s d=t at aq bu S b4 ai ac ax bi b7 bo;generalize ce:(s.walk d.root).1=l at R cg a6 V ae aR b8 S b4 ai ac bm bE;rw[a8] at R HI Z K a4 |-;clear ce a8;generalize (qs rk).p=ip at aq;have hz:=Jz w;obtain⟨d0,d1,d2,d3,d4⟩:=Z.out _ (ja0 _ _);go_enter func83,ntmps83
  go_wp2_with fail
  refine R.out.mono ?_;rintro e D ⟨a,cap,rfl,av,b5,a7⟩;have T:=ah (K.out.trans (a7.mono K.out.size));have az:=ah a7;obtain⟨g,o,rfl,bg⟩:=av 0 bm;have ad:=ah av;obtain⟨bh,bB⟩:=b5 g o rfl;have bw:w.heap.size<=g:=ja4 K.out.size bh;have bS:g<D.heap.size:=ja2 _ _ bg;obtain⟨q0,q1,q2,q3,q4⟩:=Z.out _ a7;have ba:=ah (a4.out _ a7);have ck:w.heap.size<D.heap.size:=ja2 _ _ q0;clear av b5 a7 R bh d0 d1 d2 d3 d4 bg hz;have hz:=Jz D;have a1:=ah (ai.out D (some ⟨g,o,none⟩) cap);rw[ao.out] at a1
  have I:Hid (β D D (D.alloc (.cells (rW y (rk:Int) d.kind d.file d.rate d.burst (some ⟨g,o,none⟩) l.length cap) 198))):=(ja0 _ _).alloc (ja1 _) _;unfold rW at a1 I;go_wp2_with (refine wpList_load_mid (by rfl) 82 (.tmp 3) (by rfl) w.heap.size 0 (by rfl) [(rk:Int),d.kind,d.file,d.rate,d.burst] _ ba.out underlying82 rfl HI.out ?_)
  generalize D.alloc (.cells ((.pointer (some ⟨y,0,none⟩)::.int .i64 (rk:Int)::.int .i64 d.kind::.int .i64 d.file::.int .i64 d.rate::.int .i64 d.burst::.slice (some ⟨g,o,none⟩) l.length cap::.int .i64 0::.int .i64 0::Value.bool false::Value.bool false::Value.bool false::Value.bool false::Value.bool false::Value.bool false::Value.bool false::Value.bool false::Value.bool false::Value.bool false::Value.bool false::Value.bool false::Value.bool false::Value.bool false::Value.bool false::Value.bool false::Value.bool false::Value.bool false::Value.bool false::Value.bool false::Value.bool false::Value.bool false::Value.bool false::Value.bool false::Value.bool false::Value.bool false::Value.bool false::Value.bool false::Value.bool false::Value.bool false::Value.bool false::Value.bool false::Value.bool false::Value.bool false::Value.bool false::Value.bool false::Value.bool false::Value.bool false::Value.bool false::Value.bool false::Value.bool false::Value.bool false::Value.bool false::Value.bool false::Value.bool false::Value.bool false::Value.bool false::Value.bool false::Value.bool false::Value.bool false::Value.bool false::Value.bool false::Value.bool false::Value.bool false::Value.bool false::Value.bool false::Value.bool false::Value.bool false::Value.bool false::Value.bool false::Value.bool false::Value.bool false::Value.bool false::Value.bool false::.int .i64 (-1)::.int .i64 2::.int .i64 d.rate::.int .i64 d.burst::.int .i64 d.burst::[]:List υ).toArray) 198)=W2 at a1 I |-
  have G:Hid (RN w w.heap.size D.heap.size y g o cap qs s m d {t with deep:=0,n:=0} W2):=⟨bj.out _ (T.out.trans (I.out.mono T.out.size)),a1.out,(by show Nums W2 _ t.l;rw[S.out];exact ad.out.below I.out),(by rw[ao.out];exact a4.out _ (az.out.trans (I.out.mono az.out.size))),T.out.trans (I.out.mono T.out.size),T.out.size,by omega,bw,by omega,by show t.l.length<=cap;rw[S.out];exact bB,c9.out,ca.out,ja1 _⟩
  clear a1 I q0 q1 q2 q3 q4 hz ad ba az T a4 Z K ai bj;generalize bL:D.heap.size=xp at G bS ck |-;have bn:Hid (W2.cell? ⟨xp,8,none⟩=some (.int .i64 0)):=G.out.job.cell (i:=8) (by omega)
  have c8:=bn.out;have f8:=G.out.job.thaw 8;obtain⟨n0,_⟩:=G.out.cells;rw[ao.out] at n0;obtain⟨n1,n2⟩:=aq.out W2 G.out.bel;have af:Hid (RN w w.heap.size xp y g o cap qs s m d {{t with deep:=0,n:=0} with n:=t.n} (W2.setCell ⟨xp,8,none⟩ (t.n:Int))):=G.out.put (G.out.job.TK t.n) rfl
  clear G bn bL;go_quiet (fail)
  go_wp2
  go_loopw [10,11] (λu i wr=>∃ k:Nat,k<=l.length/\u=.int .i64 (lX l d.file k)/\i=.int .i64 (k:Int)/\RN w w.heap.size xp y g o cap qs s m d {{t with deep:=0,n:=0} with n:=t.n} wr) (λ_ i _=>l.length-(intOf i).toNat)
  case atStart=>exact⟨0,ja5 _,rfl,rfl,by first|exact af.out|exact af.out.drewN _|exact af.out.drew⟩
  case round =>
    clear af c8 f8 n0 n1 n2;obtain⟨k,Q,rfl,rfl,F⟩:=hrel;have N:=ah F;obtain⟨n0,n1,n2,n3,n4⟩:=F.cells;rw[ao.out] at n0;by_cases aD:k<l.length
    . have cd:=F.nums k (by show k<t.l.length;rw[S.out];exact aD)
      obtain⟨g',o',ee,b6⟩:=cd;cases ee
      have bf:wr.cell? ⟨g,o+k,none⟩=some (.int .i64 (l.getD k 0)):=by rw[<- S.out];exact b6
      have a0:Hid (lX l d.file (k+1)=if l.getD k 0=d.file then (k:Int) else lX l d.file k):=rfl
      clear F b6;have k0:(0:Int)<=(k:Int):=by omega
      have A:(k:Int)<(l.length:Int):=by omega
      have k2:decide ((k:Int)<(l.length:Int))=true:=decide_eq_true A;generalize lX l d.file k=la at a0;by_cases U:l.getD k 0=d.file
      . have ge:(l.getD k 0==d.file)=true:=by simpa using U
        have b2:Hid (lX l d.file (k+1)=(k:Int)):=by unfold Hid;rw[a0.out,if_pos U]
        clear U a0;generalize l.getD k 0=nk at bf ge;go_wp2
        go_region
        go_wp2
        go_roundw
        case rel =>
          have fin:∃ A:Nat,A<=l.length/\Value.int .i64 (k:Int)=.int .i64 (lX l d.file A)/\Value.int .i64 ((k:Int)+1)=.int .i64 (A:Int)/\RN w w.heap.size xp y g o cap qs s m d {{t with deep:=0,n:=0} with n:=t.n} wr.drew:=⟨k+1,by omega,by rw[b2.out],by go_num,N.out.drew⟩
          first|exact fin|((repeat apply Exists.intro);exact⟨fin,rfl⟩)
        case measure=>simp[intOf];omega
      . have ge:(l.getD k 0==d.file)=false:=by simpa using U
        have b2:Hid (lX l d.file (k+1)=la):=by unfold Hid;rw[a0.out,if_neg U]
        clear U a0;generalize l.getD k 0=nk at bf ge;go_wp2
        go_region
        go_wp2
        go_roundw
        case rel =>
          have fin:∃ A:Nat,A<=l.length/\Value.int .i64 la=.int .i64 (lX l d.file A)/\Value.int .i64 ((k:Int)+1)=.int .i64 (A:Int)/\RN w w.heap.size xp y g o cap qs s m d {{t with deep:=0,n:=0} with n:=t.n} wr.drew:=⟨k+1,by omega,by rw[b2.out],by go_num,N.out.drew⟩
          first|exact fin|((repeat apply Exists.intro);exact⟨fin,rfl⟩)
        case measure=>simp[intOf];omega
    . have aE:k=l.length:=by omega
      subst aE;have k2:decide ((l.length:Int)<(l.length:Int))=false:=decide_eq_false (by omega)
      rw[aR.out];have ap:=tJ l d.file a6;have aw:=LM (l:=l) (f:=d.file) a6;have ar:=KN (l:=l) (f:=d.file);have a2:=ah F.bel;have f7:=F.job.thaw 7;have c7:wr.cell? ⟨xp,7,none⟩=some (.int .i64 0):=F.job.cell (i:=7) (by omega)
      have bs:=ah F.shelf;clear F a6 aR;generalize c0:Lib.idxOf l d.file=z at ap aw ar
      have cr : -1<=z/\z<(l.length:Int):=by
        rcases ap with⟨e,_⟩|⟨q,e,B,_⟩
        . omega
        . omega
      by_cases M:d.kind=1
      have gk:(d.kind==1)=true:=by simpa using M
      have X:Hid (newF s d=oh s l d.file):=by unfold Hid;rw[ae.out];unfold jX;rw[if_pos M]
      have bA:Hid ((0:Nat)=t.deep):=by unfold Hid;rw[ac.out];unfold oG;rw[if_pos M]
      have ab:Hid (s.file d.file=none->newF s d=4):=λe=>by rw[X.out];unfold oh;rw[e]
      have bv:Hid (d.file<0\/5<=d.file->s.file d.file=none):=λe=>by unfold SV.file;rw[if_neg (by omega)]
      cases H:decide (d.file<0);cases P:decide (5<=d.file)
      rotate_left
      iterate 2
        . go_wp2
          go_quiet (fail)
          go_wp2
          go_ret2
          exact nC.bad (below_drewN a2.out _) (ab.out (bv.out (by simp at *;omega))) (by decide)
      rotate_right
      have ci:=of_decide_eq_false H;have bX:=of_decide_eq_false P;obtain⟨L,b0⟩:∃ L:Nat,d.file=(L:Int):=⟨d.file.toNat,by omega⟩
      have cs:(0:Int)<=(L:Int):=by omega
      have cu:(L:Int)<5:=by omega
      rw[b0] at n2 H P;rcases hfile:s.file d.file with _|u
      . have bO:=ah (ab.out hfile)
        rw[b0] at hfile;have nf:=cl.out L (by omega) hfile wr bs.out
        clear hfile;go_wp2
        go_quiet (fail)
        go_wp2
        go_ret2
        exact nC.bad (below_drewN a2.out _) bO.out (by decide)
      have Y:Hid (newF s d=if l.contains d.file=true\/u.h.b ≠ -1\/u.h.c≠s.gJ l then 2 else 0):=by unfold Hid;rw[X.out];unfold oh;rw[hfile]
      rw[b4.out] at Y;rw[b0] at hfile;obtain⟨u1,u2,u3⟩:=cf.out L u hfile wr bs.out;clear hfile ci bX;generalize (qs L).p=cq at u1 u2 u3;generalize u.h.c=uc at u2 Y;generalize u.h.b=ub at u3 Y;have bR:Hid (0<=z\/ub ≠ -1\/uc≠(t.n:Int)->newF s d=2):=λe=>by rw[Y.out,if_pos (e.imp_left ar.2)]
      cases gx:decide (0<=z);cases bl:(ub != -1);cases bb:(uc != (t.n:Int))
      rotate_left
      iterate 3
        . go_wp2
          go_quiet (fail)
          go_wp2
          go_quiet (fail)
          go_wp2
          go_ret2
          exact nC.bad (below_drewN (below_drewN a2.out _) _) (bR.out (by simp at *;omega)) (by decide)
      rotate_right
      have a9:Hid (newF s d=0):=by unfold Hid;rw[Y.out,if_neg (by rintro(e|e|e);exact of_decide_eq_false gx (ar.1 e);simp at bl;exact e bl;simp at bb;exact e bb)]
      have O:Hid (RN w w.heap.size xp y g o cap qs s m d t wr):=by have:=N.out;rw[bi.out bA.out] at this;exact this
      rotate_left
      have gk:(d.kind==1)=false:=by simpa using M
      by_cases al:¬(d.kind=2\/d.kind=3)
      . have H:(d.kind==2)=false:=by simp;omega
        have P:(d.kind==3)=false:=by simp;omega
        have ad:Hid (newF s d=1):=by unfold Hid;rw[ae.out];unfold jX;rw[if_neg M,if_neg al]
        go_wp2
        go_ret2
        exact nC.bad a2.out ad.out (by decide)
      have al:d.kind=2\/d.kind=3:=jai al;have X:Hid (newF s d=if d.kind=2/\d.file = -1\/(l.drop 1).contains d.file=true then 0 else 4):=by unfold Hid;rw[ae.out];unfold jX;rw[if_neg M,if_pos al]
      have bq:Hid (t.deep=if z = -1 then l.length else z.toNat):=by unfold Hid;rw[ac.out];unfold oG;rw[if_neg M,c0]
      by_cases a5:d.kind=2/\d.file = -1
      have H:(d.kind==2)=true:=by simpa using a5.1
      have P:(d.file == -1)=true:=by simpa using a5.2
      have ch:z = -1:=by
        rcases ap with⟨e,_⟩|⟨q,e,B,hd⟩
        . exact e
        . exfalso
          have bd:d.file∈l:=by
            rw[<- hd,ja6,ja8 B];exact jac B
          rw[a5.2] at bd;exact b8.out bd
      have a9:Hid (newF s d=0):=by unfold Hid;rw[X.out,if_pos (.inl a5)]
      have gl:decide ((l.length:Int)<1)=false:=decide_eq_false (by omega)
      have O:Hid (RN w w.heap.size xp y g o cap qs s m d t (wr.setCell ⟨xp,7,none⟩ (l.length:Int))):=by
        have:=N.out.put (N.out.job.Ht l.length) rfl
        rw[ax.out l.length (by rw[bq.out,if_pos ch])] at this
        exact this
      rotate_left
      have be:Hid (newF s d=if 1<=z then 0 else 4):=by
        unfold Hid;rw[X.out];by_cases e:1<=z
        . rw[if_pos (.inr (aw.2 e)),if_pos e]
        . rw[if_neg (by rintro(x|x);exact a5 x;exact e (aw.1 x)),if_neg e]
      have bk:(d.kind==2)=true/\(d.file == -1)=false\/(d.kind==2)=false/\(d.kind==3)=true:=by simp;omega
      by_cases b3:¬1<=z
      . have gl:decide (z<1)=true:=decide_eq_true (by omega)
        have ab:Hid (newF s d=4):=by unfold Hid;rw[be.out,if_neg b3]
        rcases bk with⟨H,P⟩|⟨H,gc⟩
        all_goals
          go_wp2
          go_ret2
          exact nC.bad a2.out ab.out (by decide)
      have b3:1<=z:=by omega
      have gl:decide (z<1)=false:=decide_eq_false (by omega)
      have a9:Hid (newF s d=0):=by unfold Hid;rw[be.out,if_pos b3]
      obtain⟨xk,b9⟩:∃ xk:Nat,z=(xk:Int):=⟨z.toNat,by omega⟩
      have O:Hid (RN w w.heap.size xp y g o cap qs s m d t (wr.setCell ⟨xp,7,none⟩ z)):=by
        have:=N.out.put (N.out.job.Ht xk) rfl
        rw[ax.out xk (by rw[bq.out,if_neg (by omega)];omega),<- b9] at this
        exact this
      clear b9;rcases bk with⟨H,P⟩|⟨H,gc⟩
      all_goals
        go_wp2
        (try (go_quiet (fail);go_wp2;go_quiet (fail);go_wp2))
        go_loopw [12] (λi wr=>∃ k:Nat,k<=t.n/\i=.int .i64 (k:Int)/\RN w w.heap.size xp y g o cap qs s m d (t.put (jR s t k)) wr) (λi _=>t.n-(intOf i).toNat)
        case atStart=>exact⟨0,ja5 _,rfl,by rw[<- bo.out];first|exact O.out|exact O.out.drewN _|exact(O.out.drewN _).drewN _|exact O.out.drew⟩
        case round =>
          obtain⟨k,Q,rfl,B⟩:=hrel;obtain⟨C,hJ,_,_⟩:=(c5.out a9.out).jok;rw[bN] at hJ;have HQ:=ah B;by_cases aD:k<t.n
          . have aM:Hid (∀ W:ω,β wr wr W->κ prog 157 #[xp,(k:Int)] W λe w'=>e=.returned (.bool (t.iL s (k:Int)))/\β W W w'):=λW E=>G8 (j:=t.put (jR s t k)) (k:Int) W ((B.below E).rj (hJ.newX k))
            have ag:Hid (∀ W:ω,β wr wr W->RN w w.heap.size xp y g o cap qs s m d (t.put (jR s t (k+1))) (W.setCell ⟨xp,9+k,none⟩ (.bool (t.iL s (k:Int))))/\W.cell? ⟨xp,9+k,none⟩=some (.bool ((jR s t k).testBit k))/\W.frozen? ⟨xp,9+k,none⟩=false):=λW E=>⟨(B.below E).want aD bu,by rw[(B.below E).job.cell (i:=9+k) (by omega),vF (by omega)];rfl,(B.below E).job.thaw _⟩
            have k0:(0:Int)<=(k:Int):=by omega
            have cp:(k:Int)<64:=by omega
            have A:decide ((k:Int)<(t.n:Int))=true:=decide_eq_true (by omega)
            have aL:Hid (β wr wr wr.drew):=(ja0 _ _).drew;clear B hJ;generalize t.iL s (k:Int)=wb at aM ag;generalize (jR s t k).testBit k=ob at ag;go_wp2
            go_region_held3 (λW=>True)
              (first|exact trivial)
              (first
                | (go_at_call 157;refine(aM.out _ aL.out).mono ?_;rintro e w5 ⟨rfl,br⟩;have cj:=ah (aL.out.trans (br.mono aL.out.size));have an:=ag.out _ cj.out;have cc:=an.2.1;have ff:=an.2.2;have cm:=ah an.1;clear an br))
            clear aM ag HQ cc ff;go_wp2
            go_roundw
            case rel =>
              have fin:∃ A:Nat,A<=t.n/\Value.int .i64 ((k:Int)+1)=.int .i64 (A:Int)/\RN w w.heap.size xp y g o cap qs s m d (t.put (jR s t A)) (w5.setCell ⟨xp,9+k,none⟩ wb):=⟨k+1,by omega,by go_num,cm.out⟩
              first|exact fin|((repeat apply Exists.intro);exact⟨fin,rfl⟩)
            case measure=>simp[intOf];omega
          . have aE:k=t.n:=by omega
            have A:decide ((k:Int)<(t.n:Int))=false:=decide_eq_false (by omega)
            have cb:Hid (RN w w.heap.size xp y g o cap qs s m d (gI s d) wr):=by unfold Hid;rw[b7.out,<- aE];exact HQ.out
            clear B HQ hJ;go_wp2
            go_ret2
            exact nC.good a9.out cb.out
