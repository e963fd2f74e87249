/- A part. -/
import Derived.Test.YtbohmhacdgckgaaGreatDoorQJobP1
set_option linter.all false
set_option maxHeartbeats 4000000
set_option maxRecDepth 100000
namespace Go.Proofs.YtbohmhacdgckgaaGreatDoor
open Go.RowKit renaming Below->β, Hid->χ
open Go renaming World->ω, Value->υ, Calls->κ
open Option renaming none->O, some->S
open Go.Proofs.Tryz Go.RowKit Go.Maps
attribute [local go_sem ↓] Go.wp_at_zero Go.wp_at_succ
def JOk.n64{s C j}(h:JOk s C j):j.n<=64:=by have:=h.n;have:=h.c40;omega
def VY{xp b cap a j is}(w)(h:bT w xp b a cap j is) :
  κ prog 190 #[xp] w λe w'=>e=.returned (.bool (decide (is<4)))/\w'=w:=by
 obtain⟨d,c2,c3,g,f,k,c,i,l⟩:=h.cells;go_enter func190,ntmps190;go_wp2;go_ret;simp_all
def qM(is:Int)(n:Nat):Int:=if is=1/\n=0 then 3 else if is=3/\n≠0 then 1 else is
def Dy{xp c cap m C a qs s j is}(w)(h:RJ w c xp a cap qs s m C j is) :
  κ prog 183 #[xp] w λe w'=>e=.returned (.tuple #[])/\RJ w' c xp a cap qs s m C j (qM is (S4.cnt j.x 64))/\fC qs s xp w qs s w':=by
 obtain⟨r,c2,c3,u,t,y,q,v,z⟩:=h.job.cells;have b:=ah (S4.Jk w h.job.rY);have f:χ (RJ w c xp a cap qs s m C j is):=h;have l:χ (RJ (w.setCell ⟨xp,74,O⟩ (1:Int)) c xp a cap qs s m C j 1/\fC qs s xp w qs s (w.setCell ⟨xp,74,O⟩ (1:Int))):=h.o8 1;have n:χ (RJ (w.setCell ⟨xp,74,O⟩ (3:Int)) c xp a cap qs s m C j 3/\fC qs s xp w qs s (w.setCell ⟨xp,74,O⟩ (3:Int))):=h.o8 3;have g:χ (fC qs s xp w qs s w):=fC.refl _ _ _ _;unfold qM;generalize S4.cnt j.x 64=o at *
 by_cases k:is=1
 .subst k;by_cases d:o=0
  .subst d;rw[if_pos ⟨rfl,rfl⟩];go_enter func183,ntmps183;go_wp2_with fail;refine cSt b ?_;go_wp2;go_end0
   exact⟨rfl,n.1,n.2⟩
  .rw[if_neg (λe=>d e.2),if_neg (λe=>absurd e.1 (by decide))];go_enter func183,ntmps183;go_wp2_with fail;refine cSt b ?_;go_wp2;go_end0
   exact⟨rfl,f,g⟩
 .have g1:(is==1)=false:=by simpa using k
  rw[if_neg (λe=>k e.1)];by_cases i:is=3
  .subst i;by_cases d:o=0
   .subst d;rw[if_neg _];go_enter func183,ntmps183;go_wp2_with fail;refine cSt b ?_;go_wp2;go_end0
    exact⟨rfl,f,g⟩
   .rw[if_pos _];go_enter func183,ntmps183;go_wp2_with fail;refine cSt b ?_;go_wp2;go_end0
    exact⟨rfl,l.1,l.2⟩
  .have g3:(is==3)=false:=by simpa using i
   rw[if_neg (λe=>i e.1)];go_enter func183,ntmps183;go_wp2_with fail;refine cSt b ?_;go_wp2;go_end0
   exact⟨rfl,f,g⟩
def JOk.st3{s C j}(h:JOk s C j):j.stage≠3:=by have:=h.stage;omega
def JV.zS(j:JV):(j.stage=1/\(j.state=1\/j.state=3))\/(j.stage≠1/\j.state=j.stage):=by
 unfold JV.state;omega
def YT{j:JV}{x}(d:j.stage≠3):qM j.state (S4.cnt x 64)=(j.put x).state:=by
 have c:(j.put x).state=if j.stage=1/\S4.cnt x 64=0 then 3 else j.stage:=rfl
 unfold qM;rcases j.zS with⟨b,a|a⟩|⟨b,a⟩
 .omega
 .omega
 .omega
def JV.xQ(j:JV){st}(h:st≠1):(j.at st).state=st:=by
 have a:(j.at st).state=if st=1/\S4.cnt j.x 64=0 then 3 else st:=rfl
 omega
def JR{xp q cap m C a qs s j is}(c:Int)(w)(h:RJ w q xp a cap qs s m C j is) :
  κ prog 157 #[xp,c] w λe w'=>e=.returned (.bool (j.jr s c))/\β w w w':=by
 obtain⟨x,c2,c3,y,v,T,M,R,U⟩:=h.job.cells;have z:j.above.length=j.deep:=by unfold JV.above;rw[jay];have:=h.ok.deep;omega
 have A:χ (∀ W:ω,β w w W->κ prog 186 #[q,.slice a j.deep cap,c] W λe w'=>e=.returned (s.found j.above c)/\β W W w'):=λW u=>by
  have:=JB (cap:=cap) j.above c W (h.shelf.below u) ((h.nums.below u).take _) (λn J=>h.ok.good n (List.mem_of_mem_take J)) (by rw[z];have:=h.ok.deep;have:=h.ok.len;omega)
  rw[z] at *;exact this
 have L:=h.ok.deep;have N:=h.cap;have G:=h.ok.kind;obtain⟨g,o,K,_⟩:=h.nums 0 (List.length_pos_iff.2 h.ok.ne);subst K
 have f:χ (∀ W:ω,β w w W->W.cell? ⟨xp,0,O⟩=S (q:υ)/\W.cell? ⟨xp,2,O⟩=S (j.kind:υ)/\W.cell? ⟨xp,6,O⟩=S (.slice (S ⟨g,o,O⟩) j.l.length cap)/\W.cell? ⟨xp,7,O⟩=S (.int .i64 (j.deep:Int))):=λW u=>by
  obtain⟨x,c2,c3,y,v,_⟩:=(h.below u).job.cells;exact⟨x,c2,y,v⟩
 unfold JV.jr;have r:χ (β w w w.drew):=(ja0 _ _).drew;generalize s.found j.above c=F at *
 generalize j.deep=dp at *
 generalize j.l.length=ln at *
 generalize j.kind=kd at *
 have E  := x;have D  := y;have B  := v;have P:(0:Int)<=(dp:Int):=by omega
 have Q:(dp:Int)<=(cap:Int):=by omega
 rcases G with rfl|rfl|rfl
 .go_enter func157,ntmps157;go_wp2;go_ret;exact⟨rfl,ja0 _ _⟩
 .go_enter func157,ntmps157;go_wp2
  go_region_held3 (λW=>W.cell? ⟨xp,0,O⟩=S (q:υ)/\W.cell? ⟨xp,6,O⟩=S (.slice (S ⟨g,o,O⟩) ln cap)/\W.cell? ⟨xp,7,O⟩=S (.int .i64 (dp:Int)))
   (first|(exact⟨E,D,B⟩)|assumption)
   (first
     | (go_at_call 186;refine cEq (A _ r) λi t=>?_;have b:=ah (r.trans (t.mono r.size));have I:i.cell? ⟨xp,0,O⟩=S (q:υ)/\i.cell? ⟨xp,6,O⟩=S (.slice (S ⟨g,o,O⟩) ln cap)/\i.cell? ⟨xp,7,O⟩=S (.int .i64 (dp:Int)):=⟨(f _ b).1,(f _ b).2.2.1,(f _ b).2.2.2⟩;clear t))
  obtain⟨_,H,_⟩:=f _ b;by_cases d:0<F
  .have k  := decide_eq_true d;go_wp2;go_ret;exact⟨by first|rfl|simp[k,d],b⟩
  .have k  := decide_eq_false d;go_wp2;go_ret;exact⟨by first|rfl|simp[k,d],b⟩
 .go_enter func157,ntmps157;go_wp2
  go_region_held3 (λW=>W.cell? ⟨xp,0,O⟩=S (q:υ)/\W.cell? ⟨xp,6,O⟩=S (.slice (S ⟨g,o,O⟩) ln cap)/\W.cell? ⟨xp,7,O⟩=S (.int .i64 (dp:Int)))
   (first|(exact⟨E,D,B⟩)|assumption)
   (first
     | (go_at_call 186;refine cEq (A _ r) λi t=>?_;have b:=ah (r.trans (t.mono r.size));have I:i.cell? ⟨xp,0,O⟩=S (q:υ)/\i.cell? ⟨xp,6,O⟩=S (.slice (S ⟨g,o,O⟩) ln cap)/\i.cell? ⟨xp,7,O⟩=S (.int .i64 (dp:Int)):=⟨(f _ b).1,(f _ b).2.2.1,(f _ b).2.2.2⟩;clear t))
  obtain⟨_,H,_⟩:=f _ b;by_cases d:0<=F
  .have k  := decide_eq_true d;go_wp2;go_ret;exact⟨by first|rfl|simp[k,d],b⟩
  .have k  := decide_eq_false d;go_wp2;go_ret;exact⟨by first|rfl|simp[k,d],b⟩
def WC{xp l cap a j is}(w)(h:bT w xp l a cap j is) :
  κ prog 141 #[xp] w λe w'=>e=.returned (.agg #[j.kind,j.file,is,.int .i64 (S4.cnt j.x 64:Nat)])/\β w w w':=by
 have i:=ah λW (c:β w w W)=>S4.Jk W (h.keep (c.block _ h.lt)).rY
 obtain⟨o,c2,c3,q,m,r,g,n,s⟩:=h.cells;have b:=h.lt;generalize S4.cnt j.x 64=d at *
 generalize j.kind=kd at *
 generalize j.file=fl at *
 have f:χ (β w w (w.alloc (.cells #[(0:Int),(0:Int),(0:Int),(0:Int)] 120)).drew):=((ja0 _ _).alloc (ja1 _) _).drew
 have k:χ ((w.alloc (.cells #[kd,fl,is,(d:Int)] 120)).drew.cell? ⟨xp,2,O⟩=S (kd:υ)/\(w.alloc (.cells #[kd,fl,is,(d:Int)] 120)).drew.cell? ⟨xp,3,O⟩=S (fl:υ)/\(w.alloc (.cells #[kd,fl,is,(d:Int)] 120)).drew.cell? ⟨xp,74,O⟩=S (is:υ)):=by
  have c:β w w (w.alloc (.cells #[kd,fl,is,(d:Int)] 120)).drew:=((ja0 _ _).alloc (ja1 _) _).drew;exact⟨(c.cell (p:=⟨xp,2,O⟩) b).trans c2,(c.cell (p:=⟨xp,3,O⟩) b).trans c3,(c.cell (p:=⟨xp,74,O⟩) b).trans g⟩
 go_enter func141,ntmps141;go_wp2_with fail
 go_region_held3 (λW=>W.cell? ⟨xp,2,O⟩=S (kd:υ)/\W.cell? ⟨xp,3,O⟩=S (fl:υ)/\W.cell? ⟨xp,74,O⟩=S (is:υ))
  (first|(exact⟨((f.cell (p:=⟨xp,2,O⟩) b).trans c2),((f.cell (p:=⟨xp,3,O⟩) b).trans c3),((f.cell (p:=⟨xp,74,O⟩) b).trans g)⟩)|(exact k)|assumption)
  (first
    | (go_at_call 208;refine(i _ f).mono ?_;rintro e w' ⟨rfl,rfl⟩))
 go_wp2;exact bodyPost_ret (v:=.agg #[kd,fl,is,(d:Int)]) (by simp[results,results141,go_sem]) rfl ⟨rfl,(by first|exact((ja0 _ _).alloc (ja1 _) _).drew|exact((ja0 _ _).alloc _ _))⟩
def eu.of{w w' b xp cap m C a qs s j' is}(h:RJ w' b xp a cap qs s m C j' is)(d:is=j'.state)(c:fC qs s xp w qs s w'):eu b xp a cap qs s s m C j' w w':=by subst d;exact⟨qs,h,c⟩
def Wx{xp f cap m C a qs s j}(g:Bool)(w)(h:RJ w f xp a cap qs s m C j j.state) :
  κ prog 128 #[xp,g] w λe w'=>e=.returned (fD j g)/\eu f xp a cap qs s s m C (nG j g) w w':=by
 obtain⟨F,c2,c3,G,D,H,i,E,I⟩:=h.job.cells;have v:=h.ok.st3;have n:χ (eu f xp a cap qs s s m C j w w):=eu.below h (ja0 _ _);have l:χ (eu f xp a cap qs s s m C (j.at 2) w (w.setCell ⟨xp,74,O⟩ (2:Int))):=eu.of ((h.o8 2).1.staged (st:=2) (.inr (.inl rfl))) (j.xQ (by decide)).symm (h.o8 2).2;have B:=(h.o8 1).1.staged (st:=1) (.inl rfl);have q:=ah (Dy (w.setCell ⟨xp,74,O⟩ (1:Int)) B)
 have o:χ (qM 1 (S4.cnt j.x 64)=(j.at 1).state):=by
  have t:(j.at 1).state=if (1:Int)=1/\S4.cnt j.x 64=0 then 3 else 1:=rfl
  unfold χ qM;rw[t];by_cases y:S4.cnt j.x 64=0<;>simp[y]
 rw[show(j.at 1).x=j.x from rfl,o.out] at *
 have k:=JV.zS j;unfold fD nG
 cases g with
 | true =>
  rw[if_pos rfl,if_pos rfl];rcases k with⟨c,b⟩|⟨c,b⟩
  .rw[if_pos c,if_pos c];rcases b with b|b
   .rw[b] at i;go_enter func128,ntmps128;go_wp2;go_ret;exact⟨rfl,l⟩
   .rw[b] at i;go_enter func128,ntmps128;go_wp2;go_ret;exact⟨rfl,l⟩
  .rw[if_neg c,if_neg c];have g1:(j.state==1)=false:=by rw[b];simpa using c
   have g3:(j.state==3)=false:=by rw[b];simpa using v
   generalize j.state=st at i g1 g3;go_enter func128,ntmps128;go_wp2;go_ret;exact⟨rfl,n⟩
 | false =>
  rw[if_neg (show ¬(false=true) by decide),if_neg (show ¬(false=true) by decide)];by_cases d:j.stage=2
  .rw[if_pos d,if_pos d]
   have r:j.state=2:=by
    rcases k with⟨c,_⟩|⟨c,b⟩
    .omega
    .rw[b,d]
   rw[r] at *
   go_enter func128,ntmps128;go_wp2_with fail;refine q.mono ?_;rintro e w' ⟨rfl,u,z⟩;have A:χ (eu f xp a cap qs s s m C (j.at 1) w w'):=eu.of u rfl (((h.o8 1).2).trans z);go_wp2;go_ret;exact⟨rfl,A⟩
  .rw[if_neg d,if_neg d]
   have g2:(j.state==2)=false:=by
    rcases k with⟨c,b|b⟩|⟨c,b⟩
    .rw[b];rfl
    .rw[b];rfl
    .rw[b];simpa using d
   generalize j.state=st at *
   go_enter func128,ntmps128;go_wp2;go_ret;exact⟨rfl,n⟩
def Vg{xp f cap m C a qs s j}(c:Int)(w)(h:RJ w f xp a cap qs s m C j j.state) :
  κ prog 116 #[xp,c] w λe w'=>e=.returned (.tuple #[])/\eu f xp a cap qs s s m C (eU j c) w w':=by
 obtain⟨G,c2,c3,I,E,K,D,F,L⟩:=h.job.cells;have q:=JV.zS j;have k:χ (eu f xp a cap qs s s m C j w w):=eu.below h (ja0 _ _);have o:=ah (S4.Dp c true w h.job.rY h.ok.n64);have i:=ah (h.rM c true);have r:χ (qM j.state (S4.cnt (S4.fK j.n j.x c true) 64)=(j.put (S4.fK j.n j.x c true)).state):=YT h.ok.st3;have A:χ (∀ W:ω,RJ W f xp a cap qs s m C (j.put _) j.state->fC qs s xp w qs s W->κ prog 183 _ W λe w'=>e=.returned _/\eu f xp a cap qs s s m C _ w w'):=λW y z=>(Dy W y).mono λe w' ⟨d,t,g⟩=>⟨d,eu.of t r (z.trans g)⟩
 unfold eU;by_cases g:4<=j.stage
 .rw[if_pos (.inr g)]
  have v:decide (j.state<4)=false:=by
   rcases q with⟨d,_⟩|⟨d,b⟩
   .omega
   .rw[b];exact decide_eq_false (by omega)
  generalize j.state=st at *
  go_enter func116,ntmps116;go_wp2;go_end0
  exact⟨rfl,k⟩
 .have v:decide (j.state<4)=true:=by
   rcases q with⟨d,b|b⟩|⟨d,b⟩
   .rw[b];rfl
   .rw[b];rfl
   .rw[b];exact decide_eq_true (by omega)
  by_cases l:j.kind=2
  .rw[if_pos (.inl l)];generalize j.state=st at *
   go_enter func116,ntmps116;go_wp2;go_end0
   exact⟨rfl,k⟩
  .rw[if_neg (by rintro(e|e);exact l e;exact g e)];have u:=ah (A _ i.1 i.2);generalize (if S4.gI j.n j.x c true=true then w.setCell _ _ else w)=W1 at *
   generalize S4.gI j.n j.x c true=H at o;generalize j.state=st at *
   go_enter func116,ntmps116;go_wp2_with fail;refine cSt o ?_;go_wp2_with fail;refine cHd u λJ B=>?_
   go_wp2;go_end0
   exact⟨rfl,B⟩
def aU.headed{B w q v}(h:aU B w q v)(g) :
  aU B (((w.setCell ⟨q.p,1,O⟩ g.c).setCell ⟨q.p,2,O⟩ g.p).setCell ⟨q.p,3,O⟩ g.b) q {v with h:=g} /\
  fM B w (((w.setCell ⟨q.p,1,O⟩ g.c).setCell ⟨q.p,2,O⟩ g.p).setCell ⟨q.p,3,O⟩ g.b):=by
 obtain⟨d,f⟩:=h.pX 1 _  (v2:={v with h:=⟨g.c,v.h.p,v.h.b⟩}) rfl rfl rfl rfl h.own h.held h.ne h.tB h.hB;obtain⟨a,i⟩:=d.pX 2 _  (v2:={v with h:=⟨g.c,g.p,v.h.b⟩}) rfl rfl rfl rfl d.own d.held d.ne d.tB d.hB;obtain⟨k,j⟩:=a.pX 3 _  (v2:={v with h:=g}) rfl rfl rfl rfl a.own a.held a.ne a.tB a.hB;exact⟨k,fM.trans (fM.trans f i) j⟩
def Tj{B m q v}(back:Int)(w)(h:aU B w q v)(F:v.ok m)(hm:m+10<1000000000)(hB:B.top<=w) :
    κ prog 198 #[q.p,back] w (iZ B w q (v.link back) (v.jg back)):=by
  obtain⟨c0,c1,c2,c3,c4,c5,l⟩:=h.cells;have lp:q.p<w.heap.size:=lt_of_some h.blk;have L:=ah h;have I:=ah (qB v.h.c v.h.p back)
  cases g:(v.pR back).ok with
  | false =>
    have G:v.link back=v:=by unfold IV.link;rw[if_neg (by rw[g];decide)]
    have E:v.jg back=1:=by unfold IV.jg;rw[if_neg (by rw[g];decide)]
    have J:HV.fault ⟨v.h.c,v.h.p,back⟩=1:=by unfold HV.fault;rw[if_neg (by rw[show HV.ok ⟨v.h.c,v.h.p,back⟩=false from g];decide)]
    rw[G,E];rw[J] at I;clear h F g G E J c0 c4 c5 l;generalize v.h.c=c at *
    generalize v.h.p=p at *
    generalize v.h.b=b at *
    have a6:β w w (w.alloc (.cells #[c,p,back] 67)):=(ja0 _ _).alloc (ja1 _) _;have A:β w w ((w.alloc (.cells #[c,p,b] 67)).setCell ⟨w,2,O⟩ back):=((ja0 _ _).alloc (ja1 _) _).setCell (ja1 _) _;go_enter func198,ntmps198;go_wp2_with fail;refine cEq (I _) λR t=>?_
    have HD:χ (iZ B w q v 1 (.returned (1:Int)) R):=uN L (by first|exact A.trans (t.mono A.size)|exact a6.trans (t.mono a6.size));clear t A a6;go_wp2;go_ret;exact HD
  | true =>
    have G:v.link back=v.kV (v.pR back):=by unfold IV.link;rw[if_pos g]
    have E:v.jg back=v.flush.d.aV:=by unfold IV.jg;rw[if_pos g]
    have U:HV.ok ⟨v.h.c,v.h.p,back⟩=true:=g;have J:HV.fault ⟨v.h.c,v.h.p,back⟩=0:=by unfold HV.fault;rw[U];rfl
    rw[G,E];rw[J] at I;obtain⟨X,K⟩:∃ X:ByteArray,X=gK [83,89,v.h.c,v.h.p,back+1]:=⟨_,rfl⟩;have a5:X.size=16:=by rw[K];exact HV.xW ⟨v.h.c,v.h.p,back⟩
    have ad:χ (∀ W:ω,κ prog 111 #[.agg #[v.h.c,v.h.p,back]] W λe w'=>e=.returned X/\β W W w'):=λW=>by rw[K];exact BU v.h.c v.h.p back W U
    have Q:χ (v.kV (v.pR back)=if v.flush.d.aV=0 then {(({v.flush with d:=v.flush.d.put 0 X.data.toList}:IV).flush) with h:=⟨v.h.c,v.h.p,back⟩} else {v.flush with d:=v.flush.d.put 0 X.data.toList}):=by rw[K];rfl
    have a8:=F.d.flushed;have h0:0<v.d.fl.length:=F.d.ok.n1
    have Y:χ (v.flush.d.aV=0\/v.flush.d.aV=7):=by
      rcases DV.oH v.flush.d with o|o
      . exact .inl o.1
      . exact .inr o.1
    have am:=ah (λ(W:ω) (y:aU B W q v)=>yI W y F.d)
    have aa:χ (∀(W:ω) (r:Qh),aU B W r v.flush->B.top<=W.heap.size->κ prog 109 #[r.d.p,(0:Int),X] W λe w' =>
        ∃ q':Qh,e=.returned v.flush.d.aV/\Led B W r q' {v.flush with d:=v.flush.d.put 0 X.data.toList} w'):=λW r y hb=>by
      refine(vw 0 X W y.dev a8 (by omega) hb a5 h0).mono ?_;rintro e w' ⟨q2,rfl,aw,aq,aL,av⟩;exact⟨{r with d:=q2},rfl,Led.dev y aq aw aL av⟩
    have a7:=ah (λ(W:ω) (r:Qh) (y:aU B W r {v.flush with d:=v.flush.d.put 0 X.data.toList})=>yI W y (a8.put (i:=0) (s:=X.data.toList) h0 (by simpa using a5) (by omega)));clear h F g U G E J c0 c4 c5 l K a5 a8;generalize v.kV (v.pR back)=V at *
    generalize v.flush.d.aV=pf at *
    generalize v.h.c=c at *
    generalize v.h.p=p at *
    generalize v.h.b=b at *
    have A:∀ W:ω,W=(w.alloc (.cells #[c,p,b] 67)).setCell ⟨w,2,O⟩ back\/W=w.alloc (.cells #[c,p,back] 67)->β w w W/\W.heap[w.heap.size]?=S (.cells #[c,p,back] 67 (0,0)):=λW hW=>by
      rcases hW with rfl|rfl
      . refine⟨((ja0 _ _).alloc (ja1 _) _).setCell (ja1 _) _,?_⟩;rw[heap_setCell_same _ _ _ _ _ _ (heap_alloc_new w _)];rfl
      . exact⟨(ja0 _ _).alloc (ja1 _) _,heap_alloc_new w _⟩
    have ae:=ah A;clear A;go_enter func198,ntmps198;go_wp2_with fail;refine cEq (I _) λR t=>?_
    obtain⟨a4,Z⟩:=ae _ (.inr rfl);have al:R.heap[w.heap.size]?=S (.cells #[c,p,back] 67 (0,0)):=by rw[t.block _ (lt_of_some Z)];exact Z
    have a1:=ah (a4.trans (t.mono a4.size));have ap:=ah al;have ag:=L.below a1;have ao:=ah (Led.below L a1);have af:=ah (am R ag);clear t a4 Z al ag I ae am L;go_wp2_with fail;refine af.mono ?_;rintro e a ⟨q2,rfl,D⟩;have n:=ah (D.kept.box ap (by decide));have x:=ah (ao.trans D);have d0:a.cell? ⟨q.p,0,O⟩=S (q2.d.p:υ):=by have:=D.rim.cells.1;rw[D.p] at *;exact this
    have x0:a.cell? ⟨w,0,O⟩=S (c:υ):=by rw[cell_of_row _ _ _ _ _ _ n.out];rfl
    have x1:a.cell? ⟨w,1,O⟩=S (p:υ):=by rw[cell_of_row _ _ _ _ _ _ n.out];rfl
    have x2:a.cell? ⟨w,2,O⟩=S (back:υ):=by rw[cell_of_row _ _ _ _ _ _ n.out];rfl
    have a2:w.heap.size<a:=lt_of_some n;have aE:q.p<a.heap.size:=by omega
    clear D af ao ap a1;go_wp2
    go_region_held3 (λW=>W.cell? ⟨q.p,0,O⟩=S (q2.d.p:υ)/\W.cell? ⟨w,0,O⟩=S (c:υ)/\W.cell? ⟨w,1,O⟩=S (p:υ)/\W.cell? ⟨w,2,O⟩=S (back:υ))
      (first|(exact⟨d0,x0,x1,x2⟩)|assumption)
      (first
        | (go_at_call 111;refine cEq (ad _) λC a9=>?_;have j:β a a C:=((ja0 _ _).drew).trans a9;have ar:C.cell? ⟨q.p,0,O⟩=S (q2.d.p:υ)/\C.cell? ⟨w,0,O⟩=S (c:υ)/\C.cell? ⟨w,1,O⟩=S (p:υ)/\C.cell? ⟨w,2,O⟩=S (back:υ):=⟨(j.cell (p:=⟨q.p,0,O⟩) aE).trans d0,(j.cell (p:=⟨w.heap.size,0,O⟩) a2).trans x0,(j.cell (p:=⟨w.heap.size,1,O⟩) a2).trans x1,(j.cell (p:=⟨w.heap.size,2,O⟩) a2).trans x2⟩)
        | (go_at_call 109;refine(aa C q2 (x.rim.below j) (ja4 hB (ja4 x.kept.size j.size))).mono ?_;rintro e z ⟨M,rfl,an⟩;have u:Led B a q2 M _ z:=(Led.below x.rim j).trans an;have az:z.cell? ⟨q.p,0,O⟩=S (q2.d.p:υ)/\z.cell? ⟨w,0,O⟩=S (c:υ)/\z.cell? ⟨w,1,O⟩=S (p:υ)/\z.cell? ⟨w,2,O⟩=S (back:υ):=by
             have a3:=u.kept.box n (by decide);refine⟨?_,?_,?_,?_⟩
             . have:=u.rim.cells.1
               rw[u.p,u.dp,x.out.p] at *;exact this
             . rw[cell_of_row _ _ _ _ _ _ a3];rfl
             . rw[cell_of_row _ _ _ _ _ _ a3];rfl
             . rw[cell_of_row _ _ _ _ _ _ a3];rfl))
    have T:=ah (u.kept.box n (by decide));have H:=ah (x.trans u);clear an u ar az a9 j d0 x0 x1 x2 n x aa ad;by_cases k:pf=0
    . have HV:χ (V={(({v.flush with d:=v.flush.d.put 0 X.data.toList}:IV).flush) with h:=⟨c,p,back⟩}):=by unfold χ;rw[Q.out,if_pos k]
      have aD:=ah k;have ac:=ah (a7 z M H.rim);rw[show M.p=q.p from H.out.p] at *
      rw[k];clear Q Y k a7;go_wp2_with fail;refine ac.mono ?_;rintro e w4 ⟨q4,rfl,a0⟩;have N:=a0.kept.box T (by decide);have f:=ah (H.trans a0);have y0:w4.cell? ⟨w,0,O⟩=S (c:υ):=by rw[cell_of_row _ _ _ _ _ _ N];rfl
      have y1:w4.cell? ⟨w,1,O⟩=S (p:υ):=by rw[cell_of_row _ _ _ _ _ _ N];rfl
      have y2:w4.cell? ⟨w,2,O⟩=S (back:υ):=by rw[cell_of_row _ _ _ _ _ _ N];rfl
      have P:q4.p=q.p:=f.p;obtain⟨_,aM,aR,b0,_,_,l⟩:=f.rim.cells;rw[P] at aM aR b0;have f1:=l 1;have f2:=l 2;have f3:=l 3;rw[P] at f1 f2 f3;obtain⟨ai,ab⟩:=f.rim.headed ⟨c,p,back⟩
      have ax:χ (Led B w q q4 V (((w4.setCell ⟨q.p,1,O⟩ c).setCell ⟨q.p,2,O⟩ p).setCell ⟨q.p,3,O⟩ back)):=by
        rw[P] at *
        exact⟨f.p,f.dp,f.vt,by rw[HV.out];exact ai,fM.trans f.kept ab⟩
      clear ai ab a0 N T H f ac l P;go_wp2;go_ret;exact⟨q4,by rw[aD.out];rfl,ax⟩
    . have HV:χ (V={v.flush with d:=v.flush.d.put 0 X.data.toList}):=by unfold χ;rw[Q.out,if_neg k]
      have o:pf=7:=by rcases Y with h|h;exact absurd h k;exact h
      have H7:=ah o;rw[o];clear Q k o Y T a7;go_wp2;go_ret;exact⟨M,by rw[H7.out];rfl,by rw[HV.out];exact H⟩
def Tm{sp m c s n v}(b:Int)(w)(h:bH w sp c s m)(a:s.file n=S v)(g:m+10<1000000000) :
  κ prog 241 #[(c n.toNat).p,b] w (dA w sp c s (m+10) (dO s n b)):=by
 obtain⟨f,d⟩:=h.iM a;have e:dO s n b=(s.upd n.toNat (v.link b),v.jg b):=by unfold dO;rw[a]
 rw[e];exact(Ti b w f.but d g (ja1 _)).mono λe w' hd=>dA.of h a (by omega) (d.link b (by omega)) hd
def V6{sp m c s n v}(b:Int)(w)(h:bJ w sp c s m)(a:s.file n=S v)(g:m+10<1000000000) :
  κ prog 198 #[(c n.toNat).p,b] w (bK w sp c s (m+10) (dO s n b)):=by
 obtain⟨f,d⟩:=h.iM a;have e:dO s n b=(s.upd n.toNat (v.link b),v.jg b):=by unfold dO;rw[a]
 rw[e];exact(Tj b w f.but d g (ja1 _)).mono λe w' hd=>bK.of h a (by omega) (d.link b (by omega)) hd
def Gx{s:SV}{n v}(a:s.file n=S v):s.ig n=s.upd n.toNat v.flush:=by unfold SV.ig;rw[a]
def Gy{sp m a s n v}(w)(h:bH w sp a s m)(b:s.file n=S v) :
  κ prog 119 #[(a n.toNat).p] w λe w'=>e=.returned (.tuple #[])/\∃ c,bH w' sp c (s.ig n) m/\Moved (fpS a s) w (fpS c (s.ig n)) w':=by
 obtain⟨i,f⟩:=h.iM b;rw[Gx b];refine(yH w i.but).mono ?_;rintro e w' ⟨k,rfl,o,d,g⟩;obtain⟨j,l⟩:=h.lG b (ja1 m) f.flush (x':={(a _) with h:=k}) rfl o (d.re λ_ _ h=>h) (oz g (λ_ h=>h.1) d.out);exact⟨rfl,_,j,l⟩
def JA{sp m c s n v}(w)(h:bJ w sp c s m)(b:s.file n=S v) :
  κ prog 120 #[(c n.toNat).p] w λe w'=>e=.returned (.tuple #[])/\∃ f,bJ w' sp f (s.ig n) m/\jX c s w f (s.ig n) w':=by
 obtain⟨i,g⟩:=h.iM b;rw[Gx b];refine(yI w i.but g.d).mono ?_;rintro e w' ⟨l,rfl,a⟩;obtain⟨j,k⟩:=h.lG b (ja1 m) g.flush  a.p a.dp (a.rim.re λ_ _ h=>h) (oz a.kept (λ_ h=>h.1) a.rim.out);exact⟨rfl,_,j,k⟩
def QB{s:SV}{C l}(b:s.good C l)(t):(s.iG t).good C l:=λn c=>by
 obtain⟨v,a,d⟩:=b n c;obtain⟨u,g,f⟩:=(SV.alike.iG t s).head n v a;simp_all
theorem dw.pW{w sp b f bp cap m C a c s j}(h:PJ w sp b f bp a cap c s m C j){st}(d:st=1\/st=2\/st=4\/st=5):dw sp b f bp a cap c s s m C (j.at st) w (w.setCell ⟨b,4,O⟩ st):=⟨c,(h.pW d).1,(h.pW d).2⟩
def AY{sp b g bp cap m C a f s j}(c:Bool)(w)(h:PJ w sp b g bp a cap f s m C j) :
  κ prog 131 #[b,c] w λe w'=>e=.returned (.tuple #[])/\dw sp b g bp a cap f s s m C (mF j c) w w':=by
 obtain⟨r,c1,c2,c3,c4,n,u,t,q,o⟩:=h.job.cells;have d:=h.pW (st:=5) (.inr (.inr (.inr rfl)));have l:=d.1.job.cells;have k:χ _:=dw.pW h (.inr (.inr (.inr rfl)));have i:χ _:=dw.after d.2 (dw.pW  d.1 (.inr (.inr (.inl rfl))));unfold mF
 cases c with
 | false =>
  rw[if_neg (by decide)];go_enter func131,ntmps131;go_wp2;go_end0
  exact⟨rfl,k⟩
 | true =>
  rw[if_pos rfl];go_enter func131,ntmps131;go_wp2;go_end0
  exact⟨rfl,i⟩
def U0{sp d k bp cap m C a f s j}(c:Bool)(w)(h:PJ w sp d k bp a cap f s m C j) :
  κ prog 126 #[d,c] w λe w'=>e=.returned (erV (fD j c))/\dw sp d k bp a cap f s s m C (nG j c) w w':=by
 obtain⟨t,c1,c2,c3,c4,o,v,u,r,q⟩:=h.job.cells;have g:χ _:=dw.refl h;have n:χ _:=dw.pW h (.inl rfl);have l:χ _:=dw.pW h (.inr (.inl rfl));unfold fD nG;have i:erV 9=.iface 96 _:=bC (by decide)
 cases c with
 | true =>
  rw[if_pos rfl,if_pos rfl];by_cases b:j.stage=1
  .rw[if_pos b,if_pos b,aJ];rw[b] at c4;go_enter func126,ntmps126;go_wp2;go_ret;exact⟨rfl,l⟩
  .rw[if_neg b,if_neg b,i];go_enter func126,ntmps126;go_wp2;go_ret;exact⟨rfl,g⟩
 | false =>
  rw[if_neg (show ¬(false=true) by decide),if_neg (show ¬(false=true) by decide)];by_cases b:j.stage=2
  .rw[if_pos b,if_pos b,aJ];rw[b] at c4;go_enter func126,ntmps126;go_wp2;go_ret;exact⟨rfl,n⟩
  .rw[if_neg b,if_neg b,i];go_enter func126,ntmps126;go_wp2;go_ret;exact⟨rfl,g⟩
def RZ{sp c g bp cap m C a d s j}(n:Int)(w)(h:PJ w sp c g bp a cap d s m C j) :
  κ prog 134 #[c,n] w λe w'=>e=.returned (erV (if S4.inB n 100000=true then 0 else 1))/\dw sp c g bp a cap d s s m C (kM j n) w w':=by
 obtain⟨B,c1,c2,c3,c4,u,A,y,x,v⟩:=h.job.cells;unfold kM
 cases k:S4.inB n 100000 with
 | false =>
  have r:χ _:=dw.refl h;rw[if_neg (by decide),if_neg (by decide),eX];go_enter func134,ntmps134;go_wp2_with fail;refine cSt (S4.YM (p:=bp) n w k) ?_;go_wp2;go_ret;exact⟨rfl,r⟩
 | true =>
  have t:0<=n:=by unfold S4.inB at *;simp at *;omega
  have z:=h.ok.lv;have i:=S4.D8  (b:=j.burst)  (n:=n) h.ok.rate.1 h.ok.lv.1 (by omega) t;have q:χ (∀ w':ω,S4.Three 280 w' bp j.rate j.burst _->S4.Kept _ w w'->dw sp c g bp a cap d s s m C _ w w'):=λw' f l=>⟨d,(h.tZ f l i).1,(h.tZ f l i).2⟩
  rw[if_pos rfl,if_pos rfl,aJ];go_enter func134,ntmps134;go_wp2_with fail;refine(S4.YN n w h.job.bkt k h.ok.rate ⟨h.ok.lv.1,by omega⟩).mono ?_;rintro e w' ⟨rfl,f,o⟩;go_wp2;go_ret;exact⟨rfl,(q w' f o)⟩
def O1{sp d i bp cap m C a f s j}(c:Int)(w)(h:PJ w sp d i bp a cap f s m C j) :
  κ prog 170 #[d,c] w λe w'=>e=.returned (.tuple #[])/\dw sp d i bp a cap f s s m C (eU j c) w w':=by
 obtain⟨z,c1,c2,c3,c4,u,B,A,y,v⟩:=h.job.cells;have l:χ _:=dw.refl h;have k:=ah (BQ w h.job);have t:=ah (S4.zQ c true w h.job.set h.ok.set);have r:χ (∀ w':ω,S4.iQ w' i j.n (S4.fK j.n j.x c true)->S4.Kept _ w w'->dw sp d i bp a cap f s s m C _ w w'):=λw' g b=>⟨f,(h.rM g b).1,(h.rM g b).2⟩
 unfold eU;generalize S4.gI j.n j.x c true=D at *
 by_cases b:j.kind=2
 .rw[if_pos (.inl b)];go_enter func170,ntmps170;go_wp2;go_end0
  exact⟨rfl,l⟩
 .by_cases o:4<=j.stage
  .rw[if_pos (.inr o)];rw[decide_eq_false _] at *
   go_enter func170,ntmps170;go_wp2_with fail;refine cSt k ?_;go_wp2;go_end0
   exact⟨rfl,l⟩
  .rw[if_neg (by rintro(e|e);exact b e;exact o e)];rw[decide_eq_true _] at *
   go_enter func170,ntmps170;go_wp2_with fail;refine cSt k ?_;go_wp2_with fail;refine t.mono ?_;rintro e w' ⟨rfl,g,q⟩;go_wp2;go_end0
   exact⟨rfl,(r w' g q)⟩
theorem dw.more{w w' sp b d bp cap m m' C a c s z j}(h:dw sp b d bp a cap c s z m C j w w')(i:m<=m'):dw sp b d bp a cap c s z m' C j w w':=by
 obtain⟨f,k,g⟩:=h;exact⟨f,k.more i,g⟩
def PJ.wX{w c w' sp d g bp cap m m' C a b s j R e}(h:PJ w sp d g bp a cap b s m C j)(f:β w w c)(hd:dA c sp b s m' R e w')(r:s.alike R.1):e=.returned (erV R.2)/\dw sp d g bp a cap b s R.1 m' C j w w':=by
 obtain⟨i,o,k,l⟩:=hd;obtain⟨n,q⟩:=(h.below f).lG k l r;exact⟨o,i,n,(Moved.of_below f).trans q⟩
def PJ.reads{w sp b x bp cap m C a q s j}(h:PJ w sp b x bp a cap q s m C j):∃(g o:Nat) (n:Int) (r:List Int) (v:IV),a=S ⟨g,o,O⟩/\j.l=n::r/\s.file n=S v/\v.h.c=C /\
  ∀ W,β w w W->W.cell? ⟨b,0,O⟩=S (.pointer (S ⟨sp,6,O⟩))/\W.cell? ⟨b,1,O⟩=S (.slice a j.l.length cap)/\W.cell? ⟨b,2,O⟩=S (j.kind:υ)/\W.cell? ⟨b,3,O⟩=S (j.file:υ)/\W.cell? ⟨g,o,O⟩=S (n:υ):=by
 obtain⟨n,r,v,d,k,t⟩:=h.ok.root;obtain⟨g,o,u,i⟩:=h.nums 0 (by rw[d];simp);refine⟨g,o,n,r,v,u,d,k,t,λW f=>?_⟩;obtain⟨y,c1,c2,c3,_⟩:=(h.below f).job.cells;refine⟨y,c1,c2,c3,?_⟩;rw[d,jb0] at *
 exact(f.cell  (ja2 _ _ i)).trans i
def RG{sp b z bp cap m C a B s j}(k w)(h:PJ w sp b z bp a cap B s m C j)(J:k<C)(P:m+10<1000000000) :
  κ prog 203 #[b,(k:Int)] w λe w'=>e=.returned (erV (j.moved s (k:Int)).2)/\dw sp b z bp a cap B s (j.moved s (k:Int)).1 (m+10) C j w w':=by
 obtain⟨v,Q⟩:=h.ok.into;obtain⟨r1,r2⟩:=h.ok.read h.shelf.ok J
 have E:χ (∀ W:ω,β w w W->κ prog 171 #[.pointer (S ⟨sp,6,O⟩),.slice a j.l.length cap,(k:Int)] W λe w'=>e=.returned (.tuple #[.string (s.read j.l (k:Int)).1,.nilIface])/\β W W w'):=λW q=>by
  have:=AU (cap:=cap) j.l (k:Int) W (h.shelf.below q) (h.nums.below q) h.ok.good (by have:=h.ok.len;omega)
  rw[r1,aJ] at *;exact this
 have x:χ (∀ W:ω,β w w W->κ prog 244 #[.pointer (S ⟨sp,6,O⟩),j.into,(k:Int),.string (s.read j.l (k:Int)).1] W λe w'=>e=.returned (erV (j.moved s (k:Int)).2)/\dw sp b z bp a cap B s (j.moved s (k:Int)).1 (m+10) C j w w'):=λW q =>
  (NY j.into (k:Int) _ W (h.shelf.below q) Q r2 P).mono λe w' hd=>h.wX q hd (SV.alike.move _ _ _ _)
 obtain⟨g,o,n,r,Z,U,H,_,_,Y⟩:=h.reads;have f:=ah Y;have F:χ (j.into=if j.kind=2 then n else j.file):=by unfold χ JV.into;rw[H];rfl
 have a1:0<j.l.length:=by rw[H];simp
 have a0:(0:Int)<(j.l.length:Int):=by omega
 subst U;generalize (s.read j.l (k:Int)).1=T at *
 generalize j.moved s (k:Int)=R at *
 generalize j.into=into at *
 generalize j.l.length=ln at *
 obtain⟨X,c1,c2,c3,c4⟩:=f w (ja0 _ _);have G  := X;have D  := c1;have i:χ (β w w w.drew):=(ja0 _ _).drew;by_cases u:j.kind=2
 .have g1:(j.kind==2)=true:=by simpa using u
  have y:χ (into=n):=by unfold χ;rw[F.out,if_pos u]
  rw[y.out] at x;generalize j.kind=kd at *
  generalize j.file=fl at *
  go_enter func203,ntmps203;go_wp2
  go_region_held3 (λW=>W.cell? ⟨b,0,O⟩=S (.pointer (S ⟨sp,6,O⟩))/\W.cell? ⟨b,1,O⟩=S (.slice (S ⟨g,o,O⟩) ln cap))
   (first|(exact⟨G,D⟩)|assumption)
   (first
     | (go_at_call 171;refine cEq (E _ i) λd t=>?_;have c:=ah (i.trans (t.mono i.size));have M:d.cell? ⟨b,0,O⟩=S (.pointer (S ⟨sp,6,O⟩))/\d.cell? ⟨b,1,O⟩=S (.slice (S ⟨g,o,O⟩) ln cap):=⟨(f _ c).1,(f _ c).2.1⟩;clear t))
  obtain⟨I,K,q2,L,N⟩:=f d c;go_wp2_with fail;refine cHd (x _ c) λV A=>?_
  go_wp2;go_ret;exact⟨rfl,A⟩
 .have g1:(j.kind==2)=false:=by simpa using u
  have y:χ (into=j.file):=by unfold χ;rw[F.out,if_neg u]
  rw[y.out] at x;generalize j.kind=kd at *
  generalize j.file=fl at *
  go_enter func203,ntmps203;go_wp2
  go_region_held3 (λW=>W.cell? ⟨b,0,O⟩=S (.pointer (S ⟨sp,6,O⟩))/\W.cell? ⟨b,1,O⟩=S (.slice (S ⟨g,o,O⟩) ln cap))
   (first|(exact⟨G,D⟩)|assumption)
   (first
     | (go_at_call 171;refine cEq (E _ i) λd t=>?_;have c:=ah (i.trans (t.mono i.size));have M:d.cell? ⟨b,0,O⟩=S (.pointer (S ⟨sp,6,O⟩))/\d.cell? ⟨b,1,O⟩=S (.slice (S ⟨g,o,O⟩) ln cap):=⟨(f _ c).1,(f _ c).2.1⟩;clear t))
  obtain⟨I,K,q2,L,N⟩:=f d c;go_wp2_with fail;refine cHd (x _ c) λV A=>?_
  go_wp2;go_ret;exact⟨rfl,A⟩
def RF{sp b i bp cap m C a d s j}(w)(h:PJ w sp b i bp a cap d s m C j)(B:m+10<1000000000) :
  κ prog 197 #[b] w λe w'=>e=.returned (erV (dO s (j.l.headD 0) j.file).2)/\dw sp b i bp a cap d s (dO s (j.l.headD 0) j.file).1 (m+10) C j w w':=by
 obtain⟨g,o,n,r,v,D,k,q,_,t⟩:=h.reads;have A:j.l.headD 0=n:=by rw[k];rfl
 rw[A]
 have y:χ (∀ W:ω,β w w W->κ prog 153 #[.pointer (S ⟨sp,6,O⟩),n] W λe w'=>e=.returned (.pointer _)/\w'=W):=λW c=>by
  have:=uO n W (h.shelf.below c)
  rw[q] at *;exact this
 have u:=ah λW (c:β w w W)=>(Tm j.file W (h.shelf.below c) q B).mono λe w' hd=>h.wX c hd (SV.alike.link _ _ _)
 have z:=ah t;have H:0<j.l.length:=by rw[k];simp
 have G:(0:Int)<(j.l.length:Int):=by omega
 subst D;generalize dO s n j.file=R at *
 generalize (d n.toNat).p=xp at *
 generalize j.l.length=ln at *
 generalize j.kind=kd at *
 generalize j.file=fl at *
 obtain⟨x,c1,c2,c3,c4⟩:=z w (ja0 _ _);have F  := c3;have f:χ (β w w w.drew):=(ja0 _ _).drew;go_enter func197,ntmps197;go_wp2
 go_region_held3 (λW=>W.cell? ⟨b,0,O⟩=S (.pointer (S ⟨sp,6,O⟩))/\W.cell? ⟨b,1,O⟩=S (.slice (S ⟨g,o,O⟩) ln cap)/\W.cell? ⟨g,o,O⟩=S (n:υ))
  (first|(exact⟨x,c1,c4⟩)|assumption)
  (first
    | (go_at_call 153;refine(y _ f).mono ?_;rintro e w' ⟨rfl,rfl⟩))
 go_wp2_with fail;refine cHd (u _ f) λI E=>?_
 go_wp2;go_ret;exact⟨rfl,E⟩
def SV.Y8{s:SV}{f}:∀k l n,(s.jq f k l n).2≠0->(s.jq f k l n).1=[]:=by
 intro k
 induction k with
 | zero=>intro l n _;rfl
 | succ k i =>
  intro l n h;by_cases a:n = -1
  .subst a;exact absurd rfl h
  .cases b:s.file n with
   | none=>rw[SV.xG a b]
   | some v =>
    by_cases d:l.length=5
    .rw[SV.xE a b d]
    .by_cases g:v.h.c=f
     .rw[SV.vI a b d g] at *;exact i _ _ h
     .rw[SV.walk_other a b d g]
structure Fl(w:ω)(sp jp lp bp:Nat)(a:Option Addr)(cap:Nat)(xs:Nat->Ih)(s:SV)(m C:Nat)(j:JV)(b:Option Addr)(l:List Int)(z:SV)(wr:ω)(ys:Nat->Ih):Prop where
 p:PJ wr sp jp lp bp a cap ys z m C j
 m:Moved (fpP xs s jp lp bp) w (fpP ys z jp lp bp) wr
 n:Nums wr b l
 ap:Apart b (fpP ys z jp lp bp)
def D6{l:List Int}{k}(h:k<l.length):l.take (k+1)=l.take k++[l.getD k 0]:=by
 simp_all
structure Fls(s:SV)(l:List Int)(F:Nat->SV):Prop where
 zero:F 0=s
 next:∀ k,k<l.length->F (k+1)=(F k).ig (l.getD k 0)
 all:F l.length=s.iG l
 alike:∀ k,s.alike (F k)
def fls(s l):∃ F,Fls s l F :=
 ⟨λk=>s.iG (l.take k),rfl,λk a=>by rw[D6 a,SV.BD],by simp_all,λk=>SV.alike.iG _ s⟩
def RD{sp c r bp cap m C a q s j}(w)(h:PJ w sp c r bp a cap q s m C j) :
    κ prog 196 #[c] w λe w'=>e=.returned (erV (s.walk j.file).2)/\dw sp c r bp a cap q s (s.iG (s.walk j.file).1) m C j w w':=by
  have P:=ah h;obtain⟨L,c1,c2,c3,_⟩:=h.job.cells;have U  := L;have Y  := c3;have y:χ (β w w w.drew):=(ja0 _ _).drew
  have HC:χ (∀ W:ω,β w w W->W.cell? ⟨c,0,O⟩=S (.pointer (S ⟨sp,6,O⟩))/\W.cell? ⟨c,3,O⟩=S (j.file:υ)):=λW x=>by
    obtain⟨L,c1,c2,c3,_⟩:=(h.below x).job.cells;exact⟨L,c3⟩
  have a0:=ah (vU j.file w.drew (h.shelf.below y));obtain⟨hg,af,ag,_⟩:=s.walk_good j.file;have HG:=ah hg;have a6:χ ((s.walk j.file).2≠0->(s.walk j.file).1=[]):=SV.Y8 _ _ _;generalize s.iO j.file=rc at *
  generalize s.walk j.file=R at *
  obtain⟨l,f⟩:=R;simp only at *
  obtain⟨F,d⟩:=fls s l;have M:=ah d;have ac:χ (f≠0->s.iG l=s):=λe=>by rw[a6.out e];rfl
  rw[<- d.all] at *
  generalize j.file=fl at *
  by_cases A:f=0
  . subst A;rw[aJ] at *
    generalize V:l.length=ln at *
    go_enter func196,ntmps196;go_wp2
    go_region_held3 (λW=>W.cell? ⟨c,0,O⟩=S (.pointer (S ⟨sp,6,O⟩))/\W.cell? ⟨c,3,O⟩=S (fl:υ))
      (first|(exact⟨U,Y⟩)|assumption)
      (first
        | (go_at_call 77;refine a0.mono ?_;rintro e w1 ⟨b,bc,rfl,T,Q,N⟩;have u:=ah (y.trans (N.mono y.size));have aa:=HC _ u))
    have a7:χ (Fl w sp c r bp a cap q s m C j b l (F 0) w1 q):=by
      unfold χ;rw[M.out.zero]
      exact⟨P.below u,Moved.of_below u,T,λg o e A=>by
        have E:=P.iH A;have X:w.heap.size<=g:=(Q g o e).1
        omega⟩
    go_wp2;go_loopw [24] (λi wr=>∃(k:Nat) (G:Nat->Ih),k<=ln/\i=.int .i64 (k:Int)/\Fl w sp c r bp a cap q s m C j b l (F k) wr G) (λi _=>ln-(intOf i).toNat)
    case atStart=>exact⟨0,q,ja7 _,rfl,a7⟩
    case round =>
      obtain⟨k,G,hk,rfl,d⟩:=hrel;have t:=ah d;by_cases ae:k<ln
      . have D:k<l.length:=by omega
        obtain⟨g,o,x,ad⟩:=d.n k D;subst x;obtain⟨v0,ab,_⟩:=HG (l.getD k 0) (by rw[ja6,ja5 D];exact jad D);obtain⟨v,K,_⟩:=(M.alike k).head _ _ ab;have a4:=d.p.shelf.kU K;obtain⟨n0,n5,_⟩:=SV.eG K;have Z:=ah (Gy wr d.p.shelf K);have I:χ (F (k+1)=(F k).ig (l.getD k 0)):=M.next k D;obtain⟨e0,_⟩:=d.p.job.cells;have a9:χ ((F k).alike ((F k).ig (l.getD k 0))):=SV.alike.ig _ _;generalize l.getD k 0=n at *
        obtain⟨B,rfl⟩:∃ B:Nat,n=(B:Int):=⟨n.toNat,by omega⟩;have a8:((B:Int)).toNat=B:=by omega
        rw[a8] at a4 Z;generalize (G B).p=xp at *
        have k1:(k:Int)<(ln:Int):=by omega
        go_wp2_with fail;refine Z.mono ?_;rintro e w2 ⟨rfl,zs,E,H⟩
        have a3:χ (Fl w sp c r bp a cap q s m C j (S ⟨g,o,O⟩) l (F (k+1)) w2 zs):=by
          obtain⟨X,J⟩:=t.p.lG E H a9;have a1:l≠[]:=by intro e;subst e;simp at V;omega
          refine⟨by rw[I.out];exact X,by rw[I.out];exact t.m.trans J,t.n.moved J t.ap,by rw[I.out];exact t.ap.moved t.n a1 J⟩
        go_wp2;go_roundw
        case rel =>
          exact⟨k+1,zs,by omega,by go_num,a3⟩
        case measure=>simp[intOf];omega
      . have a5:k=l.length:=by omega
        have HD:χ (dw sp c r bp a cap q s (F ln) m C j w wr):=by
          have E:=d.p;have H:=d.m;rw[a5,V] at *
          exact⟨G,E,H⟩
        go_wp2;go_ret;exact⟨rfl,HD⟩
  . have a2:χ (∀ W:ω,β w w W->dw sp c r bp a cap q s (F l.length) m C j w W):=λW x=>by
      rw[ac.out A];exact dw.below P x
    rw[bC A] at *
    generalize F l.length=z at *
    generalize l.length=ln at *
    go_enter func196,ntmps196;go_wp2
    go_region_held3 (λW=>W.cell? ⟨c,0,O⟩=S (.pointer (S ⟨sp,6,O⟩))/\W.cell? ⟨c,3,O⟩=S (fl:υ))
      (first|(exact⟨U,Y⟩)|assumption)
      (first
        | (go_at_call 77;refine a0.mono ?_;rintro e w1 ⟨b,bc,rfl,T,Q,N⟩;have u:=ah (y.trans (N.mono y.size));have aa:=HC _ u))
    go_wp2;go_ret;exact⟨rfl,(a2 _ u)⟩
def text_eq(t u:ByteArray):(t.toList==u.toList)=decide (t=u):=by
 by_cases h:t=u
 .simp_all
 .have:t.toList≠u.toList:=λe=>h (by
   rw[jbO,jbO] at e
   rw[<- xU t,e,xU])
  simp_all
def V7{sp m d s v}(n c:Int)(t:ByteArray)(w)(h:bJ w sp d s m)(f:s.file n=S v)(ht:t.size=64)(Y:m+10<1000000000) :
  κ prog 207 #[sp,n,c,t] w (bK w sp d s (m+10) (s.move n c t)):=by
 obtain⟨n0,n5,_⟩:=SV.eG f;obtain⟨k,rfl⟩:∃ k:Nat,n=(k:Int):=⟨n.toNat,by omega⟩;have F:((k:Int)).toNat=k:=by omega
 obtain⟨D,a0⟩:=h.iM f;have a1:=h.kU f;rw[F] at D a1;have J:χ (s.move (k:Int) c t=if t=fA 64 then (s.upd k (v.clear c),v.fF c) else if (v.bG c).1=2 then (s.upd k (v.write c 0 t),v.bQ c 0 t) else (s.upd k (v.fill c t),v.dH c t)):=by unfold χ SV.move;rw[f];rfl
 have u:χ (κ prog 43 #[(64:Int)] w λe w'=>e=.returned (.string (fA 64))/\β w w w'):=yS 64 w (by decide);have l:=ah λW (b:β w w W)=>uq c W (D.below b) a0.len
 have X:χ (∀ W:ω,β w w W->κ prog 181 #[(d k).p,c] W (bK w sp d s (m+10) (s.upd k (v.clear c),v.fF c))):=λW b=>by
  have:=(Jo c W (h.below b) f Y).mono λe w' hd=>bK.from hd b
  rw[F] at this;exact this
 have G:χ (∀ W:ω,β w w W->κ prog 230 #[(d k).p,c,(0:Int),t] W (bK w sp d s (m+10) (s.upd k (v.write c 0 t),v.bQ c 0 t))):=λW b=>by
  have:=(JU c 0 t W (h.below b) f Y (by omega) (by decide)).mono λe w' hd=>bK.from hd b
  rw[F] at this;exact this
 have K:χ (∀ W:ω,β w w W->κ prog 231 #[(d k).p,c,t] W (bK w sp d s (m+10) (s.upd k (v.fill c t),v.dH c t))):=λW b=>by
  have:=(Jz c t W (h.below b) f Y).mono λe w' hd=>bK.from hd b
  rw[F] at this;exact this
 have I:χ (∀ W:ω,β w w W->bK w sp d s (m+10) (s,1) (.returned (1:Int)) W):=λW b=>bK.same (h.more (by omega)) b
 have Q:χ (v.there c=false->(s.upd k (v.fill c t),v.dH c t)=(s,1)):=λi=>by
  have e1:v.fill c t=v:=by unfold IV.fill;rw[i,if_neg (by simp)]
  have e2:v.dH c t=1:=by unfold IV.dH;rw[i,if_neg (by simp)]
  have e3:s k=S v:=by have:=(SV.eG f).2.2;rw[F] at this;exact this
  rw[e1,e2];congr 1
  funext j
  unfold SV.upd;split
  .next hj=>rw[hj,e3]
  .rfl
 have N:χ (v.there c=true->∃(a g2 L:Nat),c=(a:Int)/\a<v.t.length/\∀ W:ω,β w w W->W.cell? ⟨(d k).p,4,O⟩=S (.slice (S ⟨g2,0,O⟩) v.t.length L)/\W.cell? ⟨g2,a*2,O⟩=S (.int .i64 (v.bG c).1)):=λi=>by
  obtain⟨t0,t1⟩:=IV.oM i;obtain⟨a,rfl⟩:∃ a:Nat,c=(a:Int):=⟨c.toNat,by omega⟩;obtain⟨g2,L,a4,a6,e0,_⟩:=D.jZ (c:=a) (by omega);refine⟨a,g2,L,rfl,by omega,λW b=>?_⟩;have e4:=(D.below b).cells.2.2.2.2.1;rw[a4] at e4;refine⟨e4,?_⟩;have a3:(v.bG (a:Int)).1=(v.t.getD a (0,0)).1:=by unfold IV.bG;rw[i,if_pos rfl];rfl
  rw[a3,b.cell (p:=⟨g2,a*2,O⟩) a6];exact e0
 have V:χ (v.there c=false->(v.bG c).1=0):=λi=>by unfold IV.bG;rw[i];rfl
 have k0:(0:Int)<=(k:Int):=by omega
 have k1:(k:Int)<5:=by omega
 have H:=text_eq t (fA 64);generalize s.move (k:Int) c t=R at J |-;clear h f D a0 ht;generalize (d k).p=xp at a1 l X G K N;by_cases B:t=fA 64
 .have o:χ (R=(s.upd k (v.clear c),v.fF c)):=by unfold χ;rw[J.out,if_pos B]
  rw[decide_eq_true B] at H;rw[<- o.out] at X;generalize fA 64=NB at H u;clear B J l G K I Q N V;go_enter func207,ntmps207;go_wp2_with fail;refine cEq u λE q=>?_
  have a5:=ah (X _ q);go_wp2_with fail;refine a5.mono ?_;rintro e w2 ⟨z,rfl,A,C⟩;have r:χ (bK w sp d s (m+10) R (.returned R.2) w2):=⟨z,rfl,A,C⟩;rw[rQ];go_wp2;go_ret;exact r
 .rw[decide_eq_false B] at H;have T:χ (R=if (v.bG c).1=2 then (s.upd k (v.write c 0 t),v.bQ c 0 t) else (s.upd k (v.fill c t),v.dH c t)):=by unfold χ;rw[J.out,if_neg B]
  generalize fA 64=NB at H u
  cases x:v.there c with
  | false =>
   have o:χ (R=(s,1)):=by
    unfold χ;rw[T.out,if_neg (by rw[V.out x];decide),Q.out x]
   rw[x] at l;rw[<- o.out] at I;go_enter func207,ntmps207;go_wp2_with fail;refine cHd u λE g=>?_
   go_wp2_with fail;refine cSt (l _ g) ?_;have r:=ah (I _ g);go_wp2;go_ret;exact r
  | true =>
   obtain⟨a,g2,L,rfl,a7,Z⟩:=N x;have a2:=ah Z;rw[x] at l;have q0:(0:Int)<=(a:Int):=by omega
   have q1:(a:Int)<(v.t.length:Int):=by omega
   have q2:((a:Int)).toNat=a:=by omega
   clear x Q N V Z I;generalize (v.bG (a:Int)).1=y at *
   generalize v.t.length=tl at *
   by_cases M:y=2
   .have o:χ (R=(s.upd k (v.write (a:Int) 0 t),v.bQ (a:Int) 0 t)):=by unfold χ;rw[T.out,if_pos M]
    have g1:(y==2)=true:=by simpa using M
    rw[<- o.out] at G;go_enter func207,ntmps207;go_wp2_with fail;refine cEq u λE q=>?_
    have g:=ah q;obtain⟨d1,d2⟩:=a2 E q;go_wp2_with fail;refine cSt (l _ g) ?_;have P:=ah (G _ g);go_wp2_with fail;refine P.mono ?_;rintro e U ⟨z,rfl,A,C⟩;have r:χ (bK w sp d s (m+10) R (.returned R.2) U):=⟨z,rfl,A,C⟩;rw[rQ];go_wp2;go_ret;exact r
   .have o:χ (R=(s.upd k (v.fill (a:Int) t),v.dH (a:Int) t)):=by unfold χ;rw[T.out,if_neg M]
    have g1:(y==2)=false:=by simpa using M
    rw[<- o.out] at K;go_enter func207,ntmps207;go_wp2_with fail;refine cEq u λE q=>?_
    have g:=ah q;obtain⟨d1,d2⟩:=a2 E q;go_wp2_with fail;refine cSt (l _ g) ?_;have P:=ah (K _ g);go_wp2_with fail;refine P.mono ?_;rintro e U ⟨z,rfl,A,C⟩;have r:χ (bK w sp d s (m+10) R (.returned R.2) U):=⟨z,rfl,A,C⟩;rw[rQ];go_wp2;go_ret;exact r
def wW{sp m D s}(root:Int)(w)(h:bJ w sp D s m) :
    κ prog 82 #[sp,root] w λe w' =>
      ∃(a:Option Addr) (cap:Nat),e=.returned (.tuple #[.slice a (s.walk root).1.length cap,.int .i64 (s.walk root).2])/\Nums w' a (s.walk root).1/\(∀ g o,a=S ⟨g,o,O⟩->w<=g/\(s.walk root).1.length<=cap)/\β w w w':=by
  obtain⟨H,ac,aa,ai,a4⟩:=info_parts uS;have ag:=ah λi W (hi:i<5) (B:β w w W)=>(h.below B).cell hi
  have M:χ (∀(n:Int) (v:IV) (W:ω),s.file n=S v->β w w W->∃ k:Nat,n=(k:Int)/\k<5/\W.cell? ⟨sp,k,O⟩=S ((D k).p:υ)/\W.cell? ⟨(D k).p,1,O⟩=S (v.h.c:υ)/\W.cell? ⟨(D k).p,3,O⟩=S (v.h.b:υ)):=λn v W z B=>by
    obtain⟨n0,n5,_⟩:=SV.eG z;have hk:n=(n.toNat:Int):=by omega
    obtain⟨H,_⟩:=(h.below B).iM z;exact⟨n.toNat,hk,by omega,(h.below B).kU z,H.cells.2.1,H.cells.2.2.2.1⟩
  have a3:χ (Walks w s root (s.walk root) [] root O 0 w):=⟨jaa _ _ _ _,rfl,ja7 _,.inl rfl,ja0 _ _⟩;generalize s.walk root=R at a3 |-;go_enter func82,ntmps82;go_wp2;go_loopw [6,7] (λu i wr=>∃(l:List Int) (n:Int) (a:Option Addr) (cap:Nat),u=.slice a l.length cap/\i=.int .i64 n/\Walks w s root R l n a cap wr) (λu _ _=>6-sliceLen u)
  case atStart=>exact⟨[],root,O,0,rfl,rfl,a3⟩
  case round =>
    obtain⟨l,n,a,cap,rfl,rfl,t⟩:=hrel;have aw:=t.len;obtain⟨q,hq⟩:∃ q,6-l.length=q+1:=⟨5-l.length,by omega⟩;have E:=t.go;rw[hq] at E;by_cases F:n = -1
    . have g0:(n != -1)=false:=by simpa using F
      rw[F,SV.xC] at E;have f:=ah E
      have Y:χ (Nums wr a l/\∀ g o,a=S ⟨g,o,O⟩->w.heap.size<=g/\l.length<=cap):=⟨CY t.own rfl,λg o e=>by
        subst e;refine⟨?_,Jf t.own⟩;rcases t.own.2 with⟨L,_⟩|⟨g',av,ao,hv,B,_⟩
        . cases L
        . cases hv;exact B⟩
      have x:=ah t.bel;go_wp2;go_ret2;exact⟨a,cap,by rw[<- f.out];rfl,by rw[<- f.out];exact Y.1,by rw[<- f.out];exact Y.2,x⟩
    . have g0:(n != -1)=true:=by simpa using F
      cases z:s.file n with
      | none =>
        rw[SV.xG F z] at *
        have f:=ah E;have x:=ah t.bel;by_cases L:n<0
        . have g1:decide (n<0)=true:=decide_eq_true L;go_wp2;go_ret2
          first|exact⟨O,0,by rw[<- f.out];rfl,by rw[<- f.out];exact Nums.nil _ _,(λg o e=>by cases e),x⟩|exact⟨O,⟨0,by rw[<- f.out];rfl⟩,by rw[<- f.out];exact Nums.nil _ _,(λg o e=>by cases e),x⟩
        . have g1:decide (n<0)=false:=decide_eq_false L;by_cases h1:5<=n
          . have g2:decide (5<=n)=true:=decide_eq_true h1;go_wp2;go_ret2
            first|exact⟨O,0,by rw[<- f.out];rfl,by rw[<- f.out];exact Nums.nil _ _,(λg o e=>by cases e),x⟩|exact⟨O,⟨0,by rw[<- f.out];rfl⟩,by rw[<- f.out];exact Nums.nil _ _,(λg o e=>by cases e),x⟩
          . have g2  := decide_eq_false h1;obtain⟨k,rfl⟩:∃ k:Nat,n=(k:Int):=⟨n.toNat,by omega⟩;have G:=ag k wr (by omega) t.bel;rw[SV.Bo (by omega)] at *
            rw[z] at *
            unfold bZ at *
            have k0:(0:Int)<=(k:Int):=by omega
            have k1:(k:Int)<5:=by omega
            have k2:((k:Int)).toNat=k:=by omega
            go_wp2;go_ret2
            first|exact⟨O,0,by rw[<- f.out];rfl,by rw[<- f.out];exact Nums.nil _ _,(λg o e=>by cases e),x⟩|exact⟨O,⟨0,by rw[<- f.out];rfl⟩,by rw[<- f.out];exact Nums.nil _ _,(λg o e=>by cases e),x⟩
      | some v =>
        obtain⟨d,rfl,n5,an,az,ax⟩:=M n v wr z t.bel;have g1:decide ((d:Int)<0)=false:=by simp
        have g2:decide (5<=(d:Int))=false:=decide_eq_false (by omega);have k0:(0:Int)<=(d:Int):=by omega
        have k1:(d:Int)<5:=by omega
        have k2:((d:Int)).toNat=d:=by omega
        by_cases Q:l.length=5
        . have g3:((l.length:Int)==5)=true:=by simp;omega
          rw[SV.xE F z Q] at *
          have f:=ah E;have x:=ah t.bel;go_wp2;go_ret2
          first|exact⟨O,0,by rw[<- f.out];rfl,by rw[<- f.out];exact Nums.nil _ _,(λg o e=>by cases e),x⟩|exact⟨O,⟨0,by rw[<- f.out];rfl⟩,by rw[<- f.out];exact Nums.nil _ _,(λg o e=>by cases e),x⟩
        . have g3:((l.length:Int)==5)=false:=by simp;omega
          obtain⟨C,T⟩:∃ C,s.file root=S C:=by
            rcases t.root with e|e
            . rw[<- e];exact⟨v,z⟩
            . exact e
          have U:s.iO root=C.h.c:=by unfold SV.iO;rw[T]
          have x:=ah t.bel;obtain⟨rk,a5,r5,ar,ap,_⟩:=M root C wr T t.bel;have r0:(0:Int)<=(rk:Int):=by omega
          have r1:(rk:Int)<5:=by omega
          have r2:((rk:Int)).toNat=rk:=by omega
          subst a5
          have V:χ (∀ W:ω,β w w W->W.cell? ⟨sp,d,O⟩=S ((D d).p:υ)/\W.cell? ⟨(D d).p,3,O⟩=S (v.h.b:υ)):=λW B=>by
            obtain⟨k',I,_,P,_,e3⟩:=M (d:Int) v W z B;have:d=k':=by omega
            subst this;exact⟨P,e3⟩
          have J:χ (β w w wr.drew):=x.drew;have a7:χ (wr.drew.ownsRow w.heap.size 3 1 (.slice a l.length cap) l.length (jI l)):=t.own;generalize (D d).p=xn at *
          generalize (D rk).p=xr at *
          by_cases G:v.h.c=C.h.c
          . have ab:(v.h.c != C.h.c)=false:=by simpa using G
            rw[SV.vI F z Q (by rw[U];exact G)] at *
            have ae:=ah E;have a8:χ (∃ v,s.file (rk:Int)=S v):=⟨C,T⟩;have aq:l.length<=4:=by omega
            have HQ:=ah hq;have HM:χ (l.length+1<=maxLen):=by unfold χ maxLen;omega
            go_wp2;go_region;generalize wr.drew=A at *
            have a0:χ ((A.alloc (.cells #[(d:Int)] 3)).ownsRow w.heap.size 3 1 (.slice a l.length cap) l.length (jI l)):=a7.alloc _;have a2:χ ((A.alloc (.cells #[(d:Int)] 3)).heap.size=A.heap.size+1):=by unfold χ;simp
            have Z:χ (w.heap.size<=(A.alloc (.cells #[(d:Int)] 3)).heap.size):=by unfold χ;have:=J.size;rw[a2.out];omega
            have al:χ (∀ j y,([.int .i64 (d:Int)]:List υ)[j]?=S y->(A.alloc (.cells #[(d:Int)] 3)).cell? ((⟨A.heap.size,0,O⟩:Addr).add j)=S y):=cell_one_new _ _ _;have a6:χ (β w w (A.alloc (.cells #[(d:Int)] 3))):=J.alloc J.size _
            go_wp2_with (at_builtin;refine wpList_append_lies _ (by rfl) _ _ 88 (by rfl) w.heap.size 3 H (.int .i64 0) 1 8 underlying88 ac aa ai a4 rfl (by decide) (.slice a l.length cap) l.length (jI l) (by rfl) a0 ⟨A,0,O⟩ 1 1 [(d:Int)] (by rfl) (by rfl) al (λu hu=>by simp at *;subst hu;rfl) (by decide) HM (by omega) Z (A.heap.size+1) a2 ?_
                         intro g k K a1 X af ad;have N:χ (β w w K):=a6.grown X Z (λr e=>(a0.lt r e).1);have a9:=ah a1;have d3:=(V K N).1;have d4:=(V K N).2
                         clear a1 X af ad)
            have am:χ (Walks w s (rk:Int) R (l++[(d:Int)]) v.h.b (S ⟨g,0,O⟩) k K):=by
              have I:(l++[(d:Int)]).length=l.length+1:=by simp
              have P:jI (l++[(d:Int)])=jI l++[.int .i64 (d:Int)]:=by simp[jI]
              refine⟨?_,?_,by rw[I];omega,.inr a8,N⟩
              . rw[I,P];exact a9
              . have:=HQ
                rw[I,show 6-(l.length+1)=q by omega];exact ae
            go_roundw
            case rel =>
              exact⟨l++[(d:Int)],v.h.b,S ⟨g,0,O⟩,k,by simp,rfl,am⟩
            case measure=>simp[sliceLen];omega
          . have ab:(v.h.c != C.h.c)=true:=by simpa using G
            rw[SV.walk_other F z Q (by rw[U];exact G)] at *
            have f:=ah E;go_wp2;go_region;go_wp2;go_ret2;exact⟨O,0,by rw[<- f.out];rfl,by rw[<- f.out];exact Nums.nil _ _,(λg o e=>by cases e),J⟩
def VX{sp m cap C:Nat}{xs s a}(l)(fr n:Int)(w)(h:bJ w sp xs s m)(y:Nums w a l)(d:s.good (C:Int) l)(X:l.length<=100)(hC:C<=40)(P : -9223372036854775808<=fr/\fr<=9223372036854775807) :
  κ prog 44 #[sp,.slice a l.length cap,fr,n] w λe w'=>e=.returned (.tuple #[.string (s.fG l fr n),s.aT l fr n])/\β w w w':=by
 have o:=ah (vC (cap:=cap) l fr n w h y d (by omega) P);by_cases g:s.aT l fr n=0
 .obtain⟨r,n0,n1,n2⟩:=SV.mD d g;obtain⟨f,rfl⟩:∃ f:Nat,fr=(f:Int):=⟨fr.toNat,by omega⟩;obtain⟨k,rfl⟩:∃ k:Nat,n=(k:Int):=⟨n.toNat,by omega⟩;have t:χ (s.fG l (f:Int) (k:Int)=s.kQ l f k):=by unfold χ SV.fG;rw[if_pos g];rfl
  rw[g] at o |-;have Z:χ (∀ j,j<=k->(s.kQ l f j).size=j*16):=λj A=>SV.BO d h.ok r j (by omega)
  have M:χ (s.kQ l f 0=bytesOf []):=rfl;have H:χ (∀ j,s.kQ l f (j+1)=s.kQ l f j++(s.read l (((f+j) / 4:Nat):Int)).1.extract ((f+j) % 4*16) (((f+j) % 4+1)*16)):=λj=>rfl
  have Y:χ (∀(j:Nat) (W:ω),j<k->β w w W->κ prog 118 #[sp,.slice a l.length cap,(((f:Int)+(j:Int)) / 4:Int)] W λe w'=>e=.returned (.tuple #[.string (s.read l (((f+j) / 4:Nat):Int)).1,(0:Int)])/\β W W w'):=λj W A x=>by
   have:=Dw (cap:=cap) l (((f+j) / 4:Nat):Int) W (h.below x) (y.below x) d X
   rw[(SV.l9 d h.ok r  ⟨by omega,by omega⟩).1,show((((f+j) / 4:Nat)):Int)=((f:Int)+(j:Int)) / 4 by omega] at *;exact this
  generalize s.fG l (f:Int) (k:Int)=R at *
  generalize s.kQ l f=G at *
  generalize hq:l.length=q at *
  have a1:f+k<=1000:=by omega
  have kk  := ja9 _ (by omega);go_enter func44,ntmps44;go_wp2_with fail;refine cHd o λN J=>?_
  go_wp2;go_loopw [11,12] (λu i wr=>∃(j:Nat),j<=k/\u=.string (G j)/\i=.int .i64 ((f:Int)+(j:Int))/\β w w wr) (λ_ i _=>(f+k)-(intOf i).toNat)
  case atStart=>exact⟨0,ja7 _,by rw[M.out];rfl,by simp,J⟩
  case round =>
   obtain⟨j,T,rfl,rfl,z⟩:=hrel;have D:=ah z;by_cases B:j<k
   .have I:=ah (Y j wr B z);have hz:=(λj (A:j<k)=>(SV.l9 d h.ok r (c:=(((f+j) / 4:Nat):Int)) ⟨by omega,by omega⟩).2) j B;have HS:=ah (H j);have a2:=Z j T;generalize (s.read l (((f+j) / 4:Nat):Int)).1=v at *
    have e0:(0:Int)<=(f:Int)+(j:Int):=by omega
    obtain⟨b,L⟩:∃ b:Nat,(f+j) % 4=b:=⟨_,rfl⟩;have e1:((f:Int)+(j:Int)) % 4=(b:Int):=by omega
    have e2:(0:Int)<=16*(b:Int):=by omega
    have e3:16*(b:Int)<=16*(b:Int)+16:=by omega
    have e5:(16*(b:Int)).toNat=16*b:=by omega
    have e6:(16*(b:Int)+16).toNat=16*b+16:=by omega
    have e8:¬9223372036854775807<(G j).size+(v.extract (16*b) (16*b+16)).size:=by rw[jaB];omega
    have U:χ (G j++v.extract (16*b) (16*b+16)=G (j+1)):=by
     unfold χ;rw[HS.out,L,show b*16=16*b by omega,show(b+1)*16=16*b+16 by omega]
    go_wp2_with fail;refine cBl I D λwB a0=>?_
    go_wp2;go_roundw
    case rel =>
     exact⟨j+1,by omega,by rw[U.out],by go_num,a0⟩
    case measure=>simp[intOf];omega
   .have K:j=k:=by omega
    subst K;go_wp2;go_ret2;exact⟨by rw[t.out];rfl,D⟩
 .have t:χ (s.fG l fr n=bytesOf []):=by unfold χ SV.fG;rw[if_neg g]
  have HP:χ (0<s.aT l fr n):=by
   unfold χ SV.aT at *
   split
   .decide
   .split
    .decide
    .next V E=>rw[if_neg V,if_neg E] at *;exact absurd rfl g
  rw[t.out];generalize s.aT l fr n=F at *
  have g1  := decide_eq_true HP.out;generalize l.length=q at *
  go_enter func44,ntmps44;go_wp2_with fail;refine cEq o λN Q=>?_
  go_wp2;go_ret2;exact⟨rfl,Q⟩
theorem eu.more{w w' b xp cap m m' C a qs s z j}(h:eu b xp a cap qs s z m C j w w')(c:m<=m'):eu b xp a cap qs s z m' C j w w':=by
 obtain⟨qs',f,d⟩:=h;exact⟨qs',f.more c,d⟩
def RJ.zl{w c w' b xp cap m m' C a qs s j is R e}(h:RJ w b xp a cap qs s m C j is)(d:β w w c)(hd:bK c b qs s m' R e w')(n:s.alike R.1):e=.returned R.2/\∃ qs',RJ w' b xp a cap qs' R.1 m' C j is/\fC qs s xp w qs' R.1 w':=by
 obtain⟨qs',k,f,g⟩:=hd;obtain⟨i,l⟩:=(h.below d).lG f g n;exact⟨k,qs',i,(fC.of_below d).trans l⟩
def RJ.reads{w f xp cap m C a qs s j is}(h:RJ w f xp a cap qs s m C j is):∃(g o n:Nat) (r:List Int) (v:IV),a=S ⟨g,o,O⟩/\j.l=(n:Int)::r/\s.file (n:Int)=S v/\n<5 /\
  ∀ W,β w w W->W.cell? ⟨xp,0,O⟩=S (f:υ)/\W.cell? ⟨xp,2,O⟩=S (j.kind:υ)/\W.cell? ⟨xp,3,O⟩=S (j.file:υ)/\W.cell? ⟨xp,6,O⟩=S (.slice a j.l.length cap)/\W.cell? ⟨g,o,O⟩=S (.int .i64 (n:Int))/\W.cell? ⟨f,n,O⟩=S ((qs n).p:υ):=by
 obtain⟨n,r,v,d,b,y⟩:=h.ok.root;obtain⟨z,x,_⟩:=SV.eG b;obtain⟨k,rfl⟩:∃ k:Nat,n=(k:Int):=⟨n.toNat,by omega⟩;obtain⟨g,o,q,i⟩:=h.nums 0 (by rw[d];simp);refine⟨g,o,k,r,v,q,d,b,by omega,λW c=>?_⟩;obtain⟨u,c2,c3,t,_⟩:=(h.below c).job.cells;rw[d,jb0] at *
 exact⟨u,c2,c3,t,(c.cell  (ja2 _ _ i)).trans i,((h.below c).shelf.kU b)⟩
structure Rl(w:ω)(mp xp:Nat)(a:Option Addr)(cap:Nat)(qs:Nat->Qh)(s:SV)(m C:Nat)(j:JV)(is:Int)(b:Option Addr)(l:List Int)(z:SV)(wr:ω)(ys:Nat->Qh):Prop where
 p:RJ wr mp xp a cap ys z m C j is
 m:fC qs s xp w ys z wr
 n:Nums wr b l
 ap:Apart b (fpR ys z xp)
def WA{xp c cap m C a qs s j}(w)(h:RJ w c xp a cap qs s m C j j.state)(T:m+10<1000000000) :
    κ prog 132 #[xp] w λe w'=>e=.returned (dF s j)/\eu c xp a cap qs s (dQ s j) (m+10) C (dY s j) w w':=by
  have HP:=ah h;obtain⟨c0,c2,c3,c6,c7,aE,ab,ax,aL⟩:=h.job.cells;have af:χ (eu c xp a cap qs s s (m+10) C j w w):=(eu.below h (ja0 _ _)).more (by omega);have J:χ (β w w w.drew):=(ja0 _ _).drew;unfold dF dQ dY;by_cases t:j.state=3
  . rw[t] at ab;by_cases q:j.kind=2
    . rw[if_pos t,if_pos t,if_pos q,if_pos q];obtain⟨g,o,n,r,v,ha,hl,I,aw,a4⟩:=h.reads;have al:j.l.headD 0=(n:Int):=by rw[hl];rfl
      rw[al];have Z:0<j.l.length:=by rw[hl];simp
      have az:(0:Int)<(j.l.length:Int):=by omega
      have X:χ (∀ W:ω,β w w W->κ prog 198 #[(qs n).p,j.file] W λe w'=>e=.returned (.int .i64 (dO s (n:Int) j.file).2)/\∃ qs',RJ w' c xp a cap qs' (dO s (n:Int) j.file).1 (m+10) C j j.state/\fC qs s xp w qs' (dO s (n:Int) j.file).1 w'):=λW z =>
        (V6 (n:=(n:Int)) j.file W (h.shelf.below z) I T).mono λe w' hd=>h.zl z hd (SV.alike.link _ _ _)
      have b4:0<=(dO s (n:Int) j.file).2:=by
        unfold dO;rw[I];show 0<=IV.jg _ _
        unfold IV.jg DV.aV;split<;>(try split)<;>decide
      obtain⟨q0,q2,q3,q6,qg,qm⟩:=a4 w.drew J;have b5:=ah a4
      have a6:χ (∀(d:ω) (D:Nat->Qh),RJ d c xp a cap D (dO s (n:Int) j.file).1 (m+10) C j j.state->fC qs s xp w D (dO s (n:Int) j.file).1 d->d.cell? ⟨xp,0,O⟩=S (c:υ)/\d.cell? ⟨xp,3,O⟩=S (j.file:υ)/\d.cell? ⟨xp,6,O⟩=S (.slice a j.l.length cap)/\d.cell? ⟨g,o,O⟩=S (.int .i64 (n:Int))/\d.cell? ⟨c,n,O⟩=S ((qs n).p:υ)):=λd D hr T=>by
        obtain⟨k0,k2,k3,k6,_⟩:=hr.job.cells;obtain⟨_,_,_,_,kg,km⟩:=a4 w (ja0 _ _);exact⟨k0,k3,k6,(T.cell (p:=⟨g,o,O⟩) (ja2 _ _ kg) (h.ap g o ha)).trans kg,(T.cell (p:=⟨c,n,O⟩) (lt_of_some h.shelf.blk) h.not.2).trans km⟩
      subst ha;generalize b3:dO s (n:Int) j.file=R at *
      generalize (qs n).p=E at *
      generalize j.l.length=ln at *
      generalize j.file=fl at *
      have n0:(0:Int)<=(n:Int):=by omega
      have n5:(n:Int)<5:=by omega
      have gk:(j.kind==2)=true:=by simpa using q
      by_cases K:R.2=0
      . rw[if_neg (λe=>e.2.2 K)];rw[K] at X;rw[K];go_enter func132,ntmps132;go_wp2
        go_region_held3 (λW=>W.cell? ⟨xp,0,O⟩=S (c:υ)/\W.cell? ⟨xp,3,O⟩=S (fl:υ)/\W.cell? ⟨xp,6,O⟩=S (.slice (S ⟨g,o,O⟩) ln cap)/\W.cell? ⟨g,o,O⟩=S (.int .i64 (n:Int))/\W.cell? ⟨c,n,O⟩=S (E:υ))
          (first|(exact⟨q0,q3,q6,qg,qm⟩)|assumption)
          (first
            | (go_at_call 198;refine(X _ J).mono ?_;rintro e d ⟨rfl,D,H,N⟩;have a7:d.cell? ⟨xp,0,O⟩=S (c:υ)/\d.cell? ⟨xp,3,O⟩=S (fl:υ)/\d.cell? ⟨xp,6,O⟩=S (.slice (S ⟨g,o,O⟩) ln cap)/\d.cell? ⟨g,o,O⟩=S (.int .i64 (n:Int))/\d.cell? ⟨c,n,O⟩=S (E:υ):=a6 _ _ H N))
        have P:χ (eu c xp (S ⟨g,o,O⟩) cap qs s R.1 (m+10) C j w d):=⟨D,H,N⟩;go_wp2;go_ret;exact⟨rfl,P⟩
      . rw[if_pos ⟨t,q,K⟩];have gf:decide (0<R.2)=true:=decide_eq_true (by omega);go_enter func132,ntmps132;go_wp2
        go_region_held3 (λW=>W.cell? ⟨xp,0,O⟩=S (c:υ)/\W.cell? ⟨xp,3,O⟩=S (fl:υ)/\W.cell? ⟨xp,6,O⟩=S (.slice (S ⟨g,o,O⟩) ln cap)/\W.cell? ⟨g,o,O⟩=S (.int .i64 (n:Int))/\W.cell? ⟨c,n,O⟩=S (E:υ))
          (first|(exact⟨q0,q3,q6,qg,qm⟩)|assumption)
          (first
            | (go_at_call 198;refine(X _ J).mono ?_;rintro e d ⟨rfl,D,H,N⟩;have a7:d.cell? ⟨xp,0,O⟩=S (c:υ)/\d.cell? ⟨xp,3,O⟩=S (fl:υ)/\d.cell? ⟨xp,6,O⟩=S (.slice (S ⟨g,o,O⟩) ln cap)/\d.cell? ⟨g,o,O⟩=S (.int .i64 (n:Int))/\d.cell? ⟨c,n,O⟩=S (E:υ):=a6 _ _ H N))
        have P:χ (eu c xp (S ⟨g,o,O⟩) cap qs s R.1 (m+10) C (j.at 5) w (d.setCell ⟨xp,74,O⟩ (5:Int))):=by
          obtain⟨p2,m2⟩:=H.o8 5;refine⟨D,?_,N.trans m2⟩;rw[j.xQ (by decide)];exact p2.staged (.inr (.inr (.inr rfl)))
        obtain⟨_,_,_,_,_,_,aR,_,b2⟩:=H.job.cells;go_wp2;go_ret;exact⟨rfl,P⟩
    . rw[if_pos t,if_pos t,if_neg q,if_neg q,if_neg (λe=>q e.2.1)];have gk:(j.kind==2)=false:=by simpa using q
      have ar:=ah (wW j.file w.drew (h.shelf.below J))
      have HC:χ (∀ W:ω,β w w W->W.cell? ⟨xp,0,O⟩=S (c:υ)/\W.cell? ⟨xp,3,O⟩=S (j.file:υ)):=λW z=>by
        obtain⟨c0,c2,c3,_⟩:=(h.below z).job.cells;exact⟨c0,c3⟩
      obtain⟨hg,b0,b1,_⟩:=s.walk_good j.file;have HG:=ah hg;have Y:w.drew.cell? ⟨xp,0,O⟩=S (c:υ):=c0;have d3:w.drew.cell? ⟨xp,3,O⟩=S (j.file:υ):=c3;generalize s.iO j.file=rc at *
      generalize s.walk j.file=R at *
      obtain⟨l,f⟩:=R;simp only at *
      obtain⟨F,x⟩:=fls s l;have a3:=ah x;rw[<- x.all];generalize j.file=fl at *
      generalize j.kind=kd at *
      generalize Z:l.length=ln at *
      go_enter func132,ntmps132;go_wp2
      go_region_held3 (λW=>W.cell? ⟨xp,0,O⟩=S (c:υ)/\W.cell? ⟨xp,3,O⟩=S (fl:υ))
        (first|(exact⟨Y,d3⟩)|assumption)
        (first
          | (go_at_call 82;refine ar.mono ?_;rintro e d ⟨b,bc,rfl,ae,aa,av⟩;have a0:=ah (J.trans (av.mono J.size));have a7:=HC _ a0))
      have ag:χ (Rl w c xp a cap qs s m C j j.state b l (F 0) d qs):=by
        unfold χ;rw[a3.out.zero]
        exact⟨HP.below a0,fC.of_below a0,ae,λg o e K=>by
          have B:=HP.iH K;have q:=(aa g o e).1;have t:w.heap.size<=g:=q
          omega⟩
      go_wp2;go_loopw [6] (λi wr=>∃(k:Nat) (L:Nat->Qh),k<=ln/\i=.int .i64 (k:Int)/\Rl w c xp a cap qs s m C j j.state b l (F k) wr L) (λi _=>ln-(intOf i).toNat)
      case atStart=>exact⟨0,qs,ja7 _,rfl,ag⟩
      case round =>
        obtain⟨k,L,hk,rfl,x⟩:=hrel;have y:=ah x;by_cases aM:k<ln
        . have Q:k<l.length:=by omega
          obtain⟨g,o,z,V⟩:=x.n k Q;subst z;obtain⟨v0,aq,_⟩:=HG (l.getD k 0) (by rw[ja6,ja5 Q];exact jad Q);obtain⟨v,I,_⟩:=(a3.alike k).head _ _ aq;have a2:=x.p.shelf.kU I;obtain⟨n0,n5,_⟩:=SV.eG I;have a8:=ah λW (z:β wr wr W)=>JA W (x.p.shelf.below z) I
          have U:χ (F (k+1)=(F k).ig (l.getD k 0)):=a3.next k Q;obtain⟨e0,_⟩:=x.p.job.cells;have am:χ ((F k).alike ((F k).ig (l.getD k 0))):=SV.alike.ig _ _;generalize l.getD k 0=n at *
          obtain⟨u,rfl⟩:∃ u:Nat,n=(u:Int):=⟨n.toNat,by omega⟩;have ai:((u:Int)).toNat=u:=by omega
          rw[ai] at a2 a8;generalize (L u).p=E at *
          have k0:(0:Int)<=(k:Int):=by omega
          have k1:(k:Int)<(ln:Int):=by omega
          have a9:χ (β wr wr wr.drew):=(ja0 _ _).drew;have Y  := e0;have dn  := V;have dm  := a2
          have ad:χ (∀(W A:ω) (G:Nat->Qh),β wr wr W->bJ A c G ((F k).ig (u:Int)) m->jX L (F k) W G ((F k).ig (u:Int)) A->Rl w c xp a cap qs s m C j j.state (S ⟨g,o,O⟩) l (F (k+1)) A G/\A.cell? ⟨xp,0,O⟩=S (c:υ)/\A.cell? ⟨g,o+k,O⟩=S (.int .i64 (u:Int))/\A.cell? ⟨c,u,O⟩=S (E:υ)):=λW A G a5 B q=>by
            obtain⟨t,h4⟩:=(y.p.below a5).lG B q am;have ac:l≠[]:=by intro e;subst e;simp at Z;omega
            have M:=(fC.of_below (qs:=L) (s:=F k) (xp:=xp) a5).trans h4;exact⟨⟨by rw[U.out];exact t,by rw[U.out];exact y.m.trans M,y.n.moved M.toMoved y.ap,by rw[U.out];exact y.ap.moved y.n ac M.toMoved⟩,t.job.cells.1,(M.cell (p:=⟨g,o+k,O⟩) (ja2 _ _ V) (y.ap g o rfl)).trans V,(M.cell (p:=⟨c,u,O⟩) (lt_of_some y.p.shelf.blk) y.p.not.2).trans a2⟩
          go_wp2
          go_region_held3 (λW=>W.cell? ⟨xp,0,O⟩=S (c:υ)/\W.cell? ⟨g,o+k,O⟩=S (.int .i64 (u:Int))/\W.cell? ⟨c,u,O⟩=S (E:υ))
            (first|(exact⟨Y,dn,dm⟩)|assumption)
            (first
              | (go_at_call 120;refine(a8 _ a9).mono ?_;rintro e A ⟨rfl,G,B,q⟩;have a1:=ad _ _ _ a9 B q;have aD:=a1.2;have an:=ah a1.1;clear a1 B q))
          go_wp2;go_roundw
          case rel =>
            exact⟨k+1,G,by omega,by go_num,an⟩
          case measure=>simp[intOf];omega
        . have ao:k=l.length:=by omega
          have P:χ (eu c xp a cap qs s (F ln) (m+10) C j w wr):=by
            have B:=x.p;have q:=x.m;rw[ao,Z] at *
            exact⟨L,B.more (by omega),q⟩
          go_wp2;go_ret;exact⟨rfl,P⟩
  . have g3:(j.state != 3)=true:=by simpa using t
    rw[if_neg t,if_neg t,if_neg (λe=>t e.1)];generalize j.state=st at *
    go_enter func132,ntmps132;go_wp2;go_ret;exact⟨rfl,af⟩
def SV.IE(s:SV)(n c t):0<=(s.move n c t).2:=by
 unfold SV.move;split
 .omega
 .split
  .exact ER _ _
  .split
   .exact LQ _ _ _ _
   .exact Gu _ _ _
def JV.DY(j:JV):j.some=true↔S4.cnt j.x 64≠0:=by
 unfold JV.some S4.oW;have a:(S4.elems _).length=S4.cnt _ 64:=(S4.FN j.x 64);rw[<- a]
 cases S4.elems _ with
 | nil=>simp
 | cons y r=>simp
def RJ.LH{w b g xp cap m C a qs d s z}{j:JV}{k:Nat}(E:k<64)(D:j.stage=1)(h:RJ b g xp a cap d z m C j.took 1)(u:fC qs s xp w d z b) :
  (if S4.gI j.n j.x (k:Int) false=true then b.setCell ⟨xp,9+k,O⟩ false else b).cell? ⟨xp,73,O⟩=S (j.last:υ)/\(if S4.gI j.n j.x (k:Int) false=true then b.setCell ⟨xp,9+k,O⟩ false else b).frozen? ⟨xp,73,O⟩=false /\
  κ prog 183 #[xp] ((if S4.gI j.n j.x (k:Int) false=true then b.setCell ⟨xp,9+k,O⟩ false else b).setCell ⟨xp,73,O⟩ (k:Int)) λe w'=>e=.returned (.tuple #[])/\eu g xp a cap qs s z m C (j.went (k:Int)) w w':=by
 obtain⟨f,q⟩:=h.rM (k:Int) _;obtain⟨o,i⟩:=f.DT (c:=(k:Int)) ⟨by omega,by omega⟩;obtain⟨_,_,_,_,_,A,_,y,_⟩:=f.job.cells;refine⟨A,y,(Dy _ o).mono λe w' ⟨v,l,r⟩=>⟨v,d,?_,u.trans (q.trans (i.trans r))⟩⟩
 have t:qM 1 (S4.cnt (S4.fK j.n j.x (k:Int) false) 64)=(j.went (k:Int)).state:=by
  have B:(j.went (k:Int)).state=if j.stage=1/\S4.cnt (S4.fK _ _ (k:Int) _) 64=0 then 3 else j.stage:=rfl
  unfold qM;omega
 rw[<- t];exact l
def WH{xp b cap m C a qs s j}(w)(h:RJ w b xp a cap qs s m C j j.state)(d:j.stage≠1) :
  κ prog 140 #[xp] w λe w'=>e=.returned (.tuple #[false,(9:Int)])/\eu b xp a cap qs s s (m+10) C j w w':=by
 have g:χ (eu b xp a cap qs s s (m+10) C j w w):=(eu.below h (ja0 _ _)).more (by omega);obtain⟨i,c2,c3,l,k,o,f,n,q⟩:=h.job.cells
 have c:j.state=j.stage:=by
  rcases j.zS with⟨e,_⟩|⟨_,e⟩
  .exact absurd e d
  .exact e
 have g1:(j.state != 1)=true:=by rw[c];simpa using d
 have g3:(j.state != 3)=true:=by have:=h.ok.st3;rw[c];simpa using this
 generalize j.state=st at f g1 g3;go_enter func140,ntmps140;go_wp2;go_ret2;exact⟨rfl,g⟩
def WG{xp c cap m C a qs s j}(w)(h:RJ w c xp a cap qs s m C j j.state)(g:j.stage=1)(b:j.some=false) :
  κ prog 140 #[xp] w λe w'=>e=.returned (.tuple #[false,(0:Int)])/\eu c xp a cap qs s s (m+10) C j w w':=by
 have z:=ah h;have n:χ (eu c xp a cap qs s s (m+10) C j w w):=(eu.below h (ja0 _ _)).more (by omega);obtain⟨t,c2,c3,v,o,A,k,r,B⟩:=h.job.cells;have d:χ (β w w w.drew):=(ja0 _ _).drew;have f:S4.jP j.x (S4.elems j.x):=⟨rfl⟩;have l:χ (κ prog 205 #[.pointer (S ⟨xp,8,O⟩),(j.last+1:Int)] w.drew λe w'=>e=.returned (.tuple #[j.pick,j.some])/\w'=w.drew):=S4.Dn (S4.elems j.x) f (j.last+1) w.drew (h.below d).job.rY h.ok.set;have F:=h.ok.last;have E:IntKind.i64.wrap (j.last+1)=j.last+1:=ja9 _ (by omega);have u:w.drew.cell? ⟨xp,73,O⟩=S (j.last:υ):=A
 have i:j.state=3:=by
  have:¬S4.cnt j.x 64≠0:=λe=>by rw[j.DY.2 e] at *;cases b
  unfold JV.state;rw[if_pos ⟨g,by omega⟩]
 rw[i] at k;rw[b] at *
 have y:=ah ((eu.below h d).more (show m<=m+10 by omega));clear h z n f i b g t c2 c3 v o r B;generalize j.pick=G at *
 generalize j.last=q at *
 go_enter func140,ntmps140;go_wp2
 go_region_held3 (λW=>W.cell? ⟨xp,73,O⟩=S (q:υ))
  (first|(exact u)|assumption)
  (first
    | (go_at_call 205;refine l.mono ?_;rintro e D ⟨rfl,rfl⟩))
 go_wp2;go_ret2;exact⟨rfl,y⟩
def WI{xp f cap m C a qs s j}(w)(h:RJ w f xp a cap qs s m C j j.state)(t:j.stage=1)(l:j.some=true)(n:S4.inB 4 j.lv=false) :
  κ prog 140 #[xp] w λe w'=>e=.returned (.tuple #[false,(0:Int)])/\eu f xp a cap qs s s (m+10) C j w w':=by
 have g:=ah h;have B:χ (eu f xp a cap qs s s (m+10) C j w w):=(eu.below h (ja0 _ _)).more (by omega);obtain⟨G,c2,c3,L,D,N,y,F,P⟩:=h.job.cells;have b:χ (β w w w.drew):=(ja0 _ _).drew;have q:S4.jP j.x (S4.elems j.x):=⟨rfl⟩;have A:χ (κ prog 205 #[.pointer (S ⟨xp,8,O⟩),(j.last+1:Int)] w.drew λe w'=>e=.returned (.tuple #[j.pick,j.some])/\w'=w.drew):=S4.Dn (S4.elems j.x) q (j.last+1) w.drew (h.below b).job.rY h.ok.set;have T:=h.ok.last;have R:IntKind.i64.wrap (j.last+1)=j.last+1:=ja9 _ (by omega);have K:w.drew.cell? ⟨xp,73,O⟩=S (j.last:υ):=N
 have i:j.state=1:=by
  have:=j.DY.1 l
  unfold JV.state;rw[if_neg (λe=>this e.2),t]
 rw[i] at y g;rw[l] at *
 obtain⟨H,u,v⟩:=(g.below b).job.bkt;have r:=ah (S4.Jj 4 w.drew u ⟨h.ok.lv.1,by have:=h.ok.lv;omega⟩);have o:S4.jU j.lv 4=j.lv:=by unfold S4.jU;rw[n];rfl
 rw[n,o] at r
 have z:χ (∀ w':ω,S4.jW 198 H w' xp j.rate j.burst j.lv->S4.Kept (λk=>k=xp) w.drew w'->eu f xp a cap qs s s (m+10) C j w w'):=λw' d c=>by
  obtain⟨I,J⟩:=(g.below b).tZ v d c ⟨h.ok.lv.1,h.ok.lv.2.1⟩;refine⟨qs,?_,(fC.of_below b).trans J⟩;rw[i];exact I.more (by omega)
 clear h g B q i l t G c2 c3 L D F P v u o n;generalize j.pick=U at *
 generalize j.last=E at *
 go_enter func140,ntmps140;go_wp2
 go_region_held3 (λW=>W.cell? ⟨xp,73,O⟩=S (E:υ))
  (first|(exact K)|assumption)
  (first
    | (go_at_call 205;refine A.mono ?_;rintro e Q ⟨rfl,rfl⟩))
 go_wp2_with fail;refine r.mono ?_;rintro e V ⟨rfl,d,c⟩;have M:=ah (z _ d c);clear d c;go_wp2;go_ret2;exact⟨rfl,M⟩
def Dx{xp d cap m C a qs s j B V S' L}(w)(h:RJ w d xp a cap qs s m C j j.state)(hm:m+10<1000000000)(h1:j.stage=1)(Q:j.some=true)(F:S4.inB 4 j.lv=true)
  (D:j.jr s j.pick=false/\B=true/\V=0/\S'=s/\L=j.went j.pick\/j.jr s j.pick=true/\S'=(j.moved s j.pick).1/\((j.moved s j.pick).2=0/\B=true/\V=0/\L=j.went j.pick\/(j.moved s j.pick).2≠0/\B=false/\V=(j.moved s j.pick).2/\L=j.fell)) :
  κ prog 140 #[xp] w λe w'=>e=.returned (.tuple #[B,V])/\eu d xp a cap qs s S' (m+10) C L w w':=by
 have X:=ah h;have aw:χ (eu d xp a cap qs s s (m+10) C j w w):=(eu.below h (ja0 _ _)).more (by omega);obtain⟨c0,c2,c3,c6,c7,ac,av,az,aR⟩:=h.job.cells;have K:χ (β w w w.drew):=(ja0 _ _).drew;have ag:S4.jP j.x (S4.elems j.x):=⟨rfl⟩;have G:χ (κ prog 205 #[.pointer (S ⟨xp,8,O⟩),(j.last+1:Int)] w.drew λe w'=>e=.returned (.tuple #[j.pick,j.some])/\w'=w.drew):=S4.Dn (S4.elems j.x) ag (j.last+1) w.drew (h.below K).job.rY h.ok.set;have aL:=h.ok.last;have aE:IntKind.i64.wrap (j.last+1)=j.last+1:=ja9 _ (by omega);have aq:w.drew.cell? ⟨xp,73,O⟩=S (j.last:υ):=ac
 have hs:j.state=1:=by
  have:=j.DY.1 Q
  unfold JV.state;rw[if_neg (λe=>this e.2),h1]
 rw[hs] at av X;rw[Q] at G;obtain⟨aD,am,an⟩:=(X.below K).job.bkt;have a8:=ah (S4.Jj 4 w.drew am ⟨h.ok.lv.1,by have:=h.ok.lv;omega⟩);have h4:4<=j.lv:=by unfold S4.inB at F;simp at F;omega
 have af:S4.jU j.lv 4=j.lv-4:=by unfold S4.jU;rw[F];rfl
 rw[F,af] at a8
 have b3:χ (∀ w':ω,S4.jW 198 aD w' xp j.rate j.burst (j.lv-4)->S4.Kept (λk=>k=xp) w.drew w'->RJ w' d xp a cap qs s m C j.took 1/\fC qs s xp w qs s w'):=λw' J H=>by
  obtain⟨p1,m1⟩:=(X.below K).tZ an J H ⟨by omega,by have:=h.ok.lv;omega⟩;exact⟨p1,(fC.of_below K).trans m1⟩
 obtain⟨k,ao,b0,ad⟩:=h.ok.pick Q;rw[ao] at G D;clear h X aw ag hs Q c0 c2 c3 c6 c7 az aR an am af F ao;generalize b8:j.last=ax at G aL aE aq ac;go_enter func140,ntmps140;go_wp2
 go_region_held3 (λW=>W.cell? ⟨xp,73,O⟩=S (ax:υ))
  (first|(exact aq)|assumption)
  (first
    | (go_at_call 205;refine G.mono ?_;rintro e w1 ⟨rfl,rfl⟩))
 go_wp2_with fail;refine a8.mono ?_;rintro e w2 ⟨rfl,J,H⟩;obtain⟨Z,m2⟩:=b3 _ J H;have ab:=ah Z;have ae:=ah m2;have i:=ah (JR (k:Int) w2 Z);rw[show j.took.jr s (k:Int)=j.jr s (k:Int) from rfl] at i;clear J H Z m2;rcases D with⟨a5,rfl,rfl,rfl,rfl⟩|⟨a5,hS,D⟩
 .rw[a5] at i;go_wp2_with fail;refine i.mono ?_;rintro e b ⟨rfl,q⟩;have c:=ah (ab.below q);have a4:=ah (ae.trans (fC.of_below q));clear q i;have t:=ah (S4.Dp (k:Int) false b c.job.rY c.ok.n64);rw[show j.took.n=j.n from rfl,show j.took.x=j.x from rfl,show((k:Int)).toNat=k from rfl] at t;obtain⟨ai,aa,y⟩:=RJ.LH ad h1 c a4;have u:=ah y;clear y;generalize (if S4.gI j.n j.x (k:Int) false=true then b.setCell ⟨xp,9+k,O⟩ false else b)=W4 at t u ai aa;generalize S4.gI j.n j.x (k:Int) false=pb at t;go_wp2_with fail;refine t.mono ?_;rintro e w' ⟨rfl,z⟩;have a2:=z.symm;subst a2;clear z;go_wp2_with fail;refine u.mono ?_;rintro e w6 ⟨rfl,hd⟩;have E:=ah (hd.more (show m<=m+10 by omega));clear hd u;go_wp2;go_ret2;exact⟨rfl,E⟩
 .rw[a5] at i;go_wp2_with fail;refine i.mono ?_;rintro e b ⟨rfl,q⟩;have c:=ah (ab.below q);have a4:=ah (ae.trans (fC.of_below q));clear q i;obtain⟨v,hv⟩:=c.ok.into;obtain⟨r1,r2⟩:=c.ok.read c.shelf.ok b0
  have al:χ (∀ W:ω,β b b W->κ prog 118 #[d,.slice a j.l.length cap,(k:Int)] W λe w'=>e=.returned (.tuple #[.string (s.read j.l (k:Int)).1,(0:Int)])/\β W W w'):=λW f=>by
    have:=Dw (cap:=cap) j.l (k:Int) W (c.shelf.below f) (c.nums.below f) c.ok.good (by have:=c.ok.len;have e:j.took.l=j.l:=rfl;rw[e] at this;omega)
    rw[show(s.read j.l (k:Int)).2=0 from r1] at *;exact this
  have a1:χ (∀ W:ω,β b b W->κ prog 207 #[d,j.into,(k:Int),.string (s.read j.l (k:Int)).1] W λe w'=>e=.returned (.int .i64 (j.moved s (k:Int)).2)/\∃ qs',RJ w' d xp a cap qs' (j.moved s (k:Int)).1 (m+10) C j.took 1/\fC qs s xp b qs' (j.moved s (k:Int)).1 w'):=λW f =>
    (V7 j.into (k:Int) _ W (c.shelf.below f) hv r2 hm).mono λe w' hd=>c.zl f hd (SV.alike.move _ _ _ _)
  obtain⟨g,o,n,r,v',ha,hl,_,_,ar⟩:=c.reads
  have P:χ (∀ W:ω,β b b W->W.cell? ⟨xp,0,O⟩=S (d:υ)/\W.cell? ⟨xp,2,O⟩=S (j.kind:υ)/\W.cell? ⟨xp,3,O⟩=S (j.file:υ)/\W.cell? ⟨xp,6,O⟩=S (.slice a j.l.length cap)/\W.cell? ⟨g,o,O⟩=S (.int .i64 (n:Int))):=λW f=>by
    obtain⟨M,k2,k3,N,Y,_⟩:=ar W f;exact⟨M,k2,k3,N,Y⟩
  have a6:j.l=(n:Int)::r:=hl;have a9:χ (j.into=if j.kind=2 then (n:Int) else j.file):=by unfold χ JV.into;rw[a6];rfl
  have b5:0<j.l.length:=by rw[a6];simp
  have b4:(0:Int)<(j.l.length:Int):=by omega
  subst ha;clear ar hl a6 hv r1 r2;have a0:χ (β b b b.drew):=(ja0 _ _).drew;obtain⟨M,k2,k3,N,Y⟩:=P b (ja0 _ _);have l0:b.drew.cell? ⟨xp,0,O⟩=S (d:υ):=M;have l6:b.drew.cell? ⟨xp,6,O⟩=S (.slice (S ⟨g,o,O⟩) j.l.length cap):=N;clear M N Y k2 k3;generalize (s.read j.l (k:Int)).1=T at *
  generalize a3:j.moved s (k:Int)=R at a1 D;generalize j.into=into at *
  generalize j.l.length=ln at *
  generalize j.file=fl at *
  generalize j.kind=kd at *
  have aM:(kd==2)=true/\into=(n:Int)\/(kd==2)=false/\into=fl:=by rw[a9.out];by_cases e:kd=2<;>simp[e]
  clear a9;rcases aM with⟨b1,rfl⟩|⟨b1,rfl⟩
  all_goals
    go_wp2
    go_region_held3 (λW=>W.cell? ⟨xp,0,O⟩=S (d:υ)/\W.cell? ⟨xp,6,O⟩=S (.slice (S ⟨g,o,O⟩) ln cap))
     (first|(exact⟨l0,l6⟩)|assumption)
     (first
       | (go_at_call 118;refine(al _ a0).mono ?_;rintro e w4 ⟨rfl,ap⟩;have I:=ah (a0.trans (ap.mono a0.size));have b2:w4.cell? ⟨xp,0,O⟩=S (d:υ)/\w4.cell? ⟨xp,6,O⟩=S (.slice (S ⟨g,o,O⟩) ln cap):=⟨(P _ I).1,(P _ I).2.2.2.1⟩;clear ap))
    obtain⟨q0,q2,q3,q6,q7⟩:=P w4 I;clear b2;go_wp2_with fail;refine(a1 _ I).mono ?_;rintro e U ⟨rfl,zs,p5,m5⟩;have A:=ah p5;have a7:=ah (a4.trans m5);clear p5 m5 a1 al;rcases D with⟨hR,rfl,rfl,rfl⟩|⟨hR,rfl,rfl,rfl⟩
    .rw[hR];have t:=ah (S4.Dp (k:Int) false U A.job.rY A.ok.n64);rw[show j.took.n=j.n from rfl,show j.took.x=j.x from rfl,show((k:Int)).toNat=k from rfl] at *
     obtain⟨ai,aa,y⟩:=RJ.LH ad h1 A a7;have u:=ah y;clear y;generalize (if S4.gI j.n j.x (k:Int) false=true then U.setCell ⟨xp,9+k,O⟩ false else U)=W4 at *
     generalize S4.gI j.n j.x (k:Int) false=pb at *
     go_wp2_with fail;refine t.mono ?_;rintro e w' ⟨rfl,z⟩;have a2:=z.symm;subst a2;clear z;go_wp2_with fail;refine u.mono ?_;rintro e w6 ⟨rfl,hd⟩;have E:=ah (hd.more (show m+10<=m+10 by omega));clear hd u;go_wp2;go_ret2;exact⟨rfl,by rw[hS,a3];exact E⟩
    .have gf:decide (0<R.2)=true:=decide_eq_true (by have:0<=R.2:=a3▸SV.IE _ _ _ _;omega);obtain⟨_,_,_,_,_,_,b6,_,b7⟩:=A.job.cells
     have E:χ (eu d xp (S ⟨g,o,O⟩) cap qs s R.1 (m+10) C j.fell w (U.setCell ⟨xp,74,O⟩ (5:Int))):=by
       obtain⟨p6,m6⟩:=A.o8 5;refine⟨zs,?_,a7.trans m6⟩;have e5:j.fell.state=5:=j.took.xQ (by decide);rw[e5];exact p6.staged (st:=5) (.inr (.inr (.inr rfl)))
     go_wp2;go_ret2;exact⟨rfl,by rw[hS,a3];exact E⟩
def WE{xp k cap m C a qs s j}(w)(h:RJ w k xp a cap qs s m C j j.state)(i:m+10<1000000000) :
  κ prog 140 #[xp] w λe w'=>e=.returned (.tuple #[.bool (eP s j),bF s j])/\eu k xp a cap qs s (stepS s j) (m+10) C (stepJ s j) w w':=by
 unfold eP bF stepS stepJ;by_cases b:j.stage=1
 .cases d:j.some with
  | false =>
   rw[decide_eq_false (λe=>absurd e.2.1 (by decide)),if_pos b,if_neg (λe=>absurd e.1 (by decide)),if_neg (λe=>absurd e.2.1 (by decide)),if_neg (λe=>absurd e.2.1 (by decide))];exact WG w h b d
  | true =>
   cases f:S4.inB 4 j.lv with
   | false =>
    rw[decide_eq_false (λe=>absurd e.2.2.1 (by decide)),if_pos b,if_neg (λe=>absurd e.2.1 (by decide)),if_neg (λe=>absurd e.2.2.1 (by decide)),if_neg (λe=>absurd e.2.2 (by decide))];exact WI w h b d f
   | true =>
    cases g:j.jr s j.pick with
    | false =>
     rw[decide_eq_true ⟨b,rfl,rfl,λe=>absurd e.1 (by decide)⟩,if_pos b,if_neg (λe=>absurd e.2.2 (by decide)),if_neg (λe=>absurd e.2.2.2 (by decide)),if_pos ⟨b,rfl,rfl⟩,if_neg (λe=>absurd e.1 (by decide))];exact Dx w h i b d f (.inl ⟨g,rfl,rfl,rfl,rfl⟩)
    | true =>
     by_cases c:(j.moved s j.pick).2=0
     .rw[decide_eq_true ⟨b,rfl,rfl,λe=>e.2 c⟩,if_pos b,if_pos ⟨rfl,rfl,rfl⟩,if_pos ⟨b,rfl,rfl,rfl⟩,if_pos ⟨b,rfl,rfl⟩,if_neg (λe=>e.2 c),c];exact Dx w h i b d f (.inr ⟨g,rfl,.inl ⟨c,rfl,rfl,rfl⟩⟩)
     .rw[decide_eq_false (λe=>e.2.2.2 ⟨rfl,c⟩),if_pos b,if_pos ⟨rfl,rfl,rfl⟩,if_pos ⟨b,rfl,rfl,rfl⟩,if_pos ⟨b,rfl,rfl⟩,if_pos ⟨rfl,c⟩];exact Dx w h i b d f (.inr ⟨g,rfl,.inr ⟨c,rfl,rfl,rfl⟩⟩)
 .rw[decide_eq_false (λe=>b e.1),if_neg b,if_neg (λe=>b e.1),if_neg (λe=>b e.1)];exact WH w h b
def NM{sp m cap x s a C}(l)(f:Int)(w)(h:bH w sp x s m)(E:Nums w a l)(I:s.good C l)(U:l≠[])(h5:l.length<=100) :
  κ prog 238 #[.pointer (S ⟨sp,6,O⟩),.slice a l.length cap,f] w λe w'=>e=.returned (erV (oK s l f))/\β w w w':=by
 have F:=ah (uO f w h);unfold oK
 cases A:s.file f with
 | none =>
  rw[A] at F;unfold jh at *
  simp only;rw[bC (by decide)];clear h E I A;generalize l.length=ln;go_enter func238,ntmps238;go_wp2_with fail;refine F.mono ?_;rintro e w' ⟨rfl,z⟩;have T:=z.symm;subst T;clear z;go_wp2;go_ret;exact⟨rfl,ja0 _ _⟩
 | some v =>
  rw[A] at F;unfold jh at *
  simp only;have a3:=I.iF U
  obtain⟨n,r,y⟩:∃ n r,l=n::r:=by
   cases l with
   | nil=>exact absurd rfl U
   | cons n r=>exact⟨n,r,rfl⟩
  obtain⟨u,G,a0⟩:=I n (by rw[y];exact jai);obtain⟨g,o,ha,P⟩:=E 0 (by rw[y];simp);subst ha;rw[y,jb0] at P;have N:w.cell? ⟨g,o,O⟩=S (n:υ):=P;have a4:χ (∀ W:ω,β w w W->κ prog 95 #[(x f.toNat).p] W λe w'=>e=.returned (.agg #[v.h.c,v.h.p,v.h.b])/\β W W w'):=λW q=>tH W ((h.below q).iM A).1
  have a2:χ (∀ W:ω,β w w W->κ prog 95 #[(x n.toNat).p] W λe w'=>e=.returned (.agg #[u.h.c,u.h.p,u.h.b])/\β W W w'):=λW q=>tH W ((h.below q).iM G).1
  have a1:χ (∀ W:ω,β w w W->κ prog 236 #[.slice (S ⟨g,o,O⟩) l.length cap,f] W λe w'=>e=.returned (.bool (l.contains f))/\w'=W):=λW q=>AL l f W (E.below q) rfl h5
  obtain⟨n0,n5,_⟩:=SV.eG G;obtain⟨d,rfl⟩:∃ d:Nat,n=(d:Int):=⟨n.toNat,by omega⟩;have R:((d:Int)).toNat=d:=by omega
  have X:χ (∀ W:ω,β w w W->W.cell? ⟨g,o,O⟩=S (.int .i64 (d:Int))/\W.cell? ⟨sp,6+d,O⟩=S ((x d).p:υ)):=λW q=>⟨(q.cell (p:=⟨g,o,O⟩) (ja2 _ _ N)).trans N,by have:=(h.below q).kU G;rw[R] at *;exact this⟩
  have a7:0<l.length:=by rw[y];simp
  have a6:(0:Int)<(l.length:Int):=by omega
  rw[R] at a2;rw[a3,<- a0];have f1:=vY u.h.c u.h.p u.h.b;clear h E I A G P N a3 a0 y U R;generalize (x f.toNat).p=xf at *
  generalize (x d).p=xn at *
  generalize l.contains f=K at *
  generalize l.length=ln at *
  generalize v.h.c=j at *
  generalize v.h.p=L at *
  generalize v.h.b=i at *
  generalize u.h.c=D at *
  generalize u.h.p=up at *
  generalize u.h.b=ub at *
  have k0:(0:Int)<=(d:Int):=by omega
  have k5:(d:Int)<5:=by omega
  have HV:χ (erV (if K=true\/i ≠ -1\/j≠D then 2 else 0)=if (K||(i != -1)||(j != D))=true then .iface 96 (.int .i64 2) else .nilIface):=by
   unfold χ;simp only[Bool.or_eq_true,bne_iff_ne,ne_eq,or_assoc];split<;>rfl
  generalize erV (if K=true\/i ≠ -1\/j≠D then 2 else 0)=V at *
  go_enter func238,ntmps238;go_wp2_with fail;refine F.mono ?_;rintro e w' ⟨rfl,z⟩;have T:=z.symm;subst T;clear z;go_wp2_with fail;refine(a4 _ (ja0 _ _)).mono ?_;rintro e k ⟨rfl,Z⟩;have B:χ (β w w (k.alloc (.cells #[j,L,i] 67))):=Z.alloc Z.size _;have b0:(k.alloc (.cells #[j,L,i] 67)).cell? ⟨k,0,O⟩=S (j:υ):=by rw[cell_of_row _ _ _ _ _ _ (heap_alloc_new k _)];rfl
  have b2:(k.alloc (.cells #[j,L,i] 67)).cell? ⟨k,2,O⟩=S (i:υ):=by rw[cell_of_row _ _ _ _ _ _ (heap_alloc_new k _)];rfl
  clear Z;go_wp2_with fail;generalize k.alloc (.cells #[j,L,i] 67)=Y at *
  generalize k.heap.size=t at *
  cases K;cases gb:(i != -1);cases gc:(j != D)
  iterate 2
   .obtain⟨s1,s2⟩:=X _ B.drew;have J:χ (β w w Y.drew):=B.drew;have t0:Y.drew.cell? ⟨t,0,O⟩=S (j:υ):=b0;have t2:Y.drew.cell? ⟨t,2,O⟩=S (i:υ):=b2
    go_region_held3 (λW=>W.cell? ⟨t,0,O⟩=S (j:υ)/\W.cell? ⟨t,2,O⟩=S (i:υ)/\W.cell? ⟨g,o,O⟩=S (.int .i64 (d:Int))/\W.cell? ⟨sp,6+d,O⟩=S (xn:υ))
     (first|(exact⟨t0,t2,s1,s2⟩)|assumption)
     (first
       | (go_at_call 236;refine(a1 _ J).mono ?_;rintro e w' ⟨rfl,rfl⟩)
       | (go_at_call 95;refine(a2 _ J).mono ?_;rintro e H ⟨rfl,M⟩;have Q:=ah (J.trans (M.mono J.size));have a5:H.cell? ⟨t,0,O⟩=S (j:υ)/\H.cell? ⟨t,2,O⟩=S (i:υ)/\H.cell? ⟨g,o,O⟩=S (.int .i64 (d:Int))/\H.cell? ⟨sp,6+d,O⟩=S (xn:υ):=⟨(M.cell (p:=⟨t,0,O⟩) (ja2 _ _ t0)).trans t0,(M.cell (p:=⟨t,2,O⟩) (ja2 _ _ t2)).trans t2,(X _ Q).1,(X _ Q).2⟩;clear M))
    clear a5;go_wp2;go_ret;exact⟨mg (by rw[HV.out];simp[*]),Q⟩
  all_goals
   go_quiet (first
    | (go_at_call 236;refine jb5 (a1 _ (below_drewN B _))))
   go_wp2;go_ret;exact⟨mg (by rw[HV.out];simp[*]),below_drewN B _⟩
def Nums.tail{w g o n r}(h:Nums w (S ⟨g,o,O⟩) (n::r)):Nums w (S ⟨g,o+1,O⟩) r:=λk a=>by
 obtain⟨f,d,b,c⟩:=h (k+1) (by simpa using a);cases b;refine⟨g,o+1,rfl,?_⟩;rw[show o+1+k=o+(k+1) by omega,c];rfl
def EN{sp m cap I s a C}(l d w)(h : bH w sp I s m)(v : Nums w a l)(H : s.good C l)(z : l ≠ [])(A : l.length <= 100)(y : l.length <= cap) :
    κ prog 192 #[.pointer (S ⟨sp, 6, O⟩), .slice a l.length cap, .agg #[d.root, .int .i64 d.kind, .int .i64 d.file, .int .i64 d.rate, .int .i64 d.burst]] w λe w' => e = .returned (erV (kP s l d)) /\ β w w w' := by
  have b : χ (β w w (w.alloc (.cells #[d.root, .int .i64 d.kind, .int .i64 d.file, .int .i64 d.rate, .int .i64 d.burst] 82))) := (ja0 _ _).alloc (ja1 _) _;have G : (w.alloc (.cells #[d.root, .int .i64 d.kind, .int .i64 d.file, .int .i64 d.rate, .int .i64 d.burst] 82)).cell? ⟨w.heap.size, 1, O⟩ = S (d.kind:υ) := by rw [cell_of_row _ _ _ _ _ _ (heap_alloc_new w _)]; rfl
  have J : (w.alloc (.cells #[d.root, .int .i64 d.kind, .int .i64 d.file, .int .i64 d.rate, .int .i64 d.burst] 82)).cell? ⟨w.heap.size, 2, O⟩ = S (d.file:υ) := by rw [cell_of_row _ _ _ _ _ _ (heap_alloc_new w _)]; rfl
  unfold kP;by_cases i : d.kind = 1
  . rw [if_pos i];have K : χ (∀ W : ω, β w w W -> κ prog 238 #[.pointer (S ⟨sp, 6, O⟩), .slice a l.length cap, .int .i64 d.file] W λe w' => e = .returned (erV (oK s l d.file)) /\ β W W w') := λW q => NM l d.file W (h.below q) (v.below q) H z A
    generalize oK s l d.file = P at *
    rw [i] at G b J |-;generalize l.length = ln at *
    go_enter func192, ntmps192;go_wp2_with fail;refine cBl (K _ b) b λR E => ?_
    go_wp2;go_ret;exact ⟨rfl, E⟩
  . rw [if_neg i];have g1 : (d.kind == 1) = false := by simpa using i
    by_cases t : d.kind = 2 \/ d.kind = 3
    . rw [if_pos t]
      obtain ⟨n, r, rfl⟩ : ∃ n r, l = n :: r := by
        cases l with
        | nil => exact absurd rfl z
        | cons n r => exact ⟨n, r, rfl⟩
      obtain ⟨g, o, F, _⟩ := v 0 (by simp);subst F
      have k : χ (∀ W : ω, β w w W -> κ prog 236 #[.slice (if cap = 1 then S ⟨g, o, O⟩ else S ⟨g, o + 1, O⟩) r.length (cap - 1), .int .i64 d.file] W λe w' => e = .returned (.bool (r.contains d.file)) /\ w' = W) := λW q => by
        by_cases B : r = []
        . subst B;exact Tryz.slices_Contains_int_empty _ _ _ W
        . have Q : 0 < r.length := List.length_pos_iff.2 B;have L : ¬ cap = 1 := by have : r.length + 1 <= cap := y; omega
          rw [if_neg L];exact AL r d.file W (v.below q).tail rfl (by have : r.length + 1 <= 100 := A; omega)
      rw [show (n :: r).drop 1 = r from rfl];have M : r.length + 1 <= cap := y;have D : (n :: r).length = r.length + 1 := rfl;rw [D];generalize r.contains d.file = c at *
      generalize r.length = ln at *
      have N : ln + 1 - 1 = ln := by omega
      by_cases f : d.kind = 2
      . have g2 : (d.kind == 2) = true := by simpa using f
        by_cases j : d.file = -1
        . have gf : (d.file == -1) = true := by simpa using j
          rw [if_pos (.inl ⟨f, j⟩), aJ];clear f j t i k;go_enter func192, ntmps192;go_wp2_with fail;go_quiet (fail)
          go_wp2;go_ret;exact ⟨rfl, below_drewN b _⟩
        . have gf : (d.file == -1) = false := by simpa using j
          have u : χ ((if d.kind = 2 /\ d.file = -1 \/ c = true then (0 : Int) else 4) = if c = true then 0 else 4) := by
            unfold χ;by_cases e : c = true
            . rw [if_pos (.inr e), if_pos e]
            . rw [if_neg (by rintro (x | x); exact j x.2; exact e x), if_neg e]
          rw [u.out];clear f j t i u
          cases c with
          | true =>
            rw [if_pos rfl, aJ];go_enter func192, ntmps192;go_wp2_with fail
            go_quiet (first
              | (go_at_call 236; refine jb5 (k _ (below_drewN b _))))
            all_goals
              go_wp2
              all_goals
                go_ret;exact ⟨rfl, below_drewN b _⟩
          | false =>
            rw [if_neg (by decide), bC (by decide)];go_enter func192, ntmps192;go_wp2_with fail
            go_quiet (first
              | (go_at_call 236; refine jb5 (k _ (below_drewN b _))))
            all_goals
              go_wp2
              all_goals
                go_ret;exact ⟨rfl, below_drewN b _⟩
      . have g2 : (d.kind == 2) = false := by simpa using f
        have g3 : (d.kind == 3) = true := by have : d.kind = 3 := by omega
                                             simpa using this
        have u : χ ((if d.kind = 2 /\ d.file = -1 \/ c = true then (0 : Int) else 4) = if c = true then 0 else 4) := by
          unfold χ;by_cases e : c = true
          . rw [if_pos (.inr e), if_pos e]
          . rw [if_neg (by rintro (x | x); exact f x.1; exact e x), if_neg e]
        rw [u.out]
        cases c with
        | true =>
          rw [if_pos rfl, aJ];go_enter func192, ntmps192;go_wp2_with fail
          go_quiet (first
            | (go_at_call 236; refine jb5 (k _ (below_drewN b _))))
          all_goals
            go_wp2
            all_goals
              go_ret;exact ⟨rfl, below_drewN b _⟩
        | false =>
          rw [if_neg (by decide), bC (by decide)];go_enter func192, ntmps192;go_wp2_with fail
          go_quiet (first
            | (go_at_call 236; refine jb5 (k _ (below_drewN b _))))
          all_goals
            go_wp2
            all_goals
              go_ret;exact ⟨rfl, below_drewN b _⟩
    . rw [if_neg t, eX];have g2 : (d.kind == 2) = false := by simp; omega
      have g3 : (d.kind == 3) = false := by simp; omega
      generalize l.length = ln;go_enter func192, ntmps192;go_wp2;go_ret;exact ⟨rfl, b⟩
