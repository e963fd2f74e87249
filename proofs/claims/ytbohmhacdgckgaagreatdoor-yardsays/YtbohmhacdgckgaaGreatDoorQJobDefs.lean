/- Next of a set: the least number from one on, going round. -/
import Derived.Test.YtbohmhacdgckgaaGreatDoorQBitsIter
import Derived.Lib.Slices
set_option linter.all false
set_option maxHeartbeats 2000000
set_option maxRecDepth 100000
namespace Go.Proofs.YtbohmhacdgckgaaGreatDoor
open Go.RowKit renaming Below->β
open Go renaming World->ω, Value->υ, Calls->κ
open Option renaming none->O, some->S
open Go.Proofs.Tryz Go.RowKit Go.Shelf
attribute [local go_sem ↓] Go.wp_at_zero Go.wp_at_succ
namespace S4
section
attribute [local go_sem] Oper.semAt_some
def zD{W b:ω}{row:Option Nat}{B D:Nat}{t:TypeId}{v:υ}(h:Boxed W B t v)(d:W.grownBy b row)(c:∀ r,row=S r->D<=r/\∃ o:Obj,W.heap[r]?=S o/\o.isCells=false):Boxed b B t v :=
 h.kept d (λe=>by
  obtain⟨_,o,a,f⟩:=c B e.symm
  rw[show W.heap[B]?=_ from h] at a;cases a;cases f)
def Tab.below{w W:ω}{n:Nat}(h:Tab w)(c:β n w W)(a:0<n):Tab W:=λj b=>(c.cell  a).trans (h j b)
def mZ(a:List Nat)(b:Int):Int:=match a.find? (λk:Nat=>decide (b<=(k:Int))) with
 | some k=>(k:Int)
 | none=>((a.headD 0:Nat):Int)
def nX(a:List Nat):Bool := !a.isEmpty
def AZ{b pre:List Nat}{y:Nat}{a:Int}(h:pre++[y] <+: b)(d:∀ z∈pre,(z:Int)<a)(c:a<=(y:Int)):mZ b a=(y:Int)/\nX b=true:=by
 obtain⟨r,rfl⟩:=h
 constructor
 .have:((pre++[y])++r).find? (λk:Nat=>decide (a<=(k:Int)))=S y:=by
   rw[jbC,List.find?_append];rw[List.find?_eq_none.2 (λz f=>by simp_all)]
   simp[c]
  unfold mZ;rw[this]
 .unfold nX;simp_all
def FU{a:List Nat}{b:Int}(c:∀ z∈a,(z:Int)<b):mZ a b=((a.headD 0:Nat):Int):=by
 unfold mZ;rw[List.find?_eq_none.2 (λz d=>by simp_all)]
def Ox(W:ω)(D:Nat)(o:Obj):Kept (λk=>k=D) W (W.putObj D o) :=
 ⟨rfl,rfl,rfl,by simp,λk _ a=>jbh a⟩
theorem xM{P:Program}{c:Func}{d:Array υ}{R:Ending->ω->Prop}{n:Nat}:∀(a:List Nat) (W:ω),(∀ D∈a,W.heap[D]?=S (.deferred (S [])))->a.Nodup ->
  (∀ b,Kept (λk=>k∈a) W b->LeavesInM Fence.wide n P c d R [] .returning b) ->
  LeavesInM Fence.wide n P c d R (a.map λD=>{target:=.collected D,args := #[]}) .returning W
 | [],W,_,_,hfin=>hfin W (Kept.refl _ W)
 | D::a,W,hall,hnd,hfin=>by
  refine⟨by simp,.inl ⟨D,_,rfl,run_takeDeferred (hall D (by simp)),?_⟩⟩
  rw[List.nodup_cons] at hnd;refine xM a _ (λf g=>?_) hnd.2 (λb h=>hfin b ?_)
  .have i:f≠D:=λe=>hnd.1 (by rw[<- e];exact g)
   rw[jbh i];exact hall f (by simp[g])
  .exact((Ox W D _).mono (λk _ e=>by simp[show k=D from e])).trans (h.mono (λk _ e=>jb2 _ e))
def FB{W a:ω}{B D:Nat}{row:Option Nat}(h:W.heap[D]?=S (.deferred (S [])))(d:D<B)(c:W.grownBy a row)(b:∀ r,row=S r->B<=r/\∃ o:Obj,W.heap[r]?=S o/\o.isCells=false):a.heap[D]?=S (.deferred (S [])) :=
 (c.block D (lt_of_some h) (λe=>by have:=(b D e.symm).1;omega)).trans h
def tY{W:ω}{D b o:Nat}{v:υ}(h:W.heap[D]?=S (.deferred (S [])))(a:D≠b):(W.setCell ⟨b,o,O⟩ v).heap[D]?=S (.deferred (S [])) :=
 (heap_setCell_other W _ D v a).trans h
structure NxI(w W:ω)(B:Nat)(f v:Int)(b:Bool):Prop where
 b0:Boxed W B 3 (.int .i64 f)
 b1:Boxed W (B+1) 3 (.int .i64 v)
 b2:Boxed W (B+1+1) 4 (.bool b)
 bel:β w w W
def NxI.own{w W d:ω}{B D:Nat}{f v:Int}{b:Bool}{row:Option Nat}(h:NxI w W B f v b)(g:w.heap.size<=D)(c:W.grownBy d row)(a:∀ r,row=S r->D<=r/\∃ o:Obj,W.heap[r]?=S o/\o.isCells=false):NxI w d B f v b :=
 ⟨zD h.b0 c a,zD h.b1 c a,zD h.b2 c a,h.bel.grown c h.bel.size (λk e=>ja4 g (a k e).1)⟩
theorem NxI.alloc{w W:ω}{B:Nat}{f v:Int}{b:Bool}(h:NxI w W B f v b)(o:Obj):NxI w (W.alloc o) B f v b:=⟨h.b0.alloc o,h.b1.alloc o,h.b2.alloc o,h.bel.alloc h.bel.size o⟩
def NxI.put{w W:ω}{B:Nat}{f v:Int}{b:Bool}(h:NxI w W B f v b)(d:w.heap.size<=B)(a:Int)(c:Bool):NxI w ((W.setCell ⟨B+1,0,O⟩ a).setCell ⟨B+1+1,0,O⟩ c) B f a c :=
 ⟨(h.b0.other (by omega) _).other (by omega) _,(h.b1.set _).other (by omega) _,(h.b2.other (by omega) _).set _,(h.bel.setCell  (show w.heap.size<=B+1 by omega) _).setCell  (show w.heap.size<=B+1+1 by omega) _⟩
def NxI.kept{w W d:ω}{B:Nat}{f v:Int}{b:Bool}{S:Nat->Prop}(h:NxI w W B f v b)(a:Kept S W d)(c:∀ k,S k->B+1+1<k/\w.heap.size<=k):NxI w d B f v b :=
 ⟨(a.block _ h.b0.lt (λs=>by have:=c _ s;omega)).trans h.b0,(a.block _ h.b1.lt (λs=>by have:=c _ s;omega)).trans h.b1,(a.block _ h.b2.lt (λs=>by have:=c _ s;omega)).trans h.b2,h.bel.trans (a.below h.bel.size (λk s=>(c k s).2))⟩
def A8{w W:ω}{f v c:Int}{b d:Bool}(a:Array υ)(t4:a.getD 4 undef=.pointer (S ⟨w.heap.size+1,0,O⟩))(m:a.getD 5 undef=.pointer (S ⟨w.heap.size+1+1,0,O⟩))(h:NxI w W w.heap.size f v b)(g:c=v)(i:d=b) :
  LeavesInM Fence.wide 9 prog f200 a (λe j=>e=.returned (.tuple #[c,d])/\β w w j) [] .returning W:=by
 subst g i;refine⟨.tuple _,?_,rfl,h.bel⟩;have k:a[4]?.getD undef=.pointer (S ⟨w.heap.size+1,0,O⟩):=by simpa using t4
 have l:a[5]?.getD undef=.pointer (S ⟨w.heap.size+1+1,0,O⟩):=by simpa using m
 simp[results,f200,go_sem,h.b1.cell,h.b2.cell,k,l]
def Cc{p n x:Nat}(H:List Nat)(a7:jd x H)(f:Int)(w:ω)(h:iq w p n x)(a6:jw n x)(hT:Tab w) :
    κ prog 200 #[p,f] w λe S=>e=.returned (.tuple #[mZ H f,.bool (nX H)])/\β w w S:=by
  have HS:=ah h;have HT:=ah hT;have hx:=a6.lt;have a1  := ja2 w _ (hT 0 (by decide))
  have HX:=ah a7;refine(callsIn_wide (n:=9)).1 ?_;refine callsIn_of_wp_marks func200 rfl trivial ?_ rfl;simp only[ntmps200,jaC,jax,jbs,Nat.reduceAdd,Nat.reduceSub,Array.replicate_succ,Array.replicate_zero,List.push_toArray,List.append_toArray,jaL,jbJ];have a0:(((w.alloc (.cells #[f] 3)).alloc (.cells #[(0:Int)] 3)).alloc (.cells #[false] 4)).heap.size=w.heap.size+3:=by simp
  have V:Hid (NxI w (((w.alloc (.cells #[f] 3)).alloc (.cells #[(0:Int)] 3)).alloc (.cells #[false] 4)) w.heap.size f 0 false):=by
    refine⟨((Boxed.new w _ _).alloc _).alloc _,?_,?_,(((ja0 _ w).alloc (ja1 _) _).alloc (by simp) _).alloc (by simp;omega) _⟩
    . have:=(Boxed.new (w.alloc (.cells #[f] 3)) 3 (.int .i64 0)).alloc (.cells #[false] 4)
      rw[jbK] at this;exact this
    . have:=Boxed.new ((w.alloc (.cells #[f] 3)).alloc (.cells #[(0:Int)] 3)) 4 (.bool false)
      rw[jbK,jbK] at this;exact this
  gi_wp2_with fail
  generalize ((w.alloc (.cells #[f] 3)).alloc (.cells #[(0:Int)] 3)).alloc (.cells #[false] 4)=v at a0 V |-;refine⟨trivial,(callsIn_wide.2 (He _ (HS.out.below V.out.bel))).mono ?_⟩;rintro e S ⟨rfl,N⟩;subst N;have T:=ah (V.out.alloc (.cells #[.int .u64 (x:Int)] 283));have u:Hid ((v.alloc (.cells #[.int .u64 (x:Int)] 283)).heap.size=w.heap.size+4):=by unfold Hid;simp;omega
  have R:(v.alloc (.cells #[.int .u64 (x:Int)] 283)).cell? ⟨v,0,none⟩=some (.int .u64 (x:Int)):=(Boxed.new v _ _).cell;rw[a0] at R
  gi_wp2_with fail
  generalize v.alloc (.cells #[.int .u64 (x:Int)] 283)=W4 at u T R |-
  refine wpIn_rangeFunc_ownG rfl (by omega) (gf:=267) (lb := #[(w.heap.size+3:Nat)]) rfl trivial (enters_of func267 (by kernel_rfl) rfl)
    (all_stops 8 (w.heap.size+3) x H HX.out hx W4 R (HT.out.below T.out.bel a1)) ET (λW l o Y _ h Q _=>ES W l o Y h Q) (ja0 _ _) (λ_=>rfl)
    (λpre W=>(∀ z∈pre,((z:Nat):Int)<f)/\NxI w W w.heap.size f 0 false)
    (λc pre W=>c=.ret/\∃(E:List Nat) (y:Nat),pre=E++[y]/\(∀ z∈E,((z:Nat):Int)<f)/\f<=(y:Int)/\NxI w W w.heap.size f y true)
    (λs A B row d g j=>⟨d.1,d.2.own (by have:=u.out;omega) g j⟩)
    (λc s A B row d g j=>by
      obtain⟨C,E,y,q,O,J,h5⟩:=d
      exact⟨C,E,y,q,O,J,h5.own (by have:=u.out;omega) g j⟩)
    ⟨λ_ h=>(by cases h),T.out⟩
    (λy=>{tmps := #[p,f,undef,w.heap.size,(w.heap.size+1:Nat),(w.heap.size+1+1:Nat),((y:Nat):Int),undef,p,.func (.func 267) #[] #[(w.heap.size+3:Nat)],((y:Nat):Int),undef,undef,undef,undef,undef,undef,undef,undef],defers:=[]}) ?assign ?body ?done ?stop
  case assign =>
    intro l y W K i
    gi_wp2
    exact i
  case body =>
    rintro l pre y W ⟨G,a⟩ _;have HN:=ah a;have c0:=a.b0.cell;have c1:=a.b1.cell;have c2:=a.b2.cell;have f1:=a.b1.frozen;have f2:=a.b2.frozen;by_cases hf:f<=(y:Int)
    . gi_wp2
      exact⟨((jba _ _ _).trans (jba _ _ _)).from _,rfl,pre,y,rfl,G,hf,HN.out.put (ja1 _) _ _⟩
    . gi_wp2
      exact⟨KeepsFrom.refl _ _,λt=>t,λz hz=>(List.mem_append.1 hz).elim (G z) (λe=>by rw[jaK] at e;subst e;omega),HN.out⟩
  case stop =>
    rintro D c pre W hD X ⟨rfl,E,y,rfl,C,q,a⟩ i;obtain⟨F,e2⟩:=AZ X C q
    gi_wp2
    refine xM [D] W (λD' h=>by rw[jaK] at h;subst h;exact i) (by simp) (λW' m=>A8 _ rfl rfl (a.kept m (λk h=>by rw[jaK] at h;have:=u.out;omega)) F e2)
  case done =>
    rintro D Z W hD a3 ⟨G,a⟩ i;subst a3;have HM:=ah (FU G);have P:=ah (a.alloc (.cells #[.int .u64 (x:Int)] 283));have a2:Hid ((W.alloc (.cells #[.int .u64 (x:Int)] 283)).heap[D]?=some (.deferred (some []))):=(jal W _ D (lt_of_some i)).trans i;have M:Hid ((W.alloc (.cells #[.int .u64 (x:Int)] 283)).cell? ⟨W,0,none⟩=some (.int .u64 (x:Int))):=(Boxed.new W _ _).cell;have b:Hid (w.heap.size+4<=D/\D<(W.alloc (.cells #[.int .u64 (x:Int)] 283)).heap.size):=⟨by have:=u.out;omega,by have:=lt_of_some i;simp;omega⟩
    gi_wp2_with fail
    refine⟨trivial,(callsIn_wide.2 (He W (HS.out.below a.bel))).mono ?_⟩;rintro e S ⟨rfl,N⟩;subst N
    gi_wp2_with fail
    generalize W.alloc _=W5 at P a2 M b |-;generalize W.heap.size=B5 at M |-
    refine wpIn_rangeFunc_ownG rfl (by omega) (gf:=267)  rfl trivial (enters_of func267 (by kernel_rfl) rfl)
      (all_stops 8 B5 x Z HX.out hx W5 M.out (HT.out.below P.out.bel a1)) ET (λW l o Y _ h Q _=>ES W l o Y h Q) (ja0 _ _) (λ_=>rfl)
      (λpre W=>pre=[]/\W.heap[D]?=some _/\NxI w W w.heap.size f 0 false)
      (λc pre W=>c=.ret/\W.heap[D]?=some _/\∃(y:Nat),pre=[y]/\NxI w W w.heap.size f y true)
      (λs A B row d g j=>⟨d.1,FB d.2.1 b.out.2 g j,d.2.2.own (by have:=b.out;omega) g j⟩)
      (λc s A B row d g j=>by
        obtain⟨C,q,y,O,J⟩:=d
        exact⟨C,FB q b.out.2 g j,y,O,J.own (by have:=b.out;omega) g j⟩)
      ⟨rfl,a2.out,P.out⟩
      (λy=>{tmps := #[p,f,undef,w.heap.size,(w.heap.size+1:Nat),(w.heap.size+1+1:Nat),undef,((y:Nat):Int),p,.func (.func 267) #[] #[(w.heap.size+3:Nat)],undef,undef,undef,undef,undef,p,.func (.func 267) #[] #[B5],((y:Nat):Int),undef],defers:=[]}) ?assign2 ?body2 ?done2 ?stop2
    case assign2 =>
      intro l y W K i
      gi_wp2
      exact i
    case body2 =>
      rintro l pre y W ⟨rfl,m,a⟩ _;have c1:=a.b1.cell;have c2:=a.b2.cell;have f1:=a.b1.frozen;have f2:=a.b2.frozen
      gi_wp2
      exact⟨((jba _ _ _).trans (jba _ _ _)).from _,rfl,tY (tY m (by have:=b.out;omega)) (by have:=b.out;omega),y,rfl,a.put (ja1 _) _ _⟩
    case stop2 =>
      rintro L c pre W a4 X ⟨rfl,m,y,rfl,a⟩ U
      have F:Z.headD 0=y/\nX Z=true:=by
        obtain⟨r,rfl⟩:=X;exact⟨rfl,rfl⟩
      gi_wp2
      refine xM [L,D] W (λD' h=>by
        simp at h
        rcases h with rfl|rfl
        . exact U
        . exact m) (by have:=b.out;simp;omega) (λW' I=>A8 _ rfl rfl (a.kept I (λk h=>by simp at h;have:=b.out;omega)) (HM.out.trans (by rw[F.1])) F.2)
    case done2 =>
      rintro L zs W a4 a5 ⟨h0,m,a⟩ U;subst a5;subst h0;have c1:=a.b1.cell;have c2:=a.b2.cell;have f1:=a.b1.frozen;have f2:=a.b2.frozen
      gi_wp2
      refine xM [L,D] _ (λD' h=>by
        simp at h
        rcases h with rfl|rfl
        . exact tY (tY U (by have:=b.out;omega)) (by have:=b.out;omega)
        . exact tY (tY m (by have:=b.out;omega)) (by have:=b.out;omega)) (by have:=b.out;simp;omega) (λW' I=>A8 _ rfl rfl ((a.put (ja1 _) 0 false).kept I (λk h=>by simp at h;have:=b.out;omega)) HM.out rfl)
end
end S4
namespace S4
def AQ{n:Nat}{i:Int}(a:gG n i=true):∃ k:Nat,i=k/\k<n:=by
 unfold gG at a;simp at a
 exact⟨i.toNat,by omega,by omega⟩
def O0{n k:Nat}(h:k<n):gG n (k:Int)=true:=by unfold gG;simp;omega
def Ee(x a b:Nat)(h:a<=b):gX x a <+: gX x b:=by
 induction b with
 | zero =>
  simp_all
 | succ b c =>
  by_cases e:a=b+1
  .simp_all
  .exact(c (by omega)).trans (List.prefix_append _ _)
def Ph{x k:Nat}{a:List Nat}{f:Int}(h:jd x a)(i:k<64)(d:x.testBit k=true)(c:f<=(k:Int))(m:∀ j:Nat,f<=(j:Int)->j<k->x.testBit j=false):mZ a f=(k:Int)/\nX a=true:=by
 have b:gX x k++[k] <+: a:=by
  rw[h.eq];have:=Ee x (k+1) 64 (by omega)
  have e:gX x (k+1)=gX x k++[k]:=by show gX x k++_=_;rw[d];rfl
  rw[e] at this;exact this
 refine AZ b (λz g=>?_) c
 obtain⟨n,l⟩:=(uO x k z).1 g;by_cases q:f<=(z:Int)
 .simp_all
 .omega
def Pm{x:Nat}{a:List Nat}{f:Int}(h:jd x a)(b:f<0\/∀ j:Nat,f<=(j:Int)->j<64->x.testBit j=false):mZ a f=((a.headD 0:Nat):Int):=by
 rcases b with b|b
 .cases a with
  | nil=>rfl
  | cons y d =>
   have:f<=(y:Int):=by omega
   exact(AZ (pre:=[]) ⟨d,rfl⟩ (λ_ h=>by cases h) this).1
 .refine FU (λz c=>?_)
  rw[h.eq] at c;obtain⟨i,g⟩:=(uO x 64 z).1 c;by_cases q:f<=(z:Int)
  .simp_all
  .omega
def NH{x k:Nat}{a:List Nat}(h:jd x a)(d:k<64)(m:x.testBit k=true)(i:∀ j:Nat,j<k->x.testBit j=false):a.headD 0=k/\nX a=true:=by
 have c:gX x k=[]:=by
  cases q:gX x k with
  | nil=>rfl
  | cons y g =>
   obtain⟨l,f⟩:=(uO x k y).1 (by rw[q];simp)
   simp_all
 have:=Ee x (k+1) 64 (by omega)
 have e:gX x (k+1)=[k]:=by show gX x k++_=_;simp_all
 rw[e] at this;obtain⟨r,b⟩:=this;have  := h.eq.trans b.symm;rw[this];exact⟨rfl,rfl⟩
def Pq{x:Nat}{a:List Nat}(h:jd x a)(d:∀ j:Nat,j<64->x.testBit j=false):a=[]:=by
 cases q:a with
 | nil=>rfl
 | cons y c =>
  obtain⟨f,b⟩:=(uO x 64 y).1 (by show y∈elems x;rw[<- h.eq,q];simp)
  simp_all
end S4
namespace S4
def Three(t:TypeId)(w:ω)(p:Nat)(r b l:Int):Prop:=w.heap[p]?=S (.cells #[r,b,l] t (0,0))
def Three.cells{t:TypeId}{w:ω}{p:Nat}{r b l:Int}(h:Three t w p r b l) :
  w.cell? ⟨p,0,O⟩=S (r:υ)/\w.cell? ⟨p,1,O⟩=S (b:υ)/\w.cell? ⟨p,2,O⟩=S (l:υ)/\w.frozen? ⟨p,2,O⟩=false:=by
 have a:w.heap[p]?=_:=h;refine⟨?_,?_,?_,?_⟩<;>simp[World.cell?,World.frozen?,a]
def Three.set{t:TypeId}{w:ω}{p:Nat}{r b l:Int}(h:Three t w p r b l)(a:Int):Three t (w.setCell ⟨p,2,O⟩ a) p r b a:=by
 unfold Three;rw[heap_setCell_same w p 2 _ _ _ h];rfl
def Three.below{t:TypeId}{w a:ω}{p:Nat}{r b l:Int}(h:Three t w p r b l)(c:β w w a):Three t a p r b l :=
 (c.block p (lt_of_some h)).trans h
def Pg(w:ω)(o:Obj):(w.alloc o).heap[w.heap.size]?=S o:=by
 show(w.heap.push o)[w.heap.size]?=S o
 simp
def inB(n a:Int):Bool:=decide (0<=n/\n<=a)
def lI(n a:Int)(w:ω):κ prog 237 #[n,a] w λe d=>e=.returned (.bool (inB n a))/\d=w:=by
 by_cases c:0<=n
 .have b:Hid (decide (n<=a)=inB n a):=by unfold Hid inB;simp[c]
  go_enter func237,ntmps237
  go_wp2
  go_ret
  exact⟨ng b.out,rfl⟩
 .have b:Hid (false=inB n a):=by unfold Hid inB;simp[c]
  go_enter func237,ntmps237
  go_wp2
  go_ret
  exact⟨ng b.out,rfl⟩
def Ko(r b:Int)(w:ω)(h:(inB r 1000&&inB b 1000)=false) :
  κ prog 191 #[r,b] w λe d=>e=.returned (.tuple #[.pointer O,.iface 96 (.int .i64 1)])/\d=w:=by
 have a:=lI r 1000 w;have f:=lI b 1000 w
 cases c:inB r 1000 with
 | false =>
  rw[c] at a;go_enter func191,ntmps191
  go_wp2_with fail
  refine cSt a ?_;go_wp2
  go_ret2
  exact⟨rfl,rfl⟩
 | true =>
  have j:inB b 1000=false:=by simpa [c] using h
  rw[c] at a;rw[j] at f;go_enter func191,ntmps191
  go_wp2_with fail
  refine cEq a λd g=>?_
  have i:=g.symm;subst i;go_wp2_with fail
  refine cSt f ?_;go_wp2
  go_ret2
  exact⟨rfl,rfl⟩
def Dk(r b:Int)(w:ω)(h:inB r 1000=true)(i:inB b 1000=true) :
  κ prog 191 #[r,b] w λe a=>e=.returned (.tuple #[w.heap.size,.nilIface])/\Three 280 a w.heap.size r b b/\β w w a:=by
 have d:=lI r 1000 w;have c:=lI b 1000 w;rw[h] at d;rw[i] at c;go_enter func191,ntmps191
 go_wp2_with fail
 refine cEq d λa f=>?_
 have g:=f.symm;subst g;go_wp2_with fail
 refine cSt c ?_;go_wp2
 go_ret2
 exact⟨rfl,Pg w _,(ja0 _ w).alloc (ja1 _) _⟩
def U2{p:Nat}(n:Int)(w:ω)(h:inB n 100000=false) :
  κ prog 199 #[p,n] w λe a=>e=.returned (.iface 96 (.int .i64 1))/\a=w:=by
 go_enter func199,ntmps199
 go_wp2_with fail
 refine cSt (lI n 100000 w) ?_;go_wp2
 go_ret
 simp_all
def fQ(r b l n:Int):Int:=if b<l+n*r then b else l+n*r
theorem Three.drew{t:TypeId}{w:ω}{p:Nat}{r b l:Int}(h:Three t w p r b l):Three t w.drew p r b l:=h
def U3{p:Nat}{r b l:Int}(n:Int)(w:ω)(h:Three 280 w p r b l)(f:inB n 100000=true)(a:0<=r/\r<=1000)(m:0<=l/\l<=1000) :
  κ prog 199 #[p,n] w λe i=>e=.returned .nilIface/\Three 280 i p r b (fQ r b l n)/\Kept (λk=>k=p) w i:=by
 have d:Hid (Three 280 w p r b l):=h;obtain⟨s,c1,c2,o⟩:=h.cells;have g:=lI n 100000 w;rw[f] at g;have c:0<=n/\n<=100000:=by unfold inB at f;simpa using f
 have q:IntKind.i64.wrap (n*r)=n*r:=by
  have  := Int.mul_nonneg c.1 a.1;have  := Int.mul_le_mul c.2 a.2 a.1 (by omega)
  exact ja8 _ (by omega)
 have t:IntKind.i64.wrap (l+n*r)=l+n*r:=by
  have  := Int.mul_nonneg c.1 a.1;have  := Int.mul_le_mul c.2 a.2 a.1 (by omega)
  exact ja8 _ (by omega)
 by_cases j:b<l+n*r
 .have HV:Hid (fQ r b l n=b):=by unfold Hid fQ;rw[if_pos j]
  go_enter func199,ntmps199
  go_wp2_with fail
  refine cSt g ?_;go_wp2_with fail
  go_region
  go_wp2
  go_ret
  exact⟨rfl,by rw[HV.out];first|exact(d.out.set _).drew|(rw[show min (l+n*r) b=b by omega];exact(d.out.set _).drew),(Kept.setCell (S:=λk=>k=p) (Kept.refl _ w) (p:=⟨p,2,O⟩) (.inl rfl) _).drew⟩
 .have HV:Hid (fQ r b l n=l+n*r):=by unfold Hid fQ;rw[if_neg j]
  go_enter func199,ntmps199
  go_wp2_with fail
  refine cSt g ?_;go_wp2_with fail
  go_region
  go_wp2
  go_ret
  exact⟨rfl,by rw[HV.out];first|exact(d.out.set _).drew|(rw[show min (l+n*r) b=l+n*r by omega];exact(d.out.set _).drew),(Kept.setCell (S:=λk=>k=p) (Kept.refl _ w)  (.inl rfl) _).drew⟩
def jq(l n:Int):Int:=if inB n l then l-n else l
def Dl{p:Nat}{r b l:Int}(n:Int)(w:ω)(h:Three 280 w p r b l)(i:0<=l/\l<=1000) :
  κ prog 201 #[p,n] w λe d=>e=.returned (.bool (inB n l))/\Three 280 d p r b (jq l n)/\Kept (λk=>k=p) w d:=by
 have f:Hid (Three 280 w p r b l):=h;obtain⟨m,c1,c2,j⟩:=h.cells;have c:=lI n l w
 cases a:inB n l with
 | false =>
  rw[a] at c;have HV:Hid (jq l n=l):=by unfold Hid jq;simp[a]
  go_enter func201,ntmps201
  go_wp2_with fail
  refine cSt c ?_;go_wp2
  go_ret
  exact⟨rfl,by rw[HV.out];exact f.out,Kept.refl _ w⟩
 | true =>
  rw[a] at c;have g:0<=n/\n<=l:=by unfold inB at a;simpa using a
  have HV:Hid (jq l n=l-n):=by unfold Hid jq;simp[a]
  have o:IntKind.i64.wrap (l-n)=l-n:=ja8 _ (by omega)
  go_enter func201,ntmps201
  go_wp2_with fail
  refine cSt c ?_;go_wp2
  go_ret
  exact⟨rfl,by rw[HV.out];exact f.out.set _,Kept.setCell (S:=λk=>k=p) (Kept.refl _ w)  (.inl rfl) _⟩
end S4
namespace S4
def U0{r b l n:Int}{k:Nat}(c:0<=r)(a:(k:Int)<=n)(h:(k:Int)=n\/b<=fQ r b l k\/r<=0):fQ r b l k=fQ r b l n:=by
 rcases h with h|h|h
 .rw[h]
 .have d  := Int.mul_le_mul_of_nonneg_right a c
  unfold fQ at h |-;omega
 .have:r=0:=by omega
  subst this;unfold fQ;simp
def U1{r b l:Int}{k:Nat}(h:fQ r b l k<b):(if fQ r b l k+r<b then fQ r b l k+r else b)=fQ r b l ((k:Int)+1):=by
 have e:((k:Int)+1)*r=(k:Int)*r+r:=by rw[Int.add_mul,Int.one_mul]
 unfold fQ at h |-;omega
def CB{r b l n:Int}(a:0<=r)(d:0<=l)(g:0<=b)(c:0<=n):0<=fQ r b l n/\fQ r b l n<=b:=by
 have f  := Int.mul_nonneg c a;unfold fQ;omega
end S4
structure JV where
 rt:Int
 kind:Int
 file:Int
 rate:Int
 burst:Int
 l:List Int
 deep:Nat
 n:Nat
 x:Nat
 last:Int
 stage:Int
 lv:Int
def JV.above(j:JV):List Int:=j.l.take j.deep
def JV.iL(j:JV)(s:SV)(c:Int):Bool:=if j.kind=1 then true else if j.kind=2 then decide (0<s.found j.above c) else decide (0<=s.found j.above c)
def JV.state(j:JV):Int:=if j.stage=1/\S4.cnt j.x 64=0 then 3 else j.stage
def JV.into(j:JV):Int:=if j.kind=2 then j.l.headD 0 else j.file
def JV.some(j:JV):Bool:=S4.nX (S4.elems j.x)
def JV.pick(j:JV):Int:=S4.mZ (S4.elems j.x) (j.last+1)
def JV.took(j:JV):JV:={j with lv:=j.lv-4}
def JV.went(j:JV)(c:Int):JV:={j with x:=S4.eY j.n j.x c false,last:=c,lv:=j.lv-4}
def JV.put(j:JV)(x:Nat):JV:={j with x:=x}
def JV.at(j:JV)(st:Int):JV:={j with stage:=st}
def JV.fell(j:JV):JV:={j with stage:=5,lv:=j.lv-4}
def JV.moved(j:JV)(s:SV)(c:Int):SV × Int:=s.move j.into c (s.read j.l c).1
def stepS(s:SV)(j:JV):SV:=if j.stage=1/\j.some=true/\S4.inB 4 j.lv=true/\j.iL s j.pick=true then (j.moved s j.pick).1 else s
def stepJ(s:SV)(j:JV):JV:=if j.stage=1/\j.some=true/\S4.inB 4 j.lv=true then (if j.iL s j.pick=true/\(j.moved s j.pick).2≠0 then j.fell else j.went j.pick) else j
def fE(s:SV)(j:JV):Bool:=decide (j.stage=1/\j.some=true/\S4.inB 4 j.lv=true/\¬(j.iL s j.pick=true/\(j.moved s j.pick).2≠0))
def bW(s:SV)(j:JV):Int:=if j.stage=1 then (if j.some=true/\S4.inB 4 j.lv=true/\j.iL s j.pick=true then (j.moved s j.pick).2 else 0) else 9
def SV.fU(s:SV)(n:Int):SV:=match s.file n with
 | none=>s
 | some v=>s.upd n.toNat v.flush
def SV.gK(s:SV)(l:List Int):SV:=l.foldl SV.fU s
def SV.Ae(s:SV)(l:List Int)(n:Int):s.gK (l++[n])=(s.gK l).fU n:=by
 unfold SV.gK;simp_all
def dL(s:SV)(n back:Int):SV × Int:=match s.file n with
 | none=>(s,4)
 | some v=>(s.upd n.toNat (v.link back),v.iV back)
def dU(s:SV)(j:JV):SV:=if j.state=3 then (if j.kind=2 then (dL s (j.l.headD 0) j.file).1 else s.gK (s.walk j.file).1) else s
def dh(s:SV)(j:JV):Int:=if j.state=3 then (if j.kind=2 then (dL s (j.l.headD 0) j.file).2 else (s.walk j.file).2) else 9
def eG(s:SV)(j:JV):JV:=if j.state=3/\j.kind=2/\(dL s (j.l.headD 0) j.file).2≠0 then j.at 5 else j
def l9(j:JV)(a:Bool):JV:=if a=true then (if j.stage=1 then j.at 2 else j) else (if j.stage=2 then j.at 1 else j)
def iH(j:JV)(a:Bool):Int:=if a=true then (if j.stage=1 then 0 else 9) else (if j.stage=2 then 0 else 9)
def dW(j:JV)(c:Int):JV:=if j.kind=2\/4<=j.stage then j else j.put (S4.eY j.n j.x c true)
def jQ(j:JV)(n:Int):JV:=if S4.inB n 100000=true then {j with lv:=S4.fQ j.rate j.burst j.lv n} else j
def lD(j:JV)(a:Bool):JV:=j.at (if a=true then 4 else 5)
structure JOk(s:SV)(C:Nat)(j:JV):Prop where
 good:s.good (C:Int) j.l
 ne:j.l≠[]
 len:j.l.length<=5
 n:j.n=C
 c40:C<=40
 set:S4.jw j.n j.x
 kind:j.kind=1\/j.kind=2\/j.kind=3
 file:j.kind≠2->∃ v,s.file j.file=S v
 deep:j.deep<=j.l.length
 idx:j.kind≠1->(Lib.idxOf j.l j.file=(j.deep:Int)/\j.deep<j.l.length)\/(Lib.idxOf j.l j.file = -1/\j.deep=j.l.length)
 stage:j.stage=1\/j.stage=2\/j.stage=4\/j.stage=5
 last : -1<=j.last/\j.last<64
 rate:0<=j.rate/\j.rate<=1000
 lv:0<=j.lv/\j.lv<=j.burst/\j.burst<=1000
def Pj{x:Nat}{f:Int}(h:S4.nX (S4.elems x)=true):∃ k:Nat,S4.mZ (S4.elems x) f=(k:Int)/\k∈S4.elems x:=by
 unfold S4.mZ;split
 .next k a=>exact⟨k,rfl,List.mem_of_find?_eq_some a⟩
 .cases b:S4.elems x with
  | nil=>rw[b] at h;cases h
  | cons y r=>exact⟨y,rfl,jag⟩
theorem JOk.pick{s:SV}{C:Nat}{j:JV}(h:JOk s C j)(c:j.some=true):∃ k:Nat,j.pick=(k:Int)/\k<C/\k<64:=by
 obtain⟨k,d,b⟩:=Pj  c;obtain⟨f,a⟩:=(S4.uO j.x 64 k).1 b;refine⟨k,d,?_,f⟩;have i:=h.n;by_cases g:k<j.n
 .omega
 .rw[h.set.hi k (by omega)] at a;cases a
def JOk.root{s:SV}{C:Nat}{j:JV}(h:JOk s C j):∃(n:Int) (r:List Int) (v:IV),j.l=n::r/\s.file n=S v/\v.h.c=C:=by
 cases a:j.l with
 | nil=>exact absurd a h.ne
 | cons n r =>
  obtain⟨v,d,b⟩:=h.good n (by simp_all)
  simp_all
theorem JOk.into{s:SV}{C:Nat}{j:JV}(h:JOk s C j):∃ v,s.file j.into=S v:=by
 unfold JV.into;by_cases a:j.kind=2
 .obtain⟨n,r,v,c,b,_⟩:=h.root
  simp_all
 .rw[if_neg a];exact h.file a
theorem JOk.read{s:SV}{C m:Nat}{j:JV}(h:JOk s C j)(a:s.ok m){k:Nat}(b:k<C):(s.read j.l (k:Int)).2=0/\(s.read j.l (k:Int)).1.size=64 :=
 SV.kS h.good a h.ne ⟨by omega,by omega⟩
structure SV.alike(s z:SV):Prop where
 head:∀ n v,s.file n=S v->∃ u,z.file n=S u/\u.h.c=v.h.c
def SV.alike.refl(s:SV):s.alike s:=⟨λ_ v h=>⟨v,h,rfl⟩⟩
def SV.alike.trans{a b c:SV}(h:a.alike b)(k:b.alike c):a.alike c:=⟨λn v d=>by
 obtain⟨u,f,g⟩:=h.head n v d;obtain⟨t,j,i⟩:=k.head n u f
 simp_all⟩
theorem SV.alike.upd{s:SV}{n:Int}{v u:IV}(a:s.file n=S v)(d:u.h.c=v.h.c):s.alike (s.upd n.toNat u):=⟨λk t b=>by
 rw[SV.Ac a];by_cases e:k=n
 .simp_all
 .simp_all⟩
def IV.OG(v:IV)(b:Int):(v.link b).h.c=v.h.c:=by
 unfold IV.link;split
 .unfold IV.jZ
  split<;>rfl
 .rfl
theorem SV.alike.move(s:SV)(n c:Int)(t:ByteArray):s.alike (s.move n c t).1:=by
 unfold SV.move;split
 .exact .refl s
 .next v a =>
  split
  .exact .upd a (by rw[IV.wO])
  .split
   .exact .upd a (by rw[IV.zo])
   .exact .upd a (by rw[IV.xq])
def SV.alike.link(s:SV)(n b:Int):s.alike (dL s n b).1:=by
 unfold dL;split
 .exact .refl s
 .next v a=>exact .upd a (IV.OG v b)
theorem SV.alike.fU(s:SV)(n:Int):s.alike (s.fU n):=by
 unfold SV.fU;split
 .exact .refl s
 .next v a=>exact .upd a rfl
theorem SV.alike.gK(l:List Int):∀ s:SV,s.alike (s.gK l):=by
 induction l with
 | nil=>intro s;exact .refl s
 | cons n r a=>intro s;exact(SV.alike.fU s n).trans (a _)
def JOk.over{s z:SV}{C:Nat}{j:JV}(h:JOk s C j)(b:s.alike z):JOk z C j :=
 {h with
  good:=λn f=>by
   obtain⟨v,a,g⟩:=h.good n f;obtain⟨u,d,i⟩:=b.head n v a
   simp_all
  file:=λc=>by
   obtain⟨v,a⟩:=h.file c;obtain⟨u,d,_⟩:=b.head _ v a
   simp_all}
theorem JOk.at{s:SV}{C:Nat}{j:JV}(h:JOk s C j){st:Int}(a:st=1\/st=2\/st=4\/st=5):JOk s C (j.at st):={h with stage:=a}
theorem JOk.put{s:SV}{C:Nat}{j:JV}(h:JOk s C j)(c:Int)(b:Bool):JOk s C (j.put (S4.eY j.n j.x c b)):={h with set:=S4.yg h.set c b}
theorem JOk.went{s:SV}{C:Nat}{j:JV}(h:JOk s C j)(a:S4.inB 4 j.lv=true){k:Nat}(b:k<64):JOk s C (j.went (k:Int)):=by
 have c:4<=j.lv:=by unfold S4.inB at a;simp_all
 exact {h with set:=S4.yg h.set _ _,last:=⟨by show -1<=(k:Int);omega,by show(k:Int)<64;omega⟩,lv:=⟨by show 0<=j.lv-4;omega,by show j.lv-4<=j.burst;have:=h.lv;omega,h.lv.2.2⟩}
theorem JOk.fell{s:SV}{C:Nat}{j:JV}(h:JOk s C j)(a:S4.inB 4 j.lv=true):JOk s C j.fell:=by
 have b:4<=j.lv:=by unfold S4.inB at a;simp_all
 exact {h with stage:=.inr (.inr (.inr rfl)),lv:=⟨by show 0<=j.lv-4;omega,by show j.lv-4<=j.burst;have:=h.lv;omega,h.lv.2.2⟩}
def JOk.step{s:SV}{C:Nat}{j:JV}(h:JOk s C j):JOk (stepS s j) C (stepJ s j):=by
 have c:s.alike (stepS s j):=by
  unfold stepS;split
  .exact .move s _ _ _
  .exact .refl s
 have b:JOk s C (stepJ s j):=by
  unfold stepJ;split
  .next a =>
   obtain⟨k,d,_,f⟩:=h.pick a.2.1;split
   .exact h.fell a.2.2
   .rw[d];exact h.went a.2.2 f
  .exact h
 exact b.over c
def JOk.settle{s:SV}{C:Nat}{j:JV}(h:JOk s C j):JOk (dU s j) C (eG s j):=by
 have b:s.alike (dU s j):=by
  unfold dU;split
  .split
   .exact .link s _ _
   .exact .gK _ s
  .exact .refl s
 have a:JOk s C (eG s j):=by
  unfold eG;split
  .exact h.at (.inr (.inr (.inr rfl)))
  .exact h
 exact a.over b
def JOk.pause{s:SV}{C:Nat}{j:JV}(h:JOk s C j)(a:Bool):JOk s C (l9 j a):=by
 unfold l9;split
 .split
  .exact h.at (.inr (.inl rfl))
  .exact h
 .split
  .exact h.at (.inl rfl)
  .exact h
def JOk.dirty{s:SV}{C:Nat}{j:JV}(h:JOk s C j)(c:Int):JOk s C (dW j c):=by
 unfold dW;split
 .exact h
 .exact h.put c true
def JOk.tick{s:SV}{C:Nat}{j:JV}(h:JOk s C j)(n:Int):JOk s C (jQ j n):=by
 unfold jQ;split
 .next a =>
  have c:0<=n:=by unfold S4.inB at a;simp_all
  have:=S4.CB  (b:=j.burst)   h.rate.1 h.lv.1 (by have:=h.lv;omega) c
  exact {h with lv:=⟨this.1,this.2,h.lv.2.2⟩}
 .exact h
def Linked(s:SV):Int->List Int->Prop
 | n,[]=>n = -1
 | n,k::r=>n=k/\n ≠ -1/\∃ v,s.file n=S v/\Linked s v.h.b r
def Linked.only{s:SV}:∀(a b:List Int) (n:Int),Linked s n a->Linked s n b->a=b:=by
 intro a
 induction a with
 | nil =>
  intro b n d c
  cases b with
  | nil=>rfl
  | cons k r=>exact absurd d c.2.1
 | cons k r l =>
  intro b n d c
  cases b with
  | nil=>exact absurd c d.2.1
  | cons t g =>
   obtain⟨o,_,v,h,i⟩:=d;obtain⟨m,_,q,f,j⟩:=c;rw[h] at f;cases f
   rw[<- o,<- m,l g _ i j]
def Linked.part{s:SV}:∀(p q:List Int) (k n:Int),Linked s n (p++k::q)->Linked s k (k::q):=by
 intro p
 induction p with
 | nil=>intro q k n h;have:=h.1;simp_all
 | cons a r b=>intro q k n h;obtain⟨_,_,v,_,c⟩:=h;exact b q k _ c
def Linked.nodup{s:SV}:∀(a:List Int) (n:Int),Linked s n a->a.Nodup:=by
 intro a
 induction a with
 | nil=>simp_all
 | cons k r g =>
  intro n h;have b:=h;obtain⟨j,_,v,m,l⟩:=h;refine List.nodup_cons.2 ⟨λf=>?_,g _ l⟩
  obtain⟨p,q,c⟩:=jbz f;have i:=Linked.part (k::p) q k n (by rw[c] at b;exact b)
  rw[j] at b;have d:=Linked.only _ _ _ b i;rw[c] at d;have:=congrArg List.length d
  simp at this
  omega
def SV.Vk{s:SV}{f:Int}:∀(k:Nat) (l:List Int) (n:Int),(s.iK f k l n).2=0->∃ r,(s.iK f k l n).1=l++r/\Linked s n r:=by
 intro k
 induction k with
 | zero=>intro l n h;exact absurd h (by show ¬(10:Int)=0;decide)
 | succ k i =>
  intro l n h;by_cases a:n = -1
  .subst a;rw[SV.vT];exact⟨[],by simp,rfl⟩
  .cases b:s.file n with
   | none=>rw[SV.vV a b] at h;omega
   | some v =>
    by_cases d:l.length=5
    .rw[SV.vU a b d] at h;omega
    .by_cases g:v.h.c=f
     .rw[SV.uD a b d g] at h |-
      obtain⟨r,m,j⟩:=i _ _ h;exact⟨n::r,by simp_all,rfl,a,v,b,j⟩
     .rw[SV.walk_other a b d g] at h;omega
def SV.qR{s:SV}{root:Int}(h:(s.walk root).2=0):Linked s root (s.walk root).1:=by
 obtain⟨r,a,b⟩:=SV.Vk 6 [] root h;have:(s.walk root).1=r:=a
 simp_all
def SV.IU{s:SV}{root:Int}(h:(s.walk root).2=0)(c:(s.walk root).1≠[]):∃ r,(s.walk root).1=root::r:=by
 have a:=SV.qR h
 cases b:(s.walk root).1 with
 | nil=>simp_all
 | cons k r=>rw[b] at a;exact⟨r,by rw[a.1]⟩
