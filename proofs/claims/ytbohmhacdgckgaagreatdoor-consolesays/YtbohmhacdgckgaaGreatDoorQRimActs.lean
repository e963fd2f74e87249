/- A part. -/
import Derived.Test.YtbohmhacdgckgaaGreatDoorQImgOpen
set_option linter.all false
set_option maxHeartbeats 1000000
set_option maxRecDepth 100000
namespace Go.Proofs.YtbohmhacdgckgaaGreatDoor
open Go.RowKit renaming Below->β, Hid->χ
open Go renaming World->ω, Value->υ, Calls->κ
open Option renaming none->O, some->S
open Go.RowKit Go.Maps
attribute [local go_sem ↓] Go.wp_at_zero Go.wp_at_succ
def tC{f}(h:f≠0):erV f=.iface 96 (.int .i64 f):=by unfold erV;rw[if_neg h]
def HV.EL(h:HV):h.cells = #[.int .i64 h.c,.int .i64 h.p,.int .i64 h.b]:=rfl
def UE{B h d}(w)(hd:bV B w h d)(a:dW (bytesOf (d.seen.getD 0 []))≠0) :
  κ Tryz.prog 74 #[h.p] w λe w'=>e=.returned (.tuple #[.pointer O,erV (dL d)])/\β w w w':=by
 have i:dL d=dW (bytesOf (d.seen.getD 0 [])):=by unfold dL;rw[if_neg a]
 rw[i,tC a];have k:=ah (l9 0 w hd.toaS hd.ok.n1);have j:=ah (Jp (bytesOf (d.seen.getD 0 [])));rw[tC a] at *
 generalize dW _=f at *
 simp only[HV.EL] at *
 generalize (iq _).c=c at *
 generalize (iq _).p=p at *
 generalize (iq _).b=b at *
 generalize bytesOf _=s at *
 go_enter Tryz.func74,Tryz.ntmps74;go_wp2_with fail;refine cSt k ?_;go_wp2_with fail;refine cEq (j _) λl g=>?_
 go_wp2;go_ret2;exact⟨rfl,g.alloc g.size _⟩
def UH{B h d}(w)(hd:bV B w h d)(R:B.top<=w)(u:dW (bytesOf (d.seen.getD 0 []))=0) :
    κ Tryz.prog 74 #[h.p] w λe w'=>β w w w' /\
      ((dL d≠0/\e=.returned (.tuple #[.pointer O,erV (dL d)]))\/(dL d=0/\∃ x:Ih,x.h=h/\w<=x.tb/\e=.returned (.tuple #[x.p,.nilIface])/\aI B w' x (kY d))):=by
  have o:(aK d).ok=true:=GU u;have I:HV.ok ⟨(aK d).c,(aK d).p,(aK d).b⟩=true:=o;have Y:=hd.ok.n1;have af:=ah (l9 0 w hd.toaS Y);have G:=ah (Jp (bytesOf (d.seen.getD 0 [])));rw[u,aJ] at G;simp only[HV.EL] at *
  have a2:=ah (λW=>wC (aK d).c (aK d).p (aK d).b W I);have z:=ah λW (i:β w w W)=>hd.keep λk o=>i.block k (hd.lt k o).2
  have aa:χ (d.fl.length<aQ (aK d)->dL d=1):=λf=>by unfold dL;rw[if_pos u,if_pos f]
  have al:χ (¬d.fl.length<aQ (aK d)->dL d=gQ (aK d) (nD d)):=λf=>by unfold dL;rw[if_pos u,if_neg f]
  have ap:=ah λ(f:gQ (aK d) (nD d)=0)=>(D5 f).2.2.2
  have ad:=HV.dS o
  have ac:χ (¬d.fl.length<aQ (aK d)->∀ W:ω,β w w W->κ Tryz.prog 149 #[h.p,.agg #[.int .i64 (aK d).c,.int .i64 (aK d).p,.int .i64 (aK d).b]] W λe w' =>
      ∃ lt m,e=.returned (.tuple #[.slice lt (dZ (aK d) (nD d)).length m,erV (gQ (aK d) (nD d))])/\mV W.heap.size w' lt m (dZ (aK d) (nD d))/\β W W w'):=λf W i=>by
    refine Vu (aK d).c (aK d).p (aK d).b W (z W i) I ?_;have:=(nK o (ja1 _)).1
    omega
  have ao:χ (∀(W:ω) (tb tc:Nat),β w w W->W.ownsRow 0 168 2 (.slice (S ⟨tb,0,O⟩) (dZ (aK d) (nD d)).length tc) (dZ (aK d) (nD d)).length (bD (dZ (aK d) (nD d)))->w.heap.size<=tb ->
      κ Tryz.prog 100 #[h.p,.agg #[.int .i64 (aK d).c,.int .i64 (aK d).p,.int .i64 (aK d).b],.slice (S ⟨tb,0,O⟩) (dZ (aK d) (nD d)).length tc] W λe w' =>
      ∃ x:Ih,x.h=h/\x.tb=tb/\x.tc=tc/\e=.returned x.p/\aI B w' x (kY d)/\β W W w'):=λW tb tc i ho am =>
    Il (aK d).c (aK d).p (aK d).b (dZ (aK d) (nD d)) W (z W i) (ja4 R i.size) ho (B.fresh R am)
  generalize kY d=V at *
  generalize dL d=F at *
  generalize gQ (aK d) (nD d)=P at *
  generalize dZ (aK d) (nD d)=r at *
  generalize aQ (aK d)=nn at *
  have aL:=ad.1
  change χ (∀ W:ω,κ Tryz.prog 148 #[.string (bytesOf (d.seen.getD 0 []))] W λe w'=>e=.returned (.tuple #[.agg #[.int .i64 (aK d).c,.int .i64 (aK d).p,.int .i64 (aK d).b],.nilIface])/\β W W w') at *
  generalize (aK d).c=c at *
  generalize (aK d).p=p at *
  generalize (aK d).b=b at *
  generalize bytesOf (d.seen.getD 0 [])=s at *
  have a3:=ah λW (i:β w w W)=>size_any W (z W i).toaS
  go_enter Tryz.func74,Tryz.ntmps74;go_wp2_with fail;refine cSt af ?_;go_wp2_with fail;refine cEq (G _) λn Q=>?_
  have t:χ (β w w (n.alloc (.cells #[c,p,b] 67))):=Q.alloc Q.size _;have y:χ ((n.alloc (.cells #[c,p,b] 67)).heap[n.heap.size]?=S (.cells #[c,p,b] 67 (0,0))):=heap_alloc_new _ _;go_wp2;generalize n.alloc (.cells #[c,p,b] 67)=a at *
  generalize n.heap.size=N at *
  have A:N<a.heap.size:=lt_of_some y;have y0:a.cell? ⟨N,0,O⟩=S (c:υ):=by rw[cell_of_row _ _ _ _ _ _ y.out];rfl
  have y1:a.cell? ⟨N,1,O⟩=S (p:υ):=by rw[cell_of_row _ _ _ _ _ _ y.out];rfl
  have U:a.cell? ⟨N,2,O⟩=S (b:υ):=by rw[cell_of_row _ _ _ _ _ _ y.out];rfl
  go_region_held3 (λW=>β a a W/\W.cell? ⟨N,0,O⟩=S (c:υ)/\W.cell? ⟨N,1,O⟩=S (p:υ)/\W.cell? ⟨N,2,O⟩=S (b:υ))
    (first|(exact⟨jba (ja0 _ _),y0,y1,U⟩)|assumption|(exact⟨by assumption,(jax (by assumption) A).trans y0,(jax (by assumption) A).trans y1,(jax (by assumption) A).trans U⟩))
    (first
      | (go_at_call 99;refine(a3 _ (t.trans (Below.mono (by assumption:β a a _/\_).1 t.size))).mono ?_;rintro e w' ⟨rfl,rfl⟩)
      | (go_at_call 29;refine cEq (a2 _) λw' aq=>?_;have aD:=jaF (by assumption:β a a _/\_).1 (aq.mono (by assumption:β a a _/\_).1.size)))
  all_goals
    obtain⟨ae,E,D,L⟩:=(by assumption:β a a _/\_);have l:=ah (t.trans (ae.mono t.size));by_cases f:d.fl.length<nn
    . have M:=aa f;go_wp2;go_ret2;exact⟨l,.inl ⟨by rw[M];decide,by rw[M,eX];rfl⟩⟩
    . have K:=ah (al f);have X:=ah (ac f _ l);go_wp2_with fail;refine X.mono ?_;rintro e J ⟨lt,m,rfl,C,v⟩;have q:=ah (l.trans (v.mono l.size));have aE:=(v.cell (ja2 _ _ E)).trans E;have av:=(v.cell (ja2 _ _ D)).trans D;have ax:=(v.cell (ja2 _ _ L)).trans L;by_cases j:P=0
      . have az:=ap j;obtain⟨g,aw,hv,T,_⟩:=C.2.form (by omega);injection hv with hv1 hv2 hv3;subst hv1;subst hv3;have a5:χ (J.ownsRow 0 168 2 (.slice (S ⟨g,0,O⟩) r.length m) r.length (bD r)):=ownsRow_base C.2 (ja7 _);have ai:=ah (ao J g m q a5 (ja4 l.size T));have a4:χ (w.heap.size<=g):=ja4 l.size T;have Z  := K.trans j;rw[j,aJ];generalize r.length=tl at *
        go_wp2_with fail;refine ai.mono ?_;rintro e w4 ⟨x,an,a8,aM,rfl,ag,ar⟩;have a0:=ah ag;have a6:=ah (q.trans (ar.mono q.size));have a9:=ah an;have a7:χ (w.heap.size<=x.tb):=by unfold χ;rw[a8];exact a4
        go_wp2;go_ret2;exact⟨a6,.inr ⟨Z,x,a9,a7,rfl,a0⟩⟩
      . have H:χ (F=P):=K;have a1:=ah j;have ab:=ah (tC j);rw[tC j];go_wp2;go_ret2;exact⟨q,.inl ⟨by rw[H.out];exact a1,by rw[H.out,ab.out];rfl⟩⟩
def Jb{B h d}(w)(hd:bV B w h d)(b:B.top<=w) :
  κ Tryz.prog 74 #[h.p] w λe w'=>β w w w' /\
   ((dL d≠0/\e=.returned (.tuple #[.pointer O,erV (dL d)]))\/(dL d=0/\∃ x:Ih,x.h=h/\w<=x.tb/\e=.returned (.tuple #[x.p,.nilIface])/\aI B w' x (kY d))):=by
 by_cases a:dW (bytesOf (d.seen.getD 0 []))=0
 .exact UH w hd b a
 .refine cEq (UE w hd a) λw' f=>?_
  have c:dL d=dW (bytesOf (d.seen.getD 0 [])):=by unfold dL;rw[if_neg a]
  simp_all
def DV.dI(d:DV)(t:List (Int × Int)):Nat->DV × Int
 | 0=>(d,0)
 | k+1=>if (d.dI t k).2=0 then ((d.dI t k).1.put (1+k) (eH t (k:Int)).data.toList,(d.dI t k).1.aV) else d.dI t k
def DV.rW{d:DV}{t k}(h:(d.dI t k).2=0):d.dI t (k+1)=((d.dI t k).1.put (1+k) (eH t (k:Int)).data.toList,(d.dI t k).1.aV):=by
 show(if (d.dI t k).2=0 then _ else _)=_
 rw[if_pos h]
def DV.wV{d:DV}{t k}(h:(d.dI t k).2≠0):∀ j,k<=j->d.dI t j=d.dI t k:=by
 intro j b
 induction j with
 | zero=>simp_all
 | succ j a =>
  by_cases e:k=j+1
  .rw[<- e]
  .show(if (d.dI t j).2=0 then _ else d.dI t j)=_
   rw[(a (by omega)),if_neg h]
def crT(h:HV):List (Int × Int):=List.replicate h.c.toNat (0,0)
def crD(d:DV)(h:HV):DV × Int:=d.dI (crT h) (aB h.c.toNat)
def iC(d:DV)(h:HV):IV:=⟨(crD d h).1,h,crT h,[]⟩
def crV(d:DV)(h:HV):IV:=(iC d h).kV h
def jB(d:DV)(h:HV):DV:=if h.ok=true/\aQ h<=d.fl.length then (if (crD d h).2=0 then (crV d h).d else (crD d h).1) else d
def crF(d:DV)(h:HV):Int:=if h.ok=true then (if d.fl.length<aQ h then 1 else if (crD d h).2=0 then (iC d h).flush.d.aV else (crD d h).2) else 1
def AO(h)(a:h.ok=true):((crT h).length:Int)=h.c:=by
 have:=HV.dS a
 unfold crT;rw[jam];omega
def E5(h):∀ e∈crT h,bP e.1 e.2 h.p=true:=by
 intro e a;rw[jaO a];exact lI (.inr ⟨.inl rfl,rfl⟩)
def yh(h)(a:h.ok=true)(k)(b:k<aB h.c.toNat):iJ (crT h) (k:Int)=0/\(eH (crT h) (k:Int)).size=16 :=
 zD a (AO h a) (E5 h) k (by have:=AO h a;have:=HV.dS a;rw[show(crT h).length=h.c.toNat by omega];exact b)
def yg{d:DV}{m h}(hd:d.fine d.fl.length m)(a:h.ok=true)(i:aQ h<=d.fl.length)(n:m+10<1000000000):∀ k,k<=aB h.c.toNat->(d.dI (crT h) k).1.fine d.fl.length (m+k):=by
 have o:=(nK a i).1;have l:aB h.c.toNat<=5:=by have:=HV.dS a;unfold aB;omega
 intro k
 induction k with
 | zero=>intro _;exact hd
 | succ k g =>
  intro j;have b:=g (by omega);by_cases f:(d.dI (crT h) k).2=0
  .rw[DV.rW f];exact b.put (by omega) (by have:=(yh h a k (by omega)).2;simp_all) (by omega)
  .rw[DV.wV f _ (by omega)];exact b.more (by omega)
def AP{d m h}(hd:d.fine d.fl.length m)(a:h.ok=true)(f:aQ h<=d.fl.length)(g:m+10<1000000000):(iC d h).ok (m+5):=by
 have j:aB h.c.toNat<=5:=by have:=HV.dS a;unfold aB;omega
 have b:=(yg hd a f g _ (ja1 _)).more (show m+aB _<=m+5 by omega);refine⟨?_,a,AO h a,E5 h,?_,(λq i=>by cases i),ja7 _⟩
 .show(crD d h).1.fine (crD d h).1.fl.length _
  unfold crD;rw[b.len];exact b
 .show aQ h<=(crD d h).1.fl.length
  unfold crD;rw[b.len];exact f
def AQ{d m h}(hd:d.fine d.fl.length m)(a:h.ok=true)(b:aQ h<=d.fl.length)(c:m+20<1000000000):(crV d h).ok (m+15) :=
 ((AP hd a b (by omega)).kV a rfl rfl (by omega)).more (by omega)
def Oz{B h d}(c p b w)(hd:bV B w h d)(u:¬(HV.ok ⟨c,p,b⟩=true/\aQ ⟨c,p,b⟩<=d.fl.length)) :
  κ Tryz.prog 30 #[h.p,.agg #[c,p,b]] w λe w'=>e=.returned (.tuple #[.pointer O,.iface 96 (.int .i64 1)])/\β w w w':=by
 have g:=ah (qp c p b)
 cases f:HV.ok ⟨c,p,b⟩ with
 | false =>
  have n:HV.fault ⟨c,p,b⟩=1:=by unfold HV.fault;rw[f];rfl
  rw[n,eX] at g;go_enter Tryz.func30,Tryz.ntmps30;go_wp2_with fail;refine cEq (g _) λx l=>?_
  go_wp2;go_ret2;exact⟨rfl,((ja0 _ _).alloc (ja1 _) _).trans (l.mono (by simp))⟩
 | true =>
  have n:HV.fault ⟨c,p,b⟩=0:=by unfold HV.fault;rw[f];rfl
  rw[n,aJ] at g
  have y:d.fl.length<aQ ⟨c,p,b⟩:=by
   by_cases t:aQ ⟨c,p,b⟩<=d.fl.length
   .exact absurd ⟨f,t⟩ u
   .omega
  have s:=ah (λW=>wC c p b W f);generalize aQ _=C at *
  go_enter Tryz.func30,Tryz.ntmps30;go_wp2_with fail;refine cEq (g _) λa l=>?_
  have j:χ _:=((ja0 _ _).alloc (ja1 _) _).trans (l.mono (by simp));have i:a.heap[w.heap.size]?=S (.cells #[c,p,b] 67 (0,0)):=by rw[l.block _ (by simp),heap_alloc_new]
  have m  := lt_of_some i;have y0:a.cell? ⟨w,0,O⟩=S (c:υ):=by rw[cell_of_row _ _ _ _ _ _ i];rfl
  have y1:a.cell? ⟨w,1,O⟩=S (p:υ):=by rw[cell_of_row _ _ _ _ _ _ i];rfl
  have o:a.cell? ⟨w,2,O⟩=S (b:υ):=by rw[cell_of_row _ _ _ _ _ _ i];rfl
  go_wp2
  go_region_held3 (λW=>β a a W/\W.cell? ⟨w,0,O⟩=S (c:υ)/\W.cell? ⟨w,1,O⟩=S (p:υ)/\W.cell? ⟨w,2,O⟩=S (b:υ))
   (first|(exact⟨jba (ja0 _ _),y0,y1,o⟩)|assumption|(exact⟨by assumption,(jax (by assumption) m).trans y0,(jax (by assumption) m).trans y1,(jax (by assumption) m).trans o⟩))
   (first
     | (go_at_call 99;refine((λW (q:β w w W)=>size_any W (hd.keep λk f=>q.block k (hd.lt k f).2).toaS) _ (j.trans (Below.mono (by assumption:β _ a _/\_).1 j.size))).mono ?_;rintro e w' ⟨rfl,rfl⟩)
     | (go_at_call 29;refine cEq (s _) λw' v=>?_;have D:=jaF (by assumption:β _ a _/\_).1 (v.mono (by assumption:β _ a _/\_).1.size)))
  all_goals
   obtain⟨r,E,A,z⟩:=(by assumption:β _ a _/\_);go_wp2;go_ret2;exact⟨rfl,(j.trans (r.mono j.size))⟩
def PU(n):bD (List.replicate n (0,0))=List.replicate (n*2) (.int .i64 0):=by
 induction n with
 | zero=>rfl
 | succ n b =>
  rw[jbN];have a:∀(y:Int × Int) (l:List _),bD (y::l)=.int .i64 y.1::.int .i64 y.2::bD l:=λ_ _=>rfl
  rw[a,b,show(n+1)*2=n*2+1+1 by omega,jbN,jbN]
def TJ(n):(madeCells (Value.agg #[(0:Int),(0:Int)]).cells (n*2)).toList=bD (List.replicate n (0,0)):=by
 rw[PU];apply List.ext_getElem
 .simp[madeCells]
 .intro i a b;simp[madeCells,Value.cells];rcases jbo i with h|h<;>simp[h]
def aP.kv(d:aP):KV:=⟨d.root,d.kind,d.file,d.rate,d.burst⟩
def KV.kd(d:KV):aP:=⟨d.r,d.k,d.f,d.a,d.u⟩
def aj(root:Int):aP:=⟨root,0,-1,0,0⟩
def lW{r}(b:0<=r)(d:r<=4):(aj r).kv.fault=0:=by
 have c:(aj r).kv.bound=true:=decide_eq_true (by simp only[aj,aP.kv];omega);have a:(aj r).kv.may=true:=decide_eq_true (.inl ⟨rfl,rfl,rfl,rfl⟩);unfold KV.fault;simp_all
structure YV where
 dv:Nat->DV
 top:DV
 s:SV
 kd:aP
 l:List Int
 j:Option JV
def YV.dev(y:YV)(i:Nat):DV:=match y.s i with
 | some v=>v.d
 | none=>y.dv i
def YV.busy(y:YV):Bool:=match y.j with
 | none=>false
 | some j=>decide (j.stage<4)
def YV.ng(d:aP):List UInt8:=(gK d.kv.bytes).data.toList
def YV.aA(y:YV)(d:aP):YV:=if y.top.aV=0 then {y with top:=(y.top.put 0 (YV.ng d)).flushed,kd:=d} else {y with top:=y.top.put 0 (YV.ng d)}
def YV.aN(y:YV):Int:=y.top.aV
def SV.gone(s:SV)(i:Nat):SV:=λj=>if j=i then O else s j
def YV.used(y:YV)(f:Int):Bool:=y.busy&&decide (y.kd.file=f)||y.l.contains f
def oI(n:Nat)(c:Int):Int:=Int.tdiv ((n:Int)-1-(aB c.toNat:Int)) 4
def YV.head(y:YV)(f back:Int):HV:=⟨y.s.iO y.kd.root,oI (y.dev f.toNat).fl.length (y.s.iO y.kd.root),back⟩
def YV.dP(y:YV)(f back:Int):Int:=if 0<=f/\f<5 then (if y.used f=true then 5 else crF (y.dev f.toNat) (y.head f back)) else 1
def YV.blank(y:YV)(f back:Int):YV :=
 if 0<=f/\f<5 then (if y.used f=true then y else if crF (y.dev f.toNat) (y.head f back)=0 then {y with s:=y.s.upd f.toNat (crV (y.dev f.toNat) (y.head f back))}
  else {y with s:=y.s.gone f.toNat,dv:=λi=>if i=f.toNat then jB (y.dev f.toNat) (y.head f back) else y.dv i}) else y
def YV.iU(y:YV)(f:Int):Int:=if y.busy=true then 8 else if y.l.length=4 then 6 else if y.dP f y.kd.root=0 then (y.blank f y.kd.root).aN else y.dP f y.kd.root
def YV.snap(y:YV)(f:Int):YV:=if y.busy=true\/y.l.length=4 then y else if y.dP f y.kd.root=0 then
  (if (y.blank f y.kd.root).aN=0 then {(y.blank f y.kd.root).aA (aj f) with l:=f::y.l} else (y.blank f y.kd.root).aA (aj f)) else y.blank f y.kd.root
def iW(j:JV)(fr:Nat):Nat->JV
 | 0=>j
 | k+1=>eU (iW j fr k) (((fr+k) / 4:Nat):Int)
def YV.mark(y:YV)(fr n:Nat):YV:={y with j:=y.j.map λj=>iW j fr n}
def YV.write(y:YV)(fr:Int)(t:ByteArray):YV :=
 if t.size % 16=0/\y.s.aT y.l fr ((t.size / 16:Nat):Int)=0 then ({y with s:=(y.s.put y.l fr t).1}:YV).mark fr.toNat (t.size / 16) else y
def YV.bQ(y:YV)(fr:Int)(t:ByteArray):Int:=if t.size % 16=0/\y.s.aT y.l fr ((t.size / 16:Nat):Int)=0 then (y.s.put y.l fr t).2 else 1
def YV.wipe(y:YV)(fr n:Int):YV:=if y.s.aT y.l fr n=0 then ({y with s:=(y.s.wipe y.l fr n).1}:YV).mark fr.toNat n.toNat else y
def YV.lU(y:YV)(fr n:Int):Int:=if y.s.aT y.l fr n=0 then (y.s.wipe y.l fr n).2 else 1
def YV.flush(y:YV):YV:={y with s:=y.s.iG y.l}
def gZ(y:YV)(kind file b a:Int):aP:=⟨y.kd.root,kind,file,b,a⟩
def YV.lu(y:YV)(d:aP):Int:=if y.busy=true then 8 else if d.kind=0 then 1 else if d.kv.fault=0 then newF y.s d else d.kv.fault
def YV.iE(y:YV)(d:aP):Int:=if y.lu d=0 then y.aN else y.lu d
def YV.start(y:YV)(d:aP):YV:=if y.lu d=0 then (if y.aN=0 then {y.aA d with j:=S ((iw y.s d).at 1)} else y.aA d) else y
def YV.step(y:YV):YV:=match y.j with
 | none=>y
 | some j=>if 4<=j.stage then y else
  if bF y.s j≠0 then (if (stepJ y.s j).stage=5 then ({y with s:=stepS y.s j,j:=S (stepJ y.s j)}:YV).aA (aj y.kd.root) else {y with s:=stepS y.s j,j:=S (stepJ y.s j)})
  else if y.kd.kind≠2\/(stepJ y.s j).state≠3 then {y with s:=stepS y.s j,j:=S (stepJ y.s j)}
  else if dF (stepS y.s j) (stepJ y.s j)≠0 then ({y with s:=dQ (stepS y.s j) (stepJ y.s j),j:=S (dY (stepS y.s j) (stepJ y.s j))}:YV).aA (aj y.kd.root)
  else {({y with s:=dQ (stepS y.s j) (stepJ y.s j),l:=((dQ (stepS y.s j) (stepJ y.s j)).walk y.kd.root).1,j:=S ((dY (stepS y.s j) (stepJ y.s j)).at 4)}:YV).aA (aj y.kd.root) with kd:=aj y.kd.root}
def YV.bF(y:YV):Int:=match y.j with
 | none=>4
 | some j=>if 4<=j.stage then 4 else if Go.Proofs.YtbohmhacdgckgaaGreatDoor.bF y.s j≠0 then Go.Proofs.YtbohmhacdgckgaaGreatDoor.bF y.s j else if y.kd.kind≠2\/(stepJ y.s j).state≠3 then 0 else dF (stepS y.s j) (stepJ y.s j)
def YV.eP(y:YV):Bool:=match y.j with
 | none=>false
 | some j=>if 4<=j.stage then false else if Go.Proofs.YtbohmhacdgckgaaGreatDoor.bF y.s j≠0 then false else if y.kd.kind≠2\/(stepJ y.s j).state≠3 then Go.Proofs.YtbohmhacdgckgaaGreatDoor.eP y.s j else decide (dF (stepS y.s j) (stepJ y.s j)=0)
def YV.over(y:YV)(root st:Int):YV:=if y.aN=0 then {y.aA (aj root) with j:=y.j.map λj=>j.at st,l:=(y.s.walk root).1} else y.aA (aj root)
def YV.pivot(y:YV):YV:=match y.j with
 | none=>y
 | some j=>if 4<=j.stage\/y.kd.kind=2 then y else if dF y.s j≠0 then {y with s:=dQ y.s j,j:=S (dY y.s j)} else ({y with s:=dQ y.s j,j:=S (dY y.s j)}:YV).over y.kd.file 4
def YV.jK(y:YV):Int:=match y.j with
 | none=>4
 | some j=>if 4<=j.stage then 4 else if y.kd.kind=2 then 9 else if dF y.s j≠0 then dF y.s j else y.aN
def YV.cancel(y:YV):YV:=if y.busy=true then y.over y.kd.root 5 else y
def YV.nM(y:YV):Int:=if y.busy=true then y.aN else 4
def YV.pause(y:YV)(a:Bool):YV:=if y.busy=true then {y with j:=y.j.map λj=>nG j a} else y
def YV.fD(y:YV)(a:Bool):Int:=match y.j with
 | none=>4
 | some j=>if 4<=j.stage then 4 else Go.Proofs.YtbohmhacdgckgaaGreatDoor.fD j a
def YV.tick(y:YV)(n:Int):YV:=if y.busy=true then {y with j:=y.j.map λj=>kM j n} else y
def YV.nX(n:Int):Int:=if S4.inB n 100000=true then 0 else 1
def YV.arm(y:YV)(f n:Int):YV :=
 if -1<=f/\f<5/\0<=n then (if f = -1 then {y with top:=y.top.failing n} else match y.s f.toNat with
  | none=>{y with dv:=λi=>if i=f.toNat then (y.dv i).failing n else y.dv i}
  | some v=>{y with s:=y.s.upd f.toNat {v with d:=v.d.failing n}}) else y
def YV.jF(f n:Int):Int:=if -1<=f/\f<5/\0<=n then 0 else 1
def aO(d:Nat->DV):SV:=λi=>if i<5/\dL (d i)=0 then S (kY (d i)) else O
def ak(t:DV):aP:=(iV (bytesOf (t.seen.getD 0 []))).kd
def jJ(d:Nat->DV)(t:DV):Int:=if Go.Proofs.YtbohmhacdgckgaaGreatDoor.aN (bytesOf (t.seen.getD 0 []))=0 then ((aO d).walk (ak t).root).2 else Go.Proofs.YtbohmhacdgckgaaGreatDoor.aN (bytesOf (t.seen.getD 0 []))
def SV.back(s:SV)(n:Int):Int:=match s.file n with
 | none=>0
 | some v=>v.h.b
def lZ(s:SV)(k:aP):Bool:=decide (k.kind≠0/\¬(k.kind=2/\s.back k.root=k.file)/\newF s k=0)
def jT(d:Nat->DV)(t:DV):YV :=
 ⟨d,t,aO d,if lZ (aO d) (ak t)=true then ak t else aj (ak t).root,((aO d).walk (ak t).root).1,if lZ (aO d) (ak t)=true then S (iw (aO d) (ak t)) else O⟩
def jG(d:DV)(a:List Bool):DV:=DV.made (dX d.pend a d.fl d.pend.length) d.wr
def YV.left(y:YV)(k:List (List Bool))(i:Nat):DV:=jG (y.dev i) (k.getD i [])
def YV.crash(y:YV)(k:List (List Bool)):YV:=jT (y.left k) (jG y.top [])
def YV.iR(y:YV)(k:List (List Bool)):Int:=jJ (y.left k) (jG y.top [])
def newH(c p:Int):HV:=⟨c,p,-1⟩
def iP(n:Nat):DV:=DV.made (List.replicate n (List.replicate 16 0)) 0
def nS(c p:Int):YV:=⟨λ_=>iP (aQ (newH c p)),iP 1,SV.upd (λ_=>O) 0 (crV (iP (aQ (newH c p))) (newH c p)),aj 0,[0],O⟩
def fJ(c p:Int):YV:=(nS c p).aA (aj 0)
abbrev YV.t0(y:YV)(j:JV):YV:={y with s:=dQ y.s j,j:=S (dY y.s j)}
abbrev YV.t1(y:YV)(j:JV):YV:={y with s:=stepS y.s j,j:=S (stepJ y.s j)}
abbrev YV.t2(y:YV)(j:JV):YV:={y with s:=dQ (stepS y.s j) (stepJ y.s j),j:=S (dY (stepS y.s j) (stepJ y.s j))}
abbrev YV.t3(y:YV)(j:JV):YV:={y with s:=dQ (stepS y.s j) (stepJ y.s j),l:=((dQ (stepS y.s j) (stepJ y.s j)).walk y.kd.root).1,j:=S (dY (stepS y.s j) (stepJ y.s j))}
abbrev YV.t4(y:YV)(j:JV):YV:={y with s:=dQ (stepS y.s j) (stepJ y.s j),l:=((dQ (stepS y.s j) (stepJ y.s j)).walk y.kd.root).1,j:=S ((dY (stepS y.s j) (stepJ y.s j)).at 4)}
def Zb{s g}:∀r k a n,Linked s n r->s.good g r->a.length+r.length<=5->r.length<k->s.jq g k a n=(a++r,0):=by
 intro r
 induction r with
 | nil =>
  intro k a n h _ _ o
  cases k with
  | zero=>omega
  | succ k =>
   rw[h,SV.xC,List.append_nil]
 | cons x r q =>
  intro k a n h c w o
  cases k with
  | zero=>omega
  | succ k =>
   obtain⟨d,i,v,b,t⟩:=h;obtain⟨u,f,l⟩:=c x jai;rw[<- d,b] at f;cases f;simp only[jau] at *
   rw[SV.vI i b (by omega) l,q k _ _ t (λm j=>c m (jbk _ j)) (by simp;omega) (by omega),<- d,jaR];rfl
def Zc{s C l n}(h:Linked s n l)(a:s.good C l)(d:l.length<=5)(g:l≠[]):s.walk n=(l,0):=by
 have f:s.iO n=C:=by
  cases l with
  | nil=>simp_all
  | cons x r =>
   obtain⟨v,c,b⟩:=a x jai;unfold SV.iO;rw[h.1,c];exact b
 unfold SV.walk;rw[f,Zb l 6 [] n h a (by simpa using d) (by omega)];rfl
def Linked.over{s z}:∀l n,Linked s n l->(∀ k∈l,∀ v,s.file k=S v->∃ u,z.file k=S u/\u.h.b=v.h.b)->Linked z n l:=by
 intro l
 induction l with
 | nil=>intro n h _;exact h
 | cons x r g =>
  intro n h d;obtain⟨c,a,v,m,i⟩:=h;obtain⟨u,j,f⟩:=d x jai v (by simp_all);exact⟨c,a,u,by simp_all,by simp_all⟩
def bW(l:List Int)(s z:SV):Prop:=∀ k∈l,∀ v,s.file k=S v->∃ u,z.file k=S u/\u.h=v.h
def bW.refl(l s):bW l s s:=λ_ _ v h=>⟨v,h,rfl⟩
def bW.trans{l a b c}(h:bW l a b)(k:bW l b c):bW l a c:=λn d v f=>by
 obtain⟨u,g,i⟩:=h n d v f;obtain⟨t,m,j⟩:=k n d u g;simp_all
theorem bW.good{l s z C}(h:bW l s z)(c:s.good C l):z.good C l:=λn a=>by
 obtain⟨v,b,d⟩:=c n a;obtain⟨u,g,f⟩:=h n a v b;simp_all
def bW.linked{l s z n}(h:bW l s z)(c:Linked s n l):Linked z n l :=
 Linked.over l n c λk a v b=>by
  obtain⟨u,f,d⟩:=h k a v b;simp_all
def Bq(s:SV){f}(c:0<=f)(b:f<5)(u k):(s.upd f.toNat u).file k=if k=f then S u else s.file k:=by
 unfold SV.file SV.upd;by_cases a:0<=k/\k<5
 .rw[if_pos a];by_cases e:k=f
  .simp_all
  .rw[if_neg e,if_neg (by omega),if_pos a]
 .rw[if_neg a,if_neg (by omega),if_neg a]
def Qq(s:SV){f}(c:0<=f)(b:f<5)(k):(s.gone f.toNat).file k=if k=f then O else s.file k:=by
 unfold SV.file SV.gone;by_cases a:0<=k/\k<5
 .rw[if_pos a];by_cases e:k=f
  .simp_all
  .rw[if_neg e,if_neg (by omega),if_pos a]
 .rw[if_neg a,if_neg (by omega),if_neg a]
def bW.set{l s f}(g:0<=f)(d:f<5)(b:f ∉ l)(u):bW l s (s.upd f.toNat u):=λk a v c =>
 ⟨v,by rw[Bq s g d,if_neg (λ(e:k=f)=>b (e▸a))];exact c,rfl⟩
theorem bW.gone{l s f}(g:0<=f)(d:f<5)(b:f ∉ l):bW l s (s.gone f.toNat):=λk a v c =>
 ⟨v,by rw[Qq s g d,if_neg (λ(e:k=f)=>b (e▸a))];exact c,rfl⟩
theorem bW.upd{l s n v u}(a:s.file n=S v)(b:u.h=v.h):bW l s (s.upd n.toNat u):=λk _ t c=>by
 rw[SV.Bv a];by_cases e:k=n
 .simp_all
 .simp_all
theorem bW.lay(l s b c f t):bW l s (s.lay b c f t).1:=by
 unfold SV.lay;split
 .exact .refl l s
 .split
  .exact .refl l s
  .next v a =>
   split
   .exact .upd a (IV.Ag _ _ _ _)
   .exact .upd a (IV.yG _ _ _)
theorem bW.dM(l s b p):bW l s (SV.dM b s p).1:=by
 unfold SV.dM;split
 .exact .refl l s
 .split
  .exact .refl l s
  .next v a =>
   split
   .exact .upd a (IV.xY _ _)
   .split
    .exact .refl l s
    .exact .lay _ _ _ _ _ _
theorem bW.kC{a l}(b:∀(s:SV) p,bW l s (a s p).1):∀P s,bW l s (kC a s P).1:=by
 intro P
 induction P with
 | nil=>intro s;exact .refl l s
 | cons p r c =>
  intro s;rw[qW];split
  .exact(b s p).trans (c _)
  simp_all
theorem bW.put(l s a fr t):bW l s (s.put a fr t).1:=by
 unfold SV.put;split
 .split
  .exact .kC (λs p=>.lay _ _ _ _ _ _) _ _
  .exact .refl l s
 .exact .refl l s
theorem bW.wipe(l s a fr n):bW l s (s.wipe a fr n).1:=by
 unfold SV.wipe;split
 .exact .kC (λs p=>.dM _ _ _ _) _ _
 .exact .refl l s
theorem bW.move(l s n c t):bW l s (s.move n c t).1:=by
 unfold SV.move;split
 .exact .refl l s
 .next v a =>
  split
  .exact .upd a (IV.xY _ _)
  .split
   .exact .upd a (IV.Ag _ _ _ _)
   .exact .upd a (IV.yG _ _ _)
theorem bW.ig(l s n):bW l s (s.ig n):=by
 unfold SV.ig;split
 .exact .refl l s
 .next v a=>exact .upd a rfl
theorem bW.iG(l):∀r s,bW l s (s.iG r):=by
 intro r
 induction r with
 | nil=>intro s;exact .refl l s
 | cons n r a=>intro s;exact(bW.ig l s n).trans (a _)
def bW.step(l s j):bW l s (stepS s j):=by
 unfold stepS;split
 .exact .move _ _ _ _ _
 .exact .refl l s
def IV.Ci{v:IV}{b}(h:v.jg b≠0):(v.link b).h=v.h:=by
 unfold IV.jg at h;unfold IV.link;split
 .next a =>
  rw[if_pos a] at h;unfold IV.kV;rw[if_neg h];rfl
 .rfl
def IV.Ig{v:IV}{b}(h:v.jg b=0):(v.link b).h=v.pR b:=by
 unfold IV.jg at h;unfold IV.link;split
 .next a =>
  rw[if_pos a] at h;unfold IV.kV;rw[if_pos h]
 .simp_all
theorem bW.Ci{l s n b}(h:(dO s n b).2≠0):bW l s (dO s n b).1:=by
 unfold dO at *
 split
 .exact .refl l s
 .next v a =>
  rw[a] at h;exact .upd a (IV.Ci h)
structure Chain(s:SV)(C:Int)(root:Int)(l:List Int):Prop where
 link:Linked s root l
 good:s.good C l
 len:l.length<=5
 ne:l≠[]
theorem Chain.walk{s C root l}(h:Chain s C root l):s.walk root=(l,0):=Zc h.link h.good h.len h.ne
def Chain.over{s z C root l}(h:Chain s C root l)(a:bW l s z):Chain z C root l:=⟨a.linked h.link,a.good h.good,h.len,h.ne⟩
def Chain.of{s root}(h:(s.walk root).2=0)(a:(s.walk root).1≠[]):Chain s (s.iO root) root (s.walk root).1 :=
 ⟨SV.sH h,(s.walk_good root).1,(s.walk_good root).2.1,a⟩
def Chain.head{s C root l}(h:Chain s C root l):∃ r,l=root::r:=by
 have:=h.link
 cases l with
 | nil=>exact absurd rfl h.ne
 | cons x r=>exact⟨r,by rw[this.1]⟩
theorem Chain.nodup{s C root l}(h:Chain s C root l):l.Nodup:=Linked.nodup _ _ h.link
theorem Chain.root{s C root l}(h:Chain s C root l):∃ v,s.file root=S v/\v.h.c=C:=by
 obtain⟨r,e⟩:=h.head;exact h.good root (by simp_all)
theorem Chain.iO{s C root l}(h:Chain s C root l):s.iO root=C:=by
 obtain⟨v,a,b⟩:=h.root;unfold SV.iO;simp_all
def Chain.drop{s C root k p q}(h:Chain s C root (p++k::q)):Chain s C k (k::q) :=
 ⟨Linked.part p q k root h.link,λn a=>h.good n (List.mem_append_right p a),by have:=h.len;rw[jah] at *;omega,jc0 _ _⟩
def Chain.push{s C root f l u}(h:Chain s C root l)(o:l.length<=4)(d:0<=f)(a:f<5)(i:f ∉ l)(q:u.h.c=C)(k:u.h.b=root):Chain (s.upd f.toNat u) C f (f::l):=by
 have g:bW l s _:=.set d a i u;have j:(s.upd f.toNat u).file f=S u:=by rw[Bq s d a,if_pos rfl]
 refine⟨⟨rfl,by omega,u,j,by rw[k];exact g.linked h.link⟩,λn m=>?_,by simp;omega,jc0 _ _⟩;rcases List.mem_cons.1 m with e|e
 .simp_all
 .exact g.good h.good n e
def Chain.one{s f v}(a:s.file f=S v)(d:v.h.b = -1):Chain s v.h.c f [f]:=by
 obtain⟨g,_⟩:=SV.eG a;refine⟨⟨rfl,by omega,v,a,d⟩,λn i=>?_,by simp,jc0 _ _⟩;simp_all
def Chain.linked{s C root k p q}(h:Chain s C root (root::p++k::q))(a:(dO s root k).2=0):Chain (dO s root k).1 C root (root::k::q):=by
 obtain⟨v,c,d⟩:=h.root;have l:=h.nodup;unfold dO at *
 rw[c] at a |-;have b:=IV.Ig a;obtain⟨i,g,_⟩:=SV.eG c
 have f:root ∉ k::q:=by
  simp_all
 have j:(k::q).length<=4:=by
  have:=h.len
  simp only[jaU,jau,jah] at *
  omega
 exact(Chain.drop  h).push j i g f (by rw[b];exact d) (by rw[b];rfl)
def Chain.Tn{s C root l}(h:Chain s C root l)(a:(dO s root (-1)).2=0):Chain (dO s root (-1)).1 C root [root]:=by
 obtain⟨v,c,d⟩:=h.root;unfold dO at *
 rw[c] at a |-;have b:=IV.Ig a;obtain⟨i,f,_⟩:=SV.eG c;have g:(s.upd root.toNat (v.link (-1))).file root=S (v.link (-1)):=by rw[Bq s i f,if_pos rfl]
 have:=Chain.one g (by rw[b];rfl)
 rw[b] at *
 rw[<- d];exact this
theorem SV.ok.file{s:SV}{m}(h:s.ok m){n v}(a:s.file n=S v):v.ok m:=h _ _ (SV.eG a).2.2
theorem SV.ok.lay{s:SV}{m}(h:s.ok m)(l c f t)(a:m+10<=1000000000):(s.lay l c f t).1.ok (m+10):=by
 unfold SV.lay;split
 .exact h.more (by omega)
 .split
  .exact h.more (by omega)
  .next v b =>
   split
   .exact h.upd (by omega) ((h.file b).write _ _ _ a)
   .exact h.upd (by omega) ((h.file b).fill _ _ a)
theorem SV.ok.dM{s m}(h:s.ok m)(l p)(a:m+10<=1000000000):(SV.dM l s p).1.ok (m+10):=by
 unfold SV.dM;split
 .exact h.more (by omega)
 .split
  .exact h.more (by omega)
  .next v b =>
   split
   .exact h.upd (by omega) ((h.file b).clear _ a)
   .split
    .exact h.more (by omega)
    .exact h.lay _ _ _ _ a
theorem SV.ok.kC{a}(d:∀(s:SV) (m:Nat) p,s.ok m->m+10<=1000000000->(a s p).1.ok (m+10)):∀P s m,s.ok m->m+10*P.length<=1000000000->(kC a s P).1.ok (m+10*P.length):=by
 intro P
 induction P with
 | nil=>intro s m h _;exact h
 | cons p r c =>
  intro s m h f;simp only[jau] at *
  rw[qW];have b:=d s m p h (by omega);split
  .have:=c _ _ b (by omega)
   rw[show m+10*(r.length+1)=m+10+10*r.length by omega];exact this
  .exact b.more (by omega)
theorem SV.ok.put{s:SV}{m}(h:s.ok m)(l fr t)(a:m+10*(t.size / 16)<=1000000000):(s.put l fr t).1.ok (m+10*(t.size / 16)):=by
 unfold SV.put;have b:=rJ fr.toNat (t.size / 16) _ 0 (ja1 _);split
 .split
  .exact(SV.ok.kC (λs m p h a=>h.lay _ _ _ _ a) _ _ _ h (by omega)).more (by omega)
  .exact h.more (by omega)
 .exact h.more (by omega)
theorem SV.ok.wipe{s:SV}{m}(h:s.ok m)(l fr n)(a:m+10*n.toNat<=1000000000):(s.wipe l fr n).1.ok (m+10*n.toNat):=by
 unfold SV.wipe;have b:=rJ fr.toNat n.toNat _ 0 (ja1 _);split
 .exact(SV.ok.kC (λs m p h a=>h.dM _ _ a) _ _ _ h (by omega)).more (by omega)
 .exact h.more (by omega)
theorem SV.ok.move{s:SV}{m}(h:s.ok m)(n c t)(a:m+10<=1000000000):(s.move n c t).1.ok (m+10):=by
 unfold SV.move;split
 .exact h.more (by omega)
 .next v b =>
  split
  .exact h.upd (by omega) ((h.file b).clear _ a)
  .split
   .exact h.upd (by omega) ((h.file b).write _ _ _ a)
   .exact h.upd (by omega) ((h.file b).fill _ _ a)
theorem SV.ok.ig{s:SV}{m}(h:s.ok m)(n):(s.ig n).ok m:=by
 unfold SV.ig;split
 .exact h
 .next v a=>exact h.upd (ja1 _) (h.file a).flush
theorem SV.ok.iG:∀(l:List Int) {s:SV} {m:Nat},s.ok m->(s.iG l).ok m:=by
 intro l
 induction l with
 | nil=>intro s m h;exact h
 | cons n r a=>intro s m h;exact a (h.ig n)
theorem SV.ok.link{s m}(h:s.ok m)(n b)(a:m+10<=1000000000):(dO s n b).1.ok (m+10):=by
 unfold dO;split
 .exact h.more (by omega)
 .next v c=>exact h.upd (by omega) ((h.file c).link _ a)
def SV.ok.step{s m}(h:s.ok m)(j)(a:m+10<=1000000000):(stepS s j).ok (m+10):=by
 unfold stepS;split
 .exact h.move _ _ _ a
 .exact h.more (by omega)
def SV.ok.settle{s m}(h:s.ok m)(j)(a:m+10<=1000000000):(dQ s j).ok (m+10):=by
 unfold dQ;split
 .split
  .exact h.link _ _ a
  .exact(SV.ok.iG _ h).more (by omega)
 .exact h.more (by omega)
def jH(j:JV):aP:=⟨j.rt,j.kind,j.file,j.rate,j.burst⟩
structure JTo(s:SV)(C:Int)(l:List Int)(k:aP):Prop where
 mir:k.kind=1->∃ v,s.file k.file=S v/\v.h.b = -1/\v.h.c=C/\k.file ∉ l
 str:k.kind=2->k.file = -1\/k.file∈l
 com:k.kind=3->k.file∈l
def JTo.over{s z C l k}(h:JTo s C l k)(b:bW [k.file] s z):JTo z C l k :=
 ⟨λe=>by
  obtain⟨v,a,d,i,f⟩:=h.mir e;obtain⟨u,g,c⟩:=b _ jai v a
  simp_all,h.str,h.com⟩
structure JIn(s:SV)(C:Nat)(l:List Int)(k:aP)(j:JV):Prop where
 ok:JOk s C j
 lst:j.l=l
 dsk:jH j=k
 tgt:JTo s C l k
def JOk.other{s z C j}(h:JOk s C j)(d:bW j.l s z)(b:bW [j.file] s z):JOk z C j :=
 {h with
  good:=d.good h.good
  file:=λa=>by
   obtain⟨v,c⟩:=h.file a;obtain⟨u,f,_⟩:=b _ jai v c
   simp_all}
theorem JIn.other{s z C l k j}(h:JIn s C l k j)(b:bW l s z)(a:bW [k.file] s z):JIn z C l k j :=
 ⟨h.ok.other (by rw[h.lst];exact b) (by have:=h.dsk;rw[<- this] at a;exact a),h.lst,h.dsk,h.tgt.over a⟩
def JIn.over{s z C l k j}(h:JIn s C l k j)(a:∀ l,bW l s z):JIn z C l k j:=h.other (a _) (a _)
def JIn.as{s z C l k j a}(h:JIn s C l k j)(f:∀ l,bW l s z)(c:JOk z C a)(d:a.l=j.l)(b:jH a=jH j):JIn z C l k a :=
 ⟨c,d.trans h.lst,b.trans h.dsk,h.tgt.over (f _)⟩
structure YOk(y:YV)(C m:Nat):Prop where
 s:y.s.ok m
 dv:∀ i,(y.dv i).fine (y.dv i).fl.length m
 top:y.top.fine y.top.fl.length m
 aA:y.kd.kv.fault=0
 ch:Chain y.s C y.kd.root y.l
 job:∀ j,y.j=S j->j.stage<4->JIn y.s C y.l y.kd j
 set:∀ j,y.j=S j->S4.jY j.n j.x/\j.n<=40/\(j.stage=1\/j.stage=2\/j.stage=4\/j.stage=5)
theorem YOk.more{y C m m'}(h:YOk y C m)(a:m<=m'):YOk y C m':=⟨h.s.more a,λi=>(h.dv i).more a,h.top.more a,h.aA,h.ch,h.job,h.set⟩
theorem YOk.dev{y C m}(h:YOk y C m)(i):(y.dev i).fine (y.dev i).fl.length m:=by
 unfold YV.dev;split
 .next v a=>exact(h.s i v a).d
 .exact h.dv i
theorem YOk.root{y C m}(h:YOk y C m):0<=y.kd.root/\y.kd.root<=4:=by
 obtain⟨v,a,_⟩:=h.ch.root;have:=SV.eG a
 omega
theorem YOk.over{y C m m'}(h:YOk y C m){z}(g:z.ok m')(d:∀ l,bW l y.s z)(b:m<=m'){j}
  (c:∀ a,j=S a->a.stage<4->JIn z C y.l y.kd a) (f:∀ a,j=S a->S4.jY a.n a.x/\a.n<=40/\(a.stage=1\/a.stage=2\/a.stage=4\/a.stage=5)):YOk {y with s:=z,j:=j} C m' :=
 ⟨g,λi=>(h.dv i).more b,h.top.more b,h.aA,h.ch.over (d _),c,f⟩
def YOk.files{y C m m'}(h:YOk y C m){z}(g:z.ok m')(b:∀ l,bW l y.s z)(c:m<=m'):YOk {y with s:=z} C m' :=
 h.over g b c (λa d f=>(h.job a d f).over b) h.set
def OI(d):(YV.ng d).length=16:=by
 have:=zG d.kv.bytes (by show 9<=12;omega)
 unfold YV.ng;simp_all
def YQ{d:DV}{m}(h:d.fine d.fl.length m)(k)(b:m<1000000000):(d.put 0 (YV.ng k)).fine (d.put 0 (YV.ng k)).fl.length (m+1):=by
 have a:=h.put (i:=0)  (by have:=h.ok.n1;omega) (OI k) b;rw[a.len];exact a
def sK{y:YV}{m}(h:y.top.fine y.top.fl.length m)(d)(b:m<1000000000):(y.aA d).top.fine (y.aA d).top.fl.length (m+1):=by
 have a:=YQ h d b;unfold YV.aA;split
 .have:=a.flushed
  rw[this.len];exact this
 .exact a
def xJ{y:YV}{d}(h:y.aN=0):(y.aA d).kd=d:=by
 unfold YV.aA;rw[if_pos (show y.top.aV=0 from h)]
def xI{y:YV}{d}(h:y.aN≠0):(y.aA d).kd=y.kd:=by
 unfold YV.aA;rw[if_neg (show ¬y.top.aV=0 from h)]
def nY(y:YV)(d):(y.aA d).s=y.s/\(y.aA d).dv=y.dv/\(y.aA d).l=y.l/\(y.aA d).j=y.j:=by
 unfold YV.aA;split<;>exact⟨rfl,rfl,rfl,rfl⟩
def YOk.bare{y C m}(h:YOk y C m)(q:∀ j,y.j=S j->4<=j.stage)(g:m<1000000000):YOk (y.aA (aj y.kd.root)) C (m+1):=by
 obtain⟨b,n,f,c⟩:=nY y _;have l:=h.root;by_cases k:y.aN=0
 .have a:=xJ (d:=aj y.kd.root) k;refine⟨by rw[b];exact h.s.more (by omega),by rw[n];exact λi=>(h.dv i).more (by omega),sK h.top _ g,by rw[a];exact lW l.1 l.2,by rw[b,f,a];exact h.ch,λj o r=>?_,by rw[c];exact h.set⟩;rw[c] at *
  exact absurd (q j o) (by omega)
 .have a:=xI (d:=aj y.kd.root) k;exact⟨by rw[b];exact h.s.more (by omega),by rw[n];exact λi=>(h.dv i).more (by omega),sK h.top _ g,by rw[a];exact h.aA,by rw[b,f,a];exact h.ch,by rw[c,b,f,a];exact h.job,by rw[c];exact h.set⟩
def yA(j fr):∀ k,(iW j fr k).l=j.l/\jH (iW j fr k)=jH j/\(iW j fr k).stage=j.stage/\(iW j fr k).n=j.n:=by
 intro k
 induction k with
 | zero=>exact⟨rfl,rfl,rfl,rfl⟩
 | succ k b =>
  have:∀(a:JV) (c:Int),(eU a c).l=a.l/\jH (eU a c)=jH a/\(eU a c).stage=a.stage/\(eU a c).n=a.n:=λa c=>by
   unfold eU;split<;>exact⟨rfl,rfl,rfl,rfl⟩
  obtain⟨g,d,i,f⟩:=this _ (((fr+k) / 4:Nat):Int);exact⟨g.trans b.1,d.trans b.2.1,i.trans b.2.2.1,f.trans b.2.2.2⟩
def O0{j}(fr)(h:S4.jY j.n j.x):∀ k,S4.jY (iW j fr k).n (iW j fr k).x:=by
 intro k
 induction k with
 | zero=>exact h
 | succ k a =>
  show S4.jY (eU _ _).n (eU _ _).x
  unfold eU;split
  .exact a
  .exact S4.zh a _ _
theorem JOk.iW{s C j}(h:JOk s C j)(fr):∀ k,JOk s C (iW j fr k):=by
 intro k
 induction k with
 | zero=>exact h
 | succ k a=>exact a.dirty _
theorem YOk.mark{y C m}(h:YOk y C m)(fr n):YOk (y.mark fr n) C m:=by
 refine h.over   h.s (λl=>.refl l _) (ja1 _) (λa c r=>?_) (λa c=>?_)
 all_goals
  cases b:y.j with
  | none=>simp_all
  | some j =>
   rw[b] at c;have e:iW j fr n=a:=jaQ c;obtain⟨g,f,k,t⟩:=yA j fr n;rw[<- e]
   first
    | (have d:=h.job j b (by simp_all)
       exact d.as (λl=>.refl l _) (d.ok.iW fr n) g f)
    | (obtain⟨i,o,q⟩:=h.set j b
       exact⟨O0 fr i n,by omega,by omega⟩)
theorem YOk.write{y C m}(h:YOk y C m)(fr t)(a:m+10*(t.size / 16)<=1000000000):YOk (y.write fr t) C (m+10*(t.size / 16)):=by
 unfold YV.write;split
 .exact(h.files (h.s.put _ _ _ a) (λl=>.put l _ _ _ _) (by omega)).mark _ _
 .exact h.more (by omega)
theorem YOk.wipe{y C m}(h:YOk y C m)(fr n)(a:m+10*n.toNat<=1000000000):YOk (y.wipe fr n) C (m+10*n.toNat):=by
 unfold YV.wipe;split
 .exact(h.files (h.s.wipe _ _ _ a) (λl=>.wipe l _ _ _ _) (by omega)).mark _ _
 .exact h.more (by omega)
theorem YOk.flush{y C m}(h:YOk y C m):YOk y.flush C m:=h.files (SV.ok.iG _ h.s) (λl=>.iG l _ _) (ja1 _)
def YOk.jobs{y C m}(h:YOk y C m){j}
  (b:∀ a,j=S a->a.stage<4->JIn y.s C y.l y.kd a) (c:∀ a,j=S a->S4.jY a.n a.x/\a.n<=40/\(a.stage=1\/a.stage=2\/a.stage=4\/a.stage=5)):YOk {y with j:=j} C m :=
 ⟨h.s,h.dv,h.top,h.aA,h.ch,b,c⟩
def JOk.uj{s C j}(h:JOk s C j):S4.jY j.n j.x/\j.n<=40/\(j.stage=1\/j.stage=2\/j.stage=4\/j.stage=5):=⟨h.set,by have:=h.n;have:=h.c40;omega,h.stage⟩
def mZ{y:YV}(h:y.busy=true):∃ j,y.j=S j/\j.stage<4:=by
 unfold YV.busy at h;split at h
 .cases h
 .simp_all
def mY{y:YV}(h:y.busy≠true):∀ j,y.j=S j->4<=j.stage:=by
 intro j a;unfold YV.busy at h;simp_all
def YOk.turn{y C m}(h:YOk y C m){j a}(i:y.j=S j)(n:j.stage<4)(f:JOk y.s C j->JOk y.s C a)(k:a.l=j.l)(g:jH a=jH j):YOk {y with j:=S a} C m:=by
 have c:=h.job j i n;refine h.jobs (λb d _=>?_) (λb d=>?_)
 .cases d;exact c.as (λl=>.refl l _) (f c.ok) k g
 .cases d;exact(f c.ok).uj
def wL(j a):(nG j a).l=j.l/\jH (nG j a)=jH j:=by
 unfold nG;split
 .split<;>exact⟨rfl,rfl⟩
 .split<;>exact⟨rfl,rfl⟩
def zZ(j n):(kM j n).l=j.l/\jH (kM j n)=jH j:=by
 unfold kM;by_cases h:S4.inB n 100000=true
 .rw[if_pos h];exact⟨rfl,rfl⟩
 .simp_all
def uo(s j):(stepJ s j).l=j.l/\jH (stepJ s j)=jH j:=by
 have a:∀ c,(j.went c).l=j.l/\jH (j.went c)=jH j:=λ_=>⟨rfl,rfl⟩
 have b:j.fell.l=j.l/\jH j.fell=jH j:=⟨rfl,rfl⟩;unfold stepJ;by_cases h:j.stage=1/\j.some=true/\S4.inB 4 j.lv=true
 .rw[if_pos h];by_cases g:j.jr s j.pick=true/\(j.moved s j.pick).2≠0
  .simp_all
  .rw[if_neg g];exact a _
 .rw[if_neg h];simp_all
def DU(s j):(dY s j).l=j.l/\jH (dY s j)=jH j:=by
 unfold dY;split<;>exact⟨rfl,rfl⟩
theorem YOk.pause{y C m}(h:YOk y C m)(a):YOk (y.pause a) C m:=by
 unfold YV.pause;split
 .next c =>
  obtain⟨j,b,d⟩:=mZ c;rw[b];exact h.turn b d (λk=>k.pause a) (wL j a).1 (wL j a).2
 .exact h
theorem YOk.tick{y C m}(h:YOk y C m)(n):YOk (y.tick n) C m:=by
 unfold YV.tick;split
 .next b =>
  obtain⟨j,a,c⟩:=mZ b;rw[a];exact h.turn a c (λk=>k.tick n) (zZ j n).1 (zZ j n).2
 .exact h
theorem YOk.arm{y C m}(h:YOk y C m)(f n)(r:n<=9223372036854775807):YOk (y.arm f n) C m:=by
 have c:∀ {d:DV} {k:Nat},d.fine k m->0<=n->(d.failing n).fine k m:=λa q=>⟨a.ok.failing (by omega) (by omega),Bd a.sn _,a.len,a.wr⟩
 unfold YV.arm;split
 .next b =>
  split
  .exact⟨h.s,h.dv,c h.top b.2.2,h.aA,h.ch,h.job,h.set⟩
  .next o =>
   split
   .refine⟨h.s,λi=>?_,h.top,h.aA,h.ch,h.job,h.set⟩;show(if i=f.toNat then (y.dv i).failing n else y.dv i).fine (if i=f.toNat then (y.dv i).failing n else y.dv i).fl.length m
    split
    .exact c (h.dv i) b.2.2
    .exact h.dv i
   .next v g =>
    have j:y.s.file f=S v:=by
     unfold SV.file;rw[if_pos ⟨by omega,b.2.1⟩];exact g
    exact h.files (h.s.upd (ja1 _) ((h.s _ _ g).dev (c (h.s _ _ g).d b.2.2) (ja1 _))) (λl=>.upd j rfl) (ja1 _)
 .exact h
def Ou{d m h}(hd:d.fine d.fl.length m)(f:m+20<1000000000):(jB d h).fine (jB d h).fl.length (m+15):=by
 unfold jB;split
 .next a =>
  split
  .exact(AQ hd a.1 a.2 f).d
  .have g:aB h.c.toNat<=5:=by have:=HV.dS a.1;unfold aB;omega
   have b:=(yg hd a.1 a.2 (by omega) _ (ja1 _)).more (show m+aB _<=m+15 by omega);unfold crD;rw[b.len];exact b
 .exact hd.more (by omega)
def Oo{d h}(a:crF d h=0):h.ok=true/\aQ h<=d.fl.length:=by
 unfold crF at *
 split at *
 .next b =>
  split at *
  .cases a
  .simp_all
 .cases a
def yj(d h):(crV d h).h=h:=by
 unfold crV IV.kV;split<;>rfl
def Ls{y:YV}{f}(h:y.used f≠true):f ∉ y.l/\(y.busy=true->y.kd.file≠f):=by
 have h:¬(y.busy&&decide _||y.l.contains f)=true:=h;simp_all
theorem YOk.blank{y C m}(h:YOk y C m)(f back)(g:m+20<1000000000):YOk (y.blank f back) C (m+15):=by
 unfold YV.blank;split
 .next a =>
  split
  .exact h.more (by omega)
  .next q =>
   obtain⟨k,r⟩:=Ls q;have hd:=h.dev f.toNat
   have apart:∀ j,y.j=S j->j.stage<4->f ∉ [y.kd.file]:=λj c b g=>by
    rw[jaW] at *
    exact r (by unfold YV.busy;simp_all) g.symm
   split
   .next u =>
    obtain⟨o,t⟩:=Oo u;have d:bW y.l y.s (y.s.upd _ (crV (y.dev f.toNat) (y.head f back))):=.set a.1 a.2 k _;refine⟨h.s.upd (by omega) (AQ hd o t g),λi=>(h.dv i).more (by omega),h.top.more (by omega),h.aA,h.ch.over d,λj c b=>?_,h.set⟩;exact(h.job j c b).other d (.set a.1 a.2 (apart j c b) _)
   .have d:bW y.l y.s _:=.gone a.1 a.2 k;refine⟨λi v e=>?_,λi=>?_,h.top.more (by omega),h.aA,h.ch.over d,λj c b=>?_,h.set⟩
    .have n:(y.s.gone _) i=S v:=e;unfold SV.gone at *
     split at *
     .cases n
     .exact(h.s i v n).more (by omega)
    .show(if i=f.toNat then jB _ _ else y.dv i).fine (if i=f.toNat then jB _ _ else y.dv i).fl.length _
     split
     .exact Ou hd g
     .exact(h.dv i).more (by omega)
    .exact(h.job j c b).other d (.gone a.1 a.2 (apart j c b))
 .exact h.more (by omega)
def EF(y:YV)(f back):(y.blank f back).j=y.j/\(y.blank f back).kd=y.kd/\(y.blank f back).l=y.l/\(y.blank f back).top=y.top:=by
 unfold YV.blank;split
 .split
  .simp_all
  .split<;>exact⟨rfl,rfl,rfl,rfl⟩
 .simp_all
def Aq{y:YV}{f back}(h:y.dP f back=0):0<=f/\f<5/\y.used f≠true/\crF (y.dev f.toNat) (y.head f back)=0/\y.blank f back={y with s:=y.s.upd f.toNat (crV (y.dev f.toNat) (y.head f back))}:=by
 unfold YV.dP at h;unfold YV.blank;split at h
 .next a =>
  split at h
  .cases h
  .simp_all
 .cases h
def Qj:∀(n:Nat) (l:List Int),l.Nodup->(∀ x∈l,0<=x/\x<(n:Int))->l.length<=n:=by
 intro n
 induction n with
 | zero =>
  intro l _ h
  cases l with
  | nil=>simp_all
  | cons x r=>have:=h x jai;omega
 | succ n b =>
  intro l hd h;by_cases c:(n:Int)∈l
  .have d:=b (l.erase (n:Int)) (hd.erase _) (λx a=>by
    rw[hd.mem_erase_iff] at *
    have:=h x a.2
    omega)
   simp_all
  .have:=b l hd (λx a=>by
    have d:=h x a;have:x≠(n:Int):=λe=>c (e▸a)
    omega)
   omega
def Chain.few{s C root f l}(h:Chain s C root l)(g:0<=f)(d:f<5)(a:f ∉ l):l.length<=4:=by
 have:=Qj 5 _ (List.nodup_cons.2 ⟨a,h.nodup⟩) (λx c=>by
  rcases List.mem_cons.1 c with e|e
  .omega
  .obtain⟨v,b,_⟩:=h.good x e;have:=SV.eG b
   omega)
 simp_all
theorem YOk.snap{y C m}(h:YOk y C m)(f)(t:m+20<1000000000):YOk (y.snap f) C (m+16):=by
 unfold YV.snap;split
 .exact h.more (by omega)
 .next D =>
  rw[not_or] at *
  split
  .next w =>
   have a:=h.blank f y.kd.root t;obtain⟨x,I,J,H⟩:=EF y f _;obtain⟨k,v,B,L,F⟩:=Aq w;obtain⟨o,_⟩:=Ls B;obtain⟨c,r,u,g⟩:=nY _ _;have q:=λz=>sK a.top (aj f) z
   have G:Chain (y.blank f y.kd.root).s C f (f::y.l):=by
    rw[F];exact h.ch.push (h.ch.few k v o) k v o (by rw[yj];exact h.ch.iO) (by rw[yj];rfl)
   split
   .next n =>
    have b:=xJ  (d:=aj f) n;refine⟨by rw[c];exact a.s.more (by omega),?_,q (by omega),?_,?_,λj E K=>?_,?_⟩
    .rw[r];exact λi=>(a.dv i).more (by omega)
    .rw[b];exact lW k (by omega)
    .rw[c,b];exact G
    .have A  := E;rw[g,x] at *
     exact absurd ((mY D.1) j A) (by omega)
    .rw[g];exact a.set
   .next n =>
    have b:=xI  (d:=aj f) n;refine⟨by rw[c];exact a.s.more (by omega),by rw[r];exact λi=>(a.dv i).more (by omega),q (by omega),by rw[b];exact a.aA,by rw[c,u,b];exact a.ch,by rw[g,c,u,b];exact a.job,by rw[g];exact a.set⟩
  .exact(h.blank f _ t).more (by omega)
def CU{y C m}(h:YOk y C m){d}(n:d.root=y.kd.root)(o:newF y.s d=0){st}(q:st=1\/st=2\/st=4\/st=5):JIn y.s C y.l d ((iw y.s d).at st):=by
 have g:y.s.walk d.root=(y.l,0):=by rw[n];exact h.ch.walk
 have c:=CQ h.s o;obtain⟨j,r,k,_⟩:=c.jok;have b:(y.s.walk d.root).1=y.l:=by rw[g]
 have t:j=C:=by
  rw[b,h.ch.good.iF h.ch.ne] at k;omega
 subst t;refine⟨(r.newX _).at q,b,rfl,⟨λe=>?_,λe=>?_,λe=>?_⟩⟩
 .have f:=c.ck;unfold kP at *
  unfold oK at *
  cases u:y.s.file _ with
  | none=>simp_all
  | some v =>
   simp_all
 all_goals
  have f:=c.ck;unfold kP at *
  rw[if_neg (by omega),if_pos (by omega),b] at *
  split at *
  .next a =>
   rcases a with a|a
   .omega
   .have w  := jbm (i:=1) (by simpa using a);simp_all
  .cases f
theorem YOk.start{y C m}(h:YOk y C m){d}(f:d.root=y.kd.root)(k:m<1000000000):YOk (y.start d) C (m+1):=by
 unfold YV.start;split
 .next g =>
  have u:y.busy≠true/\d.kv.fault=0/\newF y.s d=0:=by
   unfold YV.lu at *
   split at *
   .cases g
   .next r =>
    split at *
    .cases g
    .split at *
     .simp_all
     .omega
  obtain⟨r,v,t⟩:=u;obtain⟨a,o,c,n⟩:=nY y d;have q:=CU h f t  (.inl rfl);split
  .next hd =>
   have b:=xJ (d:=d) hd;refine⟨by rw[a];exact h.s.more (by omega),?_,sK h.top d k,by simp_all,?_,λj l _=>?_,λj l=>?_⟩
   .rw[o];exact λi=>(h.dv i).more (by omega)
   .rw[a,c,b,f];exact h.ch
   .simp_all
   .cases l;exact q.ok.uj
  .next hd =>
   have b:=xI (d:=d) hd;exact⟨by rw[a];exact h.s.more (by omega),by rw[o];exact λi=>(h.dv i).more (by omega),sK h.top _ k,by rw[b];exact h.aA,by rw[a,c,b];exact h.ch,by rw[n,a,c,b];exact h.job,by rw[n];exact h.set⟩
 .exact h.more (by omega)
def YOk.ends{y C m}(h:YOk y C m){root st l}(n:Chain y.s C root l)(A:st=4\/st=5)(o:y.aN=0)(t:m<1000000000):YOk {y.aA (aj root) with j:=y.j.map λj=>j.at st,l:=l} C (m+1):=by
 obtain⟨f,x,B,D⟩:=nY y _;have g:=xJ (d:=aj root) o;obtain⟨v,u,_⟩:=n.root;have r:=SV.eG u;refine⟨by rw[f];exact h.s.more (by omega),?_,sK h.top _ t,by rw[g];exact lW r.1 (by omega),?_,λj k z=>?_,λj k=>?_⟩
 .rw[x];exact λi=>(h.dv i).more (by omega)
 .rw[f,g];exact n
 all_goals
  have b  := k
  cases c:y.j with
  | none=>simp_all
  | some a =>
   rw[c] at b;have e  := jaQ b
   first
   | (have:j.stage=st:=by rw[<- e];rfl
      omega)
   | (obtain⟨w,q,_⟩:=h.set a c
      rw[<- e]
      exact⟨w,q,by show st=1\/st=2\/st=4\/st=5;omega⟩)
def YOk.Jc{y C m}(h:YOk y C m){root st l}(k:Chain y.s C root l)(o:st=4\/st=5)(f:m<1000000000):YOk (y.over root st) C (m+1):=by
 unfold YV.over;have n:(y.s.walk root).1=l:=by rw[k.walk]
 split
 .next a=>rw[n];exact h.ends k o a f
 .next a =>
  obtain⟨b,q,g,j⟩:=nY y _;have c:=xI (d:=aj root) a;exact⟨by rw[b];exact h.s.more (by omega),by rw[q];exact λi=>(h.dv i).more (by omega),sK h.top _ f,by rw[c];exact h.aA,by rw[b,g,c];exact h.ch,by rw[j,b,g,c];exact h.job,by rw[j];exact h.set⟩
theorem YOk.cancel{y C m}(h:YOk y C m)(a:m<1000000000):YOk y.cancel C (m+1):=by
 unfold YV.cancel;split
 .exact h.Jc h.ch (.inr rfl) a
 .exact h.more (by omega)
def JIn.chain{s C root l k j}(h:JIn s C l k j)(a:Chain s C root l)(i:k.kind≠2):∃ q,Chain s C k.file q:=by
 have g:j.kind=k.kind:=by rw[<- h.dsk];rfl
 rcases h.ok.kind with e|e|e
 .obtain⟨v,c,d,b,_⟩:=h.tgt.mir (by omega);exact⟨[k.file],by rw[<- b];exact Chain.one c d⟩
 .omega
 .obtain⟨p,q,f⟩:=jbR (h.tgt.com (by omega));rw[f] at a;exact⟨_,a.drop⟩
theorem YOk.pivot{y C m}(h:YOk y C m)(r:m+20<1000000000):YOk y.pivot C (m+11):=by
 unfold YV.pivot;split
 .exact h.more (by omega)
 .next j n =>
  split
  .exact h.more (by omega)
  .next i =>
   rw[not_or] at *
   have b:=h.job j n (by omega);have o:j.kind=y.kd.kind:=by rw[<- b.dsk];rfl
   have t:j.kind≠2:=by omega
   have c:∀ l,bW l y.s (dQ _ j):=λl=>by
    unfold dQ;split
    .exact .iG l _ _
    .exact .refl l _
   have g:dY y.s j=j:=by
    unfold dY;simp_all
   rw[g]
   have f:YOk {y with s:=dQ y.s j,j:=S j} C (m+10):=by
    refine h.over (h.s.settle j (by omega)) c (by omega) (λa d _=>?_) (λa d=>?_)
    .cases d;exact b.over c
    .cases d;exact b.ok.uj
   split
   .exact f.more (by omega)
   .obtain⟨q,k⟩:=(b.over c).chain (h.ch.over (c _)) i.2;exact f.Jc k (.inl rfl) (by omega)
def DW{s j}(b:j.state=3)(a:j.kind=2):dQ s j=(dO s (j.l.headD 0) j.file).1/\dF s j=(dO s (j.l.headD 0) j.file).2:=by
 unfold dQ dF;simp_all
def KD{s j}(b:j.state=3)(c:j.kind=2)(a:(dO s (j.l.headD 0) j.file).2≠0):dY s j=j.at 5:=by
 unfold dY;simp_all
def XF{s j}(a:(dO s (j.l.headD 0) j.file).2=0):dY s j=j:=by
 unfold dY;simp_all
def JIn.streams{s C root l k j}(h:JIn s C l k j)(b:Chain s C root l)(g:k.root=root)(hd:k.kv.fault=0)(f:k.kind=2)(c:(dO s root k.file).2=0):∃ q,Chain (dO s root k.file).1 C root q:=by
 obtain⟨r,d⟩:=b.head;rcases h.tgt.str f with e|e
 .rw[e] at c |-;exact⟨_,b.Tn c⟩
 .have a:=of_decide_eq_true (KV.qF hd).2
  have m:k.file≠root:=by
   rcases a with a|a
   .have:k.kind=0:=a.1
    omega
   .rw[<- g];exact a.2.1
  rw[d] at e;rcases List.mem_cons.1 e with e|e
  .omega
  .obtain⟨p,q,i⟩:=jbR e;rw[d,i] at b;exact⟨_,b.linked   c⟩
theorem YOk.step{y C m}(h:YOk y C m)(Z:m+30<1000000000):YOk y.step C (m+21):=by
 unfold YV.step;split
 .exact h.more (by omega)
 .next j W =>
  split
  .exact h.more (by omega)
  .next Y =>
   have H:=h.job j W (by omega);have o:∀ l,bW l y.s (stepS y.s j):=λl=>.step l _ _
   have g:=H.ok.step;have d  := H.as o g (uo _ _).1 (uo _ _).2
   have t:YOk {y with s:=stepS y.s j,j:=S (stepJ y.s j)} C (m+10):=by
    refine h.over (h.s.step j (by omega)) o (by omega) (λa w _=>?_) (λa w=>?_)
    .cases w;exact d
    .cases w;exact g.uj
   have x  := h.ch.over (o _);have M:=h.s.step j (show m+10<=1000000000 by omega);split
   .split
    .next R =>
     exact(t.bare (λb c=>by cases c;rw[R];decide) (by omega)).more (by omega)
    .exact t.more (by omega)
   .split
    .exact t.more (by omega)
    .next E =>
     rw[not_or] at *
     have B  := jag E.1;have D  := jag E.2;generalize ea:stepJ y.s j=a at *
     generalize X:stepS y.s j=z at *
     have K:a.kind=2:=by rw[<- B,<- d.dsk];rfl
     have k:a.file=y.kd.file:=by rw[<- d.dsk];rfl
     have u:a.l.headD 0=y.kd.root:=by
      obtain⟨r,e⟩:=x.head;rw[d.lst,e];rfl
     obtain⟨J,A⟩:=DW (s:=z) D K;rw[u,k] at J A;rw[A,J];split
     .next f =>
      rw[(KD (s:=z) D K (by rw[u,k];exact f))];have Q:∀ l,bW l z _:=λl=>.Ci f
      have P:YOk {y with s:=(dO z y.kd.root y.kd.file).1,j:=S (a.at 5)} C (m+20):=by
       refine⟨M.link _ _ (by omega),λi=>(h.dv i).more (by omega),h.top.more (by omega),h.aA,x.over (Q _),λb c n=>?_,λb c=>?_⟩
       .cases c;exact absurd n (by show ¬(5:Int)<4;decide)
       .cases c;exact(g.at (.inr (.inr (.inr rfl)))).uj
      exact P.bare (λb c=>by cases c;show(4:Int)<=5;decide) (by omega)
     .next f =>
      have G  := jag f;rw[(XF (s:=z) (j:=a) (by rw[u,k];exact G))];obtain⟨q,F⟩:=d.streams x rfl h.aA B G;have T:((dO z y.kd.root y.kd.file).1.walk y.kd.root).1=q:=by rw[F.walk]
      rw[T];have I:=h.root;obtain⟨L,U,V,N⟩:=nY _ _;refine⟨by show(YV.aA _ _).s.ok _;rw[L];exact(M.link _ _ (by omega)).more (by omega),?_,?_,lW I.1 I.2,?_,λb c n=>?_,λb c=>?_⟩
      .show ∀ i,((YV.aA _ _).dv i).fine _ _
       rw[U];exact λi=>(h.dv i).more (by omega)
      .exact(sK (y:={y with s:=(dO z y.kd.root y.kd.file).1,l:=q,j:=S (a.at 4)}) h.top _ (by omega)).more (by omega)
      .show Chain _ C y.kd.root _
       rw[L,V];exact F
      .have v  := c;rw[N] at *
       cases v;exact absurd n (by show ¬(4:Int)<4;decide)
      .have v  := c;rw[N] at *
       cases v;exact(g.at (.inr (.inr (.inl rfl)))).uj
def yT{d m}(hd:∀ i,(d i).fine (d i).fl.length m):(aO d).ok m:=λi v e=>by
 unfold aO at e;split at e
 .next a=>cases e;exact(UG (hd i) a.2).1
 .cases e
def yw{s}(h:aN s=0):(iV s).fault=0:=by
 unfold aN at h;unfold iV;split at h
 .next a =>
  split at h
  .next b =>
   rw[if_pos ⟨a,b⟩];unfold nN at *
   simp_all
  .cases h
 .omega
def Ja{d t m}(hd:∀ i,(d i).fine (d i).fl.length m)(u:t.fine t.fl.length m)(g:jJ d t=0):∃ C,YOk (jT d t) C m:=by
 unfold jJ at *
 split at *
 .next w =>
  have n  := yw w;have l:=of_decide_eq_true (KV.qF n).1;have q:0<=(ak t).root:=l.1
  have r:((aO d).walk _).1≠[]:=λe=>by
   have:=SV.sH g
   rw[e] at *
   have:(ak t).root = -1:=this
   omega
  have c:=Chain.of g r;obtain⟨v,x,y⟩:=c.root
  have o:(((aO d).iO (ak t).root).toNat:Int)=(aO d).iO (ak t).root:=by
   have:=HV.dS ((yT hd).file x).h
   omega
  rw[<- o] at c
  have b:YOk ⟨d,t,aO d,aj _,((aO d).walk _).1,O⟩ _ m :=
   ⟨yT hd,hd,u,lW q l.2.1,c,(λj a=>by cases a),(λj a=>by cases a)⟩
  refine⟨((aO d).iO (ak t).root).toNat,?_⟩;unfold jT;by_cases f:lZ (aO d) (ak t)=true
  .rw[if_pos f,if_pos f];have k:=CU b (d:=ak t) rfl (of_decide_eq_true f).2.2  (.inr (.inl rfl));refine⟨b.s,b.dv,b.top,n,c,λj a _=>?_,λj a=>?_⟩
   .cases a;exact k
   .cases a;exact k.ok.uj
  .simp_all
 .omega
def uK{d m}(hd:d.fine d.fl.length m)(a):(jG d a).fine (jG d a).fl.length m :=
 ⟨DV.CB (by rw[tK];exact hd.ok.n1) (by rw[tK];exact hd.ok.n2) (Cc _ _ _ _ (ja1 _) hd.ok.l1 (λx b=>(hd.ok.l3 x b).2)) (by have:=hd.ok.few2;omega),Io _ _,rfl,hd.wr⟩
theorem YOk.crash{y C m}(h:YOk y C m)(k)(a:y.iR k=0):∃ b,YOk (y.crash k) b m :=
 Ja (λi=>uK (h.dev i) _) (uK h.top _) a
def uX{n}(a:1<=n)(c:n<=200):(iP n).fine (iP n).fl.length 0 :=
 ⟨DV.CB (by simp_all) (by simp_all) (λs b=>by simp_all) (by decide),Io _ _,rfl,ja1 _⟩
def TW(n):(iP n).fail = -1:=rfl
def Wu{d:DV}(h:d.fail = -1)(t):∀ k,(d.dI t k).1.fail = -1/\(d.dI t k).2=0:=by
 have c:∀ {d:DV},d.fail = -1->d.aV=0/\∀ i s,(d.put i s).fail = -1:=λ{d} h=>by
  have a:d.fail≠0:=by omega
  refine⟨by unfold DV.aV;rw[if_neg a],λi s=>?_⟩;unfold DV.put DV.jo;rw[if_neg a,if_pos h];exact h
 intro k
 induction k with
 | zero=>exact⟨h,rfl⟩
 | succ k b =>
  rw[DV.rW b.2];simp_all
def IG{n h}(a:h.ok=true)(f:aQ h<=n):crF (iP n) h=0:=by
 unfold crF;have d:(iP n).fl.length=n:=jam;obtain⟨c,b⟩:=Wu (TW n) _ _;rw[if_pos a,if_neg (by omega),if_pos (show(crD _ h).2=0 from b)];unfold DV.aV;rw[if_neg (by show ¬(crD _ h).1.fail=0;unfold crD;omega)]
def IK{c p}(b:(newH c p).ok=true)(k:aQ (newH c p)<=200):YOk (fJ c p) c.toNat 20:=by
 have g:((newH c p).c.toNat:Int)=c:=by show(c.toNat:Int)=c;have:(1:Int)<=c:=(HV.dS b).1;omega
 have hd:=uX  (by unfold aQ dJ;omega) k;have l:=AQ hd b (by rw[show(iP _).fl.length=aQ _ from jam];omega) (by omega)
 have f:YOk (nS c p) c.toNat 15:=by
  refine⟨λi v e=>?_,λi=>hd.more (by omega),(uX (by omega) (by omega)).more (by omega),lW (by decide) (by decide),?_,(λj a=>by cases a),(λj a=>by cases a)⟩
  .have m:SV.upd (λ_=>O) 0 _ i=S v:=e;unfold SV.upd at *
   simp_all
  .have d:(nS c p).s.file 0=S _:=rfl;have:=Chain.one d (by rw[yj];rfl)
   rw[yj] at *
   rw[show((c.toNat:Nat):Int)=(newH c p).c from g];exact this
 exact(f.bare (λj a=>by cases a) (by omega)).more (by omega)
def VJ{B q d}(i)(s:ByteArray)(w)(hd:dR B w q d)(hB:B<=w)(hs:s.size=16)(hi:i<d.fl.length)(hf:d.fail≠0)(aR : -1<=d.fail)(aM:d.fail<=9223372036854775807)(hp:d.pend.length<=d.wr)(hw:d.wr<1000000000) :
  κ Tryz.prog 109 #[q.p,(i:Int),s] w λe w' =>
   ∃ t,e=.returned (0:Int)/\t.p=q.p/\dR B w' t (d.jo.wrote i s.data.toList)/\Kept q.fp w w'/\(∀ r,t.v1.ownBlock=S r->q.v1.ownBlock=S r\/w<=r)/\t.bf=q.bf/\∀ r,t.v2.ownBlock=S r->q.v2.ownBlock=S r\/w<=r:=by
 obtain⟨c0,c1,c2,c3,c4,v⟩:=hd.cells;have b0:=v 1;have aL:=v 2;have az:=v 3;have aE:=v 4;have g0:decide ((i:Int)<0)=false:=by simp
 have g1:decide ((d.fl.length:Int)<=(i:Int))=false:=by simp;omega
 have aw:((s.size:Int) != 16)=false:=by simp;omega
 have g3:(d.fail==0)=false:=beq_eq_false_iff_ne.2 hf;obtain⟨i1,aa,a7,am,X⟩:=info_parts uS;obtain⟨Y,a1,a9,Z,ag⟩:=info_parts wu;obtain⟨aD,a0,a4,av,ax⟩:=hd.apart;have ar:q.p<w.heap.size:=(hd.lt q.p (.inl rfl)).2;have L:χ (d.pend.length+1<=maxLen):=by unfold χ maxLen;omega
 obtain⟨D,f⟩:∃ D,D=d.jo:=⟨_,rfl⟩;rw[<- f];by_cases T:d.fail = -1
 have l:d.jo=d:=by unfold DV.jo;rw[if_pos T]
 have g4:decide (0<d.fail)=false:=by simp;omega
 have c:χ (fE B w q d.fl d.pend.length (atS d.pend) d.pend.length (whS d.pend) D.fail (d.wr:Int)):=by rw[f,l];exact hd.inn
 have U:χ (∀ j y,([.int .i64 (i:Int)]:List υ)[j]?=S y->(w.alloc (.cells #[(i:Int)] 3)).cell? ((⟨w.heap.size,0,O⟩:Addr).add j)=S y):=cell_one_new _ _ _;have J:χ (Kept q.fp w (w.alloc (.cells #[(i:Int)] 3))):=(Kept.refl _ _).alloc _;have E:χ ((w.alloc (.cells #[(i:Int)] 3)).heap.size=w.heap.size+1):=by unfold χ;simp
 have V:χ (D.fl=d.fl/\D.pend=d.pend/\D.wr=d.wr):=by rw[f,l];exact⟨rfl,rfl,rfl⟩
 rotate_left
 have l:d.jo=d.failing (d.fail-1):=by unfold DV.jo;rw[if_neg T]
 have g4:decide (0<d.fail)=true:=by simp;omega
 have c:χ (fE B (w.setCell ⟨q.p,3,O⟩ (d.fail-1:Int)) q d.fl d.pend.length (atS d.pend) d.pend.length (whS d.pend) D.fail (d.wr:Int)):=by rw[f,l];exact(hd.failing (d.fail-1)).inn
 have U:χ (∀ j y,([.int .i64 (i:Int)]:List υ)[j]?=S y->((w.setCell ⟨q.p,3,O⟩ (d.fail-1:Int)).alloc (.cells #[(i:Int)] 3)).cell? ((⟨w.heap.size,0,O⟩:Addr).add j)=S y):=IW _ _ _ _ _;have J:χ (Kept q.fp w ((w.setCell ⟨q.p,3,O⟩ (d.fail-1:Int)).alloc (.cells #[(i:Int)] 3))):=((Kept.refl _ _).setCell (.inl (.inl rfl)) _).alloc _;have E:χ (((w.setCell ⟨q.p,3,O⟩ (d.fail-1:Int)).alloc (.cells #[(i:Int)] 3)).heap.size=w.heap.size+1):=by unfold χ;simp[World.setCell]
 have V:χ (D.fl=d.fl/\D.pend=d.pend/\D.wr=d.wr):=by rw[f,l];exact⟨rfl,rfl,rfl⟩
 all_goals
  have a6:=ah (c.out.o1.alloc (.cells #[(i:Int)] 3));have af:=ah c.out.cells.1;have ao:=ah c.out.cells.2.1;have a8:=ah c.out.cells.2.2.1;have a5:=ah (ja4 hB J.out.size);clear hd v l f;go_enter Tryz.func109,Tryz.ntmps109
  go_wp2_with (first
   | (at_builtin;refine wpList_append_lies _ (by rfl) _ _ 88 (by rfl) B 3 i1 (.int .i64 0) 1 8 Tryz.underlying88 aa a7 am X rfl (by decide) q.v1 d.pend.length (atS d.pend) (by rfl) a6.out ⟨w,0,O⟩ 1 1 [(i:Int)] (by rfl) (by rfl) U.out (λu n=>by simp at n;subst n;rfl) (by decide) L.out (by omega) a5.out (w.heap.size+1) E.out ?_
      intro g k a N A Q ab;have b:=λj=>c.out.grow A a0 j
      have z1:=(b 1).1.trans af.out;have z2:=(b 2).1.trans ao.out;have z4:=(b 4).1.trans a8.out;have f1:=(b 1).2;have f2:=(b 2).2;have f4:=(b 4).2;have x:χ (fE B (a.setCell ⟨q.p,1,O⟩ (.slice (S ⟨g,0,O⟩) (d.pend.length+1) k)) {q with v1:=(.slice (S ⟨g,0,O⟩) (d.pend.length+1) k)} d.fl (d.pend.length+1) (atS d.pend++[.int .i64 (i:Int)]) d.pend.length (whS d.pend) D.fail (d.wr:Int)):=c.out.app1 _ _ _ N A;have ai:χ (((a.setCell ⟨q.p,1,O⟩ (.slice (S ⟨g,0,O⟩) (d.pend.length+1) k)).alloc (.cells #[s] 9)).ownsRow B 9 1 q.v2 d.pend.length (whS d.pend)):=x.out.o2.alloc _;have ac:χ (∀ j y,([.string s]:List υ)[j]?=S y->((a.setCell ⟨q.p,1,O⟩ (.slice (S ⟨g,0,O⟩) (d.pend.length+1) k)).alloc (.cells #[s] 9)).cell? ((⟨a.heap.size,0,O⟩:Addr).add j)=S y):=IW _ _ _ _ _;have R:χ (((a.setCell ⟨q.p,1,O⟩ (.slice (S ⟨g,0,O⟩) (d.pend.length+1) k)).alloc (.cells #[s] 9)).heap.size=a.heap.size+1):=by unfold χ;simp[World.setCell]
      have an:=A.size;have ad:χ (w.heap.size<=a):=by unfold χ;have:=E.out;omega
      have ap:χ (B<=((a.setCell ⟨q.p,1,O⟩ (.slice (S ⟨g,0,O⟩) (d.pend.length+1) k)).alloc (.cells #[s] 9)).heap.size):=by unfold χ;rw[R.out];have:=E.out;omega
      have a2:χ (Kept q.fp w (a.setCell ⟨q.p,1,O⟩ (.slice (S ⟨g,0,O⟩) (d.pend.length+1) k))):=(J.out.grown A (λr e=>.inl (.inr (.inr (.inl e))))).setCell (.inl (.inl rfl)) _;have ae:χ (q.v1.ownBlock=S g\/g=w.heap.size+1):=Q
      clear b N A Q ab an)
   | (at_builtin;refine wpList_append_lies _ (by rfl) _ _ 44 (by rfl) B 9 Y (.string ⟨#[]⟩) 1 16 Tryz.underlying44 a1 a9 Z ag rfl (by decide) q.v2 d.pend.length (whS d.pend) (by rfl) ai.out ⟨a,0,O⟩ 1 1 [s] (by rfl) (by rfl) ac.out (λu n=>by simp at n;subst n;rfl) (by decide) L.out (by omega) ap.out (a.heap.size+1) R ?_
      intro g2 o m M C G aq;have z:=λj=>x.grow C a4 j
      have y2:m.cell? ⟨q.p,2,O⟩=S q.v2:=(z 2).1.trans x.cells.2.1;have y4:m.cell? ⟨q.p,4,O⟩=S (.int .i64 (d.wr:Int)):=(z 4).1.trans x.cells.2.2.1;have e2:m.frozen? ⟨q.p,2,O⟩=false:=(z 2).2;have e4:m.frozen? ⟨q.p,4,O⟩=false:=(z 4).2;have al:χ (fE B (m.setCell ⟨q.p,2,O⟩ (.slice (S ⟨g2,0,O⟩) (d.pend.length+1) o)) {q with v1:=(.slice (S ⟨g,0,O⟩) (d.pend.length+1) k),v2:=.slice (S ⟨g2,0,O⟩) (d.pend.length+1) o} d.fl (d.pend.length+1) (atS d.pend++[.int .i64 (i:Int)]) (d.pend.length+1) (whS d.pend++[.string s]) D.fail (d.wr:Int)):=x.uH _ _ g2 o M C (by rcases G with H|H;exact .inl H;exact .inr (by rw[H];simp[World.setCell]));have a3:χ (Kept q.fp w (m.setCell ⟨q.p,2,O⟩ (.slice (S ⟨g2,0,O⟩) (d.pend.length+1) o))):=((a2.alloc _).grown C (λr e=>.inl (.inr (.inr (.inr e))))).setCell (.inl (.inl rfl)) _
      have W:χ (q.v2.ownBlock=S g2\/w.heap.size<=g2):=by
       rcases G with h|h
       .exact .inl h
       .exact .inr (by have:=ad.out;omega)
      clear z M C G aq))
  go_ret
  refine⟨{q with v1:=(.slice (S ⟨g,0,O⟩) (d.pend.length+1) k),v2:=.slice (S ⟨g2,0,O⟩) (d.pend.length+1) o},rfl,rfl,?_,a3.setCell (.inl (.inl rfl)) _,λr e=>by
   have I:g=r:=by simpa [Value.ownBlock] using e
   rcases ae with h|h
   .left;rw[h,I]
   .right;omega,rfl,λr e=>by
   have I:g2=r:=by simpa [Value.ownBlock] using e
   rcases W with h|h
   .left;rw[h,I]
   .right;omega⟩
  have F:=al;obtain⟨d1,K,P⟩:=V;rw[<- d1,<- K,<- P] at F;rw[<- K,<- P];rw[<- xU s] at F;exact fE.wr (d:=D) i s.data.toList F
def KR(w:ω)(k:Nat):Prop:=∃ a t,w.heap[k]?=S (.cells a t (0,0))/\(t=127\/t=9\/t=3\/t=146)
def SR(B:Gd)(w:ω)(k:Nat):Prop:=¬B.g k/\KR w k
def fM(B:Gd)(w w':ω):Prop:=Kept (SR B w) w w'
def KR.of{w w' k}(e:w'.heap[k]?=w.heap[k]?)(h:KR w' k):KR w k:=by
 obtain⟨a,t,c,b⟩:=h;exact⟨a,t,by simp_all,b⟩
theorem fM.trans{B a b c}(h:fM B a b)(k:fM B b c):fM B a c:=by
 refine⟨k.os.trans h.os,k.tape.trans h.tape,k.output.trans h.output,ja4 h.size k.size,λi f d=>?_⟩;have e:=h.block i f d;rw[k.block i (ja8 f h.size) (λs=>d ⟨s.1,s.2.of e⟩),e]
theorem fM.refl(B w):fM B w w:=Kept.refl _ _
def fM.of_below{B}{w w':ω}(h:β w w w'):fM B w w':=Below.kept h
structure dh(B:Gd)(w:ω)(q:Rh)(d:DV):Prop extends dR 0 w q d where
 out:∀ k,q.fp k->¬B.g k
theorem dh.keep{B w w' q d}(hd:dh B w q d)(a:∀ k,q.fp k->w'.heap[k]?=w.heap[k]?):dh B w' q d:=⟨hd.todR.keep a,hd.out⟩
def dR.base0{B w q d}(hd:dR B w q d):dR 0 w q d:=⟨ja7 _,hd.blk,ownsRow_base hd.of (ja7 _),ownsRow_base hd.o1 (ja7 _),ownsRow_base hd.o2 (ja7 _),hd.ne⟩
def dR.toG{B w q d}(hd:dR B w q d):dh B w q d:=⟨hd.base0,λk a=>Nat.not_lt.2 (hd.lt k a).1⟩
def dh.nilled{B w w' q d b}(hd:dh B w q d)(c:dR 0 w' {q with v1:=.slice O 0 0,v2:=.slice O 0 0} b):dh B w' {q with v1:=.slice O 0 0,v2:=.slice O 0 0} b :=
 ⟨c,λk a=>by
  rcases a with a|a|a|a
  .exact hd.out k (.inl a)
  .exact hd.out k (.inr (.inl a))
  .cases a
  .cases a⟩
def fM.box{B w w'}(h:fM B w w'){k:Nat}{a t}(b:w.heap[k]?=S (.cells a t (0,0)))(d:¬(t=127\/t=9\/t=3\/t=146)):w'.heap[k]?=S (.cells a t (0,0)):=by
 rw[h.block k (lt_of_some b) (λs=>?_)]
 .exact b
 .obtain⟨c2,t2,c,p⟩:=s.2;simp_all
def dh.inR{B w q d}(hd:dh B w q d):∀ k,q.fp k->SR B w k:=by
 intro k a;obtain⟨b,t,e,p⟩:=hd.kinds k a;exact⟨hd.out k a,b,t,e,by rcases p with p|p|p;exact .inl p;exact .inr (.inl p);simp_all⟩
def dh.Sv{B w w' q d}(hd:dh B w q d)(a:Kept q.fp w w'):fM B w w':=a.mono λk _ b=>hd.inR k b
structure Qh where
 p:Nat
 d:Rh
 vt:υ
 vh:υ
structure aU(B:Gd)(w:ω)(q:Qh)(v:IV):Prop where
 blk:w.heap[q.p]?=S (.cells #[q.d.p,v.h.c,v.h.p,v.h.b,q.vt,q.vh] 146 (0,0))
 pB:¬B.g q.p
 dev:dh B w q.d v.d
 own:w.ownsRow 0 168 2 q.vt v.t.length (bD v.t)
 held:w.ownsRow 0 3 1 q.vh v.held.length (kX v.held)
 ne:∀ k,q.vh.ownBlock=S k->q.d.v1.ownBlock≠S k
 tB:∀ k,q.vt.ownBlock=S k->¬B.g k
 hB:∀ k,q.vh.ownBlock=S k->¬B.g k
def aU.cells{B w q v}(h:aU B w q v) :
  w.cell? ⟨q.p,0,O⟩=S (q.d.p:υ)/\w.cell? ⟨q.p,1,O⟩=S (v.h.c:υ)/\w.cell? ⟨q.p,2,O⟩=S (v.h.p:υ)/\w.cell? ⟨q.p,3,O⟩=S (v.h.b:υ) /\
  w.cell? ⟨q.p,4,O⟩=S q.vt/\w.cell? ⟨q.p,5,O⟩=S q.vh/\∀ j,w.frozen? ⟨q.p,j,O⟩=false:=by
 have a:=h.blk;refine⟨?_,?_,?_,?_,?_,?_,λj=>frozen_of_row w q.p j _ _ a⟩<;>rw[cell_of_row w q.p _ _ _ _ a]<;>rfl
theorem aU.keep{B w w' q v}(h:aU B w q v)(a:w'.heap[q.p]?=w.heap[q.p]?)(c:∀ k,q.vt.ownBlock=S k->w'.heap[k]?=w.heap[k]?)(b:∀ k,q.vh.ownBlock=S k->w'.heap[k]?=w.heap[k]?)(hd:∀ k,q.d.fp k->w'.heap[k]?=w.heap[k]?):aU B w' q v :=
 ⟨by rw[a];exact h.blk,h.pB,h.dev.keep hd,bg h.own c,bg h.held b,h.ne,h.tB,h.hB⟩
def aU.below{B w w' q v}(h:aU B w q v)(a:β w w w'):aU B w' q v :=
 h.keep (a.block _ (lt_of_some h.blk)) (λk e=>a.block _ (h.own.lt k e).2) (λk e=>a.block _ (h.held.lt k e).2) λk b=>a.block _ (h.dev.lt k b).2
def vw{B n m q d}(i)(s:ByteArray)(w)(hd:dh B w q d)(f:d.fine n m)(E:m<1000000000)(u:B.top<=w)(o:s.size=16)(D:i<n) :
  κ Tryz.prog 109 #[q.p,(i:Int),s] w λe w' =>
   ∃ g,e=.returned d.aV/\g.p=q.p/\dh B w' g (d.put i s.data.toList)/\Kept q.fp w w'/\∀ r,g.v1.ownBlock=S r->q.v1.ownBlock=S r\/w<=r:=by
 have C:=f.len;have A:=f.wr;unfold DV.put DV.aV;by_cases c:d.fail=0
 .rw[if_pos c,if_pos c];refine(VK i s w hd.todR o (by omega) c).mono ?_;rintro e w' ⟨rfl,j,l⟩;exact⟨q,rfl,rfl,⟨j,hd.out⟩,l,λr v=>.inl v⟩
 .rw[if_neg c,if_neg c];refine(VJ i s w hd.todR (ja7 _) o (by omega) c f.ok.f1 f.ok.f2 f.ok.few (by omega)).mono ?_;rintro e w' ⟨g,rfl,j,l,x,t,z,y⟩;refine⟨g,rfl,j,⟨l,λk a=>?_⟩,x,t⟩;rcases a with a|a|a|a
  .exact hd.out k (.inl (by rw[a,j]))
  .exact hd.out k (.inr (.inl (by rw[a,z])))
  .rcases t k a with b|b
   .exact hd.out k (.inr (.inr (.inl b)))
   .exact B.fresh u b
  .rcases y k a with b|b
   .exact hd.out k (.inr (.inr (.inr b)))
   .exact B.fresh u b
def aU.sW{B w w' q v}(h:aU B w q v){c g}(hd:dh B w' c g)(l:c.p=q.d.p)(a:Kept q.d.fp w w')(o:∀ r,c.v1.ownBlock=S r->q.d.v1.ownBlock=S r\/w<=r) :
  aU B w' {q with d:=c} {v with d:=g}/\fM B w w':=by
 have s:¬q.d.fp q.p:=λe=>by
  obtain⟨j,t,b,p⟩:=h.dev.kinds _ e;rw[h.blk] at *
  cases b;simp_all
 have u:∀ k,q.vt.ownBlock=S k->¬q.d.fp k:=λk a e=>by
  obtain⟨j,t,b,p⟩:=h.dev.kinds _ e;obtain⟨c2,f⟩:=ownsRow_kind h.own k a;rw[f] at b;cases b;simp_all
 have m:∀ k,q.vh.ownBlock=S k->¬q.d.fp k:=λk a e=>by
  obtain⟨c2,f⟩:=ownsRow_kind h.held k a;rcases e with e|e|e|e
  .subst e;have:=h.dev.blk
   simp_all
  .subst e;obtain⟨_,c3,n,_⟩:=fB h.dev.of;simp_all
  .exact h.ne k a e
  .obtain⟨c3,n⟩:=ownsRow_kind h.dev.o2 k e;simp_all
 refine⟨⟨?_,h.pB,hd,bg h.own λk e=>a.block _ (h.own.lt k e).2 (u k e),bg h.held λk e=>a.block _ (h.held.lt k e).2 (m k e),λk b f=>?_,h.tB,h.hB⟩,h.dev.Sv a⟩
 .rw[l,a.block _ (lt_of_some h.blk) s];exact h.blk
 .rcases o k f with i|i
  .exact h.ne k b i
  .have:=(h.held.lt k b).2;omega
def aU.pX{B w q v}(h:aU B w q v)(i u){q2 v2}(n:q2.p=q.p)(j:q2.d=q.d)(hd:v2.d=v.d)
  (A:(#[q.d.p,v.h.c,v.h.p,v.h.b,q.vt,q.vh]:Array υ).setIfInBounds i u = #[.pointer (S ⟨q.d.p,0,O⟩),.int .i64 v2.h.c,.int .i64 v2.h.p,.int .i64 v2.h.b,q2.vt,q2.vh])
  (m:w.ownsRow 0 168 2 q2.vt v2.t.length (bD v2.t)) (l:w.ownsRow 0 3 1 q2.vh v2.held.length (kX v2.held)) (E:∀ k,q2.vh.ownBlock=S k->q.d.v1.ownBlock≠S k) (y:∀ k,q2.vt.ownBlock=S k->¬B.g k) (o:∀ k,q2.vh.ownBlock=S k->¬B.g k) :
  aU B (w.setCell ⟨q.p,i,O⟩ u) q2 v2/\fM B w (w.setCell ⟨q.p,i,O⟩ u):=by
 have f:=h.blk
 have z:∀ k,q.d.fp k->k≠q.p:=λk a e=>by
  obtain⟨D,t,x,p⟩:=h.dev.kinds _ a;rw[e,f] at *
  cases x;simp_all
 have C:∀ k,q2.vt.ownBlock=S k->k≠q.p:=λk a e=>by
  obtain⟨c2,r⟩:=ownsRow_kind m k a;simp_all
 have s:∀ k,q2.vh.ownBlock=S k->k≠q.p:=λk a e=>by
  obtain⟨c2,r⟩:=ownsRow_kind l k a;simp_all
 refine⟨⟨?_,by rw[n];exact h.pB,?_,bg m λk e=>heap_setCell_other _ _ _ _ (C k e),bg l λk e=>heap_setCell_other _ _ _ _ (s k e),?_,y,o⟩,?_⟩
 .rw[n,j,heap_setCell_same w q.p i _ _ u f,A]
 .rw[j,hd];exact h.dev.keep λk a=>heap_setCell_other _ _ _ _ (z k a)
 .simp_all
 .exact(Kept.refl _ w).setCell  (.inl ⟨h.pB,_,_,f,.inr (.inr (.inr rfl))⟩) _
def JC{B w q v}(h:aU B w q v):(∃ a cap,q.vt=.slice a v.t.length cap)/\∃ a cap,q.vh=.slice a v.held.length cap:=⟨ownsRow_shape h.own,ownsRow_shape h.held⟩
def Qh.fp(q:Qh)(k:Nat):Prop:=k=q.p\/q.vt.ownBlock=S k\/q.vh.ownBlock=S k\/q.d.fp k
theorem aU.out{B w q v}(h:aU B w q v):∀ k,q.fp k->¬B.g k:=by
 rintro k (rfl|a|a|a)
 .exact h.pB
 .exact h.tB k a
 .exact h.hB k a
 .exact h.dev.out k a
def aU.iH{B w q v}(h:aU B w q v):∀ k,q.fp k->k<w:=by
 rintro k (rfl|a|a|a)
 .exact lt_of_some h.blk
 .exact(h.own.lt k a).2
 .exact(h.held.lt k a).2
 .exact(h.dev.lt k a).2
def aU.re{B C w q v}(h:aU B w q v)(b:∀ k,q.fp k->¬C.g k):aU C w q v :=
 ⟨h.blk,b _ (.inl rfl),⟨h.dev.todR,λk a=>b k (.inr (.inr (.inr a)))⟩,h.own,h.held,h.ne,λk a=>b k (.inr (.inl a)),λk a=>b k (.inr (.inr (.inl a)))⟩
def aU.aY{B w w' q v}(h:aU B w q v)(a:∀ k,q.fp k->w'.heap[k]?=w.heap[k]?):aU B w' q v :=
 h.keep (a _ (.inl rfl)) (λk e=>a k (.inr (.inl e))) (λk e=>a k (.inr (.inr (.inl e)))) λk b=>a k (.inr (.inr (.inr b)))
def yS(n:Nat)(w)(t:n<=1000) :
  κ Tryz.prog 43 #[(n:Int)] w λe w'=>e=.returned (.string (bytesOf (List.replicate n 0)))/\β w w w':=by
 obtain⟨a,r,g,o,b⟩:=info_parts BZ;obtain⟨c,s,d,i⟩:=run_make_full  w _ 185 5 a _ 1 Tryz.underlying185 r g o .i64 .i64 n (by rw[b];omega) (by unfold maxLen;omega) (ja1 _)
 have f:c.rangeAt _ 0 (bM (List.replicate n 0)):=λj v m=>by
  have u:j<n:=by
   rcases jav j n with q|q
   .exact q
   .rw[jaj (by rw[pV,jam];exact q)] at *;cases m
  rw[jak,d.cellAt j (by omega)]
  have e:(madeCells (Value.int .u8 0).cells (n*1)).toList=bM (List.replicate n 0):=by
   rw[Nat.mul_one];show(madeCells #[Value.int .u8 0] n).toList=_
   rw[toList_madeCells_one];simp[bM]
  simp_all
 have x:=vT n n (by simp) f;have l:χ _:=((ja0 _ _).grown i (ja1 _) (λk e=>by cases e));go_enter Tryz.func43,Tryz.ntmps43;go_wp2;go_ret;exact⟨rfl,l⟩
def uq{B q v}(c:Int)(w)(h:aU B w q v)(d:(v.t.length:Int)=v.h.c) :
  κ Tryz.prog 185 #[q.p,c] w λe w'=>e=.returned (.bool (v.there c))/\w'=w:=by
 obtain⟨i,c1,c2,c3,c4,f,g⟩:=h.cells;rw[<- d] at c1;unfold IV.there;generalize v.t.length=n at c1 |-;by_cases a:0<=c
 .have b:χ (decide (0<=c/\c<(n:Int))=decide (c<(n:Int))):=by unfold χ;simp[a]
  go_enter Tryz.func185,Tryz.ntmps185;go_wp2;go_ret;exact⟨qI b.symm,rfl⟩
 .have j  := decide_eq_false a;have b:χ (decide (0<=c/\c<(n:Int))=false):=by unfold χ;simp[a]
  go_enter Tryz.func185,Tryz.ntmps185;go_wp2;go_ret;exact⟨by first|exact qI b.symm|rfl,rfl⟩
def Bz{B q v}(k:Nat)(w)(h:aU B w q v)(b:v.h.ok=true)(n:k<=40) :
  κ Tryz.prog 235 #[q.p,(k:Int)] w λe w'=>e=.returned (dJ v.h k:Int)/\w'=w:=by
 obtain⟨o,c1,c2,c3,c4,g,m⟩:=h.cells;have j:=HV.dS b;have d:χ _:=λW=>by have:=qG v.h.c.toNat W (by omega);rw[show((v.h.c.toNat:Nat):Int)=v.h.c by omega] at *;exact this
 have a:χ (dJ v.h k=1+aB v.h.c.toNat+4*k):=rfl;have f:aB v.h.c.toNat<=10:=by unfold aB;omega
 generalize aB v.h.c.toNat=i at *
 generalize dJ v.h k=l at *
 generalize v.h.c=c at *
 go_enter Tryz.func235,Tryz.ntmps235;go_wp2_with (go_at_call 107;refine cSt (d _) ?_)
 go_ret;exact⟨nU (by have:=a.out;omega),rfl⟩
def zu(c p b w)(k:HV.ok ⟨c,p,b⟩=true) :
  κ Tryz.prog 34 #[.agg #[c,p,b]] w λe w'=>e=.returned (aQ ⟨c,p,b⟩:Int)/\β w w w':=by
 have f:=HV.dS k;simp only at *
 have m:χ _:=λW=>by have:=qG c.toNat W (by omega);rw[show((c.toNat:Nat):Int)=c by omega] at *;exact this
 have j:χ ((aQ ⟨c,p,b⟩:Int)=1+(aB c.toNat:Int)+4*p):=by unfold χ aQ dJ;simp only;omega
 have o:aB c.toNat<=10:=by unfold aB;omega
 have n:=f.2.2.1;have t:=f.2.2.2.1;generalize aB c.toNat=d at *
 generalize (aQ _:Int)=r at *
 have i:(w.alloc (.cells #[c,p,b] 67)).cell? ⟨w,0,O⟩=S (c:υ):=by rw[cell_of_row _ _ _ _ _ _ (heap_alloc_new w _)];rfl
 have l:(w.alloc (.cells #[c,p,b] 67)).cell? ⟨w,1,O⟩=S (p:υ):=by rw[cell_of_row _ _ _ _ _ _ (heap_alloc_new w _)];rfl
 have g:χ (β w w (w.alloc (.cells #[c,p,b] 67))):=(ja0 _ _).alloc (ja1 _) _;go_enter Tryz.func34,Tryz.ntmps34;go_wp2;generalize w.alloc _=a at *
 have s:IntKind.i64.wrap _=1+(d:Int):=ja9 _ (by omega);have v2:IntKind.i64.wrap (4*p)=4*p:=ja9 _ (by omega);have q:IntKind.i64.wrap _=1+(d:Int)+4*p:=ja9 _ (by omega)
 go_region_held3 (λW=>β a a W/\W.cell? ⟨w,0,O⟩=S (c:υ)/\W.cell? ⟨w,1,O⟩=S (p:υ))
  (first|(exact⟨(jba (ja0 _ _)),i,l⟩)|assumption)
  (first
    | (go_at_call 107;refine cEq (m _) λw' rfl=>?_))
 all_goals
  go_wp2;go_ret;exact⟨nU (by have:=j.out;omega),g.trans ((by assumption:β _ a _/\_).1.mono g.size)⟩
def aU.jZ{B w q v}(h:aU B w q v){c}(j:c<v.t.length) :
  ∃ g cap,q.vt=.slice (S ⟨g,0,O⟩) v.t.length cap/\g<w/\w.cell? ⟨g,c*2,O⟩=S (.int .i64 (v.t.getD c (0,0)).1)/\w.cell? ⟨g,c*2+1,O⟩=S (.int .i64 (v.t.getD c (0,0)).2):=by
 obtain⟨g,cap,b,_,i⟩:=h.own.form (by omega);have a:=h.own;rw[b] at *
 obtain⟨f,d⟩:=vW v.t c j;refine⟨g,cap,b,i,?_,?_⟩
 .rw[a.cellAt _ (by omega)];exact f
 .rw[a.cellAt _ (by omega)];exact d
def aU.QX{B w q v}(h:aU B w q v){k}(a:k<v.held.length) :
  ∃ g cap,q.vh=.slice (S ⟨g,0,O⟩) v.held.length cap/\w.cell? ⟨g,k,O⟩=S (.int .i64 (v.held.getD k 0:Int)):=by
 obtain⟨g,cap,b,c,_⟩:=kE h.held k a;refine⟨g,cap,b,?_⟩;rw[c];simp[kX,ja5 a,List.getD]
def any_take_succ{α:Type}(l:List α)(f d k)(h:k<l.length):(l.take (k+1)).any f=((l.take k).any f||f (l.getD k d)):=by
 rw[jaK h,List.any_append];simp_all
def Es{α:Type}(l:List α)(f k)(h:(l.take k).any f=true):l.any f=true:=by
 rw[List.any_eq_true] at *
 obtain⟨x,b,a⟩:=h;exact⟨x,List.mem_of_mem_take b,a⟩
def UJ{B q v}(p:Nat)(w)(h:aU B w q v)(hl:v.t.length<=32)(hh:v.held.length<=1000000000) :
  κ Tryz.prog 265 #[q.p,(p:Int)] w λe w'=>e=.returned (.bool (v.jE p))/\w'=w:=by
 obtain⟨c0,c1,c2,c3,c4,P,fz⟩:=h.cells;obtain⟨⟨a,cap,N⟩,a5,a9,J⟩:=JC h;have a3:=ah N;have a2:=ah J;rw[N] at c4;rw[J] at P;have I:=ah h;have K:χ (∀ k,k<v.t.length->(v.t.take (k+1)).any (λe=>decide (e=(2,(p:Int))))=((v.t.take k).any (λe=>decide (e=(2,(p:Int))))||decide (v.t.getD k (0,0)=(2,(p:Int))))):=λk b=>any_take_succ v.t _ (0,0) k b
 have V:χ (∀ k,(v.t.take k).any (λe=>decide (e=(2,(p:Int))))=true->v.jE p=false):=λk b=>by
  unfold IV.jE IV.Ad;rw[Es _ _ k b];rfl
 have E:χ ((v.t.take v.t.length).any (λe=>decide (e=(2,(p:Int))))=false->v.jE p = !v.pK p):=λb=>by
  unfold IV.jE IV.Ad;rw[jaT] at *
  rw[b];rfl
 have M:χ (∀ k,k<v.held.length->(v.held.take (k+1)).any (λx=>decide (x=p))=((v.held.take k).any (λx=>decide (x=p))||decide (v.held.getD k 0=p))):=λk b=>any_take_succ v.held _ 0 k b
 have a1:=ah λk (b:(v.held.take k).any (λx=>decide (x=p))=true)=>Es _ _ k b
 have R:χ ((v.held.take v.held.length).any (λx=>decide (x=p))=false->v.pK p=false):=λb=>by rw[jaT] at *;exact b
 generalize hn:v.t.length=n at c4 hl K E;generalize hm:v.held.length=m at P hh M R;obtain⟨U,r⟩:∃ U:Nat->Bool,U=λk=>(v.t.take k).any (λe=>decide (e=(2,(p:Int)))):=⟨_,rfl⟩
 obtain⟨G,o⟩:∃ G:Nat->Bool,G=λk=>(v.held.take k).any (λx=>decide (x=p)):=⟨_,rfl⟩
 have a4:χ (∀ k,k<n->U (k+1)=(U k||decide (v.t.getD k (0,0)=(2,(p:Int))))):=λk b=>by rw[r];exact K k b
 have a8:χ (∀ k,U k=true->v.jE p=false):=λk b=>by rw[r] at *;exact V k b
 have X:χ (U n=false->v.jE p = !v.pK p):=λb=>by rw[r] at *;exact E b
 have a7:χ (U 0=false):=by rw[r];exact rfl
 have Z:χ (∀ k,k<m->G (k+1)=(G k||decide (v.held.getD k 0=p))):=λk b=>by rw[o];exact M k b
 have Y:χ (∀ k,G k=true->v.pK p=true):=λk b=>by rw[o] at *;exact a1 k b
 have a6:χ (G m=false->v.pK p=false):=λb=>by rw[o] at *;exact R b
 have a0:χ (G 0=false):=by rw[o];exact rfl
 generalize v.jE p=y at *
 generalize v.pK p=hb at *
 go_enter Tryz.func265,Tryz.ntmps265;go_wp2;go_loop [5] (λi=>∃ k:Nat,k<=n/\i=.int .i64 k/\U k=false) (λi=>n-(intOf i).toNat)
 case atStart=>exact⟨0,ja7 _,rfl,a7⟩
 case round =>
  obtain⟨k,b,rfl,L⟩:=hrel;by_cases H:k<n
  .obtain⟨g,cp,D,_,t0,t1⟩:=I.jZ (c:=k) (by rw[hn];exact H);rw[a3.out] at *
   injection D with hv1 hv2 hv3;subst hv1;have A:=a4 k H;rw[L,jbT] at *
   have k0:(0:Int)<=(k:Int):=by omega
   have k1:(k:Int)<(n:Int):=by omega
   generalize v.t.getD k (0,0)=e at *
   obtain⟨y0,y1⟩:=e;simp only at *
   have f:=ah A;by_cases u:y0=2
   .have g2:(y0==2)=true:=by simpa using u
    by_cases d:y1=(p:Int)
    .have g3:(y1==(p:Int))=true:=by simpa using d
     have s:χ (y=false):=(a8 (k+1)) (by rw[f.out];exact decide_eq_true (by rw[u,d]));go_wp2;go_ret;exact⟨qI s.symm,rfl⟩
    .have g3:(y1==(p:Int))=false:=by simpa using d
     have l:χ (U (k+1)=false):=by unfold χ;rw[f.out];exact decide_eq_false (λe=>d (by injection e))
     go_wp2;go_round
     case rel=>exact⟨k+1,by omega,by go_num,l⟩
     case measure=>simp[intOf];omega
   .have g2:(y0==2)=false:=by simpa using u
    have l:χ (U (k+1)=false):=by unfold χ;rw[f.out];exact decide_eq_false (λe=>u (by injection e))
    go_wp2;go_round
    case rel=>exact⟨k+1,by omega,by go_num,l⟩
    case measure=>simp[intOf];omega
  .have T:k=n:=by omega
   subst T;have s:=ah (X L);go_wp2;go_loop [6] (λi=>∃ j:Nat,j<=m/\i=.int .i64 j/\G j=false) (λi=>m-(intOf i).toNat)
   case atStart=>exact⟨0,ja7 _,rfl,a0⟩
   case round =>
    obtain⟨j,hj,rfl,F⟩:=hrel;by_cases Q:j<m
    .obtain⟨g,cp,D,t0⟩:=I.QX (k:=j) (by rw[hm];exact Q);rw[a2.out] at *
     injection D with hv1 hv2 hv3;subst hv1;have A:=Z j Q;rw[F,jbT] at *
     have j0:(0:Int)<=(j:Int):=by omega
     have j1:(j:Int)<(m:Int):=by omega
     generalize v.held.getD j 0=z at *
     have f:=ah A;by_cases d:z=p
     .have g3:((z:Int)==(p:Int))=true:=by simp;omega
      have C:χ (y=false):=by unfold χ;rw[s.out,(Y.out (j+1)) (by rw[f.out];exact decide_eq_true d)];rfl
      go_wp2;go_ret;exact⟨qI C.symm,rfl⟩
     .have g3:((z:Int)==(p:Int))=false:=by simp;omega
      have l:χ (G (j+1)=false):=by unfold χ;rw[f.out];exact decide_eq_false d
      go_wp2;go_round
      case rel=>exact⟨j+1,by omega,by go_num,l⟩
      case measure=>simp[intOf];omega
    .have W:j=m:=by omega
     subst W;have C:χ (y=true):=by unfold χ;rw[s.out,a6.out F];rfl
     go_wp2;go_ret;exact⟨qI C.symm,rfl⟩
structure Led(B:Gd)(w:ω)(q q':Qh)(V:IV)(w':ω):Prop where
 p:q'.p=q.p
 dp:q'.d.p=q.d.p
 vt:∀ k,q'.vt.ownBlock=S k->q.vt.ownBlock=S k\/w.heap.size<=k
 rim:aU B w' q' V
 kept:fM B w w'
def iZ(B:Gd)(w:ω)(q:Qh)(V:IV)(f:Int)(e:Ending)(w':ω):Prop:=∃ a:Qh,e=.returned f/\Led B w q a V w'
theorem Led.refl{B w q v}(h:aU B w q v):Led B w q q v w:=⟨rfl,rfl,λ_ a=>.inl a,h,fM.refl _ _⟩
theorem Led.trans{B w c g q d q2 j f}(a:Led B w q d j c)(b:Led B c d q2 f g):Led B w q q2 f g :=
 ⟨b.p.trans a.p,b.dp.trans a.dp,λk i=>by
  rcases b.vt k i with h|h
  .exact a.vt k h
  .exact .inr (ja4 a.kept.size h),b.rim,fM.trans a.kept b.kept⟩
theorem Led.below{B w a q v}(h:aU B w q v)(b:β w w a):Led B w q q v a:=⟨rfl,rfl,λ_ c=>.inl c,h.below b,fM.of_below b⟩
def Led.dev{B w w' q v}(h:aU B w q v){a f}(hd:dh B w' a f)(c:a.p=q.d.p)(b:Kept q.d.fp w w')(i:∀ r,a.v1.ownBlock=S r->q.d.v1.ownBlock=S r\/w<=r) :
  Led B w q {q with d:=a} {v with d:=f} w':=by
 obtain⟨j,g⟩:=h.sW hd c b i;exact⟨rfl,c,λ_ b=>.inl b,j,g⟩
def yI{B n m q v}(w)(h:aU B w q v)(hd:v.d.fine n m) :
  κ Tryz.prog 120 #[q.p] w λe w'=>∃ l,e=.returned (.tuple #[])/\Led B w q l v.flush w':=by
 obtain⟨y,c1,c2,c3,c4,i,x⟩:=h.cells;have b:=ah h;go_enter Tryz.func120,Tryz.ntmps120;go_wp2_with fail;refine(zo w h.dev.todR hd.ok hd.sn).mono ?_;rintro e t ⟨rfl,c,g⟩;have a:=Led.dev b (b.dev.nilled c) rfl g (λr e=>by cases e);obtain⟨f,s⟩:=a.rim.pX 5 _ (q2:={q with d:={q.d with v1:=.slice O 0 0,v2:=.slice O 0 0},vh:=.slice O 0 0}) (v2:=v.flush) rfl rfl rfl rfl a.rim.own (jaa _ _ _ _) (λk e=>by cases e) a.rim.tB (λk e=>by cases e);have j:χ (Led B w q {q with d:={q.d with v1:=.slice O 0 0,v2:=.slice O 0 0},vh:=.slice O 0 0} v.flush _):=⟨rfl,rfl,λ_ o=>.inl o,f,fM.trans a.kept s⟩;have i:=a.rim.cells.2.2.2.2.2.1;have u:=a.rim.cells.2.2.2.2.2.2 5;go_wp2;go_end0
 exact⟨_,rfl,j⟩
structure sU(B:Gd)(w:ω)(q:Qh)(v:IV)(d:DV)(q':Qh)(W:ω):Prop where
 led:Led B w q q' {v with d:=d} W
theorem sU.drew{B w W q a v d}(h:sU B w q v d a W):sU B w q v d a W.drew:=⟨h.led.trans (Led.below h.led.rim (ja0 _ _).drew)⟩
def PY(s k):(s.extract (16*k) (16*k+16)).data.toList=chunk s k:=by
 have:=FW s k
 rw[show k*16=16*k by omega,show(k+1)*16=16*k+16 by omega] at *
 exact this
def Ko{B m q v}(a c)(s:ByteArray)(w)(h:aU B w q v)(hd:v.d.fine v.d.fl.length m)(hm:m+4<1000000000)(hB:B.top<=w)(I:s.size=c*16)(hf:c<=4)(ha:a+c<=v.d.fl.length) :
    κ Tryz.prog 264 #[q.p,(a:Int),s] w (iZ B w q {v with d:=(v.d.puts a s c).1} (v.d.puts a s c).2):=by
  have a8:=hd.ok.n2;have z:=ah λk (f:k<=c)=>hd.puts I (by omega) (by omega) k f
  have t:=ah λk (f:(v.d.puts a s k).2=0)=>DV.zk f
  have Z:=ah λk (f:(v.d.puts a s k).2≠0) (F:k<=c)=>DV.zi f c F
  have Q:χ (∀ k,(v.d.puts a s k).2=0\/(v.d.puts a s k).2=7):=λk=>DV.rO _ _ _ _
  have C:χ (v.d.puts a s 0=(v.d,0)):=rfl;generalize v.d.puts a s=D at *
  have HI:=ah h;have a3:a+c<=200:=by omega
  go_enter Tryz.func264,Tryz.ntmps264;go_wp2;go_loopw [7] (λi wr=>∃(k:Nat) (y:Qh),k<=c/\i=.int .i64 k/\(D k).2=0/\sU B w q v (D k).1 y wr) (λi _=>c-(intOf i).toNat)
  case atStart=>exact⟨0,q,ja7 _,rfl,by rw[C.out],⟨by rw[C.out];exact Led.refl HI⟩⟩
  case round =>
    obtain⟨k,y,F,rfl,o,b⟩:=hrel;have k7:IntKind.i64.wrap (16*(k:Int))=16*(k:Int):=ja9 _ (by omega);by_cases a7:k<c
    . have r:=t k o;have A:=z k (by omega);have M:B.top<=wr.heap.size:=ja4 hB b.led.kept.size
      have HW:χ (∀ W:ω,sU B w q v (D k).1 y W->wr.heap.size<=W.heap.size->κ Tryz.prog 109 #[y.d.p,((a:Int)+(k:Int):Int),.string (s.extract (16*k) (16*k+16))] W λe w' =>
          ∃ l:Qh,e=.returned (.int .i64 (D (k+1)).2)/\sU B w q v (D (k+1)).1 l w'/\w'.cell? ⟨q.p,0,O⟩=S (y.d.p:υ)):=λW j P=>by
        have Y:=vw (a+k) (s.extract (16*k) (16*k+16)) W j.led.rim.dev A (by omega) (ja4 M P) (by rw[jaB];omega) (by omega);rw[show(((a+k:Nat):Int))=(a:Int)+(k:Int) by omega] at *
        refine Y.mono ?_;rintro e w' ⟨q2,rfl,u,K,U,L⟩;have x:=Led.dev j.led.rim K u U L;refine⟨{y with d:=q2},by rw[r],⟨?_⟩,?_⟩
        . rw[r,<- PY];exact j.led.trans x
        . have:=x.rim.cells.1
          rw[show({y with d:=q2}:Qh).p=q.p from j.led.p,show({y with d:=q2}:Qh).d.p=y.d.p from u] at *
          exact this
      have T:wr.cell? ⟨q.p,0,O⟩=S (y.d.p:υ):=by have:=b.led.rim.cells.1;rw[b.led.p] at *;exact this
      have n:=ah b;have k2:16*(k:Int)+16<=(s.size:Int):=by omega
      have k3:(0:Int)<=16*(k:Int):=by omega
      have k5:(16*(k:Int)).toNat=16*k:=by omega
      have k6:(16*(k:Int)+16).toNat=16*k+16:=by omega
      have k9:IntKind.i64.wrap (16*(k:Int)+16)=16*(k:Int)+16:=ja9 _ (by omega);have a5:IntKind.i64.wrap ((a:Int)+(k:Int))=(a:Int)+(k:Int):=ja9 _ (by omega);have a6:16*(k:Int)<=16*(k:Int)+16:=by omega
      have a1:16*(k:Int)<(s.size:Int):=by omega
      clear I r A o b z t;have a2  := T;have G:χ (sU B w q v (D k).1 y wr.drew/\wr.heap.size<=wr.drew.heap.size):=⟨n.drew,ja1 _⟩;go_wp2
      go_region_held3 (λW=>W.cell? ⟨q.p,0,O⟩=S (y.d.p:υ))
        (first|(exact a2)|assumption)
        (first
          | (go_at_call 109;refine(HW _ G.1 G.2).mono ?_;rintro e w3 ⟨l,rfl,X,a4⟩))
      have J:=ah X;by_cases g:(D (k+1)).2=0
      . have R:=ah g;rw[g];go_wp2;go_roundw
        case rel =>
          exact⟨k+1,l,by omega,by go_num,R,J⟩
        case measure=>simp[intOf];omega
      . have HE:=Z (k+1) g (by omega);have E:=ah HE;have H:(D (k+1)).2=7:=by rcases Q (k+1) with h|h;exact absurd h g;exact h
        have V:=ah H;rw[H];go_wp2;go_ret;refine⟨l,?_,?_⟩
        . rw[E.out,V.out];rfl
        . rw[E.out];exact J.led
    . have a0:k=c:=by omega
      subst a0;have n:=ah b;have N:=ah o;have a1:decide (16*(k:Int)<(s.size:Int))=false:=by simp;omega
      go_wp2;go_ret;exact⟨y,by rw[N.out];rfl,n.led⟩
