/- A table of rows (C2), in the program: what ReadTable gives. -/
import Derived.Test.YtbohmhacdgckgaaGreatDoorQOTabRead
import Derived.Maps.OwnSet
set_option linter.all false
set_option maxHeartbeats 2000000
set_option maxRecDepth 100000
namespace Go.Proofs.YtbohmhacdgckgaaGreatDoor
open Go.RowKit renaming Below->β
open Go renaming World->ω, Value->υ, Calls->κ
open Option renaming none->O, some->S
open Go.Proofs.Tryz Go.RowKit Go.Maps
attribute [local go_sem ↓] Go.wp_at_zero Go.wp_at_succ
def UC(w:ω)(g o:Nat)(a:List υ)(c:Array υ)(t:TypeId)(d:w.heap[g]?=S (.cells c t (0,0)))(h:o+a.length<=c.size)(f:∀ v∈a,v.oneCell'=true) :
  w.setCells g o a=w.setRow g (c.toList.take o++a++c.toList.drop (o+a.length)).toArray:=by
 have b:=run_storeCells_cells (P:=prog) g o a 0 w (λj i=>by rw[jaI,cell_of_row _ _ _ _ _ _ d];simp;omega) (λj _=>frozen_of_row _ _ _ _ _ d) f
 rw[(run_storeCells_at (P:=prog) g o t a 0 c w d (by omega) f)] at b
 simp_all
def UE(w:ω)(c:Array υ)(t:TypeId)(n:Nat)(h:c.size=n):(w.alloc (.cells c t)).there w.heap.size 0 n:=by
 intro j a
 simp_all
def UA(w:ω)(c:Array υ)(t:TypeId)(a:List υ)(h:c.size=a.length)(b:∀ v∈a,v.oneCell'=true):(w.alloc (.cells c t)).setCells w.heap.size 0 a=w.alloc (.cells a.toArray t):=by
 have e:List.take 0 c.toList++a++List.drop (0+a.length) c.toList=a:=by
  simp_all
 rw[UC _ _ _ _ c t (heap_alloc_new w _) (by omega) b,jaU,e]
def UD{P:Program}{f:Array Oper}{g:List Oper}{b:Oper}{a:Act}{w:ω}{Q:Exit->Act->ω->Prop}(j:b.guard=O)(d t:TypeId)(x y:Operand)(k:b.op=.store d x y)
  (c cells:Array υ) (n:a.eval x=.pointer (S ⟨w,0,O⟩)) (l:a.eval y=.agg cells)
  (i:c.size=cells.size) (m:(P.info? d).map (·.size)=S cells.size) (o:∀ v∈cells.toList,v.oneCell'=true)
  (h:wpList P f Q g (a.put b.dst undef) (w.alloc (.cells cells t))):wpList P f Q (b::g) a (w.alloc (.cells c t)):=by
 refine wpList_store_mid j d x y k _ 0 _ n l (UE w c t _ i) m (by simp_all) ?_
 rw[UA w c t _ (by simpa using i) o]
 simpa using h
def yU{h:HV}{a:List ByteArray}(b:kV h a=false):fP h a=1/\dO h a=[]:=by
 unfold fP dO
 simp_all
def yV{h:HV}{a:List ByteArray}(b:kV h a=true):fP h a=(bP h a a.length).2/\dO h a=(bP h a a.length).1:=by
 unfold fP dO
 simp_all
def Ua:(prog.info? 290).map (·.size)=S 44:=by kernel_rfl
def Uz(c p b:Int):∀ v∈[Value.int .i64 c,.int .i64 p,.int .i64 b,.slice O 0 0,.bool false,.bool false,.bool false,.bool false,.bool false,.bool false,.bool false,.bool false,.bool false,.bool false,.bool false,.bool false,.bool false,.bool false,.bool false,.bool false,.bool false,.bool false,.bool false,.bool false,.bool false,.bool false,.bool false,.bool false,.bool false,.bool false,.bool false,.bool false,.bool false,.bool false,.bool false,.bool false,.bool false,.bool false,.bool false,.bool false,.bool false,.bool false,.bool false,.bool false],v.oneCell'=true:=by
 intro v a;have e:[Value.int .i64 c,.int .i64 p,.int .i64 b,.slice O 0 0,.bool _,.bool false,.bool false,.bool false,.bool false,.bool false,.bool false,.bool false,.bool false,.bool false,.bool false,.bool false,.bool false,.bool false,.bool false,.bool false,.bool false,.bool false,.bool false,.bool false,.bool false,.bool false,.bool false,.bool false,.bool false,.bool false,.bool false,.bool false,.bool false,.bool false,.bool false,.bool false,.bool false,.bool false,.bool _,.bool _,.bool _,.bool _,.bool _,.bool _]=[Value.int .i64 c,.int .i64 p,.int .i64 b,.slice O 0 0]++List.replicate 40 _:=rfl
 rw[e] at a;rcases List.mem_append.1 a with h|h
 .simp only[List.mem_cons,List.not_mem_nil,or_false] at h
  rcases h with rfl|rfl|rfl|rfl<;>rfl
 .rw[(List.mem_replicate.1 h).2];rfl
def zT(w:ω):lK w O 0 []:=⟨rfl,λk a=>by omega⟩
def lQ(B:Nat)(w:ω)(lt:Option Addr)(a:Nat)(ts:List (Int × Int)):Prop :=
 lK w lt ts.length ts/\w.ownsRow B 168 2 (.slice lt ts.length a) ts.length (jB ts)
def pJ(B:Nat)(w:ω):lQ B w O 0 []:=⟨zT w,jae _ _ _ _⟩
def QX(c p b:Int)(i:Option Addr)(len cap:Nat)(a:List ByteArray)(w:ω)(f:HV.ok ⟨c,p,b⟩=false) :
  κ prog 209 #[.agg #[c,p,b],.slice i len cap] w λe d =>
   ∃ lt g,e=.returned (.tuple #[.slice lt (dO ⟨c,p,b⟩ a).length g,erV (fP ⟨c,p,b⟩ a)])/\lQ w.heap.size d lt g (dO ⟨c,p,b⟩ a)/\β w w d:=by
 have j:kV ⟨c,p,b⟩ a=false:=by unfold kV;rw[f];rfl
 obtain⟨k,m⟩:=yU j;rw[k,m,eu];have h:HV.fault _=1:=if_neg (by rw[f];decide)
 have n:Hid _:=λW=>by have:=oW c p b W;rw[h,eu] at this;exact this
 go_enter func209,ntmps209
 go_wp2_with fail
 refine cEq (n.out _) λo l=>?_
 go_wp2
 go_ret2
 exact⟨O,0,rfl,pJ _ _,((ja0 _ _).alloc (ja1 _) _).trans (l.mono (by simp))⟩
def Rf(c p b:Int)(g:Option Addr)(len cap:Nat)(a:List ByteArray)(w:ω)(r:Texts w g len a)(d:HV.ok ⟨c,p,b⟩=true)(m:len≠ay c.toNat) :
  κ prog 209 #[.agg #[c,p,b],.slice g len cap] w λe f =>
   ∃ lt i,e=.returned (.tuple #[.slice lt (dO ⟨c,p,b⟩ a).length i,erV (fP ⟨c,p,b⟩ a)])/\lQ w.heap.size f lt i (dO ⟨c,p,b⟩ a)/\β w w f:=by
 have n:kV ⟨c,p,b⟩ a=false:=by unfold kV;rw[d,r.1,decide_eq_false m];rfl
 obtain⟨o,s⟩:=yU n;rw[o,s,eu];have k:HV.fault _=0:=if_pos d;have q:Hid _:=λW=>by have:=oW c p b W;rw[k,aN] at this;exact this
 obtain⟨g1,g2,_⟩:=HV.dK d;simp only at g1 g2;have j:Hid _:=λW=>by have:=qL c.toNat W (by omega);rw[show((c.toNat:Nat):Int)=c by omega] at this;exact this
 have l:((len:Int) != (ay c.toNat:Int))=true:=by simp;omega
 generalize ay c.toNat=v at j l;go_enter func209,ntmps209
 go_wp2_with fail
 refine cEq (q.out _) λu h=>?_
 have t:=qA h 0 _ rfl;go_wp2_with (go_at_call 101;refine cSt (j.out _) ?_)
 go_ret2
 exact⟨O,0,rfl,pJ _ _,((ja0 _ _).alloc (ja1 _) _).trans (h.mono (by simp))⟩
def QZ(c p b:Int)(la:Option Addr)(len cap:Nat)(d:List ByteArray)(w:ω)(Z:Texts w la len d)(ab:len<=20)(G:HV.ok ⟨c,p,b⟩=true)(hr:len=ay c.toNat) :
  κ prog 209 #[.agg #[c,p,b],.slice la len cap] w λe u =>
   ∃ lt x,e=.returned (.tuple #[.slice lt (dO ⟨c,p,b⟩ d).length x,erV (fP ⟨c,p,b⟩ d)])/\lQ w.heap.size u lt x (dO ⟨c,p,b⟩ d)/\β w w u:=by
 have hi:kV ⟨c,p,b⟩ d=true:=by unfold kV;rw[G,Z.1,decide_eq_true hr];rfl
 have ef:HV.fault ⟨c,p,b⟩=0:=if_pos G;have HC:Hid (∀ W:ω,κ prog 27 #[.agg #[c,p,b]] W λe u=>e=.returned .nilIface/\β W W u):=λW=>by have:=oW c p b W;rw[ef,aN] at this;exact this
 obtain⟨g1,g2,_⟩:=HV.dK G;simp only at g1 g2;have HR:Hid (∀ W:ω,κ prog 101 #[c] W λe u=>e=.returned (len:Int)/\u=W):=λW=>by have:=qL c.toNat W (by omega);rw[show((c.toNat:Nat):Int)=c by omega,<- hr] at this;exact this
 have X:=ah Z;have HK:=ah G;have HI:=ah hi;have a0:Hid ((prog.info? 290).map (·.size)=some (#[.int .i64 c,.int .i64 p,.int .i64 b,.slice none 0 0,.bool false,.bool false,.bool false,.bool false,.bool false,.bool false,.bool false,.bool false,.bool false,.bool false,.bool false,.bool false,.bool false,.bool false,.bool false,.bool false,.bool false,.bool false,.bool false,.bool false,.bool false,.bool false,.bool false,.bool false,.bool false,.bool false,.bool false,.bool false,.bool false,.bool false,.bool false,.bool false,.bool false,.bool false,.bool false,.bool false,.bool false,.bool false,.bool false,.bool false]:Array υ).size):=Ua
 have HZ:Hid (∀ v∈(#[.int .i64 c,.int .i64 p,.int .i64 b,.slice none 0 0,.bool false,.bool false,.bool false,.bool false,.bool false,.bool false,.bool false,.bool false,.bool false,.bool false,.bool false,.bool false,.bool false,.bool false,.bool false,.bool false,.bool false,.bool false,.bool false,.bool false,.bool false,.bool false,.bool false,.bool false,.bool false,.bool false,.bool false,.bool false,.bool false,.bool false,.bool false,.bool false,.bool false,.bool false,.bool false,.bool false,.bool false,.bool false,.bool false,.bool false]:Array υ).toList,v.oneCell'=true):=Uz c p b
 have a6:=HK.out;go_enter func209,ntmps209
 go_wp2_with fail
 refine cEq (HC.out _) λq H=>?_
 have x0:=qA H 0 _ rfl;have x1:=qA H 1 _ rfl;have x2:=qA H 2 _ rfl;have K:Hid (β w w q):=((ja0 _ _).alloc (ja1 _) _).trans (H.mono (by simp))
 have a1:fJ w.heap.size (q.alloc (.cells #[.int .i64 c,.int .i64 p,.int .i64 b,.slice none 0 0,.bool false,.bool false,.bool false,.bool false,.bool false,.bool false,.bool false,.bool false,.bool false,.bool false,.bool false,.bool false,.bool false,.bool false,.bool false,.bool false,.bool false,.bool false,.bool false,.bool false,.bool false,.bool false,.bool false,.bool false,.bool false,.bool false,.bool false,.bool false,.bool false,.bool false,.bool false,.bool false,.bool false,.bool false,.bool false,.bool false,.bool false,.bool false,.bool false,.bool false] 290)) q.heap.size ⟨c,p,b⟩ (.slice none 0 0) [] (fH []):=by
  rw[II];exact⟨heap_alloc_new q _,jae _ _ _ _,K.out.size,by simp⟩
 have M:=ah a1
 go_wp2_with (first
  | (go_at_call 101;refine cSt (HR.out _) ?_)
  | (refine UD (by rfl) 290 290 (.tmp 7) (.tmp 24) (by rfl) _ #[.int .i64 c,.int .i64 p,.int .i64 b,.slice none 0 0,.bool false,.bool false,.bool false,.bool false,.bool false,.bool false,.bool false,.bool false,.bool false,.bool false,.bool false,.bool false,.bool false,.bool false,.bool false,.bool false,.bool false,.bool false,.bool false,.bool false,.bool false,.bool false,.bool false,.bool false,.bool false,.bool false,.bool false,.bool false,.bool false,.bool false,.bool false,.bool false,.bool false,.bool false,.bool false,.bool false,.bool false,.bool false,.bool false,.bool false] (by rfl) (by rfl) rfl a0.out HZ.out ?_))
 have Y:Hid (β w w (q.alloc (.cells #[.int .i64 c,.int .i64 p,.int .i64 b,.slice none 0 0,.bool false,.bool false,.bool false,.bool false,.bool false,.bool false,.bool false,.bool false,.bool false,.bool false,.bool false,.bool false,.bool false,.bool false,.bool false,.bool false,.bool false,.bool false,.bool false,.bool false,.bool false,.bool false,.bool false,.bool false,.bool false,.bool false,.bool false,.bool false,.bool false,.bool false,.bool false,.bool false,.bool false,.bool false,.bool false,.bool false,.bool false,.bool false,.bool false,.bool false] 290))):=K.out.alloc K.out.size _
 generalize q.alloc (.cells #[.int .i64 c,.int .i64 p,.int .i64 b,.slice none 0 0,.bool false,.bool false,.bool false,.bool false,.bool false,.bool false,.bool false,.bool false,.bool false,.bool false,.bool false,.bool false,.bool false,.bool false,.bool false,.bool false,.bool false,.bool false,.bool false,.bool false,.bool false,.bool false,.bool false,.bool false,.bool false,.bool false,.bool false,.bool false,.bool false,.bool false,.bool false,.bool false,.bool false,.bool false,.bool false,.bool false,.bool false,.bool false,.bool false,.bool false] 290)=wt at M Y |-;generalize q.heap.size=N at M |-
 have S:Hid (d.length=len):=X.out.1
 have Q:Hid (∀(j:Nat) (f:Int),f≠0->j<=len->bP ⟨c,p,b⟩ d j=([],f)->dO ⟨c,p,b⟩ d=[]/\fP ⟨c,p,b⟩ d=f):=λj f hf U e=>by
  obtain⟨l,k⟩:=yV HI.out;have e3:=Iy hf e d.length (by rw[S.out];exact U)
  rw[l,k,e3];exact⟨rfl,rfl⟩
 go_loopw [27] (λi wr=>∃(j:Nat) (v:υ),j<=len/\i=.int .i64 j/\(bP ⟨c,p,b⟩ d j).2=0/\(((bP ⟨c,p,b⟩ d j).1.length:Nat):Int)<=c/\fJ w.heap.size wr N ⟨c,p,b⟩ v (bP ⟨c,p,b⟩ d j).1 (fH (bP ⟨c,p,b⟩ d j).1)/\β w w wr) (λi _=>len-(intOf i).toNat)
 case atStart=>exact⟨0,.slice none 0 0,ja5 _,rfl,rfl,(by show(0:Int)<=c;omega),M.out,Y.out⟩
 case round =>
  obtain⟨j,v,U,rfl,y,J,r,E⟩:=hrel;by_cases a8:j<len
  .obtain⟨bb,ae,rfl,z,ac⟩:=X.out.2 j a8
   rw[<- E.cell (ja2 w _ z)] at z;have j0:(0:Int)<=(j:Int):=by omega
   have o:(j:Int)<(len:Int):=by omega
   have A:=ah E;by_cases C:(d.getD j ByteArray.empty).size=16
   .have m:=ah (QU (d.getD j ByteArray.empty) wr C r a6 J)
    cases t:fD ⟨c,p,b⟩ (bP ⟨c,p,b⟩ d j).1 (d.getD j ByteArray.empty) 8 with
    | none =>
     obtain⟨l,k⟩:=Q.out (j+1) 2 (by decide) (by omega) (yR y C t)
     have n:=ah l;have B:Hid (erV (fP ⟨c,p,b⟩ d)=.iface 96 (.int .i64 2)):=by unfold Hid;rw[k];exact xg
     have I:pI ⟨c,p,b⟩ (bP ⟨c,p,b⟩ d j).1 (d.getD j ByteArray.empty)=.iface 96 (.int .i64 2):=by unfold pI;rw[t];rfl
     rw[I] at m;generalize d.getD j ByteArray.empty=s at z m;go_wp2_with fail
     refine m.out.mono ?_;rintro e R ⟨v2,rfl,_,P⟩;go_wp2
     go_ret2
     exact⟨none,0,by rw[n.out,B.out];rfl,by rw[n.out];exact pJ _ _,A.out.trans P⟩
    | some V =>
     have hg:=yS y C t;have a4:=GY (h:=⟨c,p,b⟩) J 8 V t;have O:=ah hg;have I:pI ⟨c,p,b⟩ (bP ⟨c,p,b⟩ d j).1 (d.getD j ByteArray.empty)=.nilIface:=by unfold pI;rw[t];rfl
     rw[I,t] at m;generalize d.getD j ByteArray.empty=s at z m;go_wp2_with fail
     refine m.out.mono ?_;rintro e R ⟨v2,rfl,a5,P⟩;have a7:=ah (a5 V rfl);go_wp2
     go_roundw
     case rel =>
      have fin:∃(o:Nat) (v3:υ),o<=len/\Value.int .i64 ((j:Int)+1)=.int .i64 o/\(bP ⟨c,p,b⟩ d o).2=0/\(((bP ⟨c,p,b⟩ d o).1.length:Nat):Int)<=c/\fJ w.heap.size R N ⟨c,p,b⟩ v3 (bP ⟨c,p,b⟩ d o).1 (fH (bP ⟨c,p,b⟩ d o).1)/\β w w R:=by
       refine⟨j+1,v2,by omega,by go_num,?_,?_,?_,A.out.trans P⟩
       .rw[O.out]
       .rw[O.out];exact a4
       .rw[O.out];exact a7.out
      first|exact fin|((repeat apply Exists.intro);exact⟨fin,rfl⟩)
     case measure=>simp[intOf];omega
   .obtain⟨l,k⟩:=Q.out (j+1) 1 (by decide) (by omega) (yT y C)
    have n:=ah l;have B:Hid (erV (fP ⟨c,p,b⟩ d)=.iface 96 (.int .i64 1)):=by unfold Hid;rw[k];exact eu
    have m:=ah (QV (N:=N) (d.getD j ByteArray.empty) wr C);generalize d.getD j ByteArray.empty=s at z m;go_wp2_with (go_at_call 247;refine cSt m.out ?_)
    go_ret2
    exact⟨none,0,by rw[n.out,B.out];rfl,by rw[n.out];exact pJ _ _,A.out⟩
  .have T:j=d.length:=by rw[S.out];omega
   obtain⟨l,k⟩:=yV HI.out;rw[<- T] at l k;obtain⟨c0,c1,c3,f3⟩:=r.cells;obtain⟨a,x,F⟩:=r.form;rw[F] at c3
   have a9:Hid (lQ w.heap.size wr a x (bP ⟨c,p,b⟩ d j).1):=by
    refine⟨?_,F▸r.own⟩;have D:=r.own;rw[F] at D;rcases D.2 with⟨h0,hn⟩|⟨g,aa,ad,a3,_⟩
    .have L:a=none:=by injection h0
     rw[L,List.length_eq_zero_iff.1 hn];exact zT _
    .have L:a=some ⟨g,0,none⟩:=by injection a3
     rw[L] at D |-;exact uQ D _ (by rw[jan (by rw[pX];exact ja1 _)]) (ja1 _) rfl
   have B:Hid (erV (fP ⟨c,p,b⟩ d)=.nilIface):=by unfold Hid;rw[l,y];exact aN
   have n:=ah k;have A:=ah E;clear r E y J l k c0 c1 f3 F Q T;go_wp2
   go_ret2
   exact⟨a,x,by rw[n.out,B.out];rfl,by rw[n.out];exact a9.out,A.out⟩
def QW(c p b:Int)(d:Option Addr)(len cap:Nat)(a:List ByteArray)(w:ω)(h:Texts w d len a)(k:len<=20) :
  κ prog 209 #[.agg #[c,p,b],.slice d len cap] w λe g =>
   ∃ lt j,e=.returned (.tuple #[.slice lt (dO ⟨c,p,b⟩ a).length j,erV (fP ⟨c,p,b⟩ a)])/\lQ w.heap.size g lt j (dO ⟨c,p,b⟩ a)/\β w w g:=by
 cases f:HV.ok _ with
 | false=>exact QX c p b d len cap a w f
 | true =>
  by_cases i:len=ay c.toNat
  .exact QZ c p b d len cap a w h k f i
  .exact Rf c p b d len cap a w h f i
def xK:Keyed prog 3:=int_keyed underlying3
def o9(l:List Nat):DataW Unit:=setOf (.agg []) (l.map λq:Nat=>Lit.int .i64 (q:Int))
def EW(q:Nat)(h:q<1000):keyOf prog 3 (.int .i64 (q:Int))=S (.int .i64 (q:Int)) :=
 keyOf_int_mk underlying3 (WalkArith.wf_i64 (by omega))
structure Gd where
 g:Nat->Prop
 top:Nat
 lt:∀ k,g k->k<top
def Gd.of(n:Nat):Gd:=⟨λk=>k<n,n,λ_ h=>h⟩
instance:Coe Nat Gd:=⟨Gd.of⟩
def Gd.fresh(B:Gd){n k:Nat}(h:B.top<=n)(a:n<=k):¬B.g k:=λe=>by have:=B.lt k e;omega
def KP(w:ω)(k:Nat):Prop :=
 (∃ a t,w.heap[k]?=S (.cells a t (0,0))/\(t=178\/t=175\/t=180\/t=235))\/∃ b c,w.heap[k]?=S (.map b c)
def SP(B:Gd)(tb:Nat)(w:ω)(k:Nat):Prop:=¬B.g k/\(KP w k\/k=tb)
def aX(B:Gd)(tb:Nat)(w a:ω):Prop:=Kept (SP B tb w) w a
def KP.of{w a:ω}{k:Nat}(e:a.heap[k]?=w.heap[k]?)(h:KP a k):KP w k:=by
 rcases h with⟨b,t,f,d⟩|⟨g,c,f⟩
 .exact .inl ⟨b,t,by simp_all,d⟩
 .exact .inr ⟨g,c,by simp_all⟩
theorem aX.trans{B:Gd}{tb:Nat}{a b c:ω}(h:aX B tb a b)(k:aX B tb b c):aX B tb a c:=by
 refine⟨k.os.trans h.os,k.tape.trans h.tape,k.output.trans h.output,ja4 h.size k.size,λi f d=>?_⟩
 have e:=h.block i f d;rw[k.block i (ja9 f h.size) (λs=>d ⟨s.1,s.2.imp (λx=>x.of e) id⟩),e]
theorem aX.refl(B:Gd)(tb:Nat)(w:ω):aX B tb w w:=Kept.refl _ _
def aX.of_below{B:Gd}{tb:Nat}{w a:ω}(h:β w w a):aX B tb w a:=Below.kept h
def aX.box{B:Gd}{tb:Nat}{w d:ω}(h:aX B tb w d){k:Nat}{b:Array υ}{t:TypeId}(f:w.heap[k]?=S (.cells b t (0,0)))(j:¬(t=178\/t=175\/t=180\/t=235))(g:k≠tb):d.heap[k]?=S (.cells b t (0,0)):=by
 rw[h.block k (lt_of_some f) (λs=>?_)]
 .exact f
 .rcases s.2 with(⟨c2,t2,a,p⟩|⟨i,c,a⟩)|a
  .simp_all
  .simp_all
  .exact g a
structure bQ(B:Gd)(w:ω)(h:Hd)(d:DV):Prop extends aO 0 w h d where
 out:∀ k,h.fp k->¬B.g k
theorem bQ.keep{B:Gd}{w a:ω}{h:Hd}{d:DV}(hd:bQ B w h d)(b:∀ k,h.fp k->a.heap[k]?=w.heap[k]?):bQ B a h d:=⟨hd.toaO.keep b,hd.out⟩
def aO.base0{B:Nat}{w:ω}{h:Hd}{d:DV}(hd:aO B w h d):aO 0 w h d:=⟨hd.ok,ja5 _,hd.blk,ownsRow_base hd.of (ja5 _),ownsRow_base hd.os (ja5 _),ownsRow_base hd.op (ja5 _),hd.ne,hd.pn⟩
def aO.toG{B:Nat}{w:ω}{h:Hd}{d:DV}(hd:aO B w h d):bQ B w h d:=⟨hd.base0,λk a=>Nat.not_lt.2 (hd.lt k a).1⟩
def bQ.nilled{B:Gd}{w b:ω}{h:Hd}{d c:DV}(hd:bQ B w h d)(f:aO 0 b {h with v2:=.slice O 0 0} c):bQ B b {h with v2:=.slice O 0 0} c :=
 ⟨f,λk a=>by
  rcases a with a|a|a|a
  .exact hd.out k (.inl a)
  .exact hd.out k (.inr (.inl a))
  .exact hd.out k (.inr (.inr (.inl a)))
  .cases a⟩
def bQ.inP{B:Gd}{w:ω}{h:Hd}{d:DV}(hd:bQ B w h d)(tb:Nat):∀ k,h.fp k->SP B tb w k:=by
 intro k a;obtain⟨b,t,e,p⟩:=hd.kinds k a;exact⟨hd.out k a,.inl (.inl ⟨b,t,e,by rcases p with p|p|p;exact .inl p;exact .inr (.inl p);simp_all⟩)⟩
def bQ.Ou{B:Gd}{tb:Nat}{w a:ω}{h:Hd}{d:DV}(hd:bQ B w h d)(b:Kept h.fp w a):aX B tb w a:=b.mono λk _ c=>hd.inP tb k c
def wW{B:Gd}{n m:Nat}{h:Hd}{d:DV}(i:Nat)(s:ByteArray)(w:ω)(hd:bQ B w h d)(l:d.fine n m)(y:m<1000000000)(r:B.top<=w.heap.size)(o:s.size=16)(x:i<n) :
  κ prog 105 #[h.p,(i:Int),s] w λe c =>
   ∃ v2,e=.returned (erV d.aU)/\bQ B c {h with v2:=v2} (d.put i s.data.toList)/\Kept h.fp w c:=by
 have u:=l.len;have t:=l.wr;unfold DV.put DV.aU;by_cases b:d.fail=0
 .rw[if_pos b,if_pos b]
  refine(Vy (i:Int) s w hd.toaO o (by unfold DV.has;simp;omega) b).mono ?_
  rintro e c ⟨rfl,j,f⟩;exact⟨h.v2,by simp[erV],⟨j,hd.out⟩,f⟩
 .rw[if_neg b,if_neg b]
  refine(Vz i s w hd.toaO (ja5 _) o (by omega) (by omega) b).mono ?_
  rintro e c ⟨v,rfl,j,f,q⟩;refine⟨v,by simp[erV],⟨j,λk a=>?_⟩,f⟩
  rcases a with a|a|a|a
  .exact hd.out k (.inl a)
  .exact hd.out k (.inr (.inl a))
  .exact hd.out k (.inr (.inr (.inl a)))
  .rcases q k a with g|g
   .exact hd.out k (.inr (.inr (.inr g)))
   .exact B.fresh r g
structure Ih where
 p:Nat
 h:Hd
 tb:Nat
 tc:Nat
 m:Nat
structure aH(B:Gd)(w:ω)(x:Ih)(v:IV):Prop where
 blk:w.heap[x.p]?=S (.cells #[x.h.p,v.h.c,v.h.p,v.h.b,.slice (S ⟨x.tb,0,O⟩) v.t.length x.tc,.map (S x.m)] 235 (0,0))
 pB:¬B.g x.p/\¬B.g x.tb
 mB:¬B.g x.m
 dev:bQ B w x.h v.d
 own:w.ownsRow 0 168 2 (.slice (S ⟨x.tb,0,O⟩) v.t.length x.tc) v.t.length (jB v.t)
 map:w.ownsMap prog 3 (unitElem (H:=Unit)) x.m v.held.length (o9 v.held)
def aH.cells{B:Gd}{w:ω}{x:Ih}{v:IV}(h:aH B w x v) :
  w.cell? ⟨x.p,0,O⟩=S (x.h.p:υ)/\w.cell? ⟨x.p,1,O⟩=S (v.h.c:υ)/\w.cell? ⟨x.p,2,O⟩=S (v.h.p:υ)/\w.cell? ⟨x.p,3,O⟩=S (v.h.b:υ) /\
  w.cell? ⟨x.p,4,O⟩=S (.slice (S ⟨x.tb,0,O⟩) v.t.length x.tc)/\w.cell? ⟨x.p,5,O⟩=S (.map (S x.m))/\∀ j,w.frozen? ⟨x.p,j,O⟩=false:=by
 have a:=h.blk;refine⟨?_,?_,?_,?_,?_,?_,λj=>frozen_of_row w x.p j _ _ a⟩<;>rw[cell_of_row w x.p _ _ _ _ a]<;>rfl
def uY{P:Program}{k:TypeId}{R:υ->Option (DataW Unit × List MemPlace)}{w a:ω}{b n:Nat}{D:DataW Unit}(h:w.ownsMap P k R b n D)(e:a.heap[b]?=w.heap[b]?):a.ownsMap P k R b n D:=by
 obtain⟨c,d,f,r⟩:=h;exact⟨c,d,by simp_all,r⟩
def ug{P:Program}{k:TypeId}{R:υ->Option (DataW Unit × List MemPlace)}{w:ω}{b n:Nat}{D:DataW Unit}(h:w.ownsMap P k R b n D):∃ a c,w.heap[b]?=S (.map a c):=by
 obtain⟨a,d,f,r⟩:=h
 simp_all
theorem aH.tb{B:Gd}{w:ω}{x:Ih}{v:IV}(h:aH B w x v):¬B.g x.tb/\∃ a,w.heap[x.tb]?=S (.cells a 168 (0,0)):=by
 obtain⟨_,a,b,_⟩:=dQ h.own;exact⟨h.pB.2,a,b⟩
theorem aH.keep{B:Gd}{w a:ω}{x:Ih}{v:IV}(h:aH B w x v)(b:a.heap[x.p]?=w.heap[x.p]?)(c:a.heap[x.m]?=w.heap[x.m]?)(d:a.heap[x.tb]?=w.heap[x.tb]?)(hd:∀ k,x.h.fp k->a.heap[k]?=w.heap[k]?):aH B a x v :=
 ⟨by rw[b];exact h.blk,h.pB,h.mB,h.dev.keep hd,aZ h.own (λk e=>by
  have:x.tb=k:=by simpa [Value.ownBlock] using e
  simp_all),uY h.map c⟩
def aH.lts{B:Gd}{w:ω}{x:Ih}{v:IV}(h:aH B w x v):x.p<w.heap.size/\x.m<w.heap.size/\x.tb<w.heap.size:=by
 obtain⟨_,d,b⟩:=h.tb;obtain⟨f,c,a⟩:=ug h.map;exact⟨lt_of_some h.blk,lt_of_some a,lt_of_some b⟩
def aH.below{B:Gd}{w b:ω}{x:Ih}{v:IV}(h:aH B w x v)(a:β w w b):aH B b x v:=by
 obtain⟨f,d,g⟩:=h.lts;exact h.keep (a.block _ f) (a.block _ d) (a.block _ g) λk c=>a.block _ (h.dev.lt k c).2
theorem aH.drew{B:Gd}{w:ω}{x:Ih}{v:IV}(h:aH B w x v):aH B w.drew x v:=h.keep rfl rfl rfl λ_ _=>rfl
def aH.rE{B:Gd}{w b:ω}{x:Ih}{v:IV}(h:aH B w x v){g:Hd}{j:DV}(hd:bQ B b g j)(n:g.p=x.h.p)(f:Kept x.h.fp w b):aH B b {x with h:=g} {v with d:=j}/\aX B x.tb w b:=by
 have r:¬x.h.fp x.p:=λe=>by
  obtain⟨i,t,a,p⟩:=h.dev.kinds _ e;rw[h.blk] at a;cases a
  simp_all
 have u:¬x.h.fp x.m:=λe=>by
  obtain⟨i,t,a,p⟩:=h.dev.kinds _ e;obtain⟨A,c,l⟩:=ug h.map
  simp_all
 have o:¬x.h.fp x.tb:=λe=>by
  obtain⟨i,t,a,p⟩:=h.dev.kinds _ e;obtain⟨_,z,l⟩:=h.tb;rw[l] at a;cases a
  simp_all
 obtain⟨q,s,y⟩:=h.lts
 refine⟨⟨?_,h.pB,h.mB,hd,aZ h.own (λk e=>by
  have:x.tb=k:=by simpa [Value.ownBlock] using e
  subst this;exact f.block _ y o),uY h.map (f.block _ s u)⟩,h.dev.Ou f⟩
 rw[n,f.block _ q r];exact h.blk
def Ef(ts:List (Int × Int))(c:Nat)(k p:Int):jB (ts.set c (k,p))=((jB ts).set (c*2) (.int .i64 k)).set (c*2+1) (.int .i64 p):=by
 induction ts generalizing c with
 | nil=>simp[jB]
 | cons e ts b =>
  have a:∀(y:Int × Int) (l:List _),jB (y::l)=.int .i64 y.1::.int .i64 y.2::jB l:=λ_ _=>rfl
  cases c with
  | zero=>simp[a]
  | succ c =>
   rw[jap,a,b c,a,show(c+1)*2=c*2+1+1 by omega]
   simp
def aH.Hw{B:Gd}{w:ω}{x:Ih}{v:IV}(h:aH B w x v)(c:Nat)(k p:Int) :
  aH B ((w.setCell ⟨x.tb,c*2,O⟩ k).setCell ⟨x.tb,c*2+1,O⟩ p) x {v with t:=v.t.set c (k,p)} /\
  aX B x.tb w ((w.setCell ⟨x.tb,c*2,O⟩ k).setCell ⟨x.tb,c*2+1,O⟩ p):=by
 obtain⟨o,j,b,q,n,r,l⟩:=dQ h.own;have g:x.p≠x.tb:=λe=>by have:=h.blk;simp_all
 have i:x.m≠x.tb:=λe=>by obtain⟨y,u,z⟩:=ug h.map;simp_all
 have d:∀ k,x.h.fp k->k≠x.tb:=λk a e=>by
  obtain⟨s,t,f,p⟩:=h.dev.kinds _ a;rw[e,b] at f;cases f
  simp_all
 refine⟨⟨?_,h.pB,h.mB,h.dev.keep λk a=>?_,?_,uY h.map ?_⟩,(((Kept.refl _ w).setCell  (.inl ⟨h.pB.2,.inr rfl⟩) _).setCell  (.inl ⟨h.pB.2,.inr rfl⟩) _)⟩
 .rw[heap_setCell_other _ _ _ _ g,heap_setCell_other _ _ _ _ g]
  rw[jag];exact h.blk
 .rw[heap_setCell_other _ _ _ _ (d _ a),heap_setCell_other _ _ _ _ (d _ a)]
 .rw[jag]
  refine⟨by rw[pX,jag],.inr ⟨x.tb,x.tc,(j.setIfInBounds (c*2) (.int .i64 k)).setIfInBounds (c*2+1) (.int .i64 p),rfl,o,?_,q,n,by simp_all,?_⟩⟩
  .rw[heap_setCell_same _ _ _ _ _ _ (heap_setCell_same w x.tb _ _ _ _ b)]
  .rw[Ef,<- l]
   simp only[Array.toList_setIfInBounds,List.take_set]
 .rw[heap_setCell_other _ _ _ _ i,heap_setCell_other _ _ _ _ i]
def Ih.fp(x:Ih)(k:Nat):Prop:=k=x.p\/k=x.m\/k=x.tb\/x.h.fp k
theorem aH.out{B:Gd}{w:ω}{x:Ih}{v:IV}(h:aH B w x v):∀ k,x.fp k->¬B.g k:=by
 rintro k (rfl|rfl|rfl|a)
 .exact h.pB.1
 .exact h.mB
 .exact h.pB.2
 .exact h.dev.out k a
def aH.gQ{B:Gd}{w:ω}{x:Ih}{v:IV}(h:aH B w x v):∀ k,x.fp k->k<w.heap.size:=by
 obtain⟨b,c,d⟩:=h.lts;rintro k (rfl|rfl|rfl|a)
 .exact b
 .exact c
 .exact d
 .exact(h.dev.lt k a).2
def aH.re{B C:Gd}{w:ω}{x:Ih}{v:IV}(h:aH B w x v)(a:∀ k,x.fp k->¬C.g k):aH C w x v :=
 ⟨h.blk,⟨a _ (.inl rfl),a _ (.inr (.inr (.inl rfl)))⟩,a _ (.inr (.inl rfl)),⟨h.dev.toaO,λk b=>a k (.inr (.inr (.inr b)))⟩,h.own,h.map⟩
def aH.jm{B:Gd}{w b:ω}{x:Ih}{v:IV}(h:aH B w x v)(a:∀ k,x.fp k->b.heap[k]?=w.heap[k]?):aH B b x v :=
 h.keep (a _ (.inl rfl)) (a _ (.inr (.inl rfl))) (a _ (.inr (.inr (.inl rfl)))) λk c=>a k (.inr (.inr (.inr c)))
def zB(c p b:Int)(q:Nat)(w:ω)(h:HV.ok ⟨c,p,b⟩=true)(k:q<=40) :
  κ prog 98 #[.agg #[c,p,b],(q:Int)] w λe g=>e=.returned (dw ⟨c,p,b⟩ q:Int)/\β w w g:=by
 obtain⟨g1,g2,_⟩:=HV.dK h;simp only at g1 g2;have d:Hid _:=λW=>by have:=qL c.toNat W (by omega);rw[show((c.toNat:Nat):Int)=c by omega] at this;exact this
 have a:Hid (dw ⟨c,p,b⟩ q=1+ay c.toNat+4*q):=rfl;have f:ay c.toNat<=10:=by unfold ay;omega
 generalize ay c.toNat=i at d a f;generalize dw _ q=j at a |-;go_enter func98,ntmps98
 go_wp2_with (go_at_call 101;refine cSt (d.out _) ?_)
 go_ret
 exact⟨mg (by have:=a.out;omega),(ja0 _ _).alloc (ja1 _) _⟩
def uU(c p b:Int)(w:ω)(d:HV.ok ⟨c,p,b⟩=true) :
  κ prog 29 #[.agg #[c,p,b]] w λe a=>e=.returned (aQ ⟨c,p,b⟩:Int)/\β w w a:=by
 have h:=HV.dK d;simp only at h
 have f:Hid (∀ W:ω,κ prog 98 _ W λe a=>e=.returned (aQ _:Int)/\β _ W a):=λW=>by
  have:=zB c p b p.toNat W d (by omega)
  rw[show((p.toNat:Nat):Int)=p by omega] at this;exact this
 generalize aQ _=n at f |-;go_enter func29,ntmps29
 go_wp2_with fail
 refine cEq (f.out _) λi g=>?_
 go_wp2
 go_ret
 exact⟨rfl,((ja0 _ _).alloc (ja1 _) _).trans (g.mono (by simp))⟩
def aH.jA{B:Gd}{w:ω}{x:Ih}{v:IV}(h:aH B w x v){c:Nat}(d:c<v.t.length) :
  w.cell? ⟨x.tb,c*2,O⟩=S (.int .i64 (v.t.getD c (0,0)).1)/\w.cell? ⟨x.tb,c*2+1,O⟩=S (.int .i64 (v.t.getD c (0,0)).2)/\∀ j,w.frozen? ⟨x.tb,j,O⟩=false:=by
 obtain⟨b,a⟩:=uP _ c d;refine⟨?_,?_,λj=>h.own.frozenAt j⟩
 .rw[h.own.cellAt _ (by omega)];exact b
 .rw[h.own.cellAt _ (by omega)];exact a
def IV.iw(v:IV)(c:Int):Int:=if v.there c=true then 0 else 1
def IV.bC(v:IV)(c:Int):Int × Int:=if v.there c=true then v.ent c else (0,0)
def rF{B:Gd}{x:Ih}{v:IV}(c:Int)(w:ω)(h:aH B w x v) :
  κ prog 257 #[x.p,c] w λe b =>
   e=.returned (.tuple #[.agg #[.int .i64 (v.bC c).1,.int .i64 (v.bC c).2],erV (v.iw c)])/\β w w b:=by
 obtain⟨o,c1,c2,c3,c4,q,l⟩:=h.cells;unfold IV.bC IV.iw
 cases a:v.there c with
 | true =>
  obtain⟨d,m⟩:=IV.nP a;obtain⟨k,rfl⟩:∃ k:Nat,c=(k:Int):=⟨c.toNat,by omega⟩
  obtain⟨t0,t1,_⟩:=h.jA (c:=k) (by omega)
  have g:Hid (v.ent (k:Int)=v.t.getD k (0,0)):=rfl;rw[if_pos rfl,if_pos rfl,aN,g.out];have j:x.tb<w.heap.size:=h.lts.2.2;have f  := h.lts.1;generalize (v.t.getD k (0,0)).1=y0 at t0 |-;generalize (v.t.getD k (0,0)).2=y1 at t1 |-;generalize v.t.length=n at *
  go_enter func257,ntmps257
  go_wp2
  exact bodyPost_ret (v:=.tuple #[.agg #[y0,y1],.nilIface]) (by simp[results,results257,go_sem]) rfl ⟨rfl,(by first|exact(ja0 _ _).alloc (ja1 _) _|exact((((ja0 _ _).alloc (ja1 _) _).setCell (ja1 _) _).setCell (ja1 _) _))⟩
 | false =>
  have d:=IV.UZ a;rw[if_neg (by simp),if_neg (by simp),eu]
  have f  := h.lts.1;generalize v.t.length=n at *
  by_cases i:c<0
  .go_enter func257,ntmps257
   go_wp2
   exact bodyPost_ret (v:=.tuple #[.agg #[(0:Int),(0:Int)],.iface 96 (.int .i64 1)]) (by simp[results,results257,go_sem]) rfl ⟨rfl,(by first|exact(ja0 _ _).alloc (ja1 _) _|exact((((ja0 _ _).alloc (ja1 _) _).setCell (ja1 _) _).setCell (ja1 _) _))⟩
  .go_enter func257,ntmps257
   go_wp2
   exact bodyPost_ret (v:=.tuple #[.agg #[(0:Int),(0:Int)],.iface 96 (.int .i64 1)]) (by simp[results,results257,go_sem]) rfl ⟨rfl,(by first|exact(ja0 _ _).alloc (ja1 _) _|exact((((ja0 _ _).alloc (ja1 _) _).setCell (ja1 _) _).setCell (ja1 _) _))⟩
