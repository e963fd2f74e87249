/- A part. -/
import Derived.Test.YtbohmhacdgckgaaGreatDoorQShelf
import Derived.Test.YtbohmhacdgckgaaGreatDoorQImgGets
set_option linter.all false
set_option maxHeartbeats 1000000
set_option maxRecDepth 100000
namespace Go.Proofs.YtbohmhacdgckgaaGreatDoor
open Go.RowKit renaming Below->β, Hid->χ
open Go renaming World->ω, Value->υ, Calls->κ
open Option renaming none->O, some->S
open Go.Proofs.Tryz Go.RowKit Go.Maps Go.ChangeMaps Go.MapKept
attribute [local go_sem ↓] Go.wp_at_zero Go.wp_at_succ
def Nl(B b l)(s:ByteArray)(w)(h:Lib.IsBuilder 229 5 B b (Lib.byteCells l) w)(g:l.length+s.size<=140737488355328)(c:B<=w) :
  κ prog 172 #[b,s] w λe w' =>
   e=.returned (.tuple #[.int .i64 s.size,.nilIface])/\Lib.IsBuilder 229 5 B b (Lib.byteCells (l++s.data.toList)) w'/\β B w w':=by
 refine(Any.Builder_WriteString {Tryz.lays105 with} Tryz.Builder_Extra_105 B b (Lib.byteCells l) s w h (by rw[jbK];exact g) c).mono ?_;rintro e w' ⟨rfl,f,d⟩;refine⟨rfl,.inr ?_,d⟩;have a:Lib.byteCells (l++s.data.toList)=Lib.byteCells l++Lib.strCells s:=by simp[Lib.byteCells,Lib.strCells]
 rw[a];exact f
def Nj(B b l w)(h:Lib.IsBuilder 229 5 B b (Lib.byteCells l) w)(a:B<=w) :
  κ prog 173 #[b] w λe w'=>e=.returned (.string ⟨l.toArray⟩)/\β B w w' :=
 Tryz.Builder_String_any B b l w h a
def CX:List UInt8:=List.replicate 64 0
def VR:Lib.repeatL [0] 64=CX:=by decide
def VT(w) :
  κ prog 262 #[.string ⟨#[0]⟩,(64:Int)] w λe w'=>e=.returned (.string ⟨CX.toArray⟩)/\β w w w':=by
 have h:=Tryz.strings_Repeat ⟨#[0]⟩ 64 w (by omega) (by show 1*64<=_;omega);rw[show(⟨#[0]⟩:ByteArray).data.toList=[0] from rfl,VR] at h;exact h
def Vp{B x v}(q w)(h:aI B w x v)(K:v.h.ok=true)(L:q<=40)(ha:dJ v.h q+4<=v.d.fl.length)(z:∀ s∈v.d.seen,s.length=16)(hn:v.d.fl.length<=200)(Z:v.d.seen.length=v.d.fl.length) :
  κ prog 261 #[x.p,(q:Int)] w λe w' =>
   e=.returned (.tuple #[.string ⟨(kL v.d (dJ v.h q) 4).toArray⟩,.nilIface])/\β w w w':=by
 obtain⟨P,c1,c2,c3,c4,c5,Y⟩:=h.cells;have E:=ah λW=>Ap v.h.c v.h.p v.h.b q W K L
 generalize dJ v.h q=a at *
 have U:χ (kL v.d a 0=[]):=rfl;have r:χ (∀ k,kL v.d a (k+1)=kL v.d a k++v.d.seen.getD (a+k) []):=λ_=>rfl
 have R:χ (∀ k,k<=4->(kL v.d a k).length=16*k):=λk n=>by
  induction k with
  | zero=>rfl
  | succ k V =>
   rw[r.out,jah,V (by omega)];have j:a+k<v.d.seen.length:=by omega
   have:(v.d.seen.getD (a+k) []).length=16:=by rw[ja6,ja5 j];exact z _ (jad j)
   omega
 have G:χ (∀ k,k<4->(bytesOf (v.d.seen.getD (a+k) [])).size=16):=λk n=>by
  have j:a+k<v.d.seen.length:=by omega
  have:(v.d.seen.getD (a+k) []).length=16:=by rw[ja6,ja5 j];exact z _ (jad j)
  show(v.d.seen.getD (a+k) []).toArray.size=16
  simpa using this
 have N:χ (∀(k:Nat) (W:ω),k<4->aI B W x v->κ prog 75 #[x.h.p,((a:Int)+(k:Int):Int)] W λe w'=>e=.returned (.tuple #[.string (bytesOf (v.d.seen.getD (a+k) [])),.nilIface])/\w'=W):=λk W n l=>by
  have:=l9 (a+k) W l.dev.toaS (by omega)
  rw[show(((a+k:Nat):Int))=(a:Int)+(k:Int) by omega] at *;exact this
 generalize kL v.d a=g at *
 go_enter func261,ntmps261;go_wp2_with fail;refine cEq (E _) λf D=>?_
 have C:=ah D;have T:χ (Lib.IsBuilder 229 5 f.heap.size f.heap.size [] (f.alloc (.cells #[.pointer O,.slice O 0 0] 229))):=Lib.fresh_isBuilder _ _ _;go_wp2;go_loopw [17] (λi wr=>∃(k:Nat),k<=4/\i=.int .i64 k/\Lib.IsBuilder 229 5 f.heap.size f.heap.size (Lib.byteCells (g k)) wr/\β f f wr) (λi _=>4-(intOf i).toNat)
 case atStart=>exact⟨0,ja7 _,rfl,by rw[U.out];exact T,(ja0 _ _).alloc (ja1 _) _⟩
 case round =>
  obtain⟨k,n,rfl,u,m⟩:=hrel;have l:=(h.below D).below m;have P:=l.cells.1;have A:=ah m;by_cases t:k<4
  .have Q:=ah (N k wr t l);have J:=ah (Nl _ _ (g k) _ wr u (by rw[R.out k (by omega),G.out k t];omega) m.size);have H:χ (g (k+1)=g k++(bytesOf (v.d.seen.getD (a+k) [])).data.toList):=by unfold χ;rw[(r.out k)];simp[bytesOf]
   generalize bytesOf _=S at *
   have X:IntKind.i64.wrap _=(a:Int)+(k:Int):=ja9 _ (by omega);go_wp2_with fail;refine cSt Q ?_;go_wp2_with fail;refine J.mono ?_;rintro e y ⟨rfl,I,o⟩;have F:χ (Lib.IsBuilder 229 5 f.heap.size f.heap.size (Lib.byteCells (g (k+1))) y):=by unfold χ;rw[H.out];exact I
   go_wp2;go_roundw
   case rel =>
    exact⟨k+1,by omega,by go_num,F,(A.trans o)⟩
   case measure=>simp[intOf];omega
  .have M:k=4:=by omega
   subst M;go_wp2_with fail;refine cEq (Nj _ _ (g 4) wr u m.size) λy o=>?_
   go_wp2;go_ret2;exact⟨rfl,C.trans ((A.trans o).mono C.size)⟩
def Vy{B m x v}(c:Int)(w)(h:aI B w x v)(j:v.ok m) :
  κ prog 226 #[x.p,c] w λe w' =>
   e=.returned (.tuple #[.string ⟨(v.iy c).toArray⟩,erV (v.ji c)])/\β w w w':=by
 have f:=ah (sZ c w h);have D:=ah h
 cases b:v.there c with
 | false =>
  have i:χ (v.iy c=[]):=by unfold χ IV.iy;rw[b];rfl
  have g:χ (erV (v.ji c)=.iface 96 (.int .i64 1)):=by unfold χ IV.ji;rw[b];exact eX
  have r:v.iT c=1:=by unfold IV.iT;rw[b];rfl
  rw[r,eX] at f;generalize (v.bG c).1=y0 at *
  generalize (v.bG c).2=y1 at *
  go_enter func226,ntmps226;go_wp2_with fail;refine cEq f λn a=>?_
  go_wp2;go_ret2;exact⟨by rw[i.out,g.out];rfl,a.alloc a.size _⟩
 | true =>
  have r:v.iT c=0:=by unfold IV.iT;rw[b];rfl
  have y:v.bG c=v.ent c:=by unfold IV.bG;rw[b];rfl
  rw[r,aJ,y] at f;by_cases k:(v.ent c).1=2
  .obtain⟨G,F,t⟩:=j.place b k;have E:=HV.dS j.h;have i:χ (v.iy c=kL v.d (dJ v.h (v.ent c).2.toNat) 4):=by unfold χ IV.iy;rw[b,if_pos rfl,if_pos k]
   have g:χ (erV (v.ji c)=.nilIface):=by unfold χ IV.ji;rw[b,if_pos rfl,if_neg (by omega)];exact aJ
   have u:χ (∀ W:ω,aI B W x v->κ prog 261 #[x.p,.int .i64 (v.ent c).2] W λe w'=>e=.returned (.tuple #[.string ⟨(v.iy c).toArray⟩,.nilIface])/\β W W w'):=λW A=>by
    have:=Vp (v.ent c).2.toNat W A j.h (by omega) t j.d.ok.l2 j.d.ok.n2 j.d.ok.same
    rw[show(((v.ent c).2.toNat:Nat):Int)=(v.ent c).2 by omega,<- i.out] at *;exact this
   rw[k] at f;generalize (v.ent c).2=y1 at *
   generalize v.iy c=S at *
   go_enter func226,ntmps226;go_wp2_with fail;refine cEq f λn a=>?_
   have l:=ah (a.alloc a.size (.cells #[(2:Int),y1] 168));go_wp2_with fail;refine cEq (u (n.alloc (.cells #[(2:Int),y1] 168)) (D.below (a.alloc a.size _))) λC q=>?_
   go_wp2;go_ret2;exact⟨by rw[g.out];rfl,l.trans (q.mono l.size)⟩
  .by_cases o:(v.ent c).1=1
   .have i:χ (v.iy c=CX):=by unfold χ IV.iy;rw[b,if_pos rfl,if_neg k,if_pos o];rfl
    have g:χ (erV (v.ji c)=.nilIface):=by unfold χ IV.ji;rw[b,if_pos rfl,if_neg (by omega)];exact aJ
    rw[o] at f;generalize (v.ent c).2=y1 at *
    generalize v.iy c=S at *
    go_enter func226,ntmps226;go_wp2_with fail;refine cEq f λn a=>?_
    have l:=ah (a.alloc a.size (.cells #[(1:Int),y1] 168));go_wp2_with fail;refine cEq (VT _) λC q=>?_
    go_wp2;go_ret2;exact⟨by rw[g.out,i.out];rfl,l.trans (q.mono l.size)⟩
   .have s:(v.ent c).1=0:=by
     rcases jS (j.ent b) with z|z
     .omega
     .omega
    have i:χ (v.iy c=[]):=by unfold χ IV.iy;rw[b,if_pos rfl,if_neg k,if_neg o]
    have g:χ (erV (v.ji c)=.iface 96 (.int .i64 4)):=by unfold χ IV.ji;rw[b,if_pos rfl,if_pos s];simp[erV]
    rw[s] at *
    generalize (v.ent c).2=y1 at *
    go_enter func226,ntmps226;go_wp2_with fail;refine cEq f λn a=>?_
    go_wp2;go_ret2;exact⟨by rw[i.out,g.out];rfl,a.alloc a.size _⟩
def WM{P k t e R w b n}{D:DataW Unit}(h:w.ownsMap P k R b n D)(g:P.underlying t=S (.map k e)) :
  ∃ w',(∀ d,(Builtin.clear_ #[t] d #[.map (S b)]).run P w=.ok (.tuple #[]) w')/\w'.ownsMap P k R b 0 (.map [])/\w.mapTurned w' b:=by
 obtain⟨f,c,a,F,i,rfl⟩:=h;refine⟨setBlock w b _,λd=>?_,⟨#[],c,heap_setBlock_same a _,⟨by simp,stamped_empty _,by simp⟩,ja1 _,rfl⟩,⟨f,c, #[],c,a,rfl⟩⟩;simp[Builtin.clear_,run_underlying g,jbe a,MapKept.run_setObj_map _ a,Result.andThen,setBlock]
def QY(l)(q:Nat):qC (l++[q])=(qC l).put (.int .i64 (q:Int)) (.agg []):=by
 unfold qC;rw[jbs];exact setOf_snoc _ _ _
def aI.Iz{B w w' x v}(h:aI B w x v)(b)(g:w.mapTurned w' x.m)(i:w'.ownsMap prog 3 (unitElem (H:=Unit)) x.m b.length (qC b)) :
  aI B w' x {v with held:=b}/\aX B x.tb w w':=by
 have a:=g.grown;obtain⟨f,c,n⟩:=uY h.map
 have l:∀ k,x.h.fp k->S k≠S x.m:=λk d e=>by
  obtain⟨r,t,u,p⟩:=h.dev.kinds _ d;simp_all
 obtain⟨j,y,o⟩:=h.lts
 refine⟨⟨?_,h.pB,h.mB,h.dev.keep λk d=>a.block _ (h.dev.lt k d).2 (l k d),bg h.own (λk e=>by
  have:x.tb=k:=by simpa [Value.ownBlock] using e
  subst this;exact a.block _ o (λe=>by obtain⟨_,q,s⟩:=h.tb;simp_all)),i⟩,?_⟩
 .rw[a.block _ j (λe=>by have:=h.blk;simp_all)];exact h.blk
 .exact(Kept.refl _ _).grown a λk e=>by
   have:x.m=k:=by simpa using e
   subst this;exact .inl ⟨h.mB,.inl (.inr ⟨f,c,n⟩)⟩
def yH{B x v}(w)(h:aI B w x v) :
  κ prog 119 #[x.p] w λe w' =>
   ∃ d,e=.returned (.tuple #[])/\d.p=x.h.p/\aI B w' {x with h:=d} v.flush/\aX B x.tb w w':=by
 obtain⟨y,c1,c2,c3,c4,s,t⟩:=h.cells;have c:=ah h;go_enter func119,ntmps119;go_wp2_with fail;refine(flush_any w h.dev.toaS).mono ?_;rintro e o ⟨rfl,f,j⟩;obtain⟨b,g⟩:=c.sW (c.dev.nilled f) rfl (j.mono λk _ a=>by rcases a with a|a;exact .inl a;exact .inr (.inl a));obtain⟨u,r,l,i⟩:=WM b.map underlying233;obtain⟨m,n⟩:=b.Iz [] i l;have q:=b.cells.2.2.2.2.2.1;go_wp2;go_end0
 exact⟨{x.h with v2:=.slice O 0 0},rfl,rfl,m,(aX.trans g n)⟩
def PV{B w x v}(h:aI B w x v):mO w (S ⟨x.tb,0,O⟩) v.t.length v.t :=
 vX h.own _ (by rw[jaf (by rw[qV];omega)]) (ja1 _) rfl
def Rn{B w x v}(h:aI B w x v):v.t.length<=x.tc:=by
 obtain⟨_,b,c,a,_⟩:=fB h.own;exact a
def LV{B m x v}(r w)(h:aI B w x v)(hd:v.d.fine v.d.fl.length m)(C:m<1000000000)(D:B.top<=w)(I:v.t.length<=32)(J:r+1<v.d.fl.length)(u:iJ v.t (r:Int)=0)(y:(eH v.t (r:Int)).size=16) :
  κ prog 102 #[x.p,(r:Int)] w λe w' =>
   ∃ g,e=.returned (erV v.d.aV)/\g.p=x.h.p/\aI B w' {x with h:=g} {v with d:=v.d.put (1+r) (eH v.t (r:Int)).data.toList}/\aX B x.tb w w':=by
 obtain⟨H,c1,c2,c3,c4,K,G⟩:=h.cells
 have q:χ _:=λW a=>by
  have:=Wq _ v.t.length x.tc v.t (r:Int) W ((PV h).below a) (by omega) (Rn h)
  rw[u,aJ] at *;exact this
 have A:χ (∀(W:ω),aI B W x v->B.top<=W.heap.size->κ prog 105 _ W λe w' =>
   ∃ v2,e=.returned _/\bV B w' _ _/\Kept x.h.fp W w'):=λW z a=>by
  have:=yt (1+r) _ W z.dev hd C a y (by omega)
  rw[show(((1+r:Nat):Int))=1+(r:Int) by omega] at *;exact this
 have L:=hd.ok.n2;have M:1+(r:Int)<=1000:=by omega
 generalize eH v.t (r:Int)=rs at *
 generalize v.t.length=n at *
 generalize v.d.aV=F at *
 go_enter func102,ntmps102;go_wp2_with fail;refine cEq (q w (ja0 _ _)) λf b=>?_
 have c:=h.below b;have E:=c.cells.1;have i:=ah c;have o:χ (aX B x.tb w f):=aX.of_below b;go_wp2_with fail;refine(A f i (ja4 D b.size)).mono ?_;rintro e N ⟨v2,rfl,j,k⟩;obtain⟨l,s⟩:=i.sW j rfl k;go_wp2;go_ret;exact⟨{x.h with v2:=v2},rfl,rfl,l,(aX.trans o s)⟩
def aI.headed{B w x v}(h:aI B w x v)(g) :
  aI B (((w.setCell ⟨x.p,1,O⟩ g.c).setCell ⟨x.p,2,O⟩ g.p).setCell ⟨x.p,3,O⟩ g.b) x {v with h:=g} /\
  aX B x.tb w (((w.setCell ⟨x.p,1,O⟩ g.c).setCell ⟨x.p,2,O⟩ g.p).setCell ⟨x.p,3,O⟩ g.b):=by
 have f:=h.blk;obtain⟨q,c,r⟩:=uY h.map;obtain⟨_,m,o⟩:=h.tb
 have l:∀ k,x.h.fp k->k≠x.p:=λk a e=>by
  obtain⟨n,t,j,p⟩:=h.dev.kinds _ a;rw[e,f] at *
  cases j;simp_all
 have d:∀ k,k≠x.p->(((w.setCell ⟨x.p,1,O⟩ g.c).setCell ⟨x.p,2,O⟩ g.p).setCell ⟨x.p,3,O⟩ g.b).heap[k]?=w.heap[k]?:=λk a=>by
  rw[heap_setCell_other _ _ _ _ a,heap_setCell_other _ _ _ _ a,heap_setCell_other _ _ _ _ a]
 refine⟨⟨?_,h.pB,h.mB,h.dev.keep λk a=>d k (l k a),bg h.own (λk e=>by
  have:x.tb=k:=by simpa [Value.ownBlock] using e
  subst this;exact d _ (λe=>by simp_all)),wJ h.map (d _ (λe=>by simp_all))⟩,?_⟩
 .rw[heap_setCell_same _ _ _ _ _ _ (heap_setCell_same _ _ _ _ _ _ (heap_setCell_same w x.p _ _ _ _ f))];rfl
 .have i:SP B x.tb w x.p:=⟨h.pB.1,.inl (.inl ⟨_,_,f,.inr (.inr (.inr rfl))⟩)⟩;exact(((Kept.refl _ w).setCell  (.inl i) _).setCell  (.inl i) _).setCell  (.inl i) _
def FW(s k):(s.extract (k*16) ((k+1)*16)).data.toList=chunk s k:=by
 unfold chunk;rw[ByteArray.data_extract,Array.toList_extract,List.extract_eq_take_drop];rw[show(k+1)*16-k*16=16 by omega]
structure pz(B:Gd)(tb:Nat)(w:ω)(x:Ih)(v:IV)(d:DV)(y:Hd)(W:ω):Prop where
 img:aI B W {x with h:=y} {v with d:=d}
 kept:aX B tb w W
theorem pz.drew{B tb w W x v d y}(h:pz B tb w x v d y W):pz B tb w x v d y W.drew:=⟨h.img.drew,aX.trans h.kept (aX.of_below (ja0 _ _).drew)⟩
def LU{B m x v}(q fr c)(s:ByteArray)(w)(h:aI B w x v)(hd:v.d.fine v.d.fl.length m)(hm:m+4<1000000000)(hB:B.top<=w)(f:v.h.ok=true)(U:q<=40)(Y:s.size=c*16)(hf:fr+c<=4)(ha:dJ v.h q+fr+c<=v.d.fl.length) :
  κ prog 258 #[x.p,(q:Int),(fr:Int),s] w λe w' =>
   ∃ y,e=.returned (erV (v.d.puts (dJ v.h q+fr) s c).2)/\y.p=x.h.p/\aI B w' {x with h:=y} {v with d:=(v.d.puts (dJ v.h q+fr) s c).1}/\aX B x.tb w w':=by
 obtain⟨o,c1,c2,c3,c4,c5,fz⟩:=h.cells;have am:=hd.ok.n2;have K:=ah λW=>Ap v.h.c v.h.p v.h.b q W f U
 have C:=ah λk (f:k<=c)=>hd.puts Y (by omega) (by omega) k f
 generalize ad:dJ v.h q=a at *
 have A:=ah λk (f:(v.d.puts (a+fr) s k).2=0)=>DV.zk f
 have X:=ah λk (f:(v.d.puts (a+fr) s k).2≠0) (T:k<=c)=>DV.zi f c T
 have P:χ (v.d.puts (a+fr) s 0=(v.d,0)):=rfl;generalize v.d.puts (a+fr) s=D at *
 have HI:=ah h;have ab:(s.size:Int) / 16=(c:Int):=by omega
 have ae:a+fr+c<=200:=by omega
 clear h hd fz ad U;go_enter func258,ntmps258;go_wp2_with fail;refine cEq (K _) λQ z=>?_
 have a8:=ah (HI.below z);have a4:χ (aX B x.tb w Q):=aX.of_below z;have af:B.top<=Q.heap.size:=ja4 hB z.size;clear z K HI o c1 c2 c3 c4 c5;go_wp2;go_loopw [23] (λi wr=>∃(k:Nat) (y:Hd),k<=c/\i=.int .i64 k/\(D k).2=0/\y.p=x.h.p/\pz B x.tb w x v (D k).1 y wr) (λi _=>c-(intOf i).toNat)
 case atStart=>exact⟨0,x.h,ja7 _,rfl,by rw[P.out],rfl,⟨by rw[P.out];exact a8,a4⟩⟩
 case round =>
  obtain⟨k,y,T,rfl,t,r,j⟩:=hrel;by_cases al:k<c
  .have H:=A k t;have M:=C k (by omega);have a3:B.top<=wr.heap.size:=ja4 hB j.kept.size
   have Z:χ (∀ W:ω,pz B x.tb w x v (D k).1 y W->wr.heap.size<=W.heap.size->κ prog 105 #[y.p,((a:Int)+(fr:Int)+(k:Int):Int),.string (s.extract (k*16) ((k+1)*16))] W λe w' =>
      ∃ l:Hd,e=.returned (erV (D (k+1)).2)/\l.p=y.p/\pz B x.tb w x v (D (k+1)).1 l w'/\w'.cell? ⟨x.p,0,O⟩=S (y.p:υ)):=λW E a7=>by
    have h1:=yt (a+fr+k) (s.extract (k*16) ((k+1)*16)) W E.img.dev M (by omega) (ja4 a3 a7) (by rw[jaB];omega) (by omega);rw[show(((a+fr+k:Nat):Int))=(a:Int)+(fr:Int)+(k:Int) by omega] at *
    refine h1.mono ?_;rintro e w' ⟨v2,rfl,a2,aa⟩;obtain⟨a1,a5⟩:=E.img.sW a2 rfl aa;refine⟨{y with v2:=v2},by rw[H],rfl,⟨?_,aX.trans E.kept a5⟩,a1.cells.1⟩;rw[H,<- FW];exact a1
   have o:=j.img.cells.1;have n:=ah j;have u:=ah r;clear H M t j r C A;have k0:(0:Int)<=(k:Int):=by omega
   have k1:(k:Int)*16<=((k:Int)+1)*16:=by omega
   have k2:((k:Int)+1)*16<=(s.size:Int):=by omega
   have k3:(0:Int)<=(k:Int)*16:=by omega
   have k4:(0:Int)<=((k:Int)+1)*16:=by omega
   have k5:((k:Int)*16).toNat=k*16:=by omega
   have k6:(((k:Int)+1)*16).toNat=(k+1)*16:=by omega
   have k7:IntKind.i64.wrap ((k:Int)*16)=(k:Int)*16:=ja9 _ (by omega);have k8:IntKind.i64.wrap ((k:Int)+1)=(k:Int)+1:=ja9 _ (by omega);have k9:IntKind.i64.wrap (((k:Int)+1)*16)=((k:Int)+1)*16:=ja9 _ (by omega);have ag:IntKind.i64.wrap ((a:Int)+(fr:Int)+(k:Int))=(a:Int)+(fr:Int)+(k:Int):=ja9 _ (by omega);have ai:(k:Int)<=(k:Int)+1:=by omega
   clear Y ab;have a0:wr.drew.cell? ⟨x.p,0,O⟩=S (y.p:υ):=o;have F:χ (pz B x.tb w x v (D k).1 y wr.drew/\wr.heap.size<=wr.drew.heap.size):=⟨n.drew,ja1 _⟩;go_wp2
   go_region_held3 (λW=>W.cell? ⟨x.p,0,O⟩=S (y.p:υ))
    (first|(exact a0)|assumption)
    (first
      | (go_at_call 105;refine(Z _ F.1 F.2).mono ?_;rintro e w3 ⟨l,rfl,L,V,a6⟩))
   have I:=ah V;have N:χ (l.p=x.h.p):=by unfold χ;rw[L];exact u
   clear V L a6 n F Z a0 o u;by_cases g:(D (k+1)).2=0
   .have HZ:=ah g;have J:erV (D (k+1)).2=.nilIface:=by rw[g,aJ]
    rw[J];clear g J;go_wp2;go_roundw
    case rel =>
      exact⟨k+1,l,by omega,by go_num,HZ,N,I⟩
    case measure=>simp[intOf];omega
   .have HE:=X (k+1) g (by omega);have R:=ah HE;have G:erV (D (k+1)).2=.iface 96 (.int .i64 (D (k+1)).2):=by unfold erV;rw[if_neg g]
    have H7:=ah G;rw[G];clear g HE G;go_wp2;go_ret;refine⟨l,?_,N,?_,I.kept⟩
    .rw[R.out,H7.out];rfl
    .rw[R.out];exact I.img
  .have ac:k=c:=by omega
   subst ac;have n:=ah j;have u:=ah r;have a9:χ (erV (D k).2=.nilIface):=by unfold χ;rw[t,aJ]
   clear j r t C A X;go_wp2;go_ret;exact⟨y,mg a9.symm,u,n.img,n.kept⟩
def QS(l)(k:Nat):Maps.has (qC l) (.int .i64 (k:Int))=l.any λx=>decide (x=k):=by
 unfold qC;rw[has_setOf]
 .induction l with
  | nil=>rfl
  | cons a l b =>
   rw[jbA,List.any_cons,List.any_cons,b];congr 1;apply decide_eq_decide.2;constructor<;>intro h<;>first|omega|simp_all|omega|(omega)
 .intro x c;obtain⟨q,_,rfl⟩:=List.mem_map.1 c
  trivial
def UC{a b}(h:true=(!a && !b)):a=false/\b=false:=by simp_all
def UF{a}(h:false=(!a && !false)):a=true:=by simp_all
structure lF(w:ω)(tk:List Bool)(wr:ω):Prop where
 blk:wr.heap[w.heap.size]?=S (.cells (tk.map Value.bool).toArray 288 (0,0))
 bel:β w w wr
 n40:tk.length=40
def lF.bit{w wr tk}(h:lF w tk wr)(q)(a:q<40):wr.cell? ⟨w,q,O⟩=S (.bool (tk.getD q false))/\wr.frozen? ⟨w,q,O⟩=false:=by
 refine⟨?_,frozen_of_row _ _ _ _ _ h.blk⟩;have b:q<tk.length:=by rw[h.n40];exact a
 rw[cell_of_row _ _ _ _ _ _ h.blk,jaE];simp_all
theorem lF.set{w wr tk}(h:lF w tk wr)(q):lF w (tk.set q true) (wr.setCell ⟨w,q,O⟩ true):=by
 refine⟨?_,h.bel.setCell (ja1 _) _,by rw[jal];exact h.n40⟩;rw[heap_setCell_same _ _ _ _ _ _ h.blk];simp_all
def lF.below{w wr a tk}(h:lF w tk wr)(b:β (w.heap.size+1) wr a):lF w tk a :=
 ⟨by rw[b.block _ (Nat.lt_succ_self _)];exact h.blk,h.bel.trans (b.mono (jbz _)),h.n40⟩
theorem lF.size{w wr tk}(h:lF w tk wr):w.heap.size+1<=wr:=lt_of_some h.blk
def kX(l:List Nat):List Value:=l.map λq:Nat=>.int .i64 (q:Int)
def Eo(w):(zeroValue 316).run prog w=.ok (.agg #[]) w:=by kernel_rfl
def take_snoc{l:List (Int × Int)}{k}(h:k<l.length):l.take (k+1)=l.take k++[((l.getD k (0,0)).1,(l.getD k (0,0)).2)]:=by
 rw[jaK h];congr 1;simp_all
def GH{B m x v}(w)(h:aI B w x v)(E:v.ok m) :
  κ prog 259 #[x.p] w λe w' =>
   ∃ a cap,e=.returned (.slice a v.jC.length cap)/\w'.ownsRow w 3 1 (.slice a v.jC.length cap) v.jC.length (kX v.jC)/\β w w w':=by
 have av:=HV.dS E.h;have al:=E.len;obtain⟨c0,c1,c2,c3,c4,c5,fz⟩:=h.cells;obtain⟨lp,lm,lt⟩:=h.lts;obtain⟨i1,aq,ao,aD,ae⟩:=info_parts uS;have Q:=ah h
 have ab:χ (∀ k,k<v.t.length->bP (v.t.getD k (0,0)).1 (v.t.getD k (0,0)).2 v.h.p=true):=λk C=>by
  rw[ja6,ja5 C];exact E.ents _ (jad C)
 obtain⟨P,V⟩:∃ P:Nat,v.h.p=(P:Int):=⟨v.h.p.toNat,by omega⟩;have a9:χ (v.jC=v.iY P):=by unfold χ IV.jC;rw[V];rfl
 have Y:χ (∀ k,v.iY (k+1)=v.iY k++(if v.jE k=true then [k] else [])):=v.BL;have T:χ (v.iY 0=[]):=rfl;have aa:χ (∀ k,(v.iY k).length<=k):=v.QE
 have a4:χ (∀ k,k<40->v.jE k=(!(fZ v.t).getD k false && !v.pK k)):=λk C=>by
  unfold IV.jE;congr 1;rw[D9 _ _ C];unfold IV.Ad;congr 1;rw[jaG,List.any_eq_true,decide_eq_true_eq];constructor
  .rintro⟨e,he,h1⟩;rw[of_decide_eq_true h1] at he;exact he
  .intro hm;exact⟨_,hm,decide_eq_true rfl⟩
 have b2:P<=40:=by omega
 have aw:v.t.length<=32:=by omega
 rw[V] at c2;rw[a9.out];have HN:χ (v.t.length=v.t.length):=rfl;generalize ad:v.t.length=n at c4 ab aw;have W:χ (v.t.length=n):=ad
 have ap:χ (lF w (fZ (v.t.take 0)) (w.alloc (.cells (List.replicate 40 (Value.bool false)).toArray 288))):=by
  refine⟨?_,(ja0 _ _).alloc (ja1 _) _,Ea _⟩;rw[heap_alloc_new,List.take_zero,Lm,List.map_replicate]
 clear h E av al fz c0 c1 c3 ad HN c5 c4;have c4:=Q.cells.2.2.2.2.1;rw[W.out] at c4;generalize v.iY=F at a9 Y T aa |-;go_enter func259,ntmps259;go_wp2;go_loopw [15] (λi wr=>∃ k:Nat,k<=n/\i=.int .i64 k/\lF w (fZ (v.t.take k)) wr) (λi _=>n-(intOf i).toNat)
 case atStart=>exact⟨0,ja7 _,rfl,ap⟩
 case round =>
  obtain⟨k,C,rfl,b⟩:=hrel;by_cases a5:k<n
  .have f:=Q.below b.bel;have a7:k<v.t.length:=by rw[W.out];exact a5
   obtain⟨t0,t1,_⟩:=f.jZ (c:=k) a7;have J:=take_snoc a7;have N:=ab k a5;have b7:=b.size;generalize (v.t.getD k (0,0)).1=y0 at t0 J N;generalize (v.t.getD k (0,0)).2=y1 at t1 J N;have g:=ah b;have a6:=ah J;have k0:(0:Int)<=(k:Int):=by omega
   have k1:(k:Int)<(n:Int):=by omega
   have b5:x.tb<wr.heap.size:=by omega
   clear f b J;by_cases s:y0=2
   .have hq:0<=y1/\y1<40:=by
     rcases jS N with h4|h4
     .omega
     .omega
    obtain⟨q,rfl⟩:∃ q:Nat,y1=(q:Int):=⟨y1.toNat,by omega⟩
    have Z:χ (lF w (fZ (v.t.take (k+1))) ((wr.alloc (.cells #[y0,(q:Int)] 168)).setCell ⟨w.heap.size,q,O⟩ true)):=by
     unfold χ;rw[a6.out,s,Ll _ _ (by omega)];exact(g.below ((ja0 _ _).alloc g.size _)).set q
    obtain⟨u0,uf⟩:=g.bit q (by omega)
    have ai:(wr.alloc (.cells #[y0,(q:Int)] 168)).cell? ⟨w.heap.size,q,O⟩=S (.bool ((fZ (v.t.take k)).getD q false)):=by
     rw[jas _ _ _ (by show w.heap.size<wr;omega)];exact u0
    have b6:(wr.alloc (.cells #[y0,(q:Int)] 168)).frozen? ⟨w.heap.size,q,O⟩=false:=by
     rw[jb2 _ _ _ (by show w.heap.size<wr;omega)];exact uf
    have g2:(y0==2)=true:=by simpa using s
    have q0:(0:Int)<=(q:Int):=by omega
    have q1:(q:Int)<40:=by omega
    generalize (fZ (v.t.take k)).getD q false=bb at u0 ai;clear s N hq;go_wp2;go_roundw
    case rel =>
     exact⟨k+1,by omega,by go_num,Z⟩
    case measure=>simp[intOf];omega
   .have Z:χ (lF w (fZ (v.t.take (k+1))) (wr.alloc (.cells #[y0,y1] 168))):=by
     unfold χ;rw[a6.out,Lp _ _ _ s];exact g.below ((ja0 _ _).alloc g.size _)
    have g2:(y0==2)=false:=by simpa using s
    go_wp2;go_roundw
    case rel =>
     exact⟨k+1,by omega,by go_num,Z⟩
    case measure=>simp[intOf];omega
  .have a1:k=v.t.length:=by rw[W.out];omega
   rw[a1,jaT] at b;have g:=ah b;have f:=Q.below b.bel;have ax:=f.cells.2.2.1;rw[V] at ax;clear b f a1;go_wp2;go_loopw [6,31] (λu i wq=>∃(k:Nat) (a:Option Addr) (cap:Nat),k<=P/\i=.int .i64 k/\u=.slice a (F k).length cap/\wq.ownsRow (w.heap.size+1) 3 1 (.slice a (F k).length cap) (F k).length (kX (F k))/\lF w (fZ v.t) wq) (λ_ i _=>P-(intOf i).toNat)
   case atStart=>exact⟨0,O,0,ja7 _,rfl,by rw[T.out];rfl,by rw[T.out];exact jaa _ _ _ _,g⟩
   case round =>
    obtain⟨j,a,cap,hj,rfl,rfl,ho,b⟩:=hrel;obtain⟨wq,az⟩:∃ wq,wq=wr:=⟨wr,rfl⟩;subst az;by_cases b8:j<P
    .have f:=Q.below b.bel;have c5:=f.cells.2.2.2.2.2.1;have aR:=b.size;have R:=ah f.map;have a0:=QS v.held j;have d:=a4 j (by omega);have A:=Y j;have b1:=aa j;have X:=ah (Hz j (by omega));obtain⟨b0,bf⟩:=b.bit j (by omega)
     have K:(wq.alloc (.cells #[] 316)).cell? ⟨w.heap.size,j,O⟩=S (.bool ((fZ v.t).getD j false)):=by
      rw[jas _ _ _ (by show w.heap.size<wq;omega)];exact b0
     have j0:(0:Int)<=(j:Int):=by omega
     have j1:(j:Int)<40:=by omega
     have L:=ah ho;have o:=ah b;have M:v.pK j=v.held.any λx=>decide (x=j):=rfl
     rw[<- M] at a0;generalize (fZ v.t).getD j false=ub at K d;generalize v.pK j=hb at a0 d;generalize qC v.held=D at *
     generalize v.held.length=U at *
     by_cases I:v.jE j=true
     .rw[I] at d;obtain⟨z,M⟩:=UC d;rw[z] at K;rw[M] at a0;rw[I,if_pos rfl] at A;have l:=ah A;have a8:χ (((wq.alloc (.cells #[] 316)).alloc (.cells #[(j:Int)] 3)).ownsRow (w.heap.size+1) 3 1 (.slice a (F j).length cap) (F j).length (kX (F j))):=(L.alloc _).alloc _
      have af:χ (∀ i y,([.int .i64 (j:Int)]:List υ)[i]?=S y->((wq.alloc (.cells #[] 316)).alloc (.cells #[(j:Int)] 3)).cell? ((⟨wq.heap.size+1,0,O⟩:Addr).add i)=S y):=by
       have:=cell_one_new (wq.alloc (.cells #[] 316)) (.int .i64 (j:Int)) 3
       rw[show(wq.alloc (.cells #[] 316)).heap.size=wq.heap.size+1 by simp] at *;exact this
      have ac:χ (w.heap.size+1<=((wq.alloc (.cells #[] 316)).alloc (.cells #[(j:Int)] 3)).heap.size):=by unfold χ;simp;omega
      have an:χ (((wq.alloc (.cells #[] 316)).alloc (.cells #[(j:Int)] 3)).heap.size=wq.heap.size+2):=by unfold χ;simp
      have ag:χ (β (w.heap.size+1) wq ((wq.alloc (.cells #[] 316)).alloc (.cells #[(j:Int)] 3))):=((ja0 _ _).alloc o.size _).alloc (by have:=o.size;simp;omega) _;clear A d I z M Y a4
      go_wp2_with (first
       | (at_lookup;refine wpList_lookup_own_unit _ rfl _ _ 233 rfl 3 316 yO underlying233 (Eo _) x.m U D rfl R _ _ rfl X ?_)
       | (at_builtin;refine wpList_append_lies _ (by rfl) _ _ 88 (by rfl) (w.heap.size+1) 3 i1 (.int .i64 0) 1 8 underlying88 aq ao aD ae rfl (by decide) (.slice a (F j).length cap) (F j).length (kX (F j)) (by rfl) a8 ⟨wq.heap.size+1,0,O⟩ 1 1 [(j:Int)] (by rfl) (by rfl) af (λu b=>by simp at *;subst b;rfl) (by decide) (by unfold maxLen;omega) (by omega) ac (wq.heap.size+2) an ?_;intro g3 a2 w3 ar aM b4 b3))
      have G:χ (lF w (fZ v.t) w3):=o.below (ag.grown aM ac (λr e=>(a8.lt r e).1))
      have H:χ (w3.ownsRow (w.heap.size+1) 3 1 (.slice (S ⟨g3,0,O⟩) (F (j+1)).length a2) (F (j+1)).length (kX (F (j+1)))):=by
       unfold χ;have e1:(F (j+1)).length=(F j).length+1:=by rw[l.out];simp
       have e2:kX (F (j+1))=kX (F j)++[.int .i64 (j:Int)]:=by rw[l.out];simp[kX]
       rw[e1,e2];exact ar
      have aL:χ ((F (j+1)).length=(F j).length+1):=by unfold χ;rw[l.out];simp
      go_roundw
      case rel =>
       exact⟨j+1,S ⟨g3,0,O⟩,a2,by omega,by go_num,by rw[aL.out],H,G⟩
      case measure=>simp[intOf];omega
     .have a3:v.jE j=false:=by simpa using I
      rw[a3] at d;rw[a3,if_neg (by decide),List.append_nil] at A;have l:=ah A;have G:χ (lF w (fZ v.t) (wq.alloc (.cells #[] 316))):=o.below ((ja0 _ _).alloc o.size _)
      have H:χ ((wq.alloc (.cells #[] 316)).ownsRow (w.heap.size+1) 3 1 (.slice a (F (j+1)).length cap) (F (j+1)).length (kX (F (j+1)))):=by
       unfold χ;rw[l.out];exact L.alloc _
      cases hb with
      | true =>
       clear d K
       go_wp2_with (first
        | (at_lookup;refine wpList_lookup_own_unit _ rfl _ _ 233 rfl 3 316 yO underlying233 (Eo _) x.m U D rfl R _ _ rfl X ?_))
       go_roundw
       case rel =>
        exact⟨j+1,a,cap,by omega,by go_num,by rw[l.out],H,G⟩
       case measure=>simp[intOf];omega
      | false =>
       have z:ub=true:=UF d;rw[z] at K;clear d z
       go_wp2_with (first
        | (at_lookup;refine wpList_lookup_own_unit _ rfl _ _ 233 rfl 3 316 yO underlying233 (Eo _) x.m U D rfl R _ _ rfl X ?_))
       go_roundw
       case rel =>
        exact⟨j+1,a,cap,by omega,by go_num,by rw[l.out],H,G⟩
       case measure=>simp[intOf];omega
    .have am:j=P:=by omega
     subst am;have L:=ah ho;have aE:=ah b.bel;go_wp2;go_ret;exact⟨a,cap,rfl,ownsRow_base L (jbz _),aE⟩
def Wv(c):(aB (c+1):Int)-1=((c / 8:Nat):Int):=by unfold aB;omega
def XE(l:List (Int × Int))(c e)(a:c<l.length):(l.set c e).set c ((l.getD c (0,0)).1,(l.getD c (0,0)).2)=l:=by
 rw[List.set_set];have:l.getD c (0,0)=l[c]:=by simp_all
 rw[this];exact List.set_getElem_self a
def Kz{B m x v}(c k p w)(h:aI B w x v)(a:v.ok m)(hm:m<1000000000)(hB:B.top<=w)(b:c<v.t.length)(he:bP k p v.h.p=true) :
  κ prog 260 #[x.p,(c:Int),.agg #[k,p]] w λe w' =>
   ∃ y,e=.returned (erV v.d.aV)/\y.p=x.h.p/\aI B w' {x with h:=y} (v.set c (k,p))/\aX B x.tb w w':=by
 have ag:=HV.dS a.h;have aq:=a.len;have ai:=zF b;obtain⟨a0,ac⟩:=zD (ts:=v.t.set c (k,p)) a.h (by rw[jal];exact a.len) (yC a.ents c (k,p) he) (c / 8) (by rw[jal];exact ai);have an:=(nK a.h a.need).1;rw[show v.h.c.toNat=v.t.length by omega] at *
 have X:χ (∀ W:ω,κ prog 101 #[((c:Int)+1:Int)] W λe w'=>e=.returned (aB (c+1):Int)/\w'=W):=λW=>by
  have:=rX (c+1) W (by omega)
  rw[show(((c+1:Nat):Int))=(c:Int)+1 by omega] at *;exact this
 have U:χ (∀(W:ω),aI B W x {v with t:=v.t.set c (k,p)}->B.top<=W.heap.size->κ prog 102 #[x.p,((aB (c+1):Int)-1:Int)] W λe w' =>
   ∃ y:Hd,e=.returned (erV v.d.aV)/\y.p=x.h.p/\aI B w' {x with h:=y} {v with t:=v.t.set c (k,p),d:=v.fV c (k,p)}/\aX B x.tb W w'):=λW hi Z=>by
  rw[Wv];exact LV (c / 8) W hi a.d hm Z (by show(v.t.set c (k,p)).length<=32;rw[jal];omega) (by show c / 8+1<v.d.fl.length;omega) a0 ac
 have am:aB (c+1)<=10:=by unfold aB;omega
 have aE:1<=aB (c+1):=by unfold aB;omega
 have a4:bP (v.t.getD c (0,0)).1 (v.t.getD c (0,0)).2 v.h.p=true:=by rw[ja6,ja5 b];exact a.ents _ (jad b)
 have a1:χ (v.d.aV=0\/v.d.aV=7):=by
  rcases DV.oH v.d with f|f
  .exact .inl f.1
  .exact .inr f.1
 have aa:χ (v.d.aV=0->v.set c (k,p)=⟨v.fV c (k,p),v.h,v.t.set c (k,p),if (v.t.getD c (0,0)).1=2 then v.held++[(v.t.getD c (0,0)).2.toNat] else v.held⟩):=λC=>by unfold IV.set;rw[if_pos C]
 have ae:χ (v.d.aV≠0->v.set c (k,p)={v with d:=v.fV c (k,p)}):=λC=>by unfold IV.set;rw[if_neg C]
 have a7:=ah (XE v.t c (k,p) b);have aD:=a.few;have c4:=h.cells.2.2.2.2.1;obtain⟨t0,t1,j⟩:=h.jZ b;obtain⟨lp,lm,lt⟩:=h.lts;generalize v.d.aV=s at *
 generalize v.set c (k,p)=V at *
 have ao:(0:Int)<=(c:Int):=by omega
 have aL:(c:Int)<(v.t.length:Int):=by omega
 have ax:v.t.length<=32:=by omega
 have aw:=ag.2.2.2.1;generalize av:(v.t.getD c (0,0)).1=y0 at *
 generalize ap:(v.t.getD c (0,0)).2=y1 at *
 have T:χ ((v.t.set c (k,p)).length=v.t.length):=jal;generalize al:v.t.length=n at *
 have K:χ (v.t.length=n):=al;generalize aB (c+1)=rn at *
 go_enter func260,ntmps260;go_wp2;have G:χ (β w w ((w.alloc (.cells #[k,p] 168)).alloc (.cells #[y0,y1] 168))):=((ja0 _ _).alloc (ja1 _) _).alloc (by simp) _;have J:((w.alloc (.cells #[k,p] 168)).alloc (.cells #[y0,y1] 168)).heap[w.heap.size]?=S (.cells #[k,p] 168 (0,0)):=by rw[jap _ _ _ (by simp),heap_alloc_new]
 have ab:((w.alloc (.cells #[k,p] 168)).alloc (.cells #[y0,y1] 168)).heap[w.heap.size+1]?=S (.cells #[y0,y1] 168 (0,0)):=by
  have:=heap_alloc_new (w.alloc (.cells #[k,p] 168)) (.cells #[y0,y1] 168)
  rw[show(w.alloc (.cells #[k,p] 168)).heap.size=w.heap.size+1 by simp] at *;exact this
 generalize (w.alloc (.cells #[k,p] 168)).alloc (.cells #[y0,y1] 168)=i at *
 have A:=h.below G;have c4:i.cell? ⟨x.p,4,O⟩=S (.slice (S ⟨x.tb,0,O⟩) n x.tc):=by have:=A.cells.2.2.2.2.1;rw[K.out] at *;exact this
 obtain⟨t0,t1,j⟩:=A.jZ (c:=c) (by rw[K.out];exact b);have f0:=j (c*2);have f1:=j (c*2+1);have b0:i.cell? ⟨w,0,O⟩=S (k:υ):=by rw[cell_of_row _ _ _ _ _ _ J];rfl
 have b1:i.cell? ⟨w,1,O⟩=S (p:υ):=by rw[cell_of_row _ _ _ _ _ _ J];rfl
 obtain⟨ad,Q⟩:=A.Ku c k p;have M:w.heap.size+1≠x.tb:=by omega
 have a9:=ah ad.drew;have I:χ (aX B x.tb w ((i.setCell ⟨x.tb,c*2,O⟩ k).setCell ⟨x.tb,c*2+1,O⟩ p).drew):=aX.trans (aX.trans (aX.of_below G) Q) (aX.of_below (ja0 _ _).drew);have a5:χ (((i.setCell ⟨x.tb,c*2,O⟩ k).setCell ⟨x.tb,c*2+1,O⟩ p).drew.heap[w.heap.size+1]?=S (.cells #[y0,y1] 168 (0,0))):=(aX.box Q ab (by decide) M);go_region;have Y  := ja4 hB I.size;generalize ((i.setCell ⟨x.tb,c*2,O⟩ k).setCell ⟨x.tb,c*2+1,O⟩ p).drew=W1 at *
 go_wp2_with (go_at_call 101;refine cSt (X _) ?_)
 refine(U W1 a9 Y).mono ?_;rintro e o ⟨y,rfl,af,g,L⟩;have F:=ah af;have P:=L.box a5 (by decide) M;have z0:o.cell? ⟨w.heap.size+1,0,O⟩=S (y0:υ):=by rw[cell_of_row _ _ _ _ _ _ P];rfl
 have z1:o.cell? ⟨w.heap.size+1,1,O⟩=S (y1:υ):=by rw[cell_of_row _ _ _ _ _ _ P];rfl
 have z:=ah (aX.trans I L);by_cases l:s=0
 .have HV:=ah (aa l);have N:χ (erV s=.nilIface):=by unfold χ;rw[l,aJ]
  rw[l,aJ];by_cases r:y0=2
  .have az:0<=y1/\y1<1000:=by
    rcases jS a4 with h4|h4
    .omega
    .omega
   obtain⟨q,rfl⟩:∃ q:Nat,y1=(q:Int):=⟨y1.toNat,by omega⟩;obtain⟨w4,ar,a3,a6⟩:=g.drew.map.store yO underlying233 (by show v.held.length<maxLen;unfold maxLen;omega) (Hz q (by omega)) unitElem_mk
   have a8:w4.ownsMap prog 3 (unitElem (H:=Unit)) x.m (v.held++[q]).length (qC (v.held++[q])):=by
    rw[QY,jah];exact a3
   obtain⟨D,E⟩:=g.drew.Iz (v.held++[q]) a6 a8;have c5:=g.cells.2.2.2.2.2.1
   have u:χ (V=⟨v.fV c (k,p),v.h,v.t.set c (k,p),v.held++[q]⟩):=by
    unfold χ;rw[HV.out,if_pos r];simp
   have g2:(y0==2)=true:=by simpa using r
   go_wp2;go_region;go_wp2;go_ret;exact⟨y,mg N.symm,F,by rw[u.out];exact D,(aX.trans (aX.trans z (aX.of_below (ja0 _ o).drew)) E)⟩
  .have u:χ (V=⟨v.fV c (k,p),v.h,v.t.set c (k,p),v.held⟩):=by
    unfold χ;rw[HV.out,if_neg r]
   have g2:(y0==2)=false:=by simpa using r
   go_wp2;go_ret;exact⟨y,mg N.symm,F,by rw[u.out];exact g,z⟩
 .have R:erV s=.iface 96 (.int .i64 7):=by
   rcases a1 with f|f
   .exact absurd f l
   .rw[f];simp[erV]
  rw[R];have c4:o.cell? ⟨x.p,4,O⟩=S (.slice (S ⟨x.tb,0,O⟩) n x.tc):=by have:=g.cells.2.2.2.2.1;rw[T.out] at *;exact this
  obtain⟨t0,t1,j⟩:=g.jZ (c:=c) (by show c<(v.t.set c (k,p)).length;rw[T.out];exact b);have f0:=j (c*2);have f1:=j (c*2+1);obtain⟨D,E⟩:=g.Ku c y0 y1
  have a2:χ (aI B ((o.setCell ⟨x.tb,c*2,O⟩ y0).setCell ⟨x.tb,c*2+1,O⟩ y1).drew {x with h:=y} {v with d:=v.fV c (k,p)}):=by
   have:=D.drew
   unfold χ;rw[show(({v with t:=v.t.set c (k,p),d:=v.fV c (k,p)}:IV).t.set c (y0,y1))=v.t from a7.out] at *
   exact this
  go_wp2;go_region;go_wp2;go_ret;exact⟨y,mg R.symm,F,by rw[(ae.out l)];exact a2,(aX.trans (aX.trans z E) (aX.of_below (ja0 _ _).drew))⟩
def Did(B:Gd)(w:ω)(x:Ih)(V:IV)(f:Int)(e:Ending)(w':ω):Prop :=
 ∃ y:Hd,e=.returned (erV f)/\y.p=x.h.p/\aI B w' {x with h:=y} V/\aX B x.tb w w'
def Did.from{B}{w:ω}{a x V f e w'}(h:Did B a x V f e w')(i:β w w a):Did B w x V f e w':=by
 obtain⟨y,d,b,g,c⟩:=h;exact⟨y,d,b,g,aX.trans (aX.of_below i) c⟩
def qx{B w w' x v f}(h:aI B w x v)(a:β w w w'):Did B w x v f (.returned (erV f)) w':=⟨x.h,rfl,rfl,h.below a,aX.of_below a⟩
def bC{f}(h:f≠0):erV f=.iface 96 (.int .i64 f):=by unfold erV;rw[if_neg h]
def Zo{B x v}(c fr s w)(h:aI B w x v)(n:s.size<=1000)(l : -9223372036854775808<=fr/\fr<=9223372036854775807)(i:o9 v c fr s=false) :
  κ prog 223 #[x.p,c,fr,s] w λe w'=>e=.returned (.iface 96 (.int .i64 1))/\β w w w':=by
 have b:=ah (sZ c w h)
 cases g:v.there c with
 | false =>
  have f:v.iT c=1:=by unfold IV.iT;rw[g];rfl
  rw[f,eX] at b;generalize (v.bG c).1=y0 at *
  generalize (v.bG c).2=y1 at *
  go_enter func223,ntmps223;go_wp2_with fail;refine cEq b λd a=>?_
  go_wp2;go_ret;exact⟨rfl,a.alloc a.size _⟩
 | true =>
  have f:v.iT c=0:=by unfold IV.iT;rw[g];rfl
  rw[f,aJ] at b
  have hd:¬(0<=fr/\fr<=4/\s.size % 16=0/\(s.size:Int)<=16*(4-fr)):=by
   unfold o9 at *
   rw[g,jbn] at i;exact of_decide_eq_false i
  generalize (v.bG c).1=y0 at *
  generalize (v.bG c).2=y1 at *
  by_cases k:fr<0
  .go_enter func223,ntmps223;go_wp2_with fail;refine cEq b λd a=>?_
   go_wp2;go_ret;exact⟨rfl,a.alloc a.size _⟩
  .have g1:decide (fr<0)=false:=decide_eq_false k;by_cases j:4<fr
   .go_enter func223,ntmps223;go_wp2_with fail;refine cEq b λd a=>?_
    go_wp2;go_ret;exact⟨rfl,a.alloc a.size _⟩
   .have g2:decide (4<fr)=false:=decide_eq_false j;by_cases m:s.size % 16=0
    .go_enter func223,ntmps223;go_wp2_with fail;refine cEq b λd a=>?_
     go_wp2;go_ret;exact⟨rfl,a.alloc a.size _⟩
    .go_enter func223,ntmps223;go_wp2_with fail;refine cEq b λd a=>?_
     go_wp2;go_ret;exact⟨rfl,a.alloc a.size _⟩
def Zp{B m x v}(c fr:Int)(s:ByteArray)(w)(h:aI B w x v)(i:v.ok m)(Y:m+10<1000000000)(K:B.top<=w)(E:s.size<=1000)(C : -9223372036854775808<=fr/\fr<=9223372036854775807) :
  κ prog 223 #[x.p,c,fr,s] w (Did B w x (v.write c fr s) (v.bQ c fr s)):=by
 cases a:o9 v c fr s with
 | false =>
  refine cEq (Zo c fr s w h E C a) λw' k=>?_
  have q:v.write c fr s=v:=by unfold IV.write;rw[a,if_neg (λh=>by cases h.1)]
  have n:v.bQ c fr s=1:=by unfold IV.bQ;rw[a];rfl
  rw[q,n,<- eX];exact qx h k
 | true =>
  obtain⟨l,N,X,R,T⟩:=Eh a;have j:=ah (sZ c w h);have q:v.iT c=0:=by unfold IV.iT;rw[l];rfl
  have n:v.bG c=v.ent c:=by unfold IV.bG;rw[l];rfl
  rw[q,aJ,n] at j;have g1:decide (fr<0)=false:=decide_eq_false (by omega);have g2:decide (4<fr)=false:=decide_eq_false (by omega);have u:=ah h;by_cases b:(v.ent c).1=2
  .obtain⟨Z,U,P⟩:=i.place l b;have Q:=HV.dS i.h;have HV:χ (v.write c fr s={v with d:=(v.sJ c fr s).1}):=by unfold χ IV.write;rw[if_pos ⟨a,b⟩]
   have z:χ (v.bQ c fr s=(v.sJ c fr s).2):=by unfold χ IV.bQ;rw[a,if_pos rfl,if_pos b]
   have L:χ (∀ W:ω,aI B W x v->B.top<=W.heap.size->κ prog 258 #[x.p,.int .i64 (v.ent c).2,fr,s] W (Did B W x (v.write c fr s) (v.bQ c fr s))):=λW F k=>by
    have:=LU (v.ent c).2.toNat fr.toNat (s.size / 16) s W F i.d (by omega) k i.h (by omega) (by omega) (by omega) (by omega)
    rw[show(((v.ent c).2.toNat:Nat):Int)=(v.ent c).2 by omega,show((fr.toNat:Nat):Int)=fr by omega] at *
    rw[HV.out,z.out];exact this
   generalize v.write c fr s=V at *
   generalize v.bQ c fr s=f at *
   rw[b] at j;generalize (v.ent c).2=y1 at *
   go_enter func223,ntmps223;go_wp2_with fail;refine cEq j λt g=>?_
   have o:=ah (g.alloc g.size (.cells #[(2:Int),y1] 168));have D:=ah (L _ (u.below o) (ja4 K o.size));go_wp2_with fail;refine D.mono ?_;rintro e M ⟨y,rfl,I,A,G⟩;have r:χ (Did B w x V f (.returned (erV f)) M):=Did.from ⟨y,rfl,I,A,G⟩ o;go_wp2;go_ret;exact r
  .have H:v.write c fr s=v:=by unfold IV.write;rw[if_neg (λh=>b h.2)]
   have J:v.bQ c fr s=4:=by unfold IV.bQ;rw[a,if_pos rfl,if_neg b]
   rw[H,J];generalize (v.ent c).1=y0 at *
   generalize (v.ent c).2=y1 at *
   go_enter func223,ntmps223;go_wp2_with fail;refine cEq j λt g=>?_
   have r:χ (Did B w x v 4 (.returned (erV 4)) (t.alloc (.cells #[y0,y1] 168))):=qx u (g.alloc g.size _);rw[bC (by decide)] at *
   go_wp2;go_ret;exact r
def NQ{B m x v}(c:Int)(w)(h:aI B w x v)(C:v.ok m)(H:m+10<1000000000)(E:B.top<=w) :
  κ prog 234 #[x.p,c] w (Did B w x (v.clear c) (v.fF c)):=by
 have i:=ah (sZ c w h);have r:=ah h
 cases a:v.there c with
 | false =>
  have q:v.iT c=1:=by unfold IV.iT;rw[a];rfl
  have j:v.clear c=v:=by unfold IV.clear;rw[a,if_neg (λh=>by cases h.1)]
  have k:v.fF c=1:=by unfold IV.fF;rw[a];rfl
  rw[q,eX] at i;rw[j,k];generalize (v.bG c).1=y0 at *
  generalize (v.bG c).2=y1 at *
  go_enter func234,ntmps234;go_wp2_with fail;refine cEq i λn b=>?_
  have l:χ (Did B w x v 1 (.returned (erV 1)) (n.alloc (.cells #[y0,y1] 168))):=qx r (b.alloc b.size _);rw[bC (by decide)] at *
  go_wp2;go_ret;exact l
 | true =>
  have q:v.iT c=0:=by unfold IV.iT;rw[a];rfl
  have u:v.bG c=v.ent c:=by unfold IV.bG;rw[a];rfl
  rw[q,aJ,u] at i;by_cases g:(v.ent c).1=1
  .have j:v.clear c=v:=by unfold IV.clear;rw[if_neg (λh=>h.2 g)]
   have k:v.fF c=0:=by unfold IV.fF;rw[a,if_pos rfl,if_pos g]
   rw[j,k];rw[g] at i;generalize (v.ent c).2=y1 at *
   go_enter func234,ntmps234;go_wp2_with fail;refine cEq i λn b=>?_
   have l:χ (Did B w x v 0 (.returned (erV 0)) (n.alloc (.cells #[(1:Int),y1] 168))):=qx r (b.alloc b.size _);rw[aJ] at *
   go_wp2;go_ret;exact l
  .obtain⟨t0,t1⟩:=IV.oM a
   have G:χ (∀ W:ω,aI B W x v->B.top<=W.heap.size->κ prog 260 #[x.p,c,.agg #[(1:Int),(0:Int)]] W (Did B W x (v.clear c) (v.fF c))):=λW z s=>by
    have:=Kz c.toNat 1 0 W z C (by omega) s (by omega) (lI (.inr ⟨.inr rfl,rfl⟩))
    rw[show((c.toNat:Nat):Int)=c by omega] at *
    have j:v.clear c=v.set c.toNat (1,0):=by unfold IV.clear;rw[if_pos ⟨a,g⟩]
    have k:v.fF c=v.d.aV:=by unfold IV.fF;rw[a,if_pos rfl,if_neg g]
    rw[j,k];exact this
   generalize v.clear c=V at *
   generalize v.fF c=f at *
   generalize (v.ent c).1=y0 at *
   generalize (v.ent c).2=y1 at *
   have g1:(y0==1)=false:=by simpa using g
   go_enter func234,ntmps234;go_wp2_with fail;refine cEq i λn b=>?_
   have o:=ah (b.alloc b.size (.cells #[y0,y1] 168));go_wp2_with fail;refine(G _ (r.below o) (ja4 E o.size)).mono ?_;rintro e F ⟨y,rfl,D,t,A⟩;have l:χ (Did B w x V f _ F):=Did.from ⟨y,rfl,D,t,A⟩ o;go_wp2;go_ret;exact l
def Qs{B m x v}(c)(s:ByteArray)(w)(h:aI B w x v)(G:v.ok m)(F:¬(v.there c=true/\s.size=64/\(v.ent c).1≠2/\v.jC≠[])) :
  κ prog 224 #[x.p,c,s] w (Did B w x (v.fill c s) (v.dH c s)):=by
 have k:=ah (sZ c w h);have o:=ah h
 cases d:v.there c with
 | false =>
  have t:v.iT c=1:=by unfold IV.iT;rw[d];rfl
  have i:v.fill c s=v:=by unfold IV.fill;rw[d,if_neg (λh=>by cases h.1)]
  have j:v.dH c s=1:=by unfold IV.dH;rw[d,if_neg (λh=>by cases h.1)]
  rw[t,eX] at k;rw[i,j];generalize (v.bG c).1=y0 at *
  generalize (v.bG c).2=y1 at *
  go_enter func224,ntmps224;go_wp2_with fail;refine cEq k λn b=>?_
  have l:χ (Did B w x v 1 (.returned (erV 1)) (n.alloc (.cells #[y0,y1] 168))):=qx o (b.alloc b.size _);rw[bC (by decide)] at *
  go_wp2;go_ret;exact l
 | true =>
  have t:v.iT c=0:=by unfold IV.iT;rw[d];rfl
  have A:v.bG c=v.ent c:=by unfold IV.bG;rw[d];rfl
  rw[t,aJ,A] at k;by_cases g:s.size=64
  .by_cases f:(v.ent c).1=2
   .have i:v.fill c s=v:=by unfold IV.fill;rw[if_pos ⟨d,g⟩,if_pos f]
    have j:v.dH c s=5:=by unfold IV.dH;rw[if_pos ⟨d,g⟩,if_pos f]
    rw[i,j];rw[f] at k;have g1:((s.size:Int) != 64)=false:=by simp;omega
    generalize (v.ent c).2=y1 at *
    go_enter func224,ntmps224;go_wp2_with fail;refine cEq k λn b=>?_
    have l:χ (Did B w x v 5 (.returned (erV 5)) (n.alloc (.cells #[(2:Int),y1] 168))):=qx o (b.alloc b.size _);rw[bC (by decide)] at *
    go_wp2;go_ret;exact l
   .have q:v.jC=[]:=by
     by_cases u:v.jC=[]
     .exact u
     .exact absurd ⟨d,g,f,u⟩ F
    have i:v.fill c s=v:=by unfold IV.fill;rw[if_pos ⟨d,g⟩,if_neg f,q]
    have j:v.dH c s=6:=by unfold IV.dH;rw[if_pos ⟨d,g⟩,if_neg f,q]
    rw[i,j]
    have y:χ (∀ W:ω,aI B W x v->κ prog 259 #[x.p] W λe w'=>∃ a cap,e=.returned (.slice a 0 cap)/\β W W w'):=λW E=>by
     refine(GH W E G).mono ?_;rw[q];rintro e w' ⟨a,cap,z,_,C⟩;exact⟨a,cap,z,C⟩
    generalize (v.ent c).1=y0 at *
    generalize (v.ent c).2=y1 at *
    have g1:((s.size:Int) != 64)=false:=by simp;omega
    have g2:(y0==2)=false:=by simpa using f
    go_enter func224,ntmps224;go_wp2_with fail;refine cEq k λn b=>?_
    have r:=ah (b.alloc b.size (.cells #[y0,y1] 168));go_wp2_with fail;refine(y _ (o.below r)).mono ?_;rintro e H ⟨a,cap,rfl,D⟩;have l:χ (Did B w x v 6 (.returned (erV 6)) H):=qx o (r.trans (D.mono r.size));rw[bC (by decide)] at *
    go_wp2;go_ret;exact l
  .have i:v.fill c s=v:=by unfold IV.fill;rw[if_neg (λh=>g h.2)]
   have j:v.dH c s=1:=by unfold IV.dH;rw[if_neg (λh=>g h.2)]
   rw[i,j];generalize (v.ent c).1=y0 at *
   generalize (v.ent c).2=y1 at *
   have g1:((s.size:Int) != 64)=true:=by simp;omega
   go_enter func224,ntmps224;go_wp2_with fail;refine cEq k λn b=>?_
   have l:χ (Did B w x v 1 _ (n.alloc (.cells #[y0,y1] 168))):=qx o (b.alloc b.size _);rw[bC (by decide)] at *
   go_wp2;go_ret;exact l
def Qv{B m x v}(c)(s:ByteArray)(q r w)(h:aI B w x v)(i:v.ok m)(hm:m+10<1000000000)(hB:B.top<=w)(k:v.there c=true)(D:s.size=64)(b:(v.ent c).1≠2)(u:v.jC=q::r) :
  κ prog 224 #[x.p,c,s] w (Did B w x (v.fill c s) (v.dH c s)):=by
 have HE:=ah (sZ c w h);have K:=ah h;have R:v.iT c=0:=by unfold IV.iT;rw[k];rfl
 have N:v.bG c=v.ent c:=by unfold IV.bG;rw[k];rfl
 rw[R,aJ,N] at HE;obtain⟨t0,t1⟩:=IV.oM k;have C:q∈v.jC:=by rw[u];exact jai
 have af:=HV.dS i.h;have aL:=(IV.BJ C).1;have ax:=(nK i.h i.need).2 q (by omega);have e3:v.fill c s=if (v.fP q s).2=0 then (v.kJ q s).set c.toNat (2,(q:Int)) else {v with d:=(v.fP q s).1}:=by unfold IV.fill;rw[if_pos ⟨k,D⟩,if_neg b,u]
 have T:v.dH c s=if (v.fP q s).2=0 then (v.kJ q s).d.aV else (v.fP q s).2:=by unfold IV.dH;rw[if_pos ⟨k,D⟩,if_neg b,u]
 have HF:χ (∀ W:ω,aI B W x v->κ prog 259 #[x.p] W λe w'=>∃ g n cap,e=.returned (.slice (S ⟨g,0,O⟩) (n+1) cap)/\W.heap.size<=g/\(∃ o,w'.heap[g]?=S (.cells o 3 (0,0)))/\w'.cell? ⟨g,0,O⟩=S (.int .i64 (q:Int))/\β W W w'):=λW j=>by
  refine(GH W j i).mono ?_;rintro e w' ⟨a,cap,H,b,h3⟩;rw[u] at *
  obtain⟨g,ap,hv,Y,hl⟩:=b.form (by simp);rw[hv] at H b;refine⟨g,r.length,ap,H,Y,?_,?_,h3⟩
  .obtain⟨o,hh⟩:=ownsRow_kind b g rfl;exact⟨o,hh⟩
  .rw[b.cellAt 0 (by simp)];rfl
 have az:χ (∀ W:ω,aI B W x v->B.top<=W.heap.size->κ prog 258 #[x.p,(q:Int),(0:Int),s] W (Did B W x {v with d:=(v.fP q s).1} (v.fP q s).2)):=λW j E =>
  LU q 0 4 s W j i.d (by omega) E i.h (by omega) (by omega) (by omega) (by omega)
 have aE:χ (∀(W:ω) (y:Hd),aI B W {x with h:=y} (v.kJ q s)->B.top<=W.heap.size->κ prog 260 #[x.p,c,.agg #[(2:Int),(q:Int)]] W (Did B W {x with h:=y} ((v.kJ q s).set c.toNat (2,(q:Int))) (v.kJ q s).d.aV)):=λW y j E=>by
  have:=Kz c.toNat 2 (q:Int) W j (i.kJ C D (by omega)) (by omega) E (by show c.toNat<v.t.length;omega) (BM i C)
  rw[show((c.toNat:Nat):Int)=c by omega] at *
  exact this
 have aR:χ ((v.fP q s).2=0\/(v.fP q s).2=7):=DV.rO _ _ _ _;have aa:=ah λW y (j:aI B W {x with h:=y} {v with d:=(v.fP q s).1})=>yH W j
 generalize (v.ent c).1=y0 at *
 generalize (v.ent c).2=y1 at *
 have g1:((s.size:Int) != 64)=false:=by simp;omega
 have g2:(y0==2)=false:=by simpa using b
 have P:=ah e3;have Q:=ah T;clear h i k R N e3 T b D u C af aL ax t0 t1;generalize v.fill c s=V at *
 generalize v.dH c s=f at *
 generalize (v.fP q s).2=M at *
 generalize (v.kJ q s).d.aV=f2 at *
 go_enter func224,ntmps224;go_wp2_with fail;refine cEq HE λw1 a3=>?_
 have z:=ah (a3.alloc a3.size (.cells #[y0,y1] 168));have ar:=ah (HF _ (K.below z));go_wp2_with fail;refine ar.mono ?_;rintro e w2 ⟨g,n,cap,rfl,Y,an,ab,av⟩;have J:=ah (z.trans (av.mono z.size));have a0:B.top<=w2.heap.size:=ja4 hB J.size;have a4:=ah (K.below J);have a9:=ah (az w2 a4 a0)
 have X:g≠x.tb:=λe=>by
  have H:=K.lts.2.2;have b:=z.size;omega
 have al:=ah an;have n0:(0:Int)<((n+1:Nat):Int):=by omega
 go_wp2_with fail;refine a9.mono ?_;rintro e A ⟨y,rfl,ae,a2,G⟩;have a1:=ah ae;obtain⟨o,Z⟩:=al;have a6:o[0]?=S (.int .i64 (q:Int)):=by rw[cell_of_row _ _ _ _ _ _ Z] at *;exact ab
 have aD:=G.box Z (by decide) X;have U:χ (aX B x.tb w A):=aX.trans (aX.of_below J) G;have ac:B.top<=A.heap.size:=ja4 a0 G.size;by_cases l:M=0
 .have HV:=ah (P.trans (if_pos l));have F:=ah (Q.trans (if_pos l));rw[l,aJ];have aq:=ah (aa A y a2);go_wp2_with fail;refine aq.mono ?_;rintro e w4 ⟨y4,rfl,aw,ao,I⟩;have a7:χ (y4.p=x.h.p):=aw.trans a1;have am:=I.box aD (by decide) X;have aM:w4.cell? ⟨g,0,O⟩=S (.int .i64 (q:Int)):=by rw[cell_of_row _ _ _ _ _ _ am];exact a6
  have ag:χ (aX B x.tb w w4):=aX.trans U I;have a5:=ah (aE w4 y4 ao (ja4 ac I.size));go_wp2_with fail;refine a5.mono ?_;rintro e w5 ⟨y5,rfl,ad,ai,a8⟩
  have L:χ (Did B w x V f (.returned (erV f2)) w5):=by
   refine⟨y5,by rw[F.out],ad.trans a7,?_,aX.trans ag a8⟩;rw[HV.out];exact ai
  go_wp2;go_ret;exact L
 .have HV:=ah (P.trans (if_neg l));have F:=ah (Q.trans (if_neg l))
  have L:χ (Did B w x V f (.returned (erV M)) A):=by
   refine⟨y,by rw[F.out],a1,?_,U⟩;rw[HV.out];exact a2
  rw[bC l] at *
  go_wp2;go_ret;exact L
def Qr{B m x v}(c:Int)(s:ByteArray)(w)(h:aI B w x v)(b:v.ok m)(i:m+10<1000000000)(k:B.top<=w) :
  κ prog 224 #[x.p,c,s] w (Did B w x (v.fill c s) (v.dH c s)):=by
 by_cases a:v.there c=true/\s.size=64/\(v.ent c).1≠2/\v.jC≠[]
 .obtain⟨j,f,g,l⟩:=a
  cases d:v.jC with
  | nil=>simp_all
  | cons q r=>exact Qv c s q r w h b i k j f g d
 .exact Qs c s w h b a
def IV.dW(v:IV):Int:=v.flush.d.aV
def Kw{B m x v}(c p b w)(h:aI B w x v)(hd:v.d.fine v.d.fl.length m)(hm:m<1000000000)(hB:B.top<=w)(I:HV.ok ⟨c,p,b⟩=true) :
  κ prog 103 #[x.p,.agg #[c,p,b]] w λe w' =>
   ∃ u,e=.returned (erV v.flush.d.aV)/\u.p=x.h.p/\aI B w' {x with h:=u} (v.kV ⟨c,p,b⟩)/\aX B x.tb w w':=by
 obtain⟨X,k⟩:∃ X:ByteArray,X=gK [83,89,c,p,b+1]:=⟨_,rfl⟩;have K:X.size=16:=by rw[k];exact HV.xW ⟨c,p,b⟩
 have HH:χ (∀ W:ω,κ prog 175 #[.agg #[c,p,b]] W λe w'=>e=.returned (.tuple #[X,.nilIface])/\β W W w'):=λW=>by rw[k];exact GX c p b W I
 have E:χ (v.kV ⟨c,p,b⟩=if v.flush.d.aV=0 then {(({v.flush with d:=v.flush.d.put 0 X.data.toList}:IV).flush) with h:=⟨c,p,b⟩} else {v.flush with d:=v.flush.d.put 0 X.data.toList}):=by rw[k];rfl
 have M:=hd.flushed;have h0:0<v.d.fl.length:=hd.ok.n1;have HW:=ah λW y (hi:bV B W y v.flush.d) (T:B.top<=W.heap.size)=>yt 0 X W hi M hm T K h0
 have P:=ah h;clear k K M hd I h;generalize v.kV ⟨c,p,b⟩=V at *
 have Z:χ (v.flush.d.aV=0\/v.flush.d.aV=7):=by
  rcases DV.oH v.flush.d with a|a
  .exact .inl a.1
  .exact .inr a.1
 generalize v.flush.d.aV=n at *
 go_enter func103,ntmps103;go_wp2_with fail;refine cEq (HH _) λf N=>?_
 have t:β w w f:=((ja0 _ _).alloc (ja1 _) _).trans (N.mono (by simp));have i:f.heap[w.heap.size]?=S (.cells #[c,p,b] 67 (0,0)):=by rw[N.block _ (by simp),heap_alloc_new]
 have q:w.heap.size≠x.tb:=λe=>by have:=P.lts.2.2;omega
 have aa:=P.below t;have a5:=ah aa;have R:B.top<=f.heap.size:=ja4 hB t.size;have a0:χ (aX B x.tb w f):=aX.of_below t;have a8:=ah i;go_wp2_with fail;refine(yH f a5).mono ?_;rintro e j ⟨l,rfl,C,o,r⟩;have F:χ (l.p=x.h.p):=C;clear C;have ai:f.heap.size<=j:=r.size;have af:B.top<=j.heap.size:=ja4 R ai;have ag:χ (j.heap[w.heap.size]?=S (.cells #[c,p,b] 67 (0,0))):=r.box a8 (by decide) q;have a1:χ (aX B x.tb w j):=aX.trans a0 r;have c0:=o.cells.1;have Q:=ah o;have a2:=ah (HW j l o.dev af);go_wp2_with fail;refine a2.mono ?_;rintro e s ⟨v2,rfl,U,a7⟩;obtain⟨al,A⟩:=Q.sW U rfl a7;have ae:χ (s.heap[w.heap.size]?=S (.cells #[c,p,b] 67 (0,0))):=A.box ag (by decide) q;have G:χ (aX B x.tb w s):=aX.trans a1 A;have D:=ah al;by_cases g:n=0
 .have HV:χ (V={(({v.flush with d:=v.flush.d.put 0 X.data.toList}:IV).flush) with h:=⟨c,p,b⟩}):=by unfold χ;rw[E.out,if_pos g]
  have a9:χ (erV n=.nilIface):=by unfold χ;rw[g,aJ]
  rw[g,aJ];go_wp2_with fail;refine(yH s D).mono ?_;rintro e w4 ⟨z,rfl,a4,J,L⟩;have i:=L.box ae (by decide) q;have y0:w4.cell? ⟨w,0,O⟩=S (c:υ):=by rw[cell_of_row _ _ _ _ _ _ i];rfl
  have y1:w4.cell? ⟨w,1,O⟩=S (p:υ):=by rw[cell_of_row _ _ _ _ _ _ i];rfl
  have y2:w4.cell? ⟨w,2,O⟩=S (b:υ):=by rw[cell_of_row _ _ _ _ _ _ i];rfl
  obtain⟨c0,c1,c2,c3,c4,c5,fz⟩:=J.cells;obtain⟨ab,Y⟩:=J.headed ⟨c,p,b⟩;have ac:=ah ab;have a6:=ah (aX.trans (aX.trans G L) Y);have ad:χ (z.p=x.h.p):=by unfold χ;rw[a4];exact F
  go_wp2;go_ret;exact⟨z,mg a9.symm,ad,by rw[HV.out];exact ac,a6⟩
 .have HV:χ (V={v.flush with d:=v.flush.d.put 0 X.data.toList}):=by unfold χ;rw[E.out,if_neg g]
  have H:erV n=.iface 96 (.int .i64 7):=by
   rcases Z with a|a
   .exact absurd a g
   .rw[a];simp[erV]
  have a3:=ah H;rw[H];go_wp2;go_ret;exact⟨{l with v2:=v2},mg a3.symm,F,by rw[HV.out];exact D,G⟩
def SI{B x v}(c:Int)(w)(h:aI B w x v) :
  κ prog 256 #[x.p,c] w λe w' =>
   e=.returned (.tuple #[.int .i64 (v.bG c).1,erV (v.iT c)])/\β w w w':=by
 have b:=ah (sZ c w h);generalize (v.bG c).1=y0 at *
 generalize (v.bG c).2=y1 at *
 generalize erV _=f at *
 go_enter func256,ntmps256;go_wp2_with fail;refine cEq b λd a=>?_
 go_wp2;go_ret2;exact⟨rfl,a.alloc a.size _⟩
def tH{B x v}(w)(h:aI B w x v) :
  κ prog 95 #[x.p] w λe w'=>e=.returned (.agg #[v.h.c,v.h.p,v.h.b])/\β w w w':=by
 obtain⟨g,c1,c2,c3,c4,f,a⟩:=h.cells;have d:=h.lts.1;generalize v.h.c=c at *
 generalize v.h.p=p at *
 generalize v.h.b=b at *
 go_enter func95,ntmps95;go_wp2;exact bodyPost_ret  (by simp[results,results95,go_sem]) rfl ⟨rfl,(by first|exact(ja0 _ _).alloc (ja1 _) _|exact(((((ja0 _ _).alloc _ _).setCell _ _).setCell _ _).setCell _ _))⟩
def XA{x:Ih}(c p b w)(a:HV.ok ⟨c,p,b⟩=false) :
  κ prog 103 #[x.p,.agg #[c,p,b]] w λe w'=>e=.returned (.iface 96 (.int .i64 1))/\β w w w':=by
 go_enter func103,ntmps103;go_wp2_with fail;refine cEq ((λW=>GV c p b W a) _) λf d=>?_
 go_wp2;go_ret;exact⟨rfl,((ja0 _ _).alloc (ja1 _) _).trans (d.mono (by simp))⟩
def Ti{B m x v}(back:Int)(w)(h:aI B w x v)(A:v.ok m)(K:m+10<1000000000)(C:B.top<=w) :
  κ prog 241 #[x.p,back] w (Did B w x (v.link back) (v.jg back)):=by
 obtain⟨H,c1,c2,c3,c4,J,E⟩:=h.cells;have t:=ah h
 have l:χ (∀ W:ω,aI B W x v->B.top<=W.heap.size->κ prog 103 _ W (Did B W x (v.link back) (v.jg back))):=λW n s=>by
  cases a:(v.pR back).ok with
  | true =>
   have j:v.link back=v.kV (v.pR back):=by unfold IV.link;rw[if_pos a]
   have g:v.jg back=v.flush.d.aV:=by unfold IV.jg;rw[if_pos a]
   rw[j,g];exact Kw v.h.c v.h.p back W n A.d (by omega) s a
  | false =>
   have j:v.link back=v:=by unfold IV.link;rw[if_neg (by rw[a];decide)]
   have g:v.jg back=1:=by unfold IV.jg;rw[if_neg (by rw[a];decide)]
   rw[j,g];refine cEq (XA v.h.c v.h.p back W a) λw' z=>?_
   rw[<- eX];exact qx n z
 generalize v.link back=V at *
 generalize v.jg back=f at *
 generalize F:v.h.c=c at *
 generalize G:v.h.p=p at *
 generalize I:v.h.b=b at *
 go_enter func241,ntmps241;go_wp2_with fail;have u:β _ w ((w.alloc (.cells #[c,p,b] 67)).setCell ⟨w,2,O⟩ back):=((ja0 _ _).alloc (ja1 _) _).setCell (ja1 _) _;have i:β _ w (w.alloc (.cells #[c,p,back] 67)):=(ja0 _ _).alloc (ja1 _) _
 first
  | (refine(l _ _ _).mono ?_
     rintro e r ⟨y,rfl,q,k,o⟩;go_wp2;go_ret
     exact(Did.from _ u).out)
  | (refine(l _ (t.below i) (ja4 C i.size)).mono ?_
     rintro e r ⟨y,rfl,q,k,o⟩;have D:χ (Did B w x V f _ r):=Did.from ⟨y,rfl,q,k,o⟩ i;go_wp2;go_ret
     exact D)
