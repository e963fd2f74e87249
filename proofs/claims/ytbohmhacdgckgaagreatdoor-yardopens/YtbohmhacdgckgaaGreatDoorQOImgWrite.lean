/- What three calls of Go's library give where an image calls them: a text is written into a builder; a builder's text; noughts by Repeat. -/
import Derived.Test.YtbohmhacdgckgaaGreatDoorQOShelf
import Derived.Test.YtbohmhacdgckgaaGreatDoorQOImgGets
set_option linter.all false
set_option maxHeartbeats 1000000
set_option maxRecDepth 100000
namespace Go.Proofs.YtbohmhacdgckgaaGreatDoor
open Go.RowKit renaming Below->β
open Go renaming World->ω, Value->υ, Calls->κ
open Option renaming none->O, some->S
open Go.Proofs.Tryz Go.RowKit Go.Maps Go.ChangeMaps Go.MapKept
attribute [local go_sem ↓] Go.wp_at_zero Go.wp_at_succ
def JY(B b:Nat)(l:List UInt8)(s:ByteArray)(w:ω)(h:Lib.IsBuilder 229 5 B b (Lib.byteCells l) w)(i:l.length+s.size<=140737488355328)(d:B<=w.heap.size) :
  κ prog 172 #[b,s] w λe a =>
   e=.returned (.tuple #[.int .i64 s.size,.nilIface])/\Lib.IsBuilder 229 5 B b (Lib.byteCells (l++s.data.toList)) a/\β B w a:=by
 refine(Any.Builder_WriteString {Tryz.lays105 with} Tryz.Builder_Extra_105 B b (Lib.byteCells l) s w h (by rw[Lib.byteCells_length];exact i) d).mono ?_
 rintro e a ⟨rfl,g,f⟩;refine⟨rfl,.inr ?_,f⟩;have c:Lib.byteCells (l++s.data.toList)=Lib.byteCells l++Lib.strCells s:=by simp[Lib.byteCells,Lib.strCells]
 rw[c];exact g
def JW(B b:Nat)(l:List UInt8)(w:ω)(h:Lib.IsBuilder 229 5 B b (Lib.byteCells l) w)(a:B<=w.heap.size) :
  κ prog 173 #[b] w λe c=>e=.returned (.string ⟨l.toArray⟩)/\β B w c :=
 Tryz.Builder_String_any B b l w h a
def Ba:List UInt8:=List.replicate 64 0
def RH:Lib.repeatL [0] 64=Ba:=by decide
def RI(w:ω) :
  κ prog 262 #[.string ⟨#[0]⟩,(64:Int)] w λe a=>e=.returned (.string ⟨Ba.toArray⟩)/\β w w a:=by
 have h:=Tryz.strings_Repeat ⟨#[0]⟩ 64 w (by omega) (by show 1*64<=_;omega)
 rw[show(⟨#[0]⟩:ByteArray).data.toList=[0] from rfl,RH] at h
 exact h
def QT{B:Gd}{x:Ih}{v:IV}(q:Nat)(w:ω)(h:aH B w x v)(O:v.h.ok=true)(P:q<=40)(X:dw v.h q+4<=v.d.fl.length)(F:∀ s∈v.d.seen,s.length=16)(hn:v.d.fl.length<=200)(a0:v.d.seen.length=v.d.fl.length) :
  κ prog 261 #[x.p,(q:Int)] w λe o =>
   e=.returned (.tuple #[.string ⟨(jO v.d (dw v.h q) 4).toArray⟩,.nilIface])/\β w w o:=by
 obtain⟨T,c1,c2,c3,c4,c5,Z⟩:=h.cells;have y:=ah λW=>zB v.h.c v.h.p v.h.b q W O P
 generalize dw v.h q=a at y X |-;have J:Hid (jO v.d a 0=[]):=rfl;have n:Hid (∀ k,jO v.d a (k+1)=jO v.d a k++v.d.seen.getD (a+k) []):=λ_=>rfl
 have H:Hid (∀ k,k<=4->(jO v.d a k).length=16*k):=λk r=>by
  induction k with
  | zero=>rfl
  | succ k V =>
   rw[n.out,jak,V (by omega)]
   have j:a+k<v.d.seen.length:=by omega
   have:(v.d.seen.getD (a+k) []).length=16:=by rw[ja6,ja8 j];exact F _ (jac j)
   omega
 have M:Hid (∀ k,k<4->(bytesOf (v.d.seen.getD (a+k) [])).size=16):=λk r=>by
  have j:a+k<v.d.seen.length:=by omega
  have:(v.d.seen.getD (a+k) []).length=16:=by rw[ja6,ja8 j];exact F _ (jac j)
  show(v.d.seen.getD (a+k) []).toArray.size=16
  simpa using this
 have R:Hid (∀(k:Nat) (W:ω),k<4->aH B W x v->κ prog 75 #[x.h.p,((a:Int)+(k:Int):Int)] W λe o=>e=.returned (.tuple #[.string (bytesOf (v.d.seen.getD (a+k) [])),.nilIface])/\o=W):=λk W r l=>by
  have:=kS (a+k) W l.dev.toaO (by omega)
  rw[show(((a+k:Nat):Int))=(a:Int)+(k:Int) by omega] at this;exact this
 generalize jO v.d a=g at J n H |-;go_enter func261,ntmps261
 go_wp2_with fail
 refine cEq (y.out _) λf K=>?_
 have I:=ah K;have U:Hid (Lib.IsBuilder 229 5 f.heap.size f.heap.size [] (f.alloc (.cells #[.pointer none,.slice none 0 0] 229))):=Lib.fresh_isBuilder _ _ _;go_wp2
 go_loopw [17] (λi wr=>∃(k:Nat),k<=4/\i=.int .i64 k/\Lib.IsBuilder 229 5 f.heap.size f.heap.size (Lib.byteCells (g k)) wr/\β f f wr) (λi _=>4-(intOf i).toNat)
 case atStart=>exact⟨0,ja5 _,rfl,by rw[J.out];exact U.out,(ja0 _ _).alloc (ja1 _) _⟩
 case round =>
  obtain⟨k,r,rfl,z,m⟩:=hrel;have l:=(h.below K).below m;have T:=l.cells.1;have G:=ah m;by_cases u:k<4
  .have E:=ah (R.out k wr u l)
   have D:=ah (JY _ _ (g k) _ wr z (by rw[H.out k (by omega),M.out k u];omega) m.size)
   have C:Hid (g (k+1)=g k++(bytesOf (v.d.seen.getD (a+k) [])).data.toList):=by unfold Hid;rw[(n.out k)];simp[bytesOf]
   generalize bytesOf _=S at E D C;have Y:IntKind.i64.wrap _=(a:Int)+(k:Int):=ja7 _ (by omega)
   go_wp2_with fail
   refine cSt E.out ?_;go_wp2_with fail
   refine D.out.mono ?_;rintro e A ⟨rfl,N,t⟩;have L:Hid (Lib.IsBuilder 229 5 f.heap.size f.heap.size (Lib.byteCells (g (k+1))) A):=by unfold Hid;rw[C.out];exact N
   go_wp2
   go_roundw
   case rel =>
    exact⟨k+1,by omega,by go_num,L.out,(G.out.trans t)⟩
   case measure=>simp[intOf];omega
  .have Q:k=4:=by omega
   subst Q;go_wp2_with fail
   refine cEq (JW _ _ (g 4) wr z m.size) λA t=>?_
   go_wp2
   go_ret2
   exact⟨rfl,I.out.trans ((G.out.trans t).mono I.out.size)⟩
def Ri{B:Gd}{m:Nat}{x:Ih}{v:IV}(c:Int)(w:ω)(h:aH B w x v)(j:v.ok m) :
  κ prog 226 #[x.p,c] w λe o =>
   e=.returned (.tuple #[.string ⟨(v.fZ c).toArray⟩,erV (v.iI c)])/\β w w o:=by
 have a:=ah (rF c w h);have C:=ah h
 cases f:v.there c with
 | false =>
  have g:Hid (v.fZ c=[]):=by unfold Hid IV.fZ;rw[f];rfl
  have i:Hid (erV (v.iI c)=.iface 96 (.int .i64 1)):=by unfold Hid IV.iI;rw[f];exact eu
  have s:v.iw c=1:=by unfold IV.iw;rw[f];rfl
  rw[s,eu] at a;generalize (v.bC c).1=y0 at a;generalize (v.bC c).2=y1 at a;go_enter func226,ntmps226
  go_wp2_with fail
  refine cEq a.out λn b=>?_
  go_wp2
  go_ret2
  exact⟨by rw[g.out,i.out];rfl,b.alloc b.size _⟩
 | true =>
  have s:v.iw c=0:=by unfold IV.iw;rw[f];rfl
  have E:v.bC c=v.ent c:=by unfold IV.bC;rw[f];rfl
  rw[s,aN,E] at a;by_cases k:(v.ent c).1=2
  .obtain⟨H,F,y⟩:=j.place f k
   have G:=HV.dK j.h;have g:Hid (v.fZ c=jO v.d (dw v.h (v.ent c).2.toNat) 4):=by unfold Hid IV.fZ;rw[f,if_pos rfl,if_pos k]
   have i:Hid (erV (v.iI c)=.nilIface):=by unfold Hid IV.iI;rw[f,if_pos rfl,if_neg (by omega)];exact aN
   have q:Hid (∀ W:ω,aH B W x v->κ prog 261 #[x.p,.int .i64 (v.ent c).2] W λe o=>e=.returned (.tuple #[.string ⟨(v.fZ c).toArray⟩,.nilIface])/\β W W o):=λW A=>by
    have:=QT (v.ent c).2.toNat W A j.h (by omega) y j.d.ok.l2 j.d.ok.n2 j.d.ok.same
    rw[show(((v.ent c).2.toNat:Nat):Int)=(v.ent c).2 by omega,<- g.out] at this;exact this
   rw[k] at a;generalize (v.ent c).2=y1 at a q;generalize v.fZ c=S at q |-;go_enter func226,ntmps226
   go_wp2_with fail
   refine cEq a.out λn b=>?_
   have l:=ah (b.alloc b.size (.cells #[(2:Int),y1] 168));go_wp2_with fail
   refine cEq (q.out (n.alloc (.cells #[(2:Int),y1] 168)) (C.out.below (b.alloc b.size _))) λD r=>?_
   go_wp2
   go_ret2
   exact⟨by rw[i.out];rfl,l.out.trans (r.mono l.out.size)⟩
  .by_cases t:(v.ent c).1=1
   .have g:Hid (v.fZ c=Ba):=by unfold Hid IV.fZ;rw[f,if_pos rfl,if_neg k,if_pos t];rfl
    have i:Hid (erV (v.iI c)=.nilIface):=by unfold Hid IV.iI;rw[f,if_pos rfl,if_neg (by omega)];exact aN
    rw[t] at a;generalize (v.ent c).2=y1 at a;generalize v.fZ c=S at g |-;go_enter func226,ntmps226
    go_wp2_with fail
    refine cEq a.out λn b=>?_
    have l:=ah (b.alloc b.size (.cells #[(1:Int),y1] 168));go_wp2_with fail
    refine cEq (RI _) λD r=>?_
    go_wp2
    go_ret2
    exact⟨by rw[i.out,g.out];rfl,l.out.trans (r.mono l.out.size)⟩
   .have u:(v.ent c).1=0:=by
     rcases jh (j.ent f) with z|z
     .omega
     .omega
    have g:Hid (v.fZ c=[]):=by unfold Hid IV.fZ;rw[f,if_pos rfl,if_neg k,if_neg t]
    have i:Hid (erV (v.iI c)=.iface 96 (.int .i64 4)):=by unfold Hid IV.iI;rw[f,if_pos rfl,if_pos u];simp[erV]
    rw[u] at a;generalize (v.ent c).2=y1 at a;go_enter func226,ntmps226
    go_wp2_with fail
    refine cEq a.out λn b=>?_
    go_wp2
    go_ret2
    exact⟨by rw[g.out,i.out];rfl,b.alloc b.size _⟩
def Tn{P:Program}{k t e:TypeId}{R:υ->Option (DataW Unit × List MemPlace)}{w:ω}{b n:Nat}{D:DataW Unit}(h:w.ownsMap P k R b n D)(i:P.underlying t=S (.map k e)) :
  ∃ c,(∀ f,(Builtin.clear_ #[t] f #[.map (S b)]).run P w=.ok (.tuple #[]) c)/\c.ownsMap P k R b 0 (.map [])/\w.mapTurned c b:=by
 obtain⟨g,d,a,F,j,rfl⟩:=h;refine⟨setBlock w b _,λf=>?_,⟨#[],d,heap_setBlock_same a _,⟨by simp,stamped_empty _,by simp⟩,ja1 _,rfl⟩,⟨g,d, #[],d,a,rfl⟩⟩
 simp[Builtin.clear_,run_underlying i,MapKept.run_getObj_map a,MapKept.run_setObj_map _ a,Result.andThen,setBlock]
def NM(l:List Nat)(q:Nat):o9 (l++[q])=(o9 l).put (.int .i64 (q:Int)) (.agg []):=by
 unfold o9;rw[jbl];exact setOf_snoc _ _ _
def aH.Fz{B:Gd}{w a:ω}{x:Ih}{v:IV}(h:aH B w x v)(d:List Nat)(i:w.mapTurned a x.m)(j:a.ownsMap prog 3 (unitElem (H:=Unit)) x.m d.length (o9 d)) :
  aH B a x {v with held:=d}/\aX B x.tb w a:=by
 have b:=i.grown;obtain⟨g,c,o⟩:=ug h.map
 have n:∀ k,x.h.fp k->S k≠S x.m:=λk f e=>by
  obtain⟨s,t,y,p⟩:=h.dev.kinds _ f
  simp_all
 obtain⟨l,z,q⟩:=h.lts
 refine⟨⟨?_,h.pB,h.mB,h.dev.keep λk f=>b.block _ (h.dev.lt k f).2 (n k f),aZ h.own (λk e=>by
  have:x.tb=k:=by simpa [Value.ownBlock] using e
  subst this;exact b.block _ q (λe=>by obtain⟨_,r,u⟩:=h.tb;simp_all)),j⟩,?_⟩
 .rw[b.block _ l (λe=>by have:=h.blk;simp_all)];exact h.blk
 .exact(Kept.refl _ _).grown b λk e=>by
   have:x.m=k:=by simpa using e
   subst this;exact .inl ⟨h.mB,.inl (.inr ⟨g,c,o⟩)⟩
def xA{B:Gd}{x:Ih}{v:IV}(w:ω)(h:aH B w x v) :
  κ prog 119 #[x.p] w λe c =>
   ∃ f:Hd,e=.returned (.tuple #[])/\f.p=x.h.p/\aH B c {x with h:=f} v.flush/\aX B x.tb w c:=by
 obtain⟨z,c1,c2,c3,c4,t,u⟩:=h.cells;have d:=ah h;go_enter func119,ntmps119
 go_wp2_with fail
 refine(flush_any w h.dev.toaO).mono ?_;rintro e q ⟨rfl,g,l⟩;obtain⟨b,i⟩:=d.out.rE (d.out.dev.nilled g) rfl (l.mono λk _ a=>by rcases a with a|a;exact .inl a;exact .inr (.inl a))
 obtain⟨y,s,m,j⟩:=Tn b.map underlying233;obtain⟨n,o⟩:=b.Fz [] j m;have r:=b.cells.2.2.2.2.2.1;go_wp2
 go_end0
 exact⟨{x.h with v2:=.slice O 0 0},rfl,rfl,n,(aX.trans i o)⟩
def L9{B:Gd}{w:ω}{x:Ih}{v:IV}(h:aH B w x v):lK w (S ⟨x.tb,0,O⟩) v.t.length v.t :=
 uQ h.own _ (by rw[jan (by rw[pX];omega)]) (ja1 _) rfl
def NQ{B:Gd}{w:ω}{x:Ih}{v:IV}(h:aH B w x v):v.t.length<=x.tc:=by
 obtain⟨_,b,c,a,_⟩:=dQ h.own;exact a
def I9{B:Gd}{m:Nat}{x:Ih}{v:IV}(r:Nat)(w:ω)(h:aH B w x v)(hd:v.d.fine v.d.fl.length m)(D:m<1000000000)(E:B.top<=w.heap.size)(J:v.t.length<=32)(K:r+1<v.d.fl.length)(z:gV v.t (r:Int)=0)(A:(eP v.t (r:Int)).size=16) :
  κ prog 102 #[x.p,(r:Int)] w λe a =>
   ∃ k:Hd,e=.returned (erV v.d.aU)/\k.p=x.h.p/\aH B a {x with h:=k} {v with d:=v.d.put (1+r) (eP v.t (r:Int)).data.toList}/\aX B x.tb w a:=by
 obtain⟨I,c1,c2,c3,c4,L,H⟩:=h.cells
 have c:Hid _:=λW b=>by
  have:=SK _ v.t.length x.tc v.t (r:Int) W ((L9 h).below b) (by omega) (NQ h)
  rw[z,aN] at this;exact this
 have f:Hid (∀(W:ω),aH B W x v->B.top<=W.heap.size->κ prog 105 _ W λe a =>
   ∃ v2,e=.returned _/\bQ B a _ _/\Kept x.h.fp W a):=λW C b=>by
  have:=wW (1+r) _ W C.dev hd D b A (by omega)
  rw[show(((1+r:Nat):Int))=1+(r:Int) by omega] at this;exact this
 have M:=hd.ok.n2;have N:1+(r:Int)<=1000:=by omega
 generalize eP v.t (r:Int)=rs at c f |-;generalize v.t.length=n at c4 c;generalize v.d.aU=G at f |-;go_enter func102,ntmps102
 go_wp2_with fail
 refine cEq (c.out w (ja0 _ _)) λj g=>?_
 have i:=h.below g;have F:=i.cells.1;have l:=ah i;have u:Hid (aX B x.tb w j):=aX.of_below g;go_wp2_with fail
 refine(f.out j l.out (ja4 E g.size)).mono ?_;rintro e O ⟨v2,rfl,o,q⟩;obtain⟨s,y⟩:=l.out.rE o rfl q;go_wp2
 go_ret
 exact⟨{x.h with v2:=v2},rfl,rfl,s,(aX.trans u.out y)⟩
def aH.headed{B:Gd}{w:ω}{x:Ih}{v:IV}(h:aH B w x v)(g:HV) :
  aH B (((w.setCell ⟨x.p,1,O⟩ g.c).setCell ⟨x.p,2,O⟩ g.p).setCell ⟨x.p,3,O⟩ g.b) x {v with h:=g} /\
  aX B x.tb w (((w.setCell ⟨x.p,1,O⟩ g.c).setCell ⟨x.p,2,O⟩ g.p).setCell ⟨x.p,3,O⟩ g.b):=by
 have f:=h.blk;obtain⟨q,c,r⟩:=ug h.map;obtain⟨_,m,o⟩:=h.tb
 have l:∀ k,x.h.fp k->k≠x.p:=λk a e=>by
  obtain⟨n,t,j,p⟩:=h.dev.kinds _ a;rw[e,f] at j;cases j
  simp_all
 have d:∀ k,k≠x.p->(((w.setCell ⟨x.p,1,O⟩ g.c).setCell ⟨x.p,2,O⟩ g.p).setCell ⟨x.p,3,O⟩ g.b).heap[k]?=w.heap[k]?:=λk a=>by
  rw[heap_setCell_other _ _ _ _ a,heap_setCell_other _ _ _ _ a,heap_setCell_other _ _ _ _ a]
 refine⟨⟨?_,h.pB,h.mB,h.dev.keep λk a=>d k (l k a),aZ h.own (λk e=>by
  have:x.tb=k:=by simpa [Value.ownBlock] using e
  subst this;exact d _ (λe=>by simp_all)),uY h.map (d _ (λe=>by simp_all))⟩,?_⟩
 .rw[heap_setCell_same _ _ _ _ _ _ (heap_setCell_same _ _ _ _ _ _ (heap_setCell_same w x.p _ _ _ _ f))];rfl
 .have i:SP B x.tb w x.p:=⟨h.pB.1,.inl (.inl ⟨_,_,f,.inr (.inr (.inr rfl))⟩)⟩
  exact(((Kept.refl _ w).setCell  (.inl i) _).setCell  (.inl i) _).setCell  (.inl i) _
def Em(s:ByteArray)(k:Nat):(s.extract (k*16) ((k+1)*16)).data.toList=chunk s k:=by
 unfold chunk;rw[ByteArray.data_extract,Array.toList_extract,List.extract_eq_take_drop];rw[show(k+1)*16-k*16=16 by omega]
structure oz(B:Gd)(tb:Nat)(w:ω)(x:Ih)(v:IV)(d:DV)(y:Hd)(W:ω):Prop where
 img:aH B W {x with h:=y} {v with d:=d}
 kept:aX B tb w W
theorem oz.drew{B:Gd}{tb:Nat}{w W:ω}{x:Ih}{v:IV}{d:DV}{y:Hd}(h:oz B tb w x v d y W):oz B tb w x v d y W.drew:=⟨h.img.drew,aX.trans h.kept (aX.of_below (ja0 _ _).drew)⟩
def I8{B:Gd}{m:Nat}{x:Ih}{v:IV}(q fr c:Nat)(s:ByteArray)(w:ω)(h:aH B w x v)(hd:v.d.fine v.d.fl.length m)(hm:m+4<1000000000)(hB:B.top<=w.heap.size)(f:v.h.ok=true)(U:q<=40)(Y:s.size=c*16)(hf:fr+c<=4)(ha:dw v.h q+fr+c<=v.d.fl.length) :
    κ prog 258 #[x.p,(q:Int),(fr:Int),s] w λe j =>
      ∃ y:Hd,e=.returned (erV (v.d.puts (dw v.h q+fr) s c).2)/\y.p=x.h.p/\aH B j {x with h:=y} {v with d:=(v.d.puts (dw v.h q+fr) s c).1}/\aX B x.tb w j:=by
  obtain⟨u,c1,c2,c3,c4,c5,fz⟩:=h.cells;have am:=hd.ok.n2;have F:=ah λW=>zB v.h.c v.h.p v.h.b q W f U
  have r:=ah λk (f:k<=c)=>hd.puts Y (by omega) (by omega) k f
  generalize ad:dw v.h q=a at F r ha |-;have t:=ah λk (f:(v.d.puts (a+fr) s k).2=0)=>DV.yj f
  have K:=ah λk (f:(v.d.puts (a+fr) s k).2≠0) (T:k<=c)=>DV.yh f c T
  have H:Hid (v.d.puts (a+fr) s 0=(v.d,0)):=rfl;generalize v.d.puts (a+fr) s=D at r t K H |-;have HI:=ah h;have ab:(s.size:Int) / 16=(c:Int):=by omega
  have ae:a+fr+c<=200:=by omega
  clear h hd fz ad U;go_enter func258,ntmps258
  go_wp2_with fail
  refine cEq (F.out _) λR E=>?_
  have a8:=ah (HI.out.below E);have a4:Hid (aX B x.tb w R):=aX.of_below E;have af:B.top<=R.heap.size:=ja4 hB E.size;clear E F HI u c1 c2 c3 c4 c5;go_wp2
  go_loopw [23] (λi wr=>∃(k:Nat) (y:Hd),k<=c/\i=.int .i64 k/\(D k).2=0/\y.p=x.h.p/\oz B x.tb w x v (D k).1 y wr) (λi _=>c-(intOf i).toNat)
  case atStart=>exact⟨0,x.h,ja5 _,rfl,by rw[H.out],rfl,⟨by rw[H.out];exact a8.out,a4.out⟩⟩
  case round =>
    obtain⟨k,y,T,rfl,A,z,l⟩:=hrel;by_cases al:k<c
    . have L:=t.out k A
      have P:=r.out k (by omega)
      have a3:B.top<=wr.heap.size:=ja4 hB l.kept.size
      have Z:Hid (∀ W:ω,oz B x.tb w x v (D k).1 y W->wr.heap.size<=W.heap.size->κ prog 105 #[y.p,((a:Int)+(fr:Int)+(k:Int):Int),.string (s.extract (k*16) ((k+1)*16))] W λe j =>
          ∃ n:Hd,e=.returned (erV (D (k+1)).2)/\n.p=y.p/\oz B x.tb w x v (D (k+1)).1 n j/\j.cell? ⟨x.p,0,none⟩=some (y.p:υ)):=λW G a7=>by
        have X:=wW (a+fr+k) (s.extract (k*16) ((k+1)*16)) W G.img.dev P (by omega) (ja4 a3 a7) (by rw[jaz];omega) (by omega)
        rw[show(((a+fr+k:Nat):Int))=(a:Int)+(fr:Int)+(k:Int) by omega] at X
        refine X.mono ?_;rintro e j ⟨v2,rfl,a2,aa⟩;obtain⟨a1,a5⟩:=G.img.rE a2 rfl aa;refine⟨{y with v2:=v2},by rw[L],rfl,⟨?_,aX.trans G.kept a5⟩,a1.cells.1⟩
        rw[L,<- Em];exact a1
      have u:=l.img.cells.1;have o:=ah l;have C:=ah z;clear L P A l z r t;have k0:(0:Int)<=(k:Int):=by omega
      have k1:(k:Int)*16<=((k:Int)+1)*16:=by omega
      have k2:((k:Int)+1)*16<=(s.size:Int):=by omega
      have k3:(0:Int)<=(k:Int)*16:=by omega
      have k4:(0:Int)<=((k:Int)+1)*16:=by omega
      have k5:((k:Int)*16).toNat=k*16:=by omega
      have k6:(((k:Int)+1)*16).toNat=(k+1)*16:=by omega
      have k7:IntKind.i64.wrap ((k:Int)*16)=(k:Int)*16:=ja7 _ (by omega)
      have k8:IntKind.i64.wrap ((k:Int)+1)=(k:Int)+1:=ja7 _ (by omega)
      have k9:IntKind.i64.wrap (((k:Int)+1)*16)=((k:Int)+1)*16:=ja7 _ (by omega)
      have ag:IntKind.i64.wrap ((a:Int)+(fr:Int)+(k:Int))=(a:Int)+(fr:Int)+(k:Int):=ja7 _ (by omega)
      have ai:(k:Int)<=(k:Int)+1:=by omega
      clear Y ab;have a0:wr.drew.cell? ⟨x.p,0,none⟩=some (y.p:υ):=u;have I:Hid (oz B x.tb w x v (D k).1 y wr.drew/\wr.heap.size<=wr.drew.heap.size):=⟨o.out.drew,ja1 _⟩;go_wp2
      go_region_held3 (λW=>W.cell? ⟨x.p,0,none⟩=some (y.p:υ))
        (first|(exact a0)|assumption)
        (first
          | (go_at_call 105;refine(Z.out _ I.out.1 I.out.2).mono ?_;rintro e w3 ⟨n,rfl,O,V,a6⟩))
      have M:=ah V;have Q:Hid (n.p=x.h.p):=by unfold Hid;rw[O];exact C.out
      clear V O a6 o I Z a0 u C;by_cases g:(D (k+1)).2=0
      . have HZ:=ah g
        have N:erV (D (k+1)).2=.nilIface:=by rw[g,aN]
        rw[N];clear g N;go_wp2
        go_roundw
        case rel =>
          exact⟨k+1,n,by omega,by go_num,HZ.out,Q.out,M.out⟩
        case measure=>simp[intOf];omega
      . have HE:=K.out (k+1) g (by omega)
        have S:=ah HE;have J:erV (D (k+1)).2=.iface 96 (.int .i64 (D (k+1)).2):=by unfold erV;rw[if_neg g]
        have H7:=ah J;rw[J];clear g HE J;go_wp2
        go_ret
        refine⟨n,?_,Q.out,?_,M.out.kept⟩
        . rw[S.out,H7.out];rfl
        . rw[S.out];exact M.out.img
    . have ac:k=c:=by omega
      subst ac;have o:=ah l;have C:=ah z;have a9:Hid (erV (D k).2=.nilIface):=by unfold Hid;rw[A,aN]
      clear l z A r t K;go_wp2
      go_ret
      exact⟨y,lu a9.out.symm,C.out,o.out.img,o.out.kept⟩
