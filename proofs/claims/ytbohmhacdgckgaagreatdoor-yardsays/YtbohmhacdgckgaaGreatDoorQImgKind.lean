/- What three calls of Go's library give where an image calls them: a text is written into a builder; a builder's text; noughts by Repeat. -/
import Derived.Test.YtbohmhacdgckgaaGreatDoorQShelf
import Derived.Test.YtbohmhacdgckgaaGreatDoorQImgGets
set_option linter.all false
set_option maxHeartbeats 1000000
set_option maxRecDepth 100000
namespace Go.Proofs.YtbohmhacdgckgaaGreatDoor
open Go.RowKit renaming Below->β
open Go renaming World->ω, Value->υ, Calls->κ
open Option renaming none->O, some->S
open Go.Proofs.Tryz Go.RowKit Go.Maps Go.ChangeMaps Go.MapKept
attribute [local go_sem ↓] Go.wp_at_zero Go.wp_at_succ
def JY(B b:Nat)(l:List UInt8)(s:ByteArray)(w:ω)(h:Lib.IsBuilder 229 5 B b (Lib.byteCells l) w)(i:l.length+s.size<=140737488355328)(d:B<=w.heap.size) :
  κ prog 172 #[b,s] w λe a =>
   e=.returned (.tuple #[.int .i64 s.size,.nilIface])/\Lib.IsBuilder 229 5 B b (Lib.byteCells (l++s.data.toList)) a/\β B w a:=by
 refine(Any.Builder_WriteString {Tryz.lays105 with} Tryz.Builder_Extra_105 B b (Lib.byteCells l) s w h (by rw[Lib.byteCells_length];exact i) d).mono ?_
 rintro e a ⟨rfl,g,f⟩;refine⟨rfl,.inr ?_,f⟩;have c:Lib.byteCells (l++s.data.toList)=Lib.byteCells l++Lib.strCells s:=by simp[Lib.byteCells,Lib.strCells]
 rw[c];exact g
def JW(B b:Nat)(l:List UInt8)(w:ω)(h:Lib.IsBuilder 229 5 B b (Lib.byteCells l) w)(a:B<=w.heap.size) :
  κ prog 173 #[b] w λe c=>e=.returned (.string ⟨l.toArray⟩)/\β B w c :=
 Tryz.Builder_String_any B b l w h a
def Ba:List UInt8:=List.replicate 64 0
def RH:Lib.repeatL [0] 64=Ba:=by decide
def RI(w:ω) :
  κ prog 262 #[.string ⟨#[0]⟩,(64:Int)] w λe a=>e=.returned (.string ⟨Ba.toArray⟩)/\β w w a:=by
 have h:=Tryz.strings_Repeat ⟨#[0]⟩ 64 w (by omega) (by show 1*64<=_;omega)
 rw[show(⟨#[0]⟩:ByteArray).data.toList=[0] from rfl,RH] at h
 exact h
def QT{B:Gd}{x:Ih}{v:IV}(q:Nat)(w:ω)(h:aH B w x v)(O:v.h.ok=true)(P:q<=40)(X:dw v.h q+4<=v.d.fl.length)(F:∀ s∈v.d.seen,s.length=16)(hn:v.d.fl.length<=200)(a0:v.d.seen.length=v.d.fl.length) :
  κ prog 261 #[x.p,(q:Int)] w λe o =>
   e=.returned (.tuple #[.string ⟨(jO v.d (dw v.h q) 4).toArray⟩,.nilIface])/\β w w o:=by
 obtain⟨T,c1,c2,c3,c4,c5,Z⟩:=h.cells;have y:=ah λW=>zB v.h.c v.h.p v.h.b q W O P
 generalize dw v.h q=a at y X |-;have J:Hid (jO v.d a 0=[]):=rfl;have n:Hid (∀ k,jO v.d a (k+1)=jO v.d a k++v.d.seen.getD (a+k) []):=λ_=>rfl
 have H:Hid (∀ k,k<=4->(jO v.d a k).length=16*k):=λk r=>by
  induction k with
  | zero=>rfl
  | succ k V =>
   rw[n.out,jak,V (by omega)]
   have j:a+k<v.d.seen.length:=by omega
   have:(v.d.seen.getD (a+k) []).length=16:=by rw[ja5,ja7 j];exact F _ (jab j)
   omega
 have M:Hid (∀ k,k<4->(bytesOf (v.d.seen.getD (a+k) [])).size=16):=λk r=>by
  have j:a+k<v.d.seen.length:=by omega
  have:(v.d.seen.getD (a+k) []).length=16:=by rw[ja5,ja7 j];exact F _ (jab j)
  show(v.d.seen.getD (a+k) []).toArray.size=16
  simpa using this
 have R:Hid (∀(k:Nat) (W:ω),k<4->aH B W x v->κ prog 75 #[x.h.p,((a:Int)+(k:Int):Int)] W λe o=>e=.returned (.tuple #[.string (bytesOf (v.d.seen.getD (a+k) [])),.nilIface])/\o=W):=λk W r l=>by
  have:=kS (a+k) W l.dev.toaO (by omega)
  rw[show(((a+k:Nat):Int))=(a:Int)+(k:Int) by omega] at this;exact this
 generalize jO v.d a=g at J n H |-;go_enter func261,ntmps261
 go_wp2_with fail
 refine cEq (y.out _) λf K=>?_
 have I:=ah K;have U:Hid (Lib.IsBuilder 229 5 f.heap.size f.heap.size [] (f.alloc (.cells #[.pointer none,.slice none 0 0] 229))):=Lib.fresh_isBuilder _ _ _;go_wp2
 go_loopw [17] (λi wr=>∃(k:Nat),k<=4/\i=.int .i64 k/\Lib.IsBuilder 229 5 f.heap.size f.heap.size (Lib.byteCells (g k)) wr/\β f f wr) (λi _=>4-(intOf i).toNat)
 case atStart=>exact⟨0,ja6 _,rfl,by rw[J.out];exact U.out,(ja0 _ _).alloc (ja1 _) _⟩
 case round =>
  obtain⟨k,r,rfl,z,m⟩:=hrel;have l:=(h.below K).below m;have T:=l.cells.1;have G:=ah m;by_cases u:k<4
  .have E:=ah (R.out k wr u l)
   have D:=ah (JY _ _ (g k) _ wr z (by rw[H.out k (by omega),M.out k u];omega) m.size)
   have C:Hid (g (k+1)=g k++(bytesOf (v.d.seen.getD (a+k) [])).data.toList):=by unfold Hid;rw[(n.out k)];simp[bytesOf]
   generalize bytesOf _=S at E D C;have Y:IntKind.i64.wrap _=(a:Int)+(k:Int):=ja8 _ (by omega)
   go_wp2_with fail
   refine cSt E.out ?_;go_wp2_with fail
   refine D.out.mono ?_;rintro e A ⟨rfl,N,t⟩;have L:Hid (Lib.IsBuilder 229 5 f.heap.size f.heap.size (Lib.byteCells (g (k+1))) A):=by unfold Hid;rw[C.out];exact N
   go_wp2
   go_roundw
   case rel =>
    exact⟨k+1,by omega,by go_num,L.out,(G.out.trans t)⟩
   case measure=>simp[intOf];omega
  .have Q:k=4:=by omega
   subst Q;go_wp2_with fail
   refine cEq (JW _ _ (g 4) wr z m.size) λA t=>?_
   go_wp2
   go_ret2
   exact⟨rfl,I.out.trans ((G.out.trans t).mono I.out.size)⟩
def Ri{B:Gd}{m:Nat}{x:Ih}{v:IV}(c:Int)(w:ω)(h:aH B w x v)(j:v.ok m) :
  κ prog 226 #[x.p,c] w λe o =>
   e=.returned (.tuple #[.string ⟨(v.fZ c).toArray⟩,erV (v.iI c)])/\β w w o:=by
 have a:=ah (rF c w h);have C:=ah h
 cases f:v.there c with
 | false =>
  have g:Hid (v.fZ c=[]):=by unfold Hid IV.fZ;rw[f];rfl
  have i:Hid (erV (v.iI c)=.iface 96 (.int .i64 1)):=by unfold Hid IV.iI;rw[f];exact eu
  have s:v.iw c=1:=by unfold IV.iw;rw[f];rfl
  rw[s,eu] at a;generalize (v.bC c).1=y0 at a;generalize (v.bC c).2=y1 at a;go_enter func226,ntmps226
  go_wp2_with fail
  refine cEq a.out λn b=>?_
  go_wp2
  go_ret2
  exact⟨by rw[g.out,i.out];rfl,b.alloc b.size _⟩
 | true =>
  have s:v.iw c=0:=by unfold IV.iw;rw[f];rfl
  have E:v.bC c=v.ent c:=by unfold IV.bC;rw[f];rfl
  rw[s,aN,E] at a;by_cases k:(v.ent c).1=2
  .obtain⟨H,F,y⟩:=j.place f k
   have G:=HV.dK j.h;have g:Hid (v.fZ c=jO v.d (dw v.h (v.ent c).2.toNat) 4):=by unfold Hid IV.fZ;rw[f,if_pos rfl,if_pos k]
   have i:Hid (erV (v.iI c)=.nilIface):=by unfold Hid IV.iI;rw[f,if_pos rfl,if_neg (by omega)];exact aN
   have q:Hid (∀ W:ω,aH B W x v->κ prog 261 #[x.p,.int .i64 (v.ent c).2] W λe o=>e=.returned (.tuple #[.string ⟨(v.fZ c).toArray⟩,.nilIface])/\β W W o):=λW A=>by
    have:=QT (v.ent c).2.toNat W A j.h (by omega) y j.d.ok.l2 j.d.ok.n2 j.d.ok.same
    rw[show(((v.ent c).2.toNat:Nat):Int)=(v.ent c).2 by omega,<- g.out] at this;exact this
   rw[k] at a;generalize (v.ent c).2=y1 at a q;generalize v.fZ c=S at q |-;go_enter func226,ntmps226
   go_wp2_with fail
   refine cEq a.out λn b=>?_
   have l:=ah (b.alloc b.size (.cells #[(2:Int),y1] 168));go_wp2_with fail
   refine cEq (q.out (n.alloc (.cells #[(2:Int),y1] 168)) (C.out.below (b.alloc b.size _))) λD r=>?_
   go_wp2
   go_ret2
   exact⟨by rw[i.out];rfl,l.out.trans (r.mono l.out.size)⟩
  .by_cases t:(v.ent c).1=1
   .have g:Hid (v.fZ c=Ba):=by unfold Hid IV.fZ;rw[f,if_pos rfl,if_neg k,if_pos t];rfl
    have i:Hid (erV (v.iI c)=.nilIface):=by unfold Hid IV.iI;rw[f,if_pos rfl,if_neg (by omega)];exact aN
    rw[t] at a;generalize (v.ent c).2=y1 at a;generalize v.fZ c=S at g |-;go_enter func226,ntmps226
    go_wp2_with fail
    refine cEq a.out λn b=>?_
    have l:=ah (b.alloc b.size (.cells #[(1:Int),y1] 168));go_wp2_with fail
    refine cEq (RI _) λD r=>?_
    go_wp2
    go_ret2
    exact⟨by rw[i.out,g.out];rfl,l.out.trans (r.mono l.out.size)⟩
   .have u:(v.ent c).1=0:=by
     rcases jh (j.ent f) with z|z
     .omega
     .omega
    have g:Hid (v.fZ c=[]):=by unfold Hid IV.fZ;rw[f,if_pos rfl,if_neg k,if_neg t]
    have i:Hid (erV (v.iI c)=.iface 96 (.int .i64 4)):=by unfold Hid IV.iI;rw[f,if_pos rfl,if_pos u];simp[erV]
    rw[u] at a;generalize (v.ent c).2=y1 at a;go_enter func226,ntmps226
    go_wp2_with fail
    refine cEq a.out λn b=>?_
    go_wp2
    go_ret2
    exact⟨by rw[g.out,i.out];rfl,b.alloc b.size _⟩
def Tn{P:Program}{k t e:TypeId}{R:υ->Option (DataW Unit × List MemPlace)}{w:ω}{b n:Nat}{D:DataW Unit}(h:w.ownsMap P k R b n D)(i:P.underlying t=S (.map k e)) :
  ∃ c,(∀ f,(Builtin.clear_ #[t] f #[.map (S b)]).run P w=.ok (.tuple #[]) c)/\c.ownsMap P k R b 0 (.map [])/\w.mapTurned c b:=by
 obtain⟨g,d,a,F,j,rfl⟩:=h;refine⟨setBlock w b _,λf=>?_,⟨#[],d,heap_setBlock_same a _,⟨by simp,stamped_empty _,by simp⟩,ja1 _,rfl⟩,⟨g,d, #[],d,a,rfl⟩⟩
 simp[Builtin.clear_,run_underlying i,MapKept.run_getObj_map a,MapKept.run_setObj_map _ a,Result.andThen,setBlock]
def NM(l:List Nat)(q:Nat):o9 (l++[q])=(o9 l).put (.int .i64 (q:Int)) (.agg []):=by
 unfold o9;rw[jbb];exact setOf_snoc _ _ _
def aH.Fz{B:Gd}{w a:ω}{x:Ih}{v:IV}(h:aH B w x v)(d:List Nat)(i:w.mapTurned a x.m)(j:a.ownsMap prog 3 (unitElem (H:=Unit)) x.m d.length (o9 d)) :
  aH B a x {v with held:=d}/\aX B x.tb w a:=by
 have b:=i.grown;obtain⟨g,c,o⟩:=ug h.map
 have n:∀ k,x.h.fp k->S k≠S x.m:=λk f e=>by
  obtain⟨s,t,y,p⟩:=h.dev.kinds _ f
  simp_all
 obtain⟨l,z,q⟩:=h.lts
 refine⟨⟨?_,h.pB,h.mB,h.dev.keep λk f=>b.block _ (h.dev.lt k f).2 (n k f),aZ h.own (λk e=>by
  have:x.tb=k:=by simpa [Value.ownBlock] using e
  subst this;exact b.block _ q (λe=>by obtain⟨_,r,u⟩:=h.tb;simp_all)),j⟩,?_⟩
 .rw[b.block _ l (λe=>by have:=h.blk;simp_all)];exact h.blk
 .exact(Kept.refl _ _).grown b λk e=>by
   have:x.m=k:=by simpa using e
   subst this;exact .inl ⟨h.mB,.inl (.inr ⟨g,c,o⟩)⟩
def xA{B:Gd}{x:Ih}{v:IV}(w:ω)(h:aH B w x v) :
  κ prog 119 #[x.p] w λe c =>
   ∃ f:Hd,e=.returned (.tuple #[])/\f.p=x.h.p/\aH B c {x with h:=f} v.flush/\aX B x.tb w c:=by
 obtain⟨z,c1,c2,c3,c4,t,u⟩:=h.cells;have d:=ah h;go_enter func119,ntmps119
 go_wp2_with fail
 refine(flush_any w h.dev.toaO).mono ?_;rintro e q ⟨rfl,g,l⟩;obtain⟨b,i⟩:=d.out.rE (d.out.dev.nilled g) rfl (l.mono λk _ a=>by rcases a with a|a;exact .inl a;exact .inr (.inl a))
 obtain⟨y,s,m,j⟩:=Tn b.map underlying233;obtain⟨n,o⟩:=b.Fz [] j m;have r:=b.cells.2.2.2.2.2.1;go_wp2
 go_end0
 exact⟨{x.h with v2:=.slice O 0 0},rfl,rfl,n,(aX.trans i o)⟩
def L9{B:Gd}{w:ω}{x:Ih}{v:IV}(h:aH B w x v):lK w (S ⟨x.tb,0,O⟩) v.t.length v.t :=
 uQ h.own _ (by rw[jar (by rw[pX];omega)]) (ja1 _) rfl
def NQ{B:Gd}{w:ω}{x:Ih}{v:IV}(h:aH B w x v):v.t.length<=x.tc:=by
 obtain⟨_,b,c,a,_⟩:=dQ h.own;exact a
def I9{B:Gd}{m:Nat}{x:Ih}{v:IV}(r:Nat)(w:ω)(h:aH B w x v)(hd:v.d.fine v.d.fl.length m)(D:m<1000000000)(E:B.top<=w.heap.size)(J:v.t.length<=32)(K:r+1<v.d.fl.length)(z:gV v.t (r:Int)=0)(A:(eP v.t (r:Int)).size=16) :
  κ prog 102 #[x.p,(r:Int)] w λe a =>
   ∃ k:Hd,e=.returned (erV v.d.aU)/\k.p=x.h.p/\aH B a {x with h:=k} {v with d:=v.d.put (1+r) (eP v.t (r:Int)).data.toList}/\aX B x.tb w a:=by
 obtain⟨I,c1,c2,c3,c4,L,H⟩:=h.cells
 have c:Hid _:=λW b=>by
  have:=SK _ v.t.length x.tc v.t (r:Int) W ((L9 h).below b) (by omega) (NQ h)
  rw[z,aN] at this;exact this
 have f:Hid (∀(W:ω),aH B W x v->B.top<=W.heap.size->κ prog 105 _ W λe a =>
   ∃ v2,e=.returned _/\bQ B a _ _/\Kept x.h.fp W a):=λW C b=>by
  have:=wW (1+r) _ W C.dev hd D b A (by omega)
  rw[show(((1+r:Nat):Int))=1+(r:Int) by omega] at this;exact this
 have M:=hd.ok.n2;have N:1+(r:Int)<=1000:=by omega
 generalize eP v.t (r:Int)=rs at c f |-;generalize v.t.length=n at c4 c;generalize v.d.aU=G at f |-;go_enter func102,ntmps102
 go_wp2_with fail
 refine cEq (c.out w (ja0 _ _)) λj g=>?_
 have i:=h.below g;have F:=i.cells.1;have l:=ah i;have u:Hid (aX B x.tb w j):=aX.of_below g;go_wp2_with fail
 refine(f.out j l.out (ja4 E g.size)).mono ?_;rintro e O ⟨v2,rfl,o,q⟩;obtain⟨s,y⟩:=l.out.rE o rfl q;go_wp2
 go_ret
 exact⟨{x.h with v2:=v2},rfl,rfl,s,(aX.trans u.out y)⟩
def aH.headed{B:Gd}{w:ω}{x:Ih}{v:IV}(h:aH B w x v)(g:HV) :
  aH B (((w.setCell ⟨x.p,1,O⟩ g.c).setCell ⟨x.p,2,O⟩ g.p).setCell ⟨x.p,3,O⟩ g.b) x {v with h:=g} /\
  aX B x.tb w (((w.setCell ⟨x.p,1,O⟩ g.c).setCell ⟨x.p,2,O⟩ g.p).setCell ⟨x.p,3,O⟩ g.b):=by
 have f:=h.blk;obtain⟨q,c,r⟩:=ug h.map;obtain⟨_,m,o⟩:=h.tb
 have l:∀ k,x.h.fp k->k≠x.p:=λk a e=>by
  obtain⟨n,t,j,p⟩:=h.dev.kinds _ a;rw[e,f] at j;cases j
  simp_all
 have d:∀ k,k≠x.p->(((w.setCell ⟨x.p,1,O⟩ g.c).setCell ⟨x.p,2,O⟩ g.p).setCell ⟨x.p,3,O⟩ g.b).heap[k]?=w.heap[k]?:=λk a=>by
  rw[heap_setCell_other _ _ _ _ a,heap_setCell_other _ _ _ _ a,heap_setCell_other _ _ _ _ a]
 refine⟨⟨?_,h.pB,h.mB,h.dev.keep λk a=>d k (l k a),aZ h.own (λk e=>by
  have:x.tb=k:=by simpa [Value.ownBlock] using e
  subst this;exact d _ (λe=>by simp_all)),uY h.map (d _ (λe=>by simp_all))⟩,?_⟩
 .rw[heap_setCell_same _ _ _ _ _ _ (heap_setCell_same _ _ _ _ _ _ (heap_setCell_same w x.p _ _ _ _ f))];rfl
 .have i:SP B x.tb w x.p:=⟨h.pB.1,.inl (.inl ⟨_,_,f,.inr (.inr (.inr rfl))⟩)⟩
  exact(((Kept.refl _ w).setCell  (.inl i) _).setCell  (.inl i) _).setCell  (.inl i) _
def Em(s:ByteArray)(k:Nat):(s.extract (k*16) ((k+1)*16)).data.toList=chunk s k:=by
 unfold chunk;rw[ByteArray.data_extract,Array.toList_extract,List.extract_eq_take_drop];rw[show(k+1)*16-k*16=16 by omega]
structure oz(B:Gd)(tb:Nat)(w:ω)(x:Ih)(v:IV)(d:DV)(y:Hd)(W:ω):Prop where
 img:aH B W {x with h:=y} {v with d:=d}
 kept:aX B tb w W
theorem oz.drew{B:Gd}{tb:Nat}{w W:ω}{x:Ih}{v:IV}{d:DV}{y:Hd}(h:oz B tb w x v d y W):oz B tb w x v d y W.drew:=⟨h.img.drew,aX.trans h.kept (aX.of_below (ja0 _ _).drew)⟩
def I8{B:Gd}{m:Nat}{x:Ih}{v:IV}(q fr c:Nat)(s:ByteArray)(w:ω)(h:aH B w x v)(hd:v.d.fine v.d.fl.length m)(hm:m+4<1000000000)(hB:B.top<=w.heap.size)(f:v.h.ok=true)(U:q<=40)(Y:s.size=c*16)(hf:fr+c<=4)(ha:dw v.h q+fr+c<=v.d.fl.length) :
    κ prog 258 #[x.p,(q:Int),(fr:Int),s] w λe j =>
      ∃ y:Hd,e=.returned (erV (v.d.puts (dw v.h q+fr) s c).2)/\y.p=x.h.p/\aH B j {x with h:=y} {v with d:=(v.d.puts (dw v.h q+fr) s c).1}/\aX B x.tb w j:=by
  obtain⟨u,c1,c2,c3,c4,c5,fz⟩:=h.cells;have am:=hd.ok.n2;have F:=ah λW=>zB v.h.c v.h.p v.h.b q W f U
  have r:=ah λk (f:k<=c)=>hd.puts Y (by omega) (by omega) k f
  generalize ad:dw v.h q=a at F r ha |-;have t:=ah λk (f:(v.d.puts (a+fr) s k).2=0)=>DV.yj f
  have K:=ah λk (f:(v.d.puts (a+fr) s k).2≠0) (T:k<=c)=>DV.yh f c T
  have H:Hid (v.d.puts (a+fr) s 0=(v.d,0)):=rfl;generalize v.d.puts (a+fr) s=D at r t K H |-;have HI:=ah h;have ab:(s.size:Int) / 16=(c:Int):=by omega
  have ae:a+fr+c<=200:=by omega
  clear h hd fz ad U;go_enter func258,ntmps258
  go_wp2_with fail
  refine cEq (F.out _) λR E=>?_
  have a8:=ah (HI.out.below E);have a4:Hid (aX B x.tb w R):=aX.of_below E;have af:B.top<=R.heap.size:=ja4 hB E.size;clear E F HI u c1 c2 c3 c4 c5;go_wp2
  go_loopw [23] (λi wr=>∃(k:Nat) (y:Hd),k<=c/\i=.int .i64 k/\(D k).2=0/\y.p=x.h.p/\oz B x.tb w x v (D k).1 y wr) (λi _=>c-(intOf i).toNat)
  case atStart=>exact⟨0,x.h,ja6 _,rfl,by rw[H.out],rfl,⟨by rw[H.out];exact a8.out,a4.out⟩⟩
  case round =>
    obtain⟨k,y,T,rfl,A,z,l⟩:=hrel;by_cases al:k<c
    . have L:=t.out k A
      have P:=r.out k (by omega)
      have a3:B.top<=wr.heap.size:=ja4 hB l.kept.size
      have Z:Hid (∀ W:ω,oz B x.tb w x v (D k).1 y W->wr.heap.size<=W.heap.size->κ prog 105 #[y.p,((a:Int)+(fr:Int)+(k:Int):Int),.string (s.extract (k*16) ((k+1)*16))] W λe j =>
          ∃ n:Hd,e=.returned (erV (D (k+1)).2)/\n.p=y.p/\oz B x.tb w x v (D (k+1)).1 n j/\j.cell? ⟨x.p,0,none⟩=some (y.p:υ)):=λW G a7=>by
        have X:=wW (a+fr+k) (s.extract (k*16) ((k+1)*16)) W G.img.dev P (by omega) (ja4 a3 a7) (by rw[jaB];omega) (by omega)
        rw[show(((a+fr+k:Nat):Int))=(a:Int)+(fr:Int)+(k:Int) by omega] at X
        refine X.mono ?_;rintro e j ⟨v2,rfl,a2,aa⟩;obtain⟨a1,a5⟩:=G.img.rE a2 rfl aa;refine⟨{y with v2:=v2},by rw[L],rfl,⟨?_,aX.trans G.kept a5⟩,a1.cells.1⟩
        rw[L,<- Em];exact a1
      have u:=l.img.cells.1;have o:=ah l;have C:=ah z;clear L P A l z r t;have k0:(0:Int)<=(k:Int):=by omega
      have k1:(k:Int)*16<=((k:Int)+1)*16:=by omega
      have k2:((k:Int)+1)*16<=(s.size:Int):=by omega
      have k3:(0:Int)<=(k:Int)*16:=by omega
      have k4:(0:Int)<=((k:Int)+1)*16:=by omega
      have k5:((k:Int)*16).toNat=k*16:=by omega
      have k6:(((k:Int)+1)*16).toNat=(k+1)*16:=by omega
      have k7:IntKind.i64.wrap ((k:Int)*16)=(k:Int)*16:=ja8 _ (by omega)
      have k8:IntKind.i64.wrap ((k:Int)+1)=(k:Int)+1:=ja8 _ (by omega)
      have k9:IntKind.i64.wrap (((k:Int)+1)*16)=((k:Int)+1)*16:=ja8 _ (by omega)
      have ag:IntKind.i64.wrap ((a:Int)+(fr:Int)+(k:Int))=(a:Int)+(fr:Int)+(k:Int):=ja8 _ (by omega)
      have ai:(k:Int)<=(k:Int)+1:=by omega
      clear Y ab;have a0:wr.drew.cell? ⟨x.p,0,none⟩=some (y.p:υ):=u;have I:Hid (oz B x.tb w x v (D k).1 y wr.drew/\wr.heap.size<=wr.drew.heap.size):=⟨o.out.drew,ja1 _⟩;go_wp2
      go_region_held3 (λW=>W.cell? ⟨x.p,0,none⟩=some (y.p:υ))
        (first|(exact a0)|assumption)
        (first
          | (go_at_call 105;refine(Z.out _ I.out.1 I.out.2).mono ?_;rintro e w3 ⟨n,rfl,O,V,a6⟩))
      have M:=ah V;have Q:Hid (n.p=x.h.p):=by unfold Hid;rw[O];exact C.out
      clear V O a6 o I Z a0 u C;by_cases g:(D (k+1)).2=0
      . have HZ:=ah g
        have N:erV (D (k+1)).2=.nilIface:=by rw[g,aN]
        rw[N];clear g N;go_wp2
        go_roundw
        case rel =>
          exact⟨k+1,n,by omega,by go_num,HZ.out,Q.out,M.out⟩
        case measure=>simp[intOf];omega
      . have HE:=K.out (k+1) g (by omega)
        have S:=ah HE;have J:erV (D (k+1)).2=.iface 96 (.int .i64 (D (k+1)).2):=by unfold erV;rw[if_neg g]
        have H7:=ah J;rw[J];clear g HE J;go_wp2
        go_ret
        refine⟨n,?_,Q.out,?_,M.out.kept⟩
        . rw[S.out,H7.out];rfl
        . rw[S.out];exact M.out.img
    . have ac:k=c:=by omega
      subst ac;have o:=ah l;have C:=ah z;have a9:Hid (erV (D k).2=.nilIface):=by unfold Hid;rw[A,aN]
      clear l z A r t K;go_wp2
      go_ret
      exact⟨y,lu a9.out.symm,C.out,o.out.img,o.out.kept⟩
def Nz(l:List Nat)(k:Nat):Maps.has (o9 l) (.int .i64 (k:Int))=l.any λx=>decide (x=k):=by
 unfold o9;rw[has_setOf]
 .induction l with
  | nil=>rfl
  | cons a l b =>
   rw[List.map_cons,List.any_cons,List.any_cons,b]
   congr 1
   apply decide_eq_decide.2
   constructor<;>intro h<;>first|omega|simp_all|omega|(omega)
 .intro x c
  obtain⟨q,_,rfl⟩:=List.mem_map.1 c
  trivial
def Qb{a b:Bool}(h:true=(!a && !b)):a=false/\b=false:=by simp_all
def Qe{a:Bool}(h:false=(!a && !false)):a=true:=by simp_all
structure kK(w:ω)(tk:List Bool)(wr:ω):Prop where
 blk:wr.heap[w.heap.size]?=S (.cells (tk.map Value.bool).toArray 288 (0,0))
 bel:β w w wr
 n40:tk.length=40
def kK.bit{w wr:ω}{tk:List Bool}(h:kK w tk wr)(q:Nat)(a:q<40):wr.cell? ⟨w.heap.size,q,O⟩=S (.bool (tk.getD q false))/\wr.frozen? ⟨w.heap.size,q,O⟩=false:=by
 refine⟨?_,frozen_of_row _ _ _ _ _ h.blk⟩;have b:q<tk.length:=by rw[h.n40];exact a
 rw[cell_of_row _ _ _ _ _ _ h.blk,jaN]
 simp_all
theorem kK.set{w wr:ω}{tk:List Bool}(h:kK w tk wr)(q:Nat):kK w (tk.set q true) (wr.setCell ⟨w.heap.size,q,O⟩ true):=by
 refine⟨?_,h.bel.setCell (ja1 _) _,by rw[jah];exact h.n40⟩
 rw[heap_setCell_same _ _ _ _ _ _ h.blk]
 simp_all
def kK.below{w wr a:ω}{tk:List Bool}(h:kK w tk wr)(b:β (w.heap.size+1) wr a):kK w tk a :=
 ⟨by rw[b.block _ (Nat.lt_succ_self _)];exact h.blk,h.bel.trans (b.mono (jaY _)),h.n40⟩
theorem kK.size{w wr:ω}{tk:List Bool}(h:kK w tk wr):w.heap.size+1<=wr.heap.size:=lt_of_some h.blk
def kE(l:List Nat):List Value:=l.map λq:Nat=>.int .i64 (q:Int)
def CY(w:ω):(zeroValue 316).run prog w=.ok (.agg #[]) w:=by kernel_rfl
def take_snoc{l:List (Int × Int)}{k:Nat}(h:k<l.length):l.take (k+1)=l.take k++[((l.getD k (0,0)).1,(l.getD k (0,0)).2)]:=by
 rw[jay h]
 congr 1
 simp_all
def Ew{B:Gd}{m:Nat}{x:Ih}{v:IV}(w:ω)(h:aH B w x v)(G:v.ok m) :
  κ prog 259 #[x.p] w λe w' =>
   ∃ a cap,e=.returned (.slice a v.iR.length cap)/\w'.ownsRow w.heap.size 3 1 (.slice a v.iR.length cap) v.iR.length (kE v.iR)/\β w w w':=by
 have aq:=HV.dK G.h;have ag:=G.len;obtain⟨c0,c1,c2,c3,c4,c5,fz⟩:=h.cells;obtain⟨lp,lm,lt⟩:=h.lts;obtain⟨i1,ao,am,ax,ac⟩:=info_parts tN;have R:=ah h
 have a9:Hid (∀ k,k<v.t.length->bI (v.t.getD k (0,0)).1 (v.t.getD k (0,0)).2 v.h.p=true):=λk E=>by
  rw[ja5,ja7 E];exact G.ents _ (jab E)
 obtain⟨P,U⟩:∃ P:Nat,v.h.p=(P:Int):=⟨v.h.p.toNat,by omega⟩
 have a7:Hid (v.iR=v.iD P):=by unfold Hid IV.iR;rw[U];rfl
 have X:Hid (∀ k,v.iD (k+1)=v.iD k++(if v.iT k=true then [k] else [])):=v.Aj
 have S:Hid (v.iD 0=[]):=rfl;have a8:Hid (∀ k,(v.iD k).length<=k):=v.Nk
 have a2:Hid (∀ k,k<40->v.iT k=(!(fH v.t).getD k false && !v.oI k)):=λk E=>by
  unfold IV.iT
  congr 1
  rw[CG _ _ E];unfold IV.yZ
  congr 1
  rw[jaD,List.any_eq_true,decide_eq_true_eq]
  constructor
  .rintro⟨e,he,h1⟩;rw[of_decide_eq_true h1] at he;exact he
  .intro hm;exact⟨_,hm,decide_eq_true rfl⟩
 have aR:P<=40:=by omega
 have ar:v.t.length<=32:=by omega
 rw[U] at c2;rw[a7.out];have HN:Hid (v.t.length=v.t.length):=rfl;generalize ab:v.t.length=n at c4 a9 ar;have V:Hid (v.t.length=n):=ab
 have an:Hid (kK w (fH (v.t.take 0)) (w.alloc (.cells (List.replicate 40 (Value.bool false)).toArray 288))):=by
  refine⟨?_,(ja0 _ _).alloc (ja1 _) _,CJ _⟩;rw[heap_alloc_new,List.take_zero,II,List.map_replicate]
 clear h G aq ag fz c0 c1 c3 ab HN c5 c4;have c4:=R.out.cells.2.2.2.2.1;rw[V.out] at c4;generalize v.iD=F at a7 X S a8 |-;go_enter func259,ntmps259
 go_wp2
 go_loopw [15] (λi wr=>∃ k:Nat,k<=n/\i=.int .i64 k/\kK w (fH (v.t.take k)) wr) (λi _=>n-(intOf i).toNat)
 case atStart=>exact⟨0,ja6 _,rfl,an.out⟩
 case round =>
  obtain⟨k,E,rfl,b⟩:=hrel;by_cases a3:k<n
  .have f:=R.out.below b.bel
   have a5:k<v.t.length:=by rw[V.out];exact a3
   obtain⟨t0,t1,_⟩:=f.jA (c:=k) a5;have K:=take_snoc a5;have Q:=a9.out k a3;have b5:=b.size;generalize (v.t.getD k (0,0)).1=y0 at t0 K Q;generalize (v.t.getD k (0,0)).2=y1 at t1 K Q;have g:=ah b;have a4:=ah K;have k0:(0:Int)<=(k:Int):=by omega
   have k1:(k:Int)<(n:Int):=by omega
   have b3:x.tb<wr.heap.size:=by omega
   clear f b K;by_cases s:y0=2
   .have hq:0<=y1/\y1<40:=by
     rcases jh Q with h4|h4
     .omega
     .omega
    obtain⟨q,rfl⟩:∃ q:Nat,y1=(q:Int):=⟨y1.toNat,by omega⟩
    have Y:Hid (kK w (fH (v.t.take (k+1))) ((wr.alloc (.cells #[y0,(q:Int)] 168)).setCell ⟨w.heap.size,q,none⟩ true)):=by
     unfold Hid;rw[a4.out,s,IG _ _ (by omega)]
     exact(g.out.below ((ja0 _ _).alloc g.out.size _)).set q
    obtain⟨u0,uf⟩:=g.out.bit q (by omega)
    have af:(wr.alloc (.cells #[y0,(q:Int)] 168)).cell? ⟨w.heap.size,q,none⟩=some (.bool ((fH (v.t.take k)).getD q false)):=by
     rw[jas _ _ _ (by show w.heap.size<wr.heap.size;omega)];exact u0
    have b4:(wr.alloc (.cells #[y0,(q:Int)] 168)).frozen? ⟨w.heap.size,q,none⟩=false:=by
     rw[jaS _ _ _ (by show w.heap.size<wr.heap.size;omega)];exact uf
    have g2:(y0==2)=true:=by simpa using s
    have q0:(0:Int)<=(q:Int):=by omega
    have q1:(q:Int)<40:=by omega
    generalize (fH (v.t.take k)).getD q false=bb at u0 af;clear s Q hq;go_wp2
    go_roundw
    case rel =>
     exact⟨k+1,by omega,by go_num,Y.out⟩
    case measure=>simp[intOf];omega
   .have Y:Hid (kK w (fH (v.t.take (k+1))) (wr.alloc (.cells #[y0,y1] 168))):=by
     unfold Hid;rw[a4.out,IJ _ _ _ s];exact g.out.below ((ja0 _ _).alloc g.out.size _)
    have g2:(y0==2)=false:=by simpa using s
    go_wp2
    go_roundw
    case rel =>
     exact⟨k+1,by omega,by go_num,Y.out⟩
    case measure=>simp[intOf];omega
  .have Z:k=v.t.length:=by rw[V.out];omega
   rw[Z,jaT] at b;have g:=ah b;have f:=R.out.below b.bel;have av:=f.cells.2.2.1;rw[U] at av;clear b f Z;go_wp2
   go_loopw [6,31] (λu i wq=>∃(k:Nat) (a:Option Addr) (cap:Nat),k<=P/\i=.int .i64 k/\u=.slice a (F k).length cap/\wq.ownsRow (w.heap.size+1) 3 1 (.slice a (F k).length cap) (F k).length (kE (F k))/\kK w (fH v.t) wq) (λ_ i _=>P-(intOf i).toNat)
   case atStart=>exact⟨0,none,0,ja6 _,rfl,by rw[S.out];rfl,by rw[S.out];exact jae _ _ _ _,g.out⟩
   case round =>
    obtain⟨j,a,cap,hj,rfl,rfl,ho,b⟩:=hrel;obtain⟨wq,aw⟩:∃ wq,wq=wr:=⟨wr,rfl⟩;subst aw;by_cases b6:j<P
    .have f:=R.out.below b.bel
     have c5:=f.cells.2.2.2.2.2.1;have aL:=b.size;have A:=ah f.map;have O:=Nz v.held j;have d:=a2.out j (by omega)
     have C:=X.out j;have aM:=a8.out j;have W:=ah (EW j (by omega))
     obtain⟨b0,bf⟩:=b.bit j (by omega)
     have L:(wq.alloc (.cells #[] 316)).cell? ⟨w.heap.size,j,none⟩=some (.bool ((fH v.t).getD j false)):=by
      rw[jas _ _ _ (by show w.heap.size<wq.heap.size;omega)];exact b0
     have j0:(0:Int)<=(j:Int):=by omega
     have j1:(j:Int)<40:=by omega
     have M:=ah ho;have o:=ah b;have N:v.oI j=v.held.any λx=>decide (x=j):=rfl
     rw[<- N] at O;generalize (fH v.t).getD j false=ub at L d;generalize v.oI j=hb at O d;generalize o9 v.held=D at A O;generalize v.held.length=T at A;by_cases J:v.iT j=true
     .rw[J] at d
      obtain⟨z,N⟩:=Qb d;rw[z] at L;rw[N] at O;rw[J,if_pos rfl] at C;have l:=ah C;have a6:Hid (((wq.alloc (.cells #[] 316)).alloc (.cells #[(j:Int)] 3)).ownsRow (w.heap.size+1) 3 1 (.slice a (F j).length cap) (F j).length (kE (F j))):=(M.out.alloc _).alloc _
      have ad:Hid (∀ i y,([.int .i64 (j:Int)]:List υ)[i]?=some y->((wq.alloc (.cells #[] 316)).alloc (.cells #[(j:Int)] 3)).cell? ((⟨wq.heap.size+1,0,none⟩:Addr).add i)=some y):=by
       have:=cell_one_new (wq.alloc (.cells #[] 316)) (.int .i64 (j:Int)) 3
       rw[show(wq.alloc (.cells #[] 316)).heap.size=wq.heap.size+1 by simp] at this;exact this
      have aa:Hid (w.heap.size+1<=((wq.alloc (.cells #[] 316)).alloc (.cells #[(j:Int)] 3)).heap.size):=by unfold Hid;simp;omega
      have al:Hid (((wq.alloc (.cells #[] 316)).alloc (.cells #[(j:Int)] 3)).heap.size=wq.heap.size+2):=by unfold Hid;simp
      have ae:Hid (β (w.heap.size+1) wq ((wq.alloc (.cells #[] 316)).alloc (.cells #[(j:Int)] 3))):=((ja0 _ _).alloc o.out.size _).alloc (by have:=o.out.size;simp;omega) _
      clear C d J z N X a2
      go_wp2_with (first
       | (at_lookup;refine wpList_lookup_own_unit _ rfl _ _ 233 rfl 3 316 xK underlying233 (CY _) x.m T D rfl A.out _ _ rfl W.out ?_)
       | (at_builtin;refine wpList_append_lies _ (by rfl) _ _ 88 (by rfl) (w.heap.size+1) 3 i1 (.int .i64 0) 1 8 underlying88 ao am ax ac rfl (by decide) (.slice a (F j).length cap) (F j).length (kE (F j)) (by rfl) a6.out ⟨wq.heap.size+1,0,none⟩ 1 1 [(j:Int)] (by rfl) (by rfl) ad.out (λu b=>by simp at b;subst b;rfl) (by decide) (by unfold maxLen;omega) (by omega) aa.out (wq.heap.size+2) al.out ?_;intro g3 a0 w3 ap aE b2 b1))
      have H:Hid (kK w (fH v.t) w3):=o.out.below (ae.out.grown aE aa.out (λr e=>(a6.out.lt r e).1))
      have I:Hid (w3.ownsRow (w.heap.size+1) 3 1 (.slice (some ⟨g3,0,none⟩) (F (j+1)).length a0) (F (j+1)).length (kE (F (j+1)))):=by
       unfold Hid;have e1:(F (j+1)).length=(F j).length+1:=by rw[l.out];simp
       have e2:kE (F (j+1))=kE (F j)++[.int .i64 (j:Int)]:=by rw[l.out];simp[kE]
       rw[e1,e2];exact ap
      have aD:Hid ((F (j+1)).length=(F j).length+1):=by unfold Hid;rw[l.out];simp
      go_roundw
      case rel =>
       exact⟨j+1,some ⟨g3,0,none⟩,a0,by omega,by go_num,by rw[aD.out],I.out,H.out⟩
      case measure=>simp[intOf];omega
     .have a1:v.iT j=false:=by simpa using J
      rw[a1] at d;rw[a1,if_neg (by decide),List.append_nil] at C
      have l:=ah C;have H:Hid (kK w (fH v.t) (wq.alloc (.cells #[] 316))):=o.out.below ((ja0 _ _).alloc o.out.size _)
      have I:Hid ((wq.alloc (.cells #[] 316)).ownsRow (w.heap.size+1) 3 1 (.slice a (F (j+1)).length cap) (F (j+1)).length (kE (F (j+1)))):=by
       unfold Hid;rw[l.out];exact M.out.alloc _
      cases hb with
      | true =>
       clear d L
       go_wp2_with (first
        | (at_lookup;refine wpList_lookup_own_unit _ rfl _ _ 233 rfl 3 316 xK underlying233 (CY _) x.m T D rfl A.out _ _ rfl W.out ?_))
       go_roundw
       case rel =>
        exact⟨j+1,a,cap,by omega,by go_num,by rw[l.out],I.out,H.out⟩
       case measure=>simp[intOf];omega
      | false =>
       have z:ub=true:=Qe d;rw[z] at L;clear d z
       go_wp2_with (first
        | (at_lookup;refine wpList_lookup_own_unit _ rfl _ _ 233 rfl 3 316 xK underlying233 (CY _) x.m T D rfl A.out _ _ rfl W.out ?_))
       go_roundw
       case rel =>
        exact⟨j+1,a,cap,by omega,by go_num,by rw[l.out],I.out,H.out⟩
       case measure=>simp[intOf];omega
    .have ai:j=P:=by omega
     subst ai;have M:=ah ho;have az:=ah b.bel;go_wp2
     go_ret
     exact⟨a,cap,rfl,ownsRow_base M.out (jaY _),az.out⟩
def SQ(c:Nat):(ay (c+1):Int)-1=((c / 8:Nat):Int):=by unfold ay;omega
def TU(l:List (Int × Int))(c:Nat)(e:Int × Int)(a:c<l.length):(l.set c e).set c ((l.getD c (0,0)).1,(l.getD c (0,0)).2)=l:=by
 rw[List.set_set];have:l.getD c (0,0)=l[c]:=by simp_all
 rw[this];exact List.set_getElem_self a
def H8{B:Gd}{m:Nat}{x:Ih}{v:IV}(c:Nat)(k p:Int)(w:ω)(h:aH B w x v)(a:v.ok m)(hm:m<1000000000)(hB:B.top<=w.heap.size)(b:c<v.t.length)(he:bI k p v.h.p=true) :
  κ prog 260 #[x.p,(c:Int),.agg #[k,p]] w λe f =>
   ∃ y:Hd,e=.returned (erV v.d.aU)/\y.p=x.h.p/\aH B f {x with h:=y} (v.set c (k,p))/\aX B x.tb w f:=by
 have af:=HV.dK a.h;have aq:=a.len;have ai:=yE b;obtain⟨a7,ac⟩:=yD (ts:=v.t.set c (k,p)) a.h (by rw[jah];exact a.len) (wZ a.ents c (k,p) he) (c / 8) (by rw[jah];exact ai)
 have a6:=(mM a.h a.need).1;rw[show v.h.c.toNat=v.t.length by omega] at a6
 have R:Hid (∀ W:ω,κ prog 101 #[((c:Int)+1:Int)] W λe f=>e=.returned (ay (c+1):Int)/\f=W):=λW=>by
  have:=qL (c+1) W (by omega)
  rw[show(((c+1:Nat):Int))=(c:Int)+1 by omega] at this;exact this
 have z:Hid (∀(W:ω),aH B W x {v with t:=v.t.set c (k,p)}->B.top<=W.heap.size->κ prog 102 #[x.p,((ay (c+1):Int)-1:Int)] W λe f =>
   ∃ y:Hd,e=.returned (erV v.d.aU)/\y.p=x.h.p/\aH B f {x with h:=y} {v with t:=v.t.set c (k,p),d:=v.fG c (k,p)}/\aX B x.tb W f):=λW hi hb=>by
  rw[SQ];exact I9 (c / 8) W hi a.d hm hb (by show(v.t.set c (k,p)).length<=32;rw[jah];omega) (by show c / 8+1<v.d.fl.length;omega) a7 ac
 have a5:ay (c+1)<=10:=by unfold ay;omega
 have am:1<=ay (c+1):=by unfold ay;omega
 have F:bI (v.t.getD c (0,0)).1 (v.t.getD c (0,0)).2 v.h.p=true:=by rw[ja5,ja7 b];exact a.ents _ (jab b)
 have T:Hid (v.d.aU=0\/v.d.aU=7):=by
  rcases DV.nN v.d with g|g
  .exact .inl g.1
  .exact .inr g.1
 have o:Hid (v.d.aU=0->v.set c (k,p)=⟨v.fG c (k,p),v.h,v.t.set c (k,p),if (v.t.getD c (0,0)).1=2 then v.held++[(v.t.getD c (0,0)).2.toNat] else v.held⟩):=λM=>by unfold IV.set;rw[if_pos M]
 have L:Hid (v.d.aU≠0->v.set c (k,p)={v with d:=v.fG c (k,p)}):=λM=>by unfold IV.set;rw[if_neg M]
 have I:=ah (TU v.t c (k,p) b);have az:=a.few;have c4:=h.cells.2.2.2.2.1;obtain⟨t0,t1,l⟩:=h.jA b;obtain⟨lp,lm,lt⟩:=h.lts;generalize v.d.aU=C at z T o L |-;generalize v.set c (k,p)=V at o L |-;have ao:(0:Int)<=(c:Int):=by omega
 have an:(c:Int)<(v.t.length:Int):=by omega
 have ag:v.t.length<=32:=by omega
 have aw:=af.2.2.2.1;generalize av:(v.t.getD c (0,0)).1=y0 at t0 F o I;generalize ap:(v.t.getD c (0,0)).2=y1 at t1 F o I;have N:Hid ((v.t.set c (k,p)).length=v.t.length):=jah;generalize al:v.t.length=n at c4 b an N ag;have X:Hid (v.t.length=n):=al;generalize ay (c+1)=rn at R z a5 am;go_enter func260,ntmps260
 go_wp2
 have A:Hid (β w w ((w.alloc (.cells #[k,p] 168)).alloc (.cells #[y0,y1] 168))):=((ja0 _ _).alloc (ja1 _) _).alloc (by simp) _
 have G:((w.alloc (.cells #[k,p] 168)).alloc (.cells #[y0,y1] 168)).heap[w.heap.size]?=some (.cells #[k,p] 168 (0,0)):=by rw[jal _ _ _ (by simp),heap_alloc_new]
 have a1:((w.alloc (.cells #[k,p] 168)).alloc (.cells #[y0,y1] 168)).heap[w.heap.size+1]?=some (.cells #[y0,y1] 168 (0,0)):=by
  have:=heap_alloc_new (w.alloc (.cells #[k,p] 168)) (.cells #[y0,y1] 168)
  rw[show(w.alloc (.cells #[k,p] 168)).heap.size=w.heap.size+1 by simp] at this;exact this
 generalize (w.alloc (.cells #[k,p] 168)).alloc (.cells #[y0,y1] 168)=j at A G a1 |-;have K:=h.below A.out;have c4:j.cell? ⟨x.p,4,none⟩=some (.slice (some ⟨x.tb,0,none⟩) n x.tc):=by have:=K.cells.2.2.2.2.1;rw[X.out] at this;exact this
 obtain⟨t0,t1,l⟩:=K.jA (c:=c) (by rw[X.out];exact b)
 have f0:=l (c*2);have f1:=l (c*2+1);have b0:j.cell? ⟨w,0,none⟩=some (k:υ):=by rw[cell_of_row _ _ _ _ _ _ G];rfl
 have b1:j.cell? ⟨w,1,none⟩=some (p:υ):=by rw[cell_of_row _ _ _ _ _ _ G];rfl
 obtain⟨ad,a4⟩:=K.Hw c k p;have a0:w.heap.size+1≠x.tb:=by omega
 have Y:=ah ad.drew;have D:Hid (aX B x.tb w ((j.setCell ⟨x.tb,c*2,none⟩ k).setCell ⟨x.tb,c*2+1,none⟩ p).drew):=aX.trans (aX.trans (aX.of_below A.out) a4) (aX.of_below (ja0 _ _).drew);have U:Hid (((j.setCell ⟨x.tb,c*2,none⟩ k).setCell ⟨x.tb,c*2+1,none⟩ p).drew.heap[w.heap.size+1]?=some (.cells #[y0,y1] 168 (0,0))):=(aX.box a4 a1 (by decide) a0)
 go_region
 have S  := ja4 hB D.out.size;generalize ((j.setCell ⟨x.tb,c*2,none⟩ k).setCell ⟨x.tb,c*2+1,none⟩ p).drew=W1 at Y D U S |-;go_wp2_with (go_at_call 101;refine cSt (R.out _) ?_)
 refine(z.out W1 Y.out S).mono ?_;rintro e s ⟨y,rfl,ae,i,Z⟩;have Q:=ah ae;have a3:=Z.box U.out (by decide) a0
 have z0:s.cell? ⟨w.heap.size+1,0,none⟩=some (y0:υ):=by rw[cell_of_row _ _ _ _ _ _ a3];rfl
 have z1:s.cell? ⟨w.heap.size+1,1,none⟩=some (y1:υ):=by rw[cell_of_row _ _ _ _ _ _ a3];rfl
 have J:=ah (aX.trans D.out Z);by_cases r:C=0
 .have HV:=ah (o.out r)
  have a2:Hid (erV C=.nilIface):=by unfold Hid;rw[r,aN]
  rw[r,aN];by_cases u:y0=2
  .have ax:0<=y1/\y1<1000:=by
    rcases jh F with h4|h4
    .omega
    .omega
   obtain⟨q,rfl⟩:∃ q:Nat,y1=(q:Int):=⟨y1.toNat,by omega⟩
   obtain⟨w4,ar,a9,aa⟩:=i.drew.map.store xK underlying233 (by show v.held.length<maxLen;unfold maxLen;omega) (EW q (by omega)) unitElem_mk
   have ab:w4.ownsMap prog 3 (unitElem (H:=Unit)) x.m (v.held++[q]).length (o9 (v.held++[q])):=by
    rw[NM,jak];exact a9
   obtain⟨O,P⟩:=i.drew.Fz (v.held++[q]) aa ab;have c5:=i.cells.2.2.2.2.2.1
   have E:Hid (V=⟨v.fG c (k,p),v.h,v.t.set c (k,p),v.held++[q]⟩):=by
    unfold Hid;rw[HV.out,if_pos u];simp
   have g2:(y0==2)=true:=by simpa using u
   go_wp2
   go_region
   go_wp2
   go_ret
   exact⟨y,lu a2.out.symm,Q.out,by rw[E.out];exact O,(aX.trans (aX.trans J.out (aX.of_below (ja0 _ s).drew)) P)⟩
  .have E:Hid (V=⟨v.fG c (k,p),v.h,v.t.set c (k,p),v.held⟩):=by
    unfold Hid;rw[HV.out,if_neg u]
   have g2:(y0==2)=false:=by simpa using u
   go_wp2
   go_ret
   exact⟨y,lu a2.out.symm,Q.out,by rw[E.out];exact i,J.out⟩
 .have e7:erV C=.iface 96 (.int .i64 7):=by
   rcases T.out with g|g
   .exact absurd g r
   .rw[g];simp[erV]
  rw[e7];have c4:s.cell? ⟨x.p,4,none⟩=some (.slice (some ⟨x.tb,0,none⟩) n x.tc):=by have:=i.cells.2.2.2.2.1;rw[N.out] at this;exact this
  obtain⟨t0,t1,l⟩:=i.jA (c:=c) (by show c<(v.t.set c (k,p)).length;rw[N.out];exact b)
  have f0:=l (c*2);have f1:=l (c*2+1);obtain⟨O,P⟩:=i.Hw c y0 y1
  have a8:Hid (aH B ((s.setCell ⟨x.tb,c*2,none⟩ y0).setCell ⟨x.tb,c*2+1,none⟩ y1).drew {x with h:=y} {v with d:=v.fG c (k,p)}):=by
   have:=O.drew
   unfold Hid;rw[show(({v with t:=v.t.set c (k,p),d:=v.fG c (k,p)}:IV).t.set c (y0,y1))=v.t from I.out] at this
   exact this
  go_wp2
  go_region
  go_wp2
  go_ret
  exact⟨y,lu e7.symm,Q.out,by rw[(L.out r)];exact a8.out,(aX.trans (aX.trans J.out P) (aX.of_below (ja0 _ _).drew))⟩
def Did(B:Gd)(w:ω)(x:Ih)(V:IV)(f:Int)(e:Ending)(a:ω):Prop :=
 ∃ y:Hd,e=.returned (erV f)/\y.p=x.h.p/\aH B a {x with h:=y} V/\aX B x.tb w a
def Did.from{B:Gd}{w a:ω}{x:Ih}{V:IV}{f:Int}{e:Ending}{b:ω}(h:Did B a x V f e b)(j:β w w a):Did B w x V f e b:=by
 obtain⟨y,g,c,i,d⟩:=h;exact⟨y,g,c,i,aX.trans (aX.of_below j) d⟩
def o7{B:Gd}{w b:ω}{x:Ih}{v:IV}{f:Int}(h:aH B w x v)(a:β w w b):Did B w x v f (.returned (erV f)) b:=⟨x.h,rfl,rfl,h.below a,aX.of_below a⟩
def bJ{f:Int}(h:f≠0):erV f=.iface 96 (.int .i64 f):=by unfold erV;rw[if_neg h]
def Vw{B:Gd}{x:Ih}{v:IV}(c fr:Int)(s:ByteArray)(w:ω)(h:aH B w x v)(o:s.size<=1000)(m : -9223372036854775808<=fr/\fr<=9223372036854775807)(f:oq v c fr s=false) :
  κ prog 223 #[x.p,c,fr,s] w λe j=>e=.returned (.iface 96 (.int .i64 1))/\β w w j:=by
 have b:=ah (rF c w h)
 cases i:v.there c with
 | false =>
  have g:v.iw c=1:=by unfold IV.iw;rw[i];rfl
  rw[g,eu] at b;generalize (v.bC c).1=y0 at b;generalize (v.bC c).2=y1 at b;go_enter func223,ntmps223
  go_wp2_with fail
  refine cEq b.out λd a=>?_
  go_wp2
  go_ret
  exact⟨rfl,a.alloc a.size _⟩
 | true =>
  have g:v.iw c=0:=by unfold IV.iw;rw[i];rfl
  rw[g,aN] at b
  have hd:¬(0<=fr/\fr<=4/\s.size % 16=0/\(s.size:Int)<=16*(4-fr)):=by
   unfold oq at f;rw[i,jb6] at f;exact of_decide_eq_false f
  generalize (v.bC c).1=y0 at b;generalize (v.bC c).2=y1 at b;by_cases l:fr<0
  .go_enter func223,ntmps223
   go_wp2_with fail
   refine cEq b.out λd a=>?_
   go_wp2
   go_ret
   exact⟨rfl,a.alloc a.size _⟩
  .have g1:decide (fr<0)=false:=decide_eq_false l
   by_cases k:4<fr
   .go_enter func223,ntmps223
    go_wp2_with fail
    refine cEq b.out λd a=>?_
    go_wp2
    go_ret
    exact⟨rfl,a.alloc a.size _⟩
   .have g2:decide (4<fr)=false:=decide_eq_false k
    by_cases n:s.size % 16=0
    .go_enter func223,ntmps223
     go_wp2_with fail
     refine cEq b.out λd a=>?_
     go_wp2
     go_ret
     exact⟨rfl,a.alloc a.size _⟩
    .go_enter func223,ntmps223
     go_wp2_with fail
     refine cEq b.out λd a=>?_
     go_wp2
     go_ret
     exact⟨rfl,a.alloc a.size _⟩
def Vx{B:Gd}{m:Nat}{x:Ih}{v:IV}(c fr:Int)(s:ByteArray)(w:ω)(h:aH B w x v)(j:v.ok m)(X:m+10<1000000000)(L:B.top<=w.heap.size)(F:s.size<=1000)(D : -9223372036854775808<=fr/\fr<=9223372036854775807) :
  κ prog 223 #[x.p,c,fr,s] w (Did B w x (v.write c fr s) (v.dJ c fr s)):=by
 cases b:oq v c fr s with
 | false =>
  refine cEq (Vw c fr s w h F D b) λN n=>?_
  have t:v.write c fr s=v:=by unfold IV.write;rw[b,if_neg (λh=>by cases h.1)]
  have q:v.dJ c fr s=1:=by unfold IV.dJ;rw[b];rfl
  rw[t,q,<- eu];exact o7 h n
 | true =>
  obtain⟨o,O,U,R,S⟩:=CQ b;have g:=ah (rF c w h);have t:v.iw c=0:=by unfold IV.iw;rw[o];rfl
  have q:v.bC c=v.ent c:=by unfold IV.bC;rw[o];rfl
  rw[t,aN,q] at g;have g1:decide (fr<0)=false:=decide_eq_false (by omega)
  have g2:decide (4<fr)=false:=decide_eq_false (by omega)
  have z:=ah h;by_cases a:(v.ent c).1=2
  .obtain⟨Y,T,P⟩:=j.place o a
   have Q:=HV.dK j.h;have HV:Hid (v.write c fr s={v with d:=(v.qU c fr s).1}):=by unfold Hid IV.write;rw[if_pos ⟨b,a⟩]
   have A:Hid (v.dJ c fr s=(v.qU c fr s).2):=by unfold Hid IV.dJ;rw[b,if_pos rfl,if_pos a]
   have k:Hid (∀ W:ω,aH B W x v->B.top<=W.heap.size->κ prog 258 #[x.p,.int .i64 (v.ent c).2,fr,s] W (Did B W x (v.write c fr s) (v.dJ c fr s))):=λW G n=>by
    have:=I8 (v.ent c).2.toNat fr.toNat (s.size / 16) s W G j.d (by omega) n j.h (by omega) (by omega) (by omega) (by omega)
    rw[show(((v.ent c).2.toNat:Nat):Int)=(v.ent c).2 by omega,show((fr.toNat:Nat):Int)=fr by omega] at this
    rw[HV.out,A.out];exact this
   generalize v.write c fr s=V at k |-;generalize v.dJ c fr s=f at k |-;rw[a] at g;generalize (v.ent c).2=y1 at g k;go_enter func223,ntmps223
   go_wp2_with fail
   refine cEq g.out λu i=>?_
   have r:=ah (i.alloc i.size (.cells #[(2:Int),y1] 168));have E:=ah (k.out _ (z.out.below r.out) (ja4 L r.out.size));go_wp2_with fail
   refine E.out.mono ?_;rintro e M ⟨y,rfl,J,C,H⟩;have l:Hid (Did B w x V f (.returned (erV f)) M):=Did.from ⟨y,rfl,J,C,H⟩ r.out;go_wp2
   go_ret
   exact l.out
  .have I:v.write c fr s=v:=by unfold IV.write;rw[if_neg (λh=>a h.2)]
   have K:v.dJ c fr s=4:=by unfold IV.dJ;rw[b,if_pos rfl,if_neg a]
   rw[I,K];generalize (v.ent c).1=y0 at g a;generalize (v.ent c).2=y1 at g;go_enter func223,ntmps223
   go_wp2_with fail
   refine cEq g.out λu i=>?_
   have l:Hid (Did B w x v 4 (.returned (erV 4)) (u.alloc (.cells #[y0,y1] 168))):=o7 z.out (i.alloc i.size _);rw[bJ (by decide)] at l
   go_wp2
   go_ret
   exact l.out
def KD{B:Gd}{m:Nat}{x:Ih}{v:IV}(c:Int)(w:ω)(h:aH B w x v)(D:v.ok m)(H:m+10<1000000000)(F:B.top<=w.heap.size) :
  κ prog 234 #[x.p,c] w (Did B w x (v.clear c) (v.fB c)):=by
 have a:=ah (rF c w h);have s:=ah h
 cases b:v.there c with
 | false =>
  have r:v.iw c=1:=by unfold IV.iw;rw[b];rfl
  have k:v.clear c=v:=by unfold IV.clear;rw[b,if_neg (λh=>by cases h.1)]
  have l:v.fB c=1:=by unfold IV.fB;rw[b];rfl
  rw[r,eu] at a;rw[k,l];generalize (v.bC c).1=y0 at a;generalize (v.bC c).2=y1 at a;go_enter func234,ntmps234
  go_wp2_with fail
  refine cEq a.out λn g=>?_
  have j:Hid (Did B w x v 1 (.returned (erV 1)) (n.alloc (.cells #[y0,y1] 168))):=o7 s.out (g.alloc g.size _);rw[bJ (by decide)] at j
  go_wp2
  go_ret
  exact j.out
 | true =>
  have r:v.iw c=0:=by unfold IV.iw;rw[b];rfl
  have z:v.bC c=v.ent c:=by unfold IV.bC;rw[b];rfl
  rw[r,aN,z] at a;by_cases i:(v.ent c).1=1
  .have k:v.clear c=v:=by unfold IV.clear;rw[if_neg (λh=>h.2 i)]
   have l:v.fB c=0:=by unfold IV.fB;rw[b,if_pos rfl,if_pos i]
   rw[k,l];rw[i] at a;generalize (v.ent c).2=y1 at a;go_enter func234,ntmps234
   go_wp2_with fail
   refine cEq a.out λn g=>?_
   have j:Hid (Did B w x v 0 (.returned (erV 0)) (n.alloc (.cells #[(1:Int),y1] 168))):=o7 s.out (g.alloc g.size _);rw[aN] at j;go_wp2
   go_ret
   exact j.out
  .obtain⟨t0,t1⟩:=IV.nP b
   have o:Hid (∀ W:ω,aH B W x v->B.top<=W.heap.size->κ prog 260 #[x.p,c,.agg #[(1:Int),(0:Int)]] W (Did B W x (v.clear c) (v.fB c))):=λW A t=>by
    have:=H8 c.toNat 1 0 W A D (by omega) t (by omega) (kN (.inr ⟨.inr rfl,rfl⟩))
    rw[show((c.toNat:Nat):Int)=c by omega] at this
    have k:v.clear c=v.set c.toNat (1,0):=by unfold IV.clear;rw[if_pos ⟨b,i⟩]
    have l:v.fB c=v.d.aU:=by unfold IV.fB;rw[b,if_pos rfl,if_neg i]
    rw[k,l];exact this
   generalize v.clear c=V at o |-;generalize v.fB c=f at o |-;generalize (v.ent c).1=y0 at a i;generalize (v.ent c).2=y1 at a;have g1:(y0==1)=false:=by simpa using i
   go_enter func234,ntmps234
   go_wp2_with fail
   refine cEq a.out λn g=>?_
   have q:=ah (g.alloc g.size (.cells #[y0,y1] 168));go_wp2_with fail
   refine(o.out _ (s.out.below q.out) (ja4 F q.out.size)).mono ?_;rintro e G ⟨y,rfl,E,u,C⟩;have j:Hid (Did B w x V f _ G):=Did.from ⟨y,rfl,E,u,C⟩ q.out;go_wp2
   go_ret
   exact j.out
def MR{B:Gd}{m:Nat}{x:Ih}{v:IV}(c:Int)(s:ByteArray)(w:ω)(h:aH B w x v)(H:v.ok m)(G:¬(v.there c=true/\s.size=64/\(v.ent c).1≠2/\v.iR≠[])) :
  κ prog 224 #[x.p,c,s] w (Did B w x (v.fill c s) (v.dD c s)):=by
 have b:=ah (rF c w h);have o:=ah h
 cases g:v.there c with
 | false =>
  have t:v.iw c=1:=by unfold IV.iw;rw[g];rfl
  have k:v.fill c s=v:=by unfold IV.fill;rw[g,if_neg (λh=>by cases h.1)]
  have l:v.dD c s=1:=by unfold IV.dD;rw[g,if_neg (λh=>by cases h.1)]
  rw[t,eu] at b;rw[k,l];generalize (v.bC c).1=y0 at b;generalize (v.bC c).2=y1 at b;go_enter func224,ntmps224
  go_wp2_with fail
  refine cEq b.out λn f=>?_
  have d:Hid (Did B w x v 1 (.returned (erV 1)) (n.alloc (.cells #[y0,y1] 168))):=o7 o.out (f.alloc f.size _);rw[bJ (by decide)] at d
  go_wp2
  go_ret
  exact d.out
 | true =>
  have t:v.iw c=0:=by unfold IV.iw;rw[g];rfl
  have C:v.bC c=v.ent c:=by unfold IV.bC;rw[g];rfl
  rw[t,aN,C] at b;by_cases j:s.size=64
  .by_cases i:(v.ent c).1=2
   .have k:v.fill c s=v:=by unfold IV.fill;rw[if_pos ⟨g,j⟩,if_pos i]
    have l:v.dD c s=5:=by unfold IV.dD;rw[if_pos ⟨g,j⟩,if_pos i]
    rw[k,l];rw[i] at b;have g1:((s.size:Int) != 64)=false:=by simp;omega
    generalize (v.ent c).2=y1 at b;go_enter func224,ntmps224
    go_wp2_with fail
    refine cEq b.out λn f=>?_
    have d:Hid (Did B w x v 5 (.returned (erV 5)) (n.alloc (.cells #[(2:Int),y1] 168))):=o7 o.out (f.alloc f.size _);rw[bJ (by decide)] at d
    go_wp2
    go_ret
    exact d.out
   .have q:v.iR=[]:=by
     by_cases y:v.iR=[]
     .exact y
     .exact absurd ⟨g,j,i,y⟩ G
    have k:v.fill c s=v:=by unfold IV.fill;rw[if_pos ⟨g,j⟩,if_neg i,q]
    have l:v.dD c s=6:=by unfold IV.dD;rw[if_pos ⟨g,j⟩,if_neg i,q]
    rw[k,l]
    have z:Hid (∀ W:ω,aH B W x v->κ prog 259 #[x.p] W λe u=>∃ a cap,e=.returned (.slice a 0 cap)/\β W W u):=λW F=>by
     refine(Ew W F H).mono ?_;rw[q];rintro e u ⟨a,cap,A,_,D⟩;exact⟨a,cap,A,D⟩
    generalize (v.ent c).1=y0 at b i;generalize (v.ent c).2=y1 at b;have g1:((s.size:Int) != 64)=false:=by simp;omega
    have g2:(y0==2)=false:=by simpa using i
    go_enter func224,ntmps224
    go_wp2_with fail
    refine cEq b.out λn f=>?_
    have r:=ah (f.alloc f.size (.cells #[y0,y1] 168));go_wp2_with fail
    refine(z.out _ (o.out.below r.out)).mono ?_;rintro e I ⟨a,cap,rfl,E⟩;have d:Hid (Did B w x v 6 (.returned (erV 6)) I):=o7 o.out (r.out.trans (E.mono r.out.size));rw[bJ (by decide)] at d
    go_wp2
    go_ret
    exact d.out
  .have k:v.fill c s=v:=by unfold IV.fill;rw[if_neg (λh=>j h.2)]
   have l:v.dD c s=1:=by unfold IV.dD;rw[if_neg (λh=>j h.2)]
   rw[k,l];generalize (v.ent c).1=y0 at b;generalize (v.ent c).2=y1 at b;have g1:((s.size:Int) != 64)=true:=by simp;omega
   go_enter func224,ntmps224
   go_wp2_with fail
   refine cEq b.out λn f=>?_
   have d:Hid (Did B w x v 1 _ (n.alloc (.cells #[y0,y1] 168))):=o7 o.out (f.alloc f.size _);rw[bJ (by decide)] at d
   go_wp2
   go_ret
   exact d.out
def MV{B:Gd}{m:Nat}{x:Ih}{v:IV}(c:Int)(s:ByteArray)(q:Nat)(r:List Nat)(w:ω)(h:aH B w x v)(i:v.ok m)(hm:m+10<1000000000)(hB:B.top<=w.heap.size)(k:v.there c=true)(H:s.size=64)(b:(v.ent c).1≠2)(z:v.iR=q::r) :
  κ prog 224 #[x.p,c,s] w (Did B w x (v.fill c s) (v.dD c s)):=by
 have I:=ah (rF c w h);have P:=ah h;have S:v.iw c=0:=by unfold IV.iw;rw[k];rfl
 have R:v.bC c=v.ent c:=by unfold IV.bC;rw[k];rfl
 rw[S,aN,R] at I;obtain⟨t0,t1⟩:=IV.nP k;have G:q∈v.iR:=by rw[z];exact jag
 have al:=HV.dK i.h;have aM:=(IV.Ai G).1;have aE:=(mM i.h i.need).2 q (by omega)
 have e3:v.fill c s=if (v.fC q s).2=0 then (v.jL q s).set c.toNat (2,(q:Int)) else {v with d:=(v.fC q s).1}:=by unfold IV.fill;rw[if_pos ⟨k,H⟩,if_neg b,z]
 have U:v.dD c s=if (v.fC q s).2=0 then (v.jL q s).d.aU else (v.fC q s).2:=by unfold IV.dD;rw[if_pos ⟨k,H⟩,if_neg b,z]
 have HF:Hid (∀ W:ω,aH B W x v->κ prog 259 #[x.p] W λe D=>∃ g n cap,e=.returned (.slice (some ⟨g,0,none⟩) (n+1) cap)/\W.heap.size<=g/\(∃ o,D.heap[g]?=some (.cells o 3 (0,0)))/\D.cell? ⟨g,0,none⟩=some (.int .i64 (q:Int))/\β W W D):=λW j=>by
  refine(Ew W j i).mono ?_;rintro e D ⟨a,cap,F,b,h3⟩;rw[z] at F b;obtain⟨g,av,hv,Z,hl⟩:=b.form (by simp)
  rw[hv] at F b;refine⟨g,r.length,av,F,Z,?_,?_,h3⟩
  .obtain⟨o,hh⟩:=ownsRow_kind b g rfl
   exact⟨o,hh⟩
  .rw[b.cellAt 0 (by simp)];rfl
 have a5:Hid (∀ W:ω,aH B W x v->B.top<=W.heap.size->κ prog 258 #[x.p,(q:Int),(0:Int),s] W (Did B W x {v with d:=(v.fC q s).1} (v.fC q s).2)):=λW j K =>
  I8 q 0 4 s W j i.d (by omega) K i.h (by omega) (by omega) (by omega) (by omega)
 have a6:Hid (∀(W:ω) (y:Hd),aH B W {x with h:=y} (v.jL q s)->B.top<=W.heap.size->κ prog 260 #[x.p,c,.agg #[(2:Int),(q:Int)]] W (Did B W {x with h:=y} ((v.jL q s).set c.toNat (2,(q:Int))) (v.jL q s).d.aU)):=λW y j K=>by
  have:=H8 c.toNat 2 (q:Int) W j (i.jL G H (by omega)) (by omega) K (by show c.toNat<v.t.length;omega) (Ak i G)
  rw[show((c.toNat:Nat):Int)=c by omega] at this
  exact this
 have ac:Hid ((v.fC q s).2=0\/(v.fC q s).2=7):=DV.rV _ _ _ _;have ae:=ah λW y (j:aH B W {x with h:=y} {v with d:=(v.fC q s).1})=>xA W j
 generalize (v.ent c).1=y0 at I b;generalize (v.ent c).2=y1 at I;have g1:((s.size:Int) != 64)=false:=by simp;omega
 have g2:(y0==2)=false:=by simpa using b
 have A:=ah e3;have u:=ah U;clear h i k S R e3 U b H z G al aM aE t0 t1;generalize v.fill c s=V at A |-;generalize v.dD c s=f at u |-;generalize (v.fC q s).2=Q at A u a5 ac;generalize (v.jL q s).d.aU=f2 at u a6;go_enter func224,ntmps224
 go_wp2_with fail
 refine cEq I.out λw1 a4=>?_
 have C:=ah (a4.alloc a4.size (.cells #[y0,y1] 168));have ax:=ah (HF.out _ (P.out.below C.out));go_wp2_with fail
 refine ax.out.mono ?_;rintro e w2 ⟨g,n,cap,rfl,Z,aq,T,az⟩;have O:=ah (C.out.trans (az.mono C.out.size));have a1:B.top<=w2.heap.size:=ja4 hB O.out.size;have a7:=ah (P.out.below O.out);have ad:=ah (a5.out w2 a7.out a1)
 have Y:g≠x.tb:=λe=>by
  have F:=P.out.lts.2.2;have b:=C.out.size;omega
 have ao:=ah aq;have n0:(0:Int)<((n+1:Nat):Int):=by omega
 go_wp2_with fail
 refine ad.out.mono ?_;rintro e E ⟨y,rfl,ai,a3,M⟩;have a2:=ah ai;obtain⟨o,a0⟩:=ao.out;have a9:o[0]?=some (.int .i64 (q:Int)):=by rw[cell_of_row _ _ _ _ _ _ a0] at T;exact T
 have aL:=M.box a0 (by decide) Y
 have X:Hid (aX B x.tb w E):=aX.trans (aX.of_below O.out) M;have af:B.top<=E.heap.size:=ja4 a1 M.size;by_cases l:Q=0
 .have HV:=ah (A.out.trans (if_pos l))
  have L:=ah (u.out.trans (if_pos l));rw[l,aN];have aw:=ah (ae.out E y a3);go_wp2_with fail
  refine aw.out.mono ?_;rintro e w4 ⟨y4,rfl,aD,ar,N⟩;have aa:Hid (y4.p=x.h.p):=aD.trans a2.out;have ap:=N.box aL (by decide) Y
  have aR:w4.cell? ⟨g,0,none⟩=some (.int .i64 (q:Int)):=by rw[cell_of_row _ _ _ _ _ _ ap];exact a9
  have am:Hid (aX B x.tb w w4):=aX.trans X.out N;have a8:=ah (a6.out w4 y4 ar (ja4 af N.size));go_wp2_with fail
  refine a8.out.mono ?_;rintro e w5 ⟨y5,rfl,ag,an,ab⟩
  have J:Hid (Did B w x V f (.returned (erV f2)) w5):=by
   refine⟨y5,by rw[L.out],ag.trans aa.out,?_,aX.trans am.out ab⟩
   rw[HV.out];exact an
  go_wp2
  go_ret
  exact J.out
 .have HV:=ah (A.out.trans (if_neg l))
  have L:=ah (u.out.trans (if_neg l))
  have J:Hid (Did B w x V f (.returned (erV Q)) E):=by
   refine⟨y,by rw[L.out],a2.out,?_,X.out⟩
   rw[HV.out];exact a3
  rw[bJ l] at J |-;go_wp2
  go_ret
  exact J.out
def MQ{B:Gd}{m:Nat}{x:Ih}{v:IV}(c:Int)(s:ByteArray)(w:ω)(h:aH B w x v)(b:v.ok m)(i:m+10<1000000000)(k:B.top<=w.heap.size) :
  κ prog 224 #[x.p,c,s] w (Did B w x (v.fill c s) (v.dD c s)):=by
 by_cases a:v.there c=true/\s.size=64/\(v.ent c).1≠2/\v.iR≠[]
 .obtain⟨j,f,g,l⟩:=a
  cases d:v.iR with
  | nil=>simp_all
  | cons q r=>exact MV c s q r w h b i k j f g d
 .exact MR c s w h b a
def IV.dN(v:IV):Int:=v.flush.d.aU
def Hz{B:Gd}{m:Nat}{x:Ih}{v:IV}(c p b:Int)(w:ω)(h:aH B w x v)(hd:v.d.fine v.d.fl.length m)(hm:m<1000000000)(hB:B.top<=w.heap.size)(K:HV.ok ⟨c,p,b⟩=true) :
  κ prog 103 #[x.p,.agg #[c,p,b]] w λe n =>
   ∃ A:Hd,e=.returned (erV v.flush.d.aU)/\A.p=x.h.p/\aH B n {x with h:=A} (v.jZ ⟨c,p,b⟩)/\aX B x.tb w n:=by
 obtain⟨X,k⟩:∃ X:ByteArray,X=fO [83,89,c,p,b+1]:=⟨_,rfl⟩;have M:X.size=16:=by rw[k];exact HV.wJ ⟨c,p,b⟩
 have HH:Hid (∀ W:ω,κ prog 175 #[.agg #[c,p,b]] W λe n=>e=.returned (.tuple #[X,.nilIface])/\β W W n):=λW=>by rw[k];exact EJ c p b W K
 have l:Hid (v.jZ ⟨c,p,b⟩=if v.flush.d.aU=0 then {(({v.flush with d:=v.flush.d.put 0 X.data.toList}:IV).flush) with h:=⟨c,p,b⟩} else {v.flush with d:=v.flush.d.put 0 X.data.toList}):=by rw[k];rfl
 have O:=hd.flushed;have h0:0<v.d.fl.length:=hd.ok.n1;have P:=ah λW y (hi:bQ B W y v.flush.d) (U:B.top<=W.heap.size)=>wW 0 X W hi O hm U M h0
 have R:=ah h;clear k M O hd K h;generalize v.jZ ⟨c,p,b⟩=V at l |-
 have C:Hid (v.flush.d.aU=0\/v.flush.d.aU=7):=by
  rcases DV.nN v.flush.d with a|a
  .exact .inl a.1
  .exact .inr a.1
 generalize v.flush.d.aU=q at l P C |-;go_enter func103,ntmps103
 go_wp2_with fail
 refine cEq (HH.out _) λf Q=>?_
 have z:β w w f:=((ja0 _ _).alloc (ja1 _) _).trans (Q.mono (by simp))
 have i:f.heap[w.heap.size]?=some (.cells #[c,p,b] 67 (0,0)):=by rw[Q.block _ (by simp),heap_alloc_new]
 have s:w.heap.size≠x.tb:=λe=>by have:=R.out.lts.2.2;omega
 have aa:=R.out.below z;have a5:=ah aa;have T:B.top<=f.heap.size:=ja4 hB z.size;have a0:Hid (aX B x.tb w f):=aX.of_below z;have a8:=ah i;go_wp2_with fail
 refine(xA f a5.out).mono ?_;rintro e j ⟨o,rfl,F,r,t⟩;have H:Hid (o.p=x.h.p):=F;clear F;have ai:f.heap.size<=j.heap.size:=t.size;have af:B.top<=j.heap.size:=ja4 T ai;have ag:Hid (j.heap[w.heap.size]?=some (.cells #[c,p,b] 67 (0,0))):=t.box a8.out (by decide) s
 have a1:Hid (aX B x.tb w j):=aX.trans a0.out t;have c0:=r.cells.1;have S:=ah r;have a2:=ah (P.out j o r.dev af);go_wp2_with fail
 refine a2.out.mono ?_;rintro e u ⟨v2,rfl,Y,a7⟩;obtain⟨al,E⟩:=S.out.rE Y rfl a7;have ae:Hid (u.heap[w.heap.size]?=some (.cells #[c,p,b] 67 (0,0))):=E.box ag.out (by decide) s
 have I:Hid (aX B x.tb w u):=aX.trans a1.out E;have G:=ah al;by_cases g:q=0
 .have HV:Hid (V={(({v.flush with d:=v.flush.d.put 0 X.data.toList}:IV).flush) with h:=⟨c,p,b⟩}):=by unfold Hid;rw[l.out,if_pos g]
  have a9:Hid (erV q=.nilIface):=by unfold Hid;rw[g,aN]
  rw[g,aN];go_wp2_with fail
  refine(xA u G.out).mono ?_;rintro e w4 ⟨D,rfl,a4,L,N⟩;have i:=N.box ae.out (by decide) s
  have y0:w4.cell? ⟨w,0,none⟩=some (c:υ):=by rw[cell_of_row _ _ _ _ _ _ i];rfl
  have y1:w4.cell? ⟨w,1,none⟩=some (p:υ):=by rw[cell_of_row _ _ _ _ _ _ i];rfl
  have y2:w4.cell? ⟨w,2,none⟩=some (b:υ):=by rw[cell_of_row _ _ _ _ _ _ i];rfl
  obtain⟨c0,c1,c2,c3,c4,c5,fz⟩:=L.cells;obtain⟨ab,Z⟩:=L.headed ⟨c,p,b⟩;have ac:=ah ab;have a6:=ah (aX.trans (aX.trans I.out N) Z);have ad:Hid (D.p=x.h.p):=by unfold Hid;rw[a4];exact H.out
  go_wp2
  go_ret
  exact⟨D,lu a9.out.symm,ad.out,by rw[HV.out];exact ac.out,a6.out⟩
 .have HV:Hid (V={v.flush with d:=v.flush.d.put 0 X.data.toList}):=by unfold Hid;rw[l.out,if_neg g]
  have J:erV q=.iface 96 (.int .i64 7):=by
   rcases C.out with a|a
   .exact absurd a g
   .rw[a];simp[erV]
  have a3:=ah J;rw[J];go_wp2
  go_ret
  exact⟨{o with v2:=v2},lu a3.out.symm,H.out,by rw[HV.out];exact G.out,I.out⟩
def OA{B:Gd}{x:Ih}{v:IV}(c:Int)(w:ω)(h:aH B w x v) :
  κ prog 256 #[x.p,c] w λe d =>
   e=.returned (.tuple #[.int .i64 (v.bC c).1,erV (v.iw c)])/\β w w d:=by
 have a:=ah (rF c w h);generalize (v.bC c).1=y0 at a |-;generalize (v.bC c).2=y1 at a;generalize erV _=g at a |-;go_enter func256,ntmps256
 go_wp2_with fail
 refine cEq a.out λf b=>?_
 go_wp2
 go_ret2
 exact⟨rfl,b.alloc b.size _⟩
def qo{B:Gd}{x:Ih}{v:IV}(w:ω)(h:aH B w x v) :
  κ prog 95 #[x.p] w λe a=>e=.returned (.agg #[v.h.c,v.h.p,v.h.b])/\β w w a:=by
 obtain⟨i,c1,c2,c3,c4,g,d⟩:=h.cells;have f:=h.lts.1;generalize v.h.c=c at c1 |-;generalize v.h.p=p at c2 |-;generalize v.h.b=b at c3 |-;go_enter func95,ntmps95
 go_wp2
 exact bodyPost_ret  (by simp[results,results95,go_sem]) rfl ⟨rfl,(by first|exact(ja0 _ _).alloc (ja1 _) _|exact(((((ja0 _ _).alloc _ _).setCell _ _).setCell _ _).setCell _ _))⟩
def TN{x:Ih}(c p b:Int)(w:ω)(a:HV.ok ⟨c,p,b⟩=false) :
  κ prog 103 #[x.p,.agg #[c,p,b]] w λe d=>e=.returned (.iface 96 (.int .i64 1))/\β w w d:=by
 go_enter func103,ntmps103
 go_wp2_with fail
 refine cEq ((λW=>EI c p b W a) _) λg f=>?_
 go_wp2
 go_ret
 exact⟨rfl,((ja0 _ _).alloc (ja1 _) _).trans (f.mono (by simp))⟩
def OH{B:Gd}{m:Nat}{x:Ih}{v:IV}(back:Int)(w:ω)(h:aH B w x v)(A:v.ok m)(L:m+10<1000000000)(C:B.top<=w.heap.size) :
    κ prog 241 #[x.p,back] w (Did B w x (v.link back) (v.iV back)):=by
  obtain⟨I,c1,c2,c3,c4,K,F⟩:=h.cells;have t:=ah h
  have g:Hid (∀ W:ω,aH B W x v->B.top<=W.heap.size->κ prog 103 _ W (Did B W x (v.link back) (v.iV back))):=λW n s=>by
    cases a:(v.oJ back).ok with
    | true =>
      have k:v.link back=v.jZ (v.oJ back):=by unfold IV.link;rw[if_pos a]
      have i:v.iV back=v.flush.d.aU:=by unfold IV.iV;rw[if_pos a]
      rw[k,i];exact Hz v.h.c v.h.p back W n A.d (by omega) s a
    | false =>
      have k:v.link back=v:=by unfold IV.link;rw[if_neg (by rw[a];decide)]
      have i:v.iV back=1:=by unfold IV.iV;rw[if_neg (by rw[a];decide)]
      rw[k,i];refine cEq (TN v.h.c v.h.p back W a) λE z=>?_
      rw[<- eu];exact o7 n z
  generalize v.link back=V at g |-;generalize v.iV back=f at g |-;generalize G:v.h.c=c at c1 g;generalize H:v.h.p=p at c2 g;generalize J:v.h.b=b at c3;go_enter func241,ntmps241
  go_wp2_with fail
  have u:β _ w ((w.alloc (.cells #[c,p,b] 67)).setCell ⟨w,2,O⟩ back):=((ja0 _ _).alloc (ja1 _) _).setCell (ja1 _) _;have j:β _ w (w.alloc (.cells #[c,p,back] 67)):=(ja0 _ _).alloc (ja1 _) _
  first
    | (refine(g.out _ _ _).mono ?_
       rintro e r ⟨y,rfl,q,l,o⟩;go_wp2
       go_ret
       exact(Did.from _ u).out)
    | (refine(g.out _ (t.out.below j) (ja4 C j.size)).mono ?_
       rintro e r ⟨y,rfl,q,l,o⟩;have D:Hid (Did B w x V f _ r):=Did.from ⟨y,rfl,q,l,o⟩ j;go_wp2
       go_ret
       exact D.out)
