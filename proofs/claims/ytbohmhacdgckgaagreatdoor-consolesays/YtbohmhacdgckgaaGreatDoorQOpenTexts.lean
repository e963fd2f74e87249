/- A part. -/
import Derived.Test.YtbohmhacdgckgaaGreatDoorQConShelf
import Derived.Test.YtbohmhacdgckgaaGreatDoorQConSayA
set_option linter.all false
set_option maxHeartbeats 4000000
set_option maxRecDepth 100000
namespace Go.Proofs.YtbohmhacdgckgaaGreatDoor
open Go.RowKit renaming Below->β, Hid->χ
open Go renaming World->ω, Value->υ, Calls->κ
open Option renaming none->O, some->S
open Go.Proofs.Tryz Go.RowKit Go.Maps Go.ChangeShapes Go.WideShapes Go.ChangeAt
attribute [local go_sem ↓] Go.wp_at_zero Go.wp_at_succ
structure Vars(w:ω):Prop where
 size:8<=w.heap.size
 syn:∃ tp p,w.var? prog "strconv.ErrSyntax" = S #[.iface tp p]
 rng:∃ tp p,w.var? prog "strconv.ErrRange" = S #[.iface tp p]
 tab:Lib.TabIs prog w "internal/strconv.uint64pow10" .u64 Lib.pow10Tab
 max:∃ m,w.cell? ⟨2,0,O⟩=S (.int .i64 m)
 bit:∀ j,j<64->w.cell? ⟨0,j,O⟩=S (.int .u8 ((Lib.deBruijn64tab.getD j 0:Nat):Int))
def BP(n g)(h:prog.globalNamed n=S g){w w':ω}(a:w'.heap[g]?=w.heap[g]?):w'.var? prog n=w.var? prog n:=by
 unfold World.var?;simp_all
def Vars.keep{w w':ω}(h:Vars w)(c:w<=w'.heap.size)(a:∀ g,g<8->w'.heap[g]?=w.heap[g]?):Vars w':=by
 refine⟨ja4 h.size c,?_,?_,?_,?_,λj b=>?_⟩
 .rw[BP "strconv.ErrSyntax" 3 (by kernel_rfl) (a _ (by omega))];exact h.syn
 .rw[BP "strconv.ErrRange" 4 (by kernel_rfl) (a _ (by omega))];exact h.rng
 .unfold Lib.TabIs;rw[BP "internal/strconv.uint64pow10" 1 (by kernel_rfl) (a _ (by omega))];exact h.tab
 .rw[jab (a _ (by decide))];exact h.max
 .rw[jab (a _ (show 0<8 by decide))];exact h.bit j b
def Vars.below{w w'}(h:Vars w)(a:β w w w'):Vars w':=h.keep a.size λg b=>a.block g (ja8 b h.size)
def yL(n:Int)(w)(a:Vars w)(c : -9223372036854775808<=n)(b:n<=9223372036854775807) :
  κ prog 160 #[n] w λe w'=>e=.returned (.string (bytesOf (Lib.itoa n)))/\β w w w':=by
 refine(Tryz.strconv_Itoa n c b w a.tab).mono ?_;rintro e w' ⟨rfl,k,os,rfl⟩;exact⟨rfl,Lib.below_grow _ w (ja1 _) k os⟩
def Nh{x v}(w)(a:x.length<=1000)(h:Lib.atoiAll x=.ok v) :
  κ prog 250 #[.string (bytesOf x)] w λe w'=>e=.returned (.tuple #[v,.nilIface])/\β w w w':=by
 refine(Tryz.strconv_Atoi_ok _ (by show x.length<=_;omega) v h w).mono ?_;rintro e w' ⟨rfl,rfl|⟨t,rfl⟩⟩
 .exact⟨rfl,ja0 _ _⟩
 .exact⟨rfl,Lib.bytesWorld_below _ _ _⟩
def Ey{x}(w)(d:Vars w)(f:x.length<=1000)(h:∀ v,Lib.atoiAll x≠.ok v) :
  κ prog 250 #[.string (bytesOf x)] w λe w'=>∃(v:Int) (t:TypeId) (p:υ),e=.returned (.tuple #[v,.iface t p])/\β w w w':=by
 cases c:Lib.atoiAll x with
 | ok v=>simp_all
 | «syntax» =>
  obtain⟨b,p,a⟩:=d.syn;refine(Tryz.strconv_Atoi_syntax_var _ (by show x.length<=_;omega) c b p w a).mono ?_;simp_all
 | range =>
  obtain⟨b,p,a⟩:=d.rng;refine(Tryz.strconv_Atoi_range_var _ (by show x.length<=_;omega) c b p w a).mono ?_;simp_all
def Uo(x w)(o:Vars w)(l:x.length<=1000) :
  κ prog 215 #[.string (bytesOf x)] w λe w'=>∃ v:Int,e=.returned (.tuple #[v,.bool (dK x).isSome])/\(∀ n,dK x=some n->v=n)/\β w w w':=by
 cases c:Lib.atoiAll x with
 | ok v =>
  have f:=ah (Nh w l c);have s:=ah λW (d:β w w W) (u : -1<=v) (y:v<=999999)=>yL v W (o.below d) (by omega) (by omega)
  have j:dK x=if -1<=v/\v<=999999/\Lib.itoa v=x then some v else none:=by unfold dK;rw[c]
  obtain⟨S,r⟩:∃ S,χ (S=bytesOf x):=⟨_,rfl⟩;rw[<- r.out] at f |-;obtain⟨L,k⟩:∃ L,χ (L=bytesOf (Lib.itoa v)):=⟨_,rfl⟩;rw[<- k.out] at s;by_cases u:v < -1
  .have a:dK x=none:=by rw[j,if_neg (by omega)]
   rw[a];go_enter func215,ntmps215;go_wp2_with fail;refine cHd f.out λW b=>?_
   go_wp2;go_ret2;exact⟨0,rfl,λn e=>(by cases e),b.out⟩
  .by_cases y:999999<v
   .have a:dK x=none:=by rw[j,if_neg (by omega)]
    rw[a];go_enter func215,ntmps215;go_wp2_with fail;refine cHd f.out λW b=>?_
    go_wp2;go_ret2;exact⟨0,rfl,λn e=>(by cases e),b.out⟩
   .by_cases i:Lib.itoa v=x
    .have a:dK x=some v:=by rw[j,if_pos ⟨by omega,by omega,i⟩]
     rw[a];have g:(L.toList==S.toList)=true:=by rw[k.out,r.out,i];simp
     go_enter func215,ntmps215;go_wp2_with fail;refine cHd f.out λW b=>?_
     go_wp2_with fail;refine cBl (s.out _ b.out (by omega) (by omega)) b.out λz m=>?_
     go_wp2;go_ret2;exact⟨v,rfl,λn e=>(by cases e;rfl),m.out⟩
    .have a:dK x=none:=by rw[j,if_neg λq=>i q.2.2]
     rw[a];have g:(L.toList==S.toList)=false:=by rw[k.out,r.out,dV,dV];simpa using i
     go_enter func215,ntmps215;go_wp2_with fail;refine cHd f.out λW b=>?_
     go_wp2_with fail;refine cBl (s.out _ b.out (by omega) (by omega)) b.out λz m=>?_
     go_wp2;go_ret2;exact⟨0,rfl,λn e=>(by cases e),m.out⟩
 | «syntax» =>
  have a:dK x=none:=by unfold dK;rw[c]
  rw[a];go_enter func215,ntmps215;go_wp2_with fail;refine(Ey w o l λv e=>by rw[c] at e;cases e).mono ?_;rintro e W ⟨v,t,p,rfl,d⟩;go_wp2;go_ret2;exact⟨0,rfl,λn e=>(by cases e),d⟩
 | range =>
  have a:dK x=none:=by unfold dK;rw[c]
  rw[a];go_enter func215,ntmps215;go_wp2_with fail;refine(Ey w o l λv e=>by rw[c] at e;cases e).mono ?_;rintro e W ⟨v,t,p,rfl,d⟩;go_wp2;go_ret2;exact⟨0,rfl,λn e=>(by cases e),d⟩
def RI{a cap B}(l w)(d:w.ownsRow B 9 1 (.slice a l.length cap) l.length (fU l))(o:l≠[])(v:l.length<=1000)(b:(Lib.join l [32]).length<=1000000) :
  κ prog 252 #[.slice a l.length cap,.string ⟨#[32]⟩] w λe w'=>e=.returned (.string (bytesOf (Lib.join l [32])))/\β w w w':=by
 obtain⟨g,c,s,D,q,_⟩:=kE d 0 (List.length_pos_iff.2 o);injection s with i t e3;subst i;subst e3;have k:(l.map bytesOf).map (·.data.toList)=l:=by rw[List.map_map];exact(jb4 λx _=>show(bytesOf x).data.toList=x by simp[bytesOf]).trans (List.map_id l)
 have A:l.length<=cap:=by
  rcases d.2 with⟨i,t⟩|⟨C,y,u,i,_,_,z,_⟩
  .omega
  .simp_all
 have m:=Tryz.strings_Join g 0 cap (l.map _) ⟨#[32]⟩ w (λj x f=>by
  have b:j<l.length:=by
   have:=(List.getElem?_eq_some_iff.1 f).1
   simp_all
  obtain⟨g2,c2,r,n,_,_⟩:=kE d j b;injection r with q1;injection q1 with q1;injection q1 with q1;subst q1;rw[jaz,ja5 b] at f;rw[jak,n,fU,jaz,ja5 b]
  cases f;rfl) q (by simp;omega) (by simp_all) (by rw[k];show(Lib.join l [32]).length<=_;omega)
 rw[k,jaX] at m;exact m
def G7{a cap}(l w)(Q:Vars w)(h:Nums w a l)(E:l≠[])(L:l.length<=100)(z:∀ x∈l,-1<=x/\x<=1000000000) :
  κ prog 217 #[.slice a l.length cap] w λe w'=>e=.returned (.string (bytesOf (gY l)))/\β w w w':=by
 have y:=ah λk W (c:β w w W) (d:k<l.length)=>(h.below c) k d
 have C:χ (∀(k:Nat) (W:ω),β w w W->k<l.length->∃ x,l.getD k 0=x/\fU ((l.take (k+1)).map Lib.itoa)=fU ((l.take k).map Lib.itoa)++[.string (bytesOf (Lib.itoa x))]/\κ prog 160 #[x] W λe w'=>e=.returned (.string (bytesOf (Lib.itoa x)))/\β W W w'):=λk W c d=>by
  have q:=z _ (jad d);refine⟨l[k],by simp[List.getD,d],?_,yL _ W (Q.below c) (by omega) (by omega)⟩;rw[jaC,ja5 d];show fU ((l.take k++[l[k]]).map Lib.itoa)=_
  rw[jbs,<- xB];rfl
 have m:χ (∀(b:Option Addr) (c2:Nat) (W:ω),W.ownsRow w.heap.size 9 1 (.slice b l.length c2) l.length (fU ((l.take l.length).map Lib.itoa))->κ prog 252 #[.slice b l.length c2,.string ⟨#[32]⟩] W λe w'=>e=.returned (.string (bytesOf (gY l)))/\β W W w'):=λb c2 W f=>by
  have H:=Cj l z l.length;rw[jaT] at f H;have:=RI (a:=b) (cap:=c2) (B:=w.heap.size) (l.map Lib.itoa) W (by rw[jaX];exact f) (by simpa using E) (by simp;omega) (by show(gY l).length<=_;omega)
  rw[jaX] at this;exact this
 generalize l.length=n at y C L m |-;generalize bytesOf (gY l)=T at m |-;go_enter func217,ntmps217;go_wp2;go_loopw [3,5,8] (λu _ i wr=>∃(k:Nat) (b:Option Addr) (c2:Nat),k<=n/\i=.int .i64 (k:Int)/\u=.slice b k c2/\wr.ownsRow w.heap.size 9 1 (.slice b k c2) k (fU ((l.take k).map Lib.itoa))/\β w w wr) (λ_ _ i _=>n-(intOf i).toNat)
 case atStart=>exact⟨0,O,0,by omega,rfl,rfl,jaa _ _ _ _,ja0 _ _⟩
 case round =>
  obtain⟨k,b,c2,d,rfl,rfl,f,c⟩:=hrel;by_cases s:k<n
  .obtain⟨g,o,rfl,G⟩:=y.out k wr c s;obtain⟨x,N,I,J⟩:=C.out k wr c s;rw[N] at G;have F:(k:Int)<(n:Int):=by omega
   have U:(0:Int)<=(k:Int):=by omega
   have t:=ah J;have A:=ah I;have K:=ah f;have v:=ah c;generalize bytesOf _=X at t A;go_wp2_with fail;refine cEq t.out λR q=>?_
   have j:=ah (v.out.trans (q.mono v.out.size));go_wp2_with (at_builtin;refine app1 vS (by rfl) _ _ (by rfl) w.heap.size R _ _ _ _ (by rfl) (by rfl) (own_below K.out q) rfl (by omega) j.out.size λg3 M V r P=>?_)
   rw[<- A.out] at r;go_wp2;go_roundw
   case rel=>exact⟨k+1,S _,M,by omega,by go_num,rfl,r,(j.out.trans (P.mono (ja1 _)))⟩
   case measure=>simp[intOf];try omega
  .have D:k=n:=by omega
   subst D;have F:¬(k:Int)<(k:Int):=by omega
   go_wp2_with fail;refine cBl (m.out b c2 wr f) c λW j=>?_
   go_wp2;go_ret;exact⟨rfl,j.out⟩
def ccL:Go.Proofs.Lays.n240 prog Tryz.lays105_ren:={Tryz.lays105 with}
def ccX:Builder.X72 prog Tryz.lays105_ren:={Tryz.Builder_Extra_105 with}
structure Bld(w:ω)(B b:Nat)(p v:υ)(l:List UInt8):Prop where
 ptr:p=.pointer O\/p=.pointer (S ⟨b,0,O⟩)
 blk:w.heap[b]?=S (.cells #[p,v] 229 (0,0))
 own:w.ownsRow B 5 1 v l.length (Lib.byteCells l)
 lt:b<B
structure Byb(B b:Nat)(w w':ω):Prop where
 os:w'.os=w.os
 tape:w'.tape=w.tape
 output:w'.output=w.output
 size:w.heap.size<=w'
 block:∀ k,k<B->k≠b->w'.heap[k]?=w.heap[k]?
def Byb.refl(B b w):Byb B b w w:=⟨rfl,rfl,rfl,ja1 _,λ_ _ _=>rfl⟩
theorem Byb.trans{B b w x y}(h:Byb B b w x)(k:Byb B b x y):Byb B b w y :=
 ⟨k.os.trans h.os,k.tape.trans h.tape,k.output.trans h.output,ja4 h.size k.size,λi a c=>(k.block i a c).trans (h.block i a c)⟩
def Byb.set{B b w x}(h:Byb B b w x)(i v):Byb B b w (x.setCell ⟨b,i,O⟩ v) :=
 ⟨h.os,h.tape,h.output,by simpa [World.setCell] using h.size,λk c a=>(jbS _ _ _ _ a).trans (h.block k c a)⟩
def Byb.below{B b n w x}(h:Byb B b w x)(d:n<=b)(c:b<B):β n w x :=
 ⟨h.os,h.tape,h.output,h.size,λk a=>h.block k (by omega) (by omega)⟩
def Bld.ne{w B b p v l}(h:Bld w B b p v l):v.ownBlock≠S b:=λe=>by
 have:=(h.own.lt b e).1
 have:=h.lt
 omega
def Bld.is{w B b n p v l}(h:Bld w B b p v l)(a:n<=b):Lib.IsBuilder 229 5 n b (Lib.byteCells l) w:=by
 have f  := jbK l
 have d:w.ownsRow n 5 1 v l.length (Lib.byteCells l):=by
  refine⟨h.own.1,h.own.2.imp id ?_⟩;rintro⟨g,c,cur,h1,h2,h3⟩;exact⟨g,c,cur,h1,by have:=h.lt;omega,h3⟩
 rcases h.ptr with e|e
 .exact .inl ⟨a,v,by rw[<- e];exact h.blk,by simp_all,h.ne⟩
 .exact .inr ⟨a,v,by rw[<- e];exact h.blk,by simp_all,h.ne⟩
def Bld.put{w:ω}{B b p v a l}(d:w.heap[b]?=S (.cells #[p,v] 229 (0,0)))(g:p=.pointer O\/p=.pointer (S ⟨b,0,O⟩))(c:w.ownsRow B 5 1 a l.length (Lib.byteCells l))(i:b<B):Bld (w.setCell ⟨b,1,O⟩ a) B b p a l:=by
 refine⟨g,by simp[World.setCell,Array.getElem?_modify,d],?_,i⟩;refine c.kept (row:=S b) ⟨rfl,rfl,rfl,by simp_all,λk _ f=>jbS _ _ _ _ (λe=>f (by simp[e]))⟩ (Or.inr λe=>?_);have:=(c.lt b e).1
 omega
def Oj{w B b p v l}(h:Bld w B b p v l) :
  κ prog 228 #[b] w λe w'=>e=.returned (.tuple #[])/\Bld w' B b (.pointer (S ⟨b,0,O⟩)) v l/\Byb B b w w':=by
 rcases h.ptr with e|e
 .subst e;refine(Any.Builder_copyCheck_fresh ccL ccX b w (by rw[jaL h.blk];rfl) (by simp[World.shape?,h.blk];rfl) (Lib.frozen_of_heap h.blk 0)).mono ?_;rintro e w' ⟨rfl,rfl⟩;refine⟨rfl,⟨.inr rfl,by simp[World.setCell,Array.getElem?_modify,h.blk],?_,h.lt⟩,(Byb.refl B b w).set 0 _⟩;exact h.own.kept  ⟨rfl,rfl,rfl,by simp_all,λk _ a=>jbS _ _ _ _ (λe=>a (by simp[e]))⟩ (Or.inr h.ne)
 .subst e;refine(Any.Builder_copyCheck_used ccL ccX b w (by rw[jaL h.blk];rfl)).mono ?_;rintro e w' ⟨rfl,rfl⟩;exact⟨rfl,h,Byb.refl _ _ _⟩
def Ew:qN 185 5 (.int .u8 0) 1:=⟨underlying185,by kernel_rfl,rfl,by omega⟩
def LP{w B b p v l}(c)(h:Bld w B b p v l)(r:l.length<1000000)(u:B<=w) :
  κ prog 277 #[b,.int .u8 c.toNat] w λe w'=>e=.returned .nilIface/\(∃ n,Bld w' B b (.pointer (S ⟨b,0,O⟩)) n (l++[c]))/\Byb B b w w':=by
 go_enter func277,ntmps277;go_wp2_with fail;refine(Oj h).mono ?_;rintro e i ⟨rfl,d,j⟩;have x:=j.size;have c1:i.cell? ⟨b,1,O⟩=S v:=by rw[jaL d.blk];rfl
 go_wp2_with (at_builtin;refine app1 Ew (by rfl) _ _ (by rfl) B i v _ _ _ (by rfl) (by rfl) d.own rfl (by omega) (by omega) ?_)
 intro g cap q m a;have f  := (a.block b d.lt).trans d.blk;have t:q.cell? ⟨b,1,O⟩=S v:=by rw[jaL f];rfl
 have s  := Lib.frozen_of_heap f 1;go_wp2;go_ret;refine⟨rfl,⟨_,Bld.put f (.inr rfl) ?_ d.lt⟩,(j.trans ⟨a.os,a.tape,a.output,a.size,λk o _=>a.block k o⟩).set 1 _⟩;rw[jah,Lib.byteCells_append];exact m
def Nq(w t):∃ a cap,(convert 9 185 (.string t)).run prog w=.ok (.slice (S ⟨w,0,O⟩) t.size cap) a/\a.heap.size=w+1/\β w w a/\∀ j,j<t.size->a.cell? ⟨w,j,O⟩=S (.int .u8 ((t.data.toList.getD j 0).toNat:Int)) :=
 ⟨_,_,Lib.run_convert_string_bytes w 9 185 5 t underlying9 underlying185 underlying5,Lib.bytesWorld_size _ _ _,⟨rfl,rfl,rfl,by rw[Lib.bytesWorld_size];omega,λk b=>Lib.bytesWorld_at_old _ _ _ k b⟩,λj c=>Lib.bytesWorld_cell _ _ _ j (by simpa using c)⟩
def G5{i}(h:i<16):(⟨#[48,49,50,51,52,53,54,55,56,57,97,98,99,100,101,102]⟩:ByteArray)[i]'h=tJ.getD i 0 :=
 (show ∀ j:Fin 16,(⟨#[48,49,50,51,52,53,54,55,56,57,97,98,99,100,101,102]⟩:ByteArray)[j.val]'j.2=tJ.getD j.val 0 by decide +kernel) ⟨i,h⟩
def Ro(l w)(R:l.length<=100000) :
  κ prog 251 #[.string (bytesOf l)] w λe w'=>e=.returned (.string (bytesOf (hexL l)))/\β w w w':=by
 obtain⟨a,cap,z,r,g,A⟩:=Nq (w.alloc (Obj.cells #[Value.pointer O,Value.slice O 0 0] 229)) (bytesOf l);have G:(bytesOf l).size=l.length:=rfl;have s:(w.alloc (Obj.cells #[Value.pointer O,Value.slice O 0 0] 229)).heap.size=w.heap.size+1:=by simp
 rw[G,s] at z A;rw[s] at r g;have V:χ (Bld a (w.heap.size+2) w.heap.size (.pointer O) (.slice O 0 0) []):=⟨.inl rfl,(g.block w.heap.size (by omega)).trans (heap_alloc_new w _),jaa _ _ _ _,by omega⟩;have Q:χ (Byb (w.heap.size+2) w.heap.size a a):=Byb.refl _ _ _;have u:χ (β w w a):=((ja0 _ _).alloc (ja1 _) _).trans (g.mono (by omega))
 have L:χ (∀ j b,l[j]?=S b->a.cell? ⟨w.heap.size+1,j,O⟩=S (.int .u8 (b.toNat:Int))):=λj b y=>by
  have:=A j (List.getElem?_eq_some_iff.1 y).1
  rw[show(bytesOf l).data.toList=l by simp[bytesOf],List.getD,y] at this;exact this
 have x:=ah r;generalize P:l.length=n at R z;have f:=ah P;go_enter func251,ntmps251;go_wp2;go_loopw [9] (λi wr=>∃(k:Nat) (p v:υ),k<=n/\i=.int .i64 (k:Int)/\Bld wr (w.heap.size+2) w.heap.size p v (hexL (l.take k))/\Byb (w.heap.size+2) w.heap.size a wr) (λi _=>n-(intOf i).toNat)
 case atStart=>exact⟨0,_,_,by omega,rfl,V.out,Q.out⟩
 case round =>
  obtain⟨k,p,v,Y,rfl,hd,d⟩:=hrel;by_cases D:k<n
  .have I:(k:Int)<(n:Int):=by omega
   have W:(0:Int)<=(k:Int):=by omega
   obtain⟨b,B⟩:∃ b,l[k]?=S b:=⟨_,ja5 (by rw[f.out];exact D)⟩;have J  := (jab (d.block _ (by show w.heap.size+1<_;omega) (by show w.heap.size+1≠_;omega))).trans (L.out k b B);have m:=ah d;have N:=b.toNat_lt;obtain⟨c,q⟩:∃ c:Nat,b.toNat=c:=⟨_,rfl⟩;rw[q] at J N;go_wp2_with fail
   have Z:(hexL (l.take k)).length<=200000:=by
    have:=(λk=>GY (l.take k)) k
    rw[jay,f.out] at this;omega
   refine(LP _ hd (by omega) (by have:=m.out.size;have:=x.out;omega)).mono ?_;rintro e T ⟨rfl,⟨v2,C⟩,F⟩;have o:=ah (m.out.trans F);go_wp2_with fail;refine(LP _ C (by rw[jah];show _+1<_;omega) (by have:=o.out.size;have:=x.out;omega)).mono ?_;rintro e X ⟨rfl,⟨E,H⟩,K⟩;go_wp2;go_roundw
   case rel =>
    refine⟨k+1,.pointer (S ⟨w,0,O⟩),E,by omega,by go_num,?_,(o.out.trans K)⟩;have t:=H;rw[G5 (by omega),G5 (by omega),jaR] at t;rw[(GZ B)];unfold wo;rw[q];exact t
   case measure=>simp[intOf];omega
  .have I:¬(k:Int)<(n:Int):=by omega
   rw[(jaf (by rw[f.out];omega))] at hd;have M:=ah (u.out.trans (d.below (ja1 _) (by omega)));go_wp2_with fail;refine cEq (Tryz.Builder_String_any w.heap.size w.heap.size (hexL l) wr (hd.is (ja1 _)) (ja4 u.out.size d.size)) λT U=>?_
   go_wp2;go_ret;exact⟨rfl,(M.out.trans U)⟩
def mG(N k:Nat)(v z:υ):List Value:=List.replicate k v++List.replicate (N-k) z
def zx{N k}(v z)(h:k<=N):(mG N k v z).length=N:=by simp[mG];omega
def zy{N k m}(v z)(h:k+m<=N):splice (mG N k v z) k (List.replicate m v)=mG N (k+m) v z:=by
 unfold splice mG;rw[jam,List.take_left' (by simp),jbC,jbc (by simp),jaP,jam,List.drop_replicate,<- jaR,List.replicate_append_replicate];congr 2;omega
def KZ:(prog.info? 5).map (·.size)=S 1:=by kernel_rfl
def mk_any{t e z b}(I:qN t e z b)(k:z.cells = #[z])(N:Nat)(v w)(n:N<=1000000) :
  ∃ a,(Instr.makeSlice t (.int .i64 N) (.int .i64 N)).run prog w=.ok (.slice (S ⟨w,0,O⟩) N N) a/\a.heap[w.heap.size]?=S (.cells (mG N 0 v z).toArray e (0,0))/\β w w a:=by
 obtain⟨g,c,l,m⟩:=I;obtain⟨i,c,f,j,d⟩:=info_parts c;refine⟨_,run_make w t e i z g c f .i64 .i64 N N (by omega) (by omega) ?_ (by omega),?_,(ja0 _ _).alloc (ja1 _) _⟩
 .rw[d];have o:(b:Int)*N<=24*N:=Int.mul_le_mul_of_nonneg_right (by omega) (by omega);omega
 .rw[heap_alloc_new,k,j,jaY,Nat.mul_one];congr 2;apply Array.toList_inj.1;rw[toList_madeCells_one];simp[mG]
def O4{F t e b z}(v)(I:qN t e z b)(hz:z.cells = #[z])(C:(prog.info? e).map (·.size)=S 1)(B:v.oneCell'=true)(ho:F=279/\t=185/\e=5\/F=305/\t=34/\e=4)(g N:Nat)(w)(hN:N<=1000000)(o:w.cell? ⟨g,0,O⟩=S v) :
  κ prog F #[.slice (S ⟨g,0,O⟩) 1 1,.int .i64 N] w λE w'=>∃ G,E=.returned (.slice (S ⟨G,0,O⟩) N N)/\w<=G/\w'.heap[G]?=S (.cells (List.replicate N v).toArray e (0,0))/\β w w w':=by
 have R:χ (κ prog 285 #[.int .u64 1,.int .u64 N] w λe w'=>e=.returned (.tuple #[.int .u64 0,.int .u64 N])/\w'=w):=(Tryz.bits_Mul 1 N (by omega) (by omega) w).mono (by
  rintro e w' ⟨rfl,rfl⟩;rw[Nat.one_mul,Nat.div_eq_of_lt (by omega),jbY (by omega)]
  exact⟨rfl,rfl⟩)
 have k0:(0:Int)<=(N:Int):=by omega
 have k1:¬(N:Int)<0:=by omega
 have k2:¬(N:Int)>9223372036854775807:=by omega
 obtain⟨M,L⟩:∃ M,M=min 1 N:=⟨_,rfl⟩;obtain⟨J,aa,q,s⟩:=mk_any I hz N v w hN;have U:g<w.heap.size:=ja2 w _ o;obtain⟨Q,x⟩:∃ Q,χ (Q=e):=⟨_,rfl⟩;rw[<- x.out] at q;have a5:=ah q;have a0:=ah s;have T:χ (J.cell? ⟨g,0,O⟩=S v):=(jab (s.block g U)).trans o;clear q s o;rcases ho with⟨rfl,rfl,rfl⟩|⟨rfl,rfl,rfl⟩
 all_goals
  (first|go_enter func279,ntmps279|go_enter func305,ntmps305)
  go_wp2_with fail;refine R.out.mono ?_;rintro _ W ⟨rfl,rfl⟩;go_wp2_with (refine wpList_copy_splice (by rfl) _ _ _ _ (by rfl) _ I.1 C _ _ _ _ _ _ (by rfl) (by rfl) W.heap.size 0 _ Q a5.out (List.replicate M v) ?c1 ?c2 ?c3 ?c4 W.heap.size W a0.out (ja1 _) ?_)
  case c1=>rw[jam,L]
  case c2 =>
   intro h j u a;rw[jb6] at a;split at a
   .cases a;obtain rfl:j=0:=by omega
    exact T.out
   .cases a
  case c3=>rw[zx _ _ (by omega),jam];omega
  case c4=>intro u f;rw[jaO f];exact B
  intro w2 A D;rw[zy _ _ (by omega),jak] at A;have a2:=ah D;clear D;go_wp2;go_loopw [8] (λi wr=>∃ k:Nat,k<=N/\(k=0->N=0)/\i=.int .i64 (k:Int)/\wr.heap[W.heap.size]?=S (.cells (mG N k v z).toArray Q (0,0))/\β W W wr) (λi _=>N-(intOf i).toNat)
  case atStart=>exact⟨min 1 N,by omega,by omega,rfl,A.out,a2.out⟩
  case round =>
   obtain⟨k,Y,a8,rfl,d,l⟩:=hrel;by_cases a7:k<N
   .have K:(k:Int)<(N:Int):=by omega
    have q1:(0:Int)<=(k:Int):=by omega
    have q2:¬N=k:=by omega
    have r:=ah d;have n:=ah l;obtain⟨m,H⟩:∃ m,χ (m=min k (N-k)):=⟨_,rfl⟩;have a9:m<=k/\m<=N-k/\0<m:=by have:=H.out;omega
    obtain⟨X,c⟩:∃ X,χ (X=List.replicate m v):=⟨_,rfl⟩;have HL:χ (X.length=Nat.min k (N-k)):=by unfold χ;rw[c.out,jam,H.out]
    have y:χ (X.length=m):=by unfold χ;rw[c.out,jam]
    have a6:χ (∀ u∈X,u.oneCell'=true):=λu f=>by rw[c.out] at f;rw[jaO f];exact B
    have a1:χ (∀ j u,X[j]?=S u->wr.drew.cell? ((⟨W.heap.size,0,O⟩:Addr).add j)=S u):=λj u a=>by
     rw[c.out,jb6] at a;split at a
     .cases a;refine(jab (w:=wr) (w':=wr.drew) rfl).trans ?_;rw[show(⟨W.heap.size,0,O⟩:Addr).add j=⟨W.heap.size,j,O⟩ by (unfold Addr.add;split<;>simp_all),jaL d];simp only[mG,jaE];rw[jaD (by simp;omega),jb6,if_pos (by omega)]
     .cases a
    have a3:χ (k+X.length<=(mG N k v z).length):=by unfold χ;rw[zx _ _ Y,y.out];omega
    clear d l;go_wp2;go_region_law (refine step_copy_splice (P:=prog) (by rfl) (.tmp 41) (.tmp 44) _ _ (by rfl) _ I.1 C (S ⟨W.heap.size,k,O⟩) (S ⟨W,0,O⟩) (N-k) (N-k) k N (by simp[Act.eval,Act.put]) (by simp[Act.eval,Act.put]) W.heap.size k _ Q r.out X HL.out (λ_=>⟨rfl,⟨W.heap.size,0,O⟩,rfl,a1.out⟩) a3.out a6.out W.heap.size W n.out.drew (ja1 _) ?_;intro w4 V a4)
    rw[y.out];have Z:IntKind.i64.wrap ((k:Int)+(m:Int))=(k:Int)+(m:Int):=by rw[IntKind.wrap_i64];omega
    rw[Z];simp[Act.put];go_wp2;go_roundw
    case rel =>
     refine⟨k+m,by omega,by omega,by go_num,?_,a4⟩;have:=V.out
     rw[c.out,zy _ _ (by omega)] at this;exact this
    case measure=>simp[intOf];omega
   .obtain rfl:k=N:=by omega
    have K:¬(k:Int)<(k:Int):=by omega
    have r:=ah d;have n:=ah l;clear d l;go_wp2;go_ret;refine⟨W.heap.size,rfl,ja1 _,?_,n.out⟩;have:=r.out
    rw[x.out] at this
    simpa [mG] using this
def VO(g N c:Nat)(w)(a:N<=1000000)(b:w.cell? ⟨g,0,O⟩=S (.int .u8 c)) :
  κ prog 279 #[.slice (S ⟨g,0,O⟩) 1 1,.int .i64 N] w λe w'=>∃ G,e=.returned (.slice (S ⟨G,0,O⟩) N N)/\w<=G/\w'.heap[G]?=S (.cells (List.replicate N (.int .u8 c)).toArray 5 (0,0))/\β w w w' :=
 O4 _ Ew rfl KZ rfl (.inl ⟨rfl,rfl,rfl⟩) g N w a b
def KY:(prog.info? 4).map (·.size)=S 1:=by kernel_rfl
def VP(g N:Nat)(w)(a:N<=1000000)(b:w.cell? ⟨g,0,O⟩=S (.bool true)) :
  κ prog 305 #[.slice (S ⟨g,0,O⟩) 1 1,.int .i64 N] w λe w'=>∃ G,e=.returned (.slice (S ⟨G,0,O⟩) N N)/\w<=G/\w'.heap[G]?=S (.cells (List.replicate N (.bool true)).toArray 4 (0,0))/\β w w w' :=
 O4 _ Eu rfl KY rfl (.inr ⟨rfl,rfl,rfl⟩) g N w a b
def jV(f:Int)(T:List UInt8):Value:=.tuple #[.string (bytesOf (if f=0 then T else [])),erV f]
def XP{sp t:Nat}{C m Y y}(p q:Int)(w)(B:w.cell? ⟨sp,0,O⟩=S (t:υ))(h:aC w t Y y)(j:YOk y C m)(A : -1<=p/\p<=999999) :
  κ prog 216 #[sp,p,q] w λe w'=>e=.returned (jV (y.s.aT y.l p q) (hexT (y.s.fG y.l p q).data.toList))/\β w w w':=by
 have z:=j.c32;have a:=ah (ZU p q w h j (by omega) (by omega))
 have k:χ _:=λW=>by
  have c:y.s.fG y.l p q=bytesOf (y.s.fG y.l p q).data.toList:=by simp[bytesOf]
  have u:=Ro (y.s.fG y.l p q).data.toList W (by have:=j.GL p q;omega);rw[<- c] at u;exact u
 generalize y.s.fG y.l p q=G at a k |-;generalize y.s.aT y.l p q=f at a |-;have g:=ah (ja0 w.heap.size w);by_cases i:f=0
 .subst i;have n:χ _:=aJ;unfold jV;rw[n.out] at a |-;rw[if_pos rfl];by_cases c:G.data.toList=[]
  .have g1:(G.toList==[])=true:=by rw[Lib.toList_data,c];rfl
   have o:χ (hexT _=[45]):=if_pos c;rw[o.out];go_enter func216,ntmps216;go_wp2_with fail;refine cBl a.out g.out λW d=>?_
   go_wp2;go_ret2;exact⟨rfl,d.out⟩
  .have g1:(G.toList==[])=false:=by
    rw[Lib.toList_data]
    cases v:G.data.toList with
    | nil=>exact absurd v c
    | cons b r=>rfl
   have o:χ (hexT _=hexL _):=if_neg c;rw[o.out];generalize bytesOf _=T at k |-;go_enter func216,ntmps216;go_wp2_with fail;refine cBl a.out g.out λW d=>?_
   go_wp2_with fail;refine cBl (k.out W) d.out λD x=>?_
   go_wp2;go_ret2;exact⟨rfl,x.out⟩
 .have n:χ _:=bC i;unfold jV;rw[n.out] at a |-;rw[if_neg i];go_enter func216,ntmps216;go_wp2_with fail;refine cBl a.out g.out λW d=>?_
  go_wp2;go_ret2;exact⟨rfl,d.out⟩
def wz(b:Bool):List UInt8:=if b=true then [109,111,118,101,100] else [115,116,105,108,108]
def XQ{sp g:Nat}{C m Y y}(w)(n:w.cell? ⟨sp,0,O⟩=S (g:υ))(h:aC w g Y y)(l:YOk y C m)(k:S4.Tab w)(j:m+30<1000000000) :
  κ prog 218 #[sp] w λe w'=>e=.returned (jV y.bF (wz y.eP))/\ay g Y y y.step w w':=by
 have a:=ah (Z4 w h l k j);generalize y.bF=f at a |-;generalize y.eP=b at a |-;generalize y.step=z at a |-;by_cases d:f=0
 .subst d;have i:χ _:=aJ;unfold jV;rw[i.out] at a |-;rw[if_pos rfl]
  cases b with
  | true =>
   go_enter func218,ntmps218;go_wp2_with fail;refine cHd a.out λW c=>?_
   go_wp2;go_ret2;exact⟨rfl,c.out⟩
  | false =>
   go_enter func218,ntmps218;go_wp2_with fail;refine cHd a.out λW c=>?_
   go_wp2;go_ret2;exact⟨rfl,c.out⟩
 .have i:χ _:=bC d;unfold jV;rw[i.out] at a |-;rw[if_neg d];go_enter func218,ntmps218;go_wp2_with fail;refine cHd a.out λW c=>?_
  go_wp2;go_ret2;exact⟨rfl,c.out⟩
def VQ(w G N c)(h:w.heap[G]?=S (.cells (List.replicate N (Value.int .u8 c)).toArray 5 (0,0))) :
  (convert 185 9 (.slice (S ⟨G,0,O⟩) N N)).run prog w=.ok (.string (bytesOf (List.replicate N (UInt8.ofNat c)))) w:=by
 have b:=run_convert_bytes_arg  w 185 5 underlying185 underlying5 G 0 N N (List.replicate N (c:Int)) (by simp) (λi a=>by
  rw[jak,jaL h]
  simp[a]) 9 underlying9
 rw[b];congr 2;simp[bytesOf,strOfNums]
def XG{sp d:Nat}{C m Y y}(a b c:Int)(w)(x:w.cell? ⟨sp,0,O⟩=S (d:υ))(h:aC w d Y y)(u:YOk y C m)(I:m+7000<1000000000)(P : -1<=a/\a<=999999)(f : -1<=b/\b<=999999)(L : -1<=c/\c<=999999) :
  κ prog 253 #[sp,a,b,c] w λe w'=>e=.returned (erV (if 0<=b/\b<=128/\0<=c/\c<=255 then y.bQ a (bytesOf (gX b c)) else 1))/\ay d Y y (if 0<=b/\b<=128/\0<=c/\c<=255 then y.write a (bytesOf (gX b c)) else y) w w':=by
 have K:=u.c32;by_cases g:0<=b/\b<=128/\0<=c/\c<=255
 .rw[if_pos g,if_pos g];obtain⟨n,rfl⟩:∃ n:Nat,b=n:=⟨b.toNat,by omega⟩;obtain⟨k,rfl⟩:∃ k:Nat,c=k:=⟨c.toNat,by omega⟩;have r:¬(n:Int)<0:=by omega
  have q2:¬(n:Int)>128:=by omega
  have s:¬(k:Int)<0:=by omega
  have D:¬(k:Int)>255:=by omega
  have v:β w w (w.alloc (Obj.cells #[Value.int .u8 k] 5)):=(ja0 _ _).alloc (ja1 _) _
  have t:χ (κ prog 279 #[.slice (S ⟨w,0,O⟩) 1 1,((n:Int)*16:Int)] (w.alloc (Obj.cells #[Value.int .u8 k] 5)) λe w'=>∃ G,e=.returned (.slice (S ⟨G,0,O⟩) (n*16) (n*16))/\χ ((convert 185 9 (.slice (S ⟨G,0,O⟩) (n*16) (n*16))).run prog w'.drew=.ok (.string (bytesOf (gX n k))) w'.drew)/\χ (β w w w')):=by
   have A:=VO w.heap.size (n*16) k (w.alloc (Obj.cells #[Value.int .u8 k] 5)) (by omega) (by simp[World.cell?_alloc_mark]);rw[show((n*16:Nat):Int)=(n:Int)*16 by omega] at A;refine A.mono λe w' ⟨G,l,o,H,B⟩=>⟨G,l,?_,v.trans (B.mono v.size)⟩
   have:=VQ w'.drew G (n*16) k H
   unfold χ gX;rw[this,jaY,jaY,jbv]
  have j:χ (∀ W:ω,β w w W->κ prog 24 #[d,a,.string (bytesOf (gX n k))] W λe w'=>e=.returned (erV (y.bQ a (bytesOf (gX n k))))/\ay d Y y (y.write a _) w w'):=λW f =>
   (kad a _ W (h.below f) u (by omega) I (by omega) (by show(gX n k).length<=_;unfold gX;rw[jam];omega)).mono λe w' ⟨l,o⟩=>⟨l,ay.trans rfl (Moved.of_below f) o⟩
  generalize bytesOf (gX n k)=T at t j |-;generalize erV _=F at j |-;generalize y.write a T=z at j |-;go_enter func253,ntmps253;go_wp2_with fail;refine t.out.mono ?_;rintro e W ⟨G,rfl,E,q⟩;have Q:=E.out;have N  := (λW (f:β w w W)=>(jab (f.block sp (ja2 w _ x))).trans x) W q.out;go_wp2_with fail
  go_region_with (first
   | (go_at_call 24;refine cHd (j.out W.drew q.out.drew) λM J=>?_))
  all_goals
   go_wp2;go_ret;exact⟨rfl,J.out⟩
 .rw[if_neg g,if_neg g,eX];have i:=ah (ay.refl h);rcases Int.lt_or_le b 0 with r|r
  .go_enter func253,ntmps253;go_wp2;go_ret;exact⟨rfl,i.out⟩
  rcases Int.lt_or_le 128 b with q2|q2
  .go_enter func253,ntmps253;go_wp2;go_ret;exact⟨rfl,i.out⟩
  rcases Int.lt_or_le c 0 with s|s
  .go_enter func253,ntmps253;go_wp2;go_ret;exact⟨rfl,i.out⟩
  have D:255<c:=by omega
  go_enter func253,ntmps253;go_wp2;go_ret;exact⟨rfl,i.out⟩
def U8{α:Type}(a:Array α)(x y):(a.push x).setIfInBounds a.size y=a.push y:=by
 apply Array.ext_getElem?;intro i;rw[Array.getElem?_setIfInBounds,Array.getElem?_push,Array.getElem?_push];by_cases h:a.size=i
 .subst h;simp
 .have b:¬i=a.size:=λe=>h e.symm
  simp[h,b]
def lQ(w:ω)(f c l a b s v)(i:prog.underlying f=S (.map c l))(d:prog.underlying c=S .string)(j:Instr.findNow .string (.string s) a.toList 0=S O) :
  (Instr.mapUpdate f (.map (S w)) (.string s) v).run prog (w.alloc (.map a b))=.ok () (w.alloc (.map (a.push {key:=.string s,val:=v,born:=b}) (b+1))):=by
 have g:(w.alloc (.map a b)).heap[w.heap.size]?=S _:=heap_alloc_new w _;have k:(Instr.checkKey false _ c (.string s)).run _ (w.alloc (.map a b))=.ok () _:=MapKept.run_checkKey  d (by simp[MapKept.IsKey]) _ 9999;simp[Instr.mapUpdate,run_underlying i,jbe g,k,MapKept.run_findKey d j,MapKept.run_setObj_map _ g,Result.andThen];show({w with heap:=(w.heap.push _).setIfInBounds _ _}:ω)=_
 rw[U8];rfl
def NV:List (ByteArray × Int):=[(⟨#[114,101,97,100]⟩,2),(⟨#[102,105,108,108]⟩,3),(⟨#[119,105,112,101]⟩,2),(⟨#[102,108,117,115,104]⟩,0),(⟨#[98,108,97,110,107]⟩,1),(⟨#[115,110,97,112]⟩,1),(⟨#[99,104,97,105,110]⟩,0),(⟨#[115,116,97,114,116]⟩,4),(⟨#[115,116,101,112]⟩,0),(⟨#[112,97,117,115,101]⟩,0),(⟨#[114,101,115,117,109,101]⟩,0),(⟨#[99,97,110,99,101,108]⟩,0),(⟨#[112,105,118,111,116]⟩,0),(⟨#[116,105,99,107]⟩,1),(⟨#[115,116,97,116,117,115]⟩,0),(⟨#[102,97,105,108]⟩,2),(⟨#[99,114,97,115,104]⟩,1)]
def dD(n:Nat):Array MapEntry:=((NV.take n).zipIdx.map λx=>{key:=.string x.1.1,val:=.int .i64 x.1.2,born:=x.2}).toArray
def N9(w) :
  κ prog 84 #[] w λe w'=>e=.returned (.map (S w))/\w'=w.alloc (.map (dD 17) 17):=by
 have i:(Instr.makeMap 147 O).run prog w=.ok (.map (S w.heap.size)) (w.alloc (.map (dD 0) 0)):=rfl;have f:(Instr.mapUpdate 147 (.map (S w.heap.size)) (.string ⟨#[114,101,97,100]⟩) (.int .i64 2)).run prog (w.alloc (.map (dD 0) 0))=.ok () (w.alloc (.map (dD 1) 1)):=lQ w _ _ _ _ _ _ _ underlying147 underlying9 (by kernel_rfl);have q:(Instr.mapUpdate 147 (.map (S w.heap.size)) (.string ⟨#[102,105,108,108]⟩) (.int .i64 3)).run prog (w.alloc (.map (dD 1) 1))=.ok () (w.alloc (.map (dD 2) 2)):=lQ w _ _ _ _ _ _ _ underlying147 underlying9 (by kernel_rfl);have c:(Instr.mapUpdate 147 (.map (S w.heap.size)) (.string ⟨#[119,105,112,101]⟩) (.int .i64 2)).run prog (w.alloc (.map (dD 2) 2))=.ok () (w.alloc (.map (dD 3) 3)):=lQ w _ _ _ _ _ _ _ underlying147 underlying9 (by kernel_rfl);have g:(Instr.mapUpdate 147 (.map (S w.heap.size)) (.string ⟨#[102,108,117,115,104]⟩) (.int .i64 0)).run prog (w.alloc (.map (dD 3) 3))=.ok () (w.alloc (.map (dD 4) 4)):=lQ w _ _ _ _ _ _ _ underlying147 underlying9 (by kernel_rfl);have n:(Instr.mapUpdate 147 (.map (S w.heap.size)) (.string ⟨#[98,108,97,110,107]⟩) (.int .i64 1)).run prog (w.alloc (.map (dD 4) 4))=.ok () (w.alloc (.map (dD 5) 5)):=lQ w _ _ _ _ _ _ _ underlying147 underlying9 (by kernel_rfl);have s:(Instr.mapUpdate 147 (.map (S w.heap.size)) (.string ⟨#[115,110,97,112]⟩) (.int .i64 1)).run prog (w.alloc (.map (dD 5) 5))=.ok () (w.alloc (.map (dD 6) 6)):=lQ w _ _ _ _ _ _ _ underlying147 underlying9 (by kernel_rfl)
 have j:(Instr.mapUpdate 147 (.map (S w.heap.size)) (.string ⟨#[99,104,97,105,110]⟩) (.int .i64 0)).run prog (w.alloc (.map (dD 6) 6))=.ok () (w.alloc (.map (dD 7) 7)):=lQ w _ _ _ _ _ _ _ underlying147 underlying9 (by kernel_rfl);have r:(Instr.mapUpdate 147 (.map (S w.heap.size)) (.string ⟨#[115,116,97,114,116]⟩) (.int .i64 4)).run prog (w.alloc (.map (dD 7) 7))=.ok () (w.alloc (.map (dD 8) 8)):=lQ w _ _ _ _ _ _ _ underlying147 underlying9 (by kernel_rfl);have b:(Instr.mapUpdate 147 (.map (S w.heap.size)) (.string ⟨#[115,116,101,112]⟩) (.int .i64 0)).run prog (w.alloc (.map (dD 8) 8))=.ok () (w.alloc (.map (dD 9) 9)):=lQ w _ _ _ _ _ _ _ underlying147 underlying9 (by kernel_rfl);have k:(Instr.mapUpdate 147 (.map (S w.heap.size)) (.string ⟨#[112,97,117,115,101]⟩) (.int .i64 0)).run prog (w.alloc (.map (dD 9) 9))=.ok () (w.alloc (.map (dD 10) 10)):=lQ w _ _ _ _ _ _ _ underlying147 underlying9 (by kernel_rfl);have l:(Instr.mapUpdate 147 (.map (S w.heap.size)) (.string ⟨#[114,101,115,117,109,101]⟩) (.int .i64 0)).run prog (w.alloc (.map (dD 10) 10))=.ok () (w.alloc (.map (dD 11) 11)):=lQ w _ _ _ _ _ _ _ underlying147 underlying9 (by kernel_rfl);have t:(Instr.mapUpdate 147 (.map (S w.heap.size)) (.string _) _).run prog (w.alloc (.map (dD 11) 11))=.ok () (w.alloc (.map (dD 12) 12)):=lQ w _ _ _ _ _ _ _ underlying147 underlying9 (by kernel_rfl)
 have m:(Instr.mapUpdate 147 _ _ _).run prog (w.alloc (.map (dD 12) 12))=.ok () (w.alloc (.map (dD 13) 13)):=lQ w _ _ _ _ _ _ _ underlying147 underlying9 (by kernel_rfl);have a:(Instr.mapUpdate 147 _ _ _).run prog (w.alloc (.map (dD 13) 13))=.ok () (w.alloc (.map (dD 14) 14)):=lQ w _ _ _ _ _ _ _ underlying147 underlying9 (by kernel_rfl);have d:(Instr.mapUpdate 147 _ _ _).run prog (w.alloc (.map (dD 14) 14))=.ok () (w.alloc (.map (dD 15) 15)):=lQ w _ _ _ _ _ _ _ underlying147 underlying9 (by kernel_rfl);have o:(Instr.mapUpdate 147 _ _ _).run prog (w.alloc (.map (dD 15) 15))=.ok () (w.alloc (.map (dD 16) 16)):=lQ w _ _ _ _ _ _ _ underlying147 underlying9 (by kernel_rfl);have u:(Instr.mapUpdate 147 _ _ _).run prog (w.alloc (.map (dD 16) 16))=.ok () (w.alloc (.map (dD 17) 17)):=lQ w _ _ _ _ _ _ _ underlying147 underlying9 (by kernel_rfl);generalize dD=E at *
 go_enter func84,ntmps84;go_wp2;go_ret;exact⟨rfl,rfl⟩
def Sm(p f n k):dX p (List.replicate n false) f k=dX p [] f k:=by
 induction k with
 | zero=>rfl
 | succ k a=>simp[dX,a,List.getD,jb6];try (split<;>simp_all)
def Ox(d n):jG d (List.replicate n false)=jG d []:=by unfold jG;rw[Sm]
def SY(y:YV){n}(b:n≠1):y.left (aY y n)=y.left []:=by
 funext i
 have a:(n==1)=false:=by simp[b]
 unfold YV.left aY;rw[a];by_cases h:i<5
 .simp[List.getD,h,Ox]
 .simp_all
def Ov(y:YV){n}(a:n≠1):y.crash (aY y n)=y.crash []/\y.iR (aY y n)=y.iR []:=by
 unfold YV.crash YV.iR;rw[SY y a];simp_all
def MV{sp:Nat}{S:ω->Prop}{x}(i:ByteArray)(f w)(k:f≠0)(r:0<=f/\f<=12)
  (a:κ prog 158 #[sp,i] w λe w'=>e=.returned (.tuple #[.string ⟨#[]⟩,x,erV f])/\S w') (o:∀ W,S W->Vars W) (q:∀ W g,S W->β W W g->S g) :
  κ prog 85 #[sp,i] w λe w'=>e=.returned (.string (bytesOf (iL f)))/\S w':=by
 rw[bC k] at a;have l:=ah q;go_enter func85,ntmps85;go_wp2_with fail;refine cHd a λW c=>?_
 have d:=ah (yL f W (o W c.out) (by omega) (by omega));have t:∀ w:ω,(Instr.typeAssert (.iface 96 (.int .i64 f)) 27 96 true).run prog w=.ok (.tuple #[f,true]) w:=λ_=>by kernel_rfl
 have b:χ (bytesOf _++bytesOf _=bytesOf (iL f)):=qo _ _;have s:=jbb f (by omega) (by omega);have j:¬9223372036854775807<6+(bytesOf (Lib.itoa f)).size:=by have:(bytesOf (Lib.itoa f)).size=(Lib.itoa f).length:=rfl;omega
 generalize bytesOf _=L at d b j;go_wp2_with fail;refine cEq d.out λn m=>?_
 go_wp2;go_ret;exact⟨by rw[<- b.out];rfl,(l.out W n c.out m)⟩
def MW{sp:Nat}{S:υ->ω->Prop}{R:ω->Prop}{u:ByteArray}(k:ByteArray)(f T w)(C:0<=f/\f<=12)
  (s:κ prog 158 #[sp,k] w λe w'=>∃ x,e=.returned (.tuple #[u,x,.nilIface])/\S x w')
  (a:∀ x W,S x W->κ prog 159 #[sp,u,x] W λe w'=>e=.returned (jV f T)/\R w') (y:∀ W,R W->Vars W) (z:∀ W m,R W->β W W m->R m) :
  κ prog 85 #[sp,k] w λe w'=>e=.returned (.string (bytesOf (if f=0 then T else iL f)))/\R w':=by
 have n:=ah s;by_cases b:f=0
 .subst b;rw[if_pos rfl];unfold jV at a;rw[aJ,if_pos rfl] at a;have d:=ah a;have v:∀ w:ω,(Instr.typeAssert .nilIface 27 96 true).run prog w=.ok (.tuple #[(0:Int),false]) w:=λ_=>by kernel_rfl
  generalize bytesOf T=B at d |-;go_enter func85,ntmps85;go_wp2_with fail;refine n.out.mono ?_;rintro e W ⟨x,rfl,g⟩;go_wp2_with fail;refine cHd (d.out x W g) λi c=>?_
  go_wp2;go_ret;exact⟨rfl,c.out⟩
 .rw[if_neg b];unfold jV at a;rw[bC b,if_neg b] at a;have d:=ah a;have t:=ah z;have v:∀ w:ω,(Instr.typeAssert (.iface 96 (.int .i64 f)) 27 96 true).run prog w=.ok (.tuple #[f,true]) w:=λ_=>by kernel_rfl
  have j:χ (bytesOf _++bytesOf _=bytesOf (iL f)):=qo _ _;have l:=ah λW (q:R W)=>yL f W (y W q) (by omega) (by omega)
  have D:=jbb f (by omega) (by omega);have o:¬9223372036854775807<6+(bytesOf (Lib.itoa f)).size:=by have:(bytesOf (Lib.itoa f)).size=(Lib.itoa f).length:=rfl;omega
  generalize bytesOf _=L at l j o;go_enter func85,ntmps85;go_wp2_with fail;refine n.out.mono ?_;rintro e W ⟨x,rfl,g⟩;go_wp2_with fail;refine cHd (d.out x W g) λi c=>?_
  go_wp2_with fail;refine cEq (l.out i c.out) λr A=>?_
  go_wp2;go_ret;exact⟨by rw[<- j.out];rfl,(t.out i r c.out A)⟩
def XO(l w)(f:Vars w)(k:l.length<=1000) :
  κ prog 214 #[.string (bytesOf l),.string ⟨#[32]⟩] w λe w'=>e=.returned (.slice (S ⟨w,0,O⟩) (aG l).length (aG l).length)/\w'=w.alloc (.cells (fU (aG l)).toArray 9):=by
 obtain⟨m,d⟩:=f.max;have i:=Tryz.strings_Split (bytesOf l) ⟨#[32]⟩ m w (by show l.length<_;omega) d (by decide)
 have g:(Lib.splitB ⟨#[32]⟩ 0 (Lib.countB (bytesOf l) ⟨#[32]⟩) (bytesOf l)).map Value.string=fU (aG l):=by
  have c:=Lib.splitB_data ⟨#[32]⟩ 0 (Lib.countB (bytesOf l) ⟨#[32]⟩) (bytesOf l);have hd:(bytesOf l).data.toList=l:=by simp[bytesOf]
  rw[show(⟨#[32]⟩:ByteArray).data.toList=[32] from rfl,hd,KO _ l (by rw[<- Lib.count_one];show _=Lib.count _ [32];rw[hd])] at c;rw[<- c];unfold fU;rw[List.map_map];exact jb4 λb _=>by simp[bytesOf]
 have j:Lib.countB (bytesOf l) ⟨#[32]⟩+1=(aG l).length:=by
  have a:=congrArg List.length g;unfold fU at a;rw[jaX,jaX] at a;exact(Lib.splitB_all ⟨#[32]⟩ (by decide) 0 _ (bytesOf l) rfl).symm.trans a
 simp_all
def bytes_beq(l x):(bytesOf l==bytesOf x)=(l==x):=by
 show(l.toArray==x.toArray)=(l==x)
 simp
def yB:List (List UInt8 × Int)->Nat->List MapEntry
 | [],_=>[]
 | x::r,i=>{key:=.string (bytesOf x.1),val:=.int .i64 x.2,born:=i}::yB r (i+1)
theorem Gw:∀(c:List (List UInt8 × Int)) (i j:Nat) (l:List UInt8),∃ k,Instr.findNow .string (.string (bytesOf l)) (yB c i) j=S ((c.lookup l).map λn=>(k,.int .i64 n))
 | [],i,j,l=>⟨0,rfl⟩
 | x::r,i,j,l=>by
  have a:Instr.sameNow .string (.string (bytesOf l)) (.string (bytesOf x.1))=S (l==x.1):=by
   show S (bytesOf l==bytesOf x.1)=_
   rw[bytes_beq]
  unfold yB Instr.findNow;rw[List.lookup_cons];rw[show Instr.sameNow .string (.string (bytesOf l)) ({key:=.string (bytesOf x.1),val:=.int .i64 x.2,born:=i}:MapEntry).key=S (l==x.1) from a]
  cases l==x.1 with
  | true=>exact⟨j,rfl⟩
  | false=>exact Gw r (i+1) (j+1) l
def Tt(l f w)(d:w.heap[f]?=S (.map (dD 17) 17)) :
  (Instr.lookup 147 (.map (S f)) (.string (bytesOf l)) true).run prog w=.ok (.tuple #[(cmds.lookup l).getD 0,.bool (cmds.lookup l).isSome]) w:=by
 obtain⟨k,b⟩:=Gw cmds 0 0 l;have i:(dD 17).toList=yB cmds 0:=by kernel_rfl
 rw[<- i] at b;have j:(zeroValue 3).run prog w=.ok (.int .i64 0) w:=by kernel_rfl
 have g:(Instr.checkKey (dD 17).isEmpty _ 9 (.string (bytesOf l))).run _ w=.ok () w:=MapKept.run_checkKey  underlying9 (by simp[MapKept.IsKey]) _ 9999;have a:=MapKept.run_findKey (w:=w)  underlying9 b;unfold Instr.lookup
 cases c:cmds.lookup l with
 | none =>
  rw[c] at a;simp[run_underlying _,jbe d,g,a,j,Result.andThen]
 | some n =>
  rw[c] at a;simp[run_underlying _,jbe d,g,a,Result.andThen]
structure SS(w0:ω)(K:Nat->Prop)(sp mp yp:Nat)(Y:Yh)(y:YV)(w:ω):Prop where
 aZ:aC w yp Y y
 blk:w.heap[sp]?=S (.cells #[yp,.map (S mp)] 150 (0,0))
 map:w.heap[mp]?=S (.map (dD 17) 17)
 ns:¬fpY yp Y y sp
 nm:¬fpY yp Y y mp
 far:∀ k,fpY yp Y y k->¬K k
 sfar:¬K sp
 kl:∀ k,K k->k<w0.heap.size
 k8:∀ k,k<8->K k
 kept:Kept (λk=>¬K k) w0 w
 var:Vars w
 jk:∀ g o,Y.jb.a=S ⟨g,o,O⟩->¬K g/\g<w.heap.size
def SE(a:ω)(K:Nat->Prop)(sp c:Nat)(y:YV)(w:ω):Prop:=∃(b:Nat) (Y:Yh),SS a K sp c b Y y w
def SS.cell0{b w K sp c a Y y}(h:SS b K sp c a Y y w):w.cell? ⟨sp,0,O⟩=S (a:υ):=by rw[cell_of_row _ _ _ _ _ _ h.blk];rfl
def SS.cell1{b w K sp a c Y y}(h:SS b K sp a c Y y w):w.cell? ⟨sp,1,O⟩=S (.map (S a)):=by rw[cell_of_row _ _ _ _ _ _ h.blk];rfl
theorem SS.below{b w w' K sp d c Y y}(h:SS b K sp d c Y y w)(a:β w w w'):SS b K sp d c Y y w' :=
 ⟨h.aZ.below a,(a.block _ (lt_of_some h.blk)).trans h.blk,(a.block _ (lt_of_some h.map)).trans h.map,h.ns,h.nm,h.far,h.sfar,h.kl,h.k8,h.kept.trans (Below.kept a),h.var.below a,λg o e=>⟨(h.jk g o e).1,ja8 (h.jk g o e).2 a.size⟩⟩
def SS.did{i w w' K sp n d Y y y'}(h:SS i K sp n d Y y w)(hd:qQ d Y y y' w w'):∃ c,SS i K sp n d c y' w':=by
 obtain⟨c,s,r,a⟩:=hd;have l:=lt_of_some h.blk;have m:=lt_of_some h.map;refine⟨c,r,(a.block l h.ns).trans h.blk,(a.block m h.nm).trans h.map,a.out l h.ns,a.out m h.nm,λk e b=>?_,h.sfar,h.kl,h.k8,h.kept.trans (a.kept.mono λk _ e=>h.far k e),h.var.keep a.size λg j=>a.block (ja8 j h.var.size) λe=>h.far g e (h.k8 g j),λg o e=>?_⟩
 .rcases a.new k e with q|q
  .exact h.far k q b
  .have:=h.kl k b
   have:=h.kept.size
   omega
 .rcases s with f|f
  .rw[f] at e;exact⟨(h.jk g o e).1,ja8 (h.jk g o e).2 a.size⟩
  .obtain⟨t,q2⟩:=f g o e;refine⟨λb=>?_,q2⟩;have:=h.kl g b
   have:=h.kept.size
   omega
theorem SE.below{a w w' K sp b y}(h:SE a K sp b y w)(d:β w w w'):SE a K sp b y w':=by
 obtain⟨c,Y,h⟩:=h;exact⟨c,Y,h.below d⟩
def SE.vars{a w K sp b y}(h:SE a K sp b y w):Vars w:=by
 obtain⟨c,Y,h⟩:=h;exact h.var
def SS.base{i w K K' sp c b Y y}(h:SS i K sp c b Y y w)(n:∀ k,K k->K' k)(f:∀ k,K' k->k<w.heap.size)(d:∀ k,fpY b Y y k->¬K' k)(j:¬K' sp)(m:∀ g o,Y.jb.a=S ⟨g,o,O⟩->¬K' g):SS w K' sp c b Y y w :=
 ⟨h.aZ,h.blk,h.map,h.ns,h.nm,d,j,f,λk l=>n k (h.k8 k l),Kept.refl _ _,h.var,λg o e=>⟨m g o e,(h.jk g o e).2⟩⟩
def SS.back{c w w' K K' sp f d Y y}(l:Kept (λk=>¬K k) c w)(b:∀ k,K k->K' k)(j:∀ k,K k->k<c.heap.size)(i:∀ k,k<8->K k)(h:SS w K' sp f d Y y w'):SS c K sp f d Y y w' :=
 ⟨h.aZ,h.blk,h.map,h.ns,h.nm,λk e a=>h.far k e (b k a),λe=>h.sfar (b sp e),j,i,l.trans (h.kept.mono λk _ e a=>e (b k a)),h.var,λg o e=>⟨λa=>(h.jk g o e).1 (b g a),(h.jk g o e).2⟩⟩
def SS.store{s w w' K sp m v c Y i y y'}(h:SS s K sp m v Y y w)(j:β w w w')(x:aC w' c i y')(f:∀ b,fpY c i y' b->w<=b)(q:∀ g o,i.jb.a=S ⟨g,o,O⟩->w<=g/\g<w') :
  SS s K sp m c i y' (w'.setCell ⟨sp,0,O⟩ c):=by
 have z:=lt_of_some h.blk;have A:=lt_of_some h.map;have n:∀ k,k≠sp->(w'.setCell ⟨sp,0,O⟩ c).heap[k]?=w'.heap[k]?:=λk d=>heap_setCell_other w' _ k _ d
 have l:Kept (λk=>¬K k) w' (w'.setCell ⟨sp,0,O⟩ c):=Kept.setCell (Kept.refl _ _) (.inl h.sfar) _;have r:=(h.below j).var;refine⟨x.keep (λk e=>n k λu=>?_) (λg o e _=>n g λu=>?_),?_,?_,λe=>?_,λe=>?_,λk e d=>?_,h.sfar,h.kl,h.k8,(h.kept.trans (Below.kept j)).trans l,r.keep l.size λg t=>l.block g (ja8 t r.size) λe=>e (h.k8 g t),λg o e=>⟨λd=>?_,ja8 (q g o e).2 l.size⟩⟩
 .have:=f k e;omega
 .have:=(q g o e).1;omega
 .rw[heap_setCell_same w' sp 0 _ _ _ (h.below j).blk];rfl
 .rw[n m (λe=>by have:=h.map;rw[e,h.blk] at this;cases this)];exact(h.below j).map
 .have:=f sp e;omega
 .have:=f m e;omega
 .have:=h.kl k d
  have:=h.kept.size
  have:=f k e
  omega
 .have:=h.kl g d
  have:=h.kept.size
  have:=(q g o e).1
  omega
def oJ{sp d b c w K Y y n a l F g v}(h:SS c K sp d b Y y w)(m:Beside w a l (fpY b Y y))
  (s:∀ W,SS c K sp d b Y y W->κ prog F g W λe w'=>e=.returned v/\qQ b Y y n W w') :
  ∀ W,β w w W->κ prog F g W λe w'=>e=.returned v/\(Nums w' a l/\w'.cell? ⟨sp,0,O⟩=S (b:υ))/\SE c K sp d n w':=λW j=>by
 have k:=h.below j;refine(s W k).mono λe w' ⟨r,f⟩=>?_
 obtain⟨o,i⟩:=k.did f;obtain⟨_,_,_,q⟩:=f;exact⟨r,⟨(m.num.below j).moved q m.ap,i.cell0⟩,b,o,i⟩
def qP(l:List UInt8)(w:ω)(e:Ending)(w':ω):Prop:=β w w w'/\match lM l with
 | none=>e=.returned (.tuple #[.string ⟨#[]⟩,.slice O 0 0,.iface 96 (.int .i64 11)])
 | some (u,b)=>∃(a:Option Addr) (cap:Nat),e=.returned (.tuple #[.string (bytesOf u),.slice a b.length cap,.nilIface])/\w'.ownsRow w.heap.size 3 1 (.slice a b.length cap) b.length (pO b)
theorem Ed:∀l c,∀ x∈jM c l,x.length<=c.length+l.length
 | [],c,x,h=>by
  unfold jM at h;simp at h;subst h;simp
 | b::r,c,x,h=>by
  unfold jM at h;split at h
  .rcases List.mem_cons.1 h with e|e
   .subst e;simp
   .have:=Ed r [] x e;simp at this |-;omega
  .have:=Ed r (c++[b]) x h;simp at this |-;omega
def Zl(l x)(h:x∈aG l):x.length<=l.length:=by
 have:=Ed l [] x h
 simp_all
def Tv{x}{n:Nat}(h:jD x=n):cmds.lookup x=S (n:Int):=by
 unfold jD at h
 cases a:cmds.lookup x with
 | none=>simp_all
 | some k=>simp_all
def parse_any{sp P}(l)(w:ω)(hc:w.cell? ⟨sp,1,O⟩=some (.map (some P)))(hm:w.heap[P]?=some (.map (dD 17) 17))(G:Vars w)(hl:l.length<=1000) :
  κ prog 158 #[sp,.string (bytesOf l)] w λe w'=>qP l w e w':=by
 obtain⟨S,hS,a1⟩:∃ S,χ (S=bytesOf l)/\S.size=l.length:=⟨_,rfl,rfl⟩
 have a2:χ (lM l=O->∀ W:ω,β w w W->qP l w (.returned (.tuple #[.string ⟨#[]⟩,.slice O 0 0,.iface 96 (.int .i64 11)])) W):=λo W f=>by
  unfold qP;rw[o];exact⟨f,rfl⟩
 by_cases a0:l.length<=200
 rotate_left
 .have o:lM l=none:=by unfold lM;rw[if_neg λq=>a0 q.1]
  have g2:200<(l.length:Int):=by omega
  rw[<- hS.out];have D:=ah (a2.out o);generalize l.length=len at a1 g2;go_enter func158,ntmps158;go_wp2;go_ret3;exact D.out _ (ja0 _ _)
 have a7:=uw l;obtain⟨n,o⟩:∃ n,(aG l).length=n+1:=⟨(aG l).length-1,by have:=List.length_pos_iff.2 a7;omega⟩;have aM:n<=200:=by have:=xH l [];have e:(jM [] l).length=n+1:=o;omega
 have HH:=ah (Ef l)
 have R:χ (κ prog 214 #[.string (bytesOf l),.string ⟨#[32]⟩] w λe d=>∃ g:Nat,e=.returned (.slice (some ⟨g,0,O⟩) (n+1) (n+1))/\(∀ W:ω,β d d W->∀ k x,(aG l)[k]?=some x->W.cell? ⟨g,k,O⟩=some (.string (bytesOf x)))/\β w w d):=by
  refine(XO l w G hl).mono ?_;rintro e d ⟨rfl,rfl⟩;refine⟨w.heap.size,by rw[o],λW f k x I=>?_,(ja0 _ _).alloc (ja1 _) _⟩;have C  := (f.block _ (by simp)).trans (heap_alloc_new w _);rw[jaL C];simp only[jaE,fU,jaz,I];rfl
 rw[<- hS.out] at R |-;have HV:=ah (λW (f:β w w W)=>G.below f);have a5:=ah λW (f:β w w W)=>(f.cell (p:=⟨sp,1,O⟩) (ja2 w _ hc)).trans hc
 have a3:=ah λx W (f:β w w W)=>Tt x P W ((f.block P (lt_of_some hm)).trans hm)
 have K:χ (∀(g:Nat) (W:ω),(∀ k z,(aG l)[k]?=some z->W.cell? ⟨g,k,O⟩=some (.string (bytesOf z)))->W.cell? ⟨g,0,O⟩=some (.string (bytesOf ((aG l).headD [])))):=λg W hh=>hh 0 _ HH.out
 have g2:¬200<(l.length:Int):=by omega
 by_cases A:jD ((aG l).headD [])=((aG l).length:Int)-1
 rotate_left
 .have ai:lM l=none:=by unfold lM;rw[if_neg λq=>A q.2]
  have D:=ah (a2.out ai);rw[o] at A
  have J:(cmds.lookup ((aG l).headD [])).isSome=false\/(cmds.lookup ((aG l).headD [])).isSome=true/\(((n:Int)+1 != 1+(cmds.lookup ((aG l).headD [])).getD 0)=true /\ -1000<=(cmds.lookup ((aG l).headD [])).getD 0/\(cmds.lookup ((aG l).headD [])).getD 0<=1000):=by
   cases I:cmds.lookup ((aG l).headD []) with
   | none=>exact .inl rfl
   | some k =>
    right
    have e:jD ((aG l).headD [])=k:=by unfold jD;rw[I];rfl
    have hr:k∈cmds.map (·.2):=by
     obtain⟨a,b,e2⟩:∃ a b,cmds=a++((aG l).headD [],k)::b:=by
      obtain⟨a,b,h1,_⟩:=List.lookup_eq_some_iff.1 I;exact⟨a,b,h1⟩
     rw[e2];simp
    have a8 : -1000<=k/\k<=1000:=by
     have:∀ x∈cmds.map (·.2),-1000<=x/\x<=1000:=by decide
     exact this k hr
    refine⟨rfl,?_,a8⟩;rw[e] at A;simp only[Option.getD,bne_iff_ne,ne_eq];omega
  have r:=ah (a3.out ((aG l).headD []));generalize bytesOf ((aG l).headD [])=X at r K;generalize (cmds.lookup ((aG l).headD [])).getD 0=c at r J;generalize (cmds.lookup ((aG l).headD [])).isSome=b at r J;generalize l.length=len at a1 g2;rcases J with rfl|⟨rfl,J,aL,b0⟩
  all_goals
   go_enter func158,ntmps158;go_wp2_with fail;refine R.out.mono ?_;rintro e d ⟨g,rfl,M,t⟩;have Y:=K.out g d.drew (M d.drew (ja0 _ _).drew);have c1:=a5.out d.drew t.drew;have ae:=r.out d.drew t.drew;have s:=ah t.drew;go_wp2;go_region;go_wp2;go_ret3;exact D.out _ s.out
 .have al:=Tv (n:=n) (by rw[A,o];omega)
  have V:χ (∀(m:List Int) (a:Option Addr) (cap:Nat) (W:ω),(aG l).tail.mapM dK=some m->β w w W->W.ownsRow w.heap.size 3 1 (.slice a m.length cap) m.length (pO m)->qP l w (.returned (.tuple #[.string (bytesOf ((aG l).headD [])),.slice a m.length cap,.nilIface])) W):=λm a cap W E f F=>by
   have aa:lM l=some ((aG l).headD [],m):=by unfold lM;rw[if_pos ⟨a0,A⟩,E];rfl
   unfold qP;rw[aa];exact⟨f,a,cap,rfl,F⟩
  have D:χ (∀ x∈(aG l).tail,dK x=O->∀ W:ω,β w w W->qP l w (.returned (.tuple #[.string ⟨#[]⟩,.slice O 0 0,.iface 96 (.int .i64 11)])) W):=λx U B=>a2.out (by unfold lM;rw[if_pos ⟨a0,A⟩,mapM_none _ x U B];rfl)
  have HX:χ (∀ j,j<n->∃ x,(aG l)[1+j]?=some x/\x.length<=1000/\x∈(aG l).tail/\(aG l).tail.take (j+1)=(aG l).tail.take j++[x]):=λj h2=>by
   have T:1+j<(aG l).length:=by omega
   have ht:(aG l).tail[j]?=some (aG l)[1+j]:=by
    rw[List.getElem?_tail,Nat.add_comm j 1,ja5 T]
   refine⟨(aG l)[1+j],ja5 T,?_,jbL ht,?_⟩
   .exact ja4 (Zl l _ (jad T)) hl
   .rw[jaC,ht];rfl
  have HT:χ ((aG l).tail.take n=(aG l).tail):=jaf (by simp[o]);have r:=ah (a3.out ((aG l).headD []));rw[al] at r;have HG:=ah (λ(x:List UInt8) (W:ω) (f:β w w W) (U:x.length<=1000)=>Uo x W (HV.out W f) U);generalize bytesOf ((aG l).headD [])=X at r K V;generalize l.length=len at a1 g2;go_enter func158,ntmps158;go_wp2_with fail;refine R.out.mono ?_;rintro e d ⟨g,rfl,M,t⟩;have Y:=K.out g d.drew (M d.drew (ja0 _ _).drew);have c1:=a5.out d.drew t.drew;have ae:=r.out d.drew t.drew;have aE:=ah λW (f:β d.drew.heap.size d.drew W)=>M W ((ja0 _ _).drew.trans f)
  have s:=ah t.drew;by_cases aD:n=0
  .subst aD;have k3:(1 != 1+(0:Int))=false:=by decide
   go_wp2;go_region;go_wp2;go_loopw [10,12,13,14,45] (λu _ _ _ i wr=>i=.int .i64 0/\u=.slice O 0 0/\wr=d.drew) (λ_ _ _ _ i _=>0)
   case atStart=>exact⟨rfl,rfl,rfl⟩
   case round =>
    obtain⟨rfl,rfl,rfl⟩:=hrel;have Z:=ah (V.out [] O 0 d.drew (by rw[<- HT.out];rfl) s.out (jaa _ _ _ _));go_wp2;go_ret3;exact Z.out
  .have k3:((n:Int)+1 != 1+(n:Int))=false:=by simp;omega
   go_wp2;go_region;go_wp2;go_loopw [10,12,13,14,45] (λu _ _ _ i wr=>∃(j:Nat) (m:List Int) (a:Option Addr) (H:Nat),j<=n/\i=.int .i64 (j:Int)/\u=.slice a m.length H/\m.length<=j/\((aG l).tail.take j).mapM dK=some m/\wr.ownsRow d.drew.heap.size 3 1 (.slice a m.length H) m.length (pO m)/\β d.drew.heap.size d.drew wr) (λ_ _ _ _ i _=>n-(intOf i).toNat)
   case atStart=>exact⟨0,[],O,0,by omega,rfl,rfl,by simp,rfl,jaa _ _ _ _,ja0 _ _⟩
   case round =>
    obtain⟨j,m,a,H,hj,rfl,rfl,aR,E,F,f⟩:=hrel;by_cases an:j<n
    .obtain⟨x,ax,ag,a6,am⟩:=HX.out j an;have k0:(j:Int)<(n:Int):=by omega
     have k1:(0:Int)<=(j:Int):=by omega
     have cx:=aE.out wr f (1+j) x ax;have Q:χ (β w w wr):=s.out.trans (f.mono s.out.size);have y:=ah (HG.out x wr Q.out ag);have av:=ah f;have HO:=ah F;have ad:=ah f.size
     cases B:dK x with
     | none =>
      rw[B] at y;have ap:=ah (D.out x a6 B);generalize bytesOf x=XX at cx y;go_wp2_with fail;refine y.out.mono ?_;rintro e N ⟨v,rfl,_,C⟩;have L:χ (β w w N):=Q.out.trans (C.mono Q.out.size);go_wp2;go_ret3;exact ap.out _ L.out
     | some q =>
      rw[B] at y
      have ao:χ (((aG l).tail.take (j+1)).mapM dK=some (m++[q])):=by
       unfold χ;rw[am,Iy _ x m E,B];rfl
      generalize bytesOf x=XX at cx y;go_wp2_with fail;refine y.out.mono ?_;rintro e N ⟨v,rfl,G,C⟩;obtain rfl:=G q rfl;have L:χ (β d.drew.heap.size d.drew N):=av.out.trans (C.mono ad.out);have ar:=ah (own_below HO.out C);have aq:=ah L.out.size;go_wp2_with (at_builtin;refine app1 Aj (by rfl) _ _ (by rfl) d.drew.heap.size N _ _ _ _ (by rfl) (by rfl) ar.out rfl (by omega) aq.out λg3 ac w3 a4 af=>?_)
      rw[<- Hl] at a4;have aw:=ah a4;have a9:=ah (L.out.trans (af.mono (ja1 _)));go_wp2;go_roundw
      case rel=>exact⟨j+1,m++[v],some ⟨g3,0,O⟩,ac,by omega,by go_num,by simp,by simp;omega,ao.out,by simpa using aw.out,a9.out⟩
      case measure=>simp[intOf];try omega
    .have ab:j=n:=by omega
     have k0:¬(j:Int)<(n:Int):=by omega
     rw[ab,HT.out] at E;have az:=s.out.trans (f.mono s.out.size);have Z:=ah (V.out m a H wr E az (ownsRow_base F s.out.size));have c2:wr.cell? ⟨g,0,O⟩=some (X:υ):=by rw[f.cell (ja2 d.drew _ Y)];exact Y
     go_wp2;go_ret3;exact Z.out
def XM{sp K:Nat}{C m Y y}(w)(hs:w.cell? ⟨sp,0,O⟩=S (K:υ))(h:aC w K Y y)(R:YOk y C m)(hm:m<=400000) :
  κ prog 280 #[sp] w λe w'=>∃(a:Option Addr) (r:Nat) (d:List υ),e=.returned (.slice a 5 r)/\d.length=5/\Keeps w' w a r d (aY y 1)/\β w w w':=by
 have af:=ah (ZF w h)
 have ab:χ (∀ k,k<5->(y.dev k).pend.length<=400000):=λk f=>by
  have h1:=(R.dev k).ok.few;have V:=(R.dev k).wr;omega
 have a0:=ah (λ(k:Nat) (f:k<5)=>Hr (y:=y) (n:=1) f);have a3:χ ((aY y 1).take 5=aY y 1):=jaf (by simp[aY])
 have HR:χ (∀(P:Nat) (W:ω),P<=400000->κ prog 305 #[.slice (S ⟨W,0,O⟩) 1 1,(P:Int)] (W.alloc (Obj.cells #[Value.bool true] 4)) λe w'=>∃ G,e=.returned (.slice (S ⟨G,0,O⟩) P P)/\Bools w' (S ⟨G,0,O⟩) P (List.replicate P true)/\W.heap.size<=G/\G<w'.heap.size/\β W W w'):=λP W q=>by
  have D:β W W (W.alloc (Obj.cells #[Value.bool true] 4)):=(ja0 _ _).alloc (ja1 _) _;refine(VP W.heap.size P (W.alloc (Obj.cells #[Value.bool true] 4)) (by omega) (by simp[World.cell?_alloc_mark])).mono ?_;rintro e w' ⟨G,rfl,hG,M,c⟩;refine⟨G,rfl,⟨by simp,λj hj=>⟨G,0,rfl,?_⟩⟩,ja4 D.size hG,lt_of_some M,D.trans (c.mono D.size)⟩;rw[jak,jaL M];simp[hj]
 go_enter func280,ntmps280;go_wp2_with fail;refine af.out.mono ?_;rintro e b ⟨a,cap,I,th,rfl,H,_,ae⟩;obtain⟨g,rfl,ag,q,_⟩:=H.ptrs (by omega)
 have a8:χ (∀(k:Nat) (W:ω),k<5->β b b W->W.cell? ⟨g,k,O⟩=S ((I k).p:υ)):=λk W f c=>by
  have x:=q k f;rw[jak] at x;exact(c.cell (p:=⟨g,k,O⟩) (ja2 b _ x)).trans x
 have U:=ah λk W (f:k<5) (c:β b b W)=>U1 W ((H.below c).dev k f)
 have v:=ah ae;go_wp2;go_loopw [3,7,18] (λu _ i ws=>∃(k:Nat) (a:Option Addr) (r:Nat) (d:List υ),k<=5/\i=.int .i64 (k:Int)/\u=.slice a k r/\d.length=k/\Keeps ws b.heap.size a r d ((aY y 1).take k)/\β b b ws) (λ_ _ i _=>5-(intOf i).toNat)
 case atStart=>exact⟨0,O,0,[],by omega,rfl,rfl,rfl,⟨jaa _ _ _ _,rfl,λi hi=>by cases hi⟩,ja0 _ _⟩
 case round =>
  obtain⟨k,a,Q,d,f,rfl,rfl,L,z,c⟩:=hrel;by_cases s:k<5
  .have k0:(k:Int)<5:=by omega
   have k1:(0:Int)<=(k:Int):=by omega
   have cx:=a8.out k wr s c;have q:=ab.out k s;have A:=ah λW (a9:β wr wr W)=>U.out k W s (c.trans (a9.mono c.size))
   have t:=ah (a0.out k s);have l:=ah z;have B:=ah c;have a5:χ (β wr wr (wr.alloc (Obj.cells #[Value.bool true] 4))):=(ja0 _ _).alloc (ja1 _) _;generalize (y.dev k).pend.length=P at A q t;generalize (I k).p=dp at A cx;go_wp2_with fail;refine cSt (A.out _ a5.out) ?_;go_wp2_with fail;refine(HR.out P wr q).mono ?_;rintro e F ⟨G,rfl,X,ai,ad,E⟩;subst L
   have aa:∀ g o,(S ⟨G,0,O⟩:Option Addr)=S ⟨g,o,O⟩->g<F.heap.size/\(Value.slice a d.length Q).ownBlock≠S g:=λg o e=>by
    cases e;refine⟨ad,λe2=>?_⟩;have V:=(l.out.own.lt _ e2).2;omega
   have N:=ah (l.out.below E);have ac:χ (b.heap.size<=F):=ja4 B.out.size E.size;go_wp2_with (at_builtin;refine uH Et (by rfl) _ _ (by rfl) b.heap.size F _ _ _ _ (by rfl) (by rfl) N.out.own rfl (by omega) ac.out λg3 a1 w3 a6 J a7 a2=>?_)
   have T:=N.out.snoc X (by unfold maxLen;omega) aa a6 a7 a2 J.size;have e1:((1:Int)==1)=true:=rfl;rw[e1] at t;rw[<- t.out] at T;have a4:χ (β b b w3):=(B.out.trans (E.mono B.out.size)).trans (J.mono (ja1 _));go_wp2;go_roundw
   case rel=>exact⟨d.length+1,S ⟨g3,0,O⟩,a1,_,by omega,by go_num,rfl,by simp,T,a4.out⟩
   case measure=>simp[intOf];try omega
  .have Z:k=5:=by omega
   subst Z;have k0:¬((5:Nat):Int)<5:=by omega
   rw[a3.out] at z;have l:=ah z;go_wp2;go_ret;exact⟨a,Q,rfl,d,L,⟨ownsRow_base l.out.own v.out.size,l.out.len,l.out.at_⟩,v.out.trans (c.mono v.out.size)⟩
def Sj(w):pG w O 0 []:=⟨rfl,λi a=>by omega⟩
def Xq{z K sp E v C m Y y}(n:Int)(w)(h:SS z K sp E v Y y w)(J:YOk y C m)(hm:m<=400000) :
  κ prog 254 #[sp,n] w λe w'=>e=.returned (erV (y.iR (aY y n)))/\SE z K sp E (if y.iR (aY y n)=0 then y.crash (aY y n) else y) w':=by
 obtain⟨F,x⟩:∃ F,y.iR (aY y n)=F:=⟨_,rfl⟩;obtain⟨Z,A⟩:∃ Z,y.crash (aY y n)=Z:=⟨_,rfl⟩;have Q:=h.cell0;have L:=ah λW (c:β w w W)=>(h.below c).cell0
 have H:χ (∀(l:List (List Bool)) (k:Option Addr) (N D:Nat) (W:ω),β w w W->pG W k N l->y.iR l=F->y.crash l=Z->κ prog 12 #[v,.slice k N D] W λe w'=>(F≠0->e=.returned (.tuple #[.pointer O,erV F])/\SE z K sp E y w')/\(F=0->∃ j:Nat,e=.returned (.tuple #[j,.nilIface])/\w'.cell? ⟨sp,0,O⟩=S (v:υ)/\w'.frozen? ⟨sp,0,O⟩=false/\SE z K sp E Z (w'.setCell ⟨sp,0,O⟩ j))):=λl k N D W c f e1 e2=>by
  have t:=h.below c;refine(ZC W t.aZ J f).mono ?_;rintro e w' ⟨B,I⟩;have e3:jJ (y.left l) (jG y.top [])=F:=e1;have e4:jT (y.left l) (jG y.top [])=Z:=e2;rw[e3,e4] at I;rcases I with⟨P,rfl⟩|⟨b,j,Yq,rfl,U,hf,hj⟩
  .exact⟨λ_=>⟨rfl,v,Y,t.below B⟩,λq=>absurd q P⟩
  .refine⟨λq=>absurd b q,λ_=>⟨j,rfl,(t.below B).cell0,frozen_of_row _ _ _ _ _ (t.below B).blk,j,Yq,?_⟩⟩;exact t.store B U hf hj
 by_cases r:n=1
 .subst r;have M:χ (κ prog 280 #[sp] w λe w'=>∃(a:Option Addr) (i:Nat),e=.returned (.slice a 5 i)/\pG w' a 5 (aY y 1)/\β w w w'):=(XM w Q h.aZ J hm).mono λe w' ⟨a,i,vs,r,R,h3,V⟩=>⟨a,i,r,by have:=h3.Ht;rwa [R] at this,V⟩
  rw[x,A];have s:=ah (λ(k:Option Addr) (D:Nat) (W:ω) (c:β w w W) (f:pG W k 5 (aY y 1))=>H.out (aY y 1) k 5 D W c f x A);by_cases b:F=0
  .rw[if_pos b,b,aJ];go_enter func254,ntmps254;go_wp2_with fail;refine M.out.mono ?_;rintro e o ⟨a,i,rfl,f,c⟩;have c0:=L.out o c;go_wp2_with fail;refine(s.out a i o c f).mono ?_;rintro e G ⟨_,g⟩;obtain⟨j,rfl,c2,T,d⟩:=g b;go_wp2;go_ret;exact⟨rfl,d⟩
  .rw[if_neg b];have u:χ (erV F=.iface 96 (.int .i64 F)):=bC b;rw[u.out];go_enter func254,ntmps254;go_wp2_with fail;refine M.out.mono ?_;rintro e o ⟨a,i,rfl,f,c⟩;have c0:=L.out o c;go_wp2_with fail;refine(s.out a i o c f).mono ?_;rintro e G ⟨g,_⟩;obtain⟨rfl,d⟩:=g b;rw[u.out];go_wp2;go_ret;exact⟨rfl,d⟩
 .obtain⟨X,q2⟩:=Ov y r;rw[x,A];have s:=ah (H.out [] O 0 0 w (ja0 _ _) (Sj w) (q2.symm.trans x) (X.symm.trans A));have g1:(n==1)=false:=by simpa using r
  by_cases b:F=0
  .rw[if_pos b,b,aJ];go_enter func254,ntmps254;go_wp2_with fail;refine s.out.mono ?_;rintro e G ⟨_,g⟩;obtain⟨j,rfl,c2,T,d⟩:=g b;go_wp2;go_ret;exact⟨rfl,d⟩
  .rw[if_neg b];have u:χ (erV F=.iface 96 (.int .i64 F)):=bC b;rw[u.out];go_enter func254,ntmps254;go_wp2_with fail;refine s.out.mono ?_;rintro e G ⟨g,_⟩;obtain⟨rfl,d⟩:=g b;rw[u.out];go_wp2;go_ret;exact⟨rfl,d⟩
def Bg{sp g b cap F d K Y y l a c f A}(w)(h:SS d K sp g b Y y w)(i:Beside w a [] (fpY b Y y))(m:c=[112,97,117,115,101]/\F=57/\A = #[.pointer (some ⟨b,0,O⟩),.bool true]\/c=[114,101,115,117,109,101]/\F=57/\A = #[.pointer (some ⟨b,0,O⟩),.bool false]\/c=[99,97,110,99,101,108]/\F=55/\A = #[.pointer (some ⟨b,0,O⟩)]\/c=[112,105,118,111,116]/\F=53/\A = #[.pointer (some ⟨b,0,O⟩)])
  (k:∀ W,SS d K sp g b Y y W->κ prog F A W λe w'=>e=.returned (erV f)/\qQ b Y y l W w') :
  κ prog 219 #[sp,.string (bytesOf c),.slice a 0 cap] w λe w'=>e=.returned (erV f)/\SE d K sp g l w':=by
 have q:=ah (oJ h i k);have n:=dV c;generalize bytesOf c=S at n |-;have s:=h.cell0;clear h i k;rcases m with⟨rfl,rfl,rfl⟩|⟨rfl,rfl,rfl⟩|⟨rfl,rfl,rfl⟩|⟨rfl,rfl,rfl⟩
 all_goals
  go_enter func219,ntmps219;go_wp2_with fail;refine(q.out _ (ja0 _ _)).mono ?_;rintro e r ⟨rfl,_,j⟩;have o:=ah j;clear j;go_wp2;go_ret;exact⟨rfl,o.out⟩
def J5{sp k b cap F j K Y y s a c f}(p w)(h:SS j K sp k b Y y w)(d:Beside w a [p] (fpY b Y y))(z:c=[98,108,97,110,107]/\F=47\/c=[115,110,97,112]/\F=49\/c=[116,105,99,107]/\F=59)
  (n:∀ W,SS j K sp k b Y y W->κ prog F #[b,p] W λe w'=>e=.returned (erV f)/\qQ b Y y s W w') :
  κ prog 219 #[sp,.string (bytesOf c),.slice a 1 cap] w λe w'=>e=.returned (erV f)/\SE j K sp k s w':=by
 have v:=ah (oJ h d n);have C:=dV c;generalize bytesOf c=S at C |-;obtain⟨g,o,rfl,_⟩:=d.num 0 (by simp)
 have t:χ (∀ W:ω,(Nums W (some ⟨g,o,O⟩) [p]/\W.cell? ⟨sp,0,O⟩=some (b:υ))->W.cell? ⟨sp,0,O⟩=some (b:υ)/\W.cell? ⟨g,o,O⟩=some (p:υ)):=λW l=>by
  have B:∀ i (r:i<1),W.cell? ⟨g,o+i,O⟩=some (.int .i64 ([p].getD i 0)):=λi r=>by
   obtain⟨G,I,e,A⟩:=l.1 i r;cases e;exact A
  exact⟨l.2,B 0 (by omega)⟩
 have u:=t.out w ⟨d.num,h.cell0⟩;clear h d n;rcases z with⟨rfl,rfl⟩|⟨rfl,rfl⟩|⟨rfl,rfl⟩
 all_goals
  go_enter func219,ntmps219;have x:(w.drew.cell? ⟨sp,0,O⟩=some (b:υ)/\w.drew.cell? ⟨g,o,O⟩=some (p:υ)):=u;go_wp2;go_region_held3 (λW=>W.cell? ⟨sp,0,O⟩=some (b:υ)/\W.cell? ⟨g,o,O⟩=some (p:υ)) (first|(exact x)|assumption) (first|((first|go_at_call 47|go_at_call 49|go_at_call 59);refine(v.out _ (ja0 _ _).drew).mono ?_;rintro e E ⟨rfl,q,m⟩;have H:=t.out _ q;have D:=ah m;clear q m))
  go_wp2;go_ret;exact⟨rfl,D.out⟩
def Og{sp k b cap F j K Y y u a c f}(p q w)(h:SS j K sp k b Y y w)(d:Beside w a [p,q] (fpY b Y y))(B:c=[119,105,112,101]/\F=42\/c=[102,97,105,108]/\F=61)
  (n:∀ W,SS j K sp k b Y y W->κ prog F #[b,p,q] W λe w'=>e=.returned (erV f)/\qQ b Y y u W w') :
  κ prog 219 #[sp,.string (bytesOf c),.slice a 2 cap] w λe w'=>e=.returned (erV f)/\SE j K sp k u w':=by
 have z:=ah (oJ h d n);have D:=dV c;generalize bytesOf c=S at D |-;obtain⟨g,o,rfl,_⟩:=d.num 0 (by simp)
 have v:χ (∀ W:ω,(Nums W (some ⟨g,o,O⟩) [p,q]/\W.cell? ⟨sp,0,O⟩=some (b:υ))->W.cell? ⟨sp,0,O⟩=some (b:υ)/\W.cell? ⟨g,o,O⟩=some (p:υ)/\W.cell? ⟨g,o+1,O⟩=some (q:υ)):=λW l=>by
  have s:∀ i (t:i<2),W.cell? ⟨g,o+i,O⟩=some (.int .i64 ([p,q].getD i 0)):=λi t=>by
   obtain⟨H,J,e,C⟩:=l.1 i t;cases e;exact C
  exact⟨l.2,s 0 (by omega),s 1 (by omega)⟩
 have x:=v.out w ⟨d.num,h.cell0⟩;clear h d n;rcases B with⟨rfl,rfl⟩|⟨rfl,rfl⟩
 all_goals
  go_enter func219,ntmps219;have A:(w.drew.cell? ⟨sp,0,O⟩=some (b:υ)/\w.drew.cell? ⟨g,o,O⟩=some (p:υ)/\w.drew.cell? ⟨g,o+1,O⟩=some (q:υ)):=x;go_wp2;go_region_held3 (λW=>W.cell? ⟨sp,0,O⟩=some (b:υ)/\W.cell? ⟨g,o,O⟩=some (p:υ)/\W.cell? ⟨g,o+1,O⟩=some (q:υ)) (first|(exact A)|assumption) (first|((first|go_at_call 61|go_at_call 42);refine(z.out _ (ja0 _ _).drew).mono ?_;rintro e G ⟨rfl,r,m⟩;have I:=v.out _ r;have E:=ah m;clear r m))
  go_wp2;go_ret;exact⟨rfl,E.out⟩
def O5{sp l b cap F j K Y y v a d f}(p q r w)(h:SS j K sp l b Y y w)(c:Beside w a [p,q,r] (fpY b Y y))(C:d=[102,105,108,108]/\F=253)
  (s:∀ W,SS j K sp l b Y y W->κ prog F #[sp,p,q,r] W λe w'=>e=.returned (erV f)/\qQ b Y y v W w') :
  κ prog 219 #[sp,.string (bytesOf d),.slice a 3 cap] w λe w'=>e=.returned (erV f)/\SE j K sp l v w':=by
 have A:=ah (oJ h c s);have E:=dV d;generalize bytesOf d=S at E |-;obtain⟨g,o,rfl,_⟩:=c.num 0 (by simp)
 have x:χ (∀ W:ω,(Nums W (some ⟨g,o,O⟩) [p,q,r]/\W.cell? ⟨sp,0,O⟩=some (b:υ))->W.cell? ⟨sp,0,O⟩=some (b:υ)/\W.cell? ⟨g,o,O⟩=some (p:υ)/\W.cell? ⟨g,o+1,O⟩=some (q:υ)/\W.cell? ⟨g,o+2,O⟩=some (r:υ)):=λW m=>by
  have k:∀ i (u:i<3),W.cell? ⟨g,o+i,O⟩=some (.int .i64 ([p,q,r].getD i 0)):=λi u=>by
   obtain⟨I,L,e,D⟩:=m.1 i u;cases e;exact D
  exact⟨m.2,k 0 (by omega),k 1 (by omega),k 2 (by omega)⟩
 have z:=x.out w ⟨c.num,h.cell0⟩;clear h c s;obtain⟨rfl,rfl⟩:=C;go_enter func219,ntmps219;have B:(w.drew.cell? ⟨sp,0,O⟩=some (b:υ)/\w.drew.cell? ⟨g,o,O⟩=some (p:υ)/\w.drew.cell? ⟨g,o+1,O⟩=some (q:υ)/\w.drew.cell? ⟨g,o+2,O⟩=some (r:υ)):=z;go_wp2;go_region_held3 (λW=>W.cell? ⟨sp,0,O⟩=some (b:υ)/\W.cell? ⟨g,o,O⟩=some (p:υ)/\W.cell? ⟨g,o+1,O⟩=some (q:υ)/\W.cell? ⟨g,o+2,O⟩=some (r:υ)) (first|(exact B)|assumption) (first|(go_at_call 253;refine(A.out _ (ja0 _ _).drew).mono ?_;rintro e H ⟨rfl,t,n⟩;have J:=x.out _ t;have G:=ah n;clear t n))
 go_wp2;go_ret;exact⟨rfl,G.out⟩
def O7{sp l b cap F k K Y y x a j f}(p q r s w)(h:SS k K sp l b Y y w)(d:Beside w a [p,q,r,s] (fpY b Y y))(D:j=[115,116,97,114,116]/\F=51)
  (t:∀ W,SS k K sp l b Y y W->κ prog F #[b,p,q,r,s] W λe w'=>e=.returned (erV f)/\qQ b Y y x W w') :
  κ prog 219 #[sp,.string (bytesOf j),.slice a 4 cap] w λe w'=>e=.returned (erV f)/\SE k K sp l x w':=by
 have B:=ah (oJ h d t);have G:=dV j;generalize bytesOf j=S at G |-;obtain⟨g,o,rfl,_⟩:=d.num 0 (by simp)
 have z:χ (∀ W:ω,(Nums W (some ⟨g,o,O⟩) [p,q,r,s]/\W.cell? ⟨sp,0,O⟩=some (b:υ))->W.cell? ⟨sp,0,O⟩=some (b:υ)/\W.cell? ⟨g,o,O⟩=some (p:υ)/\W.cell? ⟨g,o+1,O⟩=some (q:υ)/\W.cell? ⟨g,o+2,O⟩=some (r:υ)/\W.cell? ⟨g,o+3,O⟩=some (s:υ)):=λW m=>by
  have c:∀ i (v:i<4),W.cell? ⟨g,o+i,O⟩=some (.int .i64 ([p,q,r,s].getD i 0)):=λi v=>by
   obtain⟨J,M,e,E⟩:=m.1 i v;cases e;exact E
  exact⟨m.2,c 0 (by omega),c 1 (by omega),c 2 (by omega),c 3 (by omega)⟩
 have A:=z.out w ⟨d.num,h.cell0⟩;clear h d t;obtain⟨rfl,rfl⟩:=D;go_enter func219,ntmps219;have C:(w.drew.cell? ⟨sp,0,O⟩=some (b:υ)/\w.drew.cell? ⟨g,o,O⟩=some (p:υ)/\w.drew.cell? ⟨g,o+1,O⟩=some (q:υ)/\w.drew.cell? ⟨g,o+2,O⟩=some (r:υ)/\w.drew.cell? ⟨g,o+3,O⟩=some (s:υ)):=A;go_wp2;go_region_held3 (λW=>W.cell? ⟨sp,0,O⟩=some (b:υ)/\W.cell? ⟨g,o,O⟩=some (p:υ)/\W.cell? ⟨g,o+1,O⟩=some (q:υ)/\W.cell? ⟨g,o+2,O⟩=some (r:υ)/\W.cell? ⟨g,o+3,O⟩=some (s:υ)) (first|(exact C)|assumption) (first|(go_at_call 51;refine(B.out _ (ja0 _ _).drew).mono ?_;rintro e I ⟨rfl,u,n⟩;have L:=z.out _ u;have H:=ah n;clear u n))
 go_wp2;go_ret;exact⟨rfl,H.out⟩
def O9{sp i b C m cap c K Y y a}(w)(h:SS c K sp i b Y y w)(k:YOk y C m)(f:Beside w a [] (fpY b Y y)) :
  κ prog 219 #[sp,.string (bytesOf [102,108,117,115,104]),.slice a 0 cap] w λe w'=>e=.returned (erV 0)/\SE c K sp i y.flush w':=by
 rw[aJ];have j:=ah (oJ h f λW n=>(ZJ W n.aZ k).mono λe w' ⟨r,l⟩=>⟨r,l.out⟩);have o:=dV [102,108,117,115,104];obtain⟨S,d⟩:∃ S,χ (S=bytesOf [102,108,117,115,104]):=⟨_,rfl⟩;rw[<- d.out] at o |-;have t:=h.cell0;generalize y.flush=u at j |-;clear h k f d;go_enter func219,ntmps219;go_wp2_with fail;refine(j.out _ (ja0 _ _)).mono ?_;rintro e s ⟨rfl,_,g⟩;have q:=ah g;clear g;go_wp2;go_ret;exact⟨rfl,q.out⟩
def O6{sp i c C m cap d K Y y a}(p w)(h:SS d K sp i c Y y w)(j:YOk y C m)(n:m<=400000)(l:Beside w a [p] (fpY c Y y)) :
  κ prog 219 #[sp,.string (bytesOf [99,114,97,115,104]),.slice a 1 cap] w λe w'=>e=.returned (erV (y.iR (aY y p)))/\SE d K sp i (if y.iR (aY y p)=0 then y.crash (aY y p) else y) w':=by
 have b:=ah (Xq p w h j n);have q:=dV [99,114,97,115,104];obtain⟨S,k⟩:∃ S,χ (S=bytesOf [99,114,97,115,104]):=⟨_,rfl⟩;rw[<- k.out] at q |-;obtain⟨g,o,rfl,s⟩:=l.num 0 (by simp);have c1:w.cell? ⟨g,o,O⟩=some _:=s;generalize (if y.iR _=0 then y.crash _ else y)=t at b |-;generalize y.iR _=f at b |-;go_enter func219,ntmps219;go_wp2_with fail;refine cHd b.out λW r=>?_
 go_wp2;go_ret;exact⟨rfl,r.out⟩
def NW{a}{n:List Int}(d:jD a=n.length):a∈cmds.map (·.1):=by
 apply jag;intro c
 have:jD a = -1:=by
  unfold jD;rw[List.lookup_eq_none_iff.2 λp b=>by simpa using λe:a=p.1=>c (e▸jbP b)];rfl
 omega
def O3{sp v l C m cap u K Y y a}(j n w)(h:SS u K sp v l Y y w)(g:YOk y C m)(B:m<=400000)(i:Beside w a n (fpY l Y y))
  (k:∀ x∈n,-1<=x/\x<=999999) (f:jD j=n.length) (d:j≠[114,101,97,100]) (c:j≠[99,104,97,105,110]) (A:j≠[115,116,101,112]) (z:j≠[115,116,97,116,117,115]) :
  κ prog 219 #[sp,.string (bytesOf j),.slice a n.length cap] w λe w'=>e=.returned (erV (doV y j (n.getD 0 0) (n.getD 1 0) (n.getD 2 0) (n.getD 3 0)).1)/\SE u K sp v (doV y j (n.getD 0 0) (n.getD 1 0) (n.getD 2 0) (n.getD 3 0)).2 w':=by
 have o:=NW f;have D:=g.c32;have t:m+7000<1000000000:=by omega
 simp only[cmds,List.map,jb7,jb1,or_false] at o;rcases o with rfl|rfl|rfl|rfl|rfl|rfl|rfl|rfl|rfl|rfl|rfl|rfl|rfl|rfl|rfl|rfl|rfl
 .exact absurd rfl d
 .obtain⟨p,q,r,rfl⟩:=Ib f;exact O5 (cap:=cap) p q r w h i ⟨rfl,rfl⟩ λW b=>(XG p q r W b.cell0 b.aZ g t (k p (by simp)) (k q (by simp)) (k r (by simp))).mono λe w' ⟨d,c⟩=>⟨d,c.out⟩
 .obtain⟨p,q,rfl⟩:=len2 f;have F:=k p (by simp);exact Og (cap:=cap) p q w h i (.inl ⟨rfl,rfl⟩) λW b=>(kac p q W b.aZ g (by omega) t (by omega)).mono λe w' ⟨d,c⟩=>⟨d,c.out⟩
 .obtain rfl:=len0 f;exact O9 (cap:=cap) w h g i
 .obtain⟨p,rfl⟩:=len1 f;exact J5 (cap:=cap) p w h i (.inl ⟨rfl,rfl⟩) λW b=>(Zy p W b.aZ g (by omega) (by omega)).mono λe w' ⟨d,c⟩=>⟨d,c.out⟩
 .obtain⟨p,rfl⟩:=len1 f;exact J5 (cap:=cap) p w h i (.inr (.inl ⟨rfl,rfl⟩)) λW b=>(ZW p W b.aZ g (by omega) (by omega)).mono λe w' ⟨d,c⟩=>⟨d,c.out⟩
 .exact absurd rfl c
 .obtain⟨p,q,r,s,rfl⟩:=Ic f;exact O7 (cap:=cap) p q r s w h i ⟨rfl,rfl⟩ λW b=>ZX p q r s W b.aZ g (by omega)
 .exact absurd rfl A
 .obtain rfl:=len0 f;exact Bg (cap:=cap) w h i (.inl ⟨rfl,rfl,rfl⟩) λW b=>(Me true W b.aZ g).mono λe w' ⟨d,c⟩=>⟨d,c.out⟩
 .obtain rfl:=len0 f;exact Bg (cap:=cap) w h i (.inr (.inl ⟨rfl,rfl,rfl⟩)) λW b=>(Me false W b.aZ g).mono λe w' ⟨d,c⟩=>⟨d,c.out⟩
 .obtain rfl:=len0 f;exact Bg (cap:=cap) w h i (.inr (.inr (.inl ⟨rfl,rfl,rfl⟩))) λW b=>(Zz W b.aZ g (by omega)).mono λe w' ⟨d,c⟩=>⟨d,c.out⟩
 .obtain rfl:=len0 f;exact Bg (cap:=cap) w h i (.inr (.inr (.inr ⟨rfl,rfl,rfl⟩))) λW b=>(ZT W b.aZ g (by omega)).mono λe w' ⟨d,c⟩=>⟨d,c.out⟩
 .obtain⟨p,rfl⟩:=len1 f;exact J5 (cap:=cap) p w h i (.inr (.inr ⟨rfl,rfl⟩)) λW b=>(Z7 p W b.aZ g).mono λe w' ⟨d,c⟩=>⟨d,c.out⟩
 .exact absurd rfl z
 .obtain⟨p,q,rfl⟩:=len2 f;have E:=k q (by simp);exact Og (cap:=cap) p q w h i (.inr ⟨rfl,rfl⟩) λW b=>(ZH p q W b.aZ (by omega)).mono λe w' ⟨d,c⟩=>⟨d,c.out⟩
 .obtain⟨p,rfl⟩:=len1 f;exact O6 (cap:=cap) p w h g B i
def F5(y f a b c d):Few (doV y f a b c d).1:=by
 unfold doV;by_cases r:f=[102,105,108,108]
 .rw[if_pos r];split
  .exact Gs _ _ _
  .exact gV rfl
 rw[if_neg r];by_cases n:f=[119,105,112,101]
 .rw[if_pos n];exact Gq _ _ _
 rw[if_neg n];by_cases l:f=[102,108,117,115,104]
 .rw[if_pos l];exact gV rfl
 rw[if_neg l];by_cases s:f=[98,108,97,110,107]
 .rw[if_pos s];exact Bf _ _ _
 rw[if_neg s];by_cases m:f=[115,110,97,112]
 .rw[if_pos m];exact Gl _ _
 rw[if_neg m];by_cases q:f=[115,116,97,114,116]
 .rw[if_pos q];exact Gm _ _
 rw[if_neg q];by_cases g:f=[112,97,117,115,101]
 .rw[if_pos g];exact yF _ _
 rw[if_neg g];by_cases o:f=[114,101,115,117,109,101]
 .rw[if_pos o];exact yF _ _
 rw[if_neg o];by_cases j:f=[99,97,110,99,101,108]
 .rw[if_pos j];exact FZ _
 rw[if_neg j];by_cases i:f=[112,105,118,111,116]
 .rw[if_pos i];exact Gg _
 rw[if_neg i];by_cases k:f=[116,105,99,107]
 .rw[if_pos k];exact Gp _
 rw[if_neg k];by_cases t:f=[102,97,105,108]
 .rw[if_pos t];exact FY _ _
 rw[if_neg t];exact Gf _ _
def sD(y:YV)(w:List UInt8)(a b c d:Int):Int :=
 if w=[114,101,97,100] then y.s.aT y.l a b else
 if w=[99,104,97,105,110] then 0 else
 if w=[115,116,101,112] then y.bF else
 if w=[115,116,97,116,117,115] then 0 else (doV y w a b c d).1
def xA(y:YV)(w:List UInt8)(a b:Int):List UInt8 :=
 if w=[114,101,97,100] then hexT (y.s.fG y.l a b).data.toList else
 if w=[99,104,97,105,110] then gY y.l else
 if w=[115,116,101,112] then wz y.eP else
 if w=[115,116,97,116,117,115] then gY (kR y) else [111,107]
def Ql(y w a b c d):Few (sD y w a b c d):=by
 unfold sD;split
 .exact yE _ _ _ _
 .split
  .exact gV rfl
  .split
   .exact Gn _
   .split
    .exact gV rfl
    .exact F5 _ _ _ _ _ _
def YC(y w a b c d):(if sD y w a b c d=0 then xA y w a b else iL (sD y w a b c d))=(nV y w a b c d).1:=by
 unfold sD xA nV;by_cases i:w=[114,101,97,100]
 .simp_all
 rw[if_neg i,if_neg i,if_neg i];by_cases g:w=[99,104,97,105,110]
 .simp_all
 rw[if_neg g,if_neg g,if_neg g];by_cases f:w=[115,116,101,112]
 .rw[if_pos f,if_pos f,if_pos f];rfl
 rw[if_neg f,if_neg f,if_neg f];by_cases j:w=[115,116,97,116,117,115]
 .simp_all
 rw[if_neg j,if_neg j,if_neg j];have:=F5 y w a b c d
 unfold Few at this;unfold fO;by_cases k:(doV y w a b c d).1=0
 .simp_all
 .rw[if_neg k,if_pos (by omega)]
def YE{sp j d C m cap f K Y y a}(p q w)(h:SS f K sp j d Y y w)(t:YOk y C m)(B:Beside w a [p,q] (fpY d Y y))(u : -1<=p/\p<=999999) :
  κ prog 159 #[sp,.string (bytesOf [114,101,97,100]),.slice a 2 cap] w λe w'=>e=.returned (jV (y.s.aT y.l p q) (hexT (y.s.fG y.l p q).data.toList))/\SE f K sp j y w':=by
 have c:χ (∀ W:ω,β w w W->κ prog 216 _ W λe w'=>e=.returned _/\β w w w'):=λW b=>(XP p q W (h.below b).cell0 (h.below b).aZ t u).mono λe w' ⟨r,n⟩=>⟨r,b.trans (n.mono b.size)⟩
 obtain⟨g,o,rfl,k⟩:=B.two;have A:χ (∀ W:ω,β w w W->SE f K sp j y W):=λW b=>⟨d,Y,h.below b⟩
 have z:=dV [114,101,97,100];obtain⟨S,x⟩:∃ S,χ (S=bytesOf [114,101,97,100]):=⟨_,rfl⟩;rw[<- x.out] at z |-;unfold jV at c |-;generalize bytesOf _=T at c |-;generalize erV _=E at c |-;go_enter func159,ntmps159;go_wp2
 go_region_held3 (λW=>W.cell? ⟨g,o,O⟩=some (p:υ)/\W.cell? ⟨g,o+1,O⟩=some (q:υ))
  (first|(exact(k w (ja0 _ _)))|assumption)
  (first
    | (go_at_call 216;refine cEq (c.out _ (ja0 _ _).drew) λD i=>?_;have F:=k _ i;have v:=ah i;clear i))
 go_wp2;go_ret2;exact⟨rfl,A.out _ v.out⟩
def YA{sp k q C m cap d K Y y a}(w)(h:SS d K sp k q Y y w)(c:YOk y C m)(j:Vars w) :
  κ prog 159 #[sp,.string (bytesOf [99,104,97,105,110]),.slice a 0 cap] w λe w'=>e=.returned (jV 0 (gY y.l))/\SE d K sp k y w':=by
 have r:=ah (ZA w h.aZ c);have F:=c.ch.len
 have i:χ (∀(g o cap:Nat) (W:ω),β w w W->Nums W (some ⟨g,o,O⟩) y.l->κ prog 217 #[.slice _ y.l.length cap] W λe w'=>e=.returned _/\β W W w'):=λg o cap W b f=>G7 y.l W (j.below b) f c.ch.ne (by omega) λx z=>by
  obtain⟨v,j,_⟩:=c.ch.good x z;have:=SV.eG j
  omega
 have E:=h.cell0;have B:χ (∀ W:ω,β w w W->SE d K sp k y W):=λW b=>⟨q,Y,h.below b⟩
 have A:=dV [99,104,97,105,110];obtain⟨S,t⟩:∃ S,χ (S=bytesOf [99,104,97,105,110]):=⟨_,rfl⟩;rw[<- t.out] at A |-;unfold jV;rw[aJ,if_pos rfl];generalize bytesOf (gY y.l)=T at i |-;generalize y.l.length=n at r i;go_enter func159,ntmps159;go_wp2_with fail;refine r.out.mono ?_;rintro e s ⟨g,o,D,rfl,f,_,_,_,b⟩;go_wp2_with fail;refine cBl (i.out g o D s b f) b λW u=>?_
 go_wp2;go_ret2;exact⟨rfl,B.out _ u.out⟩
def YH{sp d f C m cap c K Y y a}(w)(h:SS c K sp d f Y y w)(l:YOk y C m)(j:S4.Tab w)(q:m+30<1000000000) :
  κ prog 159 #[sp,.string (bytesOf [115,116,101,112]),.slice a 0 cap] w λe w'=>e=.returned (jV y.bF (wz y.eP))/\SE c K sp d y.step w':=by
 have b:χ (κ prog 218 _ w λe w'=>e=.returned _/\SE c K sp d y.step w'):=(XQ w h.cell0 h.aZ l j q).mono λe w' ⟨k,g⟩=>⟨k,by
  obtain⟨i,n⟩:=h.did g.out
  exact⟨f,i,n⟩⟩
 have r:=dV [115,116,101,112];obtain⟨S,o⟩:∃ S,χ (S=bytesOf [115,116,101,112]):=⟨_,rfl⟩;rw[<- o.out] at r |-;unfold jV at b |-;generalize bytesOf _=T at b |-;generalize erV y.bF=E at b |-;generalize y.step=t at b |-;go_enter func159,ntmps159;go_wp2_with fail;refine cHd b.out λW s=>?_
 go_wp2;go_ret2;exact⟨rfl,s.out⟩
def YG{sp l d C m cap g K Y y a}(w)(h:SS g K sp l d Y y w)(D:YOk y C m)(G:Vars w)(B:∀ x∈kR y,-1<=x/\x<=1000000000) :
  κ prog 159 #[sp,.string (bytesOf [115,116,97,116,117,115]),.slice a 0 cap] w λe w'=>e=.returned (jV 0 (gY (kR y)))/\SE g K sp l y w':=by
 have H:=dV [115,116,97,116,117,115];obtain⟨S,E⟩:∃ S,χ (S=bytesOf [115,116,97,116,117,115]):=⟨_,rfl⟩;rw[<- E.out] at H |-;have I:χ (∀ W:ω,β w w W->SE g K sp l y W):=λW f=>⟨d,Y,h.below f⟩
 have M:=h.cell0
 obtain⟨p,q,r,s,u,L⟩:∃ p q r s:Int,χ (kR y=[p,q,r,s])/\χ (κ prog 67 #[d] w λe w'=>e=.returned (.agg #[p,q,r,s])/\β w w w'):=by
  have c:=ZY w h.aZ D;unfold kR
  cases v:y.j with
  | none=>rw[v] at c;exact⟨_,_,_,_,rfl,c⟩
  | some j=>rw[v] at c;exact⟨_,_,_,_,rfl,c⟩
 have o:χ (∀ W:ω,Vars W->κ prog 217 #[.slice (some ⟨W,0,O⟩) 4 4] (W.alloc (.cells #[p,q,r,s] 3)) λe w'=>e=.returned (.string (bytesOf (gY (kR y))))/\β (W.alloc (.cells #[p,q,r,s] 3)).heap.size (W.alloc (.cells #[p,q,r,s] 3)) w'):=λW J=>by
  rw[u.out];refine G7 (cap:=4) [p,q,r,s] _ (J.below ((ja0 _ _).alloc (ja1 _) _)) (λk z=>⟨_,_,rfl,?_⟩) (by simp) (by simp) (by rw[<- u.out];exact B);rw[cell_of_row _ _ _ _ _ _ (heap_alloc_new W _)]
  match k,z with
  | 0,_=>rfl
  | 1,_=>rfl
  | 2,_=>rfl
  | 3,_=>rfl
 unfold jV;rw[aJ,if_pos rfl];generalize bytesOf (gY (kR y))=T at o |-;go_enter func159,ntmps159;go_wp2_with fail;refine cHd L.out λb t=>?_
 go_wp2_with fail;have i:χ (β w w (b.alloc (.cells #[p,q,r,s] 120))):=t.out.alloc t.out.size _;have n:=o.out _ ((λW (f:β w w W)=>G.below f) _ i.out);rw[show(b.alloc _).heap.size=b.heap.size+1 by simp] at n;have F:χ (β w w ((b.alloc _).alloc (.cells #[p,q,r,s] 3))):=i.out.alloc i.out.size _;refine cBl n F.out λW A=>?_
 go_wp2;go_ret2;exact⟨rfl,I.out _ A.out⟩
def YB{sp:Nat}{j n cap i K k f a}(b)(w)
  (hd:κ prog 219 #[sp,.string (bytesOf b),.slice a n cap] w λe w'=>e=.returned (erV f)/\SE i K sp j k w') (r:b≠[114,101,97,100]) (m:b≠[99,104,97,105,110]) (o:b≠[115,116,101,112]) (q:b≠[115,116,97,116,117,115]) :
  κ prog 159 #[sp,.string (bytesOf b),.slice a n cap] w λe w'=>e=.returned (jV f [111,107])/\SE i K sp j k w':=by
 have d:=dV b;have g1:((bytesOf b).toList==[114,101,97,100])=false:=by rw[d];simpa using r
 have g2:((bytesOf b).toList==[99,104,97,105,110])=false:=by rw[d];simpa using m
 have g3:((bytesOf b).toList==[115,116,101,112])=false:=by rw[d];simpa using o
 have l:((bytesOf b).toList==[115,116,97,116,117,115])=false:=by rw[d];simpa using q
 unfold jV;generalize bytesOf b=S at g1 g2 g3 l hd |-;by_cases c:f=0
 .rw[c,aJ] at hd;rw[if_pos c,c,aJ];go_enter func159,ntmps159;go_wp2_with fail;refine cHd hd λW g=>?_
  go_wp2;go_ret2;exact⟨rfl,g.out⟩
 .rw[bC c] at hd;rw[if_neg c,bC c];go_enter func159,ntmps159;go_wp2_with fail;refine cHd hd λW g=>?_
  go_wp2;go_ret2;exact⟨rfl,g.out⟩
def Yz{sp t l C m cap o K Y y a}(b n w)(h:SS o K sp t l Y y w)(d:YOk y C m)(u:m<=400000)(s:Vars w)(A:S4.Tab w)(B:∀ x∈kR y,-1<=x/\x<=1000000000)(r:Beside w a n (fpY l Y y))
  (k:∀ x∈n,-1<=x/\x<=999999) (c:jD b=n.length) :
  κ prog 159 #[sp,.string (bytesOf b),.slice a n.length cap] w λe w'=>e=.returned (jV (sD y b (n.getD 0 0) (n.getD 1 0) (n.getD 2 0) (n.getD 3 0)) (xA y b (n.getD 0 0) (n.getD 1 0)))/\SE o K sp t (nV y b (n.getD 0 0) (n.getD 1 0) (n.getD 2 0) (n.getD 3 0)).2 w':=by
 by_cases j:b=[114,101,97,100]
 .subst j;obtain⟨p,q,rfl⟩:=len2 c;exact YE  p q w h d r (k p (by simp))
 by_cases f:b=[99,104,97,105,110]
 .subst f;obtain rfl:=len0 c;exact YA  w h d s
 by_cases g:b=[115,116,101,112]
 .subst g;obtain rfl:=len0 c;exact YH  w h d A (by omega)
 by_cases i:b=[115,116,97,116,117,115]
 .subst i;obtain rfl:=len0 c;exact YG  w h d s B
 have v:sD y b (n.getD 0 0) (n.getD 1 0) (n.getD 2 0) (n.getD 3 0)=(doV y b (n.getD 0 0) (n.getD 1 0) (n.getD 2 0) (n.getD 3 0)).1:=by unfold sD;simp_all
 have D:xA y b (n.getD 0 0) (n.getD 1 0)=[111,107]:=by unfold xA;simp_all
 have z:(nV y b (n.getD 0 0) (n.getD 1 0) (n.getD 2 0) (n.getD 3 0)).2=(doV y b (n.getD 0 0) (n.getD 1 0) (n.getD 2 0) (n.getD 3 0)).2:=by unfold nV;simp_all
 rw[v,D,z];exact YB b w (O3 (cap:=cap) b n w h d u r k c j f g i) j f g i
def S9{l u a}(h:lM l=S (u,a)):jD u=a.length/\∀ x∈a,-1<=x/\x<=999999:=by
 unfold lM at h;split at h
 .next c =>
  cases b:(aG l).tail.mapM dK with
  | none=>simp_all
  | some r =>
   rw[b] at h;cases h;refine⟨?_,CJ b⟩;rw[c.2,mapM_len b,List.length_tail];have:=List.length_pos_iff.2 (uw l)
   omega
 .cases h
def MS{r K sp v q y}(l w)(h:SE r K sp v y w)(n:COk y q)(R:q<=100)(I:l.length<=1000) :
  κ prog 85 #[sp,.string (bytesOf l)] w λe w'=>e=.returned (.string (bytesOf (dG y l).1))/\SE r K sp v (dG y l).2 w':=by
 obtain⟨m,Y,h⟩:=h;obtain⟨⟨C,A⟩,G⟩:=n;have B:=parse_any l w h.cell1 h.map h.var I
 cases i:lM l with
 | none =>
  have s:dG y l=(iL 11,y):=by unfold dG;rw[i]
  rw[s];refine MV (x:=.slice O 0 0)  _ 11 w (by decide) (by decide) (B.mono λe w' d=>?_) (λW h=>h.vars) (λW P h f=>h.below f);unfold qP at d;rw[i] at d;obtain⟨f,rfl⟩:=d;exact⟨by rw[bC (by decide)],m,Y,h.below f⟩
 | some H =>
  obtain⟨u,b⟩:=H;obtain⟨E,J⟩:=S9 i;have s:dG y l=nV y u (b.getD 0 0) (b.getD 1 0) (b.getD 2 0) (b.getD 3 0):=by unfold dG;rw[i]
  rw[s,<- YC];refine MW (u:=bytesOf u) (S:=λx W=>∃(a:Option Addr) (cap:Nat),x=.slice a b.length cap/\SS r K sp v m Y y W/\Beside W a b (fpY m Y y))  _ _ _ w (Ql y u (b.getD 0 0) (b.getD 1 0) (b.getD 2 0) (b.getD 3 0)) (B.mono λe w' d=>?_) ?_ (λW h=>h.vars) (λW P h f=>h.below f)
  .unfold qP at d;rw[i] at d;obtain⟨f,a,cap,rfl,D⟩:=d;refine⟨_,rfl,a,cap,rfl,h.below f,λk z=>?_,λg o e F=>?_⟩
   .obtain⟨g,c,M,n,_,_⟩:=kE D k z;injection M with e1 e2 e3;refine⟨g,0,e1,?_⟩;rw[jak,n,pO,jaz,ja5 z];simp_all
   .have d:=(D.lt g (by rw[e];rfl)).1;have Q:=h.aZ.gG F;omega
  .rintro x W ⟨a,cap,rfl,t,L⟩;exact Yz  u b W t A (by omega) t.var (λj N=>t.var.bit j N) (G.stat A) L J E
def jm:YV->List (List UInt8)->List (List UInt8)
 | _,[]=>[]
 | y,l::r=>(dG y l).1::jm (dG y l).2 r
def kZ:YV->List (List UInt8)->YV
 | y,[]=>y
 | y,l::r=>kZ (dG y l).2 r
theorem Dz:∀(ls:List (List UInt8)) (y:YV),(jm y ls).length=ls.length
 | [],_=>rfl
 | l::r,y=>by simp[jm,Dz r]
theorem JQ:∀(ls:List (List UInt8)) (y:YV) (l:List UInt8),kZ y (ls++[l])=(dG (kZ y ls) l).2/\jm y (ls++[l])=jm y ls++[(dG (kZ y ls) l).1]
 | [],y,l=>⟨rfl,rfl⟩
 | a::r,y,l=>by
  obtain⟨b,c⟩:=JQ r (dG y a).2 l;exact⟨b,by show _::jm _ (r++[l])=_;rw[c];rfl⟩
def JM{ls:List (List UInt8)}{y k}(a:k<ls.length):kZ y (ls.take (k+1))=(dG (kZ y (ls.take k)) (ls.getD k [])).2/\jm y (ls.take (k+1))=jm y (ls.take k)++[(dG (kZ y (ls.take k)) (ls.getD k [])).1]:=by
 have e:ls.take (k+1)=ls.take k++[ls.getD k []]:=by
  rw[jaC,ja5 a];simp[List.getD,a]
 rw[e];exact JQ _ _ _
theorem DC:∀(ls:List (List UInt8)) {y:YV} {q:Nat},COk y q->q+ls.length<=100->COk (kZ y ls) (q+ls.length)
 | [],_,_,h,_=>h
 | l::r,y,q,h,hq=>by
  rw[jau] at hq |-;have:=DC r (Xp h (by omega) l) (by omega)
  rwa [show q+1+r.length=q+(r.length+1) by omega] at this
def ZQ(c p w)(g:(newH c p).ok≠true) :
  κ prog 8 #[c,p] w λe w'=>e=.returned (.tuple #[.pointer O,.iface 96 (.int .i64 1)])/\β w w w':=by
 have a:χ (β w w (w.alloc (nO c p (-1)))):=(ja0 _ _).alloc (ja1 _) _
 have f:χ (κ prog 27 #[.agg #[c,p,(-1:Int)]] (w.alloc (nO c p (-1))) λe w'=>e=.returned (.iface 96 (.int .i64 1))/\β w w w'):=by
  have:=qp c p (-1) (w.alloc (nO c p (-1)))
  rw[show HV.fault _=1 by unfold HV.fault;rw[if_neg (show ¬HV.ok ⟨c,p,-1⟩=true from g)]] at *
  exact this.mono λe w' ⟨i,b⟩=>⟨i,a.trans (b.mono a.size)⟩
 unfold nO at *
 go_enter func8,ntmps8;go_wp2_with fail;refine cHd f λj d=>?_
 go_wp2;go_ret2;exact⟨rfl,d⟩
def aC.Ug{w b Y y}(h:aC w b Y y)(c:y.j=O):aC w b {Y with jb:={Y.jb with a:=O}} y:=by
 refine⟨?_,h.img,h.dev,h.top,h.apart,h.apTop,λj e=>by simp_all⟩;exact⟨h.blk.is⟩
def Lines(w:ω)(a:Option Addr)(ls:List (List UInt8)):Prop:=∀ k,k<ls.length->∃ g o,a=S ⟨g,o,O⟩/\w.cell? ⟨g,o+k,O⟩=S (.string (bytesOf (ls.getD k [])))
def Lines.below{w w' a ls}(h:Lines w a ls){B}(f:β B w w')(d:B=w):Lines w' a ls:=λk c=>by
 subst d;obtain⟨g,o,e,b⟩:=h k c;exact⟨g,o,e,(f.cell  (ja2 w _ b)).trans b⟩
def WJ{la n cap}(c p w)(a:(newH c p).ok≠true) :
  κ prog 21 #[c,p,.slice la n cap] w λe w'=>e=.returned (.tuple #[.slice O 0 0,.iface 96 (.int .i64 1)])/\β w w w':=by
 go_enter func21,ntmps21;go_wp2_with fail;refine cHd (ZQ c p w a) λW b=>?_
 go_wp2;go_ret2;exact⟨rfl,b.out⟩
def WT{la n cap}(c p w)(b:(newH c p).ok=true)(k:80<n) :
  κ prog 21 #[c,p,.slice la n cap] w λe w'=>e=.returned (.tuple #[.slice O 0 0,.iface 96 (.int .i64 1)])/\β w w w':=by
 have g:χ (κ _ 8 _ w λe w'=>∃ a:Nat,e=.returned _/\β _ w w'):=(Md c p w b (yR b)).mono λe w' ⟨a,Y,f,_,_,d⟩=>⟨a,f,d⟩
 have i:(80:Int)<(n:Int):=by omega
 go_enter func21,ntmps21;go_wp2_with fail;refine g.out.mono ?_;rintro e W ⟨a,rfl,j⟩;go_wp2;go_ret2;simp_all
def SS.new{w c d Y y}(l:Vars w)(j:aC c d Y y)(q:∀ b,fpY d Y y b->w<=b)(t:Y.jb.a=O)(f:β w w c) :
  SS w (λk=>k<w) (c+1) c d Y y ((c.alloc (.map (dD 17) 17)).alloc (.cells #[d,.map (S c)] 150)):=by
 have n:β _ c (c.alloc (.map (dD 17) 17)):=(ja0 _ _).alloc (ja1 _) _;have i:β _ c ((c.alloc _).alloc (.cells #[d,.map (S c.heap.size)] 150)):=n.alloc n.size _;have r:(c.alloc (.map (dD 17) 17)).heap.size=c.heap.size+1:=by simp
 have m:=f.size;refine⟨j.below i,?_,?_,λe=>?_,λe=>?_,λk e s=>?_,λe=>?_,λk e=>e,λk e=>ja8 e l.size,Below.kept (f.trans (i.mono m)),l.below (f.trans (i.mono m)),λg o e=>by simp_all⟩
 .rw[<- r];exact heap_alloc_new _ _
 .exact(((ja0 _ _).alloc (ja1 _) _).block _ (by omega)).trans (heap_alloc_new c _)
 .have:=j.gG e;omega
 .have:=j.gG e;omega
 .have:=q k e;omega
 .omega
def oq(w:ω)(sp c:Nat)(y:YV)(u:υ)(k:Nat)(d:List υ)(W:ω):Prop :=
 ∃(b:Nat) (Y:Yh),SS w (λk=>k<w.heap.size) sp c b Y y W/\W.ownsRow w.heap.size 9 1 u k d/\∀ r,u.ownBlock=S r->¬fpY b Y y r/\(r≠sp/\r≠c)/\∀ g o,Y.jb.a=S ⟨g,o,O⟩->g≠r
def oq.bel{w W sp b k y u a}(h:oq w sp b y u k a W):β w w W:=by
 obtain⟨c,Y,h,_⟩:=h;exact h.kept.below (ja1 _) λk e=>Nat.le_of_not_lt e
def oq.next{w W sp i k q y u f}(h:oq w sp i y u k f W)(l)(A:COk y q)(v:q<=100)(n:l.length<=1000) :
  κ prog 85 #[sp,.string (bytesOf l)] W λe w'=>e=.returned (.string (bytesOf (dG y l).1))/\oq w sp i (dG y l).2 u k f w':=by
 obtain⟨t,Y,b,d,s⟩:=h;have C:=b.kept.size
 have z:=b.base (K':=λk=>k<w.heap.size\/u.ownBlock=S k) (λk e=>.inl e) (λk e=>by
  rcases e with e|e
  .omega
  .exact(d.lt k e).2) (λk e a=>by
  rcases a with a|a
  .exact b.far k e a
  .simp_all) (λe=>by
  rcases e with e|e
  .exact b.sfar e
  .simp_all) (λg o e a=>by
  rcases a with a|a
  .exact(b.jk g o e).1 a
  .simp_all)
 refine(MS l W ⟨t,Y,z⟩ A v n).mono λe w' ⟨x,m,j,c⟩=>⟨x,m,j,SS.back b.kept (λk e=>.inl e) b.kl b.k8 c,bg d λr e=>c.kept.block r (d.lt r e).2 λq=>q (.inr e),λr e=>⟨λq=>c.far r q (.inr e),(s r e).2.1,λg o a B=>(c.jk g o a).1 (.inr (by simp_all))⟩⟩
def oq.put{w W w' sp j k g cap y u m v}(h:oq w sp j y u k m W)(x:w'.ownsRow w 9 1 (.slice (S ⟨g,0,O⟩) (k+1) cap) (k+1) (m++[v]))(d:β w W w')(l:∀ i,i<W.heap.size->u.ownBlock≠S i->w'.heap[i]?=W.heap[i]?)(A:u.ownBlock=S g\/W<=g) :
  oq w sp j y (.slice (S ⟨g,0,O⟩) (k+1) cap) (k+1) (m++[v]) w':=by
 obtain⟨s,Y,b,F,n⟩:=h;have C:=lt_of_some b.blk;have D:=lt_of_some b.map
 have f:∀ i,(¬fpY s Y y i->False)\/i=sp\/i=j\/(∃ o,Y.jb.a=S ⟨i,o,O⟩)->u.ownBlock≠S i:=λi c e=>by
  obtain⟨E,q2,G⟩:=n i e;rcases c with c|c|c|⟨o,c⟩
  .exact c E
  .exact q2.1 c
  .exact q2.2 c
  .simp_all
 refine⟨s,Y,⟨b.aZ.keep (λk e=>l k (b.aZ.gG e) (f k (.inl λq=>q e))) (λg o e z=>l g z (f g (.inr (.inr (.inr ⟨o,e⟩))))),(l sp C (f sp (.inr (.inl rfl)))).trans b.blk,(l j D (f j (.inr (.inr (.inl rfl))))).trans b.map,b.ns,b.nm,b.far,b.sfar,b.kl,b.k8,b.kept.trans ⟨d.os,d.tape,d.output,d.size,λi c f=>d.block i (jag λq=>f q)⟩,b.var.keep d.size λi c=>d.block i (b.k8 i c),λg o e=>⟨(b.jk g o e).1,ja8 (b.jk g o e).2 d.size⟩⟩,x,λr e=>?_⟩;have t:g=r:=by injection e
 subst t;rcases A with q|q
 .exact n _ q
 .refine⟨λe=>?_,⟨λe=>?_,λe=>?_⟩,λB o e t=>?_⟩
  .have:=b.aZ.gG e;omega
  .omega
  .omega
  .have:=(b.jk B o e).2;omega
def JO{la cap}(c p ls w)(f:(newH c p).ok=true)(hv:Vars w)(hl:Lines w la ls)(hn:ls.length<=80)(hx:∀ l∈ls,l.length<=1000)(a0:KOk (fJ c p)) :
  κ prog 21 #[c,p,.slice la ls.length cap] w λe w'=>∃(a:Option Addr) (b:Nat),e=.returned (.tuple #[.slice a ls.length b,.nilIface])/\w'.ownsRow w 9 1 (.slice a ls.length b) ls.length (fU (jm (fJ c p) ls))/\β w w w':=by
 have F:=yR f;have M:COk (fJ c p) 0:=⟨⟨c.toNat,IK f F⟩,a0⟩;have C:χ (κ prog 8 #[c,p] w λe d=>∃ m:Nat,e=.returned (.tuple #[m,.nilIface])/\oq w (d.heap.size+1) d.heap.size (kZ (fJ c p) (ls.take 0)) (.slice O 0 0) 0 (fU (jm (fJ c p) (ls.take 0))) ((d.alloc (.map (dD 17) 17)).alloc (.cells #[m,.map (S d.heap.size)] 150))):=(Md c p w f F).mono λe d ⟨m,Y,X,N,h3,R⟩=>⟨m,X,m,_,SS.new hv (N.Ug rfl) h3 rfl R,jaa _ _ _ _,λr e=>by cases e⟩
 have D:=ah λk W (Q:β w w W) (f:k<ls.length)=>(hl.below Q rfl) k f
 have t:χ (∀(sp v k:Nat) (a:Option Addr) (b:Nat) (W:ω),k<ls.length->oq w sp v (kZ (fJ c p) (ls.take k)) (.slice a k b) k (fU (jm (fJ c p) (ls.take k))) W->∃ T:ByteArray,χ (fU (jm (fJ c p) (ls.take (k+1)))=fU (jm (fJ c p) (ls.take k))++[.string T])/\κ prog 85 #[sp,.string (bytesOf (ls.getD k []))] W λe w'=>e=.returned T/\oq w sp v (kZ (fJ c p) (ls.take (k+1))) (.slice a k b) k (fU (jm (fJ c p) (ls.take k))) w'):=λsp v k a b W f j=>by
  obtain⟨e1,e2⟩:=JM (y:=fJ c p) f;refine⟨bytesOf (dG (kZ (fJ c p) (ls.take k)) (ls.getD k [])).1,?_,?_⟩
  .unfold χ;rw[e2,<- xB]
  .rw[e1];refine j.next (q:=0+(ls.take k).length) _ (DC (ls.take k) M (by rw[jay];omega)) (by rw[jay];omega) (hx _ ?_);simp[List.getD,f]
 have H:χ (ls.take ls.length=ls):=jaf (ja1 _);generalize fJ c p=y0 at C t |-;obtain⟨n,a6⟩:∃ n,χ (n=ls.length):=⟨_,rfl⟩;rw[<- a6.out] at hn D t H |-;go_enter func21,ntmps21;go_wp2_with fail;refine C.out.mono ?_;rintro e d ⟨m,rfl,j⟩;have I:=ah j;have k9:¬80<(n:Int):=by omega
 go_wp2_with fail;refine((λW:ω=>N9 W) d).mono ?_;rintro e s ⟨rfl,rfl⟩;generalize dD 17=E at I;go_wp2;go_loopw [11,13,32] (λu _ i wr=>∃(k:Nat) (a:Option Addr) (b:Nat),k<=n/\i=.int .i64 (k:Int)/\u=.slice a k b/\oq w (d.heap.size+1) d.heap.size (kZ y0 (ls.take k)) (.slice a k b) k (fU (jm y0 (ls.take k))) wr) (λ_ _ i _=>n-(intOf i).toNat)
 case atStart=>exact⟨0,O,0,by omega,rfl,rfl,I.out⟩
 case round =>
  obtain⟨k,a,b,f,rfl,rfl,j⟩:=hrel;by_cases z:k<n
  .obtain⟨g,o,rfl,V⟩:=D.out k wr j.bel z;obtain⟨T,a3,Z⟩:=t.out _ _ k a b wr z j;have U:(k:Int)<(n:Int):=by omega
   have k1:(0:Int)<=(k:Int):=by omega
   have B:=ah Z;generalize bytesOf (ls.getD k [])=L at V B;go_wp2_with fail;refine cHd B.out λs x=>?_
   have a2:χ (w.heap.size<=s):=x.out.bel.size
   have HO:χ (s.ownsRow w.heap.size 9 1 (.slice a k b) k (fU (jm y0 (ls.take k)))):=by
    obtain⟨_,_,_,h,_⟩:=x.out;exact h
   go_wp2_with (at_builtin;refine uH vS (by rfl) _ _ (by rfl) w.heap.size s _ _ _ _ (by rfl) (by rfl) HO.out rfl (by omega) a2.out λg3 a1 w3 K a5 P a4=>?_)
   have G:=x.out.put K a5 P a4;rw[<- a3.out] at G;go_wp2;go_roundw
   case rel=>exact⟨k+1,S _,a1,by omega,by go_num,rfl,G⟩
   case measure=>simp[intOf];try omega
  .have J:k=n:=by omega
   subst J;have U:¬(k:Int)<(k:Int):=by omega
   rw[H.out] at j;have A:=ah j;go_wp2;go_ret2;refine⟨a,b,rfl,?_,A.out.bel⟩;obtain⟨_,_,_,h,_⟩:=A.out;exact h
def oN(w:ω)(a:Option Addr)(n:Nat)(T:Nat->ByteArray):Prop:=∀ k,k<n->∃ g o,a=S ⟨g,o,O⟩/\w.cell? ⟨g,o+k,O⟩=S (.string (T k))
def oN.below{w w' a n T}(h:oN w a n T)(d:β w w w'):oN w' a n T:=λk c=>by
 obtain⟨g,o,e,b⟩:=h k c;exact⟨g,o,e,(d.cell  (ja2 w _ b)).trans b⟩
def Dh{w B n c a L}(h:w.ownsRow B 9 1 (.slice a n c) n (fU L))(j:L.length=n):oN w a n λk=>bytesOf (L.getD k []):=λk b=>by
 obtain⟨g,c2,f,i,_,_⟩:=kE h k b;injection f with e1;refine⟨g,0,e1,?_⟩;have d:k<L.length:=by omega
 rw[jak,i,fU,jaz,ja5 d];simp_all
def DJ{a b n c d T}(w)(q:oN w a n T)(m:oN w b n T)(u:n<=1000) :
  κ prog 23 #[.slice a n c,.slice b n d] w λe w'=>e=.returned true/\β w w w':=by
 go_enter func23,ntmps23;go_wp2;go_loopw [5] (λi wr=>∃ k:Nat,k<=n/\i=.int .i64 k/\β w w wr) (λi _=>n-(intOf i).toNat)
 case atStart=>exact⟨0,ja7 _,rfl,ja0 _ _⟩
 case round =>
  obtain⟨k,v,rfl,f⟩:=hrel;by_cases l:k<n
  .obtain⟨g,o,rfl,t⟩:=(λW (j:β w w W)=>q.below j) wr f k l;obtain⟨g2,o2,rfl,r⟩:=(λW (j:β w w W)=>m.below j) wr f k l;generalize T k=s at t r;go_wp2;go_quiet (fail)
   go_wp2;go_roundw
   case rel =>
    exact⟨k+1,by omega,by go_num,below_drewN f _⟩
   case measure=>simp[intOf];omega
  .go_wp2;go_ret;exact⟨rfl,f⟩
def wpList_append_run'{P w w' b g o a Q}(i:o.guard=O)(s x)(t d)
  (j:o.op=.call {callee:=.builtin .append,args := #[s,x],argTypes := #[t,t]}) (l:o.type=d) {v f c} (m:a.eval s=v) (n:a.eval x=f)
  (k:(Builtin.append_ #[t,t] d #[v,f]).run P w=.ok c w') (h:wpList P b Q g (a.put o.dst c) w'):wpList P b Q (o::g) a w:=by
 refine wpList_plain i λK q=>?_
 unfold Oper.wp execOp;simp only[j,resolve,invoke,builtin,Sem.run_bind,Sem.run_pure,Result.andThen_ok,List.map_toArray,jbA,List.map_nil,m,n,l,k];exact q _ _ h
def Df(d la len cap ls)(q:Texts d la len ls)(K:la=O->cap=0)(a3:len<=90) :
  ∃ f c g l m,(Builtin.append_ #[44,44] 44 #[.slice O 0 0,.slice la len cap]).run prog d=.ok f c /\
   (Builtin.append_ #[44,44] 44 #[f,.slice (S ⟨c,0,O⟩) 1 1]).run prog (c.alloc (.cells #[.string ⟨#[109,97,114,107]⟩] 9))=.ok (.slice (S ⟨g,0,O⟩) (len+1) l) m /\
   β d d m/\len+1<=l/\l<=maxLen/\d<=g/\∀ k,k<len->m.cell? ⟨g,k,O⟩=S (.string (ls.getD k ByteArray.empty)):=by
 obtain⟨r,t,v,x,z⟩:=info_parts (show(prog.info? 9).map (λi=>(i.zero,i.size,i.bytes))=S (S (.string ⟨#[]⟩),1,16) by kernel_rfl);have y:=q.1
 have I:∃ f c,(Builtin.append_ #[44,44] 44 #[.slice O 0 0,.slice la len cap]).run prog d=.ok f c/\c.ownsRow d.heap.size 9 1 f len (ls.map .string)/\d.grownBy c none:=by
  cases la with
  | none =>
   have D:len=0:=by
    by_cases h:0<len
    .obtain⟨b,M,e,_⟩:=q.2 0 h;cases e
    .omega
   subst D;have  := List.length_eq_zero_iff.1 y;subst this;rw[K rfl];exact⟨_,_,run_append_owned_none (P:=prog) d d.heap.size 44 44 9 r 1 underlying44 t _ 0 [] (jaa _ _ _ _),jaa _ _ _ _,⟨rfl,rfl,rfl,ja1 _,λ_ _ _=>rfl⟩⟩
  | some a =>
   obtain⟨f,c,R,L,H,_⟩:=run_append_own (P:=prog) d d.heap.size 44 44 9 r (.string ⟨#[]⟩) 1 16 underlying44 t v x z rfl (by decide) (.slice O 0 0) 0 [] (jaa _ _ _ _) a len cap (ls.map .string) (by simp[y]) (λj u B=>by
    have w:j<ls.length:=by
     rcases jav j ls.length with h|h
     .exact h
     .simp_all
    obtain⟨b,M,e,X,_⟩:=q.2 j (by omega);cases e;rw[Go.WideShapes.add_plain,X];simp[ja5 w] at B;subst B;simp[List.getD,ja5 w]) (λu o=>by
    obtain⟨s,_,rfl⟩:=List.mem_map.1 o
    rfl) (by unfold maxLen;omega) (by omega) (ja1 _)
   exact⟨f,c,R,by simpa using L,H⟩
 obtain⟨f,c,U,A,n⟩:=I;obtain⟨v2,m,G,C,J,a2⟩:=run_append_own  (c.alloc (.cells #[.string ⟨#[109,97,114,107]⟩] 9)) _ 44 44 9 r _ 1 16 underlying44 t v x z rfl (by decide) f len _ (A.alloc _) _ 1 1 _ rfl (cell_one_new _ _ _) (λu o=>by simp at o;subst o;rfl) (by unfold maxLen;omega) (by omega) (by have:=n.size;simp;omega);have W  := (ja0 _ _).grown n (ja1 _) (λk e=>by cases e);have T  := (W.alloc n.size _).grown J (by have:=n.size;simp;omega) (λk e=>(A.lt k e).1);rcases C.2 with⟨_,Z⟩|⟨g,l,a0,V,N,hh,Q,F,a1,Y⟩
 .omega
 .subst V;refine⟨f,c,g,l,m,U,G,T,Q,F,N,λk hk=>?_⟩;rw[C.cellAt k (by omega)];have E:k<ls.length:=by omega
  simp[jaD (show k<(ls.map _).length by simp_all),List.getD,ja5 E]
def mW(w:ω)(c:Nat)(y:YV)(u:υ)(k:Nat)(d:List υ)(W:ω):Prop :=
 ∃ Z:Zh,au W c Z y/\(∀ b,fpZ c Z y b->w.heap.size<=b)/\W.ownsRow w.heap.size 9 1 u k d/\(∀ g o,Z.la=S ⟨g,o,O⟩->g<W.heap.size/\u.ownBlock≠S g)/\(∀ g o,Z.jb.a=S ⟨g,o,O⟩->g<W.heap.size/\u.ownBlock≠S g)/\(∀ r,u.ownBlock=S r->¬fpZ c Z y r)/\β w w W
def mW.bel{w W b k y u a}(h:mW w b y u k a W):β w w W:=by
 obtain⟨_,_,_,_,_,_,_,h⟩:=h;exact h
def mW.own{w W b k y u a}(h:mW w b y u k a W):W.ownsRow w 9 1 u k a:=by
 obtain⟨_,_,_,h,_⟩:=h;exact h
def mW.next{w W v k q y u n}(h:mW w v y u k n W)(l)(E:COk y q)(C:q<=100)(x:l.length<=1000) :
  κ prog 22 #[v,.string (bytesOf l)] W λe w'=>∃ f:Nat,e=.returned (.tuple #[.string (bytesOf (dG y l).1),f])/\mW w f (dG y l).2 u k n w':=by
 obtain⟨Z,A,j,c,s,i,m,t⟩:=h;have F:=t.size;refine(Xl l W A E C x).mono ?_;rintro e w' ⟨f,Z',rfl,z,a,D,B⟩;refine⟨f,rfl,Z',z,λb e=>?_,bg c λr e=>a.block (c.lt r e).2 (m r e),λg o e=>?_,λg o e=>?_,λr e d=>?_,t.trans (a.below F j)⟩
 .rcases a.new b e with q|q
  .exact j b q
  .omega
 .rcases D with q|q
  .rw[q] at e;exact⟨ja8 (s g o e).1 a.size,(s g o e).2⟩
  .refine⟨(q g o e).2,λd=>?_⟩;have:=(c.lt g d).2
   have:=(q g o e).1
   omega
 .rcases B with q|q
  .rw[q] at e;exact⟨ja8 (i g o e).1 a.size,(i g o e).2⟩
  .refine⟨(q g o e).2,λd=>?_⟩;have:=(c.lt g d).2
   have:=(q g o e).1
   omega
 .rcases a.new r d with q|q
  .exact m r e q
  .have:=(c.lt r e).2
   omega
def mW.put{w W w' s k g cap y u f v}(h:mW w s y u k f W)(z:w'.ownsRow w 9 1 (.slice (S ⟨g,0,O⟩) (k+1) cap) (k+1) (f++[v]))(l:β w W w')(n:∀ i,i<W.heap.size->u.ownBlock≠S i->w'.heap[i]?=W.heap[i]?)(m:u.ownBlock=S g\/W<=g) :
  mW w s y (.slice (S ⟨g,0,O⟩) (k+1) cap) (k+1) (f++[v]) w':=by
 obtain⟨Z,j,t,_,d,b,A,x⟩:=h;refine⟨Z,j.keep (λi e=>n i (j.gG e) λa=>A i a e) (λi o e c=>n i c (d i o e).2) (λi o e c=>n i c (b i o e).2),t,z,λi o e=>⟨ja8 (d i o e).1 l.size,λa=>?_⟩,λi o e=>⟨ja8 (b i o e).1 l.size,λa=>?_⟩,λr e a=>?_,x.trans l⟩
 .have a:g=i:=by injection a
  rcases m with q|q
  .simp_all
  .have:=(d i o e).1;omega
 .have a:g=i:=by injection a
  rcases m with q|q
  .simp_all
  .have:=(b i o e).1;omega
 .have e:g=r:=by injection e
  rcases m with q|q
  .simp_all
  .have:=j.gG a;omega
def BX:List (List UInt8):=[[102,105,108,108,32,49,32,49,32,54,53],[114,101,97,100,32,48,32,50],[115,116,97,116,117,115],[102,108,121]]
def yJ:List (List UInt8):=[[111,107],[48,48,48,48,48,48,48,48,48,48,48,48,48,48,48,48,48,48,48,48,48,48,48,48,48,48,48,48,48,48,48,48,52,49,52,49,52,49,52,49,52,49,52,49,52,49,52,49,52,49,52,49,52,49,52,49,52,49,52,49,52,49,52,49],[48,32,45,49,32,48,32,48],[101,114,114,111,114,32,49,49]]
def Rf:jm (fJ 2 2) BX=yJ:=by kernel_rfl
def Ri(w:ω):Lines (w.alloc (.cells #[.string ⟨#[102,105,108,108,32,49,32,49,32,54,53]⟩,.string ⟨#[114,101,97,100,32,48,32,50]⟩,.string ⟨#[115,116,97,116,117,115]⟩,.string ⟨#[102,108,121]⟩] 9)) (S ⟨w,0,O⟩) BX:=λk a=>by
  refine⟨_,0,rfl,?_⟩;rw[jak,cell_of_row _ _ _ _ _ _ (heap_alloc_new _ _)]
  match k,a with
  | 0,_=>rfl
  | 1,_=>rfl
  | 2,_=>rfl
  | 3,_=>rfl
def Rk(w:ω):oN (w.alloc (.cells #[.string ⟨#[111,107]⟩,.string ⟨#[48,48,48,48,48,48,48,48,48,48,48,48,48,48,48,48,48,48,48,48,48,48,48,48,48,48,48,48,48,48,48,48,52,49,52,49,52,49,52,49,52,49,52,49,52,49,52,49,52,49,52,49,52,49,52,49,52,49,52,49,52,49,52,49]⟩,.string ⟨#[48,32,45,49,32,48,32,48]⟩,.string ⟨#[101,114,114,111,114,32,49,49]⟩] 9)) (S ⟨w,0,O⟩) 4 λk=>bytesOf (yJ.getD k []):=λk a=>by
  refine⟨_,0,rfl,?_⟩;rw[jak,cell_of_row _ _ _ _ _ _ (heap_alloc_new _ _)]
  match k,a with
  | 0,_=>rfl
  | 1,_=>rfl
  | 2,_=>rfl
  | 3,_=>rfl
def CS(c p):KOk (fJ c p):=λj a=>by cases a
def Rj(w)(g:Vars w):κ prog 21 #[(2:Int),(2:Int),.slice (S ⟨w,0,O⟩) 4 4] (w.alloc (.cells #[.string ⟨#[102,105,108,108,32,49,32,49,32,54,53]⟩,.string ⟨#[114,101,97,100,32,48,32,50]⟩,.string ⟨#[115,116,97,116,117,115]⟩,.string ⟨#[102,108,121]⟩] 9)) λe w'=>∃(a:Option Addr) (b:Nat),e=.returned (.tuple #[.slice a 4 b,.nilIface])/\oN w' a 4 (λk=>bytesOf (yJ.getD k []))/\β w w w':=by
 have c:β _ w (w.alloc (.cells #[.string ⟨#[102,105,108,108,32,49,32,49,32,54,53]⟩,.string ⟨#[114,101,97,100,32,48,32,50]⟩,.string ⟨#[115,116,97,116,117,115]⟩,.string ⟨#[102,108,121]⟩] 9)):=(ja0 _ _).alloc (ja1 _) _;refine(JO  2 2 _ _ (by decide) (g.below c) (Ri w) (by decide) (by decide) (CS 2 2)).mono ?_;rintro e w' ⟨a,b,rfl,d,f⟩;rw[Rf] at d;exact⟨a,b,rfl,Dh d rfl,c.trans (f.mono c.size)⟩
def vZ(w)(j:Vars w):κ prog 20 #[] w λe w'=>e=.returned true/\β w w w':=by
 have m:χ (∀(a:Option Addr) (c:Nat) (W:ω),oN W a 4 (λk=>bytesOf (yJ.getD k []))->κ prog 23 #[.slice a 4 c,.slice (S ⟨W,0,O⟩) 4 4] (W.alloc (.cells #[.string ⟨#[111,107]⟩,.string ⟨#[48,48,48,48,48,48,48,48,48,48,48,48,48,48,48,48,48,48,48,48,48,48,48,48,48,48,48,48,48,48,48,48,52,49,52,49,52,49,52,49,52,49,52,49,52,49,52,49,52,49,52,49,52,49,52,49,52,49,52,49,52,49,52,49]⟩,.string ⟨#[48,32,45,49,32,48,32,48]⟩,.string ⟨#[101,114,114,111,114,32,49,49]⟩] 9)) λe w'=>e=.returned true/\β W W w'):=λa c W d=>by
  have b:β W W (W.alloc (.cells #[.string ⟨#[111,107]⟩,.string ⟨#[48,48,48,48,48,48,48,48,48,48,48,48,48,48,48,48,48,48,48,48,48,48,48,48,48,48,48,48,48,48,48,48,52,49,52,49,52,49,52,49,52,49,52,49,52,49,52,49,52,49,52,49,52,49,52,49,52,49,52,49,52,49,52,49]⟩,.string ⟨#[48,32,45,49,32,48,32,48]⟩,.string ⟨#[101,114,114,111,114,32,49,49]⟩] 9)):=(ja0 _ _).alloc (ja1 _) _;exact(DJ _ (d.below b) (Rk W) (by omega)).mono λe w' ⟨l,i⟩=>⟨l,b.trans (i.mono b.size)⟩
 go_enter func20,ntmps20;go_wp2_with fail;refine(Rj w j).mono ?_;rintro e g ⟨a,c,rfl,d,b⟩;have f:=ah b;go_wp2_with fail;refine cSt ((λW:ω=>JY 0 W) _) ?_;go_wp2_with fail;refine cHd (m.out a c g d) λW n=>?_
 go_wp2;go_ret;exact⟨rfl,f.out.trans (n.out.mono f.out.size)⟩
def Oc{la len cap}(c p:Int)(w)(a:Vars w)(d:90<len) :
  κ prog 5 #[c,p,.slice la len cap] w λe w'=>e=.returned true/\β w w w':=by
 have f:(90:Int)<(len:Int):=by omega
 go_enter func5,ntmps5;go_wp2_with fail;refine cHd (vZ w a) λg b=>?_
 go_wp2;go_ret;exact⟨rfl,b.out⟩
def Ob{la len cap ls}(c p:Int)(w)(o:Vars w)(l:Texts w la len ls)(A:len<=90)(d)(z:d<len)(m:300<(ls.getD d ByteArray.empty).size) :
  κ prog 5 #[c,p,.slice la len cap] w λe w'=>e=.returned true/\β w w w':=by
 have q:=ah l;go_enter func5,ntmps5;go_wp2_with fail;refine cHd (vZ w o) λx f=>?_
 go_wp2;go_loop [8] (λi=>∃ k:Nat,k<=d/\i=.int .i64 (k:Int)) (λi=>len-(intOf i).toNat)
 case atStart=>exact⟨0,by omega,rfl⟩
 case round =>
  obtain⟨k,u,rfl⟩:=hrel;have j:k<len:=by omega
  obtain⟨b,y,rfl,g,_⟩:=(q.out.below f.out).2 k j;have v:(k:Int)<(len:Int):=by omega
  have r:(0:Int)<=(k:Int):=by omega
  by_cases a:300<(ls.getD k ByteArray.empty).size
  .generalize ls.getD k _=s at g a;have n:(300:Int)<(s.size:Int):=by omega
   go_wp2;go_ret;exact⟨rfl,f.out⟩
  .have t:k≠d:=λe=>by rw[e] at a;exact a m
   generalize ls.getD k _=s at g a;have n:¬(300:Int)<(s.size:Int):=by omega
   go_wp2;go_round
   case rel=>exact⟨k+1,by omega,by go_num⟩
   case measure=>simp[intOf];omega
def Oe{la len cap ls}(c p:Int)(w)(D:Vars w)(q:Texts w la len ls)(v:la=O->cap=0)(V:len<=90)(B:∀ j,j<len->(ls.getD j ByteArray.empty).size<=300)
  (z:∀g d W,κ prog 21 #[c,p,.slice (S ⟨g,0,O⟩) len d] W λe w'=>e=.returned (.tuple #[.slice O 0 0,.iface 96 (.int .i64 1)])/\β W W w')
  (t:∀ W,κ prog 9 #[c,p] W λe w'=>∃(n:Option Addr) (f:Int),e=.returned (.tuple #[.pointer n,f])/\(f=1\/f=0/\80<len)/\β W W w') :
  κ prog 5 #[c,p,.slice la len cap] w λe w'=>e=.returned true/\β w w w':=by
 have U:=ah (vZ w D);have Z:=ah q;have H:=ah B;have N:=ah v;have K:=ah z;have X:=ah t;have P:=ah (λW:ω=>JX 1 W (by omega));clear D q B v z t;go_enter func5,ntmps5;go_wp2_with fail;refine cHd U.out λI a=>?_
 have x:=ah (Z.out.below a.out);have k9:¬(90:Int)<(len:Int):=by omega
 go_wp2;go_loop [8] (λi=>∃ k:Nat,k<=len/\i=.int .i64 (k:Int)) (λi=>len-(intOf i).toNat)
 case atStart=>exact⟨0,by omega,rfl⟩
 case round =>
  obtain⟨k,hk,rfl⟩:=hrel;by_cases l:k<len
  .obtain⟨b,a3,rfl,J,_⟩:=x.out.2 k l;have Q:=H.out k l;have G:(k:Int)<(len:Int):=by omega
   have k1:(0:Int)<=(k:Int):=by omega
   generalize ls.getD k ByteArray.empty=s at J Q;have k2:¬(300:Int)<(s.size:Int):=by omega
   go_wp2;go_round
   case rel=>exact⟨k+1,by omega,by go_num⟩
   case measure=>simp[intOf];omega
  .have E:k=len:=by omega
   subst E;have G:¬(k:Int)<(k:Int):=by omega
   obtain⟨v1,w1,g,a2,Y,A,m,u,a1,M,hg,_⟩:=Df I la k cap ls x.out N.out V;unfold maxLen at M;have R:χ (β w w Y):=a.out.trans (u.mono a.out.size);have y:=ah A;have r:=ah m;clear u A m;go_wp2_with (first|(at_builtin;refine wpList_append_run' rfl _ _ 44 44 rfl rfl rfl rfl y.out ?_)|(at_builtin;refine wpList_append_run' rfl _ _ 44 44 rfl rfl rfl rfl r.out ?_))
   clear y r;refine cBl (K.out _ _ _) R.out λF o=>?_
   go_wp2_with fail;refine(X.out F).mono ?_;rintro e w4 ⟨n,f,rfl,L,C⟩;have T:χ (β w w w4):=o.out.trans (C.mono o.out.size);clear C;rcases L with rfl|⟨rfl,a0⟩
   all_goals
    go_wp2_with fail;refine cSt (P.out _) ?_;go_wp2;go_ret;exact⟨rfl,T.out⟩
def je(ls:List ByteArray):List (List UInt8):=ls.map λb=>b.data.toList
def Ie(ls k):bytesOf ((je ls).getD k [])=ls.getD k ByteArray.empty:=by
 unfold je;rw[ja6,jaz,ja6]
 cases ls[k]? with
 | none=>rfl
 | some b=>simp[bytesOf]
def Oa{la len cap ls}(c p w)(hv:Vars w)(Q:Texts w la len ls)(ae:la=O->cap=0)(b8:len<=80)(a8:∀ j,j<len->(ls.getD j ByteArray.empty).size<=300)(C:(newH c p).ok=true) :
  κ prog 5 #[c,p,.slice la len cap] w λe w'=>e=.returned true/\β w w w':=by
 have HH:=ah (vZ w hv);have HV:=ah (λW (A:β w w W)=>hv.below A);have HT:=ah Q;have HA:=ah a8;have HN:=ah ae;have al:=ah (λW:ω=>JY 0 W);have M:(je ls).length=len:=by unfold je;rw[jaX];exact Q.1
 have hx:∀ l∈je ls,l.length<=1000:=λl J=>by
  obtain⟨b,A,rfl⟩:=List.mem_map.1 J;obtain⟨j,v,e⟩:=List.getElem_of_mem A;have:=a8 j (by rw[<- Q.1];exact v)
  rw[ja6,ja5 v] at this;simp[e] at this;show b.data.toList.length<=1000
  have D:b.data.toList.length=b.size:=by simp
  omega
 have hC:COk (fJ c p) 0:=⟨⟨c.toNat,IK C (yR C)⟩,CS c p⟩
 have I:χ (∀(g E:Nat) (W:ω),Vars W->(∀ j,j<len->W.cell? ⟨g,j,O⟩=S (.string (ls.getD j ByteArray.empty)))->κ prog 21 #[c,p,.slice (S ⟨g,0,O⟩) len E] W λe w'=>∃(a:Option Addr) (n:Nat),e=.returned (.tuple #[.slice a len n,.nilIface])/\oN w' a len (λk=>bytesOf ((jm (fJ c p) (je ls)).getD k []))/\β W W w'):=λg E W hV b6=>by
  have hr:=JO (cap:=E) (la:=S ⟨g,0,O⟩) c p (je ls) W C hV (λj v=>⟨g,0,rfl,by rw[jak,b6 j (by omega),Ie]⟩) (by omega) hx (CS c p);rw[M] at hr;exact hr.mono λe w' ⟨a,n,P,G,h3⟩=>⟨a,n,P,Dh G (by rw[Dz,M]),h3⟩
 have L:χ (∀ W:ω,κ prog 9 #[c,p] W λe w'=>∃ t:Nat,e=.returned (.tuple #[t,(0:Int)])/\mW W t (kZ (fJ c p) ((je ls).take 0)) (.slice O 0 0) 0 (fU (jm (fJ c p) ((je ls).take 0))) w'):=λW=>(MJ c p W C).mono λe w' ⟨t,P,b4,Z,G,hz,J,v⟩=>⟨t,P,Z,G,hz,jaa _ _ _ _,λg o e=>⟨(J g o e).2,λD=>by cases D⟩,λg o e=>(by rw[v] at e;cases e),λr e=>(by cases e),b4⟩
 have Y:χ (∀(f:ω) (t k:Nat) (a:Option Addr) (n:Nat) (W:ω),k<len->mW f t (kZ (fJ c p) ((je ls).take k)) (.slice a k n) k (fU (jm (fJ c p) ((je ls).take k))) W->∃ T:ByteArray,χ (fU (jm (fJ c p) ((je ls).take (k+1)))=fU (jm (fJ c p) ((je ls).take k))++[.string T])/\κ prog 22 #[t,.string (ls.getD k ByteArray.empty)] W λe w'=>∃ z:Nat,e=.returned (.tuple #[T,z])/\mW f z (kZ (fJ c p) ((je ls).take (k+1))) (.slice a k n) k (fU (jm (fJ c p) ((je ls).take k))) w'):=λf t k a n W ba aE=>by
  obtain⟨e1,D⟩:=JM (y:=fJ c p) (ls:=je ls) (k:=k) (by omega);refine⟨bytesOf (dG (kZ (fJ c p) ((je ls).take k)) ((je ls).getD k [])).1,?_,?_⟩
  .unfold χ;rw[D,<- xB]
  .rw[e1,<- Ie];have hq:=DC ((je ls).take k) hC (by rw[jay];omega);refine aE.next (q:=0+((je ls).take k).length) _ hq (by rw[jay];omega) (hx _ ?_);have ao:k<(je ls).length:=by omega
   simp[List.getD,ao]
 have HE:χ ((je ls).take len=je ls):=jaf (by omega);have H:χ ((jm (fJ c p) (je ls)).length=len):=by unfold χ;rw[Dz,M]
 generalize fJ c p=y0 at I L Y H;generalize je ls=LL at I L Y H HE;go_enter func5,ntmps5;go_wp2_with fail;refine cHd HH.out λws N=>?_
 have U:=ah (HT.out.below N.out);go_wp2;go_loop [8] (λi=>∃ k:Nat,k<=len/\i=.int .i64 (k:Int)) (λi=>len-(intOf i).toNat)
 case atStart=>exact⟨0,by omega,rfl⟩
 case round =>
  obtain⟨k,C,rfl⟩:=hrel;by_cases B:k<len
  .obtain⟨b,V,rfl,R,_⟩:=U.out.2 k B;have hs:=HA.out k B;have k0:(k:Int)<(len:Int):=by omega
   have k1:(0:Int)<=(k:Int):=by omega
   generalize ls.getD k ByteArray.empty=s at R hs;have k2:¬(300:Int)<(s.size:Int):=by omega
   go_wp2;go_round
   case rel=>exact⟨k+1,by omega,by go_num⟩
   case measure=>simp[intOf];omega
  .have aD:k=len:=by omega
   rw[aD];have k0:¬(len:Int)<(len:Int):=by omega
   obtain⟨v1,w1,g,E,F,ap,ab,a6,b9,af,hg,a3⟩:=Df ws la len cap ls U.out HN.out (by omega);unfold maxLen at af;have X:χ (β w w F):=N.out.trans (a6.mono N.out.size);have av:=ah (U.out.below a6);have a7:=ah a3;have b0:=ah ap;have aR:=ah ab;have aa:=ah (λd=>I.out g d F (HV.out F X.out) a3);go_wp2_with (first|(at_builtin;refine wpList_append_run' rfl _ _ 44 44 rfl rfl rfl rfl b0.out ?_)|(at_builtin;refine wpList_append_run' rfl _ _ 44 44 rfl rfl rfl rfl aR.out ?_))
   refine(aa.out _).mono ?_;rintro e f ⟨oa,ag,rfl,aM,a0⟩;have a9:=ah (av.out.below a0);have ax:=ah aM;have aq:χ (oN f (S ⟨g,0,O⟩) len λj=>ls.getD j ByteArray.empty):=λj v=>⟨g,0,rfl,by rw[jak,a0.cell (p:=⟨g,j,O⟩) (ja2 F _ (a7.out j v))];exact a7.out j v⟩
   have a1:χ (β w w f):=X.out.trans (a0.mono X.out.size);go_wp2_with fail;refine(L.out f).mono ?_;rintro e w4 ⟨t,rfl,x⟩;have b7:=ah x;go_wp2;go_loopw [12,14,15,16,17] (λm u i _ _ wr=>∃(j z:Nat) (a:Option Addr) (n:Nat),j<=len/\m=.pointer (S ⟨z,0,O⟩)/\i=.int .i64 (j:Int)/\u=.slice a j n/\mW f z (kZ y0 (LL.take j)) (.slice a j n) j (fU (jm y0 (LL.take j))) wr) (λ_ _ i _ _ _=>len-(intOf i).toNat)
   case atStart=>exact⟨0,t,O,0,by omega,rfl,rfl,rfl,b7.out⟩
   case round =>
    obtain⟨j,z,a,n,v,rfl,rfl,rfl,x⟩:=hrel;by_cases B:j<len
    .obtain⟨b,V,rfl,R,_⟩:=(a9.out.below x.bel).2 j B;obtain⟨T,b3,hS⟩:=Y.out f z j a n wr B x;have q0:(j:Int)<(len:Int):=by omega
     have q1:(0:Int)<=(j:Int):=by omega
     have HS:=ah hS;generalize ls.getD j ByteArray.empty=s at R HS;go_wp2_with fail;refine HS.out.mono ?_;rintro e w5 ⟨zr,rfl,K⟩;have b5:=ah K;have HO:=ah K.own;have b1:χ (f.heap.size<=w5):=K.bel.size;go_wp2_with (at_builtin;refine uH vS (by rfl) _ _ (by rfl) f.heap.size w5 _ _ _ _ (by rfl) (by rfl) HO.out rfl (by omega) b1.out λg3 am w6 aw ar az an=>?_)
     have a5:=b5.out.put aw ar az an;rw[<- b3.out] at a5;have b2:=ah a5;go_wp2;go_roundw
     case rel=>exact⟨j+1,zr,S ⟨g3,0,O⟩,am,by omega,rfl,by go_num,rfl,b2.out⟩
     case measure=>simp[intOf];try omega
    .have ad:j=len:=by omega
     rw[ad] at x |-;rw[HE.out] at x;have q0:¬(len:Int)<(len:Int):=by omega
     have a2:χ (β f f wr):=x.bel;have ac:χ (κ prog 23 #[.slice oa len ag,.slice a len n] wr λe w'=>e=.returned true/\β wr wr w'):=DJ wr (ax.out.below a2.out) (Dh x.own H.out) (by omega)
     have aL:χ (∀(d:Nat) (W:ω),β f f W->κ prog 23 #[.slice (S ⟨g,0,O⟩) len d,.slice la len cap] W λe w'=>e=.returned true/\β W W w'):=λd W A=>DJ W (aq.out.below A) (λi hi=>by
      obtain⟨b,V,e,hc,_⟩:=(a9.out.below A).2 i hi
      exact⟨b,V,e,hc⟩) (by omega)
     go_wp2_with fail;refine cSt (al.out _) ?_;go_wp2_with fail;refine cBl ac.out a2.out λw6 a4=>?_
     go_wp2_with fail;refine cBl (aL.out _ w6 a4.out) a4.out λw7 ai=>?_
     go_wp2;go_ret;exact⟨rfl,a1.out.trans (ai.out.mono a1.out.size)⟩
def Oh(c p:Int)(la len cap ls w)(l:Texts w la len ls)(m:la=O->cap=0)(f:Vars w) :
  κ prog 5 #[c,p,.slice la len cap] w λe w'=>e=.returned true/\β w w w':=by
 by_cases s:90<len
 .exact Oc c p w f s
 by_cases k:∀ j,j<len->(ls.getD j ByteArray.empty).size<=300
 .by_cases b:(newH c p).ok=true
  .by_cases n:80<len
   .exact Oe c p w f l m (by omega) k (λg d W=>WT c p W b n) λW=>(MJ c p W b).mono λe w' ⟨t,i,a⟩=>⟨_,_,i,.inr ⟨rfl,n⟩,a.1⟩
   .exact Oa c p w f l m (by omega) k b
  .exact Oe c p w f l m (by omega) k (λg d W=>WJ c p W b) λW=>(kam c p W b).mono λe w' ⟨i,a⟩=>⟨_,_,i,.inl rfl,a⟩
 .have:∃ j,j<len/\300<(ls.getD j ByteArray.empty).size:=jag λh=>k λj o=>Nat.le_of_not_lt λq=>h ⟨j,o,q⟩
  obtain⟨r,i,a⟩:=this;exact Ob c p w f l (by omega) r i a
open Go.ChangeMaps (open_string shut_string)
def YI{w:ω}{a:Addr}{c:List ByteArray}(h:∀ i,i<c.length->w.cell? (a.add i)=S (.string (c.getD i ByteArray.empty)))(f:0<c.length) :
  ∃ b d,a=⟨b,d,O⟩/\∀ j,j<c.length->w.cell? ⟨b,d+j,O⟩=S (.string (c.getD j ByteArray.empty)):=by
 obtain⟨b,d,k⟩:=a;have g:k=none:=by simpa [Addr.add] using World.cell?_spot (h 0 f)
 subst g;exact⟨b,d,rfl,λj l=>by rw[<- Go.WideShapes.add_plain];exact h j l⟩
def UK{H}{enc:TypeId × υ->H}{w la len cap o x}(j:DataW.trod enc prog w 0 (λ_=>true) true o 44 [.slice la len cap]=S x):∃ ls,Texts w la len ls/\(la=O->cap=0)/\len<=maxLen:=by
 rcases open_strings underlying44 underlying9 (by kernel_rfl) j with⟨d,_⟩|⟨x,l,c,a,d,_,t,u,s,_,r,i⟩
 .obtain⟨rfl,rfl,rfl⟩:=d;exact⟨[],⟨rfl,λk g=>by omega⟩,λ_=>rfl,by omega⟩
 .obtain⟨rfl,rfl,rfl⟩:=d;have v:a.length=cap:=by simpa using s
  refine⟨a.take len,⟨by simp_all,λk g=>?_⟩,(λe=>by cases e),by omega⟩;obtain⟨b,m,rfl,q⟩:=YI r (by omega);have f:(a.take len).getD k ByteArray.empty=a.getD k ByteArray.empty:=by simp[List.getD,g]
  refine⟨b,m,rfl,by rw[f];exact q k (by omega),?_⟩;rw[f];have n:k<a.length:=by omega
  have:a.getD k ByteArray.empty=a[k]:=by simp_all
  rw[this];exact i _ (jad n)
