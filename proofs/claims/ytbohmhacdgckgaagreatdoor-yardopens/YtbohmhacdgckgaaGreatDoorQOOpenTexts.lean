/- Both yards, opened on devices that stand alike. -/
import Derived.Test.YtbohmhacdgckgaaGreatDoorQOLawDv2
import Derived.SliceStrings
set_option linter.all false
set_option maxHeartbeats 2000000
set_option maxRecDepth 100000
namespace Go.Proofs.YtbohmhacdgckgaaGreatDoor
open Go.RowKit renaming Below->β
open Go renaming World->ω, Value->υ, Calls->κ
open Option renaming none->O, some->S
open Go.Proofs.Tryz Go.RowKit Go.Maps Go.ChangeShapes Go.WideShapes Go.ChangeAt
attribute [local go_sem ↓] Go.wp_at_zero Go.wp_at_succ
def Xk{w W c f:ω}{i l:Nat}{Y:Yh}{Z:Zh}{y:YV}(n:β w w W)(v:β W W c)(j:β c c f)(g:aB c i Y y)(z:aC f l Z y)
  (u:∀ k,fpY i Y y k->W.heap.size<=k) (r:∀ q o,Y.jb.a=S ⟨q,o,O⟩->W.heap.size<=q/\q<c.heap.size) (m:∀ k,fpZ l Z y k->w.heap.size<=k/\(k<W.heap.size\/c.heap.size<=k)) (s:∀ q o,Z.la=S ⟨q,o,O⟩->c.heap.size<=q/\q<f.heap.size) (x:∀ q o,Z.jb.a=S ⟨q,o,O⟩->c.heap.size<=q/\q<f.heap.size):YZ (Gd.of w.heap.size) w f i Y y l Z y:=by
 have t:=n.size;have B:=j.size;refine⟨g.below j,z,λk d b=>?_,λq o e b=>?_,λq o e=>?_,λq o e b=>?_,λq o e=>(s q o e).2,λq o e b=>?_,λq o e=>(x q o e).2,λk d b=>?_,λk d b=>?_,Below.kept (n.trans ((v.mono t).trans (j.mono (ja4 t v.size)))),ja1 _⟩
 .have:=g.fF d;have:=m k b;have:=u k d;omega
 .have:=r q o e;have:=m q b;omega
 .have:=(r q o e).2;omega
 .have:=(s q o e).1;have:=g.fF b;omega
 .have:=(x q o e).1;have:=g.fF b;omega
 .have:=u k d;have A:k<w.heap.size:=b;omega
 .have:=m k d;have A:k<w.heap.size:=b;omega
def WY{w W:ω}{g o cap:Nat}{B:Nat}{D:Nat->DV}{t:DV}{K:Nat->Hd}{A:Hd}{qs:Nat->Rh}{u:Rh}(r:β w w W)(S:nD W g o 5 K)(hd:∀ i,i<5->aO B W (K i) (D i))(Q:aO B W A t)(F:∀ i,i<5->dA w.heap.size W (qs i) (D i))(z:dA w.heap.size W u t)
    (R:∀ i j,i<5->j<5->i≠j->∀ k,(qs i).fp k->¬(qs j).fp k) (P:∀ i,i<5->∀ k,u.fp k->¬(qs i).fp k) (E:∀ i,(D i).fine (D i).fl.length 0) (y:t.fine t.fl.length 0) :
    (∃ f:Int,0<=f/\κ prog 18 #[.slice (some ⟨g,o,none⟩) 5 cap,A.p] W λe c=>e=.returned (.tuple #[.pointer none,erV f])/\β W W c /\
      ∀ a:ω,β c c a->κ prog 19 #[.agg #[(qs 0).p,(qs 1).p,(qs 2).p,(qs 3).p,(qs 4).p],u.p] a λe s=>e=.returned (.tuple #[.pointer none,f])/\β w w s) \/
    κ prog 18 #[.slice (some ⟨g,o,none⟩) 5 cap,A.p] W λe c=>∃ x:Nat,e=.returned (.tuple #[x,.nilIface])/\β W W c /\
      ∀ a:ω,β c c a->κ prog 19 #[.agg #[(qs 0).p,(qs 1).p,(qs 2).p,(qs 3).p,(qs 4).p],u.p] a λe s=>∃ v:Nat,e=.returned (.tuple #[v,(0:Int)])/\YS w x v 0 s:=by
  have H:=Wj (cap:=cap) W S (λi n=>(hd i n).toG.noG) Q.toG.noG E y
  have J:=λa (d:β _ W a)=>WZ a (λi n=>((F i n).keep λb e=>d.block b ((F i n).lt b e).2).toG.noG) ((z.keep λb e=>d.block b (z.lt b e).2).toG.noG) R P E y
  by_cases T:jo D t=0
  . right
    refine H.mono λe c ⟨l,m⟩=>?_
    rcases m with⟨N,_⟩|⟨_,x,Yq,rfl,U,V,L⟩
    . omega
    refine⟨x,rfl,l,λa d=>?_⟩
    have C  := l.trans (d.mono l.size);refine(J a C).mono λe s ⟨G,m⟩=>?_
    rcases m with⟨N,_⟩|⟨_,v,Zq,rfl,a0,Z,zl,O⟩
    . omega
    obtain⟨M,X⟩:=F5 E y T;have z1:=C.size;refine⟨v,rfl,M,Yq,Zq,_,Xk r C G (U.below d) a0 V (λq o e=>⟨(L q o e).1,ja9 (L q o e).2 d.size⟩) (λk e=>?_) zl O,X.more (by omega)⟩
    have z0:=r.size;rcases Z k e with⟨i,n,e⟩|e|e
    . have:=(F i n).lt k e;omega
    . have:=z.lt k e;omega
    . omega
  . left
    refine⟨jo D t,PX _ _,?_⟩;refine H.mono λe c ⟨l,m⟩=>?_
    rcases m with⟨_,rfl⟩|⟨Y,_⟩
    . refine⟨rfl,l,λa d=>(J a (l.trans (d.mono l.size))).mono λe s ⟨G,m⟩=>?_⟩
      rcases m with⟨_,rfl⟩|⟨Y,_⟩
      . have I:=l.trans (d.mono l.size)
        exact⟨rfl,r.trans ((I.mono r.size).trans (G.mono (ja4 r.size I.size)))⟩
      . omega
    . omega
def w16:ByteArray:=⟨#[48,49,50,51,52,53,54,55,56,57,97,98,99,100,101,102]⟩
def wk0:(newH 2 2).ok=true:=by kernel_rfl
def wk1:(lG 2 2).dJ 3 w16=0:=by kernel_rfl
def wk2:((lG 2 2).write 3 w16).s.aW ((lG 2 2).write 3 w16).l 3 1=0:=by kernel_rfl
def wk3:(((lG 2 2).write 3 w16).s.ji ((lG 2 2).write 3 w16).l 3 1).data.toList=w16.data.toList:=by kernel_rfl
def wk4:((lG 2 2).write 3 w16).s.ji ((lG 2 2).write 3 w16).l 3 1=w16:=by
 have a:=Array.toList_inj.1 wk3;generalize ((lG 2 2).write 3 _).s.ji _ 3 1=T at a;cases T
 simp_all
def CP(w:ω):κ prog 6 #[] w λe o=>e=.returned true/\β w w o:=by
 have q:Hid (κ prog 8 #[(2:Int),(2:Int)] w λe c=>∃ a:Nat,e=.returned (.tuple #[a,.nilIface]) /\
   κ prog 24 #[a,(3:Int),.string ⟨#[48,49,50,51,52,53,54,55,56,57,97,98,99,100,101,102]⟩] c λe f=>e=.returned .nilIface /\
    κ prog 25 #[a,(3:Int),(1:Int)] f λe d=>e=.returned (.tuple #[.string ⟨#[48,49,50,51,52,53,54,55,56,57,97,98,99,100,101,102]⟩,.nilIface]) /\
     κ prog 26 #[a] d λe w4=>e=.returned (8:Int)/\β w w w4):=by
  have m:=FK wk0 (xP wk0);have k:YOk _ _ (20+700):=(m.write 3 w16 (by decide)).more (by decide)
  refine(Jl 2 2 w wk0 (xP wk0)).mono λe c ⟨a,Y,t,y,n,l⟩=>⟨a,t,?_⟩
  refine(Jr 3 w16 c y m (by decide) (by decide) (by decide) (by decide)).mono λe f ⟨z,hd⟩=>⟨by rw[z,wk1,aN],?_⟩
  obtain⟨A,_,j,r⟩:=hd.out;have g  := l.trans (r.below l.size n);refine(CW 3 1 f j k (by decide) (by decide)).mono λe d ⟨u,i⟩=>⟨by rw[u,wk2,wk4,aN];rfl,?_⟩
  refine(Jm d (j.below i) k).mono λe w4 ⟨x,v⟩=>⟨x,?_⟩
  exact(g.trans (i.mono g.size)).trans (v.mono (ja4 g.size i.size))
 go_enter func6,ntmps6
 go_wp2_with fail
 refine q.out.mono ?_;rintro e c ⟨a,rfl,b⟩;go_wp2_with fail
 refine cEq b λf b=>?_
 go_wp2_with fail
 refine cEq b λd b=>?_
 go_wp2_with (first
  | (go_at_call 10;refine cSt ((λW=>zU 0 W) _) ?_)
  | (go_at_call 26;refine cHd b λw4 s=>?_))
 go_ret
 exact⟨rfl,s.out⟩
section
variable {H:Type} {enc:TypeId × Value->H}
def PZ{w:ω}{f:Nat}{a:List υ}{x:DataW H × List MemPlace}(h:DataW.trod enc prog w 0 (λ_=>true) true f 36 a=S x) :
  ∃ b:Int,a[2]?=S (b:υ) /\ -9223372036854775808<=b/\b<=9223372036854775807:=by
 obtain⟨k,n,_,_,i,m,g⟩:=DataW.trod_struct underlying36 h;have j:a.length=7:=by rw[i];kernel_rfl
 have c3:prog.cellsOf 3=1:=by kernel_rfl
 match a,j,k,m with
 | [v0,v1,v2,v3,v4,v5,v6],_,[y0,y1,y2,y3,y4,y5,y6],_ =>
  have d:DataW.trod enc prog w 0 (λ_=>true) true n 3 [v2]=S y2:=by simpa [c3] using g 2 _ rfl
  obtain⟨o,c,_,l⟩:=jbb underlying3 d;simp only[List.cons.injEq,and_true] at c;subst c;have q:=bounds_i64 l
  simp_all
def uI(a:List aT):Prop:=∀ k,k<a.length -> -9223372036854775808<=(a.getD k aT.none_).b/\(a.getD k aT.none_).b<=9223372036854775807
def P7{w:ω}{j:Option Addr}{len cap B:Nat}{x:DataW H × List MemPlace}(h:DataW.trod enc prog w 0 (λ_=>true) true B 22 [.slice j len cap]=S x) :
  ∃ c,lJ w j len c/\len<=maxLen/\uI c:=by
 obtain⟨c,d,q⟩:=P6 h;refine⟨c,d,q,λk E=>?_⟩
 have r:k<len:=by have:=d.1;omega
 obtain⟨b,f,e,z,_⟩:=d.2 k r;rcases Go.Deep.open_slice underlying22 h with⟨i,_⟩|⟨a,F,C,m,n,D,Pl,i,_,G,K,s,_,A⟩
 .simp_all
 .obtain⟨rfl,rfl,rfl⟩:=i
  cases e
  have t:prog.cellsOf 36=7:=by kernel_rfl
  subst s;obtain⟨I,v,o⟩:=A k (by omega)
  obtain⟨J,y,L⟩:=PZ o;obtain⟨_,_,l⟩:=World.cells?_some v;rw[t] at l;have g:=l 2 (by omega)
  rw[y,Go.Deep.add_add,Go.WideShapes.add_plain] at g;have u:=z 2 _ rfl;rw[show f+k*7+2=f+(k*7+2) by omega,g] at u
  simp_all
end
def Wi(k:Option Addr)(a o:Nat)(i:List ByteArray)(top:ByteArray)(j:Option Addr)(len cap:Nat)(g:List aT)(w:ω)(u:Texts w k a i)(v:a<=maxLen)(A:top.size<=maxLen)(y:lJ w j len g)(r:len<=maxLen)(l:5<a\/mX g 30=false\/sW i 3300=false\/100<top.size) :
  κ prog 4 #[.slice k a o,top,.slice j len cap] w λe c=>e=.returned true/\β w w c:=by
 have t:=ah (CP w);have n:Hid (∀ W:ω,β w w W->κ prog 7 #[.slice j len cap,(30:Int)] W λe c=>e=.returned (.bool (mX g 30))/\c=W):=λW m=>AB j len cap 30 g W (y.below m) r (by omega)
 have s:Hid (∀ W:ω,β w w W->κ prog 16 #[.slice k a o,(3300:Int)] W λe c=>e=.returned (.bool (sW i 3300))/\c=W):=λW m=>Js k a o i W (u.below m) v
 unfold maxLen at v A;clear y u r;generalize mX g 30=lb at n l;generalize sW i 3300=z at s l;go_enter func4,ntmps4
 go_wp2_with fail
 refine t.out.mono ?_;rintro e D ⟨rfl,x⟩;have d:=ah x;clear x t;by_cases E:5<a
 .have B:decide (5<(a:Int))=true:=decide_eq_true (by omega)
  go_wp2
  go_ret
  exact⟨rfl,d.out⟩
 have B:decide (5<(a:Int))=false:=decide_eq_false (by omega)
 cases lb with
 | false =>
  go_wp2_with fail
  refine(n.out _ d.out).mono ?_;rintro e c ⟨rfl,b⟩;have f:=b.symm;subst f;clear b;go_wp2
  go_ret
  exact⟨rfl,d.out⟩
 | true =>
  go_wp2_with fail
  refine(n.out _ d.out).mono ?_;rintro e c ⟨rfl,b⟩;have f:=b.symm;subst f;clear b;go_wp2_with fail
  refine(s.out _ d.out).mono ?_;rintro e c ⟨rfl,b⟩;have f:=b.symm;subst f;clear b
  cases z with
  | false =>
   go_wp2
   go_ret
   exact⟨rfl,d.out⟩
  | true =>
   have C:decide (100<(top.size:Int))=true:=decide_eq_true (by
    rcases l with q|q|q|q
    .omega
    .cases q
    .cases q
    .omega)
   go_wp2
   go_ret
   exact⟨rfl,d.out⟩
def VI:(prog.info? 49).map (·.size)=S 5:=by kernel_rfl
def VH:(prog.info? 36).map (·.size)=S 7:=by kernel_rfl
def Qa{w c a s w4 d:ω}{v:List ByteArray}{top:ByteArray}{z q:Nat->Hd}{qs t:Nat->Rh}{cap:Nat}(F:β w w c)(K:xH c a v z qs)(H:β a a s)(O:xH s w4 [top] q t)(j:β w4 w4 d)(P:nD s a.heap.size 0 5 z) :
    (∃ f:Int,0<=f/\κ prog 18 #[.slice (S ⟨a,0,none⟩) 5 cap,(q 0).p] d λe c=>e=.returned (.tuple #[.pointer none,erV f])/\β d d c /\
      ∀ l:ω,β c c l->κ prog 19 #[.agg #[(qs 0).p,(qs 1).p,(qs 2).p,(qs 3).p,(qs 4).p],(t 0).p] l λe a=>e=.returned (.tuple #[.pointer none,f])/\β w w a) \/
    κ prog 18 #[.slice (S ⟨a,0,none⟩) 5 cap,(q 0).p] d λe c=>∃ G:Nat,e=.returned (.tuple #[G,.nilIface])/\β d d c /\
      ∀ l:ω,β c c l->κ prog 19 #[.agg #[(qs 0).p,(qs 1).p,(qs 2).p,(qs 3).p,(qs 4).p],(t 0).p] l λe a=>∃ y:Nat,e=.returned (.tuple #[y,(0:Int)])/\YS w G y 0 a:=by
  obtain⟨x,n,I,C⟩:=K;obtain⟨E,r,R,u⟩:=O;have m:=F.size;have L:=C.size;have A:=H.size;have M:=u.size;have Q:=j.size;have o:β a a d:=H.trans ((u.mono A).trans (j.mono (ja4 A M)));have J:β w w d:=F.trans ((C.mono m).trans (o.mono (ja4 m L)));refine WY (D:=rJ v) (B:=w.heap.size) J ((P.below (by omega) u).below (by omega) j) (λi g=>((x i g).zA m).keep λb e=>o.block b ((x i g).lt b e).2) (((E 0 (by omega)).zA (by omega)).keep λb e=>j.block b ((E 0 (by omega)).lt b e).2) (λi g=>((n i g).base m).keep λb e=>o.block b ((n i g).lt b e).2) (((r 0 (by omega)).base (by omega)).keep λb e=>j.block b ((r 0 (by omega)).lt b e).2) I (λi g k N q2=>?_) (λi=>Gs _ _) (Gs _ _)
  have:=((r 0 (by omega)).lt k N).1
  have:=((n i g).lt k q2).2
  omega
def TY{b c:ω}{a:Nat->Hd}{qs:Nat->Rh}{top:ByteArray}(x:top.size<=100)(q:c=((b.alloc (.cells #[(a 0).p,(a 1).p,(a 2).p,(a 3).p,(a 4).p] 47)).alloc (.cells #[(qs 0).p,(qs 1).p,(qs 2).p,(qs 3).p,(qs 4).p] 49)).alloc (.cells #[top] 9)) :
  β b b c/\nD c b.heap.size 0 5 a/\Texts c (S ⟨b.heap.size+1+1,0,O⟩) 1 [top]/\c.rangeAt (b.heap.size+1) 0 [.pointer (S ⟨(qs 0).p,0,O⟩),.pointer (S ⟨(qs 1).p,0,O⟩),.pointer (S ⟨(qs 2).p,0,O⟩),.pointer (S ⟨(qs 3).p,0,O⟩),.pointer (S ⟨(qs 4).p,0,O⟩)]:=by
 have s:=(ja0 b.heap.size b).alloc (ja1 _) (.cells #[(a 0).p,(a 1).p,(a 2).p,(a 3).p,(a 4).p] 47);have w:=heap_alloc_new b (.cells #[(a 0).p,(a 1).p,(a 2).p,(a 3).p,(a 4).p] 47);have j:(b.alloc (.cells #[(a 0).p,(a 1).p,(a 2).p,(a 3).p,(a 4).p] 47)).heap.size=b.heap.size+1:=by simp
 generalize b.alloc (.cells #[(a 0).p,(a 1).p,(a 2).p,(a 3).p,(a 4).p] 47)=f at *
 have l:=(ja0 f.heap.size f).alloc (ja1 _) (.cells #[(qs 0).p,(qs 1).p,(qs 2).p,(qs 3).p,(qs 4).p] 49);have t:=heap_alloc_new f (.cells #[(qs 0).p,(qs 1).p,(qs 2).p,(qs 3).p,(qs 4).p] 49);have r:(f.alloc (.cells #[(qs 0).p,(qs 1).p,(qs 2).p,(qs 3).p,(qs 4).p] 49)).heap.size=f.heap.size+1:=by simp
 generalize f.alloc (.cells #[(qs 0).p,(qs 1).p,(qs 2).p,(qs 3).p,(qs 4).p] 49)=i at *
 have g:=(ja0 i.heap.size i).alloc (ja1 _) (.cells #[top] 9);have n:=heap_alloc_new i (.cells #[top] 9);rw[<- q] at g n;have o:c.heap[b.heap.size]?=_:=(g.block _ (by omega)).trans ((l.block _ (by omega)).trans w)
 have u:c.heap[b.heap.size+1]?=_:=(g.block _ (by omega)).trans (j▸t)
 have q2:c.heap[b.heap.size+1+1]?=S (.cells #[top] 9):=by rw[<- j,<- r];exact n
 refine⟨s.trans ((l.mono (by omega)).trans (g.mono (by omega))),λk m=>?_,⟨rfl,λk m=>⟨_,_,rfl,?_,?_⟩⟩,λk v d=>?_⟩
 .rw[cell_of_row c _ _ _ _ _ o]
  match k,m with
  | 0,_=>rfl
  | 1,_=>rfl
  | 2,_=>rfl
  | 3,_=>rfl
  | 4,_=>rfl
 .have:k=0:=by omega
  subst this;rw[cell_of_row c _ _ _ _ _ q2];rfl
 .have:k=0:=by omega
  subst this;show top.size<=maxLen
  unfold maxLen;omega
 .rw[cell_of_row c _ _ _ _ _ u]
  match k,d with
  | 0,d=>exact d
  | 1,d=>exact d
  | 2,d=>exact d
  | 3,d=>exact d
  | 4,d=>exact d
def UN{w4 c:ω}{a:Nat->Hd}{b:Nat->Rh}(g:c=(w4.alloc (.cells #[(a 0).p,(a 1).p,(a 2).p,(a 3).p,(a 4).p] 47)).alloc (.cells #[(b 0).p,(b 1).p,(b 2).p,(b 3).p,(b 4).p] 49)) :
  β w4 w4 c.drew/\∀ W,β c.drew.heap.size c.drew W->W.cell? ⟨w4,0,O⟩=S ((a 0).p:υ)/\W.cell? ⟨w4.heap.size+1,0,O⟩=S ((b 0).p:υ):=by
 have m:=(ja0 w4.heap.size w4).alloc (ja1 _) (.cells #[(a 0).p,(a 1).p,(a 2).p,(a 3).p,(a 4).p] 47);have o:=heap_alloc_new w4 (.cells #[(a 0).p,(a 1).p,(a 2).p,(a 3).p,(a 4).p] 47);have k:(w4.alloc (.cells #[(a 0).p,(a 1).p,(a 2).p,(a 3).p,(a 4).p] 47)).heap.size=w4.heap.size+1:=by simp
 generalize w4.alloc (.cells #[(a 0).p,(a 1).p,(a 2).p,(a 3).p,(a 4).p] 47)=d at *
 have f:=(ja0 d.heap.size d).alloc (ja1 _) (.cells #[(b 0).p,(b 1).p,(b 2).p,(b 3).p,(b 4).p] 49);have i:=heap_alloc_new d (.cells #[(b 0).p,(b 1).p,(b 2).p,(b 3).p,(b 4).p] 49);rw[<- g] at f i;have q:d.heap.size+1=c.drew.heap.size:=by rw[g];simp[World.drew]
 have l:c.drew.heap[w4.heap.size]?=_:=(f.block _ (by omega)).trans o
 have n:c.drew.heap[w4.heap.size+1]?=_:=k▸i;refine⟨(m.trans (f.mono (by omega))).drew,λW j=>⟨?_,?_⟩⟩
 .rw[cell_of_row W _ _ _ _ _ ((j.block _ (by omega)).trans l)];rfl
 .rw[cell_of_row W _ _ _ _ _ ((j.block _ (by omega)).trans n)];rfl
def Wu(H:Option Addr)(n J:Nat)(S:List ByteArray)(top:ByteArray)(U:Option Addr)(len cap:Nat)(t:List aT)(w:ω)(hX:Texts w H n S)(b4:n<=5)(aR:top.size<=100)(T:lJ w U len t)(am:len<=maxLen)(N:mX t 30=true)(hf:sW S 3300=true)(hB:uI t)(hT:S4.Tab w) :
    κ prog 4 #[.slice H n J,top,.slice U len cap] w λe g=>e=.returned true/\β w w g:=by
  have av:=ah (CP w)
  have ao:Hid (∀ W:ω,β w w W->κ prog 7 #[.slice U len cap,(30:Int)] W λe g=>e=.returned true/\g=W):=λW m=>by
    have:=AB U len cap 30 t W (T.below m) am (by omega)
    rw[N] at this;exact this
  have af:Hid (∀ W:ω,β w w W->κ prog 16 #[.slice H n J,(3300:Int)] W λe g=>e=.returned true/\g=W):=λW m=>by
    have:=Js H n J S W (hX.below m) (by unfold maxLen;omega)
    rw[hf] at this;exact this
  have az:Hid (∀ W:ω,β w w W->κ prog 17 #[.slice H n J] W λe g=>∃(j:Nat->Hd) (qs:Nat->Rh),e=.returned (.tuple #[.agg #[(j 0).p,(j 1).p,(j 2).p,(j 3).p,(j 4).p],.agg #[(qs 0).p,(qs 1).p,(qs 2).p,(qs 3).p,(qs 4).p],true])/\xH W g S j qs):=λW m=>Jf H n J S W (hX.below m)
  have g5:decide (5<(n:Int))=false:=decide_eq_false (by omega)
  have g6:decide (100<(top.size:Int))=false:=decide_eq_false (by omega)
  have a6:len<=30/\∀ k,k<len->(t.getD k aT.none_).s.size<=700:=by
    unfold mX at N;simp only[decide_eq_true_eq] at N;have:=T.1
    exact⟨by omega,λk hk=>(N.2 k (by omega)).1⟩
  have b2:len<=30:=a6.1;have h0:0<w.heap.size:=ja2 w _ (hT 0 (by decide))
  have a4:Hid (∀ k,k<len->∀ W:ω,β w w W->∃ u F,U=some ⟨u,F,none⟩/\W.rangeAt u (F+k*7) (t.getD k aT.none_).cells/\nR (t.getD k aT.none_)):=λk hk W m=>by
    obtain⟨u,F,e,hr,aM⟩:=(T.below m).2 k hk;exact⟨u,F,e,hr,⟨aM.a1,hB k (by have:=T.1;omega),a6.2 k hk⟩⟩
  have a8:Hid (∀(r o q:Nat) (x:aT) (W:ω),YS w r o q W->q<=100->nR x->κ prog 14 #[r,o,.agg #[x.kind,x.a,x.b,x.c,x.d,x.s,.slice x.ka x.kl x.kc]] W λe g=>e=.returned true/\YS w r o (q+1) g):=λr o q x W h hq hx=>h.act x hx hT h0 hq
  have aa:Hid ((prog.info? 49).map (·.size)=some 5):=VI
  clear T hX am N hf hB hT a6;go_enter func4,ntmps4
  go_wp2_with fail
  refine av.out.mono ?_;rintro e w1 ⟨rfl,ax⟩;have P:=ah ax;clear ax av;go_wp2_with fail
  refine(ao.out _ P.out).mono ?_;rintro e g ⟨rfl,l⟩;have B:=l.symm;subst B;clear l;go_wp2_with fail
  refine(af.out _ P.out).mono ?_;rintro e g ⟨rfl,l⟩;have B:=l.symm;subst B;clear l ao af;go_wp2_with fail
  refine(az.out _ P.out).mono ?_;rintro e X ⟨j,qs,rfl,O⟩;have HV:=ah O;obtain⟨W3,a5⟩:∃ W3,W3=((X.alloc (.cells #[(j 0).p,(j 1).p,(j 2).p,(j 3).p,(j 4).p] 47)).alloc (.cells #[(qs 0).p,(qs 1).p,(qs 2).p,(qs 3).p,(qs 4).p] 49)).alloc (.cells #[top] 9):=⟨_,rfl⟩;obtain⟨b3,p3,x3,r3⟩:=TY aR a5;have ag:=ah b3;have aq:=ah p3
  have ai:=ah r3;have ap:=ah (Jf (some ⟨X.heap.size+1+1,0,none⟩) 1 1 [top] W3 x3);have al:=ah a5;clear O az b3 p3 x3 r3 a5;go_wp2_with fail
  rw[<- al.out];refine ap.out.mono ?_;rintro e w4 ⟨A,L,rfl,O⟩;have HE:=ah O;clear O ap;go_wp2_with fail
  obtain⟨W5,a2⟩:∃ W5,W5=(w4.alloc (.cells #[(A 0).p,(A 1).p,(A 2).p,(A 3).p,(A 4).p] 47)).alloc (.cells #[(L 0).p,(L 1).p,(L 2).p,(L 3).p,(L 4).p] 49):=⟨_,rfl⟩;obtain⟨b5,c5⟩:=UN a2;have G:=ah c5
  have a9:Hid (∀ W,β W5.drew.heap.size W5.drew W->W.rangeAt (X.heap.size+1) 0 [(qs 0).p,(qs 1).p,(qs 2).p,(qs 3).p,(qs 4).p]):=λW m k v hv=>by
    have h1:=ai.out k v hv;have h2:=(HE.out.2.2.2.cell (ja2 _ _ h1)).trans h1;have h3:=(b5.cell (ja2 _ _ h2)).trans h2;exact(m.cell (ja2 _ _ h3)).trans h3
  have HO:=ah (Qa (cap:=5) P.out HV.out ag.out HE.out b5 aq.out);rw[<- a2];have Z:=(G.out _ (ja0 _ _)).1;clear b5 c5 a2 aq ai ag HE HV al P;rcases HO.out with⟨f,b1,M⟩|M
  . have Q:=ah M
    clear M HO
    go_region_held3 (λW=>W.cell? ⟨w4,0,none⟩=some ((A 0).p:υ))
      (first|(exact Z)|assumption)
      (first
        | (go_at_call 18;refine Q.out.mono ?_;rintro e w6 ⟨rfl,z,K⟩;have ab:=(G.out _ z).1;have C:=ah z;have R:=ah K;clear z K))
    have I:=ah (a9.out _ C.out);have ad:=(G.out _ C.out).2;have V:=ah (R.out _ (ja0 _ _));clear ab Z Q R C;go_wp2_with (refine wpList_load_mid (by rfl) 49 (.tmp 9) (by rfl) (X.heap.size+1) 0 (by rfl) [(qs 0).p,(qs 1).p,(qs 2).p,(qs 3).p,(qs 4).p] _ I.out underlying49 rfl aa.out ?_)
    refine V.out.mono ?_;rintro e w7 ⟨rfl,aw⟩;have aE:=ah aw;clear aw V I ad;go_wp2_with fail
    refine(oH f _ b1).mono ?_;rintro e g ⟨rfl,l⟩;have B:=l.symm;subst B;clear l;go_wp2
    go_ret
    exact⟨rfl,aE.out⟩
  . have Q:=ah M
    clear M HO
    go_region_held3 (λW=>W.cell? ⟨w4,0,none⟩=some ((A 0).p:υ))
      (first|(exact Z)|assumption)
      (first
        | (go_at_call 18;refine Q.out.mono ?_;rintro e w6 ⟨r,rfl,z,K⟩;have ab:=(G.out _ z).1;have C:=ah z;have R:=ah K;clear z K))
    have I:=ah (a9.out _ C.out);have ad:=(G.out _ C.out).2;have V:=ah (R.out _ (ja0 _ _));clear ab Z Q R C;go_wp2_with (refine wpList_load_mid (by rfl) 49 (.tmp 9) (by rfl) (X.heap.size+1) 0 (by rfl) [(qs 0).p,(qs 1).p,(qs 2).p,(qs 3).p,(qs 4).p] _ I.out underlying49 rfl aa.out ?_)
    refine V.out.mono ?_;rintro e w7 ⟨o,rfl,hS⟩;have HS:=ah hS;clear hS V I ad a9 G aa;go_wp2_with fail
    refine(zU 0 _).mono ?_;rintro e g ⟨rfl,l⟩;have B:=l.symm;subst B;clear l;go_wp2
    go_loopw [16] (λi wr=>∃ q:Nat,q<=len/\i=.int .i64 (q:Int)/\YS w r o q wr) (λi _=>len-(intOf i).toNat)
    case atStart=>exact⟨0,ja5 _,rfl,HS.out⟩
    case round =>
      clear HS;obtain⟨q,hq,rfl,hy⟩:=hrel;have D:=ah hy;clear hy;by_cases b0:q<len
      . obtain⟨u,F,aL,a0,ac⟩:=a4.out q b0 _ D.out.bel
        generalize t.getD q aT.none_=y at a0 ac;subst aL;have a7:=ah a0;have c0:wr.cell? ⟨u,F+q*7,none⟩=some (y.kind:υ):=a0 0 _ rfl;have aD:Hid ((prog.info? 36).map (·.size)=some y.cells.length):=VH
        have a3:=ah (a8.out _ _ _ y wr D.out (by omega) ac)
        clear a0 ac a8 a4;have j0:(0:Int)<=(q:Int):=by omega
        have j1:(q:Int)<(len:Int):=by omega
        by_cases Y:y.kind.toList=[99,114,97,115,104]
        . have g4:(y.kind.toList==[99,114,97,115,104])=true:=beq_iff_eq.2 Y
          have H6:=ah D.out.next;clear Y a3 D a7;go_wp2
          go_roundw
          case rel =>
            have fin:∃ E:Nat,E<=len/\Value.int .i64 ((q:Int)+1)=.int .i64 (E:Int)/\YS w r o E _:=⟨q+1,by omega,by go_num,H6.out⟩
            first|exact fin|((repeat apply Exists.intro);exact⟨fin,rfl⟩)
          case measure=>simp[intOf];omega
        . have g4:(y.kind.toList==[99,114,97,115,104])=false:=beq_eq_false_iff_ne.2 Y
          clear Y;go_wp2_with (refine wpList_load_mid (by rfl) 36 (.tmp 102) (by rfl) u (F+q*7) (by rfl) y.cells _ a7.out underlying36 rfl aD.out ?_)
          refine a3.out.mono ?_;rintro e w8 ⟨rfl,an⟩;have H9:=ah an;clear an a3 D a7 c0;go_wp2
          go_roundw
          case rel =>
            have fin:∃ E:Nat,E<=len/\Value.int .i64 ((q:Int)+1)=.int .i64 (E:Int)/\YS w r o E _:=⟨q+1,by omega,by go_num,H9.out⟩
            first|exact fin|((repeat apply Exists.intro);exact⟨fin,rfl⟩)
          case measure=>simp[intOf];omega
      . have gk:decide ((q:Int)<(len:Int))=false:=decide_eq_false (by omega)
        have ar:=ah D.out.as;clear D a4 a8;go_wp2_with fail
        refine ar.out.mono ?_;rintro e w9 ⟨rfl,ae⟩;have H9:=ah ae.bel;clear ae ar;go_wp2
        go_ret
        exact⟨rfl,H9.out⟩
def WX(c:Option Addr)(b g:Nat)(d:List ByteArray)(top:ByteArray)(f:Option Addr)(len cap:Nat)(a:List aT)(w:ω)(j:Texts w c b d)(_:c=O->g=0)(n:b<=maxLen)(m:top.size<=maxLen)(k:lJ w f len a)(i:len<=maxLen)(q:uI a)(o:S4.Tab w) :
  κ prog 4 #[.slice c b g,top,.slice f len cap] w λe l=>e=.returned true/\β w w l:=by
 by_cases h:5<b\/mX a 30=false\/sW d 3300=false\/100<top.size
 .exact Wi c b g d top f len cap a w j n m k i h
 .refine Wu c b g d top f len cap a w j (by omega) (by omega) k i ?_ ?_ q o
  .cases e:mX a 30 with
   | true=>rfl
   | false=>exact absurd (.inr (.inl e)) h
  .cases e:sW d 3300 with
   | true=>rfl
   | false=>exact absurd (.inr (.inr (.inl e))) h
open Go.ChangeMaps (open_string shut_string)
def VJ{w:ω}{a:Addr}{c:List ByteArray}(h:∀ i,i<c.length->w.cell? (a.add i)=S (.string (c.getD i ByteArray.empty)))(f:0<c.length) :
  ∃ b d,a=⟨b,d,O⟩/\∀ j,j<c.length->w.cell? ⟨b,d+j,O⟩=S (.string (c.getD j ByteArray.empty)):=by
 obtain⟨b,d,k⟩:=a;have g:k=none:=by simpa [Addr.add] using jbD (h 0 f)
 subst g;exact⟨b,d,rfl,λj l=>by rw[<- Go.WideShapes.add_plain];exact h j l⟩
def P8{H:Type}{enc:TypeId × υ->H}{w:ω}{d:Option Addr}{len cap r:Nat}{x:DataW H × List MemPlace}(m:DataW.trod enc prog w 0 (λ_=>true) true r 44 [.slice d len cap]=S x):∃ q,Texts w d len q/\(d=O->cap=0)/\len<=maxLen:=by
 rcases open_strings underlying44 underlying9 (by kernel_rfl) m with⟨f,_⟩|⟨x,l,c,a,f,_,v,y,u,_,t,j⟩
 .obtain⟨rfl,rfl,rfl⟩:=f
  exact⟨[],⟨rfl,λk i=>by omega⟩,λ_=>rfl,by omega⟩
 .obtain⟨rfl,rfl,rfl⟩:=f
  have z:a.length=cap:=by simpa using u
  refine⟨a.take len,⟨by simp_all,λk i=>?_⟩,(λe=>by cases e),by omega⟩
  obtain⟨b,n,rfl,s⟩:=VJ t (by omega)
  have g:(a.take len).getD k ByteArray.empty=a.getD k ByteArray.empty:=by simp[List.getD,i]
  refine⟨b,n,rfl,by rw[g];exact s k (by omega),?_⟩
  rw[g];have o:k<a.length:=by omega
  have:a.getD k ByteArray.empty=a[k]:=by simp_all
  rw[this];exact j _ (jac o)
