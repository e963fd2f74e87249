/- What the small calls on a yard give: the job that goes, the chain, how many sectors, what is read, how the last job stands. -/
import Derived.Test.YtbohmhacdgckgaaGreatDoorQOYardMem2
set_option linter.all false
set_option maxHeartbeats 1000000
set_option maxRecDepth 100000
namespace Go.Proofs.YtbohmhacdgckgaaGreatDoor
open Go.RowKit renaming Below->β
open Go renaming World->ω, Value->υ, Calls->κ
open Option renaming none->O, some->S
open Go.Proofs.Tryz Go.RowKit Go.Maps
attribute [local go_sem ↓] Go.wp_at_zero Go.wp_at_succ
def goV(b:Jh)(y:YV):Value:=if y.busy=true then .pointer (S ⟨b.jp,0,O⟩) else .pointer O
def oO{g:Nat}{Y:Yh}{y:YV}(w:ω)(h:aB w g Y y) :
  κ prog 123 #[g] w λe c=>e=.returned (goV Y.jb y)/\c=w:=by
 obtain⟨n,m,l,k,a,i⟩:=h.blk.cells;unfold goV YV.busy
 cases d:y.j with
 | none =>
  rw[d] at a;unfold qw at a;go_enter func123,ntmps123
  go_wp2
  go_ret
  exact⟨rfl,rfl⟩
 | some j =>
  have b:=ah (Ap w (h.job j d).1);rw[d] at a;unfold qw at a;by_cases f:j.stage<4
  .show κ _ _ _ _ λe c=>e=.returned (if decide _=true then _ else _)/\_
   rw[(decide_eq_true f)] at b |-;rw[if_pos rfl];go_enter func123,ntmps123
   go_wp2_with fail
   refine cSt b.out ?_;go_wp2
   go_ret
   exact⟨rfl,rfl⟩
  .show κ _ _ _ _ λe c=>e=.returned (if decide _=true then _ else _)/\_
   rw[(decide_eq_false f)] at b |-;rw[if_neg (by decide)]
   go_enter func123,ntmps123
   go_wp2_with fail
   refine cSt b.out ?_;go_wp2
   go_ret
   exact⟨rfl,rfl⟩
def sH{d C m:Nat}{Y:Yh}{y:YV}(w:ω)(h:aB w d Y y)(n:YOk y C m) :
    κ prog 92 #[d] w λe b =>
      ∃(g o cap:Nat),e=.returned (.slice (S ⟨g,o,O⟩) y.l.length cap)/\Nums b (S ⟨g,o,O⟩) y.l/\w.heap.size<=g/\g<b.heap.size/\y.l.length<=cap/\β w w b:=by
  obtain⟨H,J,K,u,E,G⟩:=h.blk.cells
  have t:Hid (∀ W:ω,β w w W->κ prog 77 #[.pointer (S ⟨d,6,O⟩),y.kd.root] W λe b=>∃(g o cap:Nat),e=.returned (.tuple #[.slice (S ⟨g,o,O⟩) y.l.length cap,.nilIface])/\Nums b (S ⟨g,o,O⟩) y.l/\w.heap.size<=g/\g<b.heap.size/\y.l.length<=cap/\β w w b/\b.cell? _=S _):=λW f=>by
    have:=uN y.kd.root W ((h.shelf n.s).below f)
    rw[n.ch.walk,aN] at this;refine this.mono ?_;rintro e b ⟨a,cap,rfl,c,j,q⟩;obtain⟨g,o,D,_⟩:=c 0 (List.length_pos_iff.2 n.ch.ne);subst D;obtain⟨k,i,B⟩:=j g o rfl;have v:=f.trans (q.mono f.size);exact⟨g,o,cap,rfl,c,ja4 f.size k,i,B,v,(h.below v).blk.cells.2.2.2.1⟩
  generalize y.kd.root=r at u t;generalize y.l=l at t |-;have x:Hid (β w w w.drew):=(ja0 _ _).drew;go_enter func92,ntmps92
  go_wp2
  go_region_held3 (λW=>W.cell? ⟨d,11,O⟩=S (r:υ))
    (first|(exact u)|assumption)
    (first
      | (go_at_call 77;refine(t.out _ x.out).mono ?_;rintro e F ⟨g,o,cap,rfl,c,j,q,k,i,I⟩;have A:=ah c;have z:=ah i;clear c i))
  go_wp2
  go_ret
  exact⟨g,o,cap,rfl,A.out,j,q,k,z.out⟩
def VX{b C m:Nat}{Y:Yh}{y:YV}(w:ω)(h:aB w b Y y)(d:YOk y C m) :
  κ prog 66 #[b] w λe a =>
   ∃(g o cap:Nat),e=.returned (.slice (S ⟨g,o,O⟩) y.l.length cap)/\Nums a (S ⟨g,o,O⟩) y.l/\w.heap.size<=g/\g<a.heap.size/\y.l.length<=cap/\β w w a:=by
 go_enter func66,ntmps66
 go_wp2_with fail
 refine(sH w h d).mono ?_;rintro e a ⟨g,o,cap,rfl,c⟩;go_wp2
 go_ret
 exact⟨g,o,cap,rfl,c⟩
def Jm{g C m:Nat}{Y:Yh}{y:YV}(w:ω)(h:aB w g Y y)(q:YOk y C m) :
    κ prog 26 #[g] w λe a=>e=.returned ((4*C:Nat):Int)/\β w w a:=by
  obtain⟨Q,T,J,o,M,P⟩:=h.blk.cells;obtain⟨v,I,K⟩:=q.ch.root;obtain⟨D,F,d⟩:=SV.dS I;obtain⟨k,l⟩:∃ k:Nat,y.kd.root=(k:Int):=⟨y.kd.root.toNat,by omega⟩
  rw[l] at o d F D;have u:((k:Int)).toNat=k:=by omega
  rw[u] at d;have i:=J k (by omega)
  have f:Hid (∀ W:ω,β w w W->κ prog 95 #[(Y.xs k).p] W λe a=>e=.returned (.agg #[v.h.c,v.h.p,v.h.b])/\β w w a/\a.cell? _=some (.int .i64 (k:Int))/\a.cell? _=some (.pointer _)):=λW j=>(qo W ((h.img k v (by omega) d).below j)).mono λe a ⟨E,z⟩=>by
    have r:=j.trans (z.mono j.size);obtain⟨_,_,B,G,_,_⟩:=(h.below r).blk.cells;refine⟨E,r,by rw[<- l];exact G,?_⟩
    have:=B k (by omega)
    rw[d] at this;exact this
  have x:v.h.c<=32:=by
    have:=(q.s k v d).h
    have:=HV.dK this
    omega
  rw[d] at i;unfold iE at i;rw[K] at f x;have n:=tC (C:Int) v.h.p v.h.b;generalize (Y.xs k).p=xp at f i;generalize v.h.p=S at f n;generalize v.h.b=O at f n;have L:IntKind.i64.wrap _=4*(C:Int):=ja7 _ (by omega)
  have A:Hid (β w w w.drew):=(ja0 _ _).drew;go_enter func26,ntmps26
  go_wp2
  go_region_held3 (λW=>W.cell? ⟨g,11,none⟩=some (.int .i64 (k:Int))/\W.cell? ⟨g,6+k,none⟩=some (xp:υ))
    (first|(exact⟨o,i⟩)|assumption)
    (first
      | (go_at_call 95;refine(f.out _ A.out).mono ?_;rintro e N ⟨rfl,t,R⟩;have H:=ah t;clear t))
  go_wp2
  go_ret
  exact⟨mg (by omega),H.out⟩
def WB{f C m:Nat}{Y:Yh}{y:YV}(w:ω)(h:aB w f Y y)(r:YOk y C m) :
  κ prog 67 #[f] w λe l =>
   e=.returned (match y.j with|none=>.agg #[(0:Int),(-1:Int),(0:Int),(0:Int)] | some j=>.agg #[j.kind,j.file,j.state,.int .i64 (S4.cnt j.x 64:Nat)])/\β w w l:=by
 obtain⟨F,s,E,D,c,z⟩:=h.blk.cells
 cases g:y.j with
 | none =>
  rw[g] at c;unfold qw at c;have q:(w.alloc (.cells #[(0:Int),(0:Int),(0:Int),(0:Int)] 120)).cell? ⟨f,12,O⟩=S (.pointer O):=(((ja0 w.heap.size w).alloc (ja1 _) _).cell (p:=⟨f,12,O⟩) h.blk.lt).trans c;go_enter func67,ntmps67
  go_wp2
  exact bodyPost_ret (v:=.agg _) (by simp[results,results67,go_sem]) rfl ⟨rfl,(ja0 _ _).alloc (ja1 _) _⟩
 | some j =>
  have d:Hid (β w w (w.alloc (.cells #[(0:Int),(0:Int),(0:Int),(0:Int)] 120))):=(ja0 _ _).alloc (ja1 _) _;rw[g] at c;unfold qw at c;have q  := (d.out.cell  h.blk.lt).trans c;go_enter func67,ntmps67
  go_wp2_with fail
  refine cEq (yQ _ (((h.below d.out).job j g).1) (r.set j g).1) λa i=>?_
  have b  := (i.block _ (by simp)).trans (heap_alloc_new w _)
  have k:a.cell? ⟨w,0,O⟩=S (.int .i64 0):=by rw[cell_of_row _ _ _ _ _ _ b];rfl
  have n:a.cell? ⟨w,1,O⟩=S (.int .i64 0):=by rw[cell_of_row _ _ _ _ _ _ b];rfl
  have q2:a.cell? ⟨w,2,O⟩=S (.int .i64 0):=by rw[cell_of_row _ _ _ _ _ _ b];rfl
  have o:a.cell? ⟨w,3,O⟩=S (.int .i64 0):=by rw[cell_of_row _ _ _ _ _ _ b];rfl
  have t:=frozen_of_row a w.heap.size 0 _ _ b;have A:=frozen_of_row a w.heap.size 1 _ _ b;have u:=frozen_of_row a w.heap.size 2 _ _ b;have B:=frozen_of_row a w.heap.size 3 _ _ b;go_wp2
  exact bodyPost_ret  (by simp[results,results67,go_sem,k,n,q2,o]) rfl ⟨rfl,((((d.out.trans (i.mono d.out.size)).setCell (ja1 _) _).setCell (ja1 _) _).setCell (ja1 _) _).setCell (ja1 _) _⟩
def CW{k C m:Nat}{Y:Yh}{y:YV}(fr n:Int)(w:ω)(h:aB w k Y y)(i:YOk y C m)(t:C<=40)(u : -9223372036854775808<=fr/\fr<=9223372036854775807) :
    κ prog 25 #[k,fr,n] w λe b=>e=.returned (.tuple #[.string (y.s.ji y.l fr n),erV (y.s.aW y.l fr n)])/\β w w b:=by
  have q:Hid (∀ W:ω,β w w W->κ prog 92 _ W λe b=>∃(g o cap:Nat),e=.returned _/\Nums b _ y.l/\β w w b):=λW c=>(sH W (h.below c) i).mono λe b ⟨g,o,cap,d,j,_,_,_,A⟩=>⟨g,o,cap,d,j,c.trans (A.mono c.size)⟩
  have f:Hid (∀(W:ω) (a:Option Addr) (cap:Nat),β w w W->Nums W a y.l->κ prog 94 #[.pointer _,.slice a y.l.length cap,fr,n] W λe b=>e=.returned _/\β w w b):=λW a cap c x =>
    (Kz y.l fr n W ((h.shelf i.s).below c) x i.ch.good (by have:=i.ch.len;omega) t u).mono λe b ⟨d,j⟩=>⟨d,c.trans (j.mono c.size)⟩
  generalize y.s.ji y.l fr n=T at f |-;generalize erV _=E at f |-;generalize y.l=l at q f;have z:Hid (β w w w.drew):=(ja0 _ _).drew;go_enter func25,ntmps25
  go_wp2
  go_region_held3 (λ_=>True)
    (first|trivial|assumption)
    (first
      | (go_at_call 92;refine(q.out _ z.out).mono ?_;rintro e r ⟨g,o,cap,rfl,d,B⟩;have D:=ah (f.out r _ cap B d);have H:=True.intro)
      | (go_at_call 94;refine cHd D.out λG v=>?_;have F:=True.intro))
  go_wp2
  go_ret2
  exact⟨rfl,v.out⟩
def aB.vO{w m g:ω}{d m':Nat}{Y:Yh}{y:YV}{z:SV}{f:Nat->Ih}(h:aB w d Y y)(n:β w w m)(x:bD g d f z m')(q:Moved (fpS Y.xs y.s) m (fpS f z) g) :
  aB g d {Y with xs:=f} {y with s:=z}/\Moved (fpY d Y y) w (fpY d {Y with xs:=f} {y with s:=z}) g:=by
 have c:=h.below n
 obtain⟨u,v⟩:=c.kL  x q (λk b=>.inl b) (λk b=>by
  rcases b with b|b
  .exact .inl b
  .exact .inr ⟨c.fF (.inr (.inr (.inr b))),.inr b⟩) Iff.rfl (λa r=>⟨a,r,rfl,by
  obtain⟨B,_⟩:=c.job a r;have o:y.j≠none:=by simp_all
  have l:=λk (b:k=Y.jb.jp\/k=Y.jb.lp\/k=Y.jb.bp)=>q.block (c.fF (.inr (.inr (.inr ⟨o,b⟩)))) (λe=>by
   obtain⟨i,A,t⟩:=c.inS e
   exact(c.kC ⟨o,b⟩).1 i A t)
  exact B.keep (l _ (.inl rfl)) (l _ (.inr (.inl rfl))) (l _ (.inr (.inr rfl)))⟩)
 exact⟨u,(Moved.of_below n).trans v⟩
def aB.vK{w d c:ω}{a m':Nat}{Y:Yh}{y:YV}{R:SV × Int}{e:Ending}(h:aB w a Y y)(j:β w w d)(hd:cZ d a Y.xs y.s m' R e c) :
  e=.returned (erV R.2)/\∃ b:Yh,b.jb=Y.jb/\aB c a b {y with s:=R.1}/\Moved (fpY a Y y) w (fpY a b {y with s:=R.1}) c:=by
 obtain⟨f,l,g,i⟩:=hd;obtain⟨k,m⟩:=h.vO j g i;exact⟨l,{Y with xs:=f},rfl,k,m⟩
def aB.uj{w n i:ω}{d m C:Nat}{Y:Yh}{y:YV}{z:SV}{j a:JV}(h:aB w d Y y)(x:y.j=S j)(f:β w w n)(hd:cO d Y.jb.jp Y.jb.lp Y.jb.bp Y.jb.a Y.jb.cap Y.xs y.s z m C a n i)(r:a.l=j.l) :
  ∃ g:Yh,g.jb=Y.jb/\aB i d g {y with s:=z,j:=S a}/\Moved (fpY d Y y) w (fpY d g {y with s:=z,j:=S a}) i:=by
 obtain⟨q,o,t⟩:=hd;have v:y.j≠none:=by simp_all
 obtain⟨u,A⟩:=(h.below f).kL (j':=S a) o.shelf t (λk c=>by
  rcases c with c|c
  .exact .inl c
  .exact .inr ⟨v,c⟩) (λk c=>by
  rcases c with c|c
  .exact .inl (.inl c)
  .exact .inl (.inr c.2)) (by simp_all) (λb f=>by
  cases f
  exact⟨j,x,r,o.job⟩)
 exact⟨{Y with xs:=q},rfl,u,(Moved.of_below f).trans A⟩
def au(a:Nat)(Y:Yh)(y y':YV)(w c:ω):Prop:=∃ b:Yh,b.jb=Y.jb/\aB c a b y'/\Moved (fpY a Y y) w (fpY a b y') c
def au.out{w a:ω}{b:Nat}{Y:Yh}{y z:YV}(h:au b Y y z w a):oV b Y y z w a:=by
 obtain⟨c,g,f,d⟩:=h;exact⟨c,.inl g,f,d⟩
theorem au.refl{w:ω}{a:Nat}{Y:Yh}{y:YV}(h:aB w a Y y):au a Y y y w w:=⟨Y,rfl,h,Moved.refl _ _⟩
theorem au.below{w c:ω}{a:Nat}{Y:Yh}{y:YV}(h:aB w a Y y)(b:β w w c):au a Y y y w c:=⟨Y,rfl,h.below b,Moved.of_below b⟩
theorem au.trans{w c d:ω}{a:Nat}{Y b:Yh}{y y1 y':YV}(i:b.jb=Y.jb)(f:Moved (fpY a Y y) w (fpY a b y1) c)(h:au a b y1 y' c d):au a Y y y' w d:=by
 obtain⟨g,l,k,j⟩:=h;exact⟨g,l.trans i,k,f.trans j⟩
def au.from{w a b:ω}{c:Nat}{Y:Yh}{y y':YV}(j:β w w a)(h:au c Y y y' a b):au c Y y y' w b:=by
 obtain⟨d,i,g,f⟩:=h;exact⟨d,i,g,(Moved.of_below j).trans f⟩
def aB.vg{w:ω}{c m C:Nat}{Y:Yh}{y:YV}{j:JV}(h:aB w c Y y)(f:y.s.ok m)(k:y.j=S j)(i:JOk y.s C j):PJ w c Y.jb.jp Y.jb.lp Y.jb.bp Y.jb.a Y.jb.cap Y.xs y.s m C j:=by
 obtain⟨n,d,r,l,q⟩:=h.job j k;refine⟨h.shelf f,n,d,λg o e b=>q g o e ?_,i,l⟩
 rcases b with b|b
 .exact .inr (.inl (h.inS b))
 .exact .inr (.inr (.inr ⟨(by simp_all),b⟩))
def OY{y:YV}(h:y.busy≠true)(fr n:Nat):y.mark fr n=y:=by
 unfold YV.mark
 cases a:y.j with
 | none =>
  show({y with j:=O}:YV)=y
  rw[<- a]
 | some j =>
  show({y with j:=S (iC j fr n)}:YV)=y
  rw[LH (lT h j a),<- a]
def OZ(y:YV)(fr:Nat):y.mark fr 0=y:=by
 unfold YV.mark;have:(y.j.map λj=>iC j fr 0)=y.j:=by cases y.j<;>rfl
 rw[this]
def Ea(j:JV)(c:Nat):∀ k,(kM j c k).l=j.l:=by
 intro k
 induction k with
 | zero=>rfl
 | succ k a =>
  show(dW _ _).l=j.l
  unfold dW;split<;>exact a
theorem JOk.kM{s:SV}{C:Nat}{j:JV}(h:JOk s C j)(c:Nat):∀ k,JOk s C (kM j c k):=by
 intro k
 induction k with
 | zero=>exact h
 | succ k a=>exact a.dirty _
def WJ{c m:Nat}{Y:Yh}{y:YV}(s:ByteArray)(w:ω)(h:aB w c Y y)(a:y.top.fine y.top.fl.length m)(l:m<1000000000)(i:s.size=16) :
  κ prog 105 #[Y.tp.p,(0:Int),s] w λe b=>e=.returned (erV y.top.aU)/\au c Y y {y with top:=y.top.put 0 s.data.toList} w b:=by
 refine(wW 0 s w h.top.nG a l (ja1 _) i (by have:=a.ok.n1;omega)).mono ?_
 rintro e b ⟨v2,rfl,d,f⟩;obtain⟨g,o⟩:=h.pK  d.noG rfl (d.moved f λk n j=>j.2 n)
 exact⟨rfl,{Y with tp:={Y.tp with v2:=v2}},rfl,g,o⟩
def WI{c:Nat}{Y:Yh}{y:YV}(w:ω)(h:aB w c Y y) :
  κ prog 106 #[Y.tp.p] w λe b=>e=.returned (.tuple #[])/\au c Y y {y with top:=y.top.flushed} w b:=by
 refine(flush_any w h.top.toaO).mono ?_;rintro e b ⟨rfl,i,f⟩;have d  := h.top.nG.nilled i;obtain⟨g,j⟩:=h.pK  d.noG rfl (d.moved f λk a l=>l.2 (by rcases a with a|a;exact .inl a;exact .inr (.inl a)))
 exact⟨rfl,{Y with tp:={Y.tp with v2:=.slice _ 0 0}},rfl,g,j⟩
def Lj(d:aP):(fO d.kv.bytes).size=16:=yF _ (by show 9<=12;omega)
def uF{a m:Nat}{Y:Yh}{y:YV}(d:aP)(w:ω)(h:aB w a Y y)(L:y.top.fine y.top.fl.length m)(hd:d.kv.fault=0)(O:m<1000000000) :
  κ prog 31 #[a,.agg #[d.root,d.kind,d.file,d.rate,d.burst]] w λe c=>e=.returned (erV y.aJ)/\au a Y y (y.aA d) w c:=by
 have q:Hid (β w w (w.alloc (bF d))):=(ja0 _ _).alloc (ja1 _) _;have b:=h.below q.out;have l:Hid (κ prog 104 #[.agg #[d.root,d.kind,d.file,d.rate,d.burst]] (w.alloc (bF d)) λe c=>e=.returned (.tuple #[.string (fO d.kv.bytes),.nilIface])/\β (w.alloc (bF d)).heap.size (w.alloc (bF d)) c):=D8 d.root d.kind d.file d.rate d.burst _ hd
 have g:Hid (∀(W:ω),β (w.alloc (bF d)).heap.size (w.alloc (bF d)) W->W.cell? ⟨a,5,none⟩=some (Y.tp.p:υ)/\κ prog 105 #[Y.tp.p,(0:Int),.string (fO d.kv.bytes)] W λe c=>e=.returned (erV y.top.aU)/\au a Y y {y with top:=y.top.put 0 (YV.lV d)} (w.alloc (bF d)) c):=λW s =>
  ⟨(b.below s).blk.cells.2.1,(WJ _ W (b.below s) L O (Lj d)).mono λe c ⟨b,f⟩=>⟨b,au.from s f⟩⟩
 have I:Hid (∀ z:YV,∀ W:ω,au a Y y z (w.alloc (bF d)) W->∃ x:Nat,W.cell? ⟨a,5,none⟩=some (x:υ)/\κ prog 106 #[x] W λe c=>e=.returned (.tuple #[])/\au a Y y {z with top:=z.top.flushed} (w.alloc (bF d)) c):=λz W ⟨j,B,b,f⟩ =>
  ⟨j.tp.p,b.blk.cells.2.1,(WI W b).mono λe c ⟨A,u⟩=>⟨A,au.trans B f u⟩⟩
 have E:Hid (∀ z:YV,∀ W:ω,au a Y y z (w.alloc (bF d)) W->(∃ r,W.cell? ⟨a,11,none⟩=some (.int .i64 r))/\W.frozen? ⟨a,11,none⟩=false/\au a Y y {z with kd:=d} w (W.setCell ⟨a,11,none⟩ d.root)):=λz W ⟨j,B,b,f⟩=>by
  obtain⟨_,_,_,J,_,K⟩:=b.blk.cells;obtain⟨A,u⟩:=b.vN d;exact⟨⟨_,J⟩,K 11,j,B,A,(Moved.of_below q.out).trans (f.trans u)⟩
 have H:Hid (∀ z:YV,∀ W:ω,au a Y y z (w.alloc (bF d)) W->W.cell? ⟨w,0,none⟩=some (d.root:υ)):=λz W ⟨j,_,_,f⟩=>by
  have t:=f.block (k:=w.heap.size) (by simp) (λe=>by have:=h.fF e;omega)
  rw[heap_alloc_new] at t;unfold bF at t;rw[cell_of_row _ _ _ _ _ _ t];rfl
 have D:=ah λz W (hd:au a Y y z _ W)=>au.from q.out hd
 unfold YV.aA YV.aJ;generalize y.top.aU=F at g |-;unfold bF at l g I E H D;by_cases i:F=0
 .rw[if_pos i,i,aN]
  rw[i,aN] at g;go_enter func31,ntmps31
  go_wp2_with fail
  refine cEq l.out λo C=>?_
  obtain⟨N,v⟩:=g.out o C;go_wp2_with fail
  refine cEq v λQ n=>?_
  obtain⟨x,U,M⟩:=I.out _ _ n;go_wp2_with fail
  refine cEq M λS G=>?_
  have R:=H.out _ _ G;obtain⟨⟨r,T⟩,q2,P⟩:=E.out _ _ G;go_wp2
  go_ret
  exact⟨rfl,P⟩
 .rw[if_neg i]
  rw[bJ i] at g |-;go_enter func31,ntmps31
  go_wp2_with fail
  refine cEq l.out λo C=>?_
  obtain⟨N,v⟩:=g.out o C;go_wp2_with fail
  refine cEq v λQ n=>?_
  go_wp2
  go_ret
  exact⟨rfl,(D.out _ _ n)⟩
def vZ(r:Int)(w:ω):κ prog 32 #[r] w λe a=>e=.returned (.agg #[.int .i64 (aj r).root,.int .i64 (aj r).kind,.int .i64 (aj r).file,.int .i64 (aj r).rate,.int .i64 (aj r).burst])/\β w w a:=by
 go_enter func32,ntmps32
 go_wp2
 exact bodyPost_ret (v:=.agg #[r,(0:Int),(-1:Int),(0:Int),(0:Int)]) (by simp[results,results32,go_sem]) rfl ⟨rfl,(ja0 _ _).alloc (ja1 _) _⟩
structure iO(w:ω)(yp k:Nat)(hs:Nat->Hd)(D:DV)(tv:υ):Prop where
 blk:∃ cur,w.heap[yp]?=S (.cells cur 74 (0,0))/\cur.size=13/\(∀ i,i<k->cur[i]?=S ((hs i).p:υ))/\cur[5]?=S tv/\(∀ i,i<5->cur[6+i]?=S (.pointer O))/\cur[11]?=S (.int .i64 0)/\cur[12]?=S (.pointer O)
 dev:∀ i,i<k->bQ Gd.no w (hs i) D
 past:∀ i,i<k->∀ b,(hs i).fp b->yp<b
 apart:∀ i j,i<k->j<k->i≠j->∀ b,(hs i).fp b->¬(hs j).fp b
def setH(a:Nat->Hd)(k:Nat)(h:Hd):Nat->Hd:=λi=>if i=k then h else a i
def iO.lt{w:ω}{a k:Nat}{f:Nat->Hd}{D:DV}{b:υ}(h:iO w a k f D b):a<w.heap.size:=by
 obtain⟨c,d,_⟩:=h.blk;exact lt_of_some d
def iO.below{w c:ω}{d k:Nat}{j:Nat->Hd}{D:DV}{a:υ}(h:iO w d k j D a)(g:β w w c):iO c d k j D a :=
 ⟨by rw[g.block _ h.lt];exact h.blk,λi f=>(h.dev i f).keep λb l=>g.block b ((h.dev i f).lt b l).2,h.past,h.apart⟩
def iO.cell{w:ω}{a k:Nat}{f:Nat->Hd}{D:DV}{d:υ}(h:iO w a k f D d)(i:Nat)(j:i<13):(∃ v,w.cell? ⟨a,i,O⟩=S v)/\w.frozen? ⟨a,i,O⟩=false:=by
 obtain⟨c,b,g,_⟩:=h.blk;refine⟨⟨c[i]'(by omega),?_⟩,frozen_of_row w a i _ _ b⟩
 rw[cell_of_row w a i _ _ _ b]
 simp_all
def iO.D9{w:ω}{a k:Nat}{b:Nat->Hd}{D:DV}{d:υ}(h:iO w a k b D d){i:Nat}(j:i<k):w.cell? ⟨a,i,O⟩=S ((b i).p:υ):=by
 obtain⟨c,f,l,g,_⟩:=h.blk;rw[cell_of_row w a i _ _ _ f];exact g i j
def iO.root{w:ω}{a k:Nat}{g:Nat->Hd}{D:DV}{b:υ}(h:iO w a k g D b):w.cell? ⟨a,11,O⟩=S (.int .i64 0):=by
 obtain⟨c,f,i,n,j,m,d,l⟩:=h.blk;rw[cell_of_row w a 11 _ _ _ f];exact d
def iO.step{w g:ω}{l k:Nat}{t:Nat->Hd}{D:DV}{u:υ}(h:iO w l k t D u)(H:k<5){d:Hd}(o:β w w g){N:Nat}(G:w.heap.size<=N)(hd:aO N g d D) :
  iO (g.setCell ⟨l,k,O⟩ d.p) l (k+1) (setH t k d) D u:=by
 have q:=h.below o;obtain⟨c,x,B,C,A,y,z,v⟩:=q.blk;have F:=h.lt;have r:∀ b,b≠l->(g.setCell ⟨l,k,O⟩ d.p).heap[b]?=g.heap[b]?:=λb o=>heap_setCell_other _ _ _ _ o
 refine⟨⟨_,heap_setCell_same g l k _ _ _ x,by simpa using B,λi n=>?_,?_,λi n=>?_,?_,?_⟩,λi n=>?_,λi n b a=>?_,λi j n I s b a f=>?_⟩
 .unfold setH
  by_cases e:i=k
  .rw[e,if_pos rfl,jaa (by omega)]
  .rw[if_neg e,ja3 (λm=>e m.symm)];exact C i (by omega)
 .rw[ja3 (by omega)];exact A
 .rw[ja3 (by omega)];exact y i n
 .rw[ja3 (by omega)];exact z
 .rw[ja3 (by omega)];exact v
 .unfold setH
  by_cases e:i=k
  .rw[if_pos e]
   exact⟨hd.base0.keep λb a=>r b (by have:=(hd.lt b a).1;omega),λ_ _ e=>e⟩
  .rw[if_neg e]
   exact(q.dev i (by omega)).keep λb a=>r b (by have:=q.past i (by omega) b a;omega)
 .unfold setH at a
  by_cases e:i=k
  .rw[if_pos e] at a;have:=(hd.lt b a).1;omega
  .rw[if_neg e] at a;exact h.past i (by omega) b a
 .unfold setH at a f
  by_cases e:i=k
  .rw[if_pos e] at a
   rw[if_neg (λm=>s (by rw[e,m]))] at f
   have E:=(hd.lt b a).1;have q2:=((h.dev j (by omega)).lt b f).2
   omega
  .rw[if_neg e] at a
   by_cases m:j=k
   .rw[if_pos m] at f
    have E:=(hd.lt b f).1;have q2:=((h.dev i (by omega)).lt b a).2
    omega
   .rw[if_neg m] at f;exact h.apart i j (by omega) (by omega) s b a f
def iO.pK{w g:ω}{a:Nat}{l:Nat->Hd}{D:DV}{t:υ}(h:iO w a 5 l D t){d:Hd}(k:β w w g) :
  iO (g.setCell ⟨a,5,O⟩ d.p) a 5 l D (.pointer (S ⟨d.p,0,O⟩)):=by
 have j:=h.below k;obtain⟨c,n,q,r,x,o,v,u⟩:=j.blk;have s:∀ b,b≠a->(g.setCell ⟨a,5,O⟩ d.p).heap[b]?=g.heap[b]?:=λb k=>heap_setCell_other _ _ _ _ k
 refine⟨⟨_,heap_setCell_same g a 5 _ _ _ n,by simpa using q,λi f=>?_,?_,λi f=>?_,?_,?_⟩,λi f=>?_,j.past,j.apart⟩
 .rw[ja3 (by omega)];exact r i f
 .simp_all
 .rw[ja3 (by omega)];exact o i f
 .simp_all
 .simp_all
 .exact(j.dev i f).keep λb m=>s b (by have:=j.past i f b m;omega)
def uV:Jh:=⟨0,0,0,O,0⟩
def iO.dM{w o:ω}{f:Nat}{l:Nat->Hd}{c p:Int}{t:Hd}{x:Ih}(h:iO w f 5 l (ig (aQ (newH c p))) (.pointer (some ⟨t.p,0,none⟩)))(B:bQ Gd.no w t (ig 1))(T:∀ b,t.fp b->f<b)(E:∀ i,i<5->∀ b,t.fp b->¬(l i).fp b)
  (y:Moved (l 0).fp w x.fp o) (U:aH Gd.no o x (crV (ig (aQ (newH c p))) (newH c p))) (O:x.h.p=(l 0).p) :
  aB (o.setCell ⟨f,6,none⟩ x.p) f ⟨l,t,λ_=>x,uV⟩ (mY c p)/\∀ b,fpY f ⟨l,t,λ_=>x,uV⟩ (mY c p) b->b=f\/(∃ i,i<5/\(l i).fp b)\/t.fp b\/w.heap.size<=b:=by
 obtain⟨W,J,X,N,S,K,L,Q⟩:=h.blk;have F:¬(l 0).fp f:=λe=>by have:=h.past 0 (by omega) f e;omega
 have V  := y.block h.lt F;have D:∀ b,b≠f->(o.setCell ⟨f,6,none⟩ x.p).heap[b]?=o.heap[b]?:=λb M=>heap_setCell_other _ _ _ _ M
 have H:(mY c p).s 0=some (crV (ig (aQ (newH c p))) (newH c p)):=rfl
 have n:∀ i,i≠0->(mY c p).s i=none:=λi a=>by
  have e:(mY c p).s i=if i=0 then some (crV (ig (aQ (newH c p))) (newH c p)) else none:=rfl
  rw[e,if_neg a]
 have u:=λb (e:x.fp b)=>y.new b e
 have P:∀ b,x.fp b->b≠f:=λb e C=>by
  rcases u b e with g|g
  .exact F (by rw[<- C];exact g)
  .have:=h.lt;omega
 have R:∀ i,i<5->i≠0->∀ b,(l i).fp b->(o.setCell ⟨f,6,none⟩ x.p).heap[b]?=w.heap[b]?:=λi a A b d=>by
  rw[D b (by have:=h.past i a b d;omega)]
  exact y.block ((h.dev i a).lt b d).2 (λe=>h.apart i 0 a (by omega) A b d e)
 refine⟨⟨⟨_,heap_setCell_same o f 6 _ _ _ (V.trans J),λi a=>?_,?_,λi a=>?_,?_,?_⟩,λi v a r=>?_,λi a r=>?_,?_,λi j a z G b d m=>?_,λi a b d m=>?_,λj z=>(by cases z)⟩,λb d=>?_⟩
 .rw[ja3 (by omega),N i a]
  by_cases e:i=0
  .subst e;rw[Yh.kY H];rw[O]
  .rw[Yh.dp_none (n i e)]
 .rw[ja3 (by omega)];exact S
 .by_cases e:i=0
  .subst e;rw[jaa (by omega),H];rfl
  .rw[ja3 (by omega),K i a,n i e];rfl
 .rw[ja3 (by omega)];exact L
 .rw[ja3 (by omega)];exact Q
 .by_cases e:i=0
  .subst e
   cases r
   exact U.jm λb d=>D b (P b d)
  .rw[n i e] at r;cases r
 .by_cases e:i=0
  .subst e;cases r
  .exact(h.dev i a).keep λb d=>R i a e b d
 .exact B.keep λb d=>by
   rw[D b (by have:=T b d;omega)]
   exact y.block (B.lt b d).2 (E 0 (by omega) b d)
 .have I:∀ i,i<5->i≠0->(l i).fp b->¬x.fp b:=λi a A e C=>by
   rcases u b C with g|g
   .exact h.apart i 0 a (by omega) A b e g
   .have:=((h.dev i a).lt b e).2;omega
  by_cases k:i=0
  .have q:j≠0:=λe=>G (by rw[k,e])
   subst k;rw[Yh.dH (n j q)] at m;exact I j z q m d
  .rw[Yh.dH (n i k)] at d
   by_cases q:j=0
   .subst q;exact I i a k d m
   .rw[Yh.dH (n j q)] at m;exact h.apart i j a z G b d m
 .by_cases k:i=0
  .subst k
   rcases u b m with g|g
   .exact E 0 (by omega) b d g
   .have:=(B.lt b d).2;omega
  .rw[Yh.dH (n i k)] at m;exact E i a b d m
 .rcases d with e|⟨i,a,e⟩|e|e
  .exact .inl e
  .by_cases k:i=0
   .subst k
    rcases u b e with g|g
    .exact .inr (.inl ⟨0,by omega,g⟩)
    .exact .inr (.inr (.inr g))
   .rw[Yh.dH (n i k)] at e;exact .inr (.inl ⟨i,a,e⟩)
  .exact .inr (.inr (.inl e))
  .exact absurd rfl e.1
def KF{B g cap:Nat}(l:List (Nat × List UInt8))(w:ω)(J:1<=l.length)(F:l.length<=1000000000)(n:∀ x∈l,x.2.length=16)
  (c:w.ownsRow B 180 17 (.slice (S ⟨g,0,O⟩) l.length cap) l.length (iM l)) :
  κ prog 147 #[.slice (S ⟨g,0,O⟩) l.length cap] w λe d =>
   ∃ b a,e=.returned (.slice (S ⟨b,0,O⟩) l.length a)/\d.ownsRow w.heap.size 180 17 (.slice (S ⟨b,0,O⟩) l.length a) l.length (iM l)/\β w w d:=by
 obtain⟨f,r,q,v,i⟩:=info_parts EO;have s:=uZ c;have z:=VE l n;have m:=CS l;obtain⟨_,A,G,_⟩:=dQ c
 have o:Hid (∀ j u,(iM l)[j]?=S u->(w.alloc (.cells #[] 180)).cell? ((⟨g,0,O⟩:Addr).add j)=S u):=λj u t=>by
  have:=s j u t
  rw[jbk _ _ _ (ja2 w _ this)];exact this
 have I  := λw=>by
  simpa using jbj (P:=prog) w 176 180 (S ⟨g,0,O⟩) l.length cap 0 0 underlying176
 go_enter func147,ntmps147
 go_wp2_with (at_builtin;refine wpList_append_lies _ rfl _ _ 176 rfl w.heap.size 180 f CX 17 24 underlying176 r q v i rfl (by decide) _ 0 [] rfl (F8 w _ 17) _ _ _ _ rfl z o.out m (by omega) (by omega) (by omega) (by simp) _ rfl ?_;intro b a C D y H E)
 go_ret
 exact⟨b,a,rfl,by simp_all,((ja0 _ _).alloc (ja1 _) _).grown (row:=S _) y (by simp) (λk e=>by
  simp_all)⟩
def KH(w:ω) :
  κ prog 147 #[.slice O 0 0] w λe a=>e=.returned (.slice O 0 0)/\a=w:=by
 have b  := λw=>by
  simpa using jbj  w _ _ O 0 0 0 0 underlying176
 go_enter func147,ntmps147
 go_wp2
 go_ret
 simp_all
def KG{B:Nat}{h:Hd}{d:DV}(w:ω)(hd:aO B w h d) :
  κ prog 147 #[h.v2] w λe i =>
   ∃ a c,e=.returned (.slice a d.pend.length c)/\i.ownsRow w.heap.size 180 17 (.slice a d.pend.length c) d.pend.length (iM d.pend)/\β w w i/\(d.pend=[]->(Value.slice a d.pend.length c)=.slice O 0 0):=by
 by_cases f:d.pend=[]
 .rw[hd.pn f]
  refine(KH w).mono ?_;rintro e i ⟨rfl,rfl⟩;rw[f];exact⟨O,0,rfl,jae _ _ _ _,ja0 _ _,λ_=>rfl⟩
 .have k  := List.length_pos_iff.2 f
  obtain⟨g,cap,m,_,_⟩:=hd.op.form k;have j:=hd.op;rw[m] at j |-;refine(KF _ w k (by have:=hd.ok.few;have:=hd.ok.few2;omega) (λx l=>(hd.ok.l3 x l).2) j).mono ?_
  rintro e i ⟨o,n,rfl,a,b⟩;exact⟨_,_,rfl,a,b,λq=>absurd q f⟩
def wQ{B:Nat}{h:Hd}{d:DV}(w:ω)(hd:aO B w h d) :
  κ prog 73 #[h.p] w λe Q =>
   ∃ K:Hd,e=.returned K.p/\aO w.heap.size Q K d/\β w w Q:=by
 obtain⟨c0,c1,c2,c3,c4,fz⟩:=hd.cells;have t  := (hd.lt _ (.inl rfl)).2;have j:Hid (aO B w h d):=hd;obtain⟨c,g,J⟩:=hd.v2;have HV:Hid (h.v2=.slice c d.pend.length g):=J;rw[J] at c2;have T:=hd.ok.n1;have P:=hd.ok.n2;have s:Hid (β w w (w.alloc (.cells #[.slice (some ⟨h.bf,0,none⟩) d.fl.length h.cf,.slice (some ⟨h.bs,0,none⟩) d.fl.length h.cs,.slice c d.pend.length g,(d.wr:Int),d.fail] 178))):=(ja0 _ _).alloc (ja1 _) _;have I:Hid ((w.alloc (.cells #[.slice (some ⟨h.bf,0,none⟩) d.fl.length h.cf,.slice (some ⟨h.bs,0,none⟩) d.fl.length h.cs,.slice c d.pend.length g,(d.wr:Int),d.fail] 178)).heap[w.heap.size]?=some (.cells #[.slice (some ⟨h.bf,0,none⟩) d.fl.length h.cf,.slice (some ⟨h.bs,0,none⟩) d.fl.length h.cs,.slice c d.pend.length g,(d.wr:Int),d.fail] 178 (0,0))):=heap_alloc_new w _
 have O:Hid ((w.alloc (.cells #[.slice (some ⟨h.bf,0,none⟩) d.fl.length h.cf,.slice (some ⟨h.bs,0,none⟩) d.fl.length h.cs,.slice c d.pend.length g,(d.wr:Int),d.fail] 178)).heap.size=w.heap.size+1):=by unfold Hid;simp
 have a9:(w.alloc (.cells #[.slice (some ⟨h.bf,0,none⟩) d.fl.length h.cf,.slice (some ⟨h.bs,0,none⟩) d.fl.length h.cs,.slice c d.pend.length g,(d.wr:Int),d.fail] 178)).cell? ⟨h.p,0,none⟩=some (.slice (some ⟨h.bf,0,none⟩) d.fl.length h.cf):=by rw[s.out.cell t];exact c0
 go_enter func73,ntmps73
 go_wp2_with fail
 generalize w.alloc (.cells #[.slice (some ⟨h.bf,0,none⟩) d.fl.length h.cf,.slice (some ⟨h.bs,0,none⟩) d.fl.length h.cs,.slice c d.pend.length g,(d.wr:Int),d.fail] 178)=m at s I O a9 |-;have G:Hid (∀ W:ω,β w w W->aO B W h d):=(λW (hb:β w w W)=>j.out.keep λk hk=>hb.block k (j.out.lt k hk).2)
 have ab:w.heap.size<m.heap.size:=by rw[O.out];omega
 refine(wP d.fl m T P j.out.ok.l1 (G.out m s.out).of).mono ?_;rintro e f ⟨g1,a,rfl,L,H⟩;have o:Hid (β w w (f.setCell ⟨w,0,none⟩ (.slice (some ⟨g1,0,none⟩) d.fl.length a))):=(s.out.trans (H.mono (by omega))).setCell (ja1 _) _
 have F  := (H.block w.heap.size ab).trans I.out
 have X:Hid ((f.setCell ⟨w,0,none⟩ (.slice (some ⟨g1,0,none⟩) d.fl.length a)).heap[w.heap.size]?=some (.cells #[.slice (some ⟨g1,0,none⟩) d.fl.length a,.slice (some ⟨h.bs,0,none⟩) d.fl.length h.cs,.slice c d.pend.length g,(d.wr:Int),d.fail] 178 (0,0))):=by
  unfold Hid;rw[heap_setCell_same f _ 0 _ _ _ F];rfl
 have u:Hid ((f.setCell ⟨w,0,none⟩ (.slice (some ⟨g1,0,none⟩) d.fl.length a)).ownsRow m.heap.size 175 16 (.slice (some ⟨g1,0,none⟩) d.fl.length a) d.fl.length (bM d.fl)):=aZ L (λq e=>by
  have:g1=q:=by simpa [Value.ownBlock] using e
  subst this;have:=(dQ L).1
  exact heap_setCell_other _ _ _ _ (show g1≠w.heap.size by omega))
 have af:=frozen_of_row f w.heap.size 0 _ _ F;have ae:=cell_of_row f w.heap.size 0 _ _ _ F;have aa:(f.setCell ⟨w,0,none⟩ (.slice (some ⟨g1,0,none⟩) d.fl.length a)).cell? ⟨h.p,1,none⟩=some (.slice (some ⟨h.bs,0,none⟩) d.fl.length h.cs):=by rw[o.out.cell t];exact c1
 have ac:(f.setCell ⟨w,0,none⟩ (.slice (some ⟨g1,0,none⟩) d.fl.length a)).cell? ⟨h.p,2,none⟩=some (.slice c d.pend.length g):=by rw[o.out.cell t];exact c2
 have a6:m.heap.size<=(f.setCell ⟨w,0,none⟩ (.slice (some ⟨g1,0,none⟩) d.fl.length a)).heap.size:=by have:=H.size;simpa [World.setCell] using this
 have U:g1<(f.setCell ⟨w,0,none⟩ (.slice (some ⟨g1,0,none⟩) d.fl.length a)).heap.size:=by
  obtain⟨_,a5,E,_⟩:=dQ u.out;exact lt_of_some E
 go_wp2_with fail
 generalize f.setCell ⟨w,0,none⟩ (.slice (some ⟨g1,0,none⟩) d.fl.length a)=v at o X u aa ac a6 U |-;have Z:=(G.out v o.out).os;rw[<- j.out.ok.same] at Z;have a0:=wP d.seen v (by rw[j.out.ok.same];exact T) (by rw[j.out.ok.same];exact P) j.out.ok.l2 Z
 rw[j.out.ok.same] at a0;refine a0.mono ?_;rintro e i ⟨g2,b,rfl,a1,y⟩;have x:Hid (β w w (i.setCell ⟨w,1,none⟩ (.slice (some ⟨g2,0,none⟩) d.fl.length b))):=(o.out.trans (y.mono (by omega))).setCell (ja1 _) _
 have C  := (y.block w.heap.size (by omega)).trans X.out
 have R:Hid ((i.setCell ⟨w,1,none⟩ (.slice (some ⟨g2,0,none⟩) d.fl.length b)).heap[w.heap.size]?=some (.cells #[.slice (some ⟨g1,0,none⟩) d.fl.length a,.slice (some ⟨g2,0,none⟩) d.fl.length b,.slice c d.pend.length g,(d.wr:Int),d.fail] 178 (0,0))):=by
  unfold Hid;rw[heap_setCell_same i _ 1 _ _ _ C];rfl
 have ao:=(dQ u.out).1;have al:=(dQ a1).1
 have N:Hid ((i.setCell ⟨w,1,none⟩ (.slice (some ⟨g2,0,none⟩) d.fl.length b)).ownsRow m.heap.size 175 16 (.slice (some ⟨g1,0,none⟩) d.fl.length a) d.fl.length (bM d.fl)):=aZ u.out (λq e=>by
  have:g1=q:=by simpa [Value.ownBlock] using e
  subst this
  rw[heap_setCell_other _ _ _ _ (show g1≠w.heap.size by omega)];exact y.block g1 U)
 have D:Hid ((i.setCell ⟨w,1,none⟩ (.slice (some ⟨g2,0,none⟩) d.fl.length b)).ownsRow v.heap.size 175 16 (.slice (some ⟨g2,0,none⟩) d.fl.length b) d.fl.length (bM d.seen)):=aZ a1 (λq e=>by
  have:g2=q:=by simpa [Value.ownBlock] using e
  subst this
  exact heap_setCell_other _ _ _ _ (show g2≠w.heap.size by omega))
 have ag:=frozen_of_row i w.heap.size 1 _ _ C;have ai:=cell_of_row i w.heap.size 1 _ _ _ C;have a2:(i.setCell ⟨w,1,none⟩ (.slice (some ⟨g2,0,none⟩) d.fl.length b)).cell? ⟨h.p,2,none⟩=some (.slice c d.pend.length g):=by rw[x.out.cell t];exact c2
 have a8:v.heap.size<=(i.setCell ⟨w,1,none⟩ (.slice (some ⟨g2,0,none⟩) d.fl.length b)).heap.size:=by have:=y.size;simpa [World.setCell] using this
 have V:g2<(i.setCell ⟨w,1,none⟩ (.slice (some ⟨g2,0,none⟩) d.fl.length b)).heap.size:=by
  obtain⟨_,a5,E,_⟩:=dQ D.out;exact lt_of_some E
 go_wp2_with fail
 generalize i.setCell ⟨w,1,none⟩ (.slice (some ⟨g2,0,none⟩) d.fl.length b)=M at x R N D a2 a8 V |-;have Y:=KG M (G.out M x.out);rw[HV.out] at Y;refine Y.mono ?_;rintro e l ⟨r,n,rfl,S,z,ad⟩;have a4:Hid (β w w (l.setCell ⟨w,2,none⟩ (.slice r d.pend.length n))):=(x.out.trans (z.mono (by omega))).setCell (ja1 _) _
 have A  := (z.block w.heap.size (by omega)).trans R.out
 have a7:Hid (aO w.heap.size (l.setCell ⟨w,2,none⟩ (.slice r d.pend.length n)) ⟨w.heap.size,g1,a,g2,b,.slice r d.pend.length n⟩ d):=by
  refine⟨j.out.ok,ja1 _,?_,?_,?_,?_,show g1≠g2 by omega,ad⟩
  .show(l.setCell ⟨w,2,none⟩ (.slice r d.pend.length n)).heap[w.heap.size]?=_
   rw[heap_setCell_same l _ 2 _ _ _ A];rfl
  .exact ownsRow_base (aZ N.out (λq e=>by
    have:g1=q:=by simpa [Value.ownBlock] using e
    subst this
    rw[heap_setCell_other _ _ _ _ (show g1≠w.heap.size by omega)];exact z.block g1 (by omega))) (by omega)
  .exact ownsRow_base (aZ D.out (λq e=>by
    have:g2=q:=by simpa [Value.ownBlock] using e
    subst this
    rw[heap_setCell_other _ _ _ _ (show g2≠w.heap.size by omega)];exact z.block g2 V)) (by omega)
  .exact ownsRow_base (aZ S (λq e=>by
    have:=(S.lt q e).1
    exact heap_setCell_other _ _ _ _ (show q≠w.heap.size by omega))) (by omega)
 have am:=frozen_of_row l w.heap.size 2 _ _ A;have an:=cell_of_row l w.heap.size 2 _ _ _ A;go_wp2
 go_ret
 exact⟨⟨w.heap.size,g1,a,g2,b,.slice r d.pend.length n⟩,rfl,a7.out,a4.out⟩
