/- Two lists of numbers that are the same (the document's own test). -/
import Derived.Test.YtbohmhacdgckgaaGreatDoorQLawYb
set_option linter.all false
set_option maxHeartbeats 4000000
set_option maxRecDepth 100000
namespace Go.Proofs.YtbohmhacdgckgaaGreatDoor
open Go.RowKit renaming Below->β
open Go renaming World->ω, Value->υ, Calls->κ
open Option renaming some->S
open Go.Proofs.Tryz Go.RowKit Go.Maps Go.ChangeShapes Go.WideShapes
attribute [local go_sem ↓] Go.wp_at_zero Go.wp_at_succ
def TB{a b:Option Addr}{c1 c2:Nat}(l:List Int)(w:ω)(z:Nums w a l)(u:Nums w b l)(A:l.length<=1000) :
  κ prog 65 #[.slice a l.length c1,.slice b l.length c2] w λe t=>e=.returned true/\β w w t:=by
 have j:Hid (∀(k:Nat) (W:ω),β _ w W->k<l.length->∃ g o g2 o2,a=S _/\b=S _/\W.cell? _=S _/\W.cell? _=S _):=λk W m c=>by
  obtain⟨g,o,d,f⟩:=(z.below m) k c;obtain⟨g2,o2,v,y⟩:=(u.below m) k c;exact⟨g,o,g2,o2,d,v,f,y⟩
 generalize l.length=n at j A |-;go_enter func65,ntmps65
 go_wp2
 go_loopw [5] (λi wr=>∃ k:Nat,k<=n/\i=.int .i64 (k:Int)/\β _ w wr) (λi _=>n-(intOf i).toNat)
 case atStart=>exact⟨0,ja6 _,rfl,ja0 _ _⟩
 case round =>
  obtain⟨k,c,rfl,r⟩:=hrel;have q:=ah r;by_cases s:k<n
  .obtain⟨g,o,g2,o2,rfl,rfl,d,f⟩:=j.out k wr r s
   have C:(k:Int)<(n:Int):=by omega
   generalize l.getD k 0=x at d f;go_wp2
   go_region
   go_wp2
   go_roundw
   case rel =>
    exact⟨k+1,by omega,by go_num,q.out.drew⟩
   case measure=>simp[intOf];omega
  .have B:k=n:=by omega
   subst B;go_wp2
   go_ret
   exact⟨rfl,q.out⟩
def Ue(o:Option JV):∃ a b c d:Int,(match o with|none=>.agg #[(0:Int),(-1:Int),(0:Int),(0:Int)] | some j=>.agg #[j.kind,j.file,j.state,.int .i64 (S4.cnt j.x 64:Nat)])=Value.agg #[a,b,c,d]:=by
 cases o with
 | none=>simp_all
 | some j=>simp_all
def JU{B:Gd}{A x C m:Nat}{w0:ω}(w:ω)(h:Both B w0 A x C m w) :
    κ prog 15 #[A,x] w λe c=>e=.returned true/\β w w c:=by
  obtain⟨Y,Z,y,h,z⟩:=h;have hC:=z.c32;have u:=ah λW (d:β w w W)=>h.below d
  have ai:Hid (∀ W:ω,β w w W->κ prog 66 #[A] W λe c=>∃(g o cap:Nat),e=.returned (.slice (some ⟨g,o,none⟩) y.l.length cap)/\Hid (Nums c (some ⟨g,o,none⟩) y.l)/\β w w c):=λW d=>(VX W (u.out W d).prog z).mono λe c ⟨g,o,cap,t,r,_,_,_,h6⟩=>⟨g,o,cap,t,r,d.trans (h6.mono d.size)⟩
  have M:Hid (∀(W n:ω) (g o cap:Nat),β w w W->Hid (Nums W (some ⟨g,o,none⟩) y.l)->n.heap=W.heap->β w w n->κ prog 65 #[.slice (some ⟨g,o,none⟩) y.l.length cap,.slice Z.la y.l.length Z.lc] n λe c=>e=.returned true/\β w w c):=λW n g o cap d hn he q =>
    (TB y.l n (hn.out.keep λk _ _=>by rw[he]) (u.out n q).ref.list.1 (by have:=z.ch.len;omega)).mono λe c ⟨t,r⟩=>⟨t,q.trans (r.mono q.size)⟩
  obtain⟨sa,sb,sc,sd,a7⟩:=Ue y.j;have ad:Hid (∀ W:ω,β w w W->κ prog 67 #[A] W λe c=>e=.returned (.agg #[sa,sb,sc,sd])/\β w w c):=λW d=>(WB W (u.out W d).prog z).mono λe c ⟨t,r⟩=>⟨t.trans (congrArg Ending.returned a7),d.trans (r.mono d.size)⟩
  have an:Hid (∀ W:ω,β w w W->κ prog 68 #[x] W λe c=>e=.returned (.agg #[sa,sb,sc,sd])/\β w w c):=λW d=>(Xd W (u.out W d).ref).mono λe c ⟨t,r⟩=>⟨t.trans (congrArg Ending.returned a7),d.trans (r.mono d.size)⟩
  have aq:Hid (∀ W:ω,β w w W->κ prog 26 #[A] W λe c=>e=.returned ((4*C:Nat):Int)/\β w w c):=λW d=>(Jm W (u.out W d).prog z).mono λe c ⟨t,r⟩=>⟨t,d.trans (r.mono d.size)⟩
  have N:Hid (∀ W:ω,β w w W->κ prog 25 #[A,(0:Int),((4*C:Nat):Int)] W λe c=>e=.returned (.tuple #[.string (y.s.ji y.l 0 ((4*C:Nat):Int)),erV (y.s.aW y.l 0 ((4*C:Nat):Int))])/\β w w c):=λW d=>(CW 0 _ W (u.out W d).prog z (by omega) (by omega)).mono λe c ⟨t,r⟩=>⟨t,d.trans (r.mono d.size)⟩
  have D:Hid (∀ W:ω,β w w W->κ prog 44 #[Z.sp,.slice Z.la y.l.length Z.lc,(0:Int),((4*C:Nat):Int)] W λe c=>e=.returned (.tuple #[.string (y.s.ji y.l 0 ((4*C:Nat):Int)),y.s.aW y.l 0 ((4*C:Nat):Int)])/\β w w c):=λW d=>(GL y.l 0 _ W ((u.out W d).ref.shelf z.s) (u.out W d).ref.list.1 z.ch.good (by have:=z.ch.len;omega) (by omega) (by omega)).mono λe c ⟨t,r⟩=>⟨t,d.trans (r.mono d.size)⟩
  have X:Hid (∀ W:ω,β w w W->κ prog 69 #[A] W λe c=>∃(g cap:Nat) (I:Nat->Nat) (Q:Nat),e=.returned (.tuple #[.slice (some ⟨g,0,none⟩) 5 cap,Q])/\β w w c /\
      (∀ n:ω,β c c n->κ prog 70 #[Q,Z.tp.p] n λe E=>e=.returned true/\β c c E) /\
      ∀(k:Nat) (n:ω),k<5->β c c n->n.cell? ⟨g,k,none⟩=some (I k:υ)/\n.cell? ⟨x,k,none⟩=some (Z.dp y.s k:υ)/\κ prog 70 #[I k,Z.dp y.s k] n λe E=>e=.returned true/\β c c E):=λW d=>(V3 W (u.out W d).prog).mono λe c ⟨a,cap,hs,th,t,r,h3,h4⟩=>by
    have G  := d.trans (h4.mono d.size);obtain⟨g,rfl,_⟩:=r.ptrs (by decide)
    refine⟨g,cap,λk=>(hs k).p,th.p,t,G,λn q=>?_,λk n H q=>?_⟩
    . exact(Dc n (h3.keep λb e=>q.block b (h3.lt b e).2) (u.out n (G.trans (q.mono G.size))).ref.top.todA z.top.sn).mono λe E ⟨O,q2⟩=>⟨O,q.trans (q2.mono q.size)⟩
    . have hz:=(u.out n (G.trans (q.mono G.size))).ref
      obtain⟨g',e1,_,hp,_⟩:=(r.below q).ptrs (by decide)
      cases e1
      have hc:=hp k H;rw[jan] at hc;obtain⟨z1,z2,_⟩:=hz.kP H;refine⟨hc,hz.blk.cells.1 k H,?_⟩;rw[<- z2];exact(Dc n ((r.below q).dev k H) z1.todA (z.dev k).sn).mono λe E ⟨O,q2⟩=>⟨O,q.trans (q2.mono q.size)⟩
  have v:Hid (∀ W:ω,β w w W->W.cell? ⟨x,5,none⟩=some (Z.tp.p:υ)/\W.cell? ⟨x,6,none⟩=some (Z.sp:υ)/\W.cell? ⟨x,12,none⟩=some (.slice Z.la y.l.length Z.lc)):=λW d=>by
    obtain⟨_,L,V,_,_,_,_,_,F,_⟩:=(u.out W d).ref.blk.cells;exact⟨L,V,F⟩
  have a8:=Dy y.s y.l 0 ((4*C:Nat):Int);generalize ((4*C:Nat):Int)=n4 at *
  generalize y.s.ji y.l 0 n4=T at N D;generalize y.s.aW y.l 0 n4=f at N D a8;generalize Z.dp y.s=dp at X;generalize Z.tp.p=tz at X v;generalize Z.sp=sp at D v;generalize Z.la=la at D v M;generalize Z.lc=lc at D v M;generalize y.l=l at *
  have aa:Hid (β w w w.drew):=(ja0 _ _).drew;have F:=(v.out _ (ja0 _ _)).2.2;go_enter func15,ntmps15
  go_wp2
  go_region_held3 (λW=>W.cell? ⟨x,12,none⟩=some (.slice la l.length lc))
    (first|(exact F)|assumption)
    (first
      | (go_at_call 66;refine(ai.out _ aa.out).mono ?_;rintro e w1 ⟨g,o,cap,rfl,HN,U⟩;have a3:=ah U;have az:=(v.out _ U).2.2;clear U)
      | (go_at_call 65;refine cEq (M.out w1 _ g o cap a3.out HN rfl a3.out) λw2 q=>?_;have ar:=ah q;have aw:=(v.out _ q).2.2;clear q)
      | (go_at_call 67;refine cEq (ad.out _ ar.out) λE a0=>?_;have ac:=ah a0;have av:=(v.out _ a0).2.2;clear a0)
      | (go_at_call 68;refine cEq (an.out _ ac.out) λw4 S=>?_;have af:=ah S;have ax:=(v.out _ S).2.2;clear S))
  go_wp2_with fail
  refine cHd (aq.out _ af.out) λw5 al=>?_
  go_wp2_with fail
  refine cEq (N.out _ al.out) λw6 a2=>?_
  obtain⟨L,V,F⟩:=v.out _ a2;go_wp2
  go_region_held3 (λW=>W.cell? ⟨x,6,none⟩=some (sp:υ)/\W.cell? ⟨x,12,none⟩=some (.slice la l.length lc))
    (first|(exact⟨V,F⟩)|assumption)
    (first
      | (go_at_call 44;refine(D.out _ ?_).mono ?_;(· exact Alike.after a2 ⟨rfl,rfl,rfl,rfl⟩);rintro e w7 ⟨rfl,R⟩;have ae:=ah R;have c7:=(v.out _ R).2;clear R))
  go_wp2_with fail
  refine(X.out _ ae.out).mono ?_;rintro e J ⟨g,cap,I,Q,rfl,a4,am,ag⟩;have a1:=ah a4;have a9:=ah ag;obtain⟨L,_⟩:=v.out _ a4
  go_wp2_with (first
    | (go_at_call 10;refine cSt (oH f _ a8) ?_)
    | (go_at_call 70;refine cHd (am _ (ja0 _ _)) λw9 ao=>?_;clear L))
  go_loopw [12] (λi wr=>∃ k:Nat,k<=5/\i=.int .i64 (k:Int)/\β J J wr) (λi _=>5-(intOf i).toNat)
  case atStart=>exact⟨0,ja6 _,rfl,ao.out⟩
  case round =>
    obtain⟨k,H,rfl,a5⟩:=hrel;have HB:=ah a5;by_cases a6:k<5
    . obtain⟨d1,d2,_⟩:=a9.out k wr a6 a5
      have P:=ah λn (q:β J J n)=>a9.out k n a6 q
      have k0:(0:Int)<=(k:Int):=by omega
      have k1:(k:Int)<5:=by omega
      have k2:((k:Int)).toNat=k:=by omega
      go_wp2
      go_region_held3 (λW=>W.cell? ⟨g,k,none⟩=some (I k:υ)/\W.cell? ⟨x,k,none⟩=some (dp k:υ))
        (first|(exact⟨d1,d2⟩)|assumption)
        (first
          | (go_at_call 70;refine((P.out _ ?_).2.2).mono ?_;(· exact Alike.after HB.out ⟨rfl,rfl,rfl,rfl⟩);rintro e wa ⟨rfl,K⟩;have ab:=ah K;have d3:=And.intro (P.out _ K).1 (P.out _ K).2.1;clear K))
      go_wp2
      go_roundw
      case rel =>
        exact⟨k+1,by omega,by go_num,ab.out⟩
      case measure=>simp[intOf];omega
    . have ap:k=5:=by omega
      subst ap;go_wp2
      go_ret
      exact⟨rfl,a1.out.trans (HB.out.mono a1.out.size)⟩
def MX:(prog.info? 34).map (λi=>(i.zero,i.size,i.bytes))=S (S (.slice none 0 0),1,24):=by kernel_rfl
def bg(x:aT)(i:Nat):Nat:=min ((min (max x.a 0) 9).toNat*i) x.kl
def xI(x:aT):List (List Bool):=(List.range 5).map λi=>x.ks.drop (bg x i)
def uT(x:aT)(f:Nat):Option Addr:=if x.kc=f then x.ka else x.ka.map λa=>a.add f
def xH(x:aT)(f:Nat):Value:=.slice (uT x f) (x.kl-f) (x.kc-f)
def kD(x:aT)(k:Nat):List Value:=(List.range k).map λi=>xH x (bg x i)
def Oo(x:aT)(k:Nat):kD x (k+1)=kD x k++[xH x (bg x k)]:=by unfold kD;rw[jaW,jbb];rfl
def Oq(x:aT)(w:ω)(aa:x.kl<=x.kc)(ab:x.kc<=maxLen)(ha : -9223372036854775808<=x.a/\x.a<=9223372036854775807) :
  κ prog 11 #[.agg #[x.kind,x.a,x.b,x.c,x.d,x.s,.slice x.ka x.kl x.kc]] w λe M=>∃(a:Option Addr) (cap:Nat),e=.returned (.slice a 5 cap)/\M.ownsRow w.heap.size 34 1 (.slice a 5 cap) 5 (kD x 5)/\β w w M:=by
 obtain⟨N,R,X,O,P⟩:=info_parts MX;obtain⟨A,hA,a1⟩:∃ A:Nat,min (max x.a 0) 9=(A:Int)/\A<=9:=⟨(min (max x.a 0) 9).toNat,by omega,by omega⟩
 have a7:Hid (∀ k:Nat,bg x k=min (A*k) x.kl):=λk=>by unfold bg;rw[hA];rfl
 have K:=ah (Oo x);have a4:Hid (kD x 0=[]):=rfl;have L:Hid (β w w (w.alloc (.cells #[x.kind,x.a,x.b,x.c,x.d,x.s,.slice x.ka x.kl x.kc] 36))):=(ja0 _ _).alloc (ja1 _) _;have Y:Hid ((w.alloc (.cells #[x.kind,x.a,x.b,x.c,x.d,x.s,.slice x.ka x.kl x.kc] 36)).heap[w.heap.size]?=some (.cells #[x.kind,x.a,x.b,x.c,x.d,x.s,.slice x.ka x.kl x.kc] 36 (0,0))):=heap_alloc_new _ _;have V:Hid ((w.alloc (.cells #[x.kind,x.a,x.b,x.c,x.d,x.s,.slice x.ka x.kl x.kc] 36)).heap.size=w.heap.size+1):=by unfold Hid;simp
 go_enter func11,ntmps11
 go_wp2
 generalize w.alloc (.cells #[x.kind,x.a,x.b,x.c,x.d,x.s,.slice x.ka x.kl x.kc] 36)=q at L Y V |-;go_loopw [3,4] (λu i wr=>∃(k:Nat) (a:Option Addr) (cap:Nat),k<=5/\i=.int .i64 (k:Int)/\u=.slice a k cap/\wr.ownsRow (w.heap.size+1) 34 1 (.slice a k cap) k (kD x k)/\β (w.heap.size+1) q wr) (λ_ i _=>5-(intOf i).toNat)
 case atStart=>exact⟨0,none,0,by omega,rfl,rfl,by rw[a4.out];exact jae _ _ _ _,ja0 _ _⟩
 case round =>
  obtain⟨k,a,cap,ac,rfl,rfl,G,t⟩:=hrel;have S:w.heap.size+1<=wr.heap.size:=by have:=t.size;rw[V.out] at this;exact this
  by_cases a9:k<5
  .have B  := (t.block w.heap.size (by omega)).trans Y.out
   have c1:wr.cell? ⟨w,1,none⟩=some (x.a:υ):=by rw[cell_of_row _ _ _ _ _ _ B];rfl
   have c6:wr.cell? ⟨w,6,none⟩=some (.slice x.ka x.kl x.kc):=by rw[cell_of_row _ _ _ _ _ _ B];rfl
   have T:A*k<=9*4:=Nat.mul_le_mul a1 (by omega)
   have v:(A:Int)*(k:Int)=((A*k:Nat):Int):=by simp
   have m1:IntKind.i64.wrap ((A:Int)*(k:Int))=(A:Int)*(k:Int):=ja8 _ (by rw[v];omega)
   have Q:=ah (a7.out k);have m2:(0:Int)<=min ((A:Int)*(k:Int)) (x.kl:Int):=by rw[v];omega
   have m3:min ((A:Int)*(k:Int)) (x.kl:Int)<=(x.kl:Int):=by omega
   have W:(min ((A:Int)*(k:Int)) (x.kl:Int)).toNat=bg x k:=by rw[Q.out,v];omega
   have U:bg x k<=x.kl:=by rw[Q.out];omega
   by_cases g:x.kc=bg x k
   .have j:Hid (kD x (k+1)=kD x k++[.slice x.ka (x.kl-bg x k) (x.kc-bg x k)]):=by
     unfold Hid;rw[K.out];unfold xH uT;rw[if_pos g]
    clear B v T;generalize a6:bg x k=f at W U j g;have a8  := eq_true g;clear g;have m:Hid ((wr.alloc (.cells #[.slice x.ka (x.kl-f) (x.kc-f)] 34)).ownsRow (w.heap.size+1) 34 1 (.slice a k cap) k (kD x k)):=G.alloc _;have z:Hid (w.heap.size+1<=(wr.alloc (.cells #[.slice x.ka (x.kl-f) (x.kc-f)] 34)).heap.size):=by unfold Hid;simp;omega
    have E:Hid (β (w.heap.size+1) q (wr.alloc (.cells #[.slice x.ka (x.kl-f) (x.kc-f)] 34))):=t.alloc S _;have H:Hid ((wr.alloc (.cells #[.slice x.ka (x.kl-f) (x.kc-f)] 34)).heap.size=wr.heap.size+1):=by unfold Hid;simp
    have D:Hid (∀ i y,([.slice x.ka (x.kl-f) (x.kc-f)]:List υ)[i]?=some y->(wr.alloc (.cells #[.slice x.ka (x.kl-f) (x.kc-f)] 34)).cell? ((⟨wr.heap.size,0,none⟩:Addr).add i)=some y):=cell_one_new _ _ _;go_wp2_with (at_builtin;refine wpList_append_lies _ (by rfl) _ _ 37 (by rfl) (w.heap.size+1) 34 N (.slice none 0 0) 1 24 underlying37 R X O P rfl (by decide) (.slice a k cap) k (kD x k) (by rfl) m.out ⟨wr,0,none⟩ 1 1 [.slice x.ka (x.kl-f) (x.kc-f)] (by rfl) (by rfl) D.out (λu o=>by simp at o;subst o;rfl) (by decide) (by unfold maxLen;omega) (by omega) z.out (wr.heap.size+1) H.out ?_;intro g3 n l C J Z a0)
    have I:Hid (l.ownsRow (w.heap.size+1) 34 1 (.slice (some ⟨g3,0,none⟩) (k+1) n) (k+1) (kD x (k+1))):=by
     unfold Hid;rw[j.out];exact C
    have F:Hid (β (w.heap.size+1) q l):=E.out.grown J z.out (λr e=>(m.out.lt r e).1)
    go_roundw
    case rel =>
     exact⟨k+1,some ⟨g3,0,none⟩,n,by omega,by go_num,rfl,I.out,F.out⟩
    case measure=>simp[intOf];omega
   .have j:Hid (kD x (k+1)=kD x k++[.slice (x.ka.map λa=>a.add (bg x k)) (x.kl-bg x k) (x.kc-bg x k)]):=by
     unfold Hid;rw[K.out];unfold xH uT;rw[if_neg g]
    clear B v T;generalize a6:bg x k=f at W U j g;have m:Hid ((wr.alloc (.cells #[.slice (x.ka.map λa=>a.add f) (x.kl-f) (x.kc-f)] 34)).ownsRow (w.heap.size+1) 34 1 (.slice a k cap) k (kD x k)):=G.alloc _
    have z:Hid (w.heap.size+1<=(wr.alloc (.cells #[.slice (x.ka.map λa=>a.add f) (x.kl-f) (x.kc-f)] 34)).heap.size):=by unfold Hid;simp;omega
    have E:Hid (β (w.heap.size+1) q (wr.alloc (.cells #[.slice (x.ka.map λa=>a.add f) (x.kl-f) (x.kc-f)] 34))):=t.alloc S _
    have H:Hid ((wr.alloc (.cells #[.slice (x.ka.map λa=>a.add f) (x.kl-f) (x.kc-f)] 34)).heap.size=wr.heap.size+1):=by unfold Hid;simp
    have D:Hid (∀ i y,([.slice (x.ka.map λa=>a.add f) (x.kl-f) (x.kc-f)]:List υ)[i]?=some y->(wr.alloc (.cells #[.slice (x.ka.map λa=>a.add f) (x.kl-f) (x.kc-f)] 34)).cell? ((⟨wr.heap.size,0,none⟩:Addr).add i)=some y):=cell_one_new _ _ _
    go_wp2_with (at_builtin;refine wpList_append_lies _ (by rfl) _ _ 37 (by rfl) (w.heap.size+1) 34 N (.slice none 0 0) 1 24 underlying37 R X O P rfl (by decide) (.slice a k cap) k (kD x k) (by rfl) m.out ⟨wr,0,none⟩ 1 1 [.slice (x.ka.map λa=>a.add f) (x.kl-f) (x.kc-f)] (by rfl) (by rfl) D.out (λu o=>by simp at o;subst o;rfl) (by decide) (by unfold maxLen;omega) (by omega) z.out (wr.heap.size+1) H.out ?_;intro g3 n l C J Z a0)
    have I:Hid (l.ownsRow (w.heap.size+1) 34 1 (.slice (some ⟨g3,0,none⟩) (k+1) n) (k+1) (kD x (k+1))):=by
     unfold Hid;rw[j.out];exact C
    have F:Hid (β (w.heap.size+1) q l):=E.out.grown J z.out (λr e=>(m.out.lt r e).1)
    go_roundw
    case rel =>
     exact⟨k+1,some ⟨g3,0,none⟩,n,by omega,by go_num,rfl,I.out,F.out⟩
    case measure=>simp[intOf];omega
  .have a2:k=5:=by omega
   subst a2;have a3:Hid (β w w wr):=L.out.trans (t.mono (jaY _));have a5:=ah (ownsRow_base G (jaY w.heap.size));go_wp2
   go_ret
   exact⟨a,cap,rfl,a5.out,a3.out⟩
def Wi(c p:Int)(w:ω)(f:(newH c p).ok≠true) :
  κ prog 8 #[c,p] w λe a=>e=.returned (.tuple #[.pointer none,.iface 96 (.int .i64 1)])/\β w w a:=by
 have b:Hid (β w w (w.alloc (mQ c p (-1)))):=(ja0 _ _).alloc (ja1 _) _
 have d:Hid (κ prog 27 #[.agg #[c,p,(-1:Int)]] (w.alloc (mQ c p (-1))) λe a=>e=.returned (.iface 96 (.int .i64 1))/\β w w a):=by
  have:=oW c p (-1) (w.alloc (mQ c p (-1)))
  rw[show HV.fault _=1 by unfold HV.fault;rw[if_neg (show ¬HV.ok ⟨c,p,-1⟩=true from f)]] at this
  exact this.mono λe a ⟨i,g⟩=>⟨i,b.out.trans (g.mono b.out.size)⟩
 unfold mQ at b d;go_enter func8,ntmps8
 go_wp2_with fail
 refine cHd d.out λk j=>?_
 go_wp2
 go_ret2
 exact⟨rfl,j.out⟩
def aB.Po{w:ω}{b:Nat}{Y:Yh}{y:YV}(h:aB w b Y y)(c:y.j=none):aB w b {Y with jb:={Y.jb with a:=none}} y:=by
 refine⟨?_,h.img,h.dev,h.top,h.apart,h.apTop,λj e=>by simp_all⟩
 exact⟨h.blk.is⟩
def PX(d:Nat->DV)(t:DV):0<=jo d t:=by
 unfold jo;split
 .exact((aK d).walk_good _).2.2.1
 .generalize bytesOf _=b
  have a:0<=bV b:=by
   unfold bV;omega
  unfold Go.Proofs.YtbohmhacdgckgaaGreatDoor.aJ;omega
def Jf{w W c d:ω}{i l:Nat}{Y:Yh}{Z:Zh}{y:YV}(n:β w w W)(u:β W W c)(j:β c c d)(g:aB c i Y y)(x:aC d l Z y)
  (B:∀ k,fpY i Y y k->W.heap.size<=k) (r:∀ q o,Y.jb.a=S ⟨q,o,none⟩->W.heap.size<=q/\q<c.heap.size) (m:∀ k,fpZ l Z y k->c.heap.size<=k) (s:∀ q o,Z.la=S ⟨q,o,none⟩->c.heap.size<=q/\q<d.heap.size) (v:∀ q o,Z.jb.a=S ⟨q,o,none⟩->c.heap.size<=q/\q<d.heap.size):YZ (Gd.of w.heap.size) w d i Y y l Z y:=by
 have t:=n.size;have A:=u.size;have C:=j.size;refine⟨g.below j,x,λk f b=>?_,λq o e b=>?_,λq o e=>?_,λq o e b=>?_,λq o e=>(s q o e).2,λq o e b=>?_,λq o e=>(v q o e).2,λk f b=>?_,λk f b=>?_,Below.kept (n.trans ((u.mono t).trans (j.mono (ja4 t A)))),ja1 _⟩
 .have:=g.fF f;have:=m k b;omega
 .have:=(r q o e).2;have:=m q b;omega
 .have:=(r q o e).2;omega
 .have:=(s q o e).1;have:=g.fF b;omega
 .have:=(v q o e).1;have:=g.fF b;omega
 .have:=B k f;have z:k<w.heap.size:=b;omega
 .have:=m k f;have z:k<w.heap.size:=b;omega
def YS(w:ω)(a b q:Nat)(W:ω):Prop:=∃ C,Both (Gd.of w.heap.size) w a b C (20+3000*q) W
def YS.bel{w W:ω}{b c q:Nat}(h:YS w b c q W):β w w W:=by
 obtain⟨C,Y,Z,y,a,d⟩:=h;exact a.kept.below (ja1 _) λk e=>Nat.le_of_not_lt e
def YS.later{w W b:ω}{a c q:Nat}(h:YS w a c q W)(d:β W W b):YS w a c q b:=by
 obtain⟨C,h⟩:=h;exact⟨C,h.below d⟩
def YS.next{w W:ω}{a b q:Nat}(h:YS w a b q W):YS w a b (q+1) W:=by
 obtain⟨C,h⟩:=h;exact⟨C,h.more (by omega)⟩
def YS.act{w W:ω}{f g q:Nat}(h:YS w f g q W)(x:aT)(n:nR x)(k:S4.Tab w)(m:0<w.heap.size)(o:q<=100) :
  κ prog 14 #[f,g,.agg #[x.kind,x.a,x.b,x.c,x.d,x.s,.slice x.ka x.kl x.kc]] W λe i=>e=.returned true/\YS w f g (q+1) i:=by
 obtain⟨C,h⟩:=h;exact(VK x W h n k m (by omega)).mono λe i ⟨l,j⟩=>⟨l,C,j.more (by omega)⟩
def YS.as{w W:ω}{a b q:Nat}(h:YS w a b q W) :
  κ prog 15 #[a,b] W λe c=>e=.returned true/\YS w a b q c:=by
 have d:=h;obtain⟨C,h⟩:=h;exact(JU W h).mono λe c ⟨f,g⟩=>⟨f,d.later g⟩
def Wu{w W:ω}(c p:Int)(d:(newH c p).ok=true)(n:β w w W) :
  κ prog 8 #[c,p] W λe f=>∃ a:Nat,e=.returned (.tuple #[a,.nilIface]) /\
   κ prog 9 #[c,p] f λe i=>∃ b:Nat,e=.returned (.tuple #[b,(0:Int)])/\YS w a b 0 i:=by
 have g:=xP d;refine(Jl c p W d g).mono λe f ⟨a,Y,r,t,j,s⟩=>⟨a,r,?_⟩
 refine(WY c p f d).mono λe i ⟨b,u,m,Z,l,v,k,x⟩=>⟨b,u,c.toNat,_,Z,_,Jf n s m (t.Po rfl) l j (λq o e=>by cases e) v k (λq o e=>by simp_all),FK d g⟩
def YS.crash{w W:ω}{k o q:Nat}(h:YS w k o q W){g:Option Addr}{kc:Nat}{s:List (List Bool)}(m:pU W g 5 s) :
    (∃ f:Int,0<=f/\κ prog 12 #[k,.slice g 5 kc] W λe a=>e=.returned (.tuple #[.pointer none,erV f]) /\
      κ prog 13 #[o,.slice g 5 kc] a λe j=>e=.returned (.tuple #[.pointer none,f])/\YS w k o q j) \/
    κ prog 12 #[k,.slice g 5 kc] W λe a=>∃ r:Nat,e=.returned (.tuple #[r,.nilIface]) /\
      κ prog 13 #[o,.slice g 5 kc] a λe j=>∃ n:Nat,e=.returned (.tuple #[n,(0:Int)])/\YS w r n q j:=by
  have B:=h;have F:=h.bel;obtain⟨C,Y,Z,y,l,d⟩:=h;by_cases z:jo (y.left s) (jY y.top [])=0
  . right
    refine(H9 W l.prog d m).mono λe a ⟨c,b⟩=>?_
    rcases b with⟨v,_⟩|⟨_,r,Yq,rfl,A,D,G⟩
    . omega
    refine⟨r,rfl,?_⟩;refine(Js a (l.below c).ref d (m.below c)).mono λe j ⟨t,b⟩=>?_
    rcases b with⟨v,_⟩|⟨_,n,Zq,rfl,K,I,J,x⟩
    . omega
    obtain⟨u,E⟩:=F5 (λi=>sW (d.dev i) _) (sW d.top []) z
    exact⟨n,rfl,u,Yq,Zq,_,Jf F c t A K D G I J x,E⟩
  . left
    refine⟨jo (y.left s) (jY y.top []),PX _ _,?_⟩;refine(H9 W l.prog d m).mono λe a ⟨c,b⟩=>?_
    rcases b with⟨_,rfl⟩|⟨H,_⟩
    . refine⟨rfl,(Js a (l.below c).ref d (m.below c)).mono λe j ⟨t,b⟩=>?_⟩
      rcases b with⟨_,rfl⟩|⟨H,_⟩
      . exact⟨rfl,(B.later c).later t⟩
      . omega
    . omega
def Ot{x:aT}{w c:ω}{a:Option Addr}{cap B:Nat}(t:x.kl<=x.kc)(s:x.kc<=maxLen)(f:Bools w x.ka x.kl x.ks)(m:β w w c)(k:c.ownsRow B 34 1 (.slice a 5 cap) 5 (kD x 5)):pU c a 5 (xI x):=by
 refine⟨by simp[xI],λi d=>?_⟩
 obtain⟨g,v,o,r,_,_⟩:=nJ k i d
 injection o with hv1 hv2 hv3
 have n:(xI x).getD i []=x.ks.drop (bg x i):=by
  unfold xI
  simp_all
 refine⟨g,0,uT x (bg x i),x.kl-bg x i,x.kc-bg x i,hv1,?_,?_,by omega⟩
 .rw[jan,r]
  unfold kD;rw[List.getElem?_map,List.getElem?_range d];rfl
 .rw[n]
  refine⟨by rw[List.length_drop,f.1],λj u=>?_⟩
  obtain⟨b,l,e,q⟩:=(f.below m).2 (bg x i+j) (by omega)
  refine⟨b,l+bg x i,?_,?_⟩
  .unfold uT
   rw[if_neg (by omega),e]
   show S (Addr.add _ _)=_
   rw[Go.WideShapes.add_plain]
  .rw[Nat.add_assoc,q,ja5,ja5,List.getElem?_drop]
def w16:ByteArray:=⟨#[48,49,50,51,52,53,54,55,56,57,97,98,99,100,101,102]⟩
def wk0:(newH 2 2).ok=true:=by kernel_rfl
def wk1:(lG 2 2).dJ 3 w16=0:=by kernel_rfl
def wk2:((lG 2 2).write 3 w16).s.aW ((lG 2 2).write 3 w16).l 3 1=0:=by kernel_rfl
def wk3:(((lG 2 2).write 3 w16).s.ji ((lG 2 2).write 3 w16).l 3 1).data.toList=w16.data.toList:=by kernel_rfl
def wk4:((lG 2 2).write 3 w16).s.ji ((lG 2 2).write 3 w16).l 3 1=w16:=by
 have a:=Array.toList_inj.1 wk3;generalize ((lG 2 2).write 3 _).s.ji _ 3 1=T at a;cases T
 simp_all
def CP(w:ω):κ prog 6 #[] w λe o=>e=.returned true/\β w w o:=by
 have q:Hid (κ prog 8 #[(2:Int),(2:Int)] w λe c=>∃ a:Nat,e=.returned (.tuple #[a,.nilIface]) /\
   κ prog 24 #[a,(3:Int),.string ⟨#[48,49,50,51,52,53,54,55,56,57,97,98,99,100,101,102]⟩] c λe f=>e=.returned .nilIface /\
    κ prog 25 #[a,(3:Int),(1:Int)] f λe d=>e=.returned (.tuple #[.string ⟨#[48,49,50,51,52,53,54,55,56,57,97,98,99,100,101,102]⟩,.nilIface]) /\
     κ prog 26 #[a] d λe w4=>e=.returned (8:Int)/\β w w w4):=by
  have m:=FK wk0 (xP wk0);have k:YOk _ _ (20+700):=(m.write 3 w16 (by decide)).more (by decide)
  refine(Jl 2 2 w wk0 (xP wk0)).mono λe c ⟨a,Y,t,y,n,l⟩=>⟨a,t,?_⟩
  refine(Jr 3 w16 c y m (by decide) (by decide) (by decide) (by decide)).mono λe f ⟨z,hd⟩=>⟨by rw[z,wk1,aN],?_⟩
  obtain⟨A,_,j,r⟩:=hd.out;have g  := l.trans (r.below l.size n);refine(CW 3 1 f j k (by decide) (by decide)).mono λe d ⟨u,i⟩=>⟨by rw[u,wk2,wk4,aN];rfl,?_⟩
  refine(Jm d (j.below i) k).mono λe w4 ⟨x,v⟩=>⟨x,?_⟩
  exact(g.trans (i.mono g.size)).trans (v.mono (ja4 g.size i.size))
 go_enter func6,ntmps6
 go_wp2_with fail
 refine q.out.mono ?_;rintro e c ⟨a,rfl,b⟩;go_wp2_with fail
 refine cEq b λf b=>?_
 go_wp2_with fail
 refine cEq b λd b=>?_
 go_wp2_with (first
  | (go_at_call 10;refine cSt ((λW=>zU 0 W) _) ?_)
  | (go_at_call 26;refine cHd b λw4 s=>?_))
 go_ret
 exact⟨rfl,s.out⟩
section
variable {H:Type} {enc:TypeId × Value->H}
def PZ{w:ω}{f:Nat}{a:List υ}{x:DataW H × List MemPlace}(h:DataW.trod enc prog w 0 (λ_=>true) true f 36 a=S x) :
  ∃ b:Int,a[2]?=S (b:υ) /\ -9223372036854775808<=b/\b<=9223372036854775807:=by
 obtain⟨k,n,_,_,i,m,g⟩:=jbD underlying36 h;have j:a.length=7:=by rw[i];kernel_rfl
 have c3:prog.cellsOf 3=1:=by kernel_rfl
 match a,j,k,m with
 | [v0,v1,v2,v3,v4,v5,v6],_,[y0,y1,y2,y3,y4,y5,y6],_ =>
  have d:DataW.trod enc prog w 0 (λ_=>true) true n 3 [v2]=S y2:=by simpa [c3] using g 2 _ rfl
  obtain⟨o,c,_,l⟩:=jbf underlying3 d;simp only[List.cons.injEq,and_true] at c;subst c;have q:=bounds_i64 l
  simp_all
def uI(a:List aT):Prop:=∀ k,k<a.length -> -9223372036854775808<=(a.getD k aT.none_).b/\(a.getD k aT.none_).b<=9223372036854775807
def P7{w:ω}{j:Option Addr}{len cap B:Nat}{x:DataW H × List MemPlace}(h:DataW.trod enc prog w 0 (λ_=>true) true B 22 [.slice j len cap]=S x) :
  ∃ c,lJ w j len c/\len<=maxLen/\uI c:=by
 obtain⟨c,d,q⟩:=P6 h;refine⟨c,d,q,λk E=>?_⟩
 have r:k<len:=by have:=d.1;omega
 obtain⟨b,f,e,z,_⟩:=d.2 k r;rcases Go.Deep.open_slice underlying22 h with⟨i,_⟩|⟨a,F,C,m,n,D,Pl,i,_,G,K,s,_,A⟩
 .simp_all
 .obtain⟨rfl,rfl,rfl⟩:=i
  cases e
  have t:prog.cellsOf 36=7:=by kernel_rfl
  subst s;obtain⟨I,v,o⟩:=A k (by omega)
  obtain⟨J,y,L⟩:=PZ o;obtain⟨_,_,l⟩:=jbE v;rw[t] at l;have g:=l 2 (by omega)
  rw[y,Go.Deep.add_add,Go.WideShapes.add_plain] at g;have u:=z 2 _ rfl;rw[show f+k*7+2=f+(k*7+2) by omega,g] at u
  simp_all
end
section
variable {H:Type} {enc:TypeId × Value->H}
def Qa{w:ω}{f:Nat}{v:υ}{x:DataW H × List MemPlace}(h:DataW.trod enc prog w 0 (λ_=>true) true f 34 [v]=S x) :
  ∃ d b kc,v=.slice d b kc/\b<=kc/\kc<=maxLen:=by
 rcases Go.Deep.open_bools underlying34 underlying4 (by kernel_rfl) h with⟨i,_⟩|⟨a,len,cap,Bf,i,_,g,c,_,_⟩
 .have:v=.slice none 0 0:=by simp_all
  exact⟨none,0,0,this,ja1 _,ja6 _⟩
 .have:v=.slice (S a) len cap:=by simp_all
  exact⟨S a,len,cap,this,g,c⟩
def P5{w:ω}{f:Nat}{a:List υ}{x:DataW H × List MemPlace}(h:DataW.trod enc prog w 0 (λ_=>true) true f 36 a=S x) :
  ∃ c b kc,a[6]?=S (.slice c b kc)/\b<=kc/\kc<=maxLen:=by
 obtain⟨l,n,_,_,j,o,d⟩:=jbD underlying36 h;have k:a.length=7:=by rw[j];kernel_rfl
 have g:prog.cellsOf 34=1:=by kernel_rfl
 match a,k,l,o with
 | [v0,v1,v2,v3,v4,v5,v6],_,[y0,y1,y2,y3,y4,y5,y6],_ =>
  have m:DataW.trod enc prog w 0 (λ_=>true) true n 34 [v6]=S y6:=by simpa [g] using d 6 _ rfl
  obtain⟨c,b,kc,rfl,q,i⟩:=Qa m;exact⟨c,b,kc,rfl,q,i⟩
def wu(a:List aT):Prop:=∀ k,k<a.length->(a.getD k aT.none_).kl<=(a.getD k aT.none_).kc/\(a.getD k aT.none_).kc<=maxLen
def P8{w:ω}{g:Option Addr}{len cap B:Nat}{x:DataW H × List MemPlace}(h:DataW.trod enc prog w 0 (λ_=>true) true B 22 [.slice g len cap]=S x) :
  ∃ c,lJ w g len c/\len<=maxLen/\uI c/\wu c:=by
 obtain⟨c,d,q,C⟩:=P7 h;refine⟨c,d,q,C,λk G=>?_⟩
 have r:k<len:=by have:=d.1;omega
 obtain⟨b,f,e,z,_⟩:=d.2 k r;rcases Go.Deep.open_slice underlying22 h with⟨j,_⟩|⟨a,I,F,m,n,D,Pl,j,_,J,L,s,_,A⟩
 .simp_all
 .obtain⟨rfl,rfl,rfl⟩:=j
  cases e
  have t:prog.cellsOf 36=7:=by kernel_rfl
  subst s;obtain⟨K,v,o⟩:=A k (by omega)
  obtain⟨E,O,kc,y,M,N⟩:=P5 o;obtain⟨_,_,l⟩:=jbE v;rw[t] at l;have i:=l 6 (by omega)
  rw[y,Go.Deep.add_add,Go.WideShapes.add_plain] at i;have u:=z 6 _ rfl;rw[show f+k*7+6=f+(k*7+6) by omega,i] at u
  simp_all
end
def TY:(prog.info? 36).map (·.size)=S 7:=by kernel_rfl
def VG(c p:Int)(b:Option Addr)(len cap:Nat)(a:List aT)(w:ω)(l:lJ w b len a)(i:len<=maxLen)(g:mX a 60=false) :
  κ prog 3 #[c,p,.slice b len cap] w λe f=>e=.returned true/\β w w f:=by
 have k:Hid _:=λW j=>by
  have:=AB b len cap 60 a W (l.below j) i (by omega)
  rw[g] at this;exact this
 go_enter func3,ntmps3
 go_wp2_with fail
 refine cHd (CP w) λm d=>?_
 go_wp2_with fail
 refine cSt (k.out _ d.out) ?_;go_wp2
 go_ret
 exact⟨rfl,d.out⟩
def VH(c p:Int)(b:Option Addr)(len cap:Nat)(a:List aT)(w:ω)(r:lJ w b len a)(l:len<=maxLen)(k:mX a 60=true)(g:(newH c p).ok≠true) :
  κ prog 3 #[c,p,.slice b len cap] w λe d=>e=.returned true/\β w w d:=by
 have n:Hid _:=λW m=>by
  have:=AB b len cap 60 a W (r.below m) l (by omega)
  rw[k] at this;exact this
 go_enter func3,ntmps3
 go_wp2_with fail
 refine cHd (CP w) λs f=>?_
 go_wp2_with fail
 refine cEq (n.out _ f.out) λd i=>?_
 have j:=i.symm;subst j;go_wp2_with fail
 refine cBl ((λW=>Wi c p W g) _) f.out λu o=>?_
 go_wp2_with fail
 refine cBl ((λW=>WX c p W g) _) o.out λt q=>?_
 go_wp2_with fail
 refine cSt ((λW=>Ej 1 W (by decide)) _) ?_
 go_wp2
 go_ret
 exact⟨rfl,q.out⟩
def VI(c p:Int)(A:Option Addr)(len cap:Nat)(g:List aT)(w:ω)(z:lJ w A len g)(a4:len<=maxLen)(hB:uI g)(hK:wu g)(B:mX g 60=true)(t:(newH c p).ok=true)(Y:S4.Tab w) :
  κ prog 3 #[c,p,.slice A len cap] w λe j=>e=.returned true/\β w w j:=by
 have ai:=ah (CP w)
 have a7:Hid (∀ W:ω,β w w W->κ prog 7 #[.slice A len cap,(60:Int)] W λe j=>e=.returned true/\j=W):=λW r=>by
  have:=AB A len cap 60 g W (z.below r) a4 (by omega)
  rw[B] at this;exact this
 have aa:len<=60/\∀ k,k<len->(g.getD k aT.none_).s.size<=700:=by
  unfold mX at B;simp only[decide_eq_true_eq] at B;have:=z.1
  exact⟨by omega,λk t=>(B.2 k (by omega)).1⟩
 have h0  := ja2 w _ (Y 0 (by decide))
 have a3:=ah λW r=>Wu (w:=w) (W:=W) c p t r
 have a5:Hid (∀ k,k<len->∀ W:ω,β w w W->∃ l o,A=some ⟨l,o,none⟩/\W.rangeAt l (o+k*7) (g.getD k aT.none_).cells/\nR (g.getD k aT.none_)/\(∀ x,x=g.getD k aT.none_->κ prog 11 #[.agg #[x.kind,x.a,x.b,x.c,x.d,x.s,.slice x.ka x.kl x.kc]] W λe j=>∃(a:Option Addr) (cap:Nat) (V:List (List Bool)),e=.returned (.slice a 5 cap)/\pU j a 5 V/\β W W j)):=λk t W r=>by
  obtain⟨l,o,e,hr,G⟩:=(z.below r).2 k t;obtain⟨U,Q⟩:=hK k (by have:=z.1;omega)
  refine⟨l,o,e,hr,⟨G.a1,hB k (by have:=z.1;omega),aa.2 k t⟩,λx F=>?_⟩
  subst F;exact(Oq _ W U Q G.a1).mono λe j ⟨a,cp,h1,h2,O⟩=>⟨a,cp,_,h1,Ot U Q G.keep O h2,O⟩
 have ae:=ah λn m q x W (h:YS w n m q W) (D:q<=100) (F:nR x)=>h.act x F Y h0 D
 have M:=ah λW=>zU 0 W
 go_enter func3,ntmps3
 go_wp2_with fail
 refine cHd ai.out λw1 P=>?_
 go_wp2_with fail
 refine cEq (a7.out _ P.out) λj E=>?_
 have H:=E.symm;subst H;go_wp2_with fail
 refine(a3.out _ P.out).mono ?_;rintro e w2 ⟨a2,rfl,D⟩;have H2:=ah D;go_wp2_with fail
 refine H2.out.mono ?_;rintro e w3 ⟨a9,rfl,hS⟩;go_wp2_with fail
 refine cEq (M.out _) λj E=>?_
 have H:=E.symm;subst H;go_wp2
 go_loopw [8,10,12] (λu v i wr=>∃(n m q:Nat),q<=len/\u=.pointer (some ⟨n,0,none⟩)/\v=.pointer (some ⟨m,0,none⟩)/\i=.int .i64 (q:Int)/\YS w n m q wr) (λ_ _ i _=>len-(intOf i).toNat)
 case atStart=>exact⟨a2,a9,0,ja6 _,rfl,rfl,rfl,hS⟩
 case round =>
  obtain⟨n,m,q,D,rfl,rfl,rfl,hy⟩:=hrel;have C:=ah hy;by_cases ac:q<len
  .obtain⟨l,o,a6,J,Z,S⟩:=a5.out q ac _ C.out.bel
   generalize g.getD q aT.none_=y at J Z S;subst a6;have T:=ah J;have c0:wr.cell? ⟨l,o+q*7,none⟩=some (y.kind:υ):=J 0 _ rfl;have L:Hid ((prog.info? 36).map (·.size)=some y.cells.length):=TY
   have j0:(0:Int)<=(q:Int):=by omega
   have j1:(q:Int)<(len:Int):=by omega
   by_cases R:y.kind.toList=[99,114,97,115,104]
   .have g4  := beq_iff_eq.2 R
    go_wp2_with (refine wpList_load_mid (by rfl) 36 (.tmp 67) (by rfl) l (o+q*7) (by rfl) y.cells _ T.out underlying36 rfl L.out ?_)
    refine(S y rfl).mono ?_;rintro e w4 ⟨ka,kc,V,rfl,ad,ag⟩;rcases(C.out.later ag).crash (kc:=kc) ad with⟨f,af,K⟩|K
    .go_wp2_with fail
     refine cHd K λw5 H5=>?_
     go_wp2_with fail
     refine cEq H5.out λX I=>?_
     go_wp2_with fail
     refine cSt (oH f _ af) ?_;go_wp2
     go_roundw
     case rel =>
      exact⟨n,m,q+1,by omega,rfl,rfl,by go_num,I.next⟩
     case measure=>simp[intOf];omega
    .go_wp2_with fail
     refine K.mono ?_;rintro e w5 ⟨yq,rfl,a8⟩;go_wp2_with fail
     refine a8.mono ?_;rintro e X ⟨zq,rfl,I⟩;go_wp2_with fail
     refine cSt (M.out _) ?_;go_wp2
     go_roundw
     case rel =>
      exact⟨yq,zq,q+1,by omega,rfl,rfl,by go_num,I.next⟩
     case measure=>simp[intOf];omega
   .have g4  := beq_eq_false_iff_ne.2 R
    go_wp2_with (refine wpList_load_mid (by rfl) 36 (.tmp 101) (by rfl) l (o+q*7) (by rfl) y.cells _ T.out underlying36 rfl L.out ?_)
    refine cEq (ae.out _ _ _ y wr C.out (by omega) Z) λX N=>?_
    by_cases h6:q % 6=0
    .go_wp2_with fail
     refine cHd N.as λw7 ab=>?_
     go_wp2
     go_roundw
     case rel =>
      exact⟨n,m,q+1,by omega,rfl,rfl,by go_num,ab.out⟩
     case measure=>simp[intOf];omega
    .go_wp2
     go_roundw
     case rel =>
      exact⟨n,m,q+1,by omega,rfl,rfl,by go_num,N⟩
     case measure=>simp[intOf];omega
  .go_wp2_with fail
   refine cEq C.out.as λw7 a0=>?_
   go_wp2
   go_ret
   exact⟨rfl,a0.bel⟩
def VJ(c p:Int)(b:Option Addr)(len cap:Nat)(a:List aT)(w:ω)(g:lJ w b len a)(f:len<=maxLen)(m:uI a)(l:wu a)(k:S4.Tab w) :
  κ prog 3 #[c,p,.slice b len cap] w λe j=>e=.returned true/\β w w j:=by
 cases d:mX a 60 with
 | false=>exact VG c p b len cap a w g f d
 | true =>
  by_cases i:(newH c p).ok=true
  .exact VI c p b len cap a w g f m l d i k
  .exact VH c p b len cap a w g f d i
