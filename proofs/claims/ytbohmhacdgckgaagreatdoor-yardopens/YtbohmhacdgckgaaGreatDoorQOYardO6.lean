/- A job is started (J5). -/
import Derived.Test.YtbohmhacdgckgaaGreatDoorQOYardP8
set_option linter.all false
set_option maxHeartbeats 4000000
set_option maxRecDepth 100000
namespace Go.Proofs.YtbohmhacdgckgaaGreatDoor
open Go.RowKit renaming Below->β
open Go renaming World->ω, Value->υ, Calls->κ
open Option renaming none->O, some->S
open Go.Proofs.Tryz Go.RowKit Go.Maps
attribute [local go_sem ↓] Go.wp_at_zero Go.wp_at_succ
def aB.started{w t q:ω}{d m C:Nat}{Y n:Yh}{y z:YV}{b:Jh}{j:JV}(h:aB w d Y y)(D:β w w t)(l:PJ t d b.jp b.lp b.bp b.a b.cap Y.xs y.s m C j)
  (E:w.heap.size<=b.jp/\w.heap.size<=b.lp/\w.heap.size<=b.bp/\∀ g o,b.a=some ⟨g,o,O⟩->w.heap.size<=g) (I:aB q d n z) (f:Moved (fpY d Y y) t (fpY d n z) q) :
  aB (q.setCell ⟨d,12,O⟩ b.jp) d {n with jb:=b} {z with j:=some j}/\Moved (fpY d Y y) w (fpY d {n with jb:=b} {z with j:=some j}) (q.setCell ⟨d,12,O⟩ b.jp):=by
 obtain⟨G,J,B,r⟩:=E;obtain⟨F,H,L⟩:=l.job.lts;have i:∀ k,w.heap.size<=k->¬fpY d Y y k:=λk M e=>by have:=h.fF e;omega
 have x  := l.ok.ne
 have K:Apart b.a (fpY d {n with jb:=b} {z with j:=some j}):=λg o e c=>by
  have u:=l.nums.lt x e;rcases c with c|c|c|⟨_,c⟩
  .exact f.out u (i g (r g o e)) (.inl c)
  .exact f.out u (i g (r g o e)) (.inr (.inl c))
  .exact f.out u (i g (r g o e)) (.inr (.inr (.inl c)))
  .exact l.ap g o e (.inr c)
 refine⟨I.yL (l.job.keep (f.block F (i _ G)) (f.block H (i _ J)) (f.block L (i _ B))) (l.nums.moved f (λg o e=>i g (r g o e))) x l.cap K,?_⟩
 have v  := (Moved.of_below D).trans f;refine⟨v.kept.trans ((Kept.setCell (S:=λk=>k=d)  (Kept.refl _ q) (.inl rfl) _).mono ?_),λk A=>?_⟩
 .rintro k _ rfl;exact .inl rfl
 .rcases A with c|c|c|⟨_,c⟩
  .exact .inl (.inl c)
  .exact v.new k (.inr (.inl c))
  .exact v.new k (.inr (.inr (.inl c)))
  .refine .inr ?_
   rcases c with e|e|e
   .simp_all
   .simp_all
   .simp_all
def WA{l C m:Nat}{Y:Yh}{y:YV}(kind file n k:Int)(w:ω)(h:aB w l Y y)(L:YOk y C m)(hm:m<1000000000) :
    κ prog 51 #[l,kind,file,n,k] w λe u=>e=.returned (erV (y.iU (jH y kind file n k)))/\oV l Y y (y.start (jH y kind file n k)) w u:=by
  have H:=ah (oO w h);have T:=ah λW (t:β w w W)=>oV.of_below h t
  by_cases t:y.busy=true
  . rw[qj t] at H
    have S:y.kU (jH y kind file n k)=8:=by unfold YV.kU;rw[if_pos t]
    have i:y.iU (jH y kind file n k)=8:=by unfold YV.iU;rw[S];rfl
    have f:y.start (jH y kind file n k)=y:=by unfold YV.start;rw[S];rfl
    have G:=ah (T.out w (ja0 _ _));rw[i,f,bJ (by decide)]
    clear h L t S i f T;go_enter func51,ntmps51
    go_wp2_with fail
    refine cSt H.out ?_;clear H;go_wp2
    go_ret
    exact⟨rfl,G.out⟩
  . rw[qh t] at H
    by_cases P:kind=0
    . have S:y.kU (jH y kind file n k)=1:=by unfold YV.kU;rw[if_neg t,if_pos (show(jH y kind file n k).kind=0 from P)]
      have i:y.iU (jH y kind file n k)=1:=by unfold YV.iU;rw[S];rfl
      have f:y.start (jH y kind file n k)=y:=by unfold YV.start;rw[S];rfl
      have G:=ah (T.out w (ja0 _ _));have g1:(kind==0)=true:=by simpa using P
      rw[i,f,eu];clear h L t S i f T P;go_enter func51,ntmps51
      go_wp2_with fail
      refine cSt H.out ?_;clear H;go_wp2
      go_ret
      exact⟨rfl,G.out⟩
    . have g1:(kind==0)=false:=by simpa using P
      obtain⟨c0,c5,c6,a8,a5,fz⟩:=h.blk.cells;obtain⟨d,hd⟩:∃ d:aP,d=jH y kind file n k:=⟨_,rfl⟩;have a0:d.root=y.kd.root:=by rw[hd];rfl
      have A:Hid (β w w (w.alloc (bF d))):=(ja0 _ _).alloc (ja1 _) _;have a2:=ah (sZ d w);have M:=ah (oZ d w);have HI:Hid ((prog.info? 82).map (·.size)=some ([.int .i64 d.root,.int .i64 d.kind,.int .i64 d.file,.int .i64 d.rate,.int .i64 d.burst]:List υ).length):=uq
      have V:Hid (∀ W:ω,κ prog 124 #[.agg #[d.root,d.kind,d.file,d.rate,d.burst]] W λe u=>e=.returned (erV d.kv.fault)/\β W W u):=λW=>zH d.root d.kind d.file d.rate d.burst W
      have q:y.kU d=if d.kv.fault=0 then newF y.s d else d.kv.fault:=by unfold YV.kU;rw[if_neg t,if_neg (by rw[hd];exact P)]
      rw[<- hd];by_cases E:d.kv.fault=0
      . rw[if_pos E] at q
        rw[E,aN] at V;by_cases J:newF y.s d=0
        . have i:y.iU d=y.aJ:=by unfold YV.iU;rw[if_pos (q.trans J)]
          have f:y.start d=if y.aJ=0 then {y.aA d with j:=some ((gI y.s d).at 1)} else y.aA d:=by unfold YV.start;rw[if_pos (q.trans J)]
          have a1:Hid (∀ W:ω,β w w W->κ prog 125 #[.pointer (some ⟨l,6,none⟩),.agg #[d.root,d.kind,d.file,d.rate,d.burst]] W λe u=>∃(b:Jh) (B:Nat),e=.returned (.tuple #[b.jp,.nilIface])/\PJ u l b.jp b.lp b.bp b.a b.cap Y.xs y.s m B (gI y.s d)/\(w.heap.size<=b.jp/\w.heap.size<=b.lp/\w.heap.size<=b.bp/\∀ g o,b.a=some ⟨g,o,none⟩->w.heap.size<=g)/\β W W u):=λW c=>by
            refine(FN d W ((h.shelf L.s).below c) J).mono ?_;rintro e u ⟨jp,lp,bp,B,a,cap,rfl,h1,⟨q1,q2,q3,q4⟩,h3,_⟩;have hs:=c.size;exact⟨⟨jp,lp,bp,a,cap⟩,B,rfl,h1,⟨ja4 hs q1,ja4 hs q2,ja4 hs q3,λg o e=>ja4 hs (q4 g o e)⟩,h3⟩
          have Z:=ah λW (c:β w w W)=>uF d W (h.below c) L.top E hm
          obtain⟨s1,s2,s3,s4⟩:=ny y d
          have a9:Hid (∀(X K:ω) (b:Jh) (B:Nat),β w w X->PJ X l b.jp b.lp b.bp b.a b.cap Y.xs y.s m B (gI y.s d)->(w.heap.size<=b.jp/\w.heap.size<=b.lp/\w.heap.size<=b.bp/\∀ g o,b.a=some ⟨g,o,none⟩->w.heap.size<=g)->au l Y y (y.aA d) X K ->
              (∃ v,K.cell? ⟨l,12,none⟩=some v)/\K.frozen? ⟨l,12,none⟩=false/\κ prog 126 #[b.jp,false] (K.setCell ⟨l,12,none⟩ b.jp) λe u=>e=.returned .nilIface/\oV l Y y {y.aA d with j:=some ((gI y.s d).at 1)} w u):=λX K b B aa I N ⟨Y1,i,h1,h3⟩=>by
            obtain⟨_,_,_,_,ae,qf⟩:=h1.blk.cells;obtain⟨h5,h6⟩:=h.started aa I N h1 h3;refine⟨⟨_,ae⟩,qf 12,?_⟩;have ad:=Jj (m:=m) (C:=B) false _ h5 (by show(y.aA d).s.ok m;rw[s1];exact L.s) rfl (by show JOk (y.aA d).s B _;rw[s1];exact I.ok)
            have ep:iH (gI y.s d) false=0:=rfl;rw[ep,aN] at ad;refine cEq ad λu hd=>?_
            refine⟨rfl,?_⟩;obtain⟨Y2,f,h7,h8⟩:=hd;refine⟨Y2,.inr (λg o e=>?_),h7,h6.trans h8⟩
            have e3:b.a=some ⟨g,o,none⟩:=by rw[f] at e;exact e
            have q1:=I.nums.lt I.ok.ne e3;have q2:=h3.size;have q3:=h8.size;have q4:(K.setCell ⟨l,12,none⟩ b.jp).heap.size=K.heap.size:=by simp[World.setCell]
            exact⟨N.2.2.2 g o e3,by omega⟩
          rw[i,f];unfold bF at A a2 M;rw[<- a0] at a8;have z:kind=d.kind:=by rw[hd];rfl
          have Q:file=d.file:=by rw[hd];rfl
          have O:n=d.rate:=by rw[hd];rfl
          have R:k=d.burst:=by rw[hd];rfl
          rw[z,Q,O,R];rw[z] at g1;have ab:=ah λX K (aa:β w w X) (hd:au l Y y (y.aA d) X K)=>(au.from aa hd).out
          clear h L t i f q E c0 c5 c6 a5 fz hd P a0 z Q O R T s1 s2 s3 s4 J;generalize ({y.aA d with j:=some ((gI y.s d).at 1)}:YV)=z2 at a9 |-
          generalize y.aA d=z1 at Z a9 ab |-;generalize y.aJ=F at Z |-;by_cases hF:F=0
          . rw[if_pos hF,hF,aN]
            rw[hF,aN] at Z;go_enter func51,ntmps51
            go_wp2_with fail
            refine cSt H.out ?_;go_wp2_with fail
            refine cEq (V.out _) λw2 c=>?_
            have a4:=ah (A.out.trans (c.mono A.out.size));have a3:=ah (M.out _ c.drew);have x:=ah c.drew;go_wp2
            have D:Hid (β w w w2.drew):=a4.out.drew
            go_region_held3 (λW=>W.cell? ⟨w,0,none⟩=some (d.root:υ)/\W.cell? ⟨w,1,none⟩=some (d.kind:υ)/\W.cell? ⟨w,2,none⟩=some (d.file:υ)/\W.cell? ⟨w,3,none⟩=some (d.rate:υ)/\W.cell? ⟨w,4,none⟩=some (d.burst:υ))
              (first|(exact a3.out)|assumption)
              (first
                | (go_at_call 125;refine(a1.out _ D.out).mono ?_;rintro e w3 ⟨b,B,rfl,I,N,r⟩;have U:=ah (D.out.trans (r.mono D.out.size));have a6:=ah (a2.out _ (x.out.trans (r.mono x.out.size)));have ac:=ah I;have af:=ah N;have ag:=M.out _ (x.out.trans (r.mono x.out.size));clear r I N))
            have HK:=ah (Z.out _ U.out);go_wp2_with (refine wpList_load_mid (by rfl) 82 (.tmp 11) (by rfl) w.heap.size 0 (by rfl) [d.root,d.kind,d.file,d.rate,d.burst] _ a6.out underlying82 rfl HI.out ?_)
            refine cEq HK.out λw4 a7=>?_
            obtain⟨⟨v,ae⟩,qf,hp⟩:=a9.out w3 w4 b B U.out ac.out af.out a7;have HP:=ah hp;go_wp2_with fail
            refine cHd HP.out λw5 G=>?_
            go_wp2
            go_ret
            exact⟨rfl,G.out⟩
          . rw[if_neg hF]
            rw[bJ hF] at Z |-;go_enter func51,ntmps51
            go_wp2_with fail
            refine cSt H.out ?_;go_wp2_with fail
            refine cEq (V.out _) λw2 c=>?_
            have a4:=ah (A.out.trans (c.mono A.out.size));have a3:=ah (M.out _ c.drew);have x:=ah c.drew;go_wp2
            have D:Hid (β w w w2.drew):=a4.out.drew
            go_region_held3 (λW=>W.cell? ⟨w,0,none⟩=some (d.root:υ)/\W.cell? ⟨w,1,none⟩=some (d.kind:υ)/\W.cell? ⟨w,2,none⟩=some (d.file:υ)/\W.cell? ⟨w,3,none⟩=some (d.rate:υ)/\W.cell? ⟨w,4,none⟩=some (d.burst:υ))
              (first|(exact a3.out)|assumption)
              (first
                | (go_at_call 125;refine(a1.out _ D.out).mono ?_;rintro e w3 ⟨b,B,rfl,I,N,r⟩;have U:=ah (D.out.trans (r.mono D.out.size));have a6:=ah (a2.out _ (x.out.trans (r.mono x.out.size)));have ac:=ah I;have af:=ah N;have ag:=M.out _ (x.out.trans (r.mono x.out.size));clear r I N))
            have HK:=ah (Z.out _ U.out);go_wp2_with (refine wpList_load_mid (by rfl) 82 (.tmp 11) (by rfl) w.heap.size 0 (by rfl) [d.root,d.kind,d.file,d.rate,d.burst] _ a6.out underlying82 rfl HI.out ?_)
            refine cEq HK.out λw4 a7=>?_
            have G:=ah (ab.out _ _ U.out a7);go_wp2
            go_ret
            exact⟨rfl,G.out⟩
        . have i:y.iU d=newF y.s d:=by unfold YV.iU;rw[if_neg (λe=>J (q.symm.trans e)),q]
          have f:y.start d=y:=by unfold YV.start;rw[if_neg (λe=>J (q.symm.trans e))]
          have a1:Hid (∀ W:ω,β w w W->κ prog 125 #[.pointer (some ⟨l,6,none⟩),.agg #[d.root,d.kind,d.file,d.rate,d.burst]] W λe u=>e=.returned (.tuple #[.pointer none,.iface 96 (.int .i64 (newF y.s d))])/\β W W u):=λW c=>by
            have:=FM d W ((h.shelf L.s).below c) J
            rw[bJ J] at this;exact this
          rw[i,f,bJ J];unfold bF at A a2 M;rw[<- a0] at a8;have z:kind=d.kind:=by rw[hd];rfl
          have Q:file=d.file:=by rw[hd];rfl
          have O:n=d.rate:=by rw[hd];rfl
          have R:k=d.burst:=by rw[hd];rfl
          rw[z,Q,O,R];rw[z] at g1;clear h L t i f q E c0 c5 c6 a5 fz hd P a0 z Q O R;generalize newF y.s d=nf at a1 J;go_enter func51,ntmps51
          go_wp2_with fail
          refine cSt H.out ?_;go_wp2_with fail
          refine cEq (V.out _) λw2 c=>?_
          have a4:=ah (A.out.trans (c.mono A.out.size));have a3:=ah (M.out _ c.drew);have x:=ah c.drew;go_wp2
          have D:Hid (β w w w2.drew):=a4.out.drew
          go_region_held3 (λW=>W.cell? ⟨w,0,none⟩=some (d.root:υ)/\W.cell? ⟨w,1,none⟩=some (d.kind:υ)/\W.cell? ⟨w,2,none⟩=some (d.file:υ)/\W.cell? ⟨w,3,none⟩=some (d.rate:υ)/\W.cell? ⟨w,4,none⟩=some (d.burst:υ))
            (first|(exact a3.out)|assumption)
            (first
              | (go_at_call 125;refine cEq (a1.out _ D.out) λw3 r=>?_;have U:=ah (D.out.trans (r.mono D.out.size));have ag:=M.out _ (x.out.trans (r.mono x.out.size));clear r))
          have G:=ah (T.out _ U.out);go_wp2
          go_ret
          exact⟨rfl,G.out⟩
      . rw[if_neg E] at q
        have i:y.iU d=d.kv.fault:=by unfold YV.iU;rw[if_neg (λe=>E (q.symm.trans e)),q]
        have f:y.start d=y:=by unfold YV.start;rw[if_neg (λe=>E (q.symm.trans e))]
        rw[bJ E] at V;rw[i,f,bJ E];unfold bF at A;rw[<- a0] at a8;have z:kind=d.kind:=by rw[hd];rfl
        have Q:file=d.file:=by rw[hd];rfl
        have O:n=d.rate:=by rw[hd];rfl
        have R:k=d.burst:=by rw[hd];rfl
        rw[z,Q,O,R];rw[z] at g1;clear h L t i f q c0 c5 c6 a5 fz hd P a0 z Q O R HI a2;generalize d.kv.fault=ff at V E;go_enter func51,ntmps51
        go_wp2_with fail
        refine cSt H.out ?_;go_wp2_with fail
        refine cEq (V.out _) λw2 c=>?_
        have G:=ah (T.out _ (A.out.trans (c.mono A.out.size)));go_wp2
        go_ret
        exact⟨rfl,G.out⟩
def MN(a b c:Int)(w:ω):(Instr.field 67 (.agg #[a,b,c]) 2).run prog w=.ok (.int .i64 c) w:=by kernel_rfl
def pR(w:ω)(f m:Nat)(Y:Yh)(s:SV)(d:aP)(v:υ)(c:ω):Prop:=β w w c /\
 ((¬(¬(d.kind=2/\s.back d.root=d.file)/\newF s d=0)/\v=.pointer O) \/
  (¬(d.kind=2/\s.back d.root=d.file)/\newF s d=0/\∃(b:Jh) (C:Nat),v=.pointer (S ⟨b.jp,0,O⟩)/\PJ c f b.jp b.lp b.bp b.a b.cap Y.xs s m C (gI s d)/\(w.heap.size<=b.jp/\w.heap.size<=b.lp/\w.heap.size<=b.bp/\∀ g o,b.a=S ⟨g,o,O⟩->w.heap.size<=g)))
def V8{j m rk:Nat}{Y:Yh}{y:YV}(kind file i f:Int)(w:ω)(h:aB w j Y y)(hs:y.s.ok m)(hr:∃ v,y.s.file (rk:Int)=some v) :
    κ prog 78 #[j,.agg #[(rk:Int),kind,file,i,f]] w λe E=>∃ v,e=.returned v/\pR w j m Y y.s ⟨(rk:Int),kind,file,i,f⟩ v E:=by
  obtain⟨v,hv⟩:=hr;obtain⟨r0,r5,a4⟩:=SV.dS hv;have ab:((rk:Int)).toNat=rk:=by omega
  rw[ab] at a4;have aa:y.s.back (rk:Int)=v.h.b:=by unfold SV.back;rw[hv]
  have t:Hid (β w w (w.alloc (bF ⟨(rk:Int),kind,file,i,f⟩))):=(ja0 _ _).alloc (ja1 _) _;have S:=ah (sZ ⟨(rk:Int),kind,file,i,f⟩ w);have l:=ah (oZ ⟨(rk:Int),kind,file,i,f⟩ w)
  have N:Hid (∀ W:ω,β w w W->W.cell? ⟨j,6+rk,none⟩=some ((Y.xs rk).p:υ)):=λW q=>by
    have:=(h.below q).blk.cells.2.2.1 rk (by omega)
    rw[a4] at this;exact this
  have J:=ah λW (q:β w w W)=>qo W ((h.img _ v (by omega) a4).below q)
  have U:Hid (kind=2/\v.h.b=file->∀ W:ω,β w w W->pR w j m Y y.s ⟨(rk:Int),kind,file,i,f⟩ (.pointer none) W):=λe W q=>⟨q,.inl ⟨λe2=>e2.1 ⟨e.1,by show y.s.back (rk:Int)=file;rw[aa];exact e.2⟩,rfl⟩⟩
  have O:Hid (¬(kind=2/\v.h.b=file)->∀ W:ω,β w w W->κ prog 125 #[.pointer (some ⟨j,6,none⟩),.agg #[(rk:Int),kind,file,i,f]] W λe E=>β W W E/\∃(po:Option Addr) (F:Int),e=.returned (.tuple #[.pointer po,erV F])/\(F≠0->pR w j m Y y.s ⟨(rk:Int),kind,file,i,f⟩ (.pointer none) E)/\(F=0->pR w j m Y y.s ⟨(rk:Int),kind,file,i,f⟩ (.pointer po) E)):=λae W n=>by
    have hd:¬(kind=2/\y.s.back (rk:Int)=file):=by rw[aa];exact ae
    by_cases X:newF y.s ⟨(rk:Int),kind,file,i,f⟩=0
    . refine(FN ⟨(rk:Int),kind,file,i,f⟩ W ((h.shelf hs).below n) X).mono ?_
      rintro e E ⟨jp,lp,bp,C',a,cap,rfl,h1,⟨A,q2,C,H⟩,R,_⟩;have Q:=n.size;refine⟨R,some ⟨jp,0,none⟩,0,by rw[aN],λe=>absurd rfl e,λ_=>⟨n.trans (R.mono Q),.inr ⟨hd,X,⟨jp,lp,bp,a,cap⟩,C',rfl,h1,ja4 Q A,ja4 Q q2,ja4 Q C,λg o e=>ja4 Q (H g o e)⟩⟩⟩
    . refine cEq (FM ⟨(rk:Int),kind,file,i,f⟩ W ((h.shelf hs).below n) X) λE R=>?_
      exact⟨R,none,_,rfl,λ_=>⟨n.trans (R.mono n.size),.inl ⟨λe=>X e.2,rfl⟩⟩,λe=>absurd e X⟩
  unfold bF at t S l;simp only at t S l;have f2:=MN v.h.c v.h.p v.h.b;generalize v.h.c=hc at J f2;generalize v.h.p=hp at J f2;generalize v.h.b=q at J f2 U O;generalize (Y.xs rk).p=xp at N J;have K:Hid (∀ W V,pR w j m Y y.s ⟨(rk:Int),kind,file,i,f⟩ V W->∃ v,Ending.returned V=.returned v/\pR w j m Y y.s ⟨(rk:Int),kind,file,i,f⟩ v W):=λW V hf=>⟨V,rfl,hf⟩
  generalize pR w j m Y y.s ⟨(rk:Int),kind,file,i,f⟩=FP at U O K |-;by_cases M:kind=2
  . have g1:(kind==2)=true:=by simpa using M
    by_cases L:q=file
    . have g2:(file==q)=true:=by simpa using L.symm
      have af:=ah (U.out ⟨M,L⟩);clear M L U O;go_enter func78,ntmps78
      go_wp2
      generalize a9:w.alloc (.cells #[(rk:Int),kind,file,i,f] 82)=d at t S l |-;have r:Hid (β w w d.drew):=t.out.drew;have u:Hid (β d d d.drew):=(ja0 _ _).drew;obtain⟨T,A,q2,C,H⟩:=l.out _ u.out;have Z:=N.out _ r.out;have a2:Hid (d.drew.cell? ⟨w,0,none⟩=some (.int .i64 (rk:Int))/\d.drew.cell? ⟨w,1,none⟩=some (kind:υ)/\d.drew.cell? ⟨w,2,none⟩=some (file:υ)/\d.drew.cell? ⟨w,3,none⟩=some (i:υ)/\d.drew.cell? ⟨w,4,none⟩=some (f:υ)/\d.drew.cell? ⟨j,6+rk,none⟩=some (xp:υ)):=⟨T,A,q2,C,H,Z⟩
      go_region_held3 (λW=>W.cell? ⟨w,0,none⟩=some (.int .i64 (rk:Int))/\W.cell? ⟨w,1,none⟩=some (kind:υ)/\W.cell? ⟨w,2,none⟩=some (file:υ)/\W.cell? ⟨w,3,none⟩=some (i:υ)/\W.cell? ⟨w,4,none⟩=some (f:υ)/\W.cell? ⟨j,6+rk,none⟩=some (xp:υ))
        (first|(exact a2.out)|assumption)
        (first
          | (go_at_call 95;refine cEq (J.out _ r.out) λk n=>?_;have G:=ah (u.out.trans (n.mono u.out.size));have B:=ah (r.out.trans (n.mono r.out.size));have ac:k.cell? ⟨w,0,none⟩=some (.int .i64 (rk:Int))/\k.cell? ⟨w,1,none⟩=some (kind:υ)/\k.cell? ⟨w,2,none⟩=some (file:υ)/\k.cell? ⟨w,3,none⟩=some (i:υ)/\k.cell? ⟨w,4,none⟩=some (f:υ)/\k.cell? ⟨j,6+rk,none⟩=some (xp:υ):=by {obtain⟨t0,t1,t2,t3,t4⟩:=l.out _ G.out;exact⟨t0,t1,t2,t3,t4,N.out _ B.out⟩};clear n))
      have x:=ah (K.out _ _ (af.out _ B.out));go_wp2
      go_ret
      exact x.out
    . have g2:(file==q)=false:=by simpa using λe:file=q=>L e.symm
      have a3:Hid (¬(kind=2/\q=file)):=λe=>L e.2
      clear M L U;go_enter func78,ntmps78
      go_wp2
      generalize a9:w.alloc (.cells #[(rk:Int),kind,file,i,f] 82)=d at t S l |-;have r:Hid (β w w d.drew):=t.out.drew;have u:Hid (β d d d.drew):=(ja0 _ _).drew;obtain⟨T,A,q2,C,H⟩:=l.out _ u.out;have Z:=N.out _ r.out;have a2:Hid (d.drew.cell? ⟨w,0,none⟩=some (.int .i64 (rk:Int))/\d.drew.cell? ⟨w,1,none⟩=some (kind:υ)/\d.drew.cell? ⟨w,2,none⟩=some (file:υ)/\d.drew.cell? ⟨w,3,none⟩=some (i:υ)/\d.drew.cell? ⟨w,4,none⟩=some (f:υ)/\d.drew.cell? ⟨j,6+rk,none⟩=some (xp:υ)):=⟨T,A,q2,C,H,Z⟩
      go_region_held3 (λW=>W.cell? ⟨w,0,none⟩=some (.int .i64 (rk:Int))/\W.cell? ⟨w,1,none⟩=some (kind:υ)/\W.cell? ⟨w,2,none⟩=some (file:υ)/\W.cell? ⟨w,3,none⟩=some (i:υ)/\W.cell? ⟨w,4,none⟩=some (f:υ)/\W.cell? ⟨j,6+rk,none⟩=some (xp:υ))
        (first|(exact a2.out)|assumption)
        (first
          | (go_at_call 95;refine cEq (J.out _ r.out) λk n=>?_;have G:=ah (u.out.trans (n.mono u.out.size));have B:=ah (r.out.trans (n.mono r.out.size));have ac:k.cell? ⟨w,0,none⟩=some (.int .i64 (rk:Int))/\k.cell? ⟨w,1,none⟩=some (kind:υ)/\k.cell? ⟨w,2,none⟩=some (file:υ)/\k.cell? ⟨w,3,none⟩=some (i:υ)/\k.cell? ⟨w,4,none⟩=some (f:υ)/\k.cell? ⟨j,6+rk,none⟩=some (xp:υ):=by {obtain⟨t0,t1,t2,t3,t4⟩:=l.out _ G.out;exact⟨t0,t1,t2,t3,t4,N.out _ B.out⟩};clear n))
      have HN:=ah (O.out a3.out);go_wp2
      have a5:Hid (β w w k.drew):=B.out.drew;have D:Hid (β d d k.drew):=G.out.drew;have a7:=ah (l.out _ D.out)
      go_region_held3 (λW=>W.cell? ⟨w,0,none⟩=some (.int .i64 (rk:Int))/\W.cell? ⟨w,1,none⟩=some (kind:υ)/\W.cell? ⟨w,2,none⟩=some (file:υ)/\W.cell? ⟨w,3,none⟩=some (i:υ)/\W.cell? ⟨w,4,none⟩=some (f:υ))
        (first|(exact a7.out)|assumption)
        (first
          | (go_at_call 125;refine(HN.out _ a5.out).mono ?_;rintro e w3 ⟨a1,po,F,rfl,a0,P⟩;have a6:=ah a0;have a8:=ah P;have ad:=l.out _ (D.out.trans (a1.mono D.out.size));clear a1 a0 P))
      by_cases z:F=0
      . have I:Hid (erV F=.nilIface):=by unfold Hid;rw[z,aN]
        rw[I.out];have x:=ah (K.out _ _ (a8.out z));go_wp2
        go_ret
        exact x.out
      . have I:Hid (erV F=.iface 96 (.int .i64 F)):=bJ z
        rw[I.out];have x:=ah (K.out _ _ (a6.out z));go_wp2
        go_ret
        exact x.out
  . have g1:(kind==2)=false:=by simpa using M
    have a3:Hid (¬(kind=2/\q=file)):=λe=>M e.1
    go_enter func78,ntmps78
    go_wp2
    generalize a9:w.alloc (.cells #[(rk:Int),kind,file,i,f] 82)=d at t S l |-;have r:Hid (β w w d.drew):=t.out.drew;have u:Hid (β d d d.drew):=(ja0 _ _).drew;obtain⟨T,A,q2,C,H⟩:=l.out _ u.out;have Z:=N.out _ r.out;have a2:Hid (d.drew.cell? ⟨w,0,none⟩=some (.int .i64 (rk:Int))/\d.drew.cell? ⟨w,1,none⟩=some (kind:υ)/\d.drew.cell? ⟨w,2,none⟩=some (file:υ)/\d.drew.cell? ⟨w,3,none⟩=some (i:υ)/\d.drew.cell? ⟨w,4,none⟩=some (f:υ)/\d.drew.cell? ⟨j,6+rk,none⟩=some (xp:υ)):=⟨T,A,q2,C,H,Z⟩
    have p1:d.cell? ⟨w,1,none⟩=some (kind:υ):=A;go_quiet (fail)
    have B:Hid (β w w (d.drewN nq)):=below_drewN t.out _;have G:Hid (β d d (d.drewN nq)):=below_drewN (ja0 _ _) _;generalize d.drewN nq=k at B G |-;have HN:=ah (O.out a3.out);go_wp2
    have a5:Hid (β w w k.drew):=B.out.drew;have D:Hid (β d d k.drew):=G.out.drew;have a7:=ah (l.out _ D.out)
    go_region_held3 (λW=>W.cell? ⟨w,0,none⟩=some (.int .i64 (rk:Int))/\W.cell? ⟨w,1,none⟩=some (kind:υ)/\W.cell? ⟨w,2,none⟩=some (file:υ)/\W.cell? ⟨w,3,none⟩=some (i:υ)/\W.cell? ⟨w,4,none⟩=some (f:υ))
      (first|(exact a7.out)|assumption)
      (first
        | (go_at_call 125;refine(HN.out _ a5.out).mono ?_;rintro e w3 ⟨a1,po,F,rfl,a0,P⟩;have a6:=ah a0;have a8:=ah P;have ad:=l.out _ (D.out.trans (a1.mono D.out.size));clear a1 a0 P))
    by_cases z:F=0
    . have I:Hid (erV F=.nilIface):=by unfold Hid;rw[z,aN]
      rw[I.out];have x:=ah (K.out _ _ (a8.out z));go_wp2
      go_ret
      exact x.out
    . have I:Hid (erV F=.iface 96 (.int .i64 F)):=bJ z
      rw[I.out];have x:=ah (K.out _ _ (a6.out z));go_wp2
      go_ret
      exact x.out
def O9{s:SV}{d:aP}(h:newF s d=0):d.kind≠0:=by
 unfold newF at h;split at h
 .omega
 .split at h
  .cases h
  .split at h
   .cases h
   .rcases Dz h with e|e|e<;>omega
def EG{s:SV}{d:aP}:lF s d=true↔¬(d.kind=2/\s.back d.root=d.file)/\newF s d=0:=by
 unfold lF;rw[decide_eq_true_eq];exact⟨λh=>h.2,λh=>⟨O9 h.2,h⟩⟩
def Qc{w W f:ω}{c m:Nat}{Y:Yh}{d:Nat->DV}{t:DV}{v:υ}(J:aB W c Y (xU d t))(r:∀ b,fpY c Y (xU d t) b->w.heap.size<=b)(R:w.heap.size<=W.heap.size)(P:Y.jb.a=none)
  (M:pR (W.setCell ⟨c,11,none⟩ (.int .i64 (ak t).root)) c m Y (aK d) (ak t) v f) :
  (∃ u,f.cell? ⟨c,12,none⟩=some u)/\f.frozen? ⟨c,12,none⟩=false/\∃ y,aB (f.setCell ⟨c,12,none⟩ v) c y (jF d t)/\(∀ b,fpY c y (jF d t) b->w.heap.size<=b)/\(∀ g o,y.jb.a=some ⟨g,o,none⟩->w.heap.size<=g/\g<(f.setCell ⟨c,12,none⟩ v).heap.size):=by
 obtain⟨B,_⟩:=J.vN (ak t);obtain⟨A,Q⟩:=M;have n:=B.below A;obtain⟨_,_,_,_,K,L⟩:=n.blk.cells;have q:(W.setCell ⟨c,11,none⟩ (.int .i64 (ak t).root)).heap.size=W.heap.size:=by simp[World.setCell]
 refine⟨⟨_,K⟩,L 12,?_⟩;rcases Q with⟨D,rfl⟩|⟨G,F,b,C,rfl,z,i⟩
 .have l  := λe=>D (EG.1 e)
  have s:(jF d t).j=none:=by show(if lF (aK d) (ak t)=true then _ else none)=none;rw[if_neg l]
  have x:(jF d t).kd.root=(ak t).root:=by show(if lF (aK d) (ak t)=true then ak t else aj _).root=_;rw[if_neg l];rfl
  obtain⟨N,_⟩:=n.own  (Kept.setCell (S:=λk=>k=c)  (Kept.refl _ f) (.inl rfl) _) (by have:=n.blk.yL Y.jb (.pointer none);exact this)
  refine⟨Y,N.re rfl rfl rfl s x,λb O=>r b ?_,λg o e=>by rw[P] at e;cases e⟩
  rcases O with e|e|e|e
  .exact .inl e
  .exact .inr (.inl e)
  .exact .inr (.inr (.inl e))
  .exact absurd s e.1
 .have l  := EG.2 ⟨G,F⟩
  have s:(jF d t).j=some (gI (aK d) (ak t)):=by show(if lF (aK d) (ak t)=true then some _ else none)=_;rw[if_pos l]
  have x:(jF d t).kd.root=(ak t).root:=by show(if lF (aK d) (ak t)=true then ak t else aj _).root=_;rw[if_pos l]
  obtain⟨I,U⟩:=B.started A z i n (Moved.of_below (ja0 _ _));refine⟨{Y with jb:=b},I.re rfl rfl rfl s x,λk E=>?_,λg o e=>?_⟩
  .rcases E with e|e|e|e
   .exact r k (.inl e)
   .exact r k (.inr (.inl e))
   .exact r k (.inr (.inr (.inl e)))
   .rcases e.2 with e|e|e
    .have:=i.1;rw[q] at this;rw[e];show w.heap.size<=b.jp;omega
    .have:=i.2.1;rw[q] at this;rw[e];show w.heap.size<=b.lp;omega
    .have:=i.2.2.1;rw[q] at this;rw[e];show w.heap.size<=b.bp;omega
  .have H:=i.2.2.2 g o e
   rw[q] at H;have T:=z.nums.lt z.ok.ne e;have V:(f.setCell ⟨c,12,none⟩ b.jp).heap.size=f.heap.size:=by simp[World.setCell]
   omega
def Bj(p:Nat):Obj:=.cells #[.pointer O,.pointer O,.pointer O,.pointer O,.pointer O,p,.pointer O,.pointer O,.pointer O,.pointer O,.pointer O,(0:Int),.pointer O] 74 (0,0)
def YOp.start{w c:ω}{B:Nat}{h:Hd}{d:Nat->DV}{t:DV}(f:β w w c)(g:B<=w.heap.size)(hd:aO w.heap.size c h t):YOp (c.alloc (Bj h.p)) B c.heap.size 0 0 ⟨λ_=>h,h,λ_=>⟨0,h,0,0,0⟩,uV⟩ d t:=by
 have k:=f.size;refine⟨⟨_,heap_alloc_new c _,rfl,λi a=>(by omega),rfl,λi a=>(by omega),λi _ a=>?_,rfl,rfl⟩,λi v a=>(by omega),λi a=>(by omega),⟨hd.base0.keep λb e=>jam c _ _ (hd.lt b e).2,λ_ _ e=>e⟩,λi j a=>(by omega),λi a=>(by omega),λi a=>(by omega),λb e=>?_,by omega⟩
 .match i,a with
  | 0,_=>rfl
  | 1,_=>rfl
  | 2,_=>rfl
  | 3,_=>rfl
  | 4,_=>rfl
 .have:=hd.lt b e
  omega
def kJ(w:ω)(a k:Nat)(d:Nat->DV)(t:DV)(wr:ω):Prop:=(∃ Y,YOp wr w.heap.size a k k Y d t)/\β w w wr
def OpenAt(w:ω)(a k:Nat)(d:Nat->DV)(t:DV)(h:Hd)(wr:ω):Prop:=(∃ Y,oQ wr w.heap.size a k Y d t h)/\β w w wr
def lM(w:ω)(d:Nat->DV)(t:DV)(e:Ending)(c:ω):Prop:=β w w c /\
 ((jo d t≠0/\e=.returned (.tuple #[.pointer O,erV (jo d t)]))\/(jo d t=0/\∃(f:Nat) (Y:Yh),e=.returned (.tuple #[f,.nilIface])/\aB c f Y (jF d t)/\(∀ b,fpY f Y (jF d t) b->w.heap.size<=b)/\(∀ g o,Y.jb.a=S ⟨g,o,O⟩->w.heap.size<=g/\g<c.heap.size)))
def Wj{g o cap m:Nat}{hs:Nat->Hd}{d:Nat->DV}{th:Hd}{t:DV}(w:ω)(hp:nD w g o 5 hs)(hd:∀ i,i<5->bQ Gd.no w (hs i) (d i))(ht:bQ Gd.no w th t)(hf:∀ i,(d i).fine (d i).fl.length m)(bc:t.fine t.fl.length m) :
    κ prog 18 #[.slice (some ⟨g,o,none⟩) 5 cap,th.p] w λe q=>lM w d t e q:=by
  have b0:=ah (Le (cap:=cap) w hp (by omega))
  have bb:Hid (κ prog 73 #[th.p] w λe q=>∃ X:Nat,e=.returned X/\kJ w q.heap.size 0 d t (q.alloc (Bj X))):=by
    refine(wQ w ht.toaO).mono ?_;rintro e q ⟨s,rfl,V,l⟩;exact⟨s.p,rfl,⟨_,YOp.start l (ja1 _) V⟩,l.alloc l.size _⟩
  have b4:=ah λk W (G:k<5) (l:β w w W)=>(hp.below (by omega) l) k G
  have bk:Hid (∀(k f:Nat) (W:ω),k<5->kJ w f k d t W->κ prog 73 #[(hs k).p] W λe q=>∃ s:Hd,e=.returned s.p/\(∃ v,q.cell? ⟨f,k,none⟩=some v)/\q.frozen? ⟨f,k,none⟩=false/\OpenAt w f k d t s (q.setCell ⟨f,k,none⟩ s.p)):=λk f W G ⟨⟨Y,r⟩,l⟩=>by
    have bi:=(hd k G).keep λb e=>l.block b ((hd k G).lt b e).2
    refine(wQ W bi.toaO).mono ?_;rintro e q ⟨s,rfl,V,C⟩;obtain⟨q1,q2⟩:=(r.below C).cell k (by omega)
    exact⟨s,rfl,q1,q2,⟨Y,r.copied G l.size C V⟩,(l.trans (C.mono l.size)).setCell r.pastY _⟩
  have aM:Hid (∀(k f:Nat) (s:Hd) (W:ω),OpenAt w f k d t s W->W.cell? ⟨f,k,none⟩=some (s.p:υ)):=λk f s W ⟨⟨Y,R⟩,_⟩=>R.cell
  have bd:Hid (∀(k f:Nat) (s:Hd) (W:ω),k<5->dF (d k)≠0->OpenAt w f k d t s W->κ prog 74 #[s.p] W λe q=>e=.returned (.tuple #[.pointer none,.iface 96 (.int .i64 (dF (d k)))])/\kJ w f (k+1) d t q):=λk f s W G y ⟨⟨Y,R⟩,l⟩=>by
    refine(F6 W R.dev.nG (ja1 _)).mono ?_;rintro e q ⟨C,⟨_,rfl⟩|⟨M,_⟩⟩
    . exact⟨by rw[bJ y],(R.below C).Pn G y,l.trans (C.mono l.size)⟩
    . exact absurd M y
  have bg:Hid (∀(k f:Nat) (s:Hd) (W:ω),k<5->dF (d k)=0->OpenAt w f k d t s W->κ prog 74 #[s.p] W λe q=>∃ xp:Nat,e=.returned (.tuple #[xp,.nilIface])/\(∃ v,q.cell? ⟨f,6+k,none⟩=some v)/\q.frozen? ⟨f,6+k,none⟩=false/\kJ w f (k+1) d t (q.setCell ⟨f,6+k,none⟩ xp)):=λk f s W G M ⟨⟨Y,R⟩,l⟩=>by
    refine(F6 W R.dev.nG (ja1 _)).mono ?_;rintro e q ⟨C,⟨y,_⟩|⟨_,x,hx,_,rfl,hi⟩⟩
    . exact absurd M y
    . obtain⟨q1,q2⟩:=(R.below C).op.cell (6+k) (by omega)
      exact⟨x.p,rfl,q1,q2,R.image G l.size M C hx hi,(l.trans (C.mono l.size)).setCell R.op.pastY _⟩
  have bw:=bc.ok.n1
  have aL:Hid (∀(f:Nat) (W:ω),kJ w f 5 d t W->∃ X:Nat,W.cell? ⟨f,5,none⟩=some (X:υ)/\κ prog 75 #[X,(0:Int)] W λe q=>e=.returned (.tuple #[.string (bytesOf (t.seen.getD 0 [])),.nilIface])/\q=W):=λf W ⟨⟨Y,r⟩,l⟩ =>
    ⟨Y.tp.p,r.U5,kS 0 W r.top.toaO (by omega)⟩
  have D:Hid (∀ W:ω,κ prog 76 #[.string (bytesOf (t.seen.getD 0 []))] W λe q=>e=.returned (.tuple #[.agg #[.int .i64 (ak t).root,.int .i64 (ak t).kind,.int .i64 (ak t).file,.int .i64 (ak t).rate,.int .i64 (ak t).burst],erV (aJ (bytesOf (t.seen.getD 0 [])))])/\β W W q):=λW=>QL _ W
  have aw:=xR hf;have a6:jo d t=if aJ (bytesOf (t.seen.getD 0 []))=0 then ((aK d).walk (ak t).root).2 else aJ (bytesOf (t.seen.getD 0 [])):=rfl
  have Z:Hid (∀(f:Nat) (W:ω),kJ w f 5 d t W->κ prog 77 #[.pointer (some ⟨f,6,none⟩),.int .i64 (ak t).root] W λe q=>∃(a:Option Addr) (n cap:Nat),e=.returned (.tuple #[.slice a n cap,erV ((aK d).walk (ak t).root).2])/\β W W q):=λf W ⟨⟨Y,r⟩,l⟩ =>
    (uN (ak t).root W (r.dM.1.shelf aw)).mono λe q ⟨a,cap,V,_,_,h4⟩=>⟨a,_,cap,V,h4⟩
  have I:Hid (∀(f k:Nat) (W L:ω),kJ w f k d t W->β W W L->kJ w f k d t L):=λf k W L ⟨⟨Y,r⟩,l⟩ C=>⟨⟨Y,r.below C⟩,l.trans (C.mono l.size)⟩
  have a9:Hid (∀(f k:Nat) (W:ω),kJ w f k d t W->β w w W/\(∃ v,W.cell? ⟨f,11,none⟩=some v)/\W.frozen? ⟨f,11,none⟩=false):=λf k W ⟨⟨Y,r⟩,l⟩=>⟨l,r.cell 11 (by omega)⟩
  have al:Hid (aJ (bytesOf (t.seen.getD 0 []))≠0->∀ W:ω,β w w W->lM w d t (.returned (.tuple #[.pointer none,.iface 96 (.int .i64 (aJ (bytesOf (t.seen.getD 0 []))))])) W):=λy W l=>⟨l,.inl ⟨by rw[a6,if_neg y];exact y,by rw[a6,if_neg y,bJ y]⟩⟩
  have a7:Hid (aJ (bytesOf (t.seen.getD 0 []))=0->((aK d).walk (ak t).root).2≠0->∀ W:ω,β w w W->lM w d t (.returned (.tuple #[.pointer none,.iface 96 (.int .i64 ((aK d).walk (ak t).root).2)])) W):=λM y W l=>⟨l,.inl ⟨by rw[a6,if_pos M];exact y,by rw[a6,if_pos M,bJ y]⟩⟩
  have Q:Hid (aJ (bytesOf (t.seen.getD 0 []))=0->((aK d).walk (ak t).root).2=0->∀(f:Nat) (W:ω),kJ w f 5 d t W->κ prog 78 #[f,.agg #[.int .i64 (ak t).root,.int .i64 (ak t).kind,.int .i64 (ak t).file,.int .i64 (ak t).rate,.int .i64 (ak t).burst]] (W.setCell ⟨f,11,none⟩ (.int .i64 (ak t).root)) λe q=>∃ po:Option Addr,e=.returned (.pointer po)/\(∃ u,q.cell? ⟨f,12,none⟩=some u)/\q.frozen? ⟨f,12,none⟩=false/\lM w d t (.returned (.tuple #[f,.nilIface])) (q.setCell ⟨f,12,none⟩ (.pointer po))):=λM aq f W ⟨⟨Y,r⟩,l⟩=>by
    obtain⟨hY,hn⟩:=r.dM;have am:=r.pastY;have b7:(ak t).kv.fault=0:=zO M;have bf:=of_decide_eq_true (KV.qC b7).1;have bB:0<=(ak t).root:=bf.1
    have y:((aK d).walk (ak t).root).1≠[]:=λe=>by
      have:=SV.qR aq
      rw[e] at this;have:(ak t).root = -1:=this
      omega
    obtain⟨v,hv,_⟩:=(Chain.of aq y).root;have ar:(((ak t).root.toNat:Nat):Int)=(ak t).root:=by omega
    obtain⟨V,_⟩:=hY.vN (ak t);have:=V8 (m:=m) (rk:=(ak t).root.toNat) (ak t).kind (ak t).file (ak t).rate (ak t).burst _ V aw ⟨v,by rw[ar];exact hv⟩
    rw[ar] at this;refine this.mono ?_;rintro e q ⟨u0,rfl,hP⟩
    obtain⟨u,rfl⟩:∃ po:Option Addr,u0=.pointer po:=by
      rcases hP.2 with⟨_,e⟩|⟨_,_,b,_,e,_⟩
      . exact⟨_,e⟩
      . exact⟨_,e⟩
    obtain⟨q1,q2,Y',b2,bj,ba⟩:=Qc (w:=w) hY hn l.size rfl hP
    have b3:β w w (q.setCell ⟨f,12,none⟩ (.pointer u)):=by
      have C:=l.setCell (p:=⟨f,11,none⟩) am (.int .i64 (ak t).root);exact(C.trans (hP.1.mono C.size)).setCell am _
    exact⟨u,rfl,q1,q2,b3,.inr ⟨by rw[a6,if_pos M];exact aq,f,Y',rfl,b2,bj,ba⟩⟩
  have S:Hid (∀(W:ω) (N:Nat),W.heap[N]?=some (bF (ak t))->∀ L:ω,L.heap[N]?=W.heap[N]?->L.cell? ⟨N,0,none⟩=some (.int .i64 (ak t).root)/\L.rangeAt N 0 [.int .i64 (ak t).root,.int .i64 (ak t).kind,.int .i64 (ak t).file,.int .i64 (ak t).rate,.int .i64 (ak t).burst]):=λW N hN L hW=>by
    have e:L.heap[N]?=some (bF (ak t)):=hW.trans hN;unfold bF at e;have c:∀ i,L.cell? ⟨N,i,none⟩=(#[.int .i64 (ak t).root,.int .i64 (ak t).kind,.int .i64 (ak t).file,.int .i64 (ak t).rate,.int .i64 (ak t).burst]:Array υ)[i]?:=λi=>cell_of_row _ _ _ _ _ _ e
    refine⟨c 0,λj v hv=>?_⟩
    rw[jaq,c j]
    simpa using hv
  have HI:Hid ((prog.info? 82).map (·.size)=some ([.int .i64 (ak t).root,.int .i64 (ak t).kind,.int .i64 (ak t).file,.int .i64 (ak t).rate,.int .i64 (ak t).burst]:List υ).length):=uq
  have aD:Hid (∀(f k:Nat) (W:ω),kJ w f k d t W->f<W.heap.size):=λf k W ⟨⟨Y,r⟩,l⟩=>r.lt
  unfold bF at S;generalize lM w d t=P at al a7 Q |-;generalize bytesOf (t.seen.getD 0 [])=ds at aL D al a7 Q;generalize (ak t).root=z at D Z a7 Q S HI;generalize (ak t).kind=K at D Q S HI;generalize (ak t).file=H at D Q S HI;generalize (ak t).rate=F at D Q S HI;generalize (ak t).burst=J at D Q S HI;generalize ((aK d).walk z).2=wf at Z a7 Q;go_enter func18,ntmps18
  go_wp2_with fail
  refine cEq b0.out λq hw=>?_
  have aR:=hw.symm;subst aR;go_wp2_with fail
  refine bb.out.mono ?_;rintro e w1 ⟨X,rfl,r⟩;have HO:=ah r;unfold Bj at HO;go_wp2_with fail
  generalize am:w1.heap.size=f at HO |-;generalize bp:w1.alloc _=W2 at HO |-;go_loopw [34] (λi wr=>∃ k:Nat,k<=5/\i=.int .i64 (k:Int)/\kJ w f k d t wr) (λi _=>5-(intOf i).toNat)
  case atStart=>exact⟨0,by omega,rfl,HO.out⟩
  case round =>
    obtain⟨k,G,rfl,r⟩:=hrel;by_cases ab:k<5
    . have bm:Hid (kJ w f k d t wr.drew):=I.out _ _ _ _ r (ja0 _ _).drew
      have e1:=b4.out k wr ab (a9.out _ _ _ r).1;have k0:(0:Int)<=(k:Int):=by omega
      have k5:(k:Int)<5:=by omega
      have k2:((k:Int)).toNat=k:=by omega
      have k3:IntKind.i64.wrap ((k:Int)+1)=(k:Int)+1:=ja7 _ (by omega)
      have av:=ah (bk.out k f wr.drew ab bm.out);generalize (hs k).p=dp at e1 av;go_wp2_with fail
      go_region_held3 (λ_=>True)
        (first|trivial|assumption)
        (first
          | (go_at_call 73;refine av.out.mono ?_;rintro e w4 ⟨s,rfl,⟨v,q1⟩,q2,hA⟩;have HA:=ah hA;have q3:=aM.out _ _ _ _ hA;clear hA))
      generalize bs:w4.setCell ⟨f,k,none⟩ s.p=W5 at HA q3 |-;by_cases ax:dF (d k)=0
      . have aa:=ah (bg.out k f s W5 ab ax HA.out)
        go_wp2_with fail
        refine aa.out.mono ?_;rintro e w6 ⟨xp,rfl,⟨v6,p1⟩,p2,bo⟩;have ap:=ah bo;go_wp2
        refine⟨⟨k+1,by omega,by simp,ap.out⟩,?_⟩
        simp only[intOf];omega
      . have aa:=ah (bd.out k f s W5 ab ax HA.out)
        generalize dF (d k)=of at aa;go_wp2_with fail
        refine cHd aa.out λw6 ap=>?_
        go_wp2
        refine⟨⟨k+1,by omega,by simp,ap.out⟩,?_⟩
        simp only[intOf];omega
    . have b1:k=5:=by omega
      subst b1;obtain⟨tq,c5,bn⟩:=aL.out f wr r;have an:=ah bn;have ai:=ah r;by_cases a2:aJ ds=0
      . rw[a2,aN] at D
        have bh:=ah (a7.out a2);have b8:=ah (Q.out a2);by_cases ad:wf=0
        . rw[ad,aN] at Z
          have bl:=ah (b8.out ad);go_wp2_with fail
          refine cSt an.out ?_;go_wp2_with fail
          refine cEq (D.out _) λA a4=>?_
          have U:=I.out _ _ _ _ ai.out a4;have y:A.heap.size≠f:=by have:=aD.out _ _ _ U;omega
          have a3:Hid (kJ w f 5 d t (A.alloc (.cells #[z,K,H,F,J] 82))):=I.out _ _ _ _ U ((ja0 _ _).alloc (ja1 _) _);have O:Hid ((A.alloc (.cells #[z,K,H,F,J] 82)).heap[A.heap.size]?=some (.cells #[z,K,H,F,J] 82 (0,0))):=heap_alloc_new A _;go_wp2_with fail
          generalize A.alloc (.cells #[z,K,H,F,J] 82)=B at a3 O |-;generalize A.heap.size=N at O y |-;have a0:=ah (S.out B N O.out);have ao:Hid (B.drew.cell? ⟨N,0,none⟩=some (z:υ)):=(a0.out B.drew rfl).1;have a8:Hid (kJ w f 5 d t B.drew):=I.out _ _ _ _ a3.out (ja0 _ _).drew;have ae:=ah (Z.out f B.drew a8.out);have af:Hid (N<B.drew.heap.size):=lt_of_some O.out
          go_region_held3 (λW=>W.cell? ⟨N,0,none⟩=some (z:υ))
            (first|(exact ao.out)|assumption)
            (first
              | (go_at_call 77;refine ae.out.mono ?_;rintro e E ⟨a5,n5,b5,rfl,T⟩;have ac:=ah (I.out _ _ _ _ a8.out T);have a1:Hid (E.heap[N]?=B.heap[N]?):=T.block N af.out;have be:E.cell? ⟨N,0,none⟩=some (z:υ):=(a0.out E a1.out).1;have aE:Hid ((E.setCell ⟨f,11,none⟩ z).heap[N]?=B.heap[N]?):=(heap_setCell_other _ _ _ _ y).trans a1.out;clear T))
          obtain⟨_,⟨bA,bv⟩,bu⟩:=a9.out _ _ _ ac.out;have b9:=ah (a0.out (E.setCell ⟨f,11,none⟩ z) aE.out).2;have b6:=ah (bl.out f E ac.out);go_wp2_with (refine wpList_load_mid (by rfl) 82 (.tmp 13) (by rfl) N 0 (by rfl) [z,K,H,F,J] _ b9.out underlying82 rfl HI.out ?_)
          refine b6.out.mono ?_;rintro e w6 ⟨bq,rfl,⟨u6,br⟩,bt,hP⟩;have HP:=ah hP;go_wp2
          exact HP.out
        . rw[bJ ad] at Z
          have ag:=ah (bh.out ad);go_wp2_with fail
          refine cSt an.out ?_;go_wp2_with fail
          refine cEq (D.out _) λA a4=>?_
          have U:=I.out _ _ _ _ ai.out a4;have y:A.heap.size≠f:=by have:=aD.out _ _ _ U;omega
          have a3:Hid (kJ w f 5 d t (A.alloc (.cells #[z,K,H,F,J] 82))):=I.out _ _ _ _ U ((ja0 _ _).alloc (ja1 _) _);have O:Hid ((A.alloc (.cells #[z,K,H,F,J] 82)).heap[A.heap.size]?=some (.cells #[z,K,H,F,J] 82 (0,0))):=heap_alloc_new A _;go_wp2_with fail
          generalize A.alloc (.cells #[z,K,H,F,J] 82)=B at a3 O |-;generalize A.heap.size=N at O y |-;have a0:=ah (S.out B N O.out);have ao:Hid (B.drew.cell? ⟨N,0,none⟩=some (z:υ)):=(a0.out B.drew rfl).1;have a8:Hid (kJ w f 5 d t B.drew):=I.out _ _ _ _ a3.out (ja0 _ _).drew;have ae:=ah (Z.out f B.drew a8.out);have af:Hid (N<B.drew.heap.size):=lt_of_some O.out
          go_region_held3 (λW=>W.cell? ⟨N,0,none⟩=some (z:υ))
            (first|(exact ao.out)|assumption)
            (first
              | (go_at_call 77;refine ae.out.mono ?_;rintro e E ⟨a5,n5,b5,rfl,T⟩;have ac:=ah (I.out _ _ _ _ a8.out T);have a1:Hid (E.heap[N]?=B.heap[N]?):=T.block N af.out;have be  := (a0.out E a1.out).1;have aE:Hid ((E.setCell ⟨f,11,none⟩ z).heap[N]?=B.heap[N]?):=(heap_setCell_other _ _ _ _ y).trans a1.out;clear T))
          have HP:=ah (ag.out E (a9.out _ _ _ ac.out).1);go_wp2
          exact HP.out
      . rw[bJ a2] at D
        have ag:=ah (al.out a2);go_wp2_with fail
        refine cSt an.out ?_;go_wp2_with fail
        refine cEq (D.out _) λA a4=>?_
        have U:=I.out _ _ _ _ ai.out a4;have az:=(a9.out _ _ _ U).1;have HP:=ah (ag.out (A.alloc (.cells #[z,K,H,F,J] 82)) (az.alloc az.size _));go_wp2
        exact HP.out
def MO(a b c d:Int)(w:ω):(Instr.field 120 (.agg #[a,b,c,d]) 1).run prog w=.ok (.int .i64 b) w:=by kernel_rfl
def Jp{A C m:Nat}{Y:Yh}{y:YV}(f:Int)(w:ω)(h:aB w A Y y)(v:YOk y C m) :
  κ prog 188 #[A,f] w λe i=>e=.returned (.bool (y.used f))/\β w w i:=by
 have r:=ah (oO w h);have s:=ah (sH w h v);have a:Hid (∀(W:ω) (g o cap:Nat),Nums W (S ⟨g,o,none⟩) y.l->κ prog 236 #[.slice (S ⟨g,o,none⟩) y.l.length cap,f] W λe i=>e=.returned (.bool (y.l.contains f))/\i=W):=λW g o cap L=>zI y.l f W L rfl (by have:=v.ch.len;omega)
 have B:y.used f=(y.busy&&decide (y.kd.file=f)||y.l.contains f):=rfl
 by_cases k:y.busy=true
 .obtain⟨j,E,H⟩:=lU k
  have D:=v.job j E H;rw[qj k] at r;have G:y.kd.file=j.file:=by rw[<- D.dsk];rfl
  have t:=ah λW (k:β w w W)=>yQ W ((h.below k).job j E).1 D.ok.set
  rw[B,k,G,jb1];have u:=MO j.kind j.file j.state (S4.cnt j.x 64:Nat);generalize j.kind=P at t u;generalize j.state=O at t u;generalize S4.cnt j.x 64=N at t u;generalize j.file=z at t u |-;generalize y.l.length=ln at s a
  cases F:y.l.contains f with
  | true =>
   rw[F] at a;rw[Bool.or_true];go_enter func188,ntmps188
   go_wp2_with fail
   refine cEq r.out λi q=>?_
   have d:=q.symm;subst d;go_wp2_with fail
   refine s.out.mono ?_;rintro e b ⟨g,o,cap,rfl,n,_,_,_,c⟩;go_wp2_with fail
   refine cSt (a.out b g o cap n) ?_;go_wp2
   go_ret
   exact⟨rfl,c⟩
  | false =>
   rw[F] at a;rw[jbh]
   have M:decide (z=f)=(z==f):=by
    by_cases e:z=f
    .rw[e];simp
    .rw[decide_eq_false e];symm;simpa using e
   rw[M];go_enter func188,ntmps188
   go_wp2_with fail
   refine cEq r.out λi q=>?_
   have d:=q.symm;subst d;go_wp2_with fail
   refine s.out.mono ?_;rintro e b ⟨g,o,cap,rfl,n,_,_,_,c⟩;go_wp2_with fail
   refine cSt (a.out b g o cap n) ?_;go_wp2_with fail
   refine cBl (t.out b c) c λQ J=>?_
   go_wp2
   go_ret
   exact⟨rfl,J.out⟩
 .rw[qh k] at r
  have K:y.busy=false:=by simpa using k
  rw[B,K,Bool.false_and,jbz];generalize y.l.length=ln at s a;generalize y.l.contains f=I at a |-
  cases I with
  | true =>
   go_enter func188,ntmps188
   go_wp2_with fail
   refine cEq r.out λi q=>?_
   have d:=q.symm;subst d;go_wp2_with fail
   refine s.out.mono ?_;rintro e b ⟨g,o,cap,rfl,n,_,_,_,c⟩;go_wp2_with fail
   refine cSt (a.out b g o cap n) ?_;go_wp2
   go_ret
   exact⟨rfl,c⟩
  | false =>
   go_enter func188,ntmps188
   go_wp2_with fail
   refine cEq r.out λi q=>?_
   have d:=q.symm;subst d;go_wp2_with fail
   refine s.out.mono ?_;rintro e b ⟨g,o,cap,rfl,n,_,_,_,c⟩;go_wp2_with fail
   refine cSt (a.out b g o cap n) ?_;go_wp2
   go_ret
   exact⟨rfl,c⟩
def Ws{B:Gd}{h:Hd}{d:DV}{C:Nat}(w:ω)(hd:bQ B w h d)(m:1<=C/\C<=32) :
  κ prog 189 #[h.p,(C:Int)] w λe g=>e=.returned (nO d.fl.length (C:Int))/\β w w g:=by
 have b:=ah (size_any w hd.toaO);have k:=hd.ok.n2
 have l:HV.ok ⟨(C:Int),0,0⟩=true:=by
  unfold HV.ok;simp
  omega
 have a:=ah λW=>uU (C:Int) 0 0 W l
 have c:(aQ ⟨(C:Int),0,0⟩:Int)=1+(ay C:Int):=by unfold aQ dw;simp
 have f:ay C<=5:=by unfold ay;omega
 rw[c] at a;have i:nO d.fl.length (C:Int)=Int.tdiv ((d.fl.length:Int)-(1+(ay C:Int))) 4:=by unfold nO;rw[show((C:Int)).toNat=C by omega];congr 1;omega
 rw[i];generalize d.fl.length=n at b k |-;generalize ay C=o at a f |-;go_enter func189,ntmps189
 go_wp2_with fail
 refine cSt b.out ?_;go_wp2_with fail
 refine cHd (a.out _) λq j=>?_
 go_wp2
 go_ret
 exact⟨rfl,j.out⟩
def mD(a:Nat->Ih)(k:Nat)(x:Ih):Nat->Ih:=λi=>if i=k then x else a i
def fG(a:Nat->Hd)(k:Nat)(h:Hd):Nat->Hd:=λi=>if i=k then h else a i
def Yh.hd(Y:Yh)(s:SV)(i:Nat):Hd:=match s i with
 | none=>Y.ds i
 | some _=>(Y.xs i).h
def aB.kP{w:ω}{c i:Nat}{Y:Yh}{y:YV}(h:aB w c Y y)(a:i<5):bQ Gd.no w (Y.hd y.s i) (y.dev i)/\(Y.hd y.s i).p=Y.dp y.s i/\∀ k,(Y.hd y.s i).fp k->Y.fpF y.s i k:=by
 unfold Yh.hd YV.dev Yh.dp Yh.fpF
 cases b:y.s i with
 | none=>exact⟨h.dev i a b,rfl,λk e=>e⟩
 | some v=>exact⟨(h.img i v a b).dev,rfl,λk e=>.inr (.inr (.inr e))⟩
def aB.made{w c:ω}{a i:Nat}{Y:Yh}{y:YV}(h:aB w a Y y)(g:i<5){x:Ih}{v:IV}(m:Moved (Y.hd y.s i).fp w x.fp c)(D:aH Gd.no c x v)(C:x.h.p=(Y.hd y.s i).p) :
    aB (c.setCell ⟨a,6+i,O⟩ x.p) a {Y with xs:=mD Y.xs i x} {y with s:=y.s.upd i v}/\Moved (fpY a Y y) w (fpY a {Y with xs:=mD Y.xs i x} {y with s:=y.s.upd i v}) (c.setCell ⟨a,6+i,O⟩ x.p):=by
  obtain⟨F,A,B⟩:=h.kP g;have f:y.s.upd i v i=some v:=by unfold SV.upd;rw[if_pos rfl]
  have l:({Y with xs:=mD Y.xs i x}:Yh).xs i=x:=by show mD _ i x i=x;unfold mD;rw[if_pos rfl]
  have r:Moved _ w (({Y with xs:=mD _ i x}:Yh).fpF _ i) c:=⟨m.kept.mono λk _ e=>B k e,λk e=>by
    rw[Yh.dX f,l] at e;rcases m.new k e with n|n
    . simp_all
    . exact .inr n⟩
  have z:=h.kH.1 i g
  have t:∀ b,x.fp b->b≠a:=λb e n=>by
    rcases m.new b e with E|E
    . simp_all
    . have:=h.blk.lt;omega
  have q:je (c.setCell _ (iE (({Y with xs:=mD _ i x}:Yh).xs i) (y.s.upd i v i))) a _ _ _ _ :=
    (h.blk.keep (r.block h.blk.lt z)).Hy g (λj d=>⟨by show mD _ i x j=_;unfold mD;rw[if_neg d],by unfold SV.upd;rw[if_neg d]⟩) (λj d=>by
      by_cases e:j=i
      . rw[e,Yh.kY f,l,C,A]
      . unfold Yh.dp SV.upd
        rw[if_neg e];show(match y.s j with|none=>(Y.ds j).p|some _=>(mD _ i x j).h.p)=_
        unfold mD;rw[if_neg e]
        cases y.s j<;>rfl) rfl
  rw[f,l] at q;refine h.pF   g r (Kept.setCell (S:=λk=>k=a)  (Kept.refl _ c) (.inl rfl) _) q (λu o=>?_) (λo=>?_) (λj d=>⟨by show SV.upd _ _ _ _=_;unfold SV.upd;rw[if_neg d],rfl,by show mD _ i x j=_;unfold mD;rw[if_neg d],rfl⟩) ⟨rfl,rfl,rfl,rfl⟩
  . cases (f.symm.trans o)
    rw[l];exact D.jm λb e=>heap_setCell_other _ _ _ _ (t b e)
  . simp_all
def aB.yY{w c:ω}{a i:Nat}{Y:Yh}{y:YV}(h:aB w a Y y)(g:i<5){d:Hd}{D:DV}(m:Moved (Y.hd y.s i).fp w d.fp c)(hd:bQ Gd.no c d D)(A:d.p=(Y.hd y.s i).p) :
    aB (c.setCell ⟨a,6+i,O⟩ (.pointer O)) a {Y with ds:=fG Y.ds i d} {y with s:=y.s.gone i,dv:=λk=>if k=i then D else y.dv k}/\Moved (fpY a Y y) w (fpY a {Y with ds:=fG Y.ds i d} {y with s:=y.s.gone i,dv:=λk=>if k=i then D else y.dv k}) (c.setCell ⟨a,6+i,O⟩ (.pointer O)):=by
  obtain⟨E,x,z⟩:=h.kP g;have l:y.s.gone i i=none:=by unfold SV.gone;rw[if_pos rfl]
  have n:({Y with ds:=fG Y.ds i d}:Yh).ds i=d:=by show fG _ i d i=d;unfold fG;rw[if_pos rfl]
  have q:Moved _ w (({Y with ds:=fG _ i d}:Yh).fpF _ i) c:=⟨m.kept.mono λk _ e=>z k e,λk e=>by
    rw[Yh.dH l,n] at e;rcases m.new k e with r|r
    . simp_all
    omega⟩
  have v:=h.kH.1 i g
  have t:∀ b,d.fp b->b≠a:=λb e r=>by
    rcases m.new b e with C|C
    . simp_all
    . have:=h.blk.lt;omega
  have o:je (c.setCell _ (iE (({Y with ds:=fG _ i d}:Yh).xs i) (y.s.gone i i))) a _ _ _ _ :=
    (h.blk.keep (q.block h.blk.lt v)).Hy g (λj f=>⟨rfl,by unfold SV.gone;rw[if_neg f]⟩) (λj f=>by
      by_cases e:j=i
      . rw[e,Yh.dp_none l,n,A,x]
      . unfold Yh.dp SV.gone
        rw[if_neg e];show(match y.s j with|none=>(fG _ i d j).p|some _=>(Y.xs j).h.p)=_
        unfold fG;rw[if_neg e]
        cases y.s j<;>rfl) rfl
  rw[l] at o;refine h.pF   g q (Kept.setCell (S:=λk=>k=a)  (Kept.refl _ c) (.inl rfl) _) o (λu B=>?_) (λB=>?_) (λj f=>⟨by show SV.gone _ _ _=_;unfold SV.gone;rw[if_neg f],if_neg f,rfl,by show fG _ i d j=_;unfold fG;rw[if_neg f]⟩) ⟨rfl,rfl,rfl,rfl⟩
  . simp_all
  . rw[n]
    show bQ _ _ d (if i=i then D else y.dv i)
    rw[if_pos rfl];exact hd.keep λb e=>heap_setCell_other _ _ _ _ (t b e)
def Ij:(prog.info? 47).map (·.size)=S 5:=by kernel_rfl
def NS(P:Nat->Nat)(w:ω):(Instr.index 47 (.agg #[P 0,P 1,P 2,P 3,P 4]) (.int .i64 0)).run prog w=.ok (.pointer (S ⟨P 0,0,O⟩)) w:=by kernel_rfl
def NT(P:Nat->Nat)(w:ω):(Instr.index 47 (.agg #[P 0,P 1,P 2,P 3,P 4]) (.int .i64 1)).run prog w=.ok (.pointer (S ⟨P 1,0,O⟩)) w:=by kernel_rfl
def NU(P:Nat->Nat)(w:ω):(Instr.index 47 (.agg #[P 0,P 1,P 2,P 3,P 4]) (.int .i64 2)).run prog w=.ok (.pointer (S ⟨P 2,0,O⟩)) w:=by kernel_rfl
def NV(P:Nat->Nat)(w:ω):(Instr.index 47 (.agg #[P 0,P 1,P 2,P 3,P 4]) (.int .i64 3)).run prog w=.ok (.pointer (S ⟨P 3,0,O⟩)) w:=by kernel_rfl
def NW(P:Nat->Nat)(w:ω):(Instr.index 47 (.agg #[P 0,P 1,P 2,P 3,P 4]) (.int .i64 4)).run prog w=.ok (.pointer (S ⟨P 4,0,O⟩)) w:=by kernel_rfl
def EK(P:Nat->Nat)(k:Nat)(a:k<5)(w:ω) :
  (Instr.index 47 (.agg #[P 0,P 1,P 2,P 3,P 4]) (.int .i64 (k:Int))).run prog w=.ok (.pointer (S ⟨P k,0,O⟩)) w:=by
 match k,a with
 | 0,_=>exact NS P w
 | 1,_=>exact NT P w
 | 2,_=>exact NU P w
 | 3,_=>exact NV P w
 | 4,_=>exact NW P w
def iZ.block{w:ω}{B k cap:Nat}{a:Option Addr}{i:Nat->Hd}{d:Nat->DV}(h:iZ w B a k cap i d):∀ r,(Value.slice a k cap).ownBlock=S r->∃ b,w.heap[r]?=S (.cells b 46 (0,0)):=λr e=>by
 rcases h.row.2 with⟨f,_⟩|⟨g,l,b,c,_,j,_⟩
 .rw[f] at e;cases e
 .rw[c] at e
  have m:g=r:=by simpa [Value.ownBlock] using e
  simp_all
def aB.Gm{w:ω}{b:Nat}{Y:Yh}{y:YV}(h:aB w b Y y):w.rangeAt b 0 [.pointer (S ⟨Y.dp y.s 0,0,O⟩),.pointer (S ⟨Y.dp y.s 1,0,O⟩),.pointer (S ⟨Y.dp y.s 2,0,O⟩),.pointer (S ⟨Y.dp y.s 3,0,O⟩),.pointer (S ⟨Y.dp y.s 4,0,O⟩)]:=λj v a=>by
 have c:=h.blk.cells.1
 match j,a with
 | 0,a=>simp_all
 | 1,a=>simp_all
 | 2,a=>simp_all
 | 3,a=>simp_all
 | 4,a=>simp_all
def V3{n:Nat}{Y:Yh}{y:YV}(w:ω)(h:aB w n Y y) :
  κ prog 69 #[n] w λe f=>∃(a:Option Addr) (cap:Nat) (c:Nat->Hd) (E:Hd),e=.returned (.tuple #[.slice a 5 cap,E.p])/\iZ f w.heap.size a 5 cap c y.dev/\aO w.heap.size f E y.top/\β w w f:=by
 obtain⟨S,a1,a5,T,V⟩:=info_parts EL;have B:=ah h.Gm;have F:Hid ((prog.info? 47).map (·.size)=some ([.pointer (some ⟨Y.dp y.s 0,0,none⟩),.pointer (some ⟨Y.dp y.s 1,0,none⟩),.pointer (some ⟨Y.dp y.s 2,0,none⟩),.pointer (some ⟨Y.dp y.s 3,0,none⟩),.pointer (some ⟨Y.dp y.s 4,0,none⟩)]:List υ).length):=Ij
 have C:=ah λk (o:k<5) W=>EK (Y.dp y.s) k o W
 have H:Hid (∀(k:Nat) (W:ω) (a:Option Addr) (cap:Nat) (c:Nat->Hd),k<5->β w w W->iZ W w.heap.size a k cap c y.dev->κ prog 73 #[Y.dp y.s k] W λe f=>∃ b:Hd,e=.returned b.p/\aO W.heap.size f b (y.dev k)/\β W W f):=λk W a cap c o g _=>by
  obtain⟨d1,O,_⟩:=(h.below g).kP o;rw[<- O];exact wQ W d1.toaO
 have K:Hid (∀ W:ω,β w w W->W.cell? ⟨n,5,none⟩=some (Y.tp.p:υ)/\κ prog 73 #[Y.tp.p] W λe f=>∃ b:Hd,e=.returned b.p/\aO W.heap.size f b y.top/\β W W f):=λW g=>⟨(h.below g).blk.cells.2.1,wQ W (h.below g).top.toaO⟩
 generalize Y.dp y.s=P at B F C H;generalize Y.tp.p=tp at K;go_enter func69,ntmps69
 go_wp2_with (refine wpList_load_mid (by rfl) 47 (.tmp 9) (by rfl) n 0 (by rfl) [P 0,P 1,P 2,P 3,P 4] _ B.out underlying47 rfl F.out ?_)
 go_loopw [4,11] (λu i wr=>∃(k:Nat) (a:Option Addr) (cap:Nat) (c:Nat->Hd),k<=5/\i=.int .i64 (k:Int)/\u=.slice a k cap/\iZ wr w.heap.size a k cap c y.dev/\β w w wr) (λ_ i _=>5-(intOf i).toNat)
 case atStart=>exact⟨0,none,0,λ_=>⟨0,0,0,0,0,.nilIface⟩,by omega,rfl,rfl,iZ.nil _ _ _ _,ja0 _ _⟩
 case round =>
  obtain⟨k,a,cap,c,o,rfl,rfl,q,g⟩:=hrel;by_cases z:k<5
  .have Z:=C.out k z
   have G:=ah (H.out k wr a cap c z g q);have m:=ah q;have j:=ah g;generalize P k=pk at Z G;go_wp2_with fail
   refine G.out.mono ?_;rintro e d ⟨b,rfl,v,l⟩;have t  := j.out.size;have D:Hid ((d.alloc (.cells #[b.p] 46)).ownsRow w.heap.size 46 1 (.slice a k cap) k (nM c k)):=(m.out.below l).row.alloc _;have N:Hid (w.heap.size<=(d.alloc (.cells #[b.p] 46)).heap.size):=by unfold Hid;have:=l.size;simp;omega
   have X:Hid (β w w (d.alloc (.cells #[b.p] 46))):=(j.out.trans (l.mono t)).alloc (ja4 t l.size) _;have a4:Hid ((d.alloc (.cells #[b.p] 46)).heap.size=d.heap.size+1):=by unfold Hid;simp
   have U:Hid (∀ i y,([.pointer (some ⟨b.p,0,none⟩)]:List υ)[i]?=some y->(d.alloc (.cells #[b.p] 46)).cell? ((⟨d.heap.size,0,none⟩:Addr).add i)=some y):=cell_one_new _ _ _;go_wp2_with (at_builtin;refine wpList_append_lies _ (by rfl) _ _ 53 (by rfl) w.heap.size 46 S (.pointer none) 1 8 underlying53 a1 a5 T V rfl (by decide) (.slice a k cap) k (nM c k) (by rfl) D.out ⟨d,0,none⟩ 1 1 [b.p] (by rfl) (by rfl) U.out (λu J=>by simp at J;subst J;rfl) (by decide) (by unfold maxLen;omega) (by omega) N.out (d.heap.size+1) a4.out ?_;intro g3 I A Q M a6 a7)
   have R:Hid (iZ A w.heap.size (some ⟨g3,0,none⟩) (k+1) I (setH c k b) y.dev):=m.out.snoc t l v Q M m.out.block;have a0:Hid (β w w A):=X.out.grown M N.out (λr e=>(D.out.lt r e).1)
   go_roundw
   case rel =>
    exact⟨k+1,some _,I,setH c k b,by omega,by go_num,rfl,R.out,a0.out⟩
   case measure=>simp[intOf];omega
  .have a3:k=5:=by omega
   subst a3;obtain⟨c5,a2⟩:=K.out wr g;have m:=ah q;have j:=ah g;go_wp2_with fail
   refine a2.mono ?_;rintro e d ⟨b,rfl,v,l⟩;have L:=ah v;have x:=ah l;go_wp2
   first
    | exact⟨a,cap,c,b,rfl,m.out.below x.out,L.out.zA j.out.size,j.out.trans _⟩
    | (go_ret2;exact⟨a,cap,c,b,rfl,m.out.below x.out,L.out.zA j.out.size,j.out.trans (x.out.mono j.out.size)⟩)
