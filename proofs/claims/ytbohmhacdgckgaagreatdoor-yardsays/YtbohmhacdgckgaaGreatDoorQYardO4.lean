/- A job is started (J5). -/
import Derived.Test.YtbohmhacdgckgaaGreatDoorQYardP8
set_option linter.all false
set_option maxHeartbeats 2000000
set_option maxRecDepth 100000
namespace Go.Proofs.YtbohmhacdgckgaaGreatDoor
open Go.RowKit renaming Below->β
open Go renaming World->ω, Value->υ, Calls->κ
open Option renaming none->O, some->S
open Go.Proofs.Tryz Go.RowKit Go.Maps
attribute [local go_sem ↓] Go.wp_at_zero Go.wp_at_succ
def aB.started{w t q:ω}{d m C:Nat}{Y n:Yh}{y z:YV}{b:Jh}{j:JV}(h:aB w d Y y)(D:β w w t)(l:PJ t d b.jp b.lp b.bp b.a b.cap Y.xs y.s m C j)
  (E:w.heap.size<=b.jp/\w.heap.size<=b.lp/\w.heap.size<=b.bp/\∀ g o,b.a=some ⟨g,o,O⟩->w.heap.size<=g) (I:aB q d n z) (f:Moved (fpY d Y y) t (fpY d n z) q) :
  aB (q.setCell ⟨d,12,O⟩ b.jp) d {n with jb:=b} {z with j:=some j}/\Moved (fpY d Y y) w (fpY d {n with jb:=b} {z with j:=some j}) (q.setCell ⟨d,12,O⟩ b.jp):=by
 obtain⟨G,J,B,r⟩:=E;obtain⟨F,H,L⟩:=l.job.lts;have i:∀ k,w.heap.size<=k->¬fpY d Y y k:=λk M e=>by have:=h.fF e;omega
 have x  := l.ok.ne
 have K:Apart b.a (fpY d {n with jb:=b} {z with j:=some j}):=λg o e c=>by
  have u:=l.nums.lt x e;rcases c with c|c|c|⟨_,c⟩
  .exact f.out u (i g (r g o e)) (.inl c)
  .exact f.out u (i g (r g o e)) (.inr (.inl c))
  .exact f.out u (i g (r g o e)) (.inr (.inr (.inl c)))
  .exact l.ap g o e (.inr c)
 refine⟨I.yL (l.job.keep (f.block F (i _ G)) (f.block H (i _ J)) (f.block L (i _ B))) (l.nums.moved f (λg o e=>i g (r g o e))) x l.cap K,?_⟩
 have v  := (Moved.of_below D).trans f;refine⟨v.kept.trans ((Kept.setCell (S:=λk=>k=d)  (Kept.refl _ q) (.inl rfl) _).mono ?_),λk A=>?_⟩
 .rintro k _ rfl;exact .inl rfl
 .rcases A with c|c|c|⟨_,c⟩
  .exact .inl (.inl c)
  .exact v.new k (.inr (.inl c))
  .exact v.new k (.inr (.inr (.inl c)))
  .refine .inr ?_
   rcases c with e|e|e
   .simp_all
   .simp_all
   .simp_all
def WA{l C m:Nat}{Y:Yh}{y:YV}(kind file n k:Int)(w:ω)(h:aB w l Y y)(L:YOk y C m)(hm:m<1000000000) :
    κ prog 51 #[l,kind,file,n,k] w λe u=>e=.returned (erV (y.iU (jH y kind file n k)))/\oV l Y y (y.start (jH y kind file n k)) w u:=by
  have H:=ah (oO w h);have T:=ah λW (t:β w w W)=>oV.of_below h t
  by_cases t:y.busy=true
  . rw[qj t] at H
    have S:y.kU (jH y kind file n k)=8:=by unfold YV.kU;rw[if_pos t]
    have i:y.iU (jH y kind file n k)=8:=by unfold YV.iU;rw[S];rfl
    have f:y.start (jH y kind file n k)=y:=by unfold YV.start;rw[S];rfl
    have G:=ah (T.out w (ja0 _ _));rw[i,f,bJ (by decide)]
    clear h L t S i f T;go_enter func51,ntmps51
    go_wp2_with fail
    refine cSt H.out ?_;clear H;go_wp2
    go_ret
    exact⟨rfl,G.out⟩
  . rw[qh t] at H
    by_cases P:kind=0
    . have S:y.kU (jH y kind file n k)=1:=by unfold YV.kU;rw[if_neg t,if_pos (show(jH y kind file n k).kind=0 from P)]
      have i:y.iU (jH y kind file n k)=1:=by unfold YV.iU;rw[S];rfl
      have f:y.start (jH y kind file n k)=y:=by unfold YV.start;rw[S];rfl
      have G:=ah (T.out w (ja0 _ _));have g1:(kind==0)=true:=by simpa using P
      rw[i,f,eu];clear h L t S i f T P;go_enter func51,ntmps51
      go_wp2_with fail
      refine cSt H.out ?_;clear H;go_wp2
      go_ret
      exact⟨rfl,G.out⟩
    . have g1:(kind==0)=false:=by simpa using P
      obtain⟨c0,c5,c6,a8,a5,fz⟩:=h.blk.cells;obtain⟨d,hd⟩:∃ d:aP,d=jH y kind file n k:=⟨_,rfl⟩;have a0:d.root=y.kd.root:=by rw[hd];rfl
      have A:Hid (β w w (w.alloc (bF d))):=(ja0 _ _).alloc (ja1 _) _;have a2:=ah (sZ d w);have M:=ah (oZ d w);have HI:Hid ((prog.info? 82).map (·.size)=some ([.int .i64 d.root,.int .i64 d.kind,.int .i64 d.file,.int .i64 d.rate,.int .i64 d.burst]:List υ).length):=uq
      have V:Hid (∀ W:ω,κ prog 124 #[.agg #[d.root,d.kind,d.file,d.rate,d.burst]] W λe u=>e=.returned (erV d.kv.fault)/\β W W u):=λW=>zH d.root d.kind d.file d.rate d.burst W
      have q:y.kU d=if d.kv.fault=0 then newF y.s d else d.kv.fault:=by unfold YV.kU;rw[if_neg t,if_neg (by rw[hd];exact P)]
      rw[<- hd];by_cases E:d.kv.fault=0
      . rw[if_pos E] at q
        rw[E,aN] at V;by_cases J:newF y.s d=0
        . have i:y.iU d=y.aJ:=by unfold YV.iU;rw[if_pos (q.trans J)]
          have f:y.start d=if y.aJ=0 then {y.aA d with j:=some ((gI y.s d).at 1)} else y.aA d:=by unfold YV.start;rw[if_pos (q.trans J)]
          have a1:Hid (∀ W:ω,β w w W->κ prog 125 #[.pointer (some ⟨l,6,none⟩),.agg #[d.root,d.kind,d.file,d.rate,d.burst]] W λe u=>∃(b:Jh) (B:Nat),e=.returned (.tuple #[b.jp,.nilIface])/\PJ u l b.jp b.lp b.bp b.a b.cap Y.xs y.s m B (gI y.s d)/\(w.heap.size<=b.jp/\w.heap.size<=b.lp/\w.heap.size<=b.bp/\∀ g o,b.a=some ⟨g,o,none⟩->w.heap.size<=g)/\β W W u):=λW c=>by
            refine(FN d W ((h.shelf L.s).below c) J).mono ?_;rintro e u ⟨jp,lp,bp,B,a,cap,rfl,h1,⟨q1,q2,q3,q4⟩,h3,_⟩;have hs:=c.size;exact⟨⟨jp,lp,bp,a,cap⟩,B,rfl,h1,⟨ja4 hs q1,ja4 hs q2,ja4 hs q3,λg o e=>ja4 hs (q4 g o e)⟩,h3⟩
          have Z:=ah λW (c:β w w W)=>uF d W (h.below c) L.top E hm
          obtain⟨s1,s2,s3,s4⟩:=ny y d
          have a9:Hid (∀(X K:ω) (b:Jh) (B:Nat),β w w X->PJ X l b.jp b.lp b.bp b.a b.cap Y.xs y.s m B (gI y.s d)->(w.heap.size<=b.jp/\w.heap.size<=b.lp/\w.heap.size<=b.bp/\∀ g o,b.a=some ⟨g,o,none⟩->w.heap.size<=g)->au l Y y (y.aA d) X K ->
              (∃ v,K.cell? ⟨l,12,none⟩=some v)/\K.frozen? ⟨l,12,none⟩=false/\κ prog 126 #[b.jp,false] (K.setCell ⟨l,12,none⟩ b.jp) λe u=>e=.returned .nilIface/\oV l Y y {y.aA d with j:=some ((gI y.s d).at 1)} w u):=λX K b B aa I N ⟨Y1,i,h1,h3⟩=>by
            obtain⟨_,_,_,_,ae,qf⟩:=h1.blk.cells;obtain⟨h5,h6⟩:=h.started aa I N h1 h3;refine⟨⟨_,ae⟩,qf 12,?_⟩;have ad:=Jj (m:=m) (C:=B) false _ h5 (by show(y.aA d).s.ok m;rw[s1];exact L.s) rfl (by show JOk (y.aA d).s B _;rw[s1];exact I.ok)
            have ep:iH (gI y.s d) false=0:=rfl;rw[ep,aN] at ad;refine cEq ad λu hd=>?_
            refine⟨rfl,?_⟩;obtain⟨Y2,f,h7,h8⟩:=hd;refine⟨Y2,.inr (λg o e=>?_),h7,h6.trans h8⟩
            have e3:b.a=some ⟨g,o,none⟩:=by rw[f] at e;exact e
            have q1:=I.nums.lt I.ok.ne e3;have q2:=h3.size;have q3:=h8.size;have q4:(K.setCell ⟨l,12,none⟩ b.jp).heap.size=K.heap.size:=by simp[World.setCell]
            exact⟨N.2.2.2 g o e3,by omega⟩
          rw[i,f];unfold bF at A a2 M;rw[<- a0] at a8;have z:kind=d.kind:=by rw[hd];rfl
          have Q:file=d.file:=by rw[hd];rfl
          have O:n=d.rate:=by rw[hd];rfl
          have R:k=d.burst:=by rw[hd];rfl
          rw[z,Q,O,R];rw[z] at g1;have ab:=ah λX K (aa:β w w X) (hd:au l Y y (y.aA d) X K)=>(au.from aa hd).out
          clear h L t i f q E c0 c5 c6 a5 fz hd P a0 z Q O R T s1 s2 s3 s4 J;generalize ({y.aA d with j:=some ((gI y.s d).at 1)}:YV)=z2 at a9 |-
          generalize y.aA d=z1 at Z a9 ab |-;generalize y.aJ=F at Z |-;by_cases hF:F=0
          . rw[if_pos hF,hF,aN]
            rw[hF,aN] at Z;go_enter func51,ntmps51
            go_wp2_with fail
            refine cSt H.out ?_;go_wp2_with fail
            refine cEq (V.out _) λw2 c=>?_
            have a4:=ah (A.out.trans (c.mono A.out.size));have a3:=ah (M.out _ c.drew);have x:=ah c.drew;go_wp2
            have D:Hid (β w w w2.drew):=a4.out.drew
            go_region_held3 (λW=>W.cell? ⟨w,0,none⟩=some (d.root:υ)/\W.cell? ⟨w,1,none⟩=some (d.kind:υ)/\W.cell? ⟨w,2,none⟩=some (d.file:υ)/\W.cell? ⟨w,3,none⟩=some (d.rate:υ)/\W.cell? ⟨w,4,none⟩=some (d.burst:υ))
              (first|(exact a3.out)|assumption)
              (first
                | (go_at_call 125;refine(a1.out _ D.out).mono ?_;rintro e w3 ⟨b,B,rfl,I,N,r⟩;have U:=ah (D.out.trans (r.mono D.out.size));have a6:=ah (a2.out _ (x.out.trans (r.mono x.out.size)));have ac:=ah I;have af:=ah N;have ag:=M.out _ (x.out.trans (r.mono x.out.size));clear r I N))
            have HK:=ah (Z.out _ U.out);go_wp2_with (refine wpList_load_mid (by rfl) 82 (.tmp 11) (by rfl) w.heap.size 0 (by rfl) [d.root,d.kind,d.file,d.rate,d.burst] _ a6.out underlying82 rfl HI.out ?_)
            refine cEq HK.out λw4 a7=>?_
            obtain⟨⟨v,ae⟩,qf,hp⟩:=a9.out w3 w4 b B U.out ac.out af.out a7;have HP:=ah hp;go_wp2_with fail
            refine cHd HP.out λw5 G=>?_
            go_wp2
            go_ret
            exact⟨rfl,G.out⟩
          . rw[if_neg hF]
            rw[bJ hF] at Z |-;go_enter func51,ntmps51
            go_wp2_with fail
            refine cSt H.out ?_;go_wp2_with fail
            refine cEq (V.out _) λw2 c=>?_
            have a4:=ah (A.out.trans (c.mono A.out.size));have a3:=ah (M.out _ c.drew);have x:=ah c.drew;go_wp2
            have D:Hid (β w w w2.drew):=a4.out.drew
            go_region_held3 (λW=>W.cell? ⟨w,0,none⟩=some (d.root:υ)/\W.cell? ⟨w,1,none⟩=some (d.kind:υ)/\W.cell? ⟨w,2,none⟩=some (d.file:υ)/\W.cell? ⟨w,3,none⟩=some (d.rate:υ)/\W.cell? ⟨w,4,none⟩=some (d.burst:υ))
              (first|(exact a3.out)|assumption)
              (first
                | (go_at_call 125;refine(a1.out _ D.out).mono ?_;rintro e w3 ⟨b,B,rfl,I,N,r⟩;have U:=ah (D.out.trans (r.mono D.out.size));have a6:=ah (a2.out _ (x.out.trans (r.mono x.out.size)));have ac:=ah I;have af:=ah N;have ag:=M.out _ (x.out.trans (r.mono x.out.size));clear r I N))
            have HK:=ah (Z.out _ U.out);go_wp2_with (refine wpList_load_mid (by rfl) 82 (.tmp 11) (by rfl) w.heap.size 0 (by rfl) [d.root,d.kind,d.file,d.rate,d.burst] _ a6.out underlying82 rfl HI.out ?_)
            refine cEq HK.out λw4 a7=>?_
            have G:=ah (ab.out _ _ U.out a7);go_wp2
            go_ret
            exact⟨rfl,G.out⟩
        . have i:y.iU d=newF y.s d:=by unfold YV.iU;rw[if_neg (λe=>J (q.symm.trans e)),q]
          have f:y.start d=y:=by unfold YV.start;rw[if_neg (λe=>J (q.symm.trans e))]
          have a1:Hid (∀ W:ω,β w w W->κ prog 125 #[.pointer (some ⟨l,6,none⟩),.agg #[d.root,d.kind,d.file,d.rate,d.burst]] W λe u=>e=.returned (.tuple #[.pointer none,.iface 96 (.int .i64 (newF y.s d))])/\β W W u):=λW c=>by
            have:=FM d W ((h.shelf L.s).below c) J
            rw[bJ J] at this;exact this
          rw[i,f,bJ J];unfold bF at A a2 M;rw[<- a0] at a8;have z:kind=d.kind:=by rw[hd];rfl
          have Q:file=d.file:=by rw[hd];rfl
          have O:n=d.rate:=by rw[hd];rfl
          have R:k=d.burst:=by rw[hd];rfl
          rw[z,Q,O,R];rw[z] at g1;clear h L t i f q E c0 c5 c6 a5 fz hd P a0 z Q O R;generalize newF y.s d=nf at a1 J;go_enter func51,ntmps51
          go_wp2_with fail
          refine cSt H.out ?_;go_wp2_with fail
          refine cEq (V.out _) λw2 c=>?_
          have a4:=ah (A.out.trans (c.mono A.out.size));have a3:=ah (M.out _ c.drew);have x:=ah c.drew;go_wp2
          have D:Hid (β w w w2.drew):=a4.out.drew
          go_region_held3 (λW=>W.cell? ⟨w,0,none⟩=some (d.root:υ)/\W.cell? ⟨w,1,none⟩=some (d.kind:υ)/\W.cell? ⟨w,2,none⟩=some (d.file:υ)/\W.cell? ⟨w,3,none⟩=some (d.rate:υ)/\W.cell? ⟨w,4,none⟩=some (d.burst:υ))
            (first|(exact a3.out)|assumption)
            (first
              | (go_at_call 125;refine cEq (a1.out _ D.out) λw3 r=>?_;have U:=ah (D.out.trans (r.mono D.out.size));have ag:=M.out _ (x.out.trans (r.mono x.out.size));clear r))
          have G:=ah (T.out _ U.out);go_wp2
          go_ret
          exact⟨rfl,G.out⟩
      . rw[if_neg E] at q
        have i:y.iU d=d.kv.fault:=by unfold YV.iU;rw[if_neg (λe=>E (q.symm.trans e)),q]
        have f:y.start d=y:=by unfold YV.start;rw[if_neg (λe=>E (q.symm.trans e))]
        rw[bJ E] at V;rw[i,f,bJ E];unfold bF at A;rw[<- a0] at a8;have z:kind=d.kind:=by rw[hd];rfl
        have Q:file=d.file:=by rw[hd];rfl
        have O:n=d.rate:=by rw[hd];rfl
        have R:k=d.burst:=by rw[hd];rfl
        rw[z,Q,O,R];rw[z] at g1;clear h L t i f q c0 c5 c6 a5 fz hd P a0 z Q O R HI a2;generalize d.kv.fault=ff at V E;go_enter func51,ntmps51
        go_wp2_with fail
        refine cSt H.out ?_;go_wp2_with fail
        refine cEq (V.out _) λw2 c=>?_
        have G:=ah (T.out _ (A.out.trans (c.mono A.out.size)));go_wp2
        go_ret
        exact⟨rfl,G.out⟩
def MN(a b c:Int)(w:ω):(Instr.field 67 (.agg #[a,b,c]) 2).run prog w=.ok (.int .i64 c) w:=by kernel_rfl
def pR(w:ω)(f m:Nat)(Y:Yh)(s:SV)(d:aP)(v:υ)(c:ω):Prop:=β w w c /\
 ((¬(¬(d.kind=2/\s.back d.root=d.file)/\newF s d=0)/\v=.pointer O) \/
  (¬(d.kind=2/\s.back d.root=d.file)/\newF s d=0/\∃(b:Jh) (C:Nat),v=.pointer (S ⟨b.jp,0,O⟩)/\PJ c f b.jp b.lp b.bp b.a b.cap Y.xs s m C (gI s d)/\(w.heap.size<=b.jp/\w.heap.size<=b.lp/\w.heap.size<=b.bp/\∀ g o,b.a=S ⟨g,o,O⟩->w.heap.size<=g)))
def V8{j m rk:Nat}{Y:Yh}{y:YV}(kind file i f:Int)(w:ω)(h:aB w j Y y)(hs:y.s.ok m)(hr:∃ v,y.s.file (rk:Int)=some v) :
    κ prog 78 #[j,.agg #[(rk:Int),kind,file,i,f]] w λe E=>∃ v,e=.returned v/\pR w j m Y y.s ⟨(rk:Int),kind,file,i,f⟩ v E:=by
  obtain⟨v,hv⟩:=hr;obtain⟨r0,r5,a4⟩:=SV.dS hv;have ab:((rk:Int)).toNat=rk:=by omega
  rw[ab] at a4;have aa:y.s.back (rk:Int)=v.h.b:=by unfold SV.back;rw[hv]
  have t:Hid (β w w (w.alloc (bF ⟨(rk:Int),kind,file,i,f⟩))):=(ja0 _ _).alloc (ja1 _) _;have S:=ah (sZ ⟨(rk:Int),kind,file,i,f⟩ w);have l:=ah (oZ ⟨(rk:Int),kind,file,i,f⟩ w)
  have N:Hid (∀ W:ω,β w w W->W.cell? ⟨j,6+rk,none⟩=some ((Y.xs rk).p:υ)):=λW q=>by
    have:=(h.below q).blk.cells.2.2.1 rk (by omega)
    rw[a4] at this;exact this
  have J:=ah λW (q:β w w W)=>qo W ((h.img _ v (by omega) a4).below q)
  have U:Hid (kind=2/\v.h.b=file->∀ W:ω,β w w W->pR w j m Y y.s ⟨(rk:Int),kind,file,i,f⟩ (.pointer none) W):=λe W q=>⟨q,.inl ⟨λe2=>e2.1 ⟨e.1,by show y.s.back (rk:Int)=file;rw[aa];exact e.2⟩,rfl⟩⟩
  have O:Hid (¬(kind=2/\v.h.b=file)->∀ W:ω,β w w W->κ prog 125 #[.pointer (some ⟨j,6,none⟩),.agg #[(rk:Int),kind,file,i,f]] W λe E=>β W W E/\∃(po:Option Addr) (F:Int),e=.returned (.tuple #[.pointer po,erV F])/\(F≠0->pR w j m Y y.s ⟨(rk:Int),kind,file,i,f⟩ (.pointer none) E)/\(F=0->pR w j m Y y.s ⟨(rk:Int),kind,file,i,f⟩ (.pointer po) E)):=λae W n=>by
    have hd:¬(kind=2/\y.s.back (rk:Int)=file):=by rw[aa];exact ae
    by_cases X:newF y.s ⟨(rk:Int),kind,file,i,f⟩=0
    . refine(FN ⟨(rk:Int),kind,file,i,f⟩ W ((h.shelf hs).below n) X).mono ?_
      rintro e E ⟨jp,lp,bp,C',a,cap,rfl,h1,⟨A,q2,C,H⟩,R,_⟩;have Q:=n.size;refine⟨R,some ⟨jp,0,none⟩,0,by rw[aN],λe=>absurd rfl e,λ_=>⟨n.trans (R.mono Q),.inr ⟨hd,X,⟨jp,lp,bp,a,cap⟩,C',rfl,h1,ja4 Q A,ja4 Q q2,ja4 Q C,λg o e=>ja4 Q (H g o e)⟩⟩⟩
    . refine cEq (FM ⟨(rk:Int),kind,file,i,f⟩ W ((h.shelf hs).below n) X) λE R=>?_
      exact⟨R,none,_,rfl,λ_=>⟨n.trans (R.mono n.size),.inl ⟨λe=>X e.2,rfl⟩⟩,λe=>absurd e X⟩
  unfold bF at t S l;simp only at t S l;have f2:=MN v.h.c v.h.p v.h.b;generalize v.h.c=hc at J f2;generalize v.h.p=hp at J f2;generalize v.h.b=q at J f2 U O;generalize (Y.xs rk).p=xp at N J;have K:Hid (∀ W V,pR w j m Y y.s ⟨(rk:Int),kind,file,i,f⟩ V W->∃ v,Ending.returned V=.returned v/\pR w j m Y y.s ⟨(rk:Int),kind,file,i,f⟩ v W):=λW V hf=>⟨V,rfl,hf⟩
  generalize pR w j m Y y.s ⟨(rk:Int),kind,file,i,f⟩=FP at U O K |-;by_cases M:kind=2
  . have g1:(kind==2)=true:=by simpa using M
    by_cases L:q=file
    . have g2:(file==q)=true:=by simpa using L.symm
      have af:=ah (U.out ⟨M,L⟩);clear M L U O;go_enter func78,ntmps78
      go_wp2
      generalize a9:w.alloc (.cells #[(rk:Int),kind,file,i,f] 82)=d at t S l |-;have r:Hid (β w w d.drew):=t.out.drew;have u:Hid (β d d d.drew):=(ja0 _ _).drew;obtain⟨T,A,q2,C,H⟩:=l.out _ u.out;have Z:=N.out _ r.out;have a2:Hid (d.drew.cell? ⟨w,0,none⟩=some (.int .i64 (rk:Int))/\d.drew.cell? ⟨w,1,none⟩=some (kind:υ)/\d.drew.cell? ⟨w,2,none⟩=some (file:υ)/\d.drew.cell? ⟨w,3,none⟩=some (i:υ)/\d.drew.cell? ⟨w,4,none⟩=some (f:υ)/\d.drew.cell? ⟨j,6+rk,none⟩=some (xp:υ)):=⟨T,A,q2,C,H,Z⟩
      go_region_held3 (λW=>W.cell? ⟨w,0,none⟩=some (.int .i64 (rk:Int))/\W.cell? ⟨w,1,none⟩=some (kind:υ)/\W.cell? ⟨w,2,none⟩=some (file:υ)/\W.cell? ⟨w,3,none⟩=some (i:υ)/\W.cell? ⟨w,4,none⟩=some (f:υ)/\W.cell? ⟨j,6+rk,none⟩=some (xp:υ))
        (first|(exact a2.out)|assumption)
        (first
          | (go_at_call 95;refine cEq (J.out _ r.out) λk n=>?_;have G:=ah (u.out.trans (n.mono u.out.size));have B:=ah (r.out.trans (n.mono r.out.size));have ac:k.cell? ⟨w,0,none⟩=some (.int .i64 (rk:Int))/\k.cell? ⟨w,1,none⟩=some (kind:υ)/\k.cell? ⟨w,2,none⟩=some (file:υ)/\k.cell? ⟨w,3,none⟩=some (i:υ)/\k.cell? ⟨w,4,none⟩=some (f:υ)/\k.cell? ⟨j,6+rk,none⟩=some (xp:υ):=by {obtain⟨t0,t1,t2,t3,t4⟩:=l.out _ G.out;exact⟨t0,t1,t2,t3,t4,N.out _ B.out⟩};clear n))
      have x:=ah (K.out _ _ (af.out _ B.out));go_wp2
      go_ret
      exact x.out
    . have g2:(file==q)=false:=by simpa using λe:file=q=>L e.symm
      have a3:Hid (¬(kind=2/\q=file)):=λe=>L e.2
      clear M L U;go_enter func78,ntmps78
      go_wp2
      generalize a9:w.alloc (.cells #[(rk:Int),kind,file,i,f] 82)=d at t S l |-;have r:Hid (β w w d.drew):=t.out.drew;have u:Hid (β d d d.drew):=(ja0 _ _).drew;obtain⟨T,A,q2,C,H⟩:=l.out _ u.out;have Z:=N.out _ r.out;have a2:Hid (d.drew.cell? ⟨w,0,none⟩=some (.int .i64 (rk:Int))/\d.drew.cell? ⟨w,1,none⟩=some (kind:υ)/\d.drew.cell? ⟨w,2,none⟩=some (file:υ)/\d.drew.cell? ⟨w,3,none⟩=some (i:υ)/\d.drew.cell? ⟨w,4,none⟩=some (f:υ)/\d.drew.cell? ⟨j,6+rk,none⟩=some (xp:υ)):=⟨T,A,q2,C,H,Z⟩
      go_region_held3 (λW=>W.cell? ⟨w,0,none⟩=some (.int .i64 (rk:Int))/\W.cell? ⟨w,1,none⟩=some (kind:υ)/\W.cell? ⟨w,2,none⟩=some (file:υ)/\W.cell? ⟨w,3,none⟩=some (i:υ)/\W.cell? ⟨w,4,none⟩=some (f:υ)/\W.cell? ⟨j,6+rk,none⟩=some (xp:υ))
        (first|(exact a2.out)|assumption)
        (first
          | (go_at_call 95;refine cEq (J.out _ r.out) λk n=>?_;have G:=ah (u.out.trans (n.mono u.out.size));have B:=ah (r.out.trans (n.mono r.out.size));have ac:k.cell? ⟨w,0,none⟩=some (.int .i64 (rk:Int))/\k.cell? ⟨w,1,none⟩=some (kind:υ)/\k.cell? ⟨w,2,none⟩=some (file:υ)/\k.cell? ⟨w,3,none⟩=some (i:υ)/\k.cell? ⟨w,4,none⟩=some (f:υ)/\k.cell? ⟨j,6+rk,none⟩=some (xp:υ):=by {obtain⟨t0,t1,t2,t3,t4⟩:=l.out _ G.out;exact⟨t0,t1,t2,t3,t4,N.out _ B.out⟩};clear n))
      have HN:=ah (O.out a3.out);go_wp2
      have a5:Hid (β w w k.drew):=B.out.drew;have D:Hid (β d d k.drew):=G.out.drew;have a7:=ah (l.out _ D.out)
      go_region_held3 (λW=>W.cell? ⟨w,0,none⟩=some (.int .i64 (rk:Int))/\W.cell? ⟨w,1,none⟩=some (kind:υ)/\W.cell? ⟨w,2,none⟩=some (file:υ)/\W.cell? ⟨w,3,none⟩=some (i:υ)/\W.cell? ⟨w,4,none⟩=some (f:υ))
        (first|(exact a7.out)|assumption)
        (first
          | (go_at_call 125;refine(HN.out _ a5.out).mono ?_;rintro e w3 ⟨a1,po,F,rfl,a0,P⟩;have a6:=ah a0;have a8:=ah P;have ad:=l.out _ (D.out.trans (a1.mono D.out.size));clear a1 a0 P))
      by_cases z:F=0
      . have I:Hid (erV F=.nilIface):=by unfold Hid;rw[z,aN]
        rw[I.out];have x:=ah (K.out _ _ (a8.out z));go_wp2
        go_ret
        exact x.out
      . have I:Hid (erV F=.iface 96 (.int .i64 F)):=bJ z
        rw[I.out];have x:=ah (K.out _ _ (a6.out z));go_wp2
        go_ret
        exact x.out
  . have g1:(kind==2)=false:=by simpa using M
    have a3:Hid (¬(kind=2/\q=file)):=λe=>M e.1
    go_enter func78,ntmps78
    go_wp2
    generalize a9:w.alloc (.cells #[(rk:Int),kind,file,i,f] 82)=d at t S l |-;have r:Hid (β w w d.drew):=t.out.drew;have u:Hid (β d d d.drew):=(ja0 _ _).drew;obtain⟨T,A,q2,C,H⟩:=l.out _ u.out;have Z:=N.out _ r.out;have a2:Hid (d.drew.cell? ⟨w,0,none⟩=some (.int .i64 (rk:Int))/\d.drew.cell? ⟨w,1,none⟩=some (kind:υ)/\d.drew.cell? ⟨w,2,none⟩=some (file:υ)/\d.drew.cell? ⟨w,3,none⟩=some (i:υ)/\d.drew.cell? ⟨w,4,none⟩=some (f:υ)/\d.drew.cell? ⟨j,6+rk,none⟩=some (xp:υ)):=⟨T,A,q2,C,H,Z⟩
    have p1:d.cell? ⟨w,1,none⟩=some (kind:υ):=A;go_quiet (fail)
    have B:Hid (β w w (d.drewN nq)):=below_drewN t.out _;have G:Hid (β d d (d.drewN nq)):=below_drewN (ja0 _ _) _;generalize d.drewN nq=k at B G |-;have HN:=ah (O.out a3.out);go_wp2
    have a5:Hid (β w w k.drew):=B.out.drew;have D:Hid (β d d k.drew):=G.out.drew;have a7:=ah (l.out _ D.out)
    go_region_held3 (λW=>W.cell? ⟨w,0,none⟩=some (.int .i64 (rk:Int))/\W.cell? ⟨w,1,none⟩=some (kind:υ)/\W.cell? ⟨w,2,none⟩=some (file:υ)/\W.cell? ⟨w,3,none⟩=some (i:υ)/\W.cell? ⟨w,4,none⟩=some (f:υ))
      (first|(exact a7.out)|assumption)
      (first
        | (go_at_call 125;refine(HN.out _ a5.out).mono ?_;rintro e w3 ⟨a1,po,F,rfl,a0,P⟩;have a6:=ah a0;have a8:=ah P;have ad:=l.out _ (D.out.trans (a1.mono D.out.size));clear a1 a0 P))
    by_cases z:F=0
    . have I:Hid (erV F=.nilIface):=by unfold Hid;rw[z,aN]
      rw[I.out];have x:=ah (K.out _ _ (a8.out z));go_wp2
      go_ret
      exact x.out
    . have I:Hid (erV F=.iface 96 (.int .i64 F)):=bJ z
      rw[I.out];have x:=ah (K.out _ _ (a6.out z));go_wp2
      go_ret
      exact x.out
def O9{s:SV}{d:aP}(h:newF s d=0):d.kind≠0:=by
 unfold newF at h;split at h
 .omega
 .split at h
  .cases h
  .split at h
   .cases h
   .rcases Dz h with e|e|e<;>omega
def EG{s:SV}{d:aP}:lF s d=true↔¬(d.kind=2/\s.back d.root=d.file)/\newF s d=0:=by
 unfold lF;rw[decide_eq_true_eq];exact⟨λh=>h.2,λh=>⟨O9 h.2,h⟩⟩
def Qc{w W f:ω}{c m:Nat}{Y:Yh}{d:Nat->DV}{t:DV}{v:υ}(J:aB W c Y (xU d t))(r:∀ b,fpY c Y (xU d t) b->w.heap.size<=b)(R:w.heap.size<=W.heap.size)(P:Y.jb.a=none)
  (M:pR (W.setCell ⟨c,11,none⟩ (.int .i64 (ak t).root)) c m Y (aK d) (ak t) v f) :
  (∃ u,f.cell? ⟨c,12,none⟩=some u)/\f.frozen? ⟨c,12,none⟩=false/\∃ y,aB (f.setCell ⟨c,12,none⟩ v) c y (jF d t)/\(∀ b,fpY c y (jF d t) b->w.heap.size<=b)/\(∀ g o,y.jb.a=some ⟨g,o,none⟩->w.heap.size<=g/\g<(f.setCell ⟨c,12,none⟩ v).heap.size):=by
 obtain⟨B,_⟩:=J.vN (ak t);obtain⟨A,Q⟩:=M;have n:=B.below A;obtain⟨_,_,_,_,K,L⟩:=n.blk.cells;have q:(W.setCell ⟨c,11,none⟩ (.int .i64 (ak t).root)).heap.size=W.heap.size:=by simp[World.setCell]
 refine⟨⟨_,K⟩,L 12,?_⟩;rcases Q with⟨D,rfl⟩|⟨G,F,b,C,rfl,z,i⟩
 .have l  := λe=>D (EG.1 e)
  have s:(jF d t).j=none:=by show(if lF (aK d) (ak t)=true then _ else none)=none;rw[if_neg l]
  have x:(jF d t).kd.root=(ak t).root:=by show(if lF (aK d) (ak t)=true then ak t else aj _).root=_;rw[if_neg l];rfl
  obtain⟨N,_⟩:=n.own  (Kept.setCell (S:=λk=>k=c)  (Kept.refl _ f) (.inl rfl) _) (by have:=n.blk.yL Y.jb (.pointer none);exact this)
  refine⟨Y,N.re rfl rfl rfl s x,λb O=>r b ?_,λg o e=>by rw[P] at e;cases e⟩
  rcases O with e|e|e|e
  .exact .inl e
  .exact .inr (.inl e)
  .exact .inr (.inr (.inl e))
  .exact absurd s e.1
 .have l  := EG.2 ⟨G,F⟩
  have s:(jF d t).j=some (gI (aK d) (ak t)):=by show(if lF (aK d) (ak t)=true then some _ else none)=_;rw[if_pos l]
  have x:(jF d t).kd.root=(ak t).root:=by show(if lF (aK d) (ak t)=true then ak t else aj _).root=_;rw[if_pos l]
  obtain⟨I,U⟩:=B.started A z i n (Moved.of_below (ja0 _ _));refine⟨{Y with jb:=b},I.re rfl rfl rfl s x,λk E=>?_,λg o e=>?_⟩
  .rcases E with e|e|e|e
   .exact r k (.inl e)
   .exact r k (.inr (.inl e))
   .exact r k (.inr (.inr (.inl e)))
   .rcases e.2 with e|e|e
    .have:=i.1;rw[q] at this;rw[e];show w.heap.size<=b.jp;omega
    .have:=i.2.1;rw[q] at this;rw[e];show w.heap.size<=b.lp;omega
    .have:=i.2.2.1;rw[q] at this;rw[e];show w.heap.size<=b.bp;omega
  .have H:=i.2.2.2 g o e
   rw[q] at H;have T:=z.nums.lt z.ok.ne e;have V:(f.setCell ⟨c,12,none⟩ b.jp).heap.size=f.heap.size:=by simp[World.setCell]
   omega
