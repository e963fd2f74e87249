/- A new job of the document's answer, of whatever desk. -/
import Derived.Test.YtbohmhacdgckgaaGreatDoorQORyP6
set_option linter.all false
set_option maxHeartbeats 4000000
set_option maxRecDepth 100000
namespace Go.Proofs.YtbohmhacdgckgaaGreatDoor
open Go.RowKit renaming Below->β
open Go renaming World->ω, Value->υ, Calls->κ
open Option renaming none->O, some->S
open Go.Proofs.Tryz Go.RowKit Go.Maps
attribute [local go_sem ↓] Go.wp_at_zero Go.wp_at_succ
def BD{c m:Nat}{qs:Nat->Qh}{s:SV}(d:aP)(w:ω)(h:bG w c qs s m) :
  κ prog 83 #[c,.agg #[d.root,d.kind,d.file,d.rate,d.burst]] w (nC w c m qs s d):=by
 by_cases a:(s.walk d.root).2≠0\/(s.walk d.root).1=[]\/(S4.inB d.rate 1000&&S4.inB d.burst 1000)=false
 .refine(Sm d w h a).mono λe i ⟨f,g⟩=>⟨g,.inl ⟨?_,f⟩⟩
  unfold newF;rcases a with a|a|a
  .omega
  .split
   .omega
   .omega
  .split
   .omega
   .omega
 .have b:(S4.inB d.rate 1000&&S4.inB d.burst 1000)=true:=by
   simp_all
  rw[jaS] at b;exact Sr d w h (jai λe=>a (.inl e)) (λe=>a (.inr (.inl e))) b.1 b.2
def AX(s:SV)(d:aP):0<=newF s d:=by
 unfold newF;split
 .exact(s.walk_good _).2.2.1
 .split
  .decide
  .split
   .decide
   .unfold jX oh
    split
    .split
     .decide
     .omega
    .omega
def aC.started{w x q:ω}{d m C:Nat}{Z f:Zh}{y z:YV}{b:Zj}{j:JV}(h:aC w d Z y)(F:β w w x)(l:RJ x Z.sp b.xp b.a b.cap Z.qs y.s m C j j.state)(G:w.heap.size<=b.xp/\∀ g o,b.a=some ⟨g,o,O⟩->w.heap.size<=g)
  (t:aC q d f z) (B:nS Z f) (i:Moved (fpZ d Z y) x (fpZ d f z) q) :
  aC (q.setCell ⟨d,13,O⟩ b.xp) d {f with jb:=b} {z with j:=some j}/\Moved (fpZ d Z y) w (fpZ d {f with jb:=b} {z with j:=some j}) (q.setCell ⟨d,13,O⟩ b.xp):=by
 obtain⟨H,r⟩:=G;have n:∀ k,w.heap.size<=k->¬fpZ d Z y k:=λk K e=>by have:=h.fF e;omega
 have A  := l.ok.ne;have E:bK q b.xp f.sp b.a b.cap j j.state:=by rw[B.sp];exact l.job.keep (i.block l.job.lt (n _ H))
 have I:Apart b.a (fpZ d {f with jb:=b} {z with j:=some j}):=λg o e c=>by
  have u:=l.nums.lt A e;rcases c with c|c|c|c|⟨_,c⟩
  .exact i.out u (n g (r g o e)) (.inl c)
  .exact i.out u (n g (r g o e)) (.inr (.inl c))
  .exact i.out u (n g (r g o e)) (.inr (.inr (.inl c)))
  .exact i.out u (n g (r g o e)) (.inr (.inr (.inr (.inl c))))
  .exact l.ap g o e (.inr c)
 have J:Apart _ (fpZ d {f with jb:=b} {z with j:=some j}):=λg o e c=>by
  rcases c with c|c|c|c|⟨_,c⟩
  .exact t.list.2.2 g o e (.inl c)
  .exact t.list.2.2 g o e (.inr (.inl c))
  .exact t.list.2.2 g o e (.inr (.inr (.inl c)))
  .exact t.list.2.2 g o e (.inr (.inr (.inr (.inl c))))
  .have L:g=b.xp:=c
   have:=h.list.2.1 g o (B.la.symm.trans e)
   omega
 refine⟨t.vM E (l.nums.moved i (λg o e=>n g (r g o e))) A l.cap I J,?_⟩
 have v  := (Moved.of_below F).trans i;refine⟨v.kept.trans ((Kept.setCell (S:=λk=>k=d)  (Kept.refl _ q) (.inl rfl) _).mono ?_),λk D=>?_⟩
 .rintro k _ rfl;exact .inl rfl
 .rcases D with c|c|c|c|⟨_,c⟩
  .exact .inl (.inl c)
  .exact v.new k (.inr (.inl c))
  .exact v.new k (.inr (.inr (.inl c)))
  .exact v.new k (.inr (.inr (.inr (.inl c))))
  .simp_all
def Xc{n C m:Nat}{Z:Zh}{y:YV}(kind file A x:Int)(w:ω)(h:aC w n Z y)(I:YOk y C m)(hm:m<1000000000) :
    κ prog 52 #[n,kind,file,A,x] w λe r=>e=.returned (y.iU (jH y kind file A x))/\jK n Z y (y.start (jH y kind file A x)) w r:=by
  have l:=ah (qW w h);have R:=ah λW (k:β w w W)=>(aF.below h k).out
  by_cases k:y.busy=true
  . rw[k] at l
    have P:y.kU (jH y kind file A x)=8:=by unfold YV.kU;rw[if_pos k]
    have i:y.iU (jH y kind file A x)=8:=by unfold YV.iU;rw[P];rfl
    have f:y.start (jH y kind file A x)=y:=by unfold YV.start;rw[P];rfl
    have E:=ah (R.out w (ja0 _ _));rw[i,f];clear h I k P i f R;go_enter func52,ntmps52
    go_wp2_with fail
    refine cSt l.out ?_;clear l;go_wp2
    go_ret
    exact⟨rfl,E.out⟩
  . rw[show y.busy=false by simpa using k] at l
    by_cases O:kind=0
    . have P:y.kU (jH y kind file A x)=1:=by unfold YV.kU;rw[if_neg k,if_pos (show(jH y kind file A x).kind=0 from O)]
      have i:y.iU (jH y kind file A x)=1:=by unfold YV.iU;rw[P];rfl
      have f:y.start (jH y kind file A x)=y:=by unfold YV.start;rw[P];rfl
      have E:=ah (R.out w (ja0 _ _));have g1:(kind==0)=true:=by simpa using O
      rw[i,f];clear h I k P i f R O;go_enter func52,ntmps52
      go_wp2_with fail
      refine cSt l.out ?_;clear l;go_wp2
      go_ret
      exact⟨rfl,E.out⟩
    . have g1:(kind==0)=false:=by simpa using O
      obtain⟨_,_,c6,c7,_,_,_,_,_,_,_⟩:=h.blk.cells;obtain⟨d,hd⟩:∃ d:aP,d=jH y kind file A x:=⟨_,rfl⟩;have a4:d.root=y.kd.root:=by rw[hd];rfl
      have u:Hid (β w w (w.alloc (bF d))):=(ja0 _ _).alloc (ja1 _) _;have M:=ah (sZ d w);have B:Hid (∀ W:ω,β (w.alloc (bF d)).heap.size (w.alloc (bF d)) W->W.cell? ⟨n,6,none⟩=some (Z.sp:υ)/\W.cell? ⟨w,0,none⟩=some (d.root:υ)/\W.cell? ⟨w,1,none⟩=some (d.kind:υ)/\W.cell? ⟨w,2,none⟩=some (d.file:υ)/\W.cell? ⟨w,3,none⟩=some (d.rate:υ)/\W.cell? ⟨w,4,none⟩=some (d.burst:υ)):=λW k=>⟨((h.below u.out).below k).blk.cells.2.2.1,oZ d w W k⟩
      have HI:Hid ((prog.info? 82).map (·.size)=some ([.int .i64 d.root,.int .i64 d.kind,.int .i64 d.file,.int .i64 d.rate,.int .i64 d.burst]:List υ).length):=uq
      have G:Hid (∀ W:ω,κ prog 127 #[.agg #[d.root,d.kind,d.file,d.rate,d.burst]] W λe r=>e=.returned d.kv.fault/\β W W r):=λW=>D5 d.root d.kind d.file d.rate d.burst W
      have q:y.kU d=if d.kv.fault=0 then newF y.s d else d.kv.fault:=by unfold YV.kU;rw[if_neg k,if_neg (by rw[hd];exact O)]
      have Y:kind=d.kind:=by rw[hd];rfl
      have e6:file=d.file:=by rw[hd];rfl
      have e7:A=d.rate:=by rw[hd];rfl
      have e8:x=d.burst:=by rw[hd];rfl
      rw[<- hd];rw[Y,e6,e7,e8];rw[Y] at g1;rw[<- a4] at c7;by_cases L:d.kv.fault=0
      . rw[if_pos L] at q
        rw[L] at G;by_cases K:newF y.s d=0
        . have i:y.iU d=y.aJ:=by unfold YV.iU;rw[if_pos (q.trans K)]
          have f:y.start d=if y.aJ=0 then {y.aA d with j:=some ((gI y.s d).at 1)} else y.aA d:=by unfold YV.start;rw[if_pos (q.trans K)]
          have ad:JOk y.s C (gI y.s d):=(AY I a4 K (st:=2) (.inr (.inl rfl))).ok
          have Q:Hid (∀ W:ω,β w w W->κ prog 83 #[Z.sp,.agg #[d.root,d.kind,d.file,d.rate,d.burst]] W λe r=>∃ b:Zj,e=.returned (.tuple #[b.xp,(0:Int)])/\RJ r Z.sp b.xp b.a b.cap Z.qs y.s m C (gI y.s d) (gI y.s d).state/\(w.heap.size<=b.xp/\∀ g o,b.a=some ⟨g,o,none⟩->w.heap.size<=g)/\β W W r):=λW c=>by
            refine(BD d W ((h.shelf I.s).below c)).mono ?_;rintro e r ⟨a9,⟨hx,_⟩|⟨_,xp,cap,a,rfl,h1,h2,h3⟩⟩
            . exact absurd K hx
            . have hs:=c.size
              exact⟨⟨xp,a,cap⟩,rfl,h3 C ad,⟨ja4 hs h1,λg o e=>ja4 hs (h2 g o e)⟩,a9⟩
          have T:=ah λW (c:β w w W)=>uG d W (h.below c) I.top L hm
          obtain⟨s1,s2,s3,s4⟩:=ny y d
          have a2:Hid (∀(V J:ω) (b:Zj),β w w V->RJ V Z.sp b.xp b.a b.cap Z.qs y.s m C (gI y.s d) (gI y.s d).state->(w.heap.size<=b.xp/\∀ g o,b.a=some ⟨g,o,none⟩->w.heap.size<=g)->aF n Z y (y.aA d) V J ->
              (∃ v,J.cell? ⟨n,13,none⟩=some v)/\J.frozen? ⟨n,13,none⟩=false/\κ prog 128 #[b.xp,false] (J.setCell ⟨n,13,none⟩ b.xp) λe r=>e=.returned (0:Int)/\jK n Z y {y.aA d with j:=some ((gI y.s d).at 1)} w r):=λV J b aa H N ⟨Z1,i,h1,h3⟩=>by
            obtain⟨_,_,_,_,_,_,_,_,_,ac,qf⟩:=h1.blk.cells;obtain⟨h5,h6⟩:=h.started aa H N h1 i h3;refine⟨⟨_,ac⟩,qf 13,?_⟩;have ab:=JA (m:=m) (C:=C) false _ h5 (by show(y.aA d).s.ok m;rw[s1];exact I.s) rfl (by show JOk (y.aA d).s C _;rw[s1];exact H.ok)
            have ep:iH (gI y.s d) false=0:=rfl;rw[ep] at ab;refine ab.mono ?_;rintro e r ⟨rfl,Z2,f,h7,h8⟩;refine⟨rfl,Z2,.inl (f.la.trans i.la),.inr (λg o e=>?_),h7,h6.trans h8⟩
            have e3:b.a=some ⟨g,o,none⟩:=by rw[f.jb] at e;exact e
            have q1:=H.nums.lt H.ok.ne e3;have q2:=h3.size;have q3:=h8.size;have q4:(J.setCell ⟨n,13,none⟩ b.xp).heap.size=J.heap.size:=by simp[World.setCell]
            exact⟨N.2 g o e3,by omega⟩
          rw[i,f];unfold bF at u M B;have a5:=ah λV J (aa:β w w V) (hd:aF n Z y (y.aA d) V J)=>(aF.from aa hd).out
          have ae:=rD y;clear h I k i f q L hd O a4 Y e6 e7 e8 R s1 s2 s3 s4 K ad;generalize ({y.aA d with j:=some ((gI y.s d).at 1)}:YV)=z2 at a2 |-
          generalize y.aA d=z1 at T a2 a5 |-;generalize y.aJ=F at T ae |-;by_cases hF:F=0
          . rw[if_pos hF,hF]
            rw[hF] at T;go_enter func52,ntmps52
            go_wp2_with fail
            refine cSt l.out ?_;clear l;go_wp2_with fail
            refine cEq (G.out _) λX c=>?_
            have a3:=ah (u.out.trans (c.mono u.out.size));have U:=ah (B.out _ c.drew);have z:=ah c.drew;clear c G;go_wp2
            have D:Hid (β w w X.drew):=a3.out.drew
            go_region_held3 (λW=>W.cell? ⟨n,6,none⟩=some (Z.sp:υ)/\W.cell? ⟨w,0,none⟩=some (d.root:υ)/\W.cell? ⟨w,1,none⟩=some (d.kind:υ)/\W.cell? ⟨w,2,none⟩=some (d.file:υ)/\W.cell? ⟨w,3,none⟩=some (d.rate:υ)/\W.cell? ⟨w,4,none⟩=some (d.burst:υ))
              (first|(exact U.out)|assumption)
              (first
                | (go_at_call 83;refine(Q.out _ D.out).mono ?_;rintro e w3 ⟨b,rfl,H,N,t⟩;have S:=ah (D.out.trans (t.mono D.out.size));have a0:=ah (M.out _ (z.out.trans (t.mono z.out.size)));have a6:=ah H;have a7:=ah N;have a8:=B.out _ (z.out.trans (t.mono z.out.size));clear t H N))
            have HK:=ah (T.out _ S.out);clear T Q M B U a8;go_wp2_with (refine wpList_load_mid (by rfl) 82 (.tmp 12) (by rfl) w.heap.size 0 (by rfl) [d.root,d.kind,d.file,d.rate,d.burst] _ a0.out underlying82 rfl HI.out ?_)
            refine cEq HK.out λw4 a1=>?_
            obtain⟨⟨v,ac⟩,qf,hp⟩:=a2.out w3 w4 b S.out a6.out a7.out a1;have HP:=ah hp;clear a1 hp HK a2 a6 a7 a5 a0;go_wp2_with fail
            refine cHd HP.out λw5 E=>?_
            clear HP;go_wp2
            go_ret
            exact⟨rfl,E.out⟩
          . rw[if_neg hF]
            have gF:decide (0<F)=true:=decide_eq_true (by omega)
            go_enter func52,ntmps52
            go_wp2_with fail
            refine cSt l.out ?_;clear l;go_wp2_with fail
            refine cEq (G.out _) λX c=>?_
            have a3:=ah (u.out.trans (c.mono u.out.size));have U:=ah (B.out _ c.drew);have z:=ah c.drew;clear c G;go_wp2
            have D:Hid (β w w X.drew):=a3.out.drew
            go_region_held3 (λW=>W.cell? ⟨n,6,none⟩=some (Z.sp:υ)/\W.cell? ⟨w,0,none⟩=some (d.root:υ)/\W.cell? ⟨w,1,none⟩=some (d.kind:υ)/\W.cell? ⟨w,2,none⟩=some (d.file:υ)/\W.cell? ⟨w,3,none⟩=some (d.rate:υ)/\W.cell? ⟨w,4,none⟩=some (d.burst:υ))
              (first|(exact U.out)|assumption)
              (first
                | (go_at_call 83;refine(Q.out _ D.out).mono ?_;rintro e w3 ⟨b,rfl,H,N,t⟩;have S:=ah (D.out.trans (t.mono D.out.size));have a0:=ah (M.out _ (z.out.trans (t.mono z.out.size)));have a6:=ah H;have a7:=ah N;have a8:=B.out _ (z.out.trans (t.mono z.out.size));clear t H N))
            have HK:=ah (T.out _ S.out);clear T Q M B U a8;go_wp2_with (refine wpList_load_mid (by rfl) 82 (.tmp 12) (by rfl) w.heap.size 0 (by rfl) [d.root,d.kind,d.file,d.rate,d.burst] _ a0.out underlying82 rfl HI.out ?_)
            refine cEq HK.out λw4 a1=>?_
            have E:=ah (a5.out _ _ S.out a1);clear a1 HK a2 a6 a7 a5 a0;go_wp2
            go_ret
            exact⟨rfl,E.out⟩
        . have i:y.iU d=newF y.s d:=by unfold YV.iU;rw[if_neg (λe=>K (q.symm.trans e)),q]
          have f:y.start d=y:=by unfold YV.start;rw[if_neg (λe=>K (q.symm.trans e))]
          have Q:Hid (∀ W:ω,β w w W->κ prog 83 #[Z.sp,.agg #[d.root,d.kind,d.file,d.rate,d.burst]] W λe r=>e=.returned (.tuple #[.pointer none,newF y.s d])/\β W W r):=λW c=>by
            refine(BD d W ((h.shelf I.s).below c)).mono ?_;rintro e r ⟨a9,⟨_,rfl⟩|⟨hx,_⟩⟩
            . exact⟨rfl,a9⟩
            . exact absurd hx K
          rw[i,f];have gN:decide (0<newF y.s d)=true:=decide_eq_true (by have:=AX y.s d;omega)
          unfold bF at u M B;clear h I k i f q L hd O a4 Y e6 e7 e8;generalize newF y.s d=nf at Q K gN;go_enter func52,ntmps52
          go_wp2_with fail
          refine cSt l.out ?_;clear l;go_wp2_with fail
          refine cEq (G.out _) λX c=>?_
          have a3:=ah (u.out.trans (c.mono u.out.size));have U:=ah (B.out _ c.drew);have z:=ah c.drew;clear c G M HI;go_wp2
          have D:Hid (β w w X.drew):=a3.out.drew
          go_region_held3 (λW=>W.cell? ⟨n,6,none⟩=some (Z.sp:υ)/\W.cell? ⟨w,0,none⟩=some (d.root:υ)/\W.cell? ⟨w,1,none⟩=some (d.kind:υ)/\W.cell? ⟨w,2,none⟩=some (d.file:υ)/\W.cell? ⟨w,3,none⟩=some (d.rate:υ)/\W.cell? ⟨w,4,none⟩=some (d.burst:υ))
            (first|(exact U.out)|assumption)
            (first
              | (go_at_call 83;refine cEq (Q.out _ D.out) λw3 t=>?_;have S:=ah (D.out.trans (t.mono D.out.size));have a8:=B.out _ (z.out.trans (t.mono z.out.size));clear t))
          have E:=ah (R.out _ S.out);go_wp2
          go_ret
          exact⟨rfl,E.out⟩
      . rw[if_neg L] at q
        have i:y.iU d=d.kv.fault:=by unfold YV.iU;rw[if_neg (λe=>L (q.symm.trans e)),q]
        have f:y.start d=y:=by unfold YV.start;rw[if_neg (λe=>L (q.symm.trans e))]
        have gf:decide (0<d.kv.fault)=true:=decide_eq_true (by
          have:d.kv.fault=0\/0<d.kv.fault:=by
            unfold KV.fault;split
            . split
              . exact .inl rfl
              . exact .inr (by decide)
            . exact .inr (by decide)
          omega)
        rw[i,f];unfold bF at u;clear h I k i f q hd O a4 Y e6 e7 e8 HI M B;generalize d.kv.fault=ff at G L gf;go_enter func52,ntmps52
        go_wp2_with fail
        refine cSt l.out ?_;clear l;go_wp2_with fail
        refine cEq (G.out _) λX c=>?_
        have E:=ah (R.out _ (u.out.trans (c.mono u.out.size)));clear c G;go_wp2
        go_ret
        exact⟨rfl,E.out⟩
def TA{sp m cap C n:Nat}{A:Nat->Qh}{s:SV}{a:Option Addr}(l:List Int)(fr:Int)(w:ω)(h:bG w sp A s m)(hl:Nums w a l)(Y:s.good (C:Int) l)(h5:l.length<=100)(hC:C<=40)(ha:Apart a (fpQ A s))(hm:m+3000<1000000000)(b0 : -9223372036854775808<=fr/\fr<=9223372036854775807)(hn:n<=200) :
    κ prog 115 #[sp,.slice a l.length cap,fr,.string (dY (n*16)),true] w (bH w sp A s (m+2000) (s.wipe l fr (n:Int))):=by
  have ap:(dY (n*16)).size=n*16:=by show(List.replicate (n*16) (0:UInt8)).toArray.size=_;simp
  generalize dY (n*16)=t at ap |-;have b1:(t.size:Int) / 16=(n:Int):=by omega
  have P:=ah (vJ (cap:=cap) l fr (n:Int) w h hl Y (by omega) b0)
  by_cases T:s.aW l fr (n:Int)=0
  . obtain⟨J,n0,n1,n2⟩:=SV.mO Y T
    obtain⟨f,rfl⟩:∃ f:Nat,fr=(f:Int):=⟨fr.toNat,by omega⟩
    have HR:Hid (s.wipe l (f:Int) (n:Int)=jC (SV.dI l) s (aV f n 0)):=by unfold Hid SV.wipe;rw[if_pos T];rfl
    rw[T] at P;generalize s.wipe l (f:Int) (n:Int)=R at HR |-;have ax:Hid (∀(s:SV) p,s.good (C:Int) l->(SV.dI l s p).1.good (C:Int) l):=λs p Y=>Y.dI l p
    have bg:Hid (∀ b:ω,β w w b->lN b sp A s m (C:Int) l (SV.dI l) f n R 0 A s b):=λb u=>⟨h.below u,Y,HR.out.symm,jr.refl _ _ _,ja5 _⟩
    have aq:0<l.length:=List.length_pos_iff.2 J
    have an:Hid (∀(b wr W:ω) (d:Nat->Qh) (z:SV) (k:Nat),k<n->β w w b->lN b sp A s m (C:Int) l (SV.dI l) f n R k d z wr->β wr wr W ->
        κ prog 180 #[sp,.slice a l.length cap,((aG f n k).c:Int),((aG f n k).f:Int),.string (dY ((aG f n k).n*16))] W (bH W sp d z (m+10*k+10) (z.lay l (aG f n k).c (aG f n k).f (dY ((aG f n k).n*16))))):=λb wr W d z k D O j u=>by
      have a4:=xO (C:=C) D (by omega:f+n<=4*C)
      have a9:Nums W a l:=((hl.below O).moved j.moved.toMoved (λg o e=>ha g o e)).below u
      have b5:(dY ((aG f n k).n*16)).size=(aG f n k).n*16:=by show(List.replicate ((aG f n k).n*16) (0:UInt8)).toArray.size=_;simp
      exact GR l (aG f n k).c (aG f n k).f _ W (j.shelf.below u) a9 j.good J h5 (by omega) (by rw[b5];have:=a4.n4;omega) (by have:=a4.c;omega)
    have bd:Hid (∀(b wr:ω) (d:Nat->Qh) (z:SV) (k:Nat),k<n->β w w b->lN b sp A s m (C:Int) l (SV.dI l) f n R k d z wr ->
        ∃(g o x:Nat) (v:IV) (g2 a7:Nat),a=some ⟨g,o,none⟩/\x<5/\wr.cell? ⟨g,o,none⟩=some (.int .i64 (x:Int))/\wr.cell? ⟨sp,x,none⟩=some ((d x).p:υ)/\wr.cell? ⟨(d x).p,4,none⟩=some (.slice (some ⟨g2,0,none⟩) v.t.length a7)/\(aG f n k).c<v.t.length/\wr.cell? ⟨g2,(aG f n k).c*2,none⟩=some (.int .i64 (v.bC (aG f n k).c).1) /\
        (SV.dI l z (aG f n k)=if (aG f n k).n=4 then (z.upd x (v.clear (aG f n k).c),v.fB (aG f n k).c) else if (v.bC (aG f n k).c).1=1 then (z,0) else z.lay l (aG f n k).c (aG f n k).f (dY ((aG f n k).n*16))) /\
        (∀ W:ω,β wr wr W->κ prog 181 #[(d x).p,((aG f n k).c:Int)] W (bH W sp d z (m+10*k+10) (z.upd x (v.clear (aG f n k).c),v.fB (aG f n k).c)))/\¬fpQ d z g/\¬fpQ d z sp):=λb wr d z k D O j=>by
      have a4:=xO (C:=C) D (by omega:f+n<=4*C)
      have a9:Nums wr a l:=(hl.below O).moved j.moved.toMoved (λg o e=>ha g o e)
      obtain⟨g,o,x,v,e1,hx,x5,hf,bm,ae,a6,hi,aw⟩:=j.shelf.numAt a9 j.good aq;have bb:((x:Int)).toNat=x:=by omega
      have a3:(aG f n k).c<v.t.length:=by have:=aw.len;have:=a4.c;omega
      obtain⟨g2,a7,aM,bo,e0,_⟩:=hi.jA a3;have e4:=hi.cells.2.2.2.2.1;rw[aM] at e4;have bc:v.there ((aG f n k).c:Int)=true:=decide_eq_true ⟨by omega,by omega⟩
      have b8:(v.bC (aG f n k).c).1=(v.t.getD (aG f n k).c (0,0)).1:=by unfold IV.bC;rw[bc,if_pos rfl];rfl
      refine⟨g,o,x,v,g2,a7,e1,x5,ae,a6,e4,a3,by rw[b8];exact e0,?_,λW u=>?_,(Apart.moved ha (hl.below O) J j.moved.toMoved) g o e1,j.shelf.rP⟩
      . cases l with
        | nil=>exact absurd rfl J
        | cons y r =>
          have Q:y=(x:Int):=hx;subst Q;show(match z.file (x:Int) with|none=>(z,(4:Int))|some v=>_)=_
          rw[hf];rfl
      . have:=Gn ((aG f n k).c:Int) W (j.shelf.below u) hf (by omega)
        rw[bb] at this;exact this
    have b6:Hid (∀(k:Nat) (W:ω),k<n->κ prog 43 #[(16*((aG f n k).n:Int):Int)] W λe w'=>e=.returned (.string (dY ((aG f n k).n*16)))/\β W W w'):=λk W D=>by
      have j:=nV (fr:=f) D;have:=xQ ((aG f n k).n*16) W (by omega)
      rw[show((((aG f n k).n*16:Nat)):Int)=16*((aG f n k).n:Int) by omega] at this;exact this
    have aR:=ah λk (D:k<n)=>FC f n k D
    have b7:Hid (∀ k,k<n->1<=(aG f n k).n/\(aG f n k).f+(aG f n k).n<=4/\k+(aG f n k).n<=n):=λk D=>nV D
    have ag:=ah λb w' R e (u:β w w b) (hd:bH b sp A s (m+2000) R e w')=>bH.from hd u
    have ba:(0:Int)<(l.length:Int):=by omega
    generalize hq:l.length=q at P an aq ba |-;go_enter func115,ntmps115
    go_wp2_with fail
    refine cEq P.out λb O=>?_
    have a1:=ah O;have av:=ah (bg.out b O);go_wp2
    go_loopw [13] (λi wr=>∃(k:Nat) (d:Nat->Qh) (z:SV),i=.int .i64 (k:Int)/\lN b sp A s m (C:Int) l (SV.dI l) f n R k d z wr) (λi _=>n-(intOf i).toNat)
    case atStart=>exact⟨0,A,s,rfl,av.out⟩
    case round =>
      obtain⟨k,d,z,rfl,j⟩:=hrel;have bk:=j.le;by_cases G:k<n
      . have N:=ah (λW u=>an.out b wr W d z k G a1.out j u)
        obtain⟨g,o,x,v,g2,a7,rfl,x5,ae,a6,e4,a3,e0,bf,b3,b4,be⟩:=bd.out b wr d z k G a1.out j;have al:=ah b3;have ad:=ah (λW=>b6.out k W G)
        obtain⟨i1,i2,i3,_⟩:=aR.out k G;obtain⟨p1,p2,p3⟩:=b7.out k G;have ar:=ah i3;have X:=ah λW e E (u:β wr wr W) (hd:bH W sp d z (m+10*k+10) (SV.dI l z (aG f n k)) e E) (J:(SV.dI l z (aG f n k)).2=0)=>j.step u G ax.out hd J
        have a8:Hid (∀ W e E,β wr wr W->bH W sp d z (m+10*k+10) (SV.dI l z (aG f n k)) e E->(SV.dI l z (aG f n k)).2≠0->R=SV.dI l z (aG f n k)/\bH b sp A s (m+2000) R e E):=λW e E u hd J=>j.stop u G (by omega) hd J
        have a5:Hid (∀ W:ω,β wr wr W->bH W sp d z (m+10*k+10) (z,0) (.returned (0:Int)) W):=λW u=>bH.same ((j.shelf.below u).more (by omega)) (ja0 _ _)
        have af:=ah (I4 l z (aG f n k));have H:=ah bf;generalize SV.dI l z (aG f n k)=Z at X a8 af H;generalize z.lay l (aG f n k).c (aG f n k).f (dY ((aG f n k).n*16))=ZL at N H;generalize dY ((aG f n k).n*16)=NB at N ad;generalize bj:(aG f n k).n=B at N X ar p1 p2 p3 ad H;generalize bh:(aG f n k).f=pf at N i2 p2;generalize bn:(aG f n k).c=I at N i1 a3 e0 H al;have bl:(0:Int)<=(f:Int)+(k:Int):=by omega
        have k1:IntKind.i64.wrap ((f:Int)+(k:Int))=(f:Int)+(k:Int):=ja7 _ (by omega)
        have k2:(0:Int)<=((f:Int)+(k:Int)) % 4:=by omega
        have k4:min (4-(pf:Int)) ((n:Int)-(k:Int))=(B:Int):=by rw[i2];exact ar.out.symm
        have j1:((f:Int)+(k:Int)) / 4=(I:Int):=i1.symm;have j2:((f:Int)+(k:Int)) % 4=(pf:Int):=i2.symm;have k5:IntKind.i64.wrap (16*(B:Int))=16*(B:Int):=ja7 _ (by omega)
        have k6:IntKind.i64.wrap ((k:Int)+(B:Int))=(k:Int)+(B:Int):=ja7 _ (by omega)
        have q0:(0:Int)<=(I:Int):=by omega
        have q1:(I:Int)<(v.t.length:Int):=by omega
        have q2:((I:Int)).toNat=I:=by omega
        have x0:(0:Int)<=(x:Int):=by omega
        have x1:(x:Int)<5:=by omega
        generalize (v.bC I).1=y at e0 H;generalize v.t.length=tl at e4 q1 a3;generalize (d x).p=xp at a6 e4 al;clear ap b1 i1 i2;have K:Hid (β wr wr wr.drew):=(ja0 _ _).drew;have d1:wr.drew.cell? ⟨g,o,none⟩=some (.int .i64 (x:Int)):=ae;have d2:wr.drew.cell? ⟨sp,x,none⟩=some (xp:υ):=a6;by_cases h4:B=4
        . have g4:((B:Int)==4)=true:=by simp;omega
          have S:Hid (Z=(z.upd x (v.clear I),v.fB I)):=by unfold Hid;rw[H.out,if_pos h4]
          have am:=ah (al.out _ K.out);rw[<- S.out] at am;go_wp2
          go_region_held3 (λW=>W.cell? ⟨g,o,none⟩=some (.int .i64 (x:Int))/\W.cell? ⟨sp,x,none⟩=some (xp:υ))
            (first|(exact⟨d1,d2⟩)|assumption)
            (first
              | (go_at_call 181;refine am.out.mono ?_;rintro e E hd;have ab:=hd;obtain⟨b9,rfl,_,h3⟩:=ab;have bi:E.cell? ⟨g,o,none⟩=some (.int .i64 (x:Int))/\E.cell? ⟨sp,x,none⟩=some (xp:υ):=⟨(h3.cell (p:=⟨g,o,none⟩) (ja2 _ _ d1) b4).trans d1,(h3.cell (p:=⟨sp,x,none⟩) (ja2 _ _ d2) be).trans d2⟩;clear h3))
          rw[qI];by_cases L:Z.2=0
          . obtain⟨V,z2,a0⟩:=X.out _ _ _ K.out hd L
            have U:=ah a0;rw[L];go_wp2
            go_roundw
            case rel =>
              exact⟨k+B,V,z2,by go_num,U.out⟩
            case measure=>simp[intOf];omega
          . obtain⟨b2,ai⟩:=a8.out _ _ _ K.out hd L
            have a2:=ah (ag.out _ _ _ _ a1.out ai);have ac:0<Z.2:=by have:=af.out;omega
            generalize Z.2=fz at ac a2 |-;go_wp2
            go_ret
            exact a2.out
        . have g4:((B:Int)==4)=false:=by simp;omega
          by_cases Q:y=1
          . have gy:(y != 1)=false:=by simpa using Q
            have S:Hid (Z=(z,0)):=by unfold Hid;rw[H.out,if_neg h4,if_pos Q]
            have ao:=a5.out _ K.out;rw[<- S.out] at ao;obtain⟨V,z2,a0⟩:=X.out _ _ _ K.out ao (by rw[S.out])
            have U:=ah a0;go_wp2
            go_region
            go_wp2
            go_roundw
            case rel =>
              exact⟨k+B,V,z2,by go_num,U.out⟩
            case measure=>simp[intOf];omega
          . have gy:(y != 1)=true:=by simpa using Q
            have S:Hid (Z=ZL):=by unfold Hid;rw[H.out,if_neg h4,if_neg Q]
            rw[<- S.out] at N;go_wp2
            go_region
            go_wp2_with fail
            refine cEq (ad.out _) λE aE=>?_
            have aa:=ah (K.out.trans (aE.mono K.out.size));have aL:=ah (N.out _ aa.out);go_wp2_with fail
            refine aL.out.mono ?_;rintro e w3 hd;have ab:=hd;obtain⟨b9,rfl,_,_⟩:=ab;rw[qI];by_cases L:Z.2=0
            . obtain⟨V,z2,a0⟩:=X.out _ _ _ aa.out hd L
              have U:=ah a0;rw[L];go_wp2
              go_roundw
              case rel =>
                exact⟨k+B,V,z2,by go_num,U.out⟩
              case measure=>simp[intOf];omega
            . obtain⟨b2,ai⟩:=a8.out _ _ _ aa.out hd L
              have a2:=ah (ag.out _ _ _ _ a1.out ai);have ac:0<Z.2:=by have:=af.out;omega
              generalize Z.2=fz at ac a2 |-;go_wp2
              go_ret
              exact a2.out
      . have HD:=ah (ag.out _ _ _ _ a1.out (j.fin G (M:=m+2000) (by omega)))
        go_wp2
        go_ret
        exact HD.out
  . have HR:Hid (s.wipe l fr (n:Int)=(s,s.aW l fr (n:Int))):=by unfold Hid SV.wipe;rw[if_neg T]
    have a5:Hid (∀ W:ω,β w w W->bH w sp A s (m+2000) (s,s.aW l fr (n:Int)) (.returned (s.aW l fr (n:Int))) W):=λW u=>bH.same (h.more (by omega)) u
    have aD:=wL T;rw[HR.out];generalize s.aW l fr (n:Int)=F at P a5 T aD |-;generalize l.length=q at P |-;go_enter func115,ntmps115
    go_wp2_with fail
    refine cEq P.out λwA az=>?_
    have HD:=ah (a5.out _ az);go_wp2
    go_ret
    exact HD.out
def QC(n x:Nat)(i:Int):S4.eY n (S4.eY n x i true) i true=S4.eY n x i true:=by
 refine jbp λj=>?_
 rw[S4.yc,S4.yc]
 simp_all
def LD(j:JV)(c:Int):dW (dW j c) c=dW j c:=by
 by_cases h:j.kind=2\/4<=j.stage
 .have e:dW j c=j:=by unfold dW;rw[if_pos h]
  rw[e,e]
 .have e:dW j c=j.put (S4.eY j.n j.x c true):=by unfold dW;rw[if_neg h]
  rw[e];unfold dW;rw[if_neg (show ¬((j.put (S4.eY _ _ c _)).kind=2\/4<=(j.put (S4.eY _ _ c _)).stage) from h)]
  show {j with x:=_}={j with x:=_}
  congr 1
  exact QC _ _ _
def kM(j:JV)(a:Nat):Nat->JV
 | 0=>j
 | k+1=>dW (kM j a k) ((a+k:Nat):Int)
def LG(j:JV)(fr:Nat):∀ n,iC j fr (n+1)=kM j (fr / 4) ((fr+n) / 4-fr / 4+1):=by
 intro n
 induction n with
 | zero =>
  show dW j (((fr+0) / 4:Nat):Int)=_
  rw[jaI,Nat.sub_self];show _=dW j ((fr / 4+0:Nat):Int)
  simp_all
 | succ n a =>
  show dW _ (((fr+(n+1)) / 4:Nat):Int)=_
  rw[a];by_cases h:(fr+(n+1)) / 4=(fr+n) / 4
  .rw[h]
   show dW (dW _ ((fr / 4+((fr+n) / 4-fr / 4):Nat):Int)) _=dW _ ((fr / 4+((fr+n) / 4-fr / 4):Nat):Int)
   rw[show fr / 4+((fr+n) / 4-fr / 4)=(fr+n) / 4 by omega,LD]
  .have e:(fr+(n+1)) / 4=(fr+n) / 4+1:=by omega
   rw[e,show(fr+n) / 4+1-fr / 4=((fr+n) / 4-fr / 4)+1 by omega]
   show _=dW _ ((fr / 4+((fr+n) / 4-fr / 4+1):Nat):Int)
   rw[show fr / 4+((fr+n) / 4-fr / 4+1)=(fr+n) / 4+1 by omega]
def LH{j:JV}(h:4<=j.stage)(fr:Nat):∀ n,iC j fr n=j:=by
 intro n
 induction n with
 | zero=>rfl
 | succ n a =>
  show dW _ _=j
  unfold dW
  simp_all
def QK{xp g cap:Nat}{a:Option Addr}{j:JV}(c:Int)(w:ω)(h:bK w xp g a cap j j.state)(i:4<=j.stage) :
  κ prog 116 #[xp,c] w λe f=>e=.returned (.tuple #[])/\f=w:=by
 obtain⟨_,c2,_,_,_,_,d,_,_⟩:=h.cells;have b:decide (j.state<4)=false:=decide_eq_false (λe=>by have:=JV.Iq.1 e;omega)
 generalize j.state=st at d b;go_enter func116,ntmps116
 go_wp2
 go_end0
 exact⟨rfl,rfl⟩
def WU{d m C:Nat}{Z:Zh}{y:YV}{j:JV}(c:Int)(w:ω)(h:aC w d Z y)(k:y.s.ok m)(a:y.j=S j)(f:j.stage<4->JOk y.s C j) :
  κ prog 116 #[Z.jb.xp,c] w λe b=>e=.returned (.tuple #[])/\aF d Z y {y with j:=S (dW j c)} w b:=by
 by_cases i:4<=j.stage
 .refine(QK c w (h.job j a).1 i).mono ?_
  rintro e b ⟨rfl,rfl⟩;have e:dW j c=j:=by unfold dW;simp_all
  rw[e,<- a];exact⟨rfl,aF.refl h⟩
 .exact(QJ c w (h.rj k a (f (by omega)))).mono λ_ _ ⟨l,g⟩=>⟨l,h.wX a (ja0 _ _) g (by unfold dW;split<;>rfl)⟩
def aC.listed{w:ω}{b:Nat}{Z:Zh}{y:YV}(h:aC w b Z y):Nums w Z.la y.l/\Apart Z.la (fpQ Z.qs y.s) :=
 ⟨h.list.1,λg o e a=>h.list.2.2 g o e (.inr (.inr (.inl (h.inS a))))⟩
def JD{a C m:Nat}{Z:Zh}{y:YV}(fr:Int)(t:ByteArray)(wipe:Bool)(w:ω)(h:aC w a Z y)(i:YOk y C m)(J:C<=40)(z : -9223372036854775808<=fr/\fr<=9223372036854775807)(K:t.size<=10000)(o:¬(t.size % 16=0/\y.s.aW y.l fr ((t.size / 16:Nat):Int)=0)) :
    κ prog 41 #[a,fr,t,wipe] w λe x=>e=.returned (1:Int)/\aF a Z y y w x:=by
  by_cases A:t.size % 16=0
  . have D  := decide_eq_false (by omega)
    have G:decide (0<(t.size:Int).tmod 16)=false:=decide_eq_false (by rw[jb3 (by omega)];omega)
    obtain⟨n,N⟩:∃ n:Nat,t.size=n*16:=⟨t.size / 16,by omega⟩
    have L:(t.size:Int) / 16=(n:Int):=by omega
    rw[show t.size / 16=n by omega] at o
    have B  := λe=>o ⟨A,e⟩
    have E  := decide_eq_true (wL B);have b:Hid (β w w w.drew):=(ja0 _ _).drew;have d:=ah (vJ (cap:=Z.lc) y.l fr (n:Int) w.drew ((h.shelf i.s).below b.out) (h.listed.1.below b.out) i.ch.good (by omega) z)
    have f:Hid (∀ W:ω,β w w W->W.cell? ⟨a,6,O⟩=S (Z.sp:υ)/\W.cell? ⟨a,12,O⟩=S (.slice Z.la y.l.length Z.lc)):=λW c=>by
      obtain⟨_,_,H,_,_,_,_,_,u,_⟩:=(h.below c).blk.cells;exact⟨H,u⟩
    have I:=ah λW (c:β w w W)=>aF.below h c
    have g:=f.out _ b.out;generalize y.s.aW y.l fr (n:Int)=F at d E;generalize y.l.length=q at d f g;go_enter func41,ntmps41
    go_wp2
    go_region_held3 (λW=>W.cell? ⟨a,6,O⟩=S (Z.sp:υ)/\W.cell? ⟨a,12,O⟩=S (.slice Z.la q Z.lc))
      (first|(exact g)|assumption)
      (first
        | (go_at_call 114;refine cEq d.out λv r=>?_;have j:=ah (b.out.trans (r.mono b.out.size));have M:=f.out v j.out;clear r))
    go_wp2
    go_ret
    exact⟨rfl,(I.out _ j.out)⟩
  . have D:decide (0<(t.size:Int) % 16)=true:=decide_eq_true (by omega)
    have G:decide (0<(t.size:Int).tmod 16)=true:=decide_eq_true (by rw[jb3 (by omega)];omega)
    go_enter func41,ntmps41
    go_wp2
    go_quiet (fail)
    go_wp2
    go_ret
    exact⟨rfl,(λk=>aF.below h (below_drewN (ja0 _ _) k)) _⟩
def JE{a C m M:Nat}{Z:Zh}{y:YV}{R:SV × Int}(f n:Nat)(t:ByteArray)(wipe:Bool)(w:ω)(h:aC w a Z y)(S:YOk y C m)(hC:C<=40)(ht:t.size=n*16)(a1:y.s.aW y.l (f:Int) (n:Int)=0)(ae:f+n<=4*C)
    (a3:∀ W:ω,β w w W->κ prog 115 #[Z.sp,.slice Z.la y.l.length Z.lc,(f:Int),t,wipe] W (bH W Z.sp Z.qs y.s M R)) (T:YOk {y with s:=R.1} C M) :
    κ prog 41 #[a,(f:Int),t,wipe] w λe d=>e=.returned R.2/\aF a Z y (({y with s:=R.1}:YV).mark f n) w d:=by
  have ai:decide (0<(t.size:Int) % 16)=false:=decide_eq_false (by omega)
  have ad:decide (0<(t.size:Int).tmod 16)=false:=decide_eq_false (by rw[jb3 (by omega)];omega)
  have ag:(t.size:Int) / 16=(n:Int):=by omega
  have x:Hid (β w w w.drew):=(ja0 _ _).drew;have v:=ah (vJ (cap:=Z.lc) y.l (f:Int) (n:Int) w.drew ((h.shelf S.s).below x.out) (h.listed.1.below x.out) S.ch.good (by omega) (by omega))
  rw[a1] at v
  have r:Hid (∀ W:ω,β w w W->W.cell? ⟨a,6,none⟩=some (Z.sp:υ)/\W.cell? ⟨a,12,none⟩=some (.slice Z.la y.l.length Z.lc)):=λW O=>by
    obtain⟨_,_,U,_,_,_,_,_,L,_⟩:=(h.below O).blk.cells;exact⟨U,L⟩
  have g:Hid (∀ W:ω,β w w W->κ prog 115 #[Z.sp,.slice Z.la y.l.length Z.lc,(f:Int),t,wipe] W λe d=>e=.returned R.2/\(d.cell? ⟨a,6,none⟩=some (Z.sp:υ)/\d.cell? ⟨a,12,none⟩=some (.slice Z.la y.l.length Z.lc))/\aF a Z y {y with s:=R.1} w d):=λW O=>(a3 W O).mono λe d hd=>by
    obtain⟨h1,Q,b,g1,g2⟩:=h.yt O hd;obtain⟨_,_,U,_,_,_,_,_,L,_⟩:=g1.blk.cells;rw[b.sp] at U;rw[b.la,b.lc] at L;exact⟨h1,⟨U,L⟩,Q,b,g1,g2⟩
  have z:=r.out _ x.out;have a0:∀ j,y.j=some j->j.stage<4->JOk R.1 C j:=λj c hg=>(T.job j c hg).ok
  have A:Hid (∀(j:JV) (i:Nat) (W:ω),y.j=some j->i<n->aF a Z y {y with s:=R.1,j:=some (iC j f i)} w W->W.cell? ⟨a,13,none⟩=some (Z.jb.xp:υ)/\κ prog 116 #[Z.jb.xp,(((f:Int)+(i:Int)) / 4:Int)] W λe d=>e=.returned (.tuple #[])/\aF a Z y {y with s:=R.1,j:=some (iC j f (i+1))} w d):=λj i W c Y ⟨Q,b,g1,g2⟩=>by
    obtain⟨_,_,_,_,_,_,_,_,_,u,_⟩:=g1.blk.cells;rw[<- b.jb];refine⟨u,?_⟩;have af:=(Eb j f i).2.2.1;rw[show((f:Int)+(i:Int)) / 4=(((f+i) / 4:Nat):Int) by omega]
    refine(WU (m:=M) (C:=C) (j:=iC j f i) (((f+i) / 4:Nat):Int) W g1 T.s rfl (λhg=>(a0 j c (by omega)).iC f i)).mono ?_
    rintro e d ⟨rfl,hd⟩;exact⟨rfl,aF.trans b g2 hd⟩
  have HJ:Hid (∀(j:JV) (i:Nat) (W:ω),aF a Z y {y with s:=R.1,j:=some (iC j f i)} w W->W.cell? ⟨a,13,none⟩=some (Z.jb.xp:υ)):=λj i W ⟨Q,b,g1,g2⟩=>by
    obtain⟨_,_,_,_,_,_,_,_,_,u,_⟩:=g1.blk.cells;rw[<- b.jb];exact u
  obtain⟨o,P⟩:∃ o,o=y.j:=⟨_,rfl⟩
  cases o with
  | none =>
    have c:=P.symm;have E:({y with s:=R.1}:YV).mark f n={y with s:=R.1}:=by unfold YV.mark;show({y with s:=R.1,j:=y.j.map _}:YV)=_;rw[c];rfl
    have V:Hid (∀ W:ω,aF a Z y {y with s:=R.1} w W->W.cell? ⟨a,13,none⟩=some (.pointer none)):=λW ⟨Q,b,g1,g2⟩=>by
      obtain⟨_,_,_,_,_,_,_,_,_,u,_⟩:=g1.blk.cells;rw[show({y with s:=R.1}:YV).j=none from c] at u;exact u
    rw[E];clear h S a1 a3 T a0 A HJ E c P;generalize ({y with s:=R.1}:YV)=y1 at g V |-
    generalize R.2=F at g |-;generalize y.l.length=q at v r z g;go_enter func41,ntmps41
    go_wp2
    go_region_held3 (λW=>W.cell? ⟨a,6,none⟩=some (Z.sp:υ)/\W.cell? ⟨a,12,none⟩=some (.slice Z.la q Z.lc))
      (first|(exact z)|assumption)
      (first
        | (go_at_call 114;refine v.out.mono ?_;rintro e I ⟨rfl,K⟩;have H:=ah (x.out.trans (K.mono x.out.size));have a2:=r.out I H.out;clear K))
    have J:Hid (β w w I.drew):=H.out.drew;have G:=r.out _ J.out;clear v z a2;go_wp2
    go_region_held3 (λW=>W.cell? ⟨a,6,none⟩=some (Z.sp:υ)/\W.cell? ⟨a,12,none⟩=some (.slice Z.la q Z.lc))
      (first|(exact G)|assumption)
      (first
        | (go_at_call 115;refine(g.out _ J.out).mono ?_;rintro e w2 ⟨rfl,X,B⟩;have N:=ah B;clear B))
    have u:=V.out _ N.out;clear g r V G X;go_wp2
    go_loopw [11] (λi wr=>i=.int .i64 (f:Int)/\wr=w2) (λ_ _=>0)
    case atStart=>exact⟨rfl,rfl⟩
    case round =>
      obtain⟨rfl,hw⟩:=hrel;have a8:=hw.symm;subst a8;clear hw;go_wp2
      go_ret
      exact⟨rfl,N.out⟩
  | some j =>
    have c:=P.symm;have E:({y with s:=R.1}:YV).mark f n={y with s:=R.1,j:=some (iC j f n)}:=by unfold YV.mark;show({y with s:=R.1,j:=y.j.map _}:YV)=_;rw[c];rfl
    have e0:({y with s:=R.1}:YV)={y with s:=R.1,j:=some (iC j f 0)}:=by show _=({y with s:=R.1,j:=some j}:YV);rw[<- c]
    have a6:=ah (λi W Y hd=>A.out j i W c Y hd)
    have a5:=ah (λi W hd=>HJ.out j i W hd)
    rw[E];rw[e0] at g;obtain⟨y1,D⟩:∃ y1:Nat->YV,y1=λi=>{y with s:=R.1,j:=some (iC j f i)}:=⟨_,rfl⟩
    rw[show({y with s:=R.1,j:=some (iC j f 0)}:YV)=y1 0 by rw[D]] at g
    rw[show({y with s:=R.1,j:=some (iC j f n)}:YV)=y1 n by rw[D]]
    have aa:Hid (∀(i:Nat) (W:ω),i<n->aF a Z y (y1 i) w W->W.cell? ⟨a,13,none⟩=some (Z.jb.xp:υ)/\κ prog 116 #[Z.jb.xp,(((f:Int)+(i:Int)) / 4:Int)] W λe d=>e=.returned (.tuple #[])/\aF a Z y (y1 (i+1)) w d):=by rw[D];exact a6
    have ab:Hid (∀(i:Nat) (W:ω),aF a Z y (y1 i) w W->W.cell? ⟨a,13,none⟩=some (Z.jb.xp:υ)):=by rw[D];exact a5
    clear h S a1 a3 T a0 A HJ E e0 c P a6 a5 D;generalize R.2=F at g |-;generalize y.l.length=q at v r z g;go_enter func41,ntmps41
    go_wp2
    go_region_held3 (λW=>W.cell? ⟨a,6,none⟩=some (Z.sp:υ)/\W.cell? ⟨a,12,none⟩=some (.slice Z.la q Z.lc))
      (first|(exact z)|assumption)
      (first
        | (go_at_call 114;refine v.out.mono ?_;rintro e I ⟨rfl,K⟩;have H:=ah (x.out.trans (K.mono x.out.size));have a2:=r.out I H.out;clear K))
    have J:Hid (β w w I.drew):=H.out.drew;have G:=r.out _ J.out;clear v z a2;go_wp2
    go_region_held3 (λW=>W.cell? ⟨a,6,none⟩=some (Z.sp:υ)/\W.cell? ⟨a,12,none⟩=some (.slice Z.la q Z.lc))
      (first|(exact G)|assumption)
      (first
        | (go_at_call 115;refine(g.out _ J.out).mono ?_;rintro e w2 ⟨rfl,X,B⟩;have N:=ah B;clear B))
    clear g r G X;go_wp2
    go_loopw [11] (λk wr=>∃ i:Nat,i<=n/\k=.int .i64 ((f:Int)+(i:Int))/\aF a Z y (y1 i) w wr) (λk _=>f+n-(intOf k).toNat)
    case atStart=>exact⟨0,ja5 _,by simp,N.out⟩
    case round =>
      obtain⟨i,Y,rfl,hd⟩:=hrel;have u:=ab.out i _ hd;have HD:=ah hd;have ac:(0:Int)<=(f:Int)+(i:Int):=by omega
      have k1:IntKind.i64.wrap ((f:Int)+(n:Int))=(f:Int)+(n:Int):=ja7 _ (by omega)
      have k2:IntKind.i64.wrap ((f:Int)+(i:Int)+1)=(f:Int)+(i:Int)+1:=ja7 _ (by omega)
      by_cases a9:i<n
      . have A:=ah (aa.out i _ a9 hd).2
        clear hd;have g1:decide ((f:Int)+(i:Int)<(f:Int)+(n:Int))=true:=decide_eq_true (by omega)
        have g2:(i:Int)<(n:Int):=by omega
        go_wp2_with fail
        refine A.out.mono ?_;rintro e w3 ⟨rfl,a4⟩;have a7:=ah a4;clear a4 A;go_wp2
        go_roundw
        case rel =>
          have fin:∃ i1:Nat,i1<=n/\Value.int .i64 ((f:Int)+(i:Int)+1)=.int .i64 ((f:Int)+(i1:Int))/\aF a Z y (y1 i1) w w3:=⟨i+1,by omega,by congr 1,a7.out⟩
          first|exact fin|((repeat apply Exists.intro);exact⟨fin,rfl⟩)
        case measure=>simp[intOf];omega
      . have b:i=n:=by omega
        subst b;clear hd;have g1:decide ((f:Int)+(i:Int)<(f:Int)+(i:Int))=false:=decide_eq_false (by omega)
        go_wp2
        go_ret
        exact⟨rfl,HD.out⟩
def Xj{d C m:Nat}{Z:Zh}{y:YV}(fr:Int)(t:ByteArray)(w:ω)(h:aC w d Z y)(a:YOk y C m)(c:C<=40)(x:m+7000<1000000000)(o : -9223372036854775808<=fr/\fr<=9223372036854775807)(g:t.size<=10000) :
  κ prog 41 #[d,fr,t,false] w λe n=>e=.returned (y.dJ fr t)/\aF d Z y (y.write fr t) w n:=by
 unfold YV.dJ YV.write;by_cases b:t.size % 16=0/\y.s.aW y.l fr ((t.size / 16:Nat):Int)=0
 .rw[if_pos b,if_pos b]
  obtain⟨r,j⟩:=b;obtain⟨_,v,u,q⟩:=SV.mO a.ch.good j;obtain⟨f,rfl⟩:∃ f:Nat,fr=(f:Int):=⟨fr.toNat,by omega⟩
  rw[show((f:Int)).toNat=f by omega]
  have k:=a.files (z:=(y.s.put y.l (f:Int) t).1) (m':=m+2000) ((a.s.put _ _ _ (by omega)).more (by omega)) (λl=>.put l _ _ _ _) (by omega)
  exact JE f (t.size / 16) t false w h a c (by omega) j (by omega) (λW i=>SY y.l (f:Int) t W ((h.shelf a.s).below i) (h.listed.1.below i) a.ch.good (by have:=a.ch.len;omega) c h.listed.2 (by omega) (by omega) g) k
 .rw[if_neg b,if_neg b]
  exact JD fr t false w h a c o g b
def Xi{d C m n:Nat}{Z:Zh}{y:YV}(fr:Int)(w:ω)(h:aC w d Z y)(a:YOk y C m)(c:C<=40)(x:m+7000<1000000000)(q : -9223372036854775808<=fr/\fr<=9223372036854775807)(r:n<=200) :
  κ prog 41 #[d,fr,.string (dY (n*16)),true] w λe o=>e=.returned (y.mG fr (n:Int))/\aF d Z y (y.wipe fr (n:Int)) w o:=by
 have g:(dY (n*16)).size=n*16:=by show(List.replicate (n*16) (0:UInt8)).toArray.size=_;simp
 unfold YV.mG YV.wipe;by_cases b:y.s.aW y.l fr (n:Int)=0
 .rw[if_pos b,if_pos b]
  obtain⟨_,u,v,t⟩:=SV.mO a.ch.good b;obtain⟨f,rfl⟩:∃ f:Nat,fr=(f:Int):=⟨fr.toNat,by omega⟩
  rw[show((f:Int)).toNat=f by omega,show((n:Int)).toNat=n by omega]
  have k:=a.files (z:=(y.s.wipe y.l (f:Int) (n:Int)).1) (m':=m+2000) ((a.s.wipe _ _ _ (by omega)).more (by omega)) (λl=>.wipe l _ _ _ _) (by omega)
  exact JE f n (dY (n*16)) true w h a c g b (by omega) (λW i=>TA y.l (f:Int) W ((h.shelf a.s).below i) (h.listed.1.below i) a.ch.good (by have:=a.ch.len;omega) c h.listed.2 (by omega) (by omega) r) k
 .rw[if_neg b,if_neg b]
  refine JD fr (dY (n*16)) true w h a c q (by omega) (λe=>b ?_)
  have j:=e.2;rw[g,show n*16 / 16=n by omega] at j
  exact j
theorem Fls.ok{s:SV}{l:List Int}{F:Nat->SV}{m:Nat}(h:Fls s l F)(b:s.ok m):∀ k,k<=l.length->(F k).ok m:=by
 intro k
 induction k with
 | zero=>intro _;rw[h.zero];exact b
 | succ k a=>intro c;rw[h.next k (by omega)];exact(a (by omega)).fU _
def WT{a C m:Nat}{Z:Zh}{y:YV}(w:ω)(h:aC w a Z y)(t:YOk y C m) :
    κ prog 46 #[a] w λe b=>e=.returned (.tuple #[])/\aF a Z y y.flush w b:=by
  obtain⟨F,f⟩:=fls y.s y.l;have a7:=t.ch.len
  obtain⟨g,o,E⟩:∃ g o,Z.la=some ⟨g,o,none⟩:=by
    obtain⟨g,o,e,_⟩:=h.list.1 0 (List.length_pos_iff.2 t.ch.ne);exact⟨g,o,e⟩
  have V:y.flush={y with s:=F y.l.length}:=by unfold YV.flush;rw[<- f.all]
  have a5:Hid (∀(k:Nat) (W:ω),aF a Z y {y with s:=F k} w W->W.cell? ⟨a,12,none⟩=some (.slice (some ⟨g,o,none⟩) y.l.length Z.lc)):=λk W ⟨I,d,g1,g2⟩=>by
    obtain⟨_,_,_,_,_,_,_,_,j,_⟩:=g1.blk.cells;rw[d.la,d.lc,E] at j;exact j
  have D:Hid (∀(k:Nat) (W:ω),k<y.l.length->aF a Z y {y with s:=F k} w W->∃ n c:Nat,n<5/\(W.cell? ⟨a,6,none⟩=some (Z.sp:υ)/\W.cell? ⟨a,12,none⟩=some (.slice (some ⟨g,o,none⟩) y.l.length Z.lc)/\W.cell? ⟨g,o+k,none⟩=some (.int .i64 (n:Int))/\W.cell? ⟨Z.sp,n,none⟩=some (c:υ)) /\
      κ prog 120 #[c] W.drew λe b=>e=.returned (.tuple #[])/\(b.cell? ⟨a,6,none⟩=some (Z.sp:υ)/\b.cell? ⟨a,12,none⟩=some (.slice (some ⟨g,o,none⟩) y.l.length Z.lc)/\b.cell? ⟨g,o+k,none⟩=some (.int .i64 (n:Int))/\b.cell? ⟨Z.sp,n,none⟩=some (c:υ))/\aF a Z y {y with s:=F (k+1)} w b):=λk W B ⟨I,d,g1,g2⟩=>by
    obtain⟨v0,aa,_⟩:=t.ch.good (y.l.getD k 0) (by rw[ja6,ja8 B];exact jac B)
    obtain⟨v,q,_⟩:=(f.alike k).head _ _ aa;obtain⟨n0,n5,_⟩:=SV.dS q;obtain⟨n,P⟩:∃ n:Nat,y.l.getD k 0=(n:Int):=⟨(y.l.getD k 0).toNat,by omega⟩
    have M:(F k).ok m:=f.ok t.s k (by omega)
    have Y:∀(r:ω) (H:Zh) (s:SV) (u:IV),nS Z H->aC r a H {y with s:=s}->s.ok m->s.file (n:Int)=some u->r.cell? ⟨a,6,none⟩=some (Z.sp:υ)/\r.cell? ⟨a,12,none⟩=some (.slice (some ⟨g,o,none⟩) y.l.length Z.lc)/\r.cell? ⟨g,o+k,none⟩=some (.int .i64 (n:Int))/\r.cell? ⟨Z.sp,n,none⟩=some ((H.qs n).p:υ):=λr H s u z O hs G=>by
      obtain⟨_,_,c6,_,_,_,_,_,j,_⟩:=O.blk.cells;rw[z.la,z.lc,E] at j;rw[z.sp] at c6;obtain⟨g',o',K,e4⟩:=O.list.1 k B;rw[z.la,E] at K;cases K
      have a1:=(O.shelf hs).jW G;rw[z.sp] at a1;rw[show y.l.getD k 0=(n:Int) from P] at e4
      exact⟨c6,j,e4,a1⟩
    rw[P] at q;refine⟨n,(I.qs n).p,by omega,Y W I (F k) v d g1 M q,?_⟩
    have L:β W W W.drew:=(ja0 _ _).drew;have J:=GI (n:=(n:Int)) W.drew ((g1.below L).shelf M) q;refine J.mono ?_;rintro e b ⟨rfl,ab,h1,S⟩;have hd:=g1.vO L h1 S;have X:F (k+1)=(F k).fU (n:Int):=by rw[f.next k B,P]
    rw[<- X] at hd h1;obtain⟨Z3,K,g3,g4⟩:=id hd;obtain⟨u,G,_⟩:=(SV.alike.fU (F k) (n:Int)).head _ _ q;rw[<- X] at G;have N:=Y b Z3 (F (k+1)) u (d.trans K) g3 (f.ok t.s (k+1) (by omega)) G
    refine⟨rfl,⟨N.1,N.2.1,N.2.2.1,?_⟩,aF.trans d g2 hd⟩;have Q:=(g1.below L).shelf M;have h5:=(S.toMoved.cell (p:=⟨I.sp,n,none⟩) (lt_of_some Q.blk) Q.rP).trans (Q.jW q);rw[d.sp] at h5;exact h5
  have T:Hid (aF a Z y {y with s:=F 0} w w):=by unfold Hid;rw[f.zero];exact aF.refl h
  rw[V];clear h t f V E;obtain⟨y1,x⟩:∃ y1:Nat->YV,y1=λk=>{y with s:=F k}:=⟨_,rfl⟩
  rw[show({y with s:=F y.l.length}:YV)=y1 y.l.length by rw[x]]
  have a4:Hid (aF a Z y (y1 0) w w):=by rw[x];exact T
  have U:Hid (∀(k:Nat) (W:ω),aF a Z y (y1 k) w W->W.cell? ⟨a,12,none⟩=some (.slice (some ⟨g,o,none⟩) y.l.length Z.lc)):=by rw[x];exact a5
  have a0:Hid (∀(k:Nat) (W:ω),k<y.l.length->aF a Z y (y1 k) w W->∃ n c:Nat,n<5/\(W.cell? ⟨a,6,none⟩=some (Z.sp:υ)/\W.cell? ⟨a,12,none⟩=some (.slice (some ⟨g,o,none⟩) y.l.length Z.lc)/\W.cell? ⟨g,o+k,none⟩=some (.int .i64 (n:Int))/\W.cell? ⟨Z.sp,n,none⟩=some (c:υ)) /\
      κ prog 120 #[c] W.drew λe b=>e=.returned (.tuple #[])/\(b.cell? ⟨a,6,none⟩=some (Z.sp:υ)/\b.cell? ⟨a,12,none⟩=some (.slice (some ⟨g,o,none⟩) y.l.length Z.lc)/\b.cell? ⟨g,o+k,none⟩=some (.int .i64 (n:Int))/\b.cell? ⟨Z.sp,n,none⟩=some (c:υ))/\aF a Z y (y1 (k+1)) w b):=by rw[x];exact D
  clear T a5 D x;generalize y.l.length=ln at U a0 a7 |-;go_enter func46,ntmps46
  go_wp2
  go_loopw [2] (λi wr=>∃ k:Nat,k<=ln/\i=.int .i64 (k:Int)/\aF a Z y (y1 k) w wr) (λi _=>ln-(intOf i).toNat)
  case atStart=>exact⟨0,ja5 _,rfl,a4.out⟩
  case round =>
    clear a4;obtain⟨k,B,rfl,hd⟩:=hrel;have j:=U.out _ _ hd;have HD:=ah hd;by_cases a9:k<ln
    . obtain⟨n,c,n5,a2,J⟩:=a0.out k _ a9 hd
      have D:=ah J;have k0:(0:Int)<=(k:Int):=by omega
      have A:(k:Int)<(ln:Int):=by omega
      have k2:decide ((k:Int)<(ln:Int))=true:=decide_eq_true A;have n0:(0:Int)<=(n:Int):=by omega
      have n6:(n:Int)<5:=by omega
      have a3:wr.drew.cell? ⟨a,6,none⟩=some (Z.sp:υ)/\wr.drew.cell? ⟨a,12,none⟩=some (.slice (some ⟨g,o,none⟩) ln Z.lc)/\wr.drew.cell? ⟨g,o+k,none⟩=some (.int .i64 (n:Int))/\wr.drew.cell? ⟨Z.sp,n,none⟩=some (c:υ):=a2;clear J hd a2;go_wp2
      go_region_held3 (λW=>W.cell? ⟨a,6,none⟩=some (Z.sp:υ)/\W.cell? ⟨a,12,none⟩=some (.slice (some ⟨g,o,none⟩) ln Z.lc)/\W.cell? ⟨g,o+k,none⟩=some (.int .i64 (n:Int))/\W.cell? ⟨Z.sp,n,none⟩=some (c:υ))
        (first|(exact a3)|assumption)
        (first
          | (go_at_call 120;refine D.out.mono ?_;rintro e w2 ⟨rfl,a8,R⟩;have a6:=ah R;clear R))
      clear D a3 a8;go_wp2
      go_roundw
      case rel =>
        have fin:∃ A:Nat,A<=ln/\Value.int .i64 ((k:Int)+1)=.int .i64 (A:Int)/\aF a Z y (y1 A) w w2:=⟨k+1,by omega,by go_num,a6.out⟩
        first|exact fin|((repeat apply Exists.intro);exact⟨fin,rfl⟩)
      case measure=>simp[intOf];omega
    . have d:k=ln:=by omega
      subst d;clear hd;have k2:decide ((k:Int)<(k:Int))=false:=decide_eq_false (by omega)
      go_wp2
      go_end0
      exact⟨rfl,HD.out⟩
