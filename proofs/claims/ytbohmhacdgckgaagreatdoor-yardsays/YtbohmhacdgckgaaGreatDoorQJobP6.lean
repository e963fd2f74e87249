/- The document's yard is opened (J2): the walk. -/
import Derived.Test.YtbohmhacdgckgaaGreatDoorQRyO2
set_option linter.all false
set_option maxHeartbeats 4000000
set_option maxRecDepth 100000
namespace Go.Proofs.YtbohmhacdgckgaaGreatDoor
open Go.RowKit renaming Below->β
open Go renaming World->ω, Value->υ, Calls->κ
open Option renaming none->O, some->S
open Go.Proofs.Tryz Go.RowKit Go.Maps
attribute [local go_sem ↓] Go.wp_at_zero Go.wp_at_succ
def wY(p:Nat->Nat):Obj:=.cells #[p 0,p 1,p 2,p 3,p 4] 49 (0,0)
def Lp{W:ω}{N:Nat}{p:Nat->Nat}(h:W.heap[N]?=S (wY p)){k:Nat}(a:k<5):W.cell? ⟨N,k,O⟩=S (p k:υ):=by
 rw[cell_of_row W N k _ _ _ h]
 match k,a with
 | 0,_=>rfl
 | 1,_=>rfl
 | 2,_=>rfl
 | 3,_=>rfl
 | 4,_=>rfl
theorem jV.drewN{w W:ω}{b:Nat->Rh}{c:Rh}{d:Nat->DV}{t:DV}{e:Ending}(h:jV w b c d t e W)(n:Nat):jV w b c d t e (W.drewN n):=by
 obtain⟨l,a⟩:=h;refine⟨below_drewN l n,?_⟩;rcases a with a|⟨g,i,Z,k,o,j,m,f⟩
 .exact .inl a
 .exact .inr ⟨g,i,Z,k,o.below (below_drewN (ja0 _ _) n),j,m,f⟩
def WZ{m:Nat}{s:Nat->Rh}{A:Rh}{d:Nat->DV}{t:DV}(w:ω)(hd:∀ i,i<5->bZ Gd.no w (s i) (d i))(ht:bZ Gd.no w A t)(c5:∀ i j,i<5->j<5->i≠j->∀ k,(s i).fp k->¬(s j).fp k)(bv:∀ i,i<5->∀ k,A.fp k->¬(s i).fp k)
    (hf:∀ i,(d i).fine (d i).fl.length m) (ae:t.fine t.fl.length m) :
    κ prog 19 #[.agg #[(s 0).p,(s 1).p,(s 2).p,(s 3).p,(s 4).p],A.p] w λe x=>jV w s A d t e x:=by
  obtain⟨y,ap⟩:∃ y,y=w.alloc (wY λi=>(s i).p):=⟨_,rfl⟩
  have b4:β w w y:=by rw[ap];exact(ja0 _ _).alloc (ja1 _) _
  have ba:y.heap[w.heap.size]?=some (wY λi=>(s i).p):=by rw[ap];exact heap_alloc_new _ _
  have c0:∀ i,i<5->bZ Gd.no y (s i) (d i):=λi hi=>(hd i hi).keep λk e=>b4.block k ((hd i hi).lt k e).2
  have ca:bZ Gd.no y A t:=ht.keep λk e=>b4.block k (ht.lt k e).2
  have ax:Hid (∃ Z,ZO y s A (y.heap.size+1) y.heap.size (oyZ d t 0) Z ((y.alloc mF).alloc (zu (λi=>(s i).p) A.p y.heap.size))):=ZO.start c0 ca c5 bv (ja0 _ _)
  have cw:Hid (∀(k:Nat) (W:ω),k<5->β y y W->W.cell? ⟨w.heap.size,k,none⟩=some ((s k).p:υ)):=λk W L H=>Lp (p:=λi=>(s i).p) ((H.block _ (lt_of_some ba)).trans ba) L
  have bh:Hid (∀(k l sp:Nat) (W:ω),k<5->(∃ Z,ZO y s A l sp (oyZ d t k) Z W)->W.cell? ⟨w.heap.size,k,none⟩=some ((s k).p:υ)/\κ prog 79 #[(s k).p] W λe x=>∃(U:Option Addr) (f:Int),e=.returned (.tuple #[.pointer U,f])/\x.cell? ⟨l,6,none⟩=some (sp:υ)/\(∃ v,x.cell? ⟨sp,k,none⟩=some v)/\x.frozen? ⟨sp,k,none⟩=false/\∃ Z',ZO y s A l sp (oyZ d t (k+1)) Z' (x.setCell ⟨sp,k,none⟩ (.pointer U))):=λk l sp W L ⟨Z,z⟩=>⟨cw.out k W L z.bel,(z.step L (hf k)).mono λe x ⟨U,f,E,_,T⟩=>⟨U,f,E,T⟩⟩
  have bd:Hid (∀(l sp:Nat) (W:ω),(∃ Z,ZO y s A l sp (oyZ d t 5) Z W)->κ prog 81 #[A.p,(0:Int)] W λe x=>e=.returned (.string (bytesOf (t.seen.getD 0 [])))/\x=W):=λl sp W ⟨Z,z⟩=>by
    have E:bZ Gd.no W A t:=by have:=z.dM.top;rw[z.ftp] at this;exact this
    have cQ:=ae.ok.few;have cV:=ae.ok.few2;have bA:=uo 0 W E.todA ae.ok.n1 (by omega)
    rw[yI ae 0 ae.ok.n1] at bA;exact bA
  have ao:Hid (∀ W:ω,κ prog 80 #[.string (bytesOf (t.seen.getD 0 []))] W λe x=>e=.returned (.tuple #[.agg #[.int .i64 (ak t).root,.int .i64 (ak t).kind,.int .i64 (ak t).file,.int .i64 (ak t).rate,.int .i64 (ak t).burst],aJ (bytesOf (t.seen.getD 0 []))])/\β W W x):=λW=>Ro _ W
  have V:jo d t=if aJ (bytesOf (t.seen.getD 0 []))=0 then ((aK d).walk (ak t).root).2 else aJ (bytesOf (t.seen.getD 0 [])):=rfl
  have aw:aJ (bytesOf (t.seen.getD 0 []))=0->(ak t).kv.fault=0:=λe=>zO e
  have b2:(aK d).ok m:=xR hf
  have aq:Hid (∀(l sp:Nat) (W W':ω),(∃ Z,ZO y s A l sp (oyZ d t 5) Z W)->β W W W'->(W'.cell? ⟨l,7,none⟩=some (.int .i64 0)/\W'.cell? ⟨l,8,none⟩=some (.int .i64 0)/\W'.cell? ⟨l,9,none⟩=some (.int .i64 0)/\W'.cell? ⟨l,10,none⟩=some (.int .i64 0)/\W'.cell? ⟨l,11,none⟩=some (.int .i64 0))/\(∀ i,W'.frozen? ⟨l,i,none⟩=false)/\∃ Z,ZP y s A l sp ⟨d,t,aK d,ak t,[],none⟩ Z (W'.setCells l 7 (kdV (ak t)))):=λl sp W W' ⟨Z,z⟩ H=>by
    have E:=(z.below H).p;obtain⟨_,c,_,_,fz⟩:=E.cells;exact⟨c,fz,Z,E.qN (ak t)⟩
  have a0:Hid (∀(l sp:Nat) (W:ω),(∃ Z,ZP y s A l sp ⟨d,t,aK d,ak t,[],none⟩ Z W)->W.cell? ⟨l,6,none⟩=some (sp:υ)/\κ prog 82 #[sp,.int .i64 (ak t).root] W.drew λe x=>∃(b:Option Addr) (O:Nat),e=.returned (.tuple #[.slice b ((aK d).walk (ak t).root).1.length O,.int .i64 ((aK d).walk (ak t).root).2])/\β W W x/\x.cell? ⟨l,6,none⟩=some (sp:υ)/\(∃ v,x.cell? ⟨l,12,none⟩=some v)/\x.frozen? ⟨l,12,none⟩=false/\β y y (x.setCell ⟨l,12,none⟩ (.slice b ((aK d).walk (ak t).root).1.length O)) /\
      (x.setCell ⟨l,12,none⟩ (.slice b ((aK d).walk (ak t).root).1.length O)).cell? ⟨l,6,none⟩=some (sp:υ) /\
      (aJ (bytesOf (t.seen.getD 0 []))=0->((aK d).walk (ak t).root).2=0->∃ Z,ZP y s A l sp ⟨d,t,aK d,ak t,((aK d).walk (ak t).root).1,none⟩ Z (x.setCell ⟨l,12,none⟩ (.slice b ((aK d).walk (ak t).root).1.length O)))):=λl sp W ⟨Z,z⟩=>by
    obtain⟨c6,_⟩:=z.cells;refine⟨c6,?_⟩;have ag:β W W W.drew:=(ja0 _ _).drew;have aa:=(z.below ag).dM.shelf b2;rw[z.fsp] at aa;refine(vI (ak t).root W.drew aa).mono ?_;rintro e x ⟨b,O,rfl,hn,ha,H⟩;have al:β W W x:=ag.trans (H.mono ag.size);have E:=z.below al;obtain⟨k6,_,cL,_,kf⟩:=E.cells;refine⟨b,O,rfl,al,k6,cL,kf 12,E.bel.setCell z.new.1 _,?_,λL Q=>?_⟩
    . rw[jai _ _ _ _ (by intro e;injection e with _ e;omega)];exact k6
    . have bi:=of_decide_eq_true (KV.qC (aw L)).1
      have cD:0<=(ak t).root:=bi.1
      have az:((aK d).walk (ak t).root).1≠[]:=λe=>by
        have:=SV.qR Q
        rw[e] at this;have:(ak t).root = -1:=this
        omega
      refine⟨_,E.sD (lc:=O) hn az (λg o e=>?_) λg o e hf=>?_⟩
      . have:=(ha g o e).1
        have:=z.bel.size
        have:W.heap.size<=g:=(ha g o e).1
        omega
      . have h3:W.heap.size<=g:=(ha g o e).1
        have:=z.dM.fF hf
        omega
  have J:Hid (∀(l sp:Nat) (W:ω),(∃ Z,ZP y s A l sp ⟨d,t,aK d,ak t,((aK d).walk (ak t).root).1,none⟩ Z W)->W.cell? ⟨l,6,none⟩=some (sp:υ)/\κ prog 83 #[sp,.agg #[.int .i64 (ak t).root,.int .i64 (ak t).kind,.int .i64 (ak t).file,.int .i64 (ak t).rate,.int .i64 (ak t).burst]] W.drew λe x=>∃ U:Option Addr,e=.returned (.tuple #[.pointer U,newF (aK d) (ak t)])/\β W W x/\x.cell? ⟨l,6,none⟩=some (sp:υ)/\(∃ Z,ZP y s A l sp ⟨d,t,aK d,ak t,((aK d).walk (ak t).root).1,none⟩ Z x) /\
      (lF (aK d) (ak t)=true->jo d t=0->(∃ v,x.cell? ⟨l,13,none⟩=some v)/\x.frozen? ⟨l,13,none⟩=false/\jV y s A d t (.returned (.tuple #[l,(0:Int)])) (x.setCell ⟨l,13,none⟩ (.pointer U)))):=λl sp W ⟨Z,z⟩=>by
    obtain⟨c6,_⟩:=z.cells;refine⟨c6,?_⟩;have ag:β W W W.drew:=(ja0 _ _).drew;have aa:=(z.below ag).dM.shelf b2;rw[z.fsp] at aa;refine(BD (ak t) W.drew aa).mono ?_;rintro e x ⟨cn,cv⟩;have al:β W W x:=ag.trans (cn.mono ag.size);have E:=z.below al;obtain⟨k6,_,_,cH,kf⟩:=E.cells;rcases cv with⟨hx,rfl⟩|⟨hx,xp,cap,a,rfl,q1,q2,q3⟩
    . refine⟨none,rfl,al,k6,⟨Z,E⟩,λF _=>absurd (of_decide_eq_true F).2.2 hx⟩
    . refine⟨some ⟨xp,0,none⟩,by rw[hx],al,k6,⟨Z,E⟩,λF Q=>⟨cH,kf 13,?_⟩⟩
      obtain⟨C,bE⟩:=F5 hf ae Q;rw[FZ F] at bE;have hJ:=(bE.job _ rfl (show(2:Int)<4 by decide)).ok
      have a9:=z.vM (b:=⟨xp,a,cap⟩) al (q3 C hJ) ⟨q1,q2⟩;rw[<- FZ F] at a9;exact a9.done Q
  have P:Hid (∀(l sp:Nat) (W:ω),((aK d).walk (ak t).root).2=0->((aK d).walk (ak t).root).1≠[]->(∃ Z,ZP y s A l sp ⟨d,t,aK d,ak t,((aK d).walk (ak t).root).1,none⟩ Z W)->∃ r ip:Nat,(ak t).root=(r:Int)/\r<5/\W.cell? ⟨sp,r,none⟩=some (ip:υ)/\W.cell? ⟨ip,3,none⟩=some (.int .i64 ((aK d).back (ak t).root))):=λl sp W Q az ⟨Z,z⟩=>by
    obtain⟨v,hv,_⟩:=(Chain.of Q az).root;obtain⟨r0,r5,_⟩:=SV.dS hv;have aa:=z.dM.shelf b2;have c1:=aa.jW hv;obtain⟨cz,_⟩:=aa.gY hv;rw[z.fsp] at c1;refine⟨(ak t).root.toNat,_,by omega,by omega,c1,?_⟩
    rw[cz.cells.2.2.2.1];unfold SV.back;rw[hv]
  have N:Hid (∀(l sp:Nat) (W:ω),lF (aK d) (ak t)≠true->jo d t=0->(∃ Z,ZP y s A l sp ⟨d,t,aK d,ak t,((aK d).walk (ak t).root).1,none⟩ Z W)->((ak t).kv.fault=0->(ak t).kind=0->jV y s A d t (.returned (.tuple #[l,(0:Int)])) W)/\(W.cell? ⟨l,7,none⟩=some (.int .i64 (ak t).root)/\W.cell? ⟨l,8,none⟩=some (.int .i64 (ak t).kind)/\W.cell? ⟨l,9,none⟩=some (.int .i64 (ak t).file)/\W.cell? ⟨l,10,none⟩=some (.int .i64 (ak t).rate)/\W.cell? ⟨l,11,none⟩=some (.int .i64 (ak t).burst))/\(∀ i,W.frozen? ⟨l,i,none⟩=false)/\jV y s A d t (.returned (.tuple #[l,(0:Int)])) (W.setCells l 7 (kdV (aj (ak t).root)))):=λl sp W F Q ⟨Z,z⟩=>by
    obtain⟨_,c,_,_,fz⟩:=z.cells;refine⟨λbb a7=>?_,c,fz,?_⟩
    . have e:=JZ bb a7
      have a9:=z;rw[show(⟨d,t,aK d,ak t,((aK d).walk (ak t).root).1,none⟩:YV)=jF d t by rw[FY F,<- e]] at a9
      exact a9.done Q
    . have a9:=z.qN (aj (ak t).root)
      rw[<- FY F] at a9;exact a9.done Q
  have a8:Hid (∀(f:Int) (W:ω),jo d t=f->f≠0->β y y W->jV y s A d t (.returned (.tuple #[.pointer none,f])) W):=λf W hf hn H=>⟨H,.inl ⟨by rw[hf];exact hn,by rw[hf]⟩⟩
  have R:Hid (∀(e:Ending) (W:ω),jV y s A d t e W->jV w s A d t e W):=λe W h=>jV.from b4 h
  have cF:0<=aJ (bytesOf (t.seen.getD 0 [])):=by
    unfold aJ bV
    repeat' split
    all_goals omega
  have bo:0<=((aK d).walk (ak t).root).2:=((aK d).walk_good (ak t).root).2.2.1;have bn:=AX (aK d) (ak t);have am:lF (aK d) (ak t)=decide ((ak t).kind≠0/\¬((ak t).kind=2/\(aK d).back (ak t).root=(ak t).file)/\newF (aK d) (ak t)=0):=rfl
  have af:aJ (bytesOf (t.seen.getD 0 []))=0->((aK d).walk (ak t).root).2=0->((aK d).walk (ak t).root).1≠[]:=λL Q e=>by
    have bi:=of_decide_eq_true (KV.qC (aw L)).1;have cD:0<=(ak t).root:=bi.1;have:=SV.qR Q
    rw[e] at this;have:(ak t).root = -1:=this
    omega
  have cU:w.heap.size<y.heap.size:=lt_of_some ba;clear hd ht c5 bv hf ae c0 ca ba b4 b2;generalize cM:ak t=K at ao V aw aq a0 J P N bo bn am af;generalize aK d=S at V aq a0 J P N bo bn am af;generalize aJ (bytesOf (t.seen.getD 0 []))=DF at ao V aw a0 cF af;generalize bytesOf (t.seen.getD 0 [])=S0 at bd ao;generalize newF S K=NF at J bn am;generalize S.back K.root=BK at P am;generalize lF S K=G at J N am;generalize (S.walk K.root).2=WF at V a0 P bo af;generalize (S.walk K.root).1=WL at a0 J P N af;generalize jo d t=YF at V J N a8
  have ci:=ah V;have ai:=ah am;have cG:=ah aw;have cB:=ah af;clear V am aw af cM;unfold wY at ap;unfold mF zu at ax;have bk:y.heap.size=w.heap.size+1:=by rw[ap];simp
  rw[bk] at ax;go_enter func19,ntmps19
  go_wp2
  rw[<- ap];generalize w.heap.size+1+1=l at ax |-;generalize w.heap.size+1=sp at ax bk |-;go_loopw [7,8,9] (λi u v wr=>∃ k:Nat,k<=5/\i=.int .i64 (k:Int)/\∃ Z,ZO y s A l sp (oyZ d t k) Z wr) (λi _ _ _=>5-(intOf i).toNat)
  case atStart=>exact⟨0,by omega,rfl,ax.out⟩
  case round =>
    clear ax ap bk;obtain⟨k,L,rfl,z⟩:=hrel;by_cases cs:k<5
    . obtain⟨ck,cb⟩:=bh.out k l sp _ cs z
      have bt:=ah cb;have k0:(0:Int)<=(k:Int):=by omega
      have k1:(k:Int)<5:=by omega
      have k2:decide ((k:Int)<5)=true:=decide_eq_true k1;clear z cb bh bd ao aq a0 J P N a8 R;go_wp2_with fail
      refine bt.out.mono ?_;rintro e w1 ⟨U,f,rfl,q6,⟨v1,q1⟩,q2,cc⟩;have cK:=ah cc;clear cc bt;go_wp2
      go_roundw
      case rel =>
        have fin:∃ k1:Nat,k1<=5/\Value.int .i64 ((k:Int)+1)=.int .i64 (k1:Int)/\∃ Z,ZO y s A l sp (oyZ d t k1) Z (w1.setCell ⟨sp,k,none⟩ (.pointer U)):=⟨k+1,by omega,by go_num,cK.out⟩
        first|exact fin|((repeat apply Exists.intro);exact⟨fin,rfl⟩)
      case measure=>simp[intOf];omega
    . have e5:k=5:=by omega
      subst e5;have k2:decide (((5:Nat):Int)<5)=false:=rfl;have aM:=ah z;have bO:=ah (bd.out l sp _ z);clear z bh bd;go_wp2_with fail
      refine bO.out.mono ?_;rintro e x ⟨rfl,hw⟩;have cq:=hw.symm;subst cq;clear hw bO;go_wp2_with fail
      refine(ao.out _).mono ?_;rintro e B ⟨rfl,bR⟩;have b6:=ah bR;clear bR ao;by_cases an:DF=0
      . have V:YF=WF:=by rw[ci.out,if_pos an]
        rw[an];have bb:=cG.out an;obtain⟨⟨b7,b8,b9,cy,ct⟩,ar,cd⟩:=aq.out l sp _ B aM.out b6.out;have cr:=ar 7;have cu:=ar 8;have cm:=ar 9;have cp:=ar 10;have cP:=ar 11;have bp:=ah cd;have bu:=ah V;have cx:=ah bb
        have cR:l<B.heap.size:=by
          obtain⟨Z5,aL⟩:=aM.out;exact ja9 aL.dM.blk.lt b6.out.size
        have ad:Hid (∀ W:ω,W.heap[B.heap.size]?=some (bF K)->W.cell? ⟨B,0,none⟩=some (K.root:υ)/\W.cell? ⟨B,1,none⟩=some (K.kind:υ)/\W.cell? ⟨B,2,none⟩=some (K.file:υ)/\W.cell? ⟨B,3,none⟩=some (K.rate:υ)/\W.cell? ⟨B,4,none⟩=some (K.burst:υ)):=λW L=>by
          unfold bF at L;refine⟨?_,?_,?_,?_,?_⟩<;>(rw[cell_of_row _ _ _ _ _ _ L];rfl)
        clear cd aq aM ar V bb;go_wp2
        generalize be:(((((B.setCell ⟨l,7,none⟩ K.root).setCell ⟨l,8,none⟩ K.kind).setCell ⟨l,9,none⟩ K.file).setCell ⟨l,10,none⟩ K.rate).setCell ⟨l,11,none⟩ K.burst).alloc (.cells #[K.root,K.kind,K.file,K.rate,K.burst] 82)=w4
        have cg:Hid (∃ Z,ZP y s A l sp ⟨d,t,S,K,[],none⟩ Z w4):=by
          obtain⟨Z6,h6⟩:=bp.out;rw[<- be];exact⟨Z6,h6.below ((ja0 _ _).alloc (ja1 _) _)⟩
        have bf:w4.heap[B.heap.size]?=some (bF K):=by
          have h6:=heap_alloc_new (B.setCells l 7 (kdV K)) (bF K);rw[size_setCells] at h6;rw[<- be];exact h6
        clear bp be b7 b8 b9 cy ct cr cu cm cp cP;obtain⟨u6,bs⟩:=a0.out l sp w4 cg.out;have HW:=ah bs;have d6:w4.drew.cell? ⟨l,6,none⟩=some (sp:υ):=u6;have d7:w4.drew.cell? ⟨B,0,none⟩=some (K.root:υ):=(ad.out _ bf).1
        have bm:Hid (∀(W x:ω),W.heap[B.heap.size]?=some (bF K)->β W W x->x.heap[B.heap.size]?=some (bF K)/\∀(i:Nat) (v:υ),(x.setCell ⟨l,i,none⟩ v).heap[B.heap.size]?=some (bF K)):=λW x hx H=>by
          have E:=(H.block _ (lt_of_some hx)).trans hx;exact⟨E,λi v=>(heap_setCell_other _ _ _ _ (by show B.heap.size≠l;omega)).trans E⟩
        have c8:=ah bf;clear bs bf a0
        go_region_held3 (λW=>W.cell? ⟨l,6,none⟩=some (sp:υ)/\W.cell? ⟨B,0,none⟩=some (K.root:υ))
          (first|(exact⟨d6,d7⟩)|assumption)
          (first
            | (go_at_call 82;refine HW.out.mono ?_;rintro e w5 ⟨b,O,rfl,ce,v6,⟨cW,cS⟩,cT,bw,s6,bB⟩;have b1:=bm.out _ _ c8.out ce;have co:=And.intro v6 (ad.out _ b1.1).1;have cJ:=And.intro s6 (ad.out _ (b1.2 12 (.slice b WL.length O))).1;have bj:=ah (b1.2 12 (.slice b WL.length O));have aE:=ah bB;have bN:=ah bw;clear ce b1 bB bw))
        clear HW co cJ d6 d7 c8 cg;generalize w5.setCell ⟨l,12,none⟩ (.slice b WL.length O)=Y at bj aE bN |-;by_cases av:WF=0
        . have aR:YF=0:=bu.out.trans av
          have b0:=ah (aE.out an av);have az:=cB.out an av
          have M:Hid (∀ kk:Int,K.kind=kk->(kk=0->G≠true)/\(kk=2->BK=K.file->G≠true)/\(NF≠0->G≠true)/\(kk≠0->¬(kk=2/\BK=K.file)->NF=0->G=true)):=λkk e=>by
            rw[ai.out,e];refine⟨λh=>?_,λE T=>?_,λh=>?_,λE T h3=>decide_eq_true ⟨E,T,h3⟩⟩
            . rw[decide_eq_false (λq=>q.1 h)];decide
            . rw[decide_eq_false (λq=>q.2.1 ⟨E,T⟩)];decide
            . rw[decide_eq_false (λq=>h q.2.2)];decide
          rw[av];obtain⟨x0,x1,x2,x3,x4⟩:=ad.out _ bj.out;by_cases a7:K.kind=0
          . have HE:=ah (R.out _ _ ((N.out l sp Y ((M.out _ rfl).1 a7) aR b0.out).1 cx.out a7))
            rw[a7] at x1;clear aE b0 J P N a8 R M ai;go_wp2
            go_ret2
            exact HE.out
          . have g0:(K.kind==0)=false:=by simpa using a7
            obtain⟨u6,cj⟩:=J.out l sp Y b0.out;have HN:=ah cj;have cf:Y.drew.cell? ⟨l,6,none⟩=some (sp:υ)/\Y.drew.cell? ⟨B,0,none⟩=some (K.root:υ)/\Y.drew.cell? ⟨B,1,none⟩=some (K.kind:υ)/\Y.drew.cell? ⟨B,2,none⟩=some (K.file:υ)/\Y.drew.cell? ⟨B,3,none⟩=some (K.rate:υ)/\Y.drew.cell? ⟨B,4,none⟩=some (K.burst:υ):=⟨u6,x0,x1,x2,x3,x4⟩;clear cj J aE;go_wp2
            go_region_held3 (λW=>W.cell? ⟨l,6,none⟩=some (sp:υ)/\W.cell? ⟨B,0,none⟩=some (K.root:υ)/\W.cell? ⟨B,1,none⟩=some (K.kind:υ)/\W.cell? ⟨B,2,none⟩=some (K.file:υ)/\W.cell? ⟨B,3,none⟩=some (K.rate:υ)/\W.cell? ⟨B,4,none⟩=some (K.burst:υ))
              (first|(exact cf)|assumption)
              (first
                | (go_at_call 83;refine HN.out.mono ?_;rintro e w7 ⟨U,rfl,ch,v6,bX,c7⟩;have bl:=(bm.out _ _ bj.out ch).1;have cI:=And.intro v6 (ad.out _ bl);have cC:=ah bl;have aD:=ah bX;have ac:=ah c7;clear ch bl bX c7))
            clear HN cf cI x0 x1 x2 x3 x4 u6;obtain⟨r,ip,hr,r5,c1,c2⟩:=P.out l sp w7 av az aD.out;obtain⟨y0,y1,y2,_,_⟩:=ad.out _ cC.out;obtain⟨z6,_⟩:=aD.out.choose_spec.cells;have er:r=K.root.toNat:=by omega
            subst er;have n0:(0:Int)<=K.root:=by omega
            have n5:K.root<5:=by omega
            have a5:Hid (∀ W:ω,κ prog 35 #[K.root] W λe x=>e=.returned (.agg #[K.root,(0:Int),(-1:Int),(0:Int),(0:Int)])/\β W W x):=λW=>wo K.root W
            have ab:Hid (G≠true->∀ W:ω,β w7 w7 W->(∃ a b c e:Int,W.cell? ⟨l,7,none⟩=some (K.root:υ)/\W.cell? ⟨l,8,none⟩=some (a:υ)/\W.cell? ⟨l,9,none⟩=some (b:υ)/\W.cell? ⟨l,10,none⟩=some (c:υ)/\W.cell? ⟨l,11,none⟩=some (e:υ))/\(∀ i,W.frozen? ⟨l,i,none⟩=false)/\jV w s A d t (.returned (.tuple #[l,(0:Int)])) (W.setCells l 7 [K.root,(0:Int),(-1:Int),(0:Int),(0:Int)])):=λF W H=>by
              obtain⟨Z9,h9⟩:=aD.out;obtain⟨_,⟨t7,t8,t9,b5,b3⟩,D,I⟩:=N.out l sp W F aR ⟨Z9,h9.below H⟩;exact⟨⟨_,_,_,_,t7,t8,t9,b5,b3⟩,D,R.out _ _ I⟩
            clear P N a8 hr ad bm;have cE:=aD;clear aD cE b0;by_cases T:K.kind=2
            . have g2:(K.kind==2)=true:=by simpa using T
              by_cases H:BK=K.file
              . have gB:(BK==K.file)=true:=by simpa using H
                have F:=(M.out _ rfl).2.1 T H;clear M ai;go_wp2
                go_quiet (fail)
                go_wp2_with fail
                refine(a5.out _).mono ?_;rintro e w8 ⟨rfl,a6⟩;obtain⟨⟨a1,a2,a3,a4,t7,t8,t9,b5,b3⟩,D,I⟩:=ab.out F w8 ((below_drewN (ja0 _ _) _).trans a6);have bq:=D 7;have c9:=D 8;have bS:=D 9;have bL:=D 10;have br:=D 11;have X:=ah I;clear D I a6 a5 ab ac;go_wp2
                go_ret2
                exact X.out
              . have gB:(BK==K.file)=false:=by simpa using H
                by_cases hN:NF=0
                . have F:=(M.out _ rfl).2.2.2 a7 (λe=>H e.2) hN
                  have gN:decide (0<NF)=false:=decide_eq_false (by omega)
                  clear M ai;obtain⟨⟨cl,cA⟩,cN,I⟩:=ac.out F aR;have X:=ah (λn=>(R.out _ _ I).drewN n)
                  clear I a5 ab ac;go_wp2
                  go_quiet (fail)
                  go_wp2
                  go_ret2
                  exact X.out _
                . have F:=(M.out _ rfl).2.2.1 hN
                  have gN:decide (0<NF)=true:=decide_eq_true (by omega)
                  clear M ai;go_wp2
                  go_quiet (fail)
                  go_wp2_with fail
                  refine(a5.out _).mono ?_;rintro e w8 ⟨rfl,a6⟩;obtain⟨⟨a1,a2,a3,a4,t7,t8,t9,b5,b3⟩,D,I⟩:=ab.out F w8 ((below_drewN (ja0 _ _) _).trans a6);have bq:=D 7;have c9:=D 8;have bS:=D 9;have bL:=D 10;have br:=D 11;have X:=ah I;clear D I a6 a5 ab ac;go_wp2
                  go_ret2
                  exact X.out
            . have g2:(K.kind==2)=false:=by simpa using T
              by_cases hN:NF=0
              . have F:=(M.out _ rfl).2.2.2 a7 (λe=>T e.1) hN
                have gN:decide (0<NF)=false:=decide_eq_false (by omega)
                clear M ai;obtain⟨⟨cl,cA⟩,cN,I⟩:=ac.out F aR;have X:=ah (λn=>(R.out _ _ I).drewN n)
                clear I a5 ab ac;go_wp2
                go_quiet (fail)
                go_wp2
                go_ret2
                exact X.out _
              . have F:=(M.out _ rfl).2.2.1 hN
                have gN:decide (0<NF)=true:=decide_eq_true (by omega)
                clear M ai;go_wp2
                go_quiet (fail)
                go_wp2_with fail
                refine(a5.out _).mono ?_;rintro e w8 ⟨rfl,a6⟩;obtain⟨⟨a1,a2,a3,a4,t7,t8,t9,b5,b3⟩,D,I⟩:=ab.out F w8 ((below_drewN (ja0 _ _) _).trans a6);have bq:=D 7;have c9:=D 8;have bS:=D 9;have bL:=D 10;have br:=D 11;have X:=ah I;clear D I a6 a5 ab ac;go_wp2
                go_ret2
                exact X.out
        . have gW:decide (0<WF)=true:=decide_eq_true (by omega)
          have HE:=ah (R.out _ _ (a8.out WF Y bu.out av bN.out));clear aE J P N a8 R;go_wp2
          go_ret2
          exact HE.out
      . have gD:decide (0<DF)=true:=decide_eq_true (by omega)
        obtain⟨Z5,aL⟩:=aM.out;have HE:=ah (R.out _ _ (a8.out DF (B.alloc (.cells #[K.root,K.kind,K.file,K.rate,K.burst] 82)) (by rw[ci.out,if_neg an]) an (((aL.below b6.out).bel).alloc ((aL.below b6.out).bel).size _)))
        clear aL aM aq a0 J P N a8 R;go_wp2
        go_ret2
        exact HE.out
def mW(sp bp:Nat)(a:Option Addr)(ln cap:Nat)(kd fl:Int):Obj:=.cells #[.pointer (S ⟨sp,6,O⟩),.slice a ln cap,kd,fl,(2:Int),.pointer O,bp,(-1:Int)] 254 (0,0)
def Ob{sp bp ln cap:Nat}{a:Option Addr}{kd fl:Int}(w:ω):∀ W:ω,β (w.alloc (mW sp bp a ln cap kd fl)).heap.size (w.alloc (mW sp bp a ln cap kd fl)) W->W.heap[w.heap.size]?=S (mW sp bp a ln cap kd fl):=λW c=>by
 have b:w.heap.size<(w.alloc (mW sp bp a ln cap kd fl)).heap.size:=by simp
 exact(c.block _ b).trans (heap_alloc_new w _)
def EP{sp bp ln cap b:Nat}{a:Option Addr}{kd fl:Int}{W:ω}(h:W.heap[b]?=S (mW sp bp a ln cap kd fl)):W.cell? ⟨b,0,O⟩=S (.pointer (S ⟨sp,6,O⟩))/\W.cell? ⟨b,1,O⟩=S (.slice a ln cap)/\W.cell? ⟨b,2,O⟩=S (kd:υ)/\W.cell? ⟨b,3,O⟩=S (fl:υ)/\W.cell? ⟨b,5,O⟩=S (.pointer O)/\W.frozen? ⟨b,5,O⟩=false:=by
 unfold mW at h;refine⟨?_,?_,?_,?_,?_,?_⟩<;>simp[World.cell?,World.frozen?,h]
def FN{sp m:Nat}{Q:Nat->Ih}{s:SV}(d:aP)(w:ω)(h:bD w sp Q s m)(hf:newF s d=0) :
    κ prog 125 #[.pointer (some ⟨sp,6,none⟩),.agg #[d.root,d.kind,d.file,d.rate,d.burst]] w λe y=>∃(i j bp C:Nat) (a:Option Addr) (cap:Nat),e=.returned (.tuple #[i,.nilIface])/\PJ y sp i j bp a cap Q s m C (gI s d)/\(w.heap.size<=i/\w.heap.size<=j/\w.heap.size<=bp/\∀ g o,a=some ⟨g,o,none⟩->w.heap.size<=g)/\β w w y/\JOk s C (gI s d):=by
  have z:=AV h.ok hf;obtain⟨C,Z,bB,bN⟩:=z.jok;have L:Hid (β w w (w.alloc (bF d))):=(ja0 _ _).alloc (ja1 _) _;have K:=ah (oZ d w);have a7:=ah (sZ d w);have HI:Hid ((prog.info? 82).map (·.size)=some ([.int .i64 d.root,.int .i64 d.kind,.int .i64 d.file,.int .i64 d.rate,.int .i64 d.burst]:List υ).length):=uq
  have a2:Hid (∀ W:ω,β w w W->κ prog 77 #[.pointer (some ⟨sp,6,none⟩),d.root] W λe y=>∃(a:Option Addr) (cap:Nat),e=.returned (.tuple #[.slice a (s.walk d.root).1.length cap,.nilIface])/\Nums y a (s.walk d.root).1/\(∀ g o,a=some ⟨g,o,none⟩->W.heap.size<=g/\g<y.heap.size/\(s.walk d.root).1.length<=cap)/\β W W y):=λW q=>by
    have:=uN d.root W (h.below q)
    rw[z.w0,aN] at this;exact this
  have bm:=ah λW=>S4.Dk d.rate d.burst W z.rt z.bu
  obtain⟨hg,b3,c7,_⟩:=s.walk_good d.root
  have Y:Hid (∀(W:ω) (a:Option Addr) (cap:Nat),β w w W->Nums W a (s.walk d.root).1->(s.walk d.root).1.length<=cap->κ prog 192 #[.pointer (some ⟨sp,6,none⟩),.slice a (s.walk d.root).1.length cap,.agg #[d.root,d.kind,d.file,d.rate,d.burst]] W λe y=>e=.returned .nilIface/\β W W y):=λW a cap q hn hc=>by
    have:=Dw (cap:=cap) _ d W (h.below q) hn hg z.ne (by omega) hc
    rw[z.ck,aN] at this;exact this
  obtain⟨r,hl⟩:=SV.IU z.w0 z.ne;obtain⟨v,hv,bX⟩:=hg d.root (by rw[hl];exact jag)
  obtain⟨r0,r5,_⟩:=SV.dS hv
  have bc:v.h.c=((bY s d).n:Int):=by
    have G:=hg.gJ z.ne;have M:=Z.n;omega
  have D:Hid (∀ W:ω,β w w W->κ prog 95 #[(Q d.root.toNat).p] W λe y=>e=.returned (.agg #[((bY s d).n:Int),v.h.p,v.h.b])/\β W W y):=λW q=>by
    have:=qo W ((h.below q).gY hv).1
    rw[bc] at this;exact this
  have ad:=ah λW (q:β w w W)=>(h.below q).jW hv
  have F:=ah λW i cap a (q:β w w W) (hd:JHd W i sp a cap (bY s d)) (hn:Nums W a (bY s d).l)=>Vo W hd (h.below q) hn Z
  have B:Hid (∀(W:ω) (i j bp cap:Nat) (a:Option Addr),β w w W->W.heap[i]?=some (mW sp bp a (bY s d).l.length cap d.kind d.file)->w.heap.size<=i->S4.Three 280 W bp d.rate d.burst d.burst->w.heap.size<=bp->S4.iq W j (bY s d).n (jR s (bY s d) (bY s d).n)->w.heap.size<=j->Nums W a (bY s d).l->(∀ g o,a=some ⟨g,o,none⟩->w.heap.size<=g/\g≠i/\g≠j/\g≠bp)->(bY s d).l.length<=cap ->
      PJ (W.setCell ⟨i,5,none⟩ j) sp i j bp a cap Q s m C (gI s d)/\β w w (W.setCell ⟨i,5,none⟩ j)):=λW i j bp cap a q G hj M a6 h3 a8 h4 P h6=>by
    have n1:j≠i:=λe=>by
      have b0:W.heap[j]?=_:=h3;rw[e,G] at b0;simp[mW] at b0
    have n2:bp≠i:=λe=>by
      have aR:W.heap[bp]?=_:=M;rw[e,G] at aR;simp[mW] at aR
    have bw:=(h.below q);have b2:∀ k,k<w.heap.size->k≠i:=λk u e=>by omega
    have ba:sp<w.heap.size:=h.lt;refine⟨⟨bw.keep (heap_setCell_other _ _ _ _ (b2 sp ba)) (λk u=>heap_setCell_other _ _ _ _ (b2 k (h.gQ u))),⟨?_,(heap_setCell_other W ⟨i,5,none⟩ j _ n1).trans h3,(heap_setCell_other W ⟨i,5,none⟩ bp _ n2).trans M⟩,?_,?_,Z.newX _,h6⟩,q.setCell (p:=⟨i,5,none⟩) hj _⟩
    . rw[heap_setCell_same W i 5 _ _ _ G];rfl
    . exact h4.keep λg o e=>heap_setCell_other _ _ _ _ (P g o e).2.1
    . rintro g o e (u|u|u|u)
      . have:=h.gQ u;have:=(P g o e).1;omega
      . exact(P g o e).2.1 u
      . exact(P g o e).2.2.1 u
      . exact(P g o e).2.2.2 u
  have aq:(bY s d).l=(s.walk d.root).1:=rfl;have b1:Hid (JOk s C (gI s d)):=Z.newX _;have br:Hid ((bY s d).kind=d.kind/\(bY s d).file=d.file):=⟨rfl,rfl⟩;have a9:=z.ne;rw[aq] at B
  have V:Hid (∀(W:ω) (i bp cap:Nat) (a:Option Addr),W.heap[i]?=some (mW sp bp a (s.walk d.root).1.length cap d.kind d.file)->(s.walk d.root).1.length<=cap->JHd W i sp a cap (bY s d)):=λW i bp cap a q hc=>by
    obtain⟨q0,q1,q2,q3,_⟩:=EP q;exact⟨q0,q1,q2,q3,hc⟩
  rw[aq] at F;generalize gI s d=J at B b1 |-;generalize bL:bY s d=J0 at D F B br V;generalize s.walk d.root=R at a2 Y F B V b3 a9;obtain⟨l,f⟩:=R;simp only at a2 Y F B V b3 a9;have a8:0<l.length:=List.length_pos_iff.2 a9;have bE:((l.length:Int)==0)=false:=by simp;omega
  have f1:=tC (J0.n:Int) v.h.p v.h.b;obtain⟨rk,b8⟩:∃ rk:Nat,d.root=(rk:Int):=⟨d.root.toNat,by omega⟩
  have bd:d.root.toNat=rk:=by omega
  rw[bd] at D ad;have c6:(0:Int)<=(rk:Int):=by omega
  have c8:(rk:Int)<5:=by omega
  have bb:Hid (sp<w.heap.size):=h.lt;generalize (Q rk).p=xr at D ad;generalize v.h.p=vp at D f1;generalize v.h.b=vb at D f1;generalize jR s J0 J0.n=X at F B;generalize J0.n=nn at D F B f1;unfold bF at L K a7;rw[b8] at a2 Y HI K L a7 |-;obtain⟨d0,d1,d2,d3,d4⟩:=K.out _ (ja0 _ _);go_enter func125,ntmps125
  go_wp2_with fail
  refine(a2.out _ L.out).mono ?_;rintro e w1 ⟨a,cap,rfl,ar,b6,ap⟩;have an:=ah (L.out.trans (ap.mono L.out.size));have ax:=ah ap;obtain⟨g,o,rfl,_⟩:=ar 0 a8;have bj:=ah ar;obtain⟨bn,bR,aa⟩:=b6 g o rfl;have av:w.heap.size<=g:=ja4 L.out.size bn;obtain⟨q0,q1,q2,q3,q4⟩:=K.out _ ap;go_wp2_with fail
  refine(bm.out _).mono ?_;rintro e w2 ⟨rfl,bq,af⟩;have aM:=ah bq;have ae:=ah (an.out.trans (af.mono an.out.size));have az:=ah (bj.out.below af);have bk:=ah (Y.out w2 (some ⟨g,o,none⟩) cap ae.out az.out aa);have ag:=ah (ax.out.trans (af.mono ax.out.size));have bh:=ah (a7.out _ ag.out);have a6  := an.out.size;have b5:g≠w1.heap.size:=by omega
  generalize w1.heap.size=bp at aM a6 b5 |-;go_wp2_with (refine wpList_load_mid (by rfl) 82 (.tmp 3) (by rfl) w.heap.size 0 (by rfl) [(rk:Int),d.kind,d.file,d.rate,d.burst] _ bh.out underlying82 rfl HI.out ?_)
  refine cEq bk.out λt a3=>?_
  have ai:=ah (ae.out.trans (a3.mono ae.out.size));have al:=ah (ag.out.trans (a3.mono ag.out.size));have aD:=ah (az.out.below a3);have bs:=ah (aM.out.below a3);obtain⟨q0,q1,q2,q3,q4⟩:=K.out _ al.out
  have bS:g<t.heap.size:=by
    obtain⟨I,S,E,ec⟩:=aD.out 0 a8;cases E
    exact ja2 _ _ ec
  have a5:Hid (β w w (t.alloc (mW sp bp (some ⟨g,o,none⟩) l.length cap d.kind d.file))):=ai.out.alloc ai.out.size _;have N:Hid (β t t (t.alloc (mW sp bp (some ⟨g,o,none⟩) l.length cap d.kind d.file))):=(ja0 _ _).alloc (ja1 _) _;have H:=ah (Ob (sp:=sp) (bp:=bp) (ln:=l.length) (cap:=cap) (a:=some ⟨g,o,none⟩) (kd:=d.kind) (fl:=d.file) t);have am  := ai.out.size;unfold mW at a5 N H;go_wp2_with fail
  generalize bi:t.alloc (.cells #[.pointer (some ⟨sp,6,none⟩),.slice (some ⟨g,o,none⟩) l.length cap,d.kind,d.file,(2:Int),.pointer none,bp,(-1:Int)] 254)=x at a5 N H |-;have ac:=ah (aD.out.below N.out);have bt:=ah (bs.out.below N.out);have aL:=ah (al.out.trans (N.out.mono al.out.size));have aw:g≠t.heap.size:=by omega
  have b7:t.heap.size<x.heap.size:=by rw[<- bi];simp
  generalize t.heap.size=i at H am aw b7 |-;obtain⟨U,_⟩:=K.out _ aL.out.drew;have e1:=ad.out _ a5.out.drew;have ao:Hid (β w w x.drew):=a5.out.drew;have aE:Hid (β x x x.drew):=(ja0 _ _).drew;have c0:w.heap.size<x.heap.size:=by have:=ja2 _ _ U;exact this
  have be:w.heap.size≠i:=λe=>by
    have G:=H.out x (ja0 _ _);have M:=(a7.out _ aL.out) 0 _ rfl;rw[<- e] at G;have h3:x.cell? ⟨w,0,none⟩=some (.pointer (some ⟨sp,6,none⟩)):=by simp[World.cell?,G]
    rw[h3] at M;cases M
  have bA:sp≠i:=by have:=bb.out;omega
  go_region_held3 (λW=>W.cell? ⟨w,0,none⟩=some (.int .i64 (rk:Int))/\W.cell? ⟨sp,6+rk,none⟩=some (xr:υ))
    (first|(exact⟨U,e1⟩)|assumption|(exact bv.out))
    (first
      | (go_at_call 95;refine cEq (D.out _ ao.out) λw5 T=>?_;have ab:=ah (ao.out.trans (T.mono ao.out.size));have O:=ah (aE.out.trans (T.mono aE.out.size));have a0:w5.cell? ⟨w,0,none⟩=some (.int .i64 (rk:Int))/\w5.cell? ⟨sp,6+rk,none⟩=some (xr:υ):=⟨(T.cell (p:=⟨w.heap.size,0,none⟩) (ja2 _ _ U)).trans U,(T.cell (p:=⟨sp,6+rk,none⟩) (ja2 _ _ e1)).trans e1⟩;clear T)
      | (go_at_call 193;refine(F.out _ i cap (some ⟨g,o,none⟩) ab.out (V.out _ i bp cap _ (H.out _ O.out) aa) (ac.out.below O.out)).mono ?_;rintro e A ⟨j,rfl,bf,b9,a4⟩;have b4:A.cell? ⟨w,0,none⟩=some (.int .i64 (rk:Int))/\A.cell? ⟨sp,6+rk,none⟩=some (xr:υ):=⟨(a4.cell (p:=⟨w.heap.size,0,none⟩) (ja2 _ _ a0.1)).trans a0.1,(a4.cell (p:=⟨sp,6+rk,none⟩) (ja2 _ _ a0.2)).trans a0.2⟩;have a1:=ah (O.out.trans (a4.mono O.out.size));obtain⟨_,_,_,_,c5,f5⟩:=EP (H.out _ a1.out);have bv:Hid ((A.setCell ⟨i,5,none⟩ j).cell? ⟨w,0,none⟩=some (.int .i64 (rk:Int))/\(A.setCell ⟨i,5,none⟩ j).cell? ⟨sp,6+rk,none⟩=some (xr:υ)):=⟨(jad (heap_setCell_other A ⟨i,5,none⟩ w.heap.size _ be)).trans b4.1,(jad (heap_setCell_other A ⟨i,5,none⟩ sp _ bA)).trans b4.2⟩))
  have bl:Hid (β w w A):=ab.out.trans (a4.mono ab.out.size);have bO  := ja4 O.out.size b9;have c9:g<x.heap.size:=ja2 _ _ (show x.cell? ⟨g,o+0,none⟩=_ by obtain⟨I,S,E,ec⟩:=ac.out 0 a8;cases E;exact ec)
  obtain⟨hP,hB⟩:=B.out A i j bp cap (some ⟨g,o,none⟩) bl.out (H.out _ a1.out) am (bt.out.below a1.out) a6 bf (by omega) (ac.out.below a1.out) (λI S E=>by cases E;exact⟨av,aw,by omega,b5⟩) aa
  have HP:=ah hP;have HB:=ah hB;have bo:Hid (w.heap.size<=i/\w.heap.size<=j/\w.heap.size<=bp/\∀ I S,some (⟨g,o,none⟩:Addr)=some ⟨I,S,none⟩->w.heap.size<=I):=⟨am,by omega,a6,λI S E=>by cases E;exact av⟩
  go_wp2
  go_ret2
  exact⟨i,j,bp,C,some ⟨g,o,none⟩,cap,rfl,HP.out,bo.out,HB.out,b1.out⟩
def Oc{sp d i bp cap m C:Nat}{a:Option Addr}{n:Nat->Ih}{s:SV}{j:JV}(w:ω)(h:PJ w sp d i bp a cap n s m C j)(A:m+10<1000000000) :
  κ prog 130 #[d] w λe o=>e=.returned (erV (dh s j))/\cO sp d i bp a cap n s (dU s j) (m+10) C (eG s j) w o:=by
 have f:=ah (Ip w h.job h.ok.set);have t:=ah (N8 w h);have g:=ah (N9 w h A);have y:Hid (∀(W:ω) (z:SV),cO sp d i bp a cap n s z (m+10) C j w W->κ prog 131 #[d,false] W λe o=>e=.returned (.tuple #[])/\cO sp d i bp a cap n s z (m+10) C (j.at 5) w o):=λW z ⟨B,x,c⟩=>(zQ false W x).mono λe o ⟨b,v⟩=>⟨b,cO.after c v⟩
 have u:Hid (cO sp d i bp a cap n s s (m+10) C j w w):=(cO.refl h).more (by omega)
 obtain⟨F,c1,c2,c3,_⟩:=h.job.cells;unfold dh dU eG;by_cases b:j.state=3
 .rw[b] at f
  by_cases c:j.kind=2
  .rw[if_pos b,if_pos b,if_pos c,if_pos c]
   generalize D:dL s (j.l.headD 0) j.file=R at g |-;by_cases k:R.2=0
   .rw[if_neg (λe=>e.2.2 k)]
    rw[k,aN] at g;rw[k,aN];go_enter func130,ntmps130
    go_wp2_with fail
    refine cSt f.out ?_;go_wp2_with fail
    refine cHd g.out λr q=>?_
    go_wp2
    go_ret
    exact⟨rfl,q.out⟩
   .rw[if_pos ⟨b,c,k⟩]
    rw[bJ k] at g |-;go_enter func130,ntmps130
    go_wp2_with fail
    refine cSt f.out ?_;go_wp2_with fail
    refine cEq g.out λr hd=>?_
    go_wp2_with fail
    refine cHd (y.out _ _ hd) λE q=>?_
    go_wp2
    go_ret
    exact⟨rfl,q.out⟩
  .rw[if_pos b,if_pos b,if_neg c,if_neg c,if_neg (λe=>c e.2.1)]
   generalize s.walk j.file=R at t |-;go_enter func130,ntmps130
   go_wp2_with fail
   refine cSt f.out ?_;go_wp2_with fail
   refine cEq t.out λr hd=>?_
   go_wp2
   go_ret
   exact⟨rfl,(hd.more (show m<=m+10 by omega))⟩
 .have g3:(j.state != 3)=true:=by simpa using b
  rw[if_neg b,if_neg b,if_neg (λe=>b e.1),bJ (by decide)]
  generalize j.state=st at f g3;go_enter func130,ntmps130
  go_wp2_with fail
  refine cSt f.out ?_;go_wp2
  go_ret
  exact⟨rfl,u.out⟩
def PJ.IY{w g f:ω}{sp b d bp cap m C:Nat}{a:Option Addr}{q l:Nat->Ih}{s z:SV}{j:JV}{k:Nat}(E:k<64)(h:PJ g sp b d bp a cap l z m C j.took)(y:Moved (fpP q s b d bp) w (fpP l z b d bp) g)(D:S4.iq f d j.n (S4.eY j.n j.x (k:Int) false))(t:S4.Kept (λi=>i=d) g f) :
  f.cell? ⟨b,7,O⟩=S (j.last:υ)/\f.frozen? ⟨b,7,O⟩=false/\cO sp b d bp a cap q s z m C (j.went (k:Int)) w (f.setCell ⟨b,7,O⟩ (k:Int)):=by
 obtain⟨o,v⟩:=h.qG   D t;obtain⟨u,r⟩:=o.BU (c:=(k:Int)) ⟨by omega,by omega⟩
 obtain⟨_,_,_,_,_,_,_,B,_,A⟩:=o.job.cells;exact⟨B,A,l,u,y.trans (v.trans r)⟩
def Oh{sp b d bp cap m C:Nat}{a:Option Addr}{c:Nat->Ih}{s:SV}{j:JV}(w:ω)(h:PJ w sp b d bp a cap c s m C j)(g:j.stage≠1) :
  κ prog 137 #[b] w λe f=>e=.returned (.tuple #[false,erV 9])/\cO sp b d bp a cap c s s (m+10) C j w f:=by
 obtain⟨n,c1,c2,c3,c4,i,q,o,l,k⟩:=h.job.cells;have g1:(j.stage != 1)=true:=by simpa using g
 rw[bJ (by decide)]
 go_enter func137,ntmps137
 go_wp2
 go_ret2
 exact⟨rfl,((cO.refl h).more (show m<=m+10 by omega))⟩
def Og{sp b c bp cap m C:Nat}{a:Option Addr}{l:Nat->Ih}{s:SV}{j:JV}(w:ω)(h:PJ w sp b c bp a cap l s m C j)(y:S4.Tab w)(z:j.stage=1)(G:j.some=false) :
    κ prog 137 #[b] w λe f=>e=.returned (.tuple #[false,.nilIface])/\cO sp b c bp a cap l s s (m+10) C j w f:=by
  obtain⟨B,c1,c2,c3,c4,n,H,k,M,K⟩:=h.job.cells;rw[z] at c4;have i:Hid (β w w w.drew):=(ja0 _ _).drew;have v:S4.jd j.x (S4.elems j.x):=⟨rfl⟩;have d:Hid (κ prog 200 #[c,(j.last+1:Int)] w.drew λe f=>e=.returned (.tuple #[j.pick,j.some])/\β w.drew.heap.size w.drew f):=S4.Cc (S4.elems j.x) v (j.last+1) w.drew (h.job.set.below i.out) h.ok.set y
  have q:Hid (∀ W:ω,β w w W->W.cell? ⟨b,5,O⟩=S (c:υ)/\W.cell? ⟨b,7,O⟩=S (j.last:υ)):=λW g=>by
    obtain⟨B,c1,c2,c3,c4,n,H,k,_⟩:=(h.below g).job.cells;exact⟨n,k⟩
  have E:=h.ok.last;have D:IntKind.i64.wrap (j.last+1)=j.last+1:=ja8 _ (by omega)
  have F:w.drew.cell? ⟨b,5,O⟩=S (c:υ):=n;have o  := k;rw[G] at d;have u:Hid (∀ W:ω,β w w W->cO sp b c bp a cap l s s (m+10) C j w W):=λW g=>(cO.below h g).more (by omega)
  generalize j.pick=N at d;generalize j.last=A at d E D o q;go_enter func137,ntmps137
  go_wp2
  go_region_held3 (λW=>W.cell? ⟨b,5,O⟩=S (c:υ)/\W.cell? ⟨b,7,O⟩=S (A:υ))
    (first|(exact⟨F,o⟩)|assumption)
    (first
      | (go_at_call 200;refine cEq d.out λJ t=>?_;have r:=ah (i.out.trans (t.mono i.out.size));have L:=q.out _ r.out;clear t))
  have I:=ah (u.out _ r.out);go_wp2
  go_ret2
  exact⟨rfl,I.out⟩
def Oi{sp c g bp cap m C:Nat}{a:Option Addr}{r:Nat->Ih}{s:SV}{j:JV}(w:ω)(h:PJ w sp c g bp a cap r s m C j)(H:S4.Tab w)(f:j.stage=1)(J:j.some=true)(B:S4.inB 4 j.lv=false) :
    κ prog 137 #[c] w λe b=>e=.returned (.tuple #[false,.nilIface])/\cO sp c g bp a cap r s s (m+10) C j w b:=by
  have u:=ah h;obtain⟨z,c1,c2,c3,c4,l,t,i,U,L⟩:=h.job.cells;rw[f] at c4;have v:Hid (β w w w.drew):=(ja0 _ _).drew;have G:S4.jd j.x (S4.elems j.x):=⟨rfl⟩;have q:Hid (κ prog 200 #[g,(j.last+1:Int)] w.drew λe b=>e=.returned (.tuple #[j.pick,j.some])/\β w.drew.heap.size w.drew b):=S4.Cc (S4.elems j.x) G (j.last+1) w.drew (h.job.set.below v.out) h.ok.set H
  have A:Hid (∀ W:ω,β w w W->W.cell? ⟨c,5,none⟩=some (g:υ)/\W.cell? ⟨c,7,none⟩=some (j.last:υ)):=λW d=>by
    obtain⟨z,c1,c2,c3,c4,l,t,i,_⟩:=(h.below d).job.cells;exact⟨l,i⟩
  have R:=h.ok.last;have Q:IntKind.i64.wrap (j.last+1)=j.last+1:=ja8 _ (by omega)
  have S:w.drew.cell? ⟨c,5,none⟩=some (g:υ):=l;have I:w.drew.cell? ⟨c,7,none⟩=some (j.last:υ):=i;rw[J] at q
  have D:Hid (∀ W:ω,β w w W->W.cell? ⟨c,6,none⟩=some (bp:υ)):=λW d=>by
    obtain⟨z,c1,c2,c3,c4,l,t,i,_⟩:=(h.below d).job.cells;exact t
  have y:Hid (∀ W:ω,β w w W->κ prog 201 #[bp,(4:Int)] W λe b=>e=.returned (.bool (S4.inB 4 j.lv))/\S4.Three 280 b bp j.rate j.burst (S4.jq j.lv 4)/\S4.Kept (λk=>k=bp) W b):=λW d=>S4.Dl 4 W (h.job.bkt.below d) ⟨h.ok.lv.1,by have:=h.ok.lv;omega⟩
  have F:S4.jq j.lv 4=j.lv:=by unfold S4.jq;rw[B];rfl
  rw[B,F] at y
  have E:Hid (∀ W b:ω,β w w W->S4.Three 280 b bp j.rate j.burst j.lv->S4.Kept (λk=>k=bp) W b->cO sp c g bp a cap r s s (m+10) C j w b):=λW b d f o=>by
    obtain⟨P,T⟩:=(u.out.below d).rU f o ⟨u.out.ok.lv.1,u.out.ok.lv.2.1⟩;exact⟨r,P.more (by omega),(Moved.of_below d).trans T⟩
  clear h u H G J f z c1 c2 c3 l t i U L B F;generalize j.pick=Y at q;generalize j.last=N at q R Q I A;go_enter func137,ntmps137
  go_wp2
  go_region_held3 (λW=>W.cell? ⟨c,5,none⟩=some (g:υ)/\W.cell? ⟨c,7,none⟩=some (N:υ))
    (first|(exact⟨S,I⟩)|assumption)
    (first
      | (go_at_call 200;refine q.out.mono ?_;rintro e X ⟨rfl,K⟩;have n:=ah (v.out.trans (K.mono v.out.size));have O:=A.out _ n.out;clear K))
  have M:=D.out _ n.out;clear O D A;go_wp2_with fail
  refine(y.out _ n.out).mono ?_;rintro e Z ⟨rfl,f,o⟩;have V:=ah (E.out _ _ n.out f o);clear f o M y E n;go_wp2
  go_ret2
  exact⟨rfl,V.out⟩
def Au{sp c d bp cap m C:Nat}{a:Option Addr}{z:Nat->Ih}{s:SV}{j:JV}{B:Bool}{V:υ}{S':SV}{Q:JV}(w:ω)(h:PJ w sp c d bp a cap z s m C j)(hT:S4.Tab w)(hm:m+10<1000000000)(f:j.stage=1)(a0:j.some=true)(L:S4.inB 4 j.lv=true)
    (H:j.iL s j.pick=false/\B=true/\V=.nilIface/\S'=s/\Q=j.went j.pick\/j.iL s j.pick=true/\S'=(j.moved s j.pick).1/\((j.moved s j.pick).2=0/\B=true/\V=.nilIface/\Q=j.went j.pick\/(j.moved s j.pick).2≠0/\B=false/\V=.iface 96 (.int .i64 (j.moved s j.pick).2)/\Q=j.fell)) :
    κ prog 137 #[c] w λe b=>e=.returned (.tuple #[B,V])/\cO sp c d bp a cap z s S' (m+10) C Q w b:=by
  have HP:=ah h;obtain⟨c0,c1,c2,c3,c4,K,S,v,f4,U⟩:=h.job.cells;rw[f] at c4;have P:Hid (β w w w.drew):=(ja0 _ _).drew;have a7:S4.jd j.x (S4.elems j.x):=⟨rfl⟩;have E:Hid (κ prog 200 #[d,(j.last+1:Int)] w.drew λe b=>e=.returned (.tuple #[j.pick,j.some])/\β w.drew.heap.size w.drew b):=S4.Cc (S4.elems j.x) a7 (j.last+1) w.drew (h.job.set.below P.out) h.ok.set hT
  have HC:Hid (∀ W:ω,β w w W->W.cell? ⟨c,5,none⟩=some (d:υ)/\W.cell? ⟨c,7,none⟩=some (j.last:υ)):=λW o=>by
    obtain⟨c0,c1,c2,c3,c4,K,S,v,_⟩:=(h.below o).job.cells;exact⟨K,v⟩
  have ae:=h.ok.last;have ad:IntKind.i64.wrap (j.last+1)=j.last+1:=ja8 _ (by omega)
  have d5:w.drew.cell? ⟨c,5,none⟩=some (d:υ):=K;have Z:w.drew.cell? ⟨c,7,none⟩=some (j.last:υ):=v;rw[a0] at E
  have a4:Hid (∀ W:ω,β w w W->W.cell? ⟨c,6,none⟩=some (bp:υ)):=λW o=>by
    obtain⟨c0,c1,c2,c3,c4,K,S,v,_⟩:=(h.below o).job.cells;exact S
  have X:Hid (∀ W:ω,β w w W->κ prog 201 #[bp,(4:Int)] W λe b=>e=.returned (.bool (S4.inB 4 j.lv))/\S4.Three 280 b bp j.rate j.burst (S4.jq j.lv 4)/\S4.Kept (λk=>k=bp) W b):=λW o=>S4.Dl 4 W (h.job.bkt.below o) ⟨h.ok.lv.1,by have:=h.ok.lv;omega⟩
  have Y:4<=j.lv:=by unfold S4.inB at L;simp at L;omega
  have a6:S4.jq j.lv 4=j.lv-4:=by unfold S4.jq;rw[L];rfl
  rw[L,a6] at X
  have a5:Hid (∀ W b:ω,β w w W->S4.Three 280 b bp j.rate j.burst (j.lv-4)->S4.Kept (λk=>k=bp) W b->PJ b sp c d bp a cap z s m C j.took/\Moved (fpP z s c d bp) w (fpP z s c d bp) b):=λW b o f g=>by
    obtain⟨p1,m1⟩:=(HP.out.below o).rU f g ⟨by omega,by have:=HP.out.ok.lv;omega⟩
    exact⟨p1,(Moved.of_below o).trans m1⟩
  obtain⟨k,aa,af,a3⟩:=h.ok.pick a0;rw[aa] at E H;clear h HP hT a7 a0 f c0 c1 c2 c3 K S v f4 U L a6 aa Y;generalize ai:j.last=ac at E ae ad Z HC;go_enter func137,ntmps137
  go_wp2
  go_region_held3 (λW=>W.cell? ⟨c,5,none⟩=some (d:υ)/\W.cell? ⟨c,7,none⟩=some (ac:υ))
    (first|(exact⟨d5,Z⟩)|assumption)
    (first
      | (go_at_call 200;refine E.out.mono ?_;rintro e w1 ⟨rfl,ab⟩;have F:=ah (P.out.trans (ab.mono P.out.size));have ag:=HC.out _ F.out;clear ab))
  have e6:=a4.out _ F.out;clear ag a4 HC d5 Z E;go_wp2_with fail
  refine(X.out _ F.out).mono ?_;rintro e w2 ⟨rfl,f,g⟩;obtain⟨q,m2⟩:=a5.out _ _ F.out f g;have O:=ah m2;have N:=ah q;have r:=ah (IX (k:Int) w2 (q.job.hd q.cap) q.shelf q.nums q.ok);rw[show j.took.iL s (k:Int)=j.iL s (k:Int) from rfl] at r
  clear f g q m2 e6 X a5 F P;rcases H with⟨a1,rfl,rfl,rfl,rfl⟩|⟨a1,hS,H⟩
  . rw[a1] at r
    go_wp2_with fail
    refine r.out.mono ?_;rintro e u ⟨rfl,D⟩;have l:=ah (N.out.below D);have y:=ah (O.out.trans (Moved.of_below D));clear D r N O;have T:=l.out.job.cells.2.2.2.2.2.1;have A:Hid (κ prog 204 #[d,(k:Int),false] u λe b=>e=.returned (.bool (S4.fK j.n j.x (k:Int) false))/\S4.iq b d j.n (S4.eY j.n j.x (k:Int) false)/\S4.Kept (λi=>i=d) u b):=S4.yO (k:Int) false u l.out.job.set l.out.ok.set
    generalize S4.fK j.n j.x (k:Int) false=pb at A;go_wp2_with fail
    refine A.out.mono ?_;rintro e w6 ⟨rfl,f,g⟩;obtain⟨v,U,hd⟩:=PJ.IY a3 l.out y.out f g;have M:=ah (hd.more (show m<=m+10 by omega))
    clear hd f g A T l y;go_wp2
    go_ret2
    exact⟨rfl,M.out⟩
  . rw[a1] at r
    go_wp2_with fail
    refine r.out.mono ?_;rintro e u ⟨rfl,D⟩;have l:=ah (N.out.below D);have y:=ah (O.out.trans (Moved.of_below D));clear D r N O;have t:Hid (κ prog 203 #[c,(k:Int)] u λe b=>e=.returned (erV (j.moved s (k:Int)).2)/\cO sp c d bp a cap z s (j.moved s (k:Int)).1 (m+10) C j.took u b):=Oa k u l.out af hm
    generalize a9:j.moved s (k:Int)=R at t H;rcases H with⟨hR,rfl,rfl,rfl⟩|⟨hR,rfl,rfl,rfl⟩
    . rw[hR,aN] at t
      go_wp2_with fail
      refine t.out.mono ?_;rintro e w4 ⟨rfl,zs,I,G⟩;have J:=ah I;have a2:=ah (y.out.trans G);clear I G t l y;have T:=J.out.job.cells.2.2.2.2.2.1;have A:Hid (κ prog 204 #[d,(k:Int),false] w4 λe b=>e=.returned (.bool (S4.fK j.n j.x (k:Int) false))/\S4.iq b d j.n (S4.eY j.n j.x (k:Int) false)/\S4.Kept (λi=>i=d) w4 b):=S4.yO (k:Int) false w4 J.out.job.set J.out.ok.set
      generalize S4.fK j.n j.x (k:Int) false=pb at A;go_wp2_with fail
      refine A.out.mono ?_;rintro e w6 ⟨rfl,f,g⟩;obtain⟨v,U,hd⟩:=PJ.IY a3 J.out a2.out f g;have M:=ah (hd.more (show m+10<=m+10 by omega))
      clear hd f g A T J a2;go_wp2
      go_ret2
      exact⟨rfl,by rw[hS,a9];exact M.out⟩
    . rw[bJ hR] at t
      go_wp2_with fail
      refine t.out.mono ?_;rintro e w4 ⟨rfl,zs,I,G⟩;have a8:Hid (κ prog 131 #[c,false] w4 λe b=>e=.returned (.tuple #[])/\cO sp c d bp a cap z s R.1 (m+10) C j.fell w b):=(zQ false w4 I).mono λe b ⟨h3,Y⟩=>⟨h3,cO.after (y.out.trans G) Y⟩
      clear I G t l y;go_wp2_with fail
      refine a8.out.mono ?_;rintro e w5 ⟨rfl,hd⟩;have M:=ah hd;clear hd a8;go_wp2
      go_ret2
      exact⟨rfl,by rw[hS,a9];exact M.out⟩
def Oe{sp k o bp cap m C:Nat}{a:Option Addr}{n:Nat->Ih}{s:SV}{j:JV}(w:ω)(h:PJ w sp k o bp a cap n s m C j)(d:S4.Tab w)(l:m+10<1000000000) :
  κ prog 137 #[k] w λe q=>e=.returned (.tuple #[.bool (fE s j),erV (bW s j)])/\cO sp k o bp a cap n s (stepS s j) (m+10) C (stepJ s j) w q:=by
 unfold fE bW stepS stepJ;by_cases b:j.stage=1
 .cases f:j.some with
  | false =>
   rw[decide_eq_false (λe=>absurd e.2.1 (by decide)),if_pos b,if_neg (λe=>absurd e.1 (by decide)),if_neg (λe=>absurd e.2.1 (by decide)),if_neg (λe=>absurd e.2.1 (by decide)),aN]
   exact Og w h d b f
  | true =>
   cases g:S4.inB 4 j.lv with
   | false =>
    rw[decide_eq_false (λe=>absurd e.2.2.1 (by decide)),if_pos b,if_neg (λe=>absurd e.2.1 (by decide)),if_neg (λe=>absurd e.2.2.1 (by decide)),if_neg (λe=>absurd e.2.2 (by decide)),aN]
    exact Oi w h d b f g
   | true =>
    cases i:j.iL s j.pick with
    | false =>
     rw[decide_eq_true ⟨b,rfl,rfl,λe=>absurd e.1 (by decide)⟩,if_pos b,if_neg (λe=>absurd e.2.2 (by decide)),if_neg (λe=>absurd e.2.2.2 (by decide)),if_pos ⟨b,rfl,rfl⟩,if_neg (λe=>absurd e.1 (by decide)),aN]
     exact Au w h d l b f g (.inl ⟨i,rfl,rfl,rfl,rfl⟩)
    | true =>
     by_cases c:(j.moved s j.pick).2=0
     .rw[decide_eq_true ⟨b,rfl,rfl,λe=>e.2 c⟩,if_pos b,if_pos ⟨rfl,rfl,rfl⟩,if_pos ⟨b,rfl,rfl,rfl⟩,if_pos ⟨b,rfl,rfl⟩,if_neg (λe=>e.2 c),c,aN]
      exact Au w h d l b f g (.inr ⟨i,rfl,.inl ⟨c,rfl,rfl,rfl⟩⟩)
     .rw[decide_eq_false (λe=>e.2.2.2 ⟨rfl,c⟩),if_pos b,if_pos ⟨rfl,rfl,rfl⟩,if_pos ⟨b,rfl,rfl,rfl⟩,if_pos ⟨b,rfl,rfl⟩,if_pos ⟨rfl,c⟩,bJ c]
      exact Au w h d l b f g (.inr ⟨i,rfl,.inr ⟨c,rfl,rfl,rfl⟩⟩)
 .rw[decide_eq_false (λe=>b e.1),if_neg b,if_neg (λe=>b e.1),if_neg (λe=>b e.1)]
  exact Oh w h b
