/- asDev: a device and the document's own one, held against each other; same: an error, told by its number. -/
import Derived.Test.YtbohmhacdgckgaaGreatDoorQOTabOf2
set_option linter.all false
set_option maxHeartbeats 2000000
set_option maxRecDepth 100000
namespace Go.Proofs.YtbohmhacdgckgaaGreatDoor
open Go.RowKit renaming Below->β
open Go renaming World->ω, Value->υ, Calls->κ
open Option renaming none->O, some->S
open Go.Proofs.Tryz Go.RowKit Go.Maps
attribute [local go_sem ↓] Go.wp_at_zero Go.wp_at_succ
def TQ(d:DV)(i:Nat)(b:i<d.fl.length)(k:Nat)(c:k<=d.pend.length):(kT d.pend d.fl k).getD i []=lastTo d i k:=by
 induction k with
 | zero=>rfl
 | succ k a =>
  by_cases e:(d.pend.getD k (0,[])).1=i
  .rw[EY e]
   show((kT _ _ k).set _ _).getD i []=_
   rw[e,ja6,List.getElem?_set_self (by rw[yM];exact b)];rfl
  .rw[EX e,<- (a (by omega))]
   show((kT _ _ k).set _ _).getD i []=_
   simp_all
def BR{d:DV}(b:d.sn)(i:Nat)(a:i<d.fl.length):d.seen.getD i []=lastTo d i d.pend.length:=by
 rw[b];exact TQ d i a _ (ja1 _)
def Dc{B o:Nat}{h:Hd}{q:Rh}{d:DV}(w:ω)(hd:aO B w h d)(b:dA o w q d)(D:d.sn) :
    κ prog 70 #[h.p,q.p] w λe w'=>e=.returned true/\β w w w':=by
  obtain⟨n,c1,c2,c3,c4,J⟩:=b.cells;obtain⟨G,v,E⟩:=ownsRow_shape b.o1;rw[E] at c1;have f  := (b.lt q.p (.inl rfl)).2;have a:Hid (∀ W:ω,β w w W->aO B W h d):=λW m=>hd.keep λk g=>m.block k (hd.lt k g).2
  have r:Hid (∀ W:ω,β w w W->dA o W q d):=λW m=>b.keep λk g=>m.block k (b.lt k g).2
  have C:Hid d.sn:=D;have H:=hd.ok.n2;have l:Hid d.ok:=hd.ok;go_enter func70,ntmps70
  go_wp2
  go_region_held3 (λw'=>β w w w'/\w'.cell? ⟨q.p,0,O⟩=S (.slice (S ⟨q.bf,0,O⟩) d.fl.length q.cf)/\w'.cell? ⟨q.p,1,O⟩=S (.slice G d.pend.length v)/\w'.cell? ⟨q.p,4,O⟩=S (.int .i64 (d.wr:Int)))
    (first|(exact⟨jaP (ja0 _ _),n,c1,c4⟩)|assumption|(exact⟨by assumption,(jav (by assumption) f).trans n,(jav (by assumption) f).trans c1,(jav (by assumption) f).trans c4⟩))
    (first
      | (go_at_call 99;refine(size_any _ (a.out _ ?_)).mono ?_;(· exact(by assumption:β w w _/\_).1);rintro e w' ⟨rfl,rfl⟩)
      | (go_at_call 142;refine(Qv _ (a.out _ ?_)).mono ?_;(· exact(by assumption:β w w _/\_).1);rintro e w' ⟨rfl,rfl⟩)
      | (go_at_call 143;refine(VB _ (a.out _ ?_)).mono ?_;(· exact(by assumption:β w w _/\_).1);rintro e w' ⟨rfl,rfl⟩)
      | (go_at_call 144;refine(Kv _ (a.out _ ?_)).mono ?_;(· exact(by assumption:β w w _/\_).1);rintro e w' ⟨rfl,F⟩;have K:=jaB (by assumption:β w w _/\_).1 (F.mono (by assumption:β w w _/\_).1.size))
      | (go_at_call 145;refine(Rn _ (r.out _ ?_) H l.out.l1).mono ?_;(· exact(by assumption:β w w _/\_).1);rintro e w' ⟨rfl,rfl⟩))
  go_wp2
  go_loopw [5] (λi wr=>∃ k:Nat,k<=d.fl.length/\i=.int .i64 k/\β w w wr) (λi _=>d.fl.length-(intOf i).toNat)
  case atStart=>exact⟨0,ja5 _,rfl,(by assumption:β w w _/\_).1⟩
  case round =>
    obtain⟨k,g,rfl,c⟩:=hrel;have I  := (c.cell f).trans n;by_cases j:k<d.fl.length
    . have u:=kS k wr (a.out wr c) j
      rw[BR C.out k j] at u;have s:Hid (κ prog 75 #[h.p,(k:Int)] wr λe w'=>e=.returned (.tuple #[.string (bytesOf (lastTo d k d.pend.length)),.nilIface])/\w'=wr):=u
      have t:Hid (κ prog 81 #[q.p,(k:Int)] wr λe w'=>e=.returned (.string (bytesOf (lastTo d k d.pend.length)))/\w'=wr):=uo k wr (r.out wr c) j (by have:=l.out.few;have:=l.out.few2;omega)
      have z:Hid (β w w wr):=c;generalize bytesOf (lastTo d k d.pend.length)=x at s t;go_wp2_with fail
      refine cEq s.out λw' A=>?_
      have y:=A.symm;subst y;go_wp2_with fail
      refine cSt t.out ?_;go_wp2
      go_roundw
      case rel =>
        exact⟨k+1,by omega,by go_num,z.out⟩
      case measure=>simp[intOf];omega
    . go_wp2
      go_ret
      exact⟨rfl,c⟩
def NG(s:ByteArray)(h:dN s≠0):0<dN s:=by
 have:=NC s
 omega
def yI{d:DV}{m:Nat}(a:d.fine d.fl.length m)(i:Nat)(b:i<d.fl.length):bytesOf (lastTo d i d.pend.length)=bytesOf (d.seen.getD i []):=by rw[BR a.sn i b]
def Qk{B:Gd}{m:Nat}{q:Rh}{d:DV}(w:ω)(hd:bZ B w q d)(a:d.fine d.fl.length m)(n:dN (bytesOf (d.seen.getD 0 []))≠0) :
  κ prog 79 #[q.p] w λe h=>e=.returned (.tuple #[.pointer O,dF d])/\β w w h:=by
 have r:dF d=dN (bytesOf (d.seen.getD 0 [])):=by unfold dF;rw[if_neg n]
 rw[r];have v:=a.ok.few;have u:=a.ok.few2;have i:=uo 0 w hd.todA a.ok.n1 (by omega)
 rw[yI a 0 a.ok.n1] at i;have k:Hid _:=i;have j:=ah (Gu (bytesOf (d.seen.getD 0 [])));have o:=NG _ n;generalize dN _=f at j o |-;have g:Hid (∀ W:ω,κ prog 154 _ W λe h=>e=.returned (.tuple #[.agg #[_,_,_],f])/\β W W h):=j
 generalize (fV _).c=c at g;generalize (fV _).p=p at g;generalize (fV _).b=b at g;generalize bytesOf _=s at k g;go_enter func79,ntmps79
 go_wp2_with fail
 refine cSt k.out ?_;go_wp2_with fail
 refine cEq (g.out _) λt l=>?_
 go_wp2
 go_ret2
 exact⟨rfl,l.alloc l.size _⟩
def RX{B:Gd}{g cap:Nat}{w f:ω}{q:Rh}{d:DV}{h:HV}{ts:List (Int × Int)}(hd:bZ B w q d)(n:B.top<=w.heap.size)(l:β w w f)(j:f.ownsRow 0 168 2 (.slice (S ⟨g,0,O⟩) ts.length cap) ts.length (jB ts))(o:¬B.g g) :
  aS B (f.alloc (.cells #[q.p,h.c,h.p,h.b,.slice (S ⟨g,0,O⟩) ts.length cap,.slice O 0 0] 146)) ⟨f.heap.size,q,.slice (S ⟨g,0,O⟩) ts.length cap,.slice O 0 0⟩ ⟨d,h,ts,[]⟩:=by
 have i  := hd.keep λk a=>l.block k (hd.lt k a).2
 have m:=ja0 _ f |>.alloc (ja1 _) (.cells #[q.p,h.c,h.p,h.b,.slice (S ⟨g,0,O⟩) ts.length cap,.slice O 0 0] 146)
 refine⟨heap_alloc_new _ _,B.fresh n l.size,i.keep λk a=>m.block k (i.lt k a).2,aZ j λk a=>m.block k (j.lt k a).2,jae _ _ _ _,(λk e=>by cases e),(λk e=>by
  have:g=k:=by simpa [Value.ownBlock] using e
  simp_all),λk e=>by cases e⟩
def Ql{B:Gd}{m:Nat}{q:Rh}{d:DV}(w:ω)(hd:bZ B w q d)(v:d.fine d.fl.length m)(hB:B.top<=w.heap.size)(Z:dN (bytesOf (d.seen.getD 0 []))=0) :
    κ prog 79 #[q.p] w λe l=>β w w l /\
      ((dF d≠0/\e=.returned (.tuple #[.pointer none,dF d]))\/(dF d=0/\∃ r:Qh,r.d=q/\(∀ k,r.vt.ownBlock=some k->w.heap.size<=k)/\e=.returned (.tuple #[r.p,(0:Int)])/\aS B l r (kF d))):=by
  have o:(aI d).ok=true:=EH Z;have be:HV.ok ⟨(aI d).c,(aI d).p,(aI d).b⟩=true:=o;have af:=v.ok.n1;have bB:=v.ok.few;have bN:=v.ok.few2;have b8:=v.ok.l2;have bE:=v.ok.same;have bh:=HV.dK o;obtain⟨c0,_,_,_,_,_⟩:=hd.cells;have lq:q.p<w.heap.size:=(hd.lt q.p (.inl rfl)).2;have ap:=uo 0 w hd.todA af (by omega)
  rw[yI v 0 af] at ap;have ar:Hid (κ prog 81 #[q.p,(0:Int)] w λe l=>e=.returned (.string (bytesOf (d.seen.getD 0 [])))/\l=w):=ap
  have an:=Gu (bytesOf (d.seen.getD 0 []));rw[Z] at an;have J:Hid (∀ W:ω,κ prog 154 #[.string (bytesOf (d.seen.getD 0 []))] W λe l=>e=.returned (.tuple #[.agg #[.int .i64 (aI d).c,.int .i64 (aI d).p,.int .i64 (aI d).b],(0:Int)])/\β W W l):=an
  have I:=ah (λW=>yx (aI d).c (aI d).p (aI d).b W be)
  have P:Hid (∀ W:ω,κ prog 107 #[.int .i64 (aI d).c] W λe l=>e=.returned (ay (aI d).c.toNat:Int)/\l=W):=λW=>by have:=pz (aI d).c.toNat W (by omega);rw[show(((aI d).c.toNat:Nat):Int)=(aI d).c by omega] at this;exact this
  have b2:ay (aI d).c.toNat<=5:=by unfold ay;omega
  have ab:Hid (¬d.fl.length<aQ (aI d)->ay (aI d).c.toNat<d.fl.length):=λh=>by
    have:=(mM o (ja1 _)).1
    omega
  have bc:=ah λW (G:β w w W)=>hd.keep λk o=>G.block k (hd.lt k o).2
  have aM:Hid (∀(k:Nat) (W:ω),1+k<d.fl.length->β w w W->κ prog 81 #[q.p,(1+(k:Int):Int)] W λe l=>e=.returned (.string (nI d k))/\l=W):=λk W o G=>by
    have:=uo (1+k) W (bc.out W G).todA o (by omega)
    rw[yI v (1+k) o,show(((1+k:Nat):Int))=1+(k:Int) by omega] at this;exact this
  have a7:Hid (d.fl.length<aQ (aI d)->dF d=1):=λh=>by unfold dF;rw[if_pos Z,if_pos h]
  have a2:Hid (¬d.fl.length<aQ (aI d)->dF d=fP (aI d) (fM d (ay (aI d).c.toNat))):=λh=>by unfold dF;rw[if_pos Z,if_neg h];rfl
  have a4:=ah λ(h:fP (aI d) (fM d (ay (aI d).c.toNat))=0)=>(Ci h).2.2.2
  have aR:Hid (0<=fP (aI d) (fM d (ay (aI d).c.toNat))):=UF _ _
  have aa:Hid (ay (aI d).c.toNat<d.fl.length->∀ k,k<ay (aI d).c.toNat->(nI d k).size=16):=λh k O=>by
    have h:1+k<d.seen.length:=by omega
    have:(d.seen.getD (1+k) []).length=16:=by rw[ja6,ja8 h];exact b8 _ (jac h)
    show(d.seen.getD (1+k) []).toArray.size=16
    simpa using this
  have n:=ah λ(h:ay (aI d).c.toNat<d.fl.length) W a cap (z:W.ownsRow w.heap.size 9 1 (.slice a (ay (aI d).c.toNat) cap) (ay (aI d).c.toNat) (jT (fM d (ay (aI d).c.toNat))))=>UG (aI d).c (aI d).p (aI d).b a _ cap (fM d (ay (aI d).c.toNat)) W (Iz z (BI d _) λk O=>by rw[G6 d _ k O,aa.out h k O];unfold maxLen;omega) (by omega)
  have am:Hid (fM d 0=[]):=rfl;have ac:Hid (∀ k,fM d (k+1)=fM d k++[nI d k]):=G7 d
  have E:Hid (∀(W:ω) (g t:Nat),β w w W->W.ownsRow 0 168 2 (.slice (some ⟨g,0,none⟩) (dO (aI d) (fM d (ay (aI d).c.toNat))).length t) (dO (aI d) (fM d (ay (aI d).c.toNat))).length (jB (dO (aI d) (fM d (ay (aI d).c.toNat))))->w.heap.size<=g ->
      aS B (W.alloc (.cells #[q.p,.int .i64 (aI d).c,.int .i64 (aI d).p,.int .i64 (aI d).b,.slice (some ⟨g,0,none⟩) (dO (aI d) (fM d (ay (aI d).c.toNat))).length t,.slice none 0 0] 146)) ⟨W.heap.size,q,.slice (some ⟨g,0,none⟩) (dO (aI d) (fM d (ay (aI d).c.toNat))).length t,.slice none 0 0⟩ (kF d)):=λW g t G z bp=>RX hd hB G z (B.fresh hB bp)
  obtain⟨i2,b7,br,b3,bi⟩:=info_parts uS;have bv:=bh.1;generalize kF d=V at E |-;generalize dF d=F at a7 a2 |-;generalize nI d=R at aM ac aa;generalize fP (aI d) (fM d (ay (aI d).c.toNat))=TF at a2 n a4 aR;generalize dO (aI d) (fM d (ay (aI d).c.toNat))=H at n E a4;generalize aQ (aI d)=nn at I a7 a2 ab;generalize ay (aI d).c.toNat=K at P b2 ab n aa;generalize fM d=L at n am ac;generalize (aI d).c=c at J I P n E a4 bv;generalize (aI d).p=p at J I n E;generalize (aI d).b=b at J I n E
  generalize bytesOf (d.seen.getD 0 [])=s at ar J;go_enter func79,ntmps79
  go_wp2_with fail
  refine cEq ar.out λl hw=>?_
  have bd:=hw.symm;subst bd;go_wp2_with fail
  refine cEq (J.out _) λD ae=>?_
  have M:Hid (β w w (D.alloc (.cells #[c,p,b] 67))):=ae.alloc ae.size _;have x:Hid ((D.alloc (.cells #[c,p,b] 67)).heap[D.heap.size]?=some (.cells #[c,p,b] 67 (0,0))):=heap_alloc_new _ _;have b4:Hid (w.heap.size<=D.heap.size):=ae.size;go_wp2
  generalize D.alloc (.cells #[c,p,b] 67)=j at M x |-;generalize D.heap.size=N at x b4 |-;have a0:N<j.heap.size:=lt_of_some x.out;have bs:q.p<j.heap.size:=ja9 lq M.out.size;have y0:j.cell? ⟨N,0,none⟩=some (c:υ):=by rw[cell_of_row _ _ _ _ _ _ x.out];rfl
  have y1:j.cell? ⟨N,1,none⟩=some (p:υ):=by rw[cell_of_row _ _ _ _ _ _ x.out];rfl
  have y2:j.cell? ⟨N,2,none⟩=some (b:υ):=by rw[cell_of_row _ _ _ _ _ _ x.out];rfl
  have y3:j.cell? ⟨q.p,0,none⟩=some (.slice (some ⟨q.bf,0,none⟩) d.fl.length q.cf):=(M.out.cell (p:=⟨q.p,0,none⟩) lq).trans c0
  go_region_held3 (λW=>β j j W/\W.cell? ⟨N,0,none⟩=some (c:υ)/\W.cell? ⟨N,1,none⟩=some (p:υ)/\W.cell? ⟨N,2,none⟩=some (b:υ)/\W.cell? ⟨q.p,0,none⟩=some (.slice (some ⟨q.bf,0,none⟩) d.fl.length q.cf))
    (first|(exact⟨jaP (ja0 _ _),y0,y1,y2,y3⟩)|assumption|(exact⟨by assumption,(jav (by assumption) a0).trans y0,(jav (by assumption) a0).trans y1,(jav (by assumption) a0).trans y2,(jav (by assumption) bs).trans y3⟩))
    (first
      | (go_at_call 34;refine cEq (I.out _) λf bk=>?_;have c5:=jaB (by assumption:β j j _/\_).1 (bk.mono (by assumption:β j j _/\_).1.size)))
  all_goals
    obtain⟨aq,z0,z1,z2,z3⟩:=(by assumption:β j j f/\_)
    have a3:=ah (M.out.trans (aq.mono M.out.size));have bu:Hid (f.heap[N]?=some (.cells #[c,p,b] 67 (0,0))):=by unfold Hid;rw[aq.block _ a0];exact x.out
    have U:N<f.heap.size:=lt_of_some bu.out;by_cases h:d.fl.length<nn
    . have hF:=a7.out h
      go_wp2
      go_ret2
      exact⟨a3.out,.inl ⟨by rw[hF];decide,by rw[hF];rfl⟩⟩
    . have HF:=ah (a2.out h)
      have b5:=ab.out h;have bl:=ah (n.out b5);go_wp2
      generalize decide (d.fl.length<nn)=db;go_loopw [6,7] (λu i wr=>∃(k:Nat) (a:Option Addr) (cap:Nat),k<=K/\i=.int .i64 k/\u=.slice a k cap/\wr.ownsRow f.heap.size 9 1 (.slice a k cap) k (jT (L k))/\β f f wr) (λ_ i _=>K-(intOf i).toNat)
      case atStart=>exact⟨0,none,0,ja5 _,rfl,rfl,by rw[am.out];exact jae _ _ _ _,ja0 _ _⟩
      case round =>
        obtain⟨k,a,cap,O,rfl,rfl,z,A⟩:=hrel;have av:β w w wr:=a3.out.trans (A.mono a3.out.size);have al:f.heap.size<=wr.heap.size:=A.size;have x0:wr.cell? ⟨N,0,none⟩=some (c:υ):=(A.cell (p:=⟨N,0,none⟩) U).trans z0;have x1:wr.cell? ⟨N,1,none⟩=some (p:υ):=(A.cell (p:=⟨N,1,none⟩) U).trans z1;have x2:wr.cell? ⟨N,2,none⟩=some (b:υ):=(A.cell (p:=⟨N,2,none⟩) U).trans z2;by_cases bL:k<K
        . have aL:=ah (aM.out k wr (by omega) av)
          have b1:=ah (ac.out k);have a8:Hid ((wr.alloc (.cells #[.string (R k)] 9)).ownsRow f.heap.size 9 1 (.slice a k cap) k (jT (L k))):=z.alloc _;have a9:Hid (f.heap.size<=(wr.alloc (.cells #[.string (R k)] 9)).heap.size):=by unfold Hid;simp;omega
          have ag:Hid (β f f (wr.alloc (.cells #[.string (R k)] 9))):=A.alloc al _;have aE:Hid ((wr.alloc (.cells #[.string (R k)] 9)).heap.size=wr.heap.size+1):=by unfold Hid;simp
          have aD:Hid (∀ i y,([.string (R k)]:List υ)[i]?=some y->(wr.alloc (.cells #[.string (R k)] 9)).cell? ((⟨wr.heap.size,0,none⟩:Addr).add i)=some y):=cell_one_new _ _ _;have bR:IntKind.i64.wrap (1+(k:Int))=1+(k:Int):=ja7 _ (by omega)
          generalize R k=S at aL b1 a8 a9 ag aE aD
          go_wp2_with (first
            | (go_at_call 107;refine cSt (P.out _) ?_)
            | (go_at_call 81;refine cSt aL.out ?_)
            | (at_builtin;refine wpList_append_lies _ (by rfl) _ _ 44 (by rfl) f.heap.size 9 i2 (.string ⟨#[]⟩) 1 16 underlying44 b7 br b3 bi rfl (by decide) (.slice a k cap) k (jT (L k)) (by rfl) a8.out ⟨wr,0,none⟩ 1 1 [S] (by rfl) (by rfl) aD.out (λu hu=>by simp at hu;subst hu;rfl) (by decide) (by unfold maxLen;omega) (by omega) a9.out (wr.heap.size+1) aE.out ?_;intro g3 a6 Q bt bm bS bO))
          have ba:Hid (Q.ownsRow f.heap.size 9 1 (.slice (some ⟨g3,0,none⟩) (k+1) a6) (k+1) (jT (L (k+1)))):=by
            unfold Hid;have e2:jT (L (k+1))=jT (L k)++[.string S]:=by rw[b1.out];simp[jT]
            rw[e2];exact bt
          have bn:Hid (β f f Q):=ag.out.grown bm a9.out (λr e=>(a8.out.lt r e).1)
          go_roundw
          case rel =>
            have fin:∃(C:Nat) (a1:Option Addr) (ax:Nat),C<=K/\Value.int .i64 ((k:Int)+1)=.int .i64 C/\Value.slice (some ⟨g3,0,none⟩) (k+1) a6=.slice a1 C ax/\Q.ownsRow f.heap.size 9 1 (.slice a1 C ax) C (jT (L C))/\β f f Q :=
              ⟨k+1,some ⟨g3,0,none⟩,a6,by omega,by go_num,rfl,ba.out,bn.out⟩
            first|exact fin|((repeat apply Exists.intro);exact⟨fin,rfl⟩)
          case measure=>simp[intOf];omega
        . have bj:k=K:=by omega
          subst bj;have bg:=ah (bl.out wr a cap (ownsRow_base z a3.out.size));have X:=ah av;have ad:N<wr.heap.size:=ja9 U al
          go_wp2_with (first
            | (go_at_call 107;refine cSt (P.out _) ?_))
          refine bg.out.mono ?_;rintro e w4 ⟨lt,t,rfl,ai,a5⟩;have Y:=ah (X.out.trans (a5.mono X.out.size));have y0:=(a5.cell (p:=⟨N,0,none⟩) ad).trans x0;have y1:=(a5.cell (p:=⟨N,1,none⟩) ad).trans x1;have y2:=(a5.cell (p:=⟨N,2,none⟩) ad).trans x2;by_cases T:TF=0
          . have bX:=a4.out T
            obtain⟨g,bA,hv,b0,_⟩:=ai.2.form (by omega)
            injection hv with hv1 hv2 hv3
            subst hv1;subst hv3;have bq:Hid (w4.ownsRow 0 168 2 (.slice (some ⟨g,0,none⟩) H.length t) H.length (jB H)):=ownsRow_base ai.2 (ja5 _);have aw:=ah (E.out w4 g t Y.out bq.out (ja4 X.out.size b0));have bb:Hid (w.heap.size<=g):=ja4 X.out.size b0;have b6  := HF.out.trans T;have bo:=ah b6;have az:=ah (Y.out.alloc Y.out.size (.cells #[q.p,c,p,b,.slice (some ⟨g,0,none⟩) H.length t,.slice none 0 0] 146));rw[T];generalize H.length=tl at aw az;go_wp2
            go_ret2
            exact⟨az.out,.inr ⟨bo.out,_,rfl,λr e=>(by
              have:g=r:=by simpa [Value.ownBlock] using e
              rw[<- this];exact bb.out),rfl,aw.out⟩⟩
          . have ao:Hid (F=TF):=HF.out
            have b9:=ah T;have bw:0<TF:=by have:=aR.out;omega
            go_wp2
            go_ret2
            exact⟨Y.out,.inl ⟨by rw[ao.out];exact b9.out,by rw[ao.out];rfl⟩⟩
def Qm{B:Gd}{m:Nat}{q:Rh}{d:DV}(w:ω)(hd:bZ B w q d)(c:d.fine d.fl.length m)(f:B.top<=w.heap.size) :
  κ prog 79 #[q.p] w λe a=>β w w a /\
   ((dF d≠0/\e=.returned (.tuple #[.pointer O,dF d]))\/(dF d=0/\∃ r:Qh,r.d=q/\(∀ k,r.vt.ownBlock=S k->w.heap.size<=k)/\e=.returned (.tuple #[r.p,(0:Int)])/\aS B a r (kF d))):=by
 by_cases b:dN (bytesOf (d.seen.getD 0 []))=0
 .exact Ql w hd c f b
 .refine cEq (Qk w hd c b) λa h=>?_
  have g:dF d=dN (bytesOf (d.seen.getD 0 [])):=by unfold dF;rw[if_neg b]
  simp_all
def rH{f:Int}(h:f≠0):erV f=.iface 96 (.int .i64 f):=by unfold erV;rw[if_neg h]
def HV.Du(h:HV):h.cells = #[.int .i64 h.c,.int .i64 h.p,.int .i64 h.b]:=rfl
def Qd{B:Gd}{h:Hd}{d:DV}(w:ω)(hd:bQ B w h d)(g:dN (bytesOf (d.seen.getD 0 []))≠0) :
  κ prog 74 #[h.p] w λe l=>e=.returned (.tuple #[.pointer O,erV (dF d)])/\β w w l:=by
 have k:dF d=dN (bytesOf (d.seen.getD 0 [])):=by unfold dF;rw[if_neg g]
 rw[k,rH g];have j:=ah (kS 0 w hd.toaO hd.ok.n1);have a:=ah (Gp (bytesOf (d.seen.getD 0 [])));rw[rH g] at a;generalize dN _=f at a |-;simp only[HV.Du] at a;generalize (fV _).c=c at a;generalize (fV _).p=p at a;generalize (fV _).b=b at a;generalize bytesOf _=s at j a;go_enter func74,ntmps74
 go_wp2_with fail
 refine cSt j.out ?_;go_wp2_with fail
 refine cEq (a.out _) λm i=>?_
 go_wp2
 go_ret2
 exact⟨rfl,i.alloc i.size _⟩
def Qi{B:Gd}{h:Hd}{d:DV}(w:ω)(hd:bQ B w h d)(hB:B.top<=w.heap.size)(D:dN (bytesOf (d.seen.getD 0 []))=0) :
    κ prog 74 #[h.p] w λe f=>β w w f /\
      ((dF d≠0/\e=.returned (.tuple #[.pointer none,erV (dF d)]))\/(dF d=0/\∃ x:Ih,x.h=h/\w.heap.size<=x.tb/\e=.returned (.tuple #[x.p,.nilIface])/\aH B f x (kF d))):=by
  have z:(aI d).ok=true:=EH D;have Q:HV.ok ⟨(aI d).c,(aI d).p,(aI d).b⟩=true:=z;have a3:=hd.ok.n1;have U:=ah (kS 0 w hd.toaO a3);have l:=ah (Gp (bytesOf (d.seen.getD 0 [])));rw[D,aN] at l;simp only[HV.Du] at l;have u:=ah (λW=>uU (aI d).c (aI d).p (aI d).b W Q)
  have J:=ah λW (j:β w w W)=>hd.keep λk z=>j.block k (hd.lt k z).2
  have I:Hid (d.fl.length<aQ (aI d)->dF d=1):=λi=>by unfold dF;rw[if_pos D,if_pos i]
  have E:Hid (¬d.fl.length<aQ (aI d)->dF d=fP (aI d) (lZ d)):=λi=>by unfold dF;rw[if_pos D,if_neg i]
  have G:=ah λ(i:fP (aI d) (lZ d)=0)=>(Ci i).2.2.2
  have af:=HV.dK z
  have m:Hid (¬d.fl.length<aQ (aI d)->∀ W:ω,β w w W->κ prog 149 #[h.p,.agg #[.int .i64 (aI d).c,.int .i64 (aI d).p,.int .i64 (aI d).b]] W λe f =>
      ∃ lt v,e=.returned (.tuple #[.slice lt (dO (aI d) (lZ d)).length v,erV (fP (aI d) (lZ d))])/\lQ W.heap.size f lt v (dO (aI d) (lZ d))/\β W W f):=λi W j=>by
    refine QY (aI d).c (aI d).p (aI d).b W (J.out W j) Q ?_;have:=(mM z (ja1 _)).1
    omega
  have q:Hid (∀(W:ω) (tb tc:Nat),β w w W->W.ownsRow 0 168 2 (.slice (some ⟨tb,0,none⟩) (dO (aI d) (lZ d)).length tc) (dO (aI d) (lZ d)).length (jB (dO (aI d) (lZ d)))->w.heap.size<=tb ->
      κ prog 100 #[h.p,.agg #[.int .i64 (aI d).c,.int .i64 (aI d).p,.int .i64 (aI d).b],.slice (some ⟨tb,0,none⟩) (dO (aI d) (lZ d)).length tc] W λe f =>
      ∃ x:Ih,x.h=h/\x.tb=tb/\x.tc=tc/\e=.returned x.p/\aH B f x (kF d)/\β W W f):=λW tb tc j ho al =>
    Fe (aI d).c (aI d).p (aI d).b (dO (aI d) (lZ d)) W (J.out W j) (ja4 hB j.size) ho (B.fresh hB al)
  generalize kF d=V at q |-;generalize dF d=F at I E |-;generalize fP (aI d) (lZ d)=Z at E m G;generalize dO (aI d) (lZ d)=C at m q G;generalize aQ (aI d)=nn at u I E m;have ap:=af.1
  change Hid (∀ W:ω,κ prog 148 #[.string (bytesOf (d.seen.getD 0 []))] W λe f=>e=.returned (.tuple #[.agg #[.int .i64 (aI d).c,.int .i64 (aI d).p,.int .i64 (aI d).b],.nilIface])/\β W W f) at l
  generalize (aI d).c=c at l u m q G ap;generalize (aI d).p=p at l u m q;generalize (aI d).b=b at l u m q;generalize bytesOf (d.seen.getD 0 [])=s at U l;have a7:=ah λW (j:β w w W)=>size_any W (J.out W j).toaO
  go_enter func74,ntmps74
  go_wp2_with fail
  refine cSt U.out ?_;go_wp2_with fail
  refine cEq (l.out _) λy a0=>?_
  have t:Hid (β w w (y.alloc (.cells #[c,p,b] 67))):=a0.alloc a0.size _;have r:Hid ((y.alloc (.cells #[c,p,b] 67)).heap[y.heap.size]?=some (.cells #[c,p,b] 67 (0,0))):=heap_alloc_new _ _;go_wp2
  generalize y.alloc (.cells #[c,p,b] 67)=a at t r |-;generalize y.heap.size=N at r |-;have K:N<a.heap.size:=lt_of_some r.out;have y0:a.cell? ⟨N,0,none⟩=some (c:υ):=by rw[cell_of_row _ _ _ _ _ _ r.out];rfl
  have y1:a.cell? ⟨N,1,none⟩=some (p:υ):=by rw[cell_of_row _ _ _ _ _ _ r.out];rfl
  have y2:a.cell? ⟨N,2,none⟩=some (b:υ):=by rw[cell_of_row _ _ _ _ _ _ r.out];rfl
  go_region_held3 (λW=>β a a W/\W.cell? ⟨N,0,none⟩=some (c:υ)/\W.cell? ⟨N,1,none⟩=some (p:υ)/\W.cell? ⟨N,2,none⟩=some (b:υ))
    (first|(exact⟨jaP (ja0 _ _),y0,y1,y2⟩)|assumption|(exact⟨by assumption,(jav (by assumption) K).trans y0,(jav (by assumption) K).trans y1,(jav (by assumption) K).trans y2⟩))
    (first
      | (go_at_call 99;refine(a7.out _ (t.out.trans (Below.mono (by assumption:β a a _/\_).1 t.out.size))).mono ?_;rintro e f ⟨rfl,rfl⟩)
      | (go_at_call 29;refine cEq (u.out _) λf an=>?_;have ax:=jaB (by assumption:β a a _/\_).1 (an.mono (by assumption:β a a _/\_).1.size)))
  all_goals
    obtain⟨ag,O,M,T⟩:=(by assumption:β a a _/\_)
    have o:=ah (t.out.trans (ag.mono t.out.size));by_cases i:d.fl.length<nn
    . have X:=I.out i
      go_wp2
      go_ret2
      exact⟨o.out,.inl ⟨by rw[X];decide,by rw[X,eu];rfl⟩⟩
    . have S:=ah (E.out i)
      have a2:=ah (m.out i _ o.out);go_wp2_with fail
      refine a2.out.mono ?_;rintro e R ⟨lt,v,rfl,L,H⟩;have A:=ah (o.out.trans (H.mono o.out.size));have az:=(H.cell (ja2 _ _ O)).trans O;have aq:=(H.cell (ja2 _ _ M)).trans M;have av:=(H.cell (ja2 _ _ T)).trans T;by_cases n:Z=0
      . have aw:=G.out n
        obtain⟨g,ar,hv,a1,_⟩:=L.2.form (by omega)
        injection hv with hv1 hv2 hv3
        subst hv1;subst hv3;have a9:Hid (R.ownsRow 0 168 2 (.slice (some ⟨g,0,none⟩) C.length v) C.length (jB C)):=ownsRow_base L.2 (ja5 _);have Y:=ah (q.out R g v A.out a9.out (ja4 o.out.size a1));have a8:Hid (w.heap.size<=g):=ja4 o.out.size a1;have a4  := S.out.trans n;rw[n,aN];generalize C.length=tl at Y;go_wp2_with fail
        refine Y.out.mono ?_;rintro e w4 ⟨x,am,ac,aD,rfl,ai,ao⟩;have a5:=ah ai;have aa:=ah (A.out.trans (ao.mono A.out.size));have ad:=ah am;have ab:Hid (w.heap.size<=x.tb):=by unfold Hid;rw[ac];exact a8.out
        go_wp2
        go_ret2
        exact⟨aa.out,.inr ⟨a4,x,ad.out,ab.out,rfl,a5.out⟩⟩
      . have P:Hid (F=Z):=S.out
        have a6:=ah n;have ae:=ah (rH n);rw[rH n];go_wp2
        go_ret2
        exact⟨A.out,.inl ⟨by rw[P.out];exact a6.out,by rw[P.out,ae.out];rfl⟩⟩
def F6{B:Gd}{h:Hd}{d:DV}(w:ω)(hd:bQ B w h d)(c:B.top<=w.heap.size) :
  κ prog 74 #[h.p] w λe a=>β w w a /\
   ((dF d≠0/\e=.returned (.tuple #[.pointer O,erV (dF d)]))\/(dF d=0/\∃ x:Ih,x.h=h/\w.heap.size<=x.tb/\e=.returned (.tuple #[x.p,.nilIface])/\aH B a x (kF d))):=by
 by_cases b:dN (bytesOf (d.seen.getD 0 []))=0
 .exact Qi w hd c b
 .refine cEq (Qd w hd b) λa g=>?_
  have f:dF d=dN (bytesOf (d.seen.getD 0 [])):=by unfold dF;rw[if_neg b]
  simp_all
def DV.dG(d:DV)(t:List (Int × Int)):Nat->DV × Int
 | 0=>(d,0)
 | k+1=>if (d.dG t k).2=0 then ((d.dG t k).1.put (1+k) (eP t (k:Int)).data.toList,(d.dG t k).1.aU) else d.dG t k
def DV.qK{d:DV}{t:List (Int × Int)}{k:Nat}(h:(d.dG t k).2=0):d.dG t (k+1)=((d.dG t k).1.put (1+k) (eP t (k:Int)).data.toList,(d.dG t k).1.aU):=by
 show(if (d.dG t k).2=0 then _ else _)=_
 rw[if_pos h]
def DV.vH{d:DV}{t:List (Int × Int)}{k:Nat}(h:(d.dG t k).2≠0):∀ j,k<=j->d.dG t j=d.dG t k:=by
 intro j b
 induction j with
 | zero=>simp_all
 | succ j a =>
  by_cases e:k=j+1
  .rw[<- e]
  .show(if (d.dG t j).2=0 then _ else d.dG t j)=_
   rw[(a (by omega)),if_neg h]
def crT(h:HV):List (Int × Int):=List.replicate h.c.toNat (0,0)
def crD(d:DV)(h:HV):DV × Int:=d.dG (crT h) (ay h.c.toNat)
def gu(d:DV)(h:HV):IV:=⟨(crD d h).1,h,crT h,[]⟩
def crV(d:DV)(h:HV):IV:=(gu d h).jZ h
def iQ(d:DV)(h:HV):DV:=if h.ok=true/\aQ h<=d.fl.length then (if (crD d h).2=0 then (crV d h).d else (crD d h).1) else d
def crF(d:DV)(h:HV):Int:=if h.ok=true then (if d.fl.length<aQ h then 1 else if (crD d h).2=0 then (gu d h).flush.d.aU else (crD d h).2) else 1
def zK(h:HV)(a:h.ok=true):((crT h).length:Int)=h.c:=by
 have:=HV.dK a
 unfold crT;rw[jaw];omega
def DR(h:HV):∀ e∈crT h,bI e.1 e.2 h.p=true:=by
 intro e a;rw[jba a];exact kN (.inr ⟨.inl rfl,rfl⟩)
def wU(h:HV)(a:h.ok=true)(k:Nat)(b:k<ay h.c.toNat):gV (crT h) (k:Int)=0/\(eP (crT h) (k:Int)).size=16 :=
 yD a (zK h a) (DR h) k (by have:=zK h a;have:=HV.dK a;rw[show(crT h).length=h.c.toNat by omega];exact b)
def wR{d:DV}{m:Nat}{h:HV}(hd:d.fine d.fl.length m)(a:h.ok=true)(i:aQ h<=d.fl.length)(n:m+10<1000000000):∀ k,k<=ay h.c.toNat->(d.dG (crT h) k).1.fine d.fl.length (m+k):=by
 have o:=(mM a i).1;have l:ay h.c.toNat<=5:=by have:=HV.dK a;unfold ay;omega
 intro k
 induction k with
 | zero=>intro _;exact hd
 | succ k g =>
  intro j;have b:=g (by omega)
  by_cases f:(d.dG (crT h) k).2=0
  .rw[DV.qK f]
   exact b.put (by omega) (by have:=(wU h a k (by omega)).2;simp_all) (by omega)
  .rw[DV.vH f _ (by omega)]
   exact b.more (by omega)
def zL{d:DV}{m:Nat}{h:HV}(hd:d.fine d.fl.length m)(a:h.ok=true)(f:aQ h<=d.fl.length)(g:m+10<1000000000):(gu d h).ok (m+5):=by
 have j:ay h.c.toNat<=5:=by have:=HV.dK a;unfold ay;omega
 have b:=(wR hd a f g _ (ja1 _)).more (show m+ay _<=m+5 by omega)
 refine⟨?_,a,zK h a,DR h,?_,(λq i=>by cases i),ja5 _⟩
 .show(crD d h).1.fine (crD d h).1.fl.length _
  unfold crD;rw[b.len];exact b
 .show aQ h<=(crD d h).1.fl.length
  unfold crD;rw[b.len];exact f
def zM{d:DV}{m:Nat}{h:HV}(hd:d.fine d.fl.length m)(a:h.ok=true)(b:aQ h<=d.fl.length)(c:m+20<1000000000):(crV d h).ok (m+15) :=
 ((zL hd a b (by omega)).jZ a rfl rfl (by omega)).more (by omega)
def KY{B:Gd}{h:Hd}{d:DV}(c p b:Int)(w:ω)(hd:bQ B w h d)(v:¬(HV.ok ⟨c,p,b⟩=true/\aQ ⟨c,p,b⟩<=d.fl.length)) :
    κ prog 30 #[h.p,.agg #[c,p,b]] w λe n=>e=.returned (.tuple #[.pointer O,.iface 96 (.int .i64 1)])/\β w w n:=by
  have g:=ah (oW c p b)
  cases f:HV.ok ⟨c,p,b⟩ with
  | false =>
    have o:HV.fault ⟨c,p,b⟩=1:=by unfold HV.fault;rw[f];rfl
    rw[o,eu] at g;go_enter func30,ntmps30
    go_wp2_with fail
    refine cEq (g.out _) λz j=>?_
    go_wp2
    go_ret2
    exact⟨rfl,((ja0 _ _).alloc (ja1 _) _).trans (j.mono (by simp))⟩
  | true =>
    have o:HV.fault ⟨c,p,b⟩=0:=by unfold HV.fault;rw[f];rfl
    rw[o,aN] at g
    have s:d.fl.length<aQ ⟨c,p,b⟩:=by
      by_cases u:aQ ⟨c,p,b⟩<=d.fl.length
      . exact absurd ⟨f,u⟩ v
      . omega
    have q:=ah (λW=>uU c p b W f)
    generalize aQ _=F at q s;go_enter func30,ntmps30
    go_wp2_with fail
    refine cEq (g.out _) λa j=>?_
    have i:Hid _:=((ja0 _ _).alloc (ja1 _) _).trans (j.mono (by simp))
    have l:a.heap[w.heap.size]?=S (.cells #[c,p,b] 67 (0,0)):=by rw[j.block _ (by simp),heap_alloc_new]
    have m  := lt_of_some l;have y0:a.cell? ⟨w,0,O⟩=S (c:υ):=by rw[cell_of_row _ _ _ _ _ _ l];rfl
    have y1:a.cell? ⟨w,1,O⟩=S (p:υ):=by rw[cell_of_row _ _ _ _ _ _ l];rfl
    have r:a.cell? ⟨w,2,O⟩=S (b:υ):=by rw[cell_of_row _ _ _ _ _ _ l];rfl
    go_wp2
    go_region_held3 (λW=>β a a W/\W.cell? ⟨w,0,O⟩=S (c:υ)/\W.cell? ⟨w,1,O⟩=S (p:υ)/\W.cell? ⟨w,2,O⟩=S (b:υ))
      (first|(exact⟨jaP (ja0 _ _),y0,y1,r⟩)|assumption|(exact⟨by assumption,(jav (by assumption) m).trans y0,(jav (by assumption) m).trans y1,(jav (by assumption) m).trans r⟩))
      (first
        | (go_at_call 99;refine((λW (t:β w w W)=>size_any W (hd.keep λk f=>t.block k (hd.lt k f).2).toaO) _ (i.out.trans (Below.mono (by assumption:β _ a _/\_).1 i.out.size))).mono ?_;rintro e n ⟨rfl,rfl⟩)
        | (go_at_call 29;refine cEq (q.out _) λn y=>?_;have A:=jaB (by assumption:β _ a _/\_).1 (y.mono (by assumption:β _ a _/\_).1.size)))
    all_goals
      obtain⟨x,C,E,D⟩:=(by assumption:β _ a _/\_)
      go_wp2
      go_ret2
      exact⟨rfl,(i.out.trans (x.mono i.out.size))⟩
def L8(n:Nat):jB (List.replicate n (0,0))=List.replicate (n*2) (.int .i64 0):=by
 induction n with
 | zero=>rfl
 | succ n b =>
  rw[jbv];have a:∀(y:Int × Int) (l:List _),jB (y::l)=.int .i64 y.1::.int .i64 y.2::jB l:=λ_ _=>rfl
  rw[a,b,show(n+1)*2=n*2+1+1 by omega,jbv,jbv]
def OX(n:Nat):(madeCells (Value.agg #[(0:Int),(0:Int)]).cells (n*2)).toList=jB (List.replicate n (0,0)):=by
 rw[L8];apply List.ext_getElem
 .simp[madeCells]
 .intro i a b
  simp[madeCells,Value.cells]
  rcases jb2 i with h|h<;>simp[h]
