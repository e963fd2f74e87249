/- The document's Walk (G1), and its Get (G3). -/
import Derived.Test.YtbohmhacdgckgaaGreatDoorQRchMove
set_option linter.all false
set_option maxHeartbeats 4000000
set_option maxRecDepth 100000
namespace Go.Proofs.YtbohmhacdgckgaaGreatDoor
open Go.RowKit renaming Below->β
open Go renaming World->ω, Value->υ, Calls->κ
open Option renaming none->O, some->S
open Go.Proofs.Tryz Go.RowKit Go.Maps
attribute [local go_sem ↓] Go.wp_at_zero Go.wp_at_succ
def vI{sp m:Nat}{D:Nat->Qh}{s:SV}(root:Int)(w:ω)(h:bG w sp D s m) :
    κ prog 82 #[sp,root] w λe w' =>
      ∃(a:Option Addr) (cap:Nat),e=.returned (.tuple #[.slice a (s.walk root).1.length cap,.int .i64 (s.walk root).2])/\Nums w' a (s.walk root).1/\(∀ g o,a=some ⟨g,o,none⟩->w.heap.size<=g/\(s.walk root).1.length<=cap)/\β w w w':=by
  obtain⟨H,ad,aa,al,a3⟩:=info_parts tN;have ai:=ah λi W (hi:i<5) (C:β w w W)=>(h.below C).cell hi
  have L:Hid (∀(n:Int) (v:IV) (W:ω),s.file n=some v->β w w W->∃ k:Nat,n=(k:Int)/\k<5/\W.cell? ⟨sp,k,none⟩=some ((D k).p:υ)/\W.cell? ⟨(D k).p,1,none⟩=some (v.h.c:υ)/\W.cell? ⟨(D k).p,3,none⟩=some (v.h.b:υ)):=λn v W z C=>by
    obtain⟨n0,n5,_⟩:=SV.dS z;have hk:n=(n.toNat:Int):=by omega
    obtain⟨H,_⟩:=(h.below C).gY z;exact⟨n.toNat,hk,by omega,(h.below C).jW z,H.cells.2.1,H.cells.2.2.2.1⟩
  have a2:Hid (Walks w s root (s.walk root) [] root none 0 w):=⟨jae _ _ _ _,rfl,ja6 _,.inl rfl,ja0 _ _⟩;generalize s.walk root=R at a2 |-;go_enter func82,ntmps82
  go_wp2
  go_loopw [6,7] (λu i wr=>∃(l:List Int) (n:Int) (a:Option Addr) (cap:Nat),u=.slice a l.length cap/\i=.int .i64 n/\Walks w s root R l n a cap wr) (λu _ _=>6-sliceLen u)
  case atStart=>exact⟨[],root,none,0,rfl,rfl,a2.out⟩
  case round =>
    obtain⟨l,n,a,cap,rfl,rfl,t⟩:=hrel;have aw:=t.len;obtain⟨q,hq⟩:∃ q,6-l.length=q+1:=⟨5-l.length,by omega⟩
    have A:=t.go;rw[hq] at A;by_cases F:n = -1
    . have g0:(n != -1)=false:=by simpa using F
      rw[F,SV.vT] at A;have f:=ah A
      have V:Hid (Nums wr a l/\∀ g o,a=some ⟨g,o,none⟩->w.heap.size<=g/\l.length<=cap):=⟨Bc t.own rfl,λg o e=>by
        subst e;refine⟨?_,Gf t.own⟩;rcases t.own.2 with⟨K,_⟩|⟨g',av,aq,hv,C,_⟩
        . cases K
        . cases hv;exact C⟩
      have x:=ah t.bel;go_wp2
      go_ret2
      exact⟨a,cap,by rw[<- f.out];rfl,by rw[<- f.out];exact V.out.1,by rw[<- f.out];exact V.out.2,x.out⟩
    . have g0:(n != -1)=true:=by simpa using F
      cases z:s.file n with
      | none =>
        rw[SV.vV F z] at A;have f:=ah A;have x:=ah t.bel;by_cases K:n<0
        . have g1:decide (n<0)=true:=decide_eq_true K
          go_wp2
          go_ret2
          first|exact⟨none,0,by rw[<- f.out];rfl,by rw[<- f.out];exact Nums.nil _ _,(λg o e=>by cases e),x.out⟩|exact⟨none,⟨0,by rw[<- f.out];rfl⟩,by rw[<- f.out];exact Nums.nil _ _,(λg o e=>by cases e),x.out⟩
        . have g1:decide (n<0)=false:=decide_eq_false K
          by_cases h1:5<=n
          . have g2:decide (5<=n)=true:=decide_eq_true h1
            go_wp2
            go_ret2
            first|exact⟨none,0,by rw[<- f.out];rfl,by rw[<- f.out];exact Nums.nil _ _,(λg o e=>by cases e),x.out⟩|exact⟨none,⟨0,by rw[<- f.out];rfl⟩,by rw[<- f.out];exact Nums.nil _ _,(λg o e=>by cases e),x.out⟩
          . have g2  := decide_eq_false h1
            obtain⟨k,rfl⟩:∃ k:Nat,n=(k:Int):=⟨n.toNat,by omega⟩
            have E:=ai.out k wr (by omega) t.bel
            rw[SV.zZ (by omega)] at z
            rw[z] at E;unfold bU at E;have k0:(0:Int)<=(k:Int):=by omega
            have k1:(k:Int)<5:=by omega
            have k2:((k:Int)).toNat=k:=by omega
            go_wp2
            go_ret2
            first|exact⟨none,0,by rw[<- f.out];rfl,by rw[<- f.out];exact Nums.nil _ _,(λg o e=>by cases e),x.out⟩|exact⟨none,⟨0,by rw[<- f.out];rfl⟩,by rw[<- f.out];exact Nums.nil _ _,(λg o e=>by cases e),x.out⟩
      | some v =>
        obtain⟨d,rfl,n5,a4,ap,ao⟩:=L.out n v wr z t.bel;have g1:decide ((d:Int)<0)=false:=by simp
        have g2:decide (5<=(d:Int))=false:=decide_eq_false (by omega)
        have k0:(0:Int)<=(d:Int):=by omega
        have k1:(d:Int)<5:=by omega
        have k2:((d:Int)).toNat=d:=by omega
        by_cases P:l.length=5
        . have g3:((l.length:Int)==5)=true:=by simp;omega
          rw[SV.vU F z P] at A;have f:=ah A;have x:=ah t.bel;go_wp2
          go_ret2
          first|exact⟨none,0,by rw[<- f.out];rfl,by rw[<- f.out];exact Nums.nil _ _,(λg o e=>by cases e),x.out⟩|exact⟨none,⟨0,by rw[<- f.out];rfl⟩,by rw[<- f.out];exact Nums.nil _ _,(λg o e=>by cases e),x.out⟩
        . have g3:((l.length:Int)==5)=false:=by simp;omega
          obtain⟨vr,Q⟩:∃ vr,s.file root=some vr:=by
            rcases t.root with e|e
            . rw[<- e];exact⟨v,z⟩
            . exact e
          have S:s.gZ root=vr.h.c:=by unfold SV.gZ;rw[Q]
          have x:=ah t.bel;obtain⟨rk,a5,r5,ab,a8,_⟩:=L.out root vr wr Q t.bel;have r0:(0:Int)<=(rk:Int):=by omega
          have r1:(rk:Int)<5:=by omega
          have r2:((rk:Int)).toNat=rk:=by omega
          subst a5
          have O:Hid (∀ W:ω,β w w W->W.cell? ⟨sp,d,none⟩=some ((D d).p:υ)/\W.cell? ⟨(D d).p,3,none⟩=some (v.h.b:υ)):=λW C=>by
            obtain⟨k',I,_,N,_,e3⟩:=L.out (d:Int) v W z C;have:d=k':=by omega
            subst this;exact⟨N,e3⟩
          have G:Hid (β w w wr.drew):=x.out.drew;have T:Hid (wr.drew.ownsRow w.heap.size 3 1 (.slice a l.length cap) l.length (iW l)):=t.own;generalize (D d).p=xn at a4 ap ao O;generalize (D rk).p=xr at ab a8;by_cases E:v.h.c=vr.h.c
          . have ac:(v.h.c != vr.h.c)=false:=by simpa using E
            rw[SV.uD F z P (by rw[S];exact E)] at A
            have af:=ah A;have a7:Hid (∃ v,s.file (rk:Int)=some v):=⟨vr,Q⟩;have ar:l.length<=4:=by omega
            have HQ:=ah hq;have HM:Hid (l.length+1<=maxLen):=by unfold Hid maxLen;omega
            go_wp2
            go_region
            generalize wr.drew=B at G T |-;have Z:Hid ((B.alloc (.cells #[(d:Int)] 3)).ownsRow w.heap.size 3 1 (.slice a l.length cap) l.length (iW l)):=T.out.alloc _;have a1:Hid ((B.alloc (.cells #[(d:Int)] 3)).heap.size=B.heap.size+1):=by unfold Hid;simp
            have Y:Hid (w.heap.size<=(B.alloc (.cells #[(d:Int)] 3)).heap.size):=by unfold Hid;have:=G.out.size;rw[a1.out];omega
            have am:Hid (∀ j y,([.int .i64 (d:Int)]:List υ)[j]?=some y->(B.alloc (.cells #[(d:Int)] 3)).cell? ((⟨B.heap.size,0,none⟩:Addr).add j)=some y):=cell_one_new _ _ _;have a6:Hid (β w w (B.alloc (.cells #[(d:Int)] 3))):=G.out.alloc G.out.size _
            go_wp2_with (at_builtin;refine wpList_append_lies _ (by rfl) _ _ 88 (by rfl) w.heap.size 3 H (.int .i64 0) 1 8 underlying88 ad aa al a3 rfl (by decide) (.slice a l.length cap) l.length (iW l) (by rfl) Z.out ⟨B,0,none⟩ 1 1 [(d:Int)] (by rfl) (by rfl) am.out (λu X=>by simp at X;subst X;rfl) (by decide) HM.out (by omega) Y.out (B.heap.size+1) a1.out ?_
                         intro g k J a0 U ag ae;have M:Hid (β w w J):=a6.out.grown U Y.out (λr e=>(Z.out.lt r e).1)
                         have a9:=ah a0;have d3:=(O.out J M.out).1;have d4:=(O.out J M.out).2
                         clear a0 U ag ae)
            have an:Hid (Walks w s (rk:Int) R (l++[(d:Int)]) v.h.b (some ⟨g,0,none⟩) k J):=by
              have I:(l++[(d:Int)]).length=l.length+1:=by simp
              have N:iW (l++[(d:Int)])=iW l++[.int .i64 (d:Int)]:=by simp[iW]
              refine⟨?_,?_,by rw[I];omega,.inr a7.out,M.out⟩
              . rw[I,N];exact a9.out
              . have:=HQ.out
                rw[I,show 6-(l.length+1)=q by omega];exact af.out
            go_roundw
            case rel =>
              exact⟨l++[(d:Int)],v.h.b,some ⟨g,0,none⟩,k,by simp,rfl,an.out⟩
            case measure=>simp[sliceLen];omega
          . have ac:(v.h.c != vr.h.c)=true:=by simpa using E
            rw[SV.walk_other F z P (by rw[S];exact E)] at A
            have f:=ah A;go_wp2
            go_region
            go_wp2
            go_ret2
            exact⟨none,0,by rw[<- f.out];rfl,by rw[<- f.out];exact Nums.nil _ _,(λg o e=>by cases e),G.out⟩
def GL{sp m cap C:Nat}{xs:Nat->Qh}{s:SV}{a:Option Addr}(l:List Int)(fr n:Int)(w:ω)(h:bG w sp xs s m)(I:Nums w a l)(d:s.good (C:Int) l)(Y:l.length<=100)(hC:C<=40)(Q : -9223372036854775808<=fr/\fr<=9223372036854775807) :
  κ prog 44 #[sp,.slice a l.length cap,fr,n] w λe t=>e=.returned (.tuple #[.string (s.ji l fr n),s.aW l fr n])/\β w w t:=by
 have g:=ah (vJ (cap:=cap) l fr n w h I d (by omega) Q)
 by_cases o:s.aW l fr n=0
 .obtain⟨v,n0,n1,n2⟩:=SV.mO d o
  obtain⟨f,rfl⟩:∃ f:Nat,fr=(f:Int):=⟨fr.toNat,by omega⟩
  obtain⟨k,rfl⟩:∃ k:Nat,n=(k:Int):=⟨n.toNat,by omega⟩
  have r:Hid (s.ji l (f:Int) (k:Int)=s.jS l f k):=by unfold Hid SV.ji;rw[if_pos o];rfl
  rw[o] at g |-;have H:Hid (∀ j,j<=k->(s.jS l f j).size=j*16):=λj L=>SV.EC d h.ok v j (by omega)
  have M:Hid (s.jS l f 0=bytesOf []):=rfl;have z:Hid (∀ j,s.jS l f (j+1)=s.jS l f j++(s.read l (((f+j) / 4:Nat):Int)).1.extract ((f+j) % 4*16) (((f+j) % 4+1)*16)):=λj=>rfl
  have E:Hid (∀(j:Nat) (W:ω),j<k->β w w W->κ prog 118 #[sp,.slice a l.length cap,(((f:Int)+(j:Int)) / 4:Int)] W λe t=>e=.returned (.tuple #[.string (s.read l (((f+j) / 4:Nat):Int)).1,(0:Int)])/\β W W t):=λj W L B=>by
   have:=BJ (cap:=cap) l (((f+j) / 4:Nat):Int) W (h.below B) (I.below B) d Y
   rw[(SV.kS d h.ok v  ⟨by omega,by omega⟩).1,show((((f+j) / 4:Nat)):Int)=((f:Int)+(j:Int)) / 4 by omega] at this;exact this
  generalize s.ji l (f:Int) (k:Int)=R at r |-;generalize s.jS l f=G at r z H M;generalize hq:l.length=q at g E |-;have a4:f+k<=1000:=by omega
  have kk  := ja8 _ (by omega)
  go_enter func44,ntmps44
  go_wp2_with fail
  refine cHd g.out λO U=>?_
  go_wp2
  go_loopw [11,12] (λu i wr=>∃(j:Nat),j<=k/\u=.string (G j)/\i=.int .i64 ((f:Int)+(j:Int))/\β w w wr) (λ_ i _=>(f+k)-(intOf i).toNat)
  case atStart=>exact⟨0,ja6 _,by rw[M.out];rfl,by simp,U.out⟩
  case round =>
   obtain⟨j,T,rfl,rfl,K⟩:=hrel;have D:=ah K;by_cases x:j<k
   .have A:=ah (E.out j wr x K)
    have Z:=(λj (L:j<k)=>(SV.kS d h.ok v (c:=(((f+j) / 4:Nat):Int)) ⟨by omega,by omega⟩).2) j x
    have J:=ah (z.out j);have a3:=H.out j T;generalize (s.read l (((f+j) / 4:Nat):Int)).1=y at A Z J;have e0:(0:Int)<=(f:Int)+(j:Int):=by omega
    obtain⟨b,a2⟩:∃ b:Nat,(f+j) % 4=b:=⟨_,rfl⟩;have e1:((f:Int)+(j:Int)) % 4=(b:Int):=by omega
    have e2:(0:Int)<=16*(b:Int):=by omega
    have e3:16*(b:Int)<=16*(b:Int)+16:=by omega
    have e5:(16*(b:Int)).toNat=16*b:=by omega
    have e6:(16*(b:Int)+16).toNat=16*b+16:=by omega
    have e8:¬9223372036854775807<(G j).size+(y.extract (16*b) (16*b+16)).size:=by rw[jaB];omega
    have V:Hid (G j++y.extract (16*b) (16*b+16)=G (j+1)):=by
     unfold Hid;rw[J.out,a2,show b*16=16*b by omega,show(b+1)*16=16*b+16 by omega]
    go_wp2_with fail
    refine cBl A.out D.out λwB a1=>?_
    go_wp2
    go_roundw
    case rel =>
     exact⟨j+1,by omega,by rw[V.out],by go_num,a1.out⟩
    case measure=>simp[intOf];omega
   .have a0:j=k:=by omega
    subst a0;go_wp2
    go_ret2
    exact⟨by rw[r.out];rfl,D.out⟩
 .have r:Hid (s.ji l fr n=bytesOf []):=by unfold Hid SV.ji;rw[if_neg o]
  have N:Hid (0<s.aW l fr n):=by
   unfold Hid SV.aW at *
   split
   .decide
   .split
    .decide
    .next X P=>rw[if_neg X,if_neg P] at o;exact absurd rfl o
  rw[r.out];generalize s.aW l fr n=F at g N |-;have g1  := decide_eq_true N.out;generalize l.length=q at g |-;go_enter func44,ntmps44
  go_wp2_with fail
  refine cEq g.out λO S=>?_
  go_wp2
  go_ret2
  exact⟨rfl,S⟩
structure Alike(a b:ω):Prop where
 heap:b.heap=a.heap
 os:b.os=a.os
 tape:b.tape=a.tape
 output:b.output=a.output
theorem Alike.below{a b:ω}(h:Alike a b):β a a b:=Kept.below  ⟨h.os,h.tape,h.output,by rw[h.heap];omega,λk _ _=>by rw[h.heap]⟩ (ja1 _) (λ_=>False.elim)
def dR(a:aT):Obj:=.cells #[a.kind,a.a,a.b,a.c,a.d,a.s,.slice a.ka a.kl a.kc] 36 (0,0)
structure lC(w:ω)(N:Nat)(a:aT):Prop where
 blk:w.heap[N]?=S (dR a)
def Alike.after{c a b:ω}(h:β c c a)(d:Alike a b):β c c b:=h.trans (d.below.mono h.size)
def Alike.far{c a b d:ω}(h:β c c a)(g:β b b d)(f:Alike a b):β c c d:=(Alike.after h f).trans (g.mono (Alike.after h f).size)
theorem dP.more{w b:ω}{c xp cap m m' C:Nat}{a:Option Addr}{qs:Nat->Qh}{s z:SV}{j:JV}(h:dP c xp a cap qs s z m C j w b)(d:m<=m'):dP c xp a cap qs s z m' C j w b:=by
 obtain⟨qs',g,f⟩:=h;exact⟨qs',g.more d,f⟩
def RJ.yt{w d b:ω}{c xp cap m m' C:Nat}{a:Option Addr}{qs:Nat->Qh}{s:SV}{j:JV}{is:Int}{R:SV × Int}{e:Ending}(h:RJ w c xp a cap qs s m C j is)(f:β w w d)(hd:bH d c qs s m' R e b)(o:s.alike R.1):e=.returned R.2/\∃ qs',RJ b c xp a cap qs' R.1 m' C j is/\dZ qs s xp w qs' R.1 b:=by
 obtain⟨qs',l,g,i⟩:=hd;obtain⟨k,n⟩:=(h.below f).kL g i o;exact⟨l,qs',k,(dZ.of_below f).trans n⟩
def RJ.reads{w:ω}{f xp cap m C:Nat}{a:Option Addr}{qs:Nat->Qh}{s:SV}{j:JV}{is:Int}(h:RJ w f xp a cap qs s m C j is):∃(g o n:Nat) (r:List Int) (v:IV),a=S ⟨g,o,O⟩/\j.l=(n:Int)::r/\s.file (n:Int)=S v/\n<5 /\
  ∀ W:ω,β w w W->W.cell? ⟨xp,0,O⟩=S (f:υ)/\W.cell? ⟨xp,2,O⟩=S (j.kind:υ)/\W.cell? ⟨xp,3,O⟩=S (j.file:υ)/\W.cell? ⟨xp,6,O⟩=S (.slice a j.l.length cap)/\W.cell? ⟨g,o,O⟩=S (.int .i64 (n:Int))/\W.cell? ⟨f,n,O⟩=S ((qs n).p:υ):=by
 obtain⟨n,r,v,d,b,y⟩:=h.ok.root;obtain⟨z,x,_⟩:=SV.dS b;obtain⟨k,rfl⟩:∃ k:Nat,n=(k:Int):=⟨n.toNat,by omega⟩
 obtain⟨g,o,q,i⟩:=h.nums 0 (by rw[d];simp)
 refine⟨g,o,k,r,v,q,d,b,by omega,λW c=>?_⟩
 obtain⟨u,c2,c3,t,_⟩:=(h.below c).job.cells;rw[d,jaR] at i;exact⟨u,c2,c3,t,(c.cell  (ja2 _ _ i)).trans i,((h.below c).shelf.jW b)⟩
structure Rl(w:ω)(mp xp:Nat)(a:Option Addr)(cap:Nat)(qs:Nat->Qh)(s:SV)(m C:Nat)(j:JV)(is:Int)(b:Option Addr)(l:List Int)(z:SV)(wr:ω)(ys:Nat->Qh):Prop where
 p:RJ wr mp xp a cap ys z m C j is
 m:dZ qs s xp w ys z wr
 n:Nums wr b l
 ap:Apart b (fpR ys z xp)
def S9{xp c cap m C:Nat}{a:Option Addr}{qs:Nat->Qh}{s:SV}{j:JV}(w:ω)(h:RJ w c xp a cap qs s m C j j.state)(hm:m+10<1000000000) :
    κ prog 132 #[xp] w λe P=>e=.returned (dh s j)/\dP c xp a cap qs s (dU s j) (m+10) C (eG s j) w P:=by
  have HP:=ah h;obtain⟨c0,c2,c3,c6,c7,aM,a8,aE,aR⟩:=h.job.cells;have al:Hid (dP c xp a cap qs s s (m+10) C j w w):=(dP.below h (ja0 _ _)).more (by omega)
  have L:Hid (β w w w.drew):=(ja0 _ _).drew;unfold dh dU eG;by_cases t:j.state=3
  . rw[t] at a8
    by_cases q:j.kind=2
    . rw[if_pos t,if_pos t,if_pos q,if_pos q]
      obtain⟨g,o,n,r,v,ha,hl,J,aD,a7⟩:=h.reads;have aq:j.l.headD 0=(n:Int):=by rw[hl];rfl
      rw[aq];have Z:0<j.l.length:=by rw[hl];simp
      have an:(0:Int)<(j.l.length:Int):=by omega
      have H:Hid (∀ W:ω,β w w W->κ prog 198 #[(qs n).p,j.file] W λe P=>e=.returned (.int .i64 (dL s (n:Int) j.file).2)/\∃ qs',RJ P c xp a cap qs' (dL s (n:Int) j.file).1 (m+10) C j j.state/\dZ qs s xp w qs' (dL s (n:Int) j.file).1 P):=λW z =>
        (Sj (n:=(n:Int)) j.file W (h.shelf.below z) J hm).mono λe P hd=>h.yt z hd (SV.alike.link _ _ _)
      have av:0<=(dL s (n:Int) j.file).2:=by
        unfold dL;rw[J];show 0<=IV.iV _ _
        unfold IV.iV DV.aU;split<;>(try split)<;>decide
      obtain⟨q0,q2,q3,q6,qg,qm⟩:=a7 w.drew L.out;have a6:=ah a7
      have K:Hid (∀(d:ω) (D:Nat->Qh),RJ d c xp a cap D (dL s (n:Int) j.file).1 (m+10) C j j.state->dZ qs s xp w D (dL s (n:Int) j.file).1 d->d.cell? ⟨xp,0,none⟩=some (c:υ)/\d.cell? ⟨xp,3,none⟩=some (j.file:υ)/\d.cell? ⟨xp,6,none⟩=some (.slice a j.l.length cap)/\d.cell? ⟨g,o,none⟩=some (.int .i64 (n:Int))/\d.cell? ⟨c,n,none⟩=some ((qs n).p:υ)):=λd D hr hm=>by
        obtain⟨k0,k2,k3,k6,_⟩:=hr.job.cells;obtain⟨_,_,_,_,kg,km⟩:=a7 w (ja0 _ _);exact⟨k0,k3,k6,(hm.cell (p:=⟨g,o,none⟩) (ja2 _ _ kg) (h.ap g o ha)).trans kg,(hm.cell (p:=⟨c,n,none⟩) (lt_of_some h.shelf.blk) h.not.2).trans km⟩
      subst ha;generalize b3:dL s (n:Int) j.file=R at H av K |-;generalize (qs n).p=E at H qm a6 K;generalize j.l.length=ln at q6 a6 Z an K;generalize j.file=fl at q3 H a6 K;have n0:(0:Int)<=(n:Int):=by omega
      have n5:(n:Int)<5:=by omega
      have gk:(j.kind==2)=true:=by simpa using q
      by_cases M:R.2=0
      . rw[if_neg (λe=>e.2.2 M)]
        rw[M] at H;rw[M];go_enter func132,ntmps132
        go_wp2
        go_region_held3 (λW=>W.cell? ⟨xp,0,none⟩=some (c:υ)/\W.cell? ⟨xp,3,none⟩=some (fl:υ)/\W.cell? ⟨xp,6,none⟩=some (.slice (some ⟨g,o,none⟩) ln cap)/\W.cell? ⟨g,o,none⟩=some (.int .i64 (n:Int))/\W.cell? ⟨c,n,none⟩=some (E:υ))
          (first|(exact⟨q0,q3,q6,qg,qm⟩)|assumption)
          (first
            | (go_at_call 198;refine(H.out _ L.out).mono ?_;rintro e d ⟨rfl,D,I,Q⟩;have ac:d.cell? ⟨xp,0,none⟩=some (c:υ)/\d.cell? ⟨xp,3,none⟩=some (fl:υ)/\d.cell? ⟨xp,6,none⟩=some (.slice (some ⟨g,o,none⟩) ln cap)/\d.cell? ⟨g,o,none⟩=some (.int .i64 (n:Int))/\d.cell? ⟨c,n,none⟩=some (E:υ):=K.out _ _ I Q))
        have T:Hid (dP c xp (some ⟨g,o,none⟩) cap qs s R.1 (m+10) C j w d):=⟨D,I,Q⟩;go_wp2
        go_ret
        exact⟨rfl,T.out⟩
      . rw[if_pos ⟨t,q,M⟩]
        have gf:decide (0<R.2)=true:=decide_eq_true (by omega)
        go_enter func132,ntmps132
        go_wp2
        go_region_held3 (λW=>W.cell? ⟨xp,0,none⟩=some (c:υ)/\W.cell? ⟨xp,3,none⟩=some (fl:υ)/\W.cell? ⟨xp,6,none⟩=some (.slice (some ⟨g,o,none⟩) ln cap)/\W.cell? ⟨g,o,none⟩=some (.int .i64 (n:Int))/\W.cell? ⟨c,n,none⟩=some (E:υ))
          (first|(exact⟨q0,q3,q6,qg,qm⟩)|assumption)
          (first
            | (go_at_call 198;refine(H.out _ L.out).mono ?_;rintro e d ⟨rfl,D,I,Q⟩;have ac:d.cell? ⟨xp,0,none⟩=some (c:υ)/\d.cell? ⟨xp,3,none⟩=some (fl:υ)/\d.cell? ⟨xp,6,none⟩=some (.slice (some ⟨g,o,none⟩) ln cap)/\d.cell? ⟨g,o,none⟩=some (.int .i64 (n:Int))/\d.cell? ⟨c,n,none⟩=some (E:υ):=K.out _ _ I Q))
        have T:Hid (dP c xp (some ⟨g,o,none⟩) cap qs s R.1 (m+10) C (j.at 5) w (d.setCell ⟨xp,74,none⟩ (5:Int))):=by
          obtain⟨p2,m2⟩:=I.og 5;refine⟨D,?_,Q.trans m2⟩;rw[j.wC (by decide)]
          exact p2.staged (.inr (.inr (.inr rfl)))
        obtain⟨_,_,_,_,_,_,b1,_,b2⟩:=I.job.cells;go_wp2
        go_ret
        exact⟨rfl,T.out⟩
    . rw[if_pos t,if_pos t,if_neg q,if_neg q,if_neg (λe=>q e.2.1)]
      have gk:(j.kind==2)=false:=by simpa using q
      have U:=ah (vI j.file w.drew (h.shelf.below L.out))
      have HC:Hid (∀ W:ω,β w w W->W.cell? ⟨xp,0,none⟩=some (c:υ)/\W.cell? ⟨xp,3,none⟩=some (j.file:υ)):=λW z=>by
        obtain⟨c0,c2,c3,_⟩:=(h.below z).job.cells;exact⟨c0,c3⟩
      obtain⟨hg,a4,ab,_⟩:=s.walk_good j.file;have Y:=ah hg;have d0:w.drew.cell? ⟨xp,0,none⟩=some (c:υ):=c0;have d3:w.drew.cell? ⟨xp,3,none⟩=some (j.file:υ):=c3;generalize s.gZ j.file=rc at Y;generalize s.walk j.file=R at U Y a4 ab |-;obtain⟨l,f⟩:=R;simp only at U Y a4 ab |-;obtain⟨F,x⟩:=fls s l;have a5:=ah x;rw[<- x.all];generalize j.file=fl at c3 d3 HC U;generalize j.kind=kd at c2 gk;generalize Z:l.length=ln at U a4 |-;go_enter func132,ntmps132
      go_wp2
      go_region_held3 (λW=>W.cell? ⟨xp,0,none⟩=some (c:υ)/\W.cell? ⟨xp,3,none⟩=some (fl:υ))
        (first|(exact⟨d0,d3⟩)|assumption)
        (first
          | (go_at_call 82;refine U.out.mono ?_;rintro e d ⟨b,bc,rfl,ai,ae,az⟩;have a2:=ah (L.out.trans (az.mono L.out.size));have ac:=HC.out _ a2.out))
      have am:Hid (Rl w c xp a cap qs s m C j j.state b l (F 0) d qs):=by
        unfold Hid;rw[a5.out.zero]
        exact⟨HP.out.below a2.out,dZ.of_below a2.out,ai,λg o e M=>by
          have A:=HP.out.gQ M;have q:=(ae g o e).1;have t:w.heap.size<=g:=q
          omega⟩
      go_wp2
      go_loopw [6] (λi wr=>∃(k:Nat) (N:Nat->Qh),k<=ln/\i=.int .i64 (k:Int)/\Rl w c xp a cap qs s m C j j.state b l (F k) wr N) (λi _=>ln-(intOf i).toNat)
      case atStart=>exact⟨0,qs,ja6 _,rfl,am.out⟩
      case round =>
        obtain⟨k,N,hk,rfl,x⟩:=hrel;have y:=ah x;by_cases b0:k<ln
        . have a0:k<l.length:=by omega
          obtain⟨g,o,z,X⟩:=x.n k a0;subst z;obtain⟨v0,ax,_⟩:=Y.out (l.getD k 0) (by rw[ja5,ja7 a0];exact jab a0)
          obtain⟨v,J,_⟩:=(a5.out.alike k).head _ _ ax;have S:=x.p.shelf.jW J;obtain⟨n0,n5,_⟩:=SV.dS J;have a1:=ah λW (z:β wr wr W)=>GI W (x.p.shelf.below z) J
          have V:Hid (F (k+1)=(F k).fU (l.getD k 0)):=a5.out.next k a0;obtain⟨e0,_⟩:=x.p.job.cells;have aa:Hid ((F k).alike ((F k).fU (l.getD k 0))):=SV.alike.fU _ _;generalize l.getD k 0=n at X S a1 V n0 n5 aa;obtain⟨u,rfl⟩:∃ u:Nat,n=(u:Int):=⟨n.toNat,by omega⟩
          have ao:((u:Int)).toNat=u:=by omega
          rw[ao] at S a1;generalize (N u).p=E at S a1;have k0:(0:Int)<=(k:Int):=by omega
          have k1:(k:Int)<(ln:Int):=by omega
          have ad:Hid (β wr wr wr.drew):=(ja0 _ _).drew;have d0  := e0;have dn  := X;have dm  := S
          have ag:Hid (∀(W B:ω) (G:Nat->Qh),β wr wr W->bG B c G ((F k).fU (u:Int)) m->jr N (F k) W G ((F k).fU (u:Int)) B->Rl w c xp a cap qs s m C j j.state (some ⟨g,o,none⟩) l (F (k+1)) B G/\B.cell? ⟨xp,0,none⟩=some (c:υ)/\B.cell? ⟨g,o+k,none⟩=some (.int .i64 (u:Int))/\B.cell? ⟨c,u,none⟩=some (E:υ)):=λW B G a9 A q=>by
            obtain⟨t,h4⟩:=(y.out.p.below a9).kL A q aa.out;have af:l≠[]:=by intro e;subst e;simp at Z;omega
            have O:=(dZ.of_below (qs:=N) (s:=F k) (xp:=xp) a9).trans h4;exact⟨⟨by rw[V.out];exact t,by rw[V.out];exact y.out.m.trans O,y.out.n.moved O.toMoved y.out.ap,by rw[V.out];exact y.out.ap.moved y.out.n af O.toMoved⟩,t.job.cells.1,(O.cell (p:=⟨g,o+k,none⟩) (ja2 _ _ X) (y.out.ap g o rfl)).trans X,(O.cell (p:=⟨c,u,none⟩) (lt_of_some y.out.p.shelf.blk) y.out.p.not.2).trans S⟩
          go_wp2
          go_region_held3 (λW=>W.cell? ⟨xp,0,none⟩=some (c:υ)/\W.cell? ⟨g,o+k,none⟩=some (.int .i64 (u:Int))/\W.cell? ⟨c,u,none⟩=some (E:υ))
            (first|(exact⟨d0,dn,dm⟩)|assumption)
            (first
              | (go_at_call 120;refine(a1.out _ ad.out).mono ?_;rintro e B ⟨rfl,G,A,q⟩;have a3:=ag.out _ _ _ ad.out A q;have aL:=a3.2;have ar:=ah a3.1;clear a3 A q))
          go_wp2
          go_roundw
          case rel =>
            exact⟨k+1,G,by omega,by go_num,ar.out⟩
          case measure=>simp[intOf];omega
        . have aw:k=l.length:=by omega
          have T:Hid (dP c xp a cap qs s (F ln) (m+10) C j w wr):=by
            have A:=x.p;have q:=x.m;rw[aw,Z] at A q;exact⟨N,A.more (by omega),q⟩
          go_wp2
          go_ret
          exact⟨rfl,T.out⟩
  . have g3:(j.state != 3)=true:=by simpa using t
    rw[if_neg t,if_neg t,if_neg (λe=>t e.1)]
    generalize j.state=st at a8 g3;go_enter func132,ntmps132
    go_wp2
    go_ret
    exact⟨rfl,al.out⟩
def SV.FD(s:SV)(n c:Int)(t:ByteArray):0<=(s.move n c t).2:=by
 unfold SV.move;split
 .omega
 .split
  .exact DC _ _
  .split
   .exact I7 _ _ _ _
   .exact Eo _ _ _
def JV.Ce(j:JV):j.some=true↔S4.cnt j.x 64≠0:=by
 unfold JV.some S4.nX;have a:(S4.elems _).length=S4.cnt _ 64:=(S4.Ed j.x 64);rw[<- a]
 cases S4.elems _ with
 | nil=>simp
 | cons y r=>simp
def RJ.IZ{w b:ω}{i xp cap m C:Nat}{a:Option Addr}{qs d:Nat->Qh}{s z:SV}{j:JV}{k:Nat}(F:k<64)(E:j.stage=1)(h:RJ b i xp a cap d z m C j.took 1)(v:dZ qs s xp w d z b) :
  (if S4.fK j.n j.x (k:Int) false=true then b.setCell ⟨xp,9+k,O⟩ false else b).cell? ⟨xp,73,O⟩=S (j.last:υ)/\(if S4.fK j.n j.x (k:Int) false=true then b.setCell ⟨xp,9+k,O⟩ false else b).frozen? ⟨xp,73,O⟩=false /\
  κ prog 183 #[xp] ((if S4.fK j.n j.x (k:Int) false=true then b.setCell ⟨xp,9+k,O⟩ false else b).setCell ⟨xp,73,O⟩ (k:Int)) λe g=>e=.returned (.tuple #[])/\dP i xp a cap qs s z m C (j.went (k:Int)) w g:=by
 obtain⟨f,r⟩:=h.qG (k:Int) _;obtain⟨q,l⟩:=f.BX (c:=(k:Int)) ⟨by omega,by omega⟩
 obtain⟨_,_,_,_,_,B,_,A,_⟩:=f.job.cells;refine⟨B,A,(BM _ q).mono λe g ⟨y,o,t⟩=>⟨y,d,?_,v.trans (r.trans (l.trans t))⟩⟩
 have u:pO 1 (S4.cnt (S4.eY j.n j.x (k:Int) false) 64)=(j.went (k:Int)).state:=by
  have D:(j.went (k:Int)).state=if j.stage=1/\S4.cnt (S4.eY _ _ (k:Int) _) 64=0 then 3 else j.stage:=rfl
  unfold pO;omega
 rw[<- u];exact o
def Tj{xp b cap m C:Nat}{a:Option Addr}{qs:Nat->Qh}{s:SV}{j:JV}(w:ω)(h:RJ w b xp a cap qs s m C j j.state)(d:j.stage≠1) :
  κ prog 140 #[xp] w λe g=>e=.returned (.tuple #[false,(9:Int)])/\dP b xp a cap qs s s (m+10) C j w g:=by
 have i:Hid (dP b xp a cap qs s s (m+10) C j w w):=(dP.below h (ja0 _ _)).more (by omega)
 obtain⟨k,c2,c3,n,l,q,f,o,r⟩:=h.job.cells
 have c:j.state=j.stage:=by
  rcases j.yP with⟨e,_⟩|⟨_,e⟩
  .exact absurd e d
  .exact e
 have g1:(j.state != 1)=true:=by rw[c];simpa using d
 have g3:(j.state != 3)=true:=by have:=h.ok.st3;rw[c];simpa using this
 generalize j.state=st at f g1 g3;go_enter func140,ntmps140
 go_wp2
 go_ret2
 exact⟨rfl,i.out⟩
def Ti{xp f cap m C:Nat}{a:Option Addr}{qs:Nat->Qh}{s:SV}{j:JV}(w:ω)(h:RJ w f xp a cap qs s m C j j.state)(k:j.stage=1)(c:j.some=false) :
    κ prog 140 #[xp] w λe d=>e=.returned (.tuple #[false,(0:Int)])/\dP f xp a cap qs s s (m+10) C j w d:=by
  have E:=ah h;have r:Hid (dP f xp a cap qs s s (m+10) C j w w):=(dP.below h (ja0 _ _)).more (by omega)
  obtain⟨y,c2,c3,B,t,o,q,v,F⟩:=h.job.cells;have g:Hid (β w w w.drew):=(ja0 _ _).drew;have i:S4.jd j.x (S4.elems j.x):=⟨rfl⟩;have b:Hid (κ prog 205 #[.pointer (S ⟨xp,8,O⟩),(j.last+1:Int)] w.drew λe d=>e=.returned (.tuple #[j.pick,j.some])/\d=w.drew):=S4.Bz (S4.elems j.x) i (j.last+1) w.drew (h.below g.out).job.qM h.ok.set
  have A:=h.ok.last;have z:IntKind.i64.wrap (j.last+1)=j.last+1:=ja8 _ (by omega)
  have n:w.drew.cell? ⟨xp,73,O⟩=S (j.last:υ):=o
  have l:j.state=3:=by
    have:¬S4.cnt j.x 64≠0:=λe=>by rw[j.Ce.2 e] at c;cases c
    unfold JV.state;rw[if_pos ⟨k,by omega⟩]
  rw[l] at q;rw[c] at b;have D:=ah ((dP.below h g.out).more (show m<=m+10 by omega))
  clear h E r i l c k y c2 c3 B t v F;generalize j.pick=H at b;generalize j.last=u at b A z n o;go_enter func140,ntmps140
  go_wp2
  go_region_held3 (λW=>W.cell? ⟨xp,73,O⟩=S (u:υ))
    (first|(exact n)|assumption)
    (first
      | (go_at_call 205;refine b.out.mono ?_;rintro e G ⟨rfl,rfl⟩))
  go_wp2
  go_ret2
  exact⟨rfl,D.out⟩
def Tm{xp i cap m C:Nat}{a:Option Addr}{qs:Nat->Qh}{s:SV}{j:JV}(w:ω)(h:RJ w i xp a cap qs s m C j j.state)(v:j.stage=1)(o:j.some=true)(q:S4.inB 4 j.lv=false) :
    κ prog 140 #[xp] w λe b=>e=.returned (.tuple #[false,(0:Int)])/\dP i xp a cap qs s s (m+10) C j w b:=by
  have l:=ah h;have F:Hid (dP i xp a cap qs s s (m+10) C j w w):=(dP.below h (ja0 _ _)).more (by omega)
  obtain⟨J,c2,c3,P,G,B,D,I,R⟩:=h.job.cells;have d:Hid (β w w w.drew):=(ja0 _ _).drew;have t:S4.jd j.x (S4.elems j.x):=⟨rfl⟩;have c:Hid (κ prog 205 #[.pointer (some ⟨xp,8,none⟩),(j.last+1:Int)] w.drew λe b=>e=.returned (.tuple #[j.pick,j.some])/\b=w.drew):=S4.Bz (S4.elems j.x) t (j.last+1) w.drew (h.below d.out).job.qM h.ok.set
  have N:=h.ok.last;have M:IntKind.i64.wrap (j.last+1)=j.last+1:=ja8 _ (by omega)
  have A:w.drew.cell? ⟨xp,73,none⟩=some (j.last:υ):=B
  have n:j.state=1:=by
    have:=j.Ce.1 o
    unfold JV.state;rw[if_neg (λe=>this e.2),v]
  rw[n] at D l;rw[o] at c;obtain⟨K,y,z⟩:=(l.out.below d.out).job.bkt;have u:=ah (S4.Gi 4 w.drew y ⟨h.ok.lv.1,by have:=h.ok.lv;omega⟩)
  have r:S4.jq j.lv 4=j.lv:=by unfold S4.jq;rw[q];rfl
  rw[q,r] at u
  have E:Hid (∀ b:ω,S4.jU 198 K b xp j.rate j.burst j.lv->S4.Kept (λk=>k=xp) w.drew b->dP i xp a cap qs s s (m+10) C j w b):=λb g f=>by
    obtain⟨L,O⟩:=(l.out.below d.out).rU z g f ⟨h.ok.lv.1,h.ok.lv.2.1⟩;refine⟨qs,?_,(dZ.of_below d.out).trans O⟩;rw[n];exact L.more (by omega)
  clear h l F t n o v J c2 c3 P G I R z y r q;generalize j.pick=T at c;generalize j.last=H at c N M A B;go_enter func140,ntmps140
  go_wp2
  go_region_held3 (λW=>W.cell? ⟨xp,73,none⟩=some (H:υ))
    (first|(exact A)|assumption)
    (first
      | (go_at_call 205;refine c.out.mono ?_;rintro e S ⟨rfl,rfl⟩))
  go_wp2_with fail
  refine u.out.mono ?_;rintro e U ⟨rfl,g,f⟩;have Q:=ah (E.out _ g f);clear g f;go_wp2
  go_ret2
  exact⟨rfl,Q.out⟩
def BL{xp f cap m C:Nat}{a:Option Addr}{qs:Nat->Qh}{s:SV}{j:JV}{B:Bool}{V:Int}{S':SV}{P:JV}(w:ω)(h:RJ w f xp a cap qs s m C j j.state)(hm:m+10<1000000000)(h1:j.stage=1)(X:j.some=true)(J:S4.inB 4 j.lv=true)
    (H:j.iL s j.pick=false/\B=true/\V=0/\S'=s/\P=j.went j.pick\/j.iL s j.pick=true/\S'=(j.moved s j.pick).1/\((j.moved s j.pick).2=0/\B=true/\V=0/\P=j.went j.pick\/(j.moved s j.pick).2≠0/\B=false/\V=(j.moved s j.pick).2/\P=j.fell)) :
    κ prog 140 #[xp] w λe c=>e=.returned (.tuple #[B,V])/\dP f xp a cap qs s S' (m+10) C P w c:=by
  have Z:=ah h;have aq:Hid (dP f xp a cap qs s s (m+10) C j w w):=(dP.below h (ja0 _ _)).more (by omega)
  obtain⟨c0,c2,c3,c6,c7,ab,ap,av,aM⟩:=h.job.cells;have O:Hid (β w w w.drew):=(ja0 _ _).drew;have af:S4.jd j.x (S4.elems j.x):=⟨rfl⟩;have K:Hid (κ prog 205 #[.pointer (some ⟨xp,8,none⟩),(j.last+1:Int)] w.drew λe c=>e=.returned (.tuple #[j.pick,j.some])/\c=w.drew):=S4.Bz (S4.elems j.x) af (j.last+1) w.drew (h.below O.out).job.qM h.ok.set
  have aE:=h.ok.last;have aD:IntKind.i64.wrap (j.last+1)=j.last+1:=ja8 _ (by omega)
  have an:w.drew.cell? ⟨xp,73,none⟩=some (j.last:υ):=ab
  have hs:j.state=1:=by
    have:=j.Ce.1 X
    unfold JV.state;rw[if_neg (λe=>this e.2),h1]
  rw[hs] at ap Z;rw[X] at K;obtain⟨ax,ag,ai⟩:=(Z.out.below O.out).job.bkt;have a9:=ah (S4.Gi 4 w.drew ag ⟨h.ok.lv.1,by have:=h.ok.lv;omega⟩)
  have h4:4<=j.lv:=by unfold S4.inB at J;simp at J;omega
  have ae:S4.jq j.lv 4=j.lv-4:=by unfold S4.jq;rw[J];rfl
  rw[J,ae] at a9
  have b2:Hid (∀ c:ω,S4.jU 198 ax c xp j.rate j.burst (j.lv-4)->S4.Kept (λk=>k=xp) w.drew c->RJ c f xp a cap qs s m C j.took 1/\dZ qs s xp w qs s c):=λc N L=>by
    obtain⟨p1,m1⟩:=(Z.out.below O.out).rU ai N L ⟨by omega,by have:=h.ok.lv;omega⟩
    exact⟨p1,(dZ.of_below O.out).trans m1⟩
  obtain⟨k,al,aR,ac⟩:=h.ok.pick X;rw[al] at K H;clear h Z aq af hs X c0 c2 c3 c6 c7 av aM ai ag ae J al;generalize b5:j.last=ar at K aE aD an ab;go_enter func140,ntmps140
  go_wp2
  go_region_held3 (λW=>W.cell? ⟨xp,73,none⟩=some (ar:υ))
    (first|(exact an)|assumption)
    (first
      | (go_at_call 205;refine K.out.mono ?_;rintro e w1 ⟨rfl,rfl⟩))
  go_wp2_with fail
  refine a9.out.mono ?_;rintro e w2 ⟨rfl,N,L⟩;obtain⟨p2,m2⟩:=b2.out _ N L;have aa:=ah p2;have ad:=ah m2;have t:=ah (G8 (k:Int) w2 p2);rw[show j.took.iL s (k:Int)=j.iL s (k:Int) from rfl] at t
  clear N L p2 m2;rcases H with⟨a6,rfl,rfl,rfl,rfl⟩|⟨a6,hS,H⟩
  . rw[a6] at t
    go_wp2_with fail
    refine t.out.mono ?_;rintro e b ⟨rfl,z⟩;have d:=ah (aa.out.below z);have a5:=ah (ad.out.trans (dZ.of_below z));clear z t;have i:=ah (S4.BA (k:Int) false b d.out.job.qM d.out.ok.n64);rw[show j.took.n=j.n from rfl,show j.took.x=j.x from rfl,show((k:Int)).toNat=k from rfl] at i
    obtain⟨a3,a1,A⟩:=RJ.IZ ac h1 d.out a5.out;have y:=ah A;clear A;generalize (if S4.fK j.n j.x (k:Int) false=true then b.setCell ⟨xp,9+k,none⟩ false else b)=W4 at i y a3 a1
    generalize S4.fK j.n j.x (k:Int) false=pb at i;go_wp2_with fail
    refine i.out.mono ?_;rintro e c ⟨rfl,E⟩;have a2:=E.symm;subst a2;clear E;go_wp2_with fail
    refine y.out.mono ?_;rintro e w6 ⟨rfl,hd⟩;have I:=ah (hd.more (show m<=m+10 by omega))
    clear hd y;go_wp2
    go_ret2
    exact⟨rfl,I.out⟩
  . rw[a6] at t
    go_wp2_with fail
    refine t.out.mono ?_;rintro e b ⟨rfl,z⟩;have d:=ah (aa.out.below z);have a5:=ah (ad.out.trans (dZ.of_below z));clear z t;obtain⟨v,hv⟩:=d.out.ok.into;obtain⟨r1,r2⟩:=d.out.ok.read d.out.shelf.ok aR
    have S:Hid (∀ W:ω,β b b W->κ prog 118 #[f,.slice a j.l.length cap,(k:Int)] W λe c=>e=.returned (.tuple #[.string (s.read j.l (k:Int)).1,(0:Int)])/\β W W c):=λW q=>by
      have:=BJ (cap:=cap) j.l (k:Int) W (d.out.shelf.below q) (d.out.nums.below q) d.out.ok.good (by have:=d.out.ok.len;have e:j.took.l=j.l:=rfl;rw[e] at this;omega)
      rw[show(s.read j.l (k:Int)).2=0 from r1] at this;exact this
    have F:Hid (∀ W:ω,β b b W->κ prog 207 #[f,j.into,(k:Int),.string (s.read j.l (k:Int)).1] W λe c=>e=.returned (.int .i64 (j.moved s (k:Int)).2)/\∃ qs',RJ c f xp a cap qs' (j.moved s (k:Int)).1 (m+10) C j.took 1/\dZ qs s xp b qs' (j.moved s (k:Int)).1 c):=λW q =>
      (Sl j.into (k:Int) _ W (d.out.shelf.below q) hv r2 hm).mono λe c hd=>d.out.yt q hd (SV.alike.move _ _ _ _)
    obtain⟨g,o,n,r,v',ha,hl,_,_,ao⟩:=d.out.reads
    have u:Hid (∀ W:ω,β b b W->W.cell? ⟨xp,0,none⟩=some (f:υ)/\W.cell? ⟨xp,2,none⟩=some (j.kind:υ)/\W.cell? ⟨xp,3,none⟩=some (j.file:υ)/\W.cell? ⟨xp,6,none⟩=some (.slice a j.l.length cap)/\W.cell? ⟨g,o,none⟩=some (.int .i64 (n:Int))):=λW q=>by
      obtain⟨Q,k2,k3,U,kg,_⟩:=ao W q;exact⟨Q,k2,k3,U,kg⟩
    have a7:j.l=(n:Int)::r:=hl;have D:Hid (j.into=if j.kind=2 then (n:Int) else j.file):=by unfold Hid JV.into;rw[a7];rfl
    have az:0<j.l.length:=by rw[a7];simp
    have aw:(0:Int)<(j.l.length:Int):=by omega
    subst ha;clear ao hl a7 hv r1 r2;have a0:Hid (β b b b.drew):=(ja0 _ _).drew;obtain⟨Q,k2,k3,U,kg⟩:=u.out b (ja0 _ _);have l0:b.drew.cell? ⟨xp,0,none⟩=some (f:υ):=Q;have l6:b.drew.cell? ⟨xp,6,none⟩=some (.slice (some ⟨g,o,none⟩) j.l.length cap):=U;clear Q U kg k2 k3;generalize (s.read j.l (k:Int)).1=T at S F;generalize a4:j.moved s (k:Int)=R at F H;generalize j.into=into at F D;generalize j.l.length=ln at S u aw az l6;generalize j.file=fl at u D;generalize j.kind=kd at u D;have aL:(kd==2)=true/\into=(n:Int)\/(kd==2)=false/\into=fl:=by rw[D.out];by_cases e:kd=2<;>simp[e]
    clear D;rcases aL with⟨b0,rfl⟩|⟨b0,rfl⟩
    all_goals
      go_wp2
      go_region_held3 (λW=>W.cell? ⟨xp,0,none⟩=some (f:υ)/\W.cell? ⟨xp,6,none⟩=some (.slice (some ⟨g,o,none⟩) ln cap))
        (first|(exact⟨l0,l6⟩)|assumption)
        (first
          | (go_at_call 118;refine(S.out _ a0.out).mono ?_;rintro e w4 ⟨rfl,am⟩;have M:=ah (a0.out.trans (am.mono a0.out.size));have b1:w4.cell? ⟨xp,0,none⟩=some (f:υ)/\w4.cell? ⟨xp,6,none⟩=some (.slice (some ⟨g,o,none⟩) ln cap):=⟨(u.out _ M.out).1,(u.out _ M.out).2.2.2.1⟩;clear am))
      obtain⟨q0,q2,q3,q6,q7⟩:=u.out w4 M.out;clear b1;go_wp2_with fail
      refine(F.out _ M.out).mono ?_;rintro e Y ⟨rfl,zs,p5,m5⟩;have G:=ah p5;have a8:=ah (a5.out.trans m5);clear p5 m5 F S;rcases H with⟨hR,rfl,rfl,rfl⟩|⟨hR,rfl,rfl,rfl⟩
      . rw[hR]
        have i:=ah (S4.BA (k:Int) false Y G.out.job.qM G.out.ok.n64);rw[show j.took.n=j.n from rfl,show j.took.x=j.x from rfl,show((k:Int)).toNat=k from rfl] at i
        obtain⟨a3,a1,A⟩:=RJ.IZ ac h1 G.out a8.out;have y:=ah A;clear A;generalize (if S4.fK j.n j.x (k:Int) false=true then Y.setCell ⟨xp,9+k,none⟩ false else Y)=W4 at i y a3 a1
        generalize S4.fK j.n j.x (k:Int) false=pb at i;go_wp2_with fail
        refine i.out.mono ?_;rintro e c ⟨rfl,E⟩;have a2:=E.symm;subst a2;clear E;go_wp2_with fail
        refine y.out.mono ?_;rintro e w6 ⟨rfl,hd⟩;have I:=ah (hd.more (show m+10<=m+10 by omega))
        clear hd y;go_wp2
        go_ret2
        exact⟨rfl,by rw[hS,a4];exact I.out⟩
      . have gf:decide (0<R.2)=true:=decide_eq_true (by have:0<=R.2:=a4▸SV.FD _ _ _ _;omega)
        obtain⟨_,_,_,_,_,_,b3,_,b4⟩:=G.out.job.cells
        have I:Hid (dP f xp (some ⟨g,o,none⟩) cap qs s R.1 (m+10) C j.fell w (Y.setCell ⟨xp,74,none⟩ (5:Int))):=by
          obtain⟨p6,m6⟩:=G.out.og 5;refine⟨zs,?_,a8.out.trans m6⟩;have e5:j.fell.state=5:=j.took.wC (by decide)
          rw[e5];exact p6.staged (st:=5) (.inr (.inr (.inr rfl)))
        go_wp2
        go_ret2
        exact⟨rfl,by rw[hS,a4];exact I.out⟩
def Tf{xp k cap m C:Nat}{a:Option Addr}{qs:Nat->Qh}{s:SV}{j:JV}(w:ω)(h:RJ w k xp a cap qs s m C j j.state)(i:m+10<1000000000) :
  κ prog 140 #[xp] w λe l=>e=.returned (.tuple #[.bool (fE s j),bW s j])/\dP k xp a cap qs s (stepS s j) (m+10) C (stepJ s j) w l:=by
 unfold fE bW stepS stepJ;by_cases b:j.stage=1
 .cases d:j.some with
  | false =>
   rw[decide_eq_false (λe=>absurd e.2.1 (by decide)),if_pos b,if_neg (λe=>absurd e.1 (by decide)),if_neg (λe=>absurd e.2.1 (by decide)),if_neg (λe=>absurd e.2.1 (by decide))]
   exact Ti w h b d
  | true =>
   cases f:S4.inB 4 j.lv with
   | false =>
    rw[decide_eq_false (λe=>absurd e.2.2.1 (by decide)),if_pos b,if_neg (λe=>absurd e.2.1 (by decide)),if_neg (λe=>absurd e.2.2.1 (by decide)),if_neg (λe=>absurd e.2.2 (by decide))]
    exact Tm w h b d f
   | true =>
    cases g:j.iL s j.pick with
    | false =>
     rw[decide_eq_true ⟨b,rfl,rfl,λe=>absurd e.1 (by decide)⟩,if_pos b,if_neg (λe=>absurd e.2.2 (by decide)),if_neg (λe=>absurd e.2.2.2 (by decide)),if_pos ⟨b,rfl,rfl⟩,if_neg (λe=>absurd e.1 (by decide))]
     exact BL w h i b d f (.inl ⟨g,rfl,rfl,rfl,rfl⟩)
    | true =>
     by_cases c:(j.moved s j.pick).2=0
     .rw[decide_eq_true ⟨b,rfl,rfl,λe=>e.2 c⟩,if_pos b,if_pos ⟨rfl,rfl,rfl⟩,if_pos ⟨b,rfl,rfl,rfl⟩,if_pos ⟨b,rfl,rfl⟩,if_neg (λe=>e.2 c),c]
      exact BL w h i b d f (.inr ⟨g,rfl,.inl ⟨c,rfl,rfl,rfl⟩⟩)
     .rw[decide_eq_false (λe=>e.2.2.2 ⟨rfl,c⟩),if_pos b,if_pos ⟨rfl,rfl,rfl⟩,if_pos ⟨b,rfl,rfl,rfl⟩,if_pos ⟨b,rfl,rfl⟩,if_pos ⟨rfl,c⟩]
      exact BL w h i b d f (.inr ⟨g,rfl,.inr ⟨c,rfl,rfl,rfl⟩⟩)
 .rw[decide_eq_false (λe=>b e.1),if_neg b,if_neg (λe=>b e.1),if_neg (λe=>b e.1)]
  exact Tj w h b
structure aP where
 root:Int
 kind:Int
 file:Int
 rate:Int
 burst:Int
def oh(s:SV)(l:List Int)(f:Int):Int:=match s.file f with
 | none=>4
 | some v=>if l.contains f=true\/v.h.b ≠ -1\/v.h.c≠s.gJ l then 2 else 0
def jX(s:SV)(l:List Int)(d:aP):Int :=
 if d.kind=1 then oh s l d.file
 else if d.kind=2\/d.kind=3 then (if d.kind=2/\d.file = -1\/(l.drop 1).contains d.file=true then 0 else 4)
 else 1
def newF(s:SV)(d:aP):Int :=
 if (s.walk d.root).2≠0 then (s.walk d.root).2
 else if (s.walk d.root).1=[] then 4
 else if (S4.inB d.rate 1000&&S4.inB d.burst 1000)=false then 1
 else jX s (s.walk d.root).1 d
def oG(l:List Int)(d:aP):Nat:=if d.kind=1 then 0 else if Lib.idxOf l d.file = -1 then l.length else (Lib.idxOf l d.file).toNat
def bY(s:SV)(d:aP):JV:=⟨d.root,d.kind,d.file,d.rate,d.burst,(s.walk d.root).1,oG (s.walk d.root).1 d,(s.gJ (s.walk d.root).1).toNat,0,-1,2,d.burst⟩
def jR(s:SV)(j:JV):Nat->Nat
 | 0=>0
 | k+1=>S4.eY j.n (jR s j k) (k:Int) (j.iL s (k:Int))
def gI(s:SV)(d:aP):JV:=(bY s d).put (jR s (bY s d) (bY s d).n)
def IW(s:SV)(j:JV)(a:j.n<=64):∀ k,S4.jw j.n (jR s j k):=by
 intro k
 induction k with
 | zero=>exact S4.Ia _ a
 | succ k b=>exact S4.yg b _ _
def tJ(l:List Int)(f:Int)(h:l.Nodup):(Lib.idxOf l f = -1/\f ∉ l)\/∃ k:Nat,Lib.idxOf l f=(k:Int)/\k<l.length/\l.getD k 0=f:=by
 by_cases b:f∈l
 .right
  obtain⟨k,c,e⟩:=List.getElem_of_mem b;have hd:l.getD k 0=f:=by simp_all
  have d:=Lib.idxOf_hit l _ k f c (ja1 _) hd (λj a m=>by
   have i:j<l.length:=by omega
   have g:l[j]=l[k]:=by simp_all
   exact List.pairwise_iff_getElem.1 h j k i c a g)
  rw[jaT] at d;exact⟨k,d,c,hd⟩
 .left
  refine⟨?_,b⟩
  have d:=Lib.idxOf_miss l _ f (λj a e=>b (by
   rw[ja5,ja7 a] at e
   rw[<- e];exact jab a))
  simp_all
structure wz(s:SV)(d:aP)(m:Nat):Prop where
 ok:s.ok m
 w0:(s.walk d.root).2=0
 ne:(s.walk d.root).1≠[]
 rt:S4.inB d.rate 1000=true
 bu:S4.inB d.burst 1000=true
 ck:jX s (s.walk d.root).1 d=0
def AV{s:SV}{d:aP}{m:Nat}(b:s.ok m)(h:newF s d=0):wz s d m:=by
 unfold newF at h;split at h
 .omega
 .next g =>
  split at h
  .cases h
  .next f =>
   split at h
   .cases h
   .next c =>
    have a:(S4.inB d.rate 1000&&S4.inB d.burst 1000)=true:=by simpa using c
    rw[jaU] at a;exact⟨b,jaj g,f,a.1,a.2,h⟩
def Dz{s:SV}{l:List Int}{d:aP}(h:jX s l d=0):d.kind=1\/d.kind=2\/d.kind=3:=by
 unfold jX at h;omega
def wz.jok{s:SV}{d:aP}{m:Nat}(h:wz s d m):∃ C:Nat,JOk s C (bY s d)/\s.gJ (s.walk d.root).1=(C:Int)/\1<=C:=by
 obtain⟨f,B,_,_⟩:=s.walk_good d.root;have g:=Linked.nodup _ _ (SV.qR h.w0);have H:=f.gJ h.ne
 obtain⟨n,r,q⟩:∃ n r,(s.walk d.root).1=n::r:=by
  cases y:(s.walk d.root).1 with
  | nil=>exact absurd y h.ne
  | cons n r=>exact⟨n,r,rfl⟩
 obtain⟨v,E,F⟩:=f n (by rw[q];exact jag)
 have G:=HV.dK (h.ok _ _ (SV.dS E).2.2).h;have c:=h.rt;have b:=h.bu;unfold S4.inB at c b;simp at c b
 refine⟨(s.gJ _).toNat,⟨?_,h.ne,B,rfl,by omega,S4.Ia _ (by show(s.gJ _).toNat<=64;omega),(Dz h.ck),?_,?_,?_,.inr (.inl rfl),⟨by show(-1:Int) <= -1;omega,by show(-1:Int)<64;omega⟩,⟨c.1,c.2⟩,⟨b.1,jb9 _,b.2⟩⟩,by omega,by omega⟩
 .show s.good (((s.gJ _).toNat:Nat):Int) _
  rw[show(((s.gJ _).toNat:Nat):Int)=s.gZ d.root by omega]
  exact f
 .intro o
  have z:d.kind≠2:=o;show ∃ v,s.file d.file=S v
  have a:=h.ck;unfold jX at a;by_cases i:d.kind=1
  .rw[if_pos i] at a
   unfold oh at a
   cases j:s.file d.file with
   | none=>rw[j] at a;cases a
   | some u=>exact⟨u,rfl⟩
  .have x:d.kind=3:=by omega
   rw[if_neg i,if_pos (.inr x)] at a;split at a
   .next e =>
    rcases e with e|e
    .exact absurd e.1 z
    .have A:d.file∈(s.walk d.root).1.drop 1:=by simpa using e
     obtain⟨u,w,_⟩:=f d.file (jbt A);exact⟨u,w⟩
   .cases a
 .show oG _ d<=(s.walk d.root).1.length
  unfold oG;split
  .exact ja6 _
  .rcases tJ _ d.file g with⟨e,_⟩|⟨k,e,D,_⟩
   .rw[if_pos e];exact ja1 _
   .rw[e,if_neg (by omega)];omega
 .intro t
  have l:d.kind≠1:=t;show(Lib.idxOf (s.walk d.root).1 d.file=((oG _ d:Nat):Int)/\oG _ d<(s.walk d.root).1.length)\/(Lib.idxOf _ d.file = -1/\oG _ d=(s.walk d.root).1.length)
  unfold oG;rw[if_neg l];rcases tJ _ d.file g with⟨e,_⟩|⟨k,e,D,_⟩
  .rw[if_pos e];exact .inr ⟨e,rfl⟩
  .rw[e,if_neg (by omega)];exact .inl ⟨by omega,by omega⟩
def JOk.newX{s:SV}{C:Nat}{j:JV}(h:JOk s C j)(k:Nat):JOk s C (j.put (jR s j k)):={h with set:=IW s j (by have:=h.n;have:=h.c40;omega) k}
def lX(l:List Int)(f:Int):Nat->Int
 | 0 => -1
 | k+1=>if l.getD k 0=f then (k:Int) else lX l f k
def OC(l:List Int)(f:Int)(h:l.Nodup):lX l f l.length=Lib.idxOf l f:=by
 rcases tJ l f h with⟨e,g⟩|⟨k,e,c,hd⟩
 .have:∀ n,n<=l.length->lX l f n = -1:=by
   intro n
   induction n with
   | zero=>intro _;rfl
   | succ n b =>
    intro i;have a:n<l.length:=by omega
    unfold lX
    rw[if_neg (λe=>g (by
     rw[ja5,ja7 a] at e
     rw[<- e];exact jab a)),b (by omega)]
  simp_all
 .have:∀ n,n<=l.length->k<n->lX l f n=(k:Int):=by
   intro n
   induction n with
   | zero=>omega
   | succ n b =>
    intro i j;unfold lX;by_cases m:n=k
    .simp_all
    .have a:n<l.length:=by omega
     rw[if_neg (λd=>by
      rw[ja5,ja7 a] at d;rw[ja5,ja7 c] at hd
      exact List.pairwise_iff_getElem.1 h k n c a (by omega) ((show l[n]=f from d).trans (show l[k]=f from hd).symm).symm),b (by omega) (by omega)]
  simp_all
def LM{l:List Int}{f:Int}(h:l.Nodup):(l.drop 1).contains f=true↔1<=Lib.idxOf l f:=by
 have g:(l.drop 1).contains f=true↔f∈l.drop 1:=by simp
 rw[g]
 constructor
 .intro b
  rcases tJ l f h with⟨_,i⟩|⟨k,e,a,hd⟩
  .exact absurd (jbt b) i
  .cases k with
   | zero =>
    exfalso
    cases l with
    | nil=>cases b
    | cons x r =>
     simp_all
   | succ k=>omega
 .intro j
  rcases tJ l f h with⟨e,_⟩|⟨k,e,a,hd⟩
  .omega
  .cases l with
   | nil=>simp at a
   | cons x r =>
    cases k with
    | zero=>omega
    | succ k =>
     have c:k<r.length:=by simpa using a
     have d:r.getD k 0=f:=hd;rw[ja5,ja7 c] at d;rw[<- d];exact jab c
def KN{l:List Int}{f:Int}:l.contains f=true↔0<=Lib.idxOf l f:=by
 rw[<- Lib.idxOf_nonneg_iff]
def KA{sp m cap:Nat}{A:Nat->Ih}{s:SV}{a:Option Addr}{C:Int}(l:List Int)(f:Int)(w:ω)(h:bD w sp A s m)(I:Nums w a l)(M:s.good C l)(h0:l≠[])(h5:l.length<=100) :
    κ prog 238 #[.pointer (some ⟨sp,6,none⟩),.slice a l.length cap,f] w λe k=>e=.returned (erV (oh s l f))/\β w w k:=by
  have y:=ah (tH f w h);unfold oh
  cases G:s.file f with
  | none =>
    rw[G] at y;unfold iE at y;simp only
    rw[bJ (by decide)]
    clear h I M G;generalize l.length=ln;go_enter func238,ntmps238
    go_wp2_with fail
    refine y.out.mono ?_;rintro e k ⟨rfl,F⟩;have Z:=F.symm;subst Z;clear F;go_wp2
    go_ret
    exact⟨rfl,ja0 _ _⟩
  | some v =>
    rw[G] at y;unfold iE at y;simp only
    have a2:=M.gJ h0
    obtain⟨n,r,E⟩:∃ n r,l=n::r:=by
      cases l with
      | nil=>exact absurd rfl h0
      | cons n r=>exact⟨n,r,rfl⟩
    obtain⟨u,J,a1⟩:=M n (by rw[E];exact jag)
    obtain⟨g,o,ha,S⟩:=I 0 (by rw[E];simp)
    subst ha;rw[E,jaR] at S;have R:w.cell? ⟨g,o,none⟩=some (n:υ):=S;have B:Hid (∀ W:ω,β w w W->κ prog 95 #[(A f.toNat).p] W λe k=>e=.returned (.agg #[v.h.c,v.h.p,v.h.b])/\β W W k):=λW t=>qo W ((h.below t).gY G).1
    have z:Hid (∀ W:ω,β w w W->κ prog 95 #[(A n.toNat).p] W λe k=>e=.returned (.agg #[u.h.c,u.h.p,u.h.b])/\β W W k):=λW t=>qo W ((h.below t).gY J).1
    have K:Hid (∀ W:ω,β w w W->κ prog 236 #[.slice (some ⟨g,o,none⟩) l.length cap,f] W λe k=>e=.returned (.bool (l.contains f))/\k=W):=λW t=>zI l f W (I.below t) rfl h5
    obtain⟨n0,n5,_⟩:=SV.dS J;obtain⟨d,rfl⟩:∃ d:Nat,n=(d:Int):=⟨n.toNat,by omega⟩
    have Y:((d:Int)).toNat=d:=by omega
    have O:Hid (∀ W:ω,β w w W->W.cell? ⟨g,o,none⟩=some (.int .i64 (d:Int))/\W.cell? ⟨sp,6+d,none⟩=some ((A d).p:υ)):=λW t=>⟨(t.cell (p:=⟨g,o,none⟩) (ja2 _ _ R)).trans R,by have:=(h.below t).jW J;rw[Y] at this;exact this⟩
    have a4:0<l.length:=by rw[E];simp
    have a3:(0:Int)<(l.length:Int):=by omega
    rw[Y] at z;rw[a2,<- a1];have U:=tC u.h.c u.h.p u.h.b;clear h I M G J S R a2 a1 E h0 Y;generalize (A f.toNat).p=xf at y B;generalize (A d).p=xn at z O;generalize l.contains f=P at K |-;generalize l.length=ln at K a4 a3 h5 |-;generalize v.h.c=j at B |-;generalize v.h.p=vp at B;generalize v.h.b=i at B |-;generalize u.h.c=H at z U |-;generalize u.h.p=up at z U;generalize u.h.b=ub at z U;have k0:(0:Int)<=(d:Int):=by omega
    have k5:(d:Int)<5:=by omega
    have HV:Hid (erV (if P=true\/i ≠ -1\/j≠H then 2 else 0)=if (P||(i != -1)||(j != H))=true then .iface 96 (.int .i64 2) else .nilIface):=by
      unfold Hid;simp only[Bool.or_eq_true,bne_iff_ne,ne_eq,or_assoc];split<;>rfl
    generalize erV (if P=true\/i ≠ -1\/j≠H then 2 else 0)=V at HV |-
    go_enter func238,ntmps238
    go_wp2_with fail
    refine y.out.mono ?_;rintro e k ⟨rfl,F⟩;have Z:=F.symm;subst Z;clear F;go_wp2_with fail
    refine(B.out _ (ja0 _ _)).mono ?_;rintro e q ⟨rfl,a0⟩;have D:Hid (β w w (q.alloc (.cells #[j,vp,i] 67))):=a0.alloc a0.size _;have X:(q.alloc (.cells #[j,vp,i] 67)).cell? ⟨q,0,none⟩=some (j:υ):=by rw[cell_of_row _ _ _ _ _ _ (heap_alloc_new q _)];rfl
    have b2:(q.alloc (.cells #[j,vp,i] 67)).cell? ⟨q,2,none⟩=some (i:υ):=by rw[cell_of_row _ _ _ _ _ _ (heap_alloc_new q _)];rfl
    clear a0;go_wp2_with fail
    generalize q.alloc (.cells #[j,vp,i] 67)=W1 at D X b2 |-;generalize q.heap.size=x at X b2 |-;cases P;cases gb:(i != -1);cases gc:(j != H)
    iterate 2
      . obtain⟨s1,s2⟩:=O.out _ D.out.drew
        have N:Hid (β w w W1.drew):=D.out.drew;have t0:W1.drew.cell? ⟨x,0,none⟩=some (j:υ):=X;have t2:W1.drew.cell? ⟨x,2,none⟩=some (i:υ):=b2
        go_region_held3 (λW=>W.cell? ⟨x,0,none⟩=some (j:υ)/\W.cell? ⟨x,2,none⟩=some (i:υ)/\W.cell? ⟨g,o,none⟩=some (.int .i64 (d:Int))/\W.cell? ⟨sp,6+d,none⟩=some (xn:υ))
          (first|(exact⟨t0,t2,s1,s2⟩)|assumption)
          (first
            | (go_at_call 236;refine(K.out _ N.out).mono ?_;rintro e k ⟨rfl,rfl⟩)
            | (go_at_call 95;refine(z.out _ N.out).mono ?_;rintro e L ⟨rfl,Q⟩;have T:=ah (N.out.trans (Q.mono N.out.size));have a5:L.cell? ⟨x,0,none⟩=some (j:υ)/\L.cell? ⟨x,2,none⟩=some (i:υ)/\L.cell? ⟨g,o,none⟩=some (.int .i64 (d:Int))/\L.cell? ⟨sp,6+d,none⟩=some (xn:υ):=⟨(Q.cell (p:=⟨x,0,none⟩) (ja2 _ _ t0)).trans t0,(Q.cell (p:=⟨x,2,none⟩) (ja2 _ _ t2)).trans t2,(O.out _ T.out).1,(O.out _ T.out).2⟩;clear Q))
        clear a5;go_wp2
        go_ret
        exact⟨lu (by rw[HV.out];simp[*]),T.out⟩
    all_goals
      go_quiet (first
        | (go_at_call 236;refine jaV (K.out _ (below_drewN D.out _))))
      go_wp2
      go_ret
      exact⟨lu (by rw[HV.out];simp[*]),below_drewN D.out _⟩
def Nums.tail{w:ω}{g o:Nat}{n:Int}{r:List Int}(h:Nums w (S ⟨g,o,O⟩) (n::r)):Nums w (S ⟨g,o+1,O⟩) r:=λk a=>by
 obtain⟨f,d,b,c⟩:=h (k+1) (by simpa using a)
 cases b
 refine⟨g,o+1,rfl,?_⟩;rw[show o+1+k=o+(k+1) by omega,c];rfl
def Dw{sp m cap : Nat}{J : Nat -> Ih}{s : SV}{a : Option Addr}{C : Int}(l : List Int)(d : aP)(w : ω)(h : bD w sp J s m)(y : Nums w a l)(H : s.good C l)(A : l ≠ [])(B : l.length <= 100)(D : l.length <= cap) :
    κ prog 192 #[.pointer (S ⟨sp, 6, none⟩), .slice a l.length cap, .agg #[d.root, .int .i64 d.kind, .int .i64 d.file, .int .i64 d.rate, .int .i64 d.burst]] w λe q => e = .returned (erV (jX s l d)) /\ β w w q := by
  have b : Hid (β w w (w.alloc (.cells #[d.root, .int .i64 d.kind, .int .i64 d.file, .int .i64 d.rate, .int .i64 d.burst] 82))) := (ja0 _ _).alloc (ja1 _) _;have F : (w.alloc (.cells #[d.root, .int .i64 d.kind, .int .i64 d.file, .int .i64 d.rate, .int .i64 d.burst] 82)).cell? ⟨w.heap.size, 1, none⟩ = S (d.kind:υ) := by rw [cell_of_row _ _ _ _ _ _ (heap_alloc_new w _)]; rfl
  have K : (w.alloc (.cells #[d.root, .int .i64 d.kind, .int .i64 d.file, .int .i64 d.rate, .int .i64 d.burst] 82)).cell? ⟨w.heap.size, 2, none⟩ = S (d.file:υ) := by rw [cell_of_row _ _ _ _ _ _ (heap_alloc_new w _)]; rfl
  unfold jX;by_cases j : d.kind = 1
  . rw [if_pos j]
    have z : Hid (∀ W : ω, β w w W -> κ prog 238 #[.pointer (S ⟨sp, 6, none⟩), .slice a l.length cap, .int .i64 d.file] W λe q => e = .returned (erV (oh s l d.file)) /\ β W W q) := λW t => KA l d.file W (h.below t) (y.below t) H A B
    generalize oh s l d.file = Q at z |-;rw [j] at F b K |-;generalize l.length = ln at z |-;go_enter func192, ntmps192
    go_wp2_with fail
    refine cBl (z.out _ b.out) b.out λO L => ?_
    go_wp2
    go_ret
    exact ⟨rfl, L.out⟩
  . rw [if_neg j]
    have g1 : (d.kind == 1) = false := by simpa using j
    by_cases v : d.kind = 2 \/ d.kind = 3
    . rw [if_pos v]
      obtain ⟨n, r, rfl⟩ : ∃ n r, l = n :: r := by
        cases l with
        | nil => exact absurd rfl A
        | cons n r => exact ⟨n, r, rfl⟩
      obtain ⟨g, o, M, _⟩ := y 0 (by simp)
      subst M
      have f : Hid (∀ W : ω, β w w W -> κ prog 236 #[.slice (if cap = 1 then S ⟨g, o, none⟩ else S ⟨g, o + 1, none⟩) r.length (cap - 1), .int .i64 d.file] W λe q => e = .returned (.bool (r.contains d.file)) /\ q = W) := λW t => by
        by_cases E : r = []
        . subst E
          exact Tryz.slices_Contains_int_empty _ _ _ W
        . have R : 0 < r.length := List.length_pos_iff.2 E
          have N : ¬ cap = 1 := by have : r.length + 1 <= cap := D; omega
          rw [if_neg N];exact zI r d.file W (y.below t).tail rfl (by have : r.length + 1 <= 100 := B; omega)
      rw [show (n :: r).drop 1 = r from rfl]
      have G : r.length + 1 <= cap := D;have I : (n :: r).length = r.length + 1 := rfl;rw [I];generalize r.contains d.file = c at f |-;generalize r.length = ln at f G |-;have P : ln + 1 - 1 = ln := by omega
      by_cases i : d.kind = 2
      . have g2 : (d.kind == 2) = true := by simpa using i
        by_cases k : d.file = -1
        . have gf : (d.file == -1) = true := by simpa using k
          rw [if_pos (.inl ⟨i, k⟩), aN];clear i k v j f;go_enter func192, ntmps192
          go_wp2_with fail
          go_quiet (fail)
          go_wp2
          go_ret
          exact ⟨rfl, below_drewN b.out _⟩
        . have gf : (d.file == -1) = false := by simpa using k
          have u : Hid ((if d.kind = 2 /\ d.file = -1 \/ c = true then (0 : Int) else 4) = if c = true then 0 else 4) := by
            unfold Hid;by_cases e : c = true
            . rw [if_pos (.inr e), if_pos e]
            . rw [if_neg (by rintro (x | x); exact k x.2; exact e x), if_neg e]
          rw [u.out];clear i k v j u
          cases c with
          | true =>
            rw [if_pos rfl, aN];go_enter func192, ntmps192
            go_wp2_with fail
            go_quiet (first
              | (go_at_call 236; refine jaV (f.out _ (below_drewN b.out _))))
            all_goals
              go_wp2
              all_goals
                go_ret
                exact ⟨rfl, below_drewN b.out _⟩
          | false =>
            rw [if_neg (by decide), bJ (by decide)]
            go_enter func192, ntmps192
            go_wp2_with fail
            go_quiet (first
              | (go_at_call 236; refine jaV (f.out _ (below_drewN b.out _))))
            all_goals
              go_wp2
              all_goals
                go_ret
                exact ⟨rfl, below_drewN b.out _⟩
      . have g2 : (d.kind == 2) = false := by simpa using i
        have g3 : (d.kind == 3) = true := by have : d.kind = 3 := by omega
                                             simpa using this
        have u : Hid ((if d.kind = 2 /\ d.file = -1 \/ c = true then (0 : Int) else 4) = if c = true then 0 else 4) := by
          unfold Hid;by_cases e : c = true
          . rw [if_pos (.inr e), if_pos e]
          . rw [if_neg (by rintro (x | x); exact i x.1; exact e x), if_neg e]
        rw [u.out]
        cases c with
        | true =>
          rw [if_pos rfl, aN];go_enter func192, ntmps192
          go_wp2_with fail
          go_quiet (first
            | (go_at_call 236; refine jaV (f.out _ (below_drewN b.out _))))
          all_goals
            go_wp2
            all_goals
              go_ret
              exact ⟨rfl, below_drewN b.out _⟩
        | false =>
          rw [if_neg (by decide), bJ (by decide)]
          go_enter func192, ntmps192
          go_wp2_with fail
          go_quiet (first
            | (go_at_call 236; refine jaV (f.out _ (below_drewN b.out _))))
          all_goals
            go_wp2
            all_goals
              go_ret
              exact ⟨rfl, below_drewN b.out _⟩
    . rw [if_neg v, eu]
      have g2 : (d.kind == 2) = false := by simp; omega
      have g3 : (d.kind == 3) = false := by simp; omega
      generalize l.length = ln;go_enter func192, ntmps192
      go_wp2
      go_ret
      exact ⟨rfl, b.out⟩
