/- A part of a range, put or wiped in the first file (G3). -/
import Derived.Test.YtbohmhacdgckgaaGreatDoorQOChainParts
set_option linter.all false
set_option maxHeartbeats 2000000
set_option maxRecDepth 100000
namespace Go.Proofs.YtbohmhacdgckgaaGreatDoor
open Go.RowKit renaming Below->β
open Go renaming World->ω, Value->υ, Calls->κ
open Option renaming some->S, none->O
open Go.Proofs.Tryz Go.RowKit Go.Maps
attribute [local go_sem ↓] Go.wp_at_zero Go.wp_at_succ
def Jb{sp m:Nat}{a:Nat->Ih}{s:SV}{n:Int}{v:IV}(c f:Int)(t:ByteArray)(w:ω)(h:bD w sp a s m)(b:s.file n=S v)(k:m+10<1000000000)(i:t.size<=1000)(g : -9223372036854775808<=f/\f<=9223372036854775807) :
  κ prog 223 #[(a n.toNat).p,c,f,t] w (cZ w sp a s (m+10) (s.upd n.toNat (v.write c f t),v.dJ c f t)):=by
 obtain⟨j,d⟩:=h.gY b;exact(Vx c f t w j.but d k (ja1 _) i g).mono λe l hd=>cZ.of h b (by omega) (d.write c f t (by omega)) hd
def Ep{sp m:Nat}{a:Nat->Ih}{s:SV}{n:Int}{v:IV}(c:Int)(t:ByteArray)(w:ω)(h:bD w sp a s m)(b:s.file n=S v)(g:m+10<1000000000) :
  κ prog 224 #[(a n.toNat).p,c,t] w (cZ w sp a s (m+10) (s.upd n.toNat (v.fill c t),v.dD c t)):=by
 obtain⟨f,d⟩:=h.gY b;exact(MQ c t w f.but d g (ja1 _)).mono λe i hd=>cZ.of h b (by omega) (d.fill c t (by omega)) hd
def DZ{sp m:Nat}{a:Nat->Ih}{s:SV}{n:Int}{v:IV}(c:Int)(w:ω)(h:bD w sp a s m)(b:s.file n=S v)(g:m+10<1000000000) :
  κ prog 234 #[(a n.toNat).p,c] w (cZ w sp a s (m+10) (s.upd n.toNat (v.clear c),v.fB c)):=by
 obtain⟨f,d⟩:=h.gY b;exact(KD c w f.but d g (ja1 _)).mono λe i hd=>cZ.of h b (by omega) (d.clear c (by omega)) hd
def PN{o t:ByteArray}{f n:Nat}(b:t.size=n*16)(a:f+n<=4):eU o 0 f++t++eU o (f+n) (4-(f+n))=o.extract 0 (f*16)++t++o.extract (f*16+t.size) 64:=by
 unfold eU;rw[show 0*16=0 by omega,show 0+f=f by omega,show(f+n)*16=f*16+t.size by omega,show(f+n+(4-(f+n)))*16=64 by omega]
def Gh{sp m cap:Nat}{D:Nat->Ih}{s:SV}{a:Option Addr}{C:Int}(x:Int)(r:List Int)(c f n b:Nat)(t:ByteArray)(w:ω)(h:bD w sp D s m)(hl:Nums w a (x::r))(hg:s.good C (x::r))(h5:(x::r).length<=100)(hm:m+10<1000000000)(hp:f+n<=4)(hc:(c:Int)<C)(ht:t.size=n*16) :
    κ prog 168 #[.pointer (some ⟨sp,6,none⟩),.slice a (x::r).length cap,.agg #[(c:Int),(f:Int),(n:Int),(b:Int)],t] w (cZ w sp D s (m+10) (s.lay (x::r) c f t)):=by
  obtain⟨v,B,an⟩:=hg x jaf;obtain⟨x0,x5,_⟩:=SV.dS B;obtain⟨r1,r2⟩:=SV.kS hg h.ok (by simp) (c:=(c:Int)) ⟨by omega,hc⟩
  have z:Hid (s.lay (x::r) c f t=if (v.bC c).1=2 then (s.upd x.toNat (v.write c f t),v.dJ c f t) else
      (s.upd x.toNat (v.fill c ((s.read (x::r) c).1.extract 0 (f*16)++t++(s.read (x::r) c).1.extract (f*16+t.size) 64)),v.dD c ((s.read (x::r) c).1.extract 0 (f*16)++t++(s.read (x::r) c).1.extract (f*16+t.size) 64))):=by
    unfold Hid;show(match s.file x with|none=>(s,(4:Int))|some v=>_)=_;rw[B]
  have I:=ah λW (d:β w w W)=>xJ (c:Int) W ((h.below d).gY B).1
  have X:=ah λW (d:β w w W)=>(Jb (c:Int) (f:Int) t W (h.below d) B hm (by omega) (by omega)).mono λe F hd=>hd.from d
  have O:=ah λT W (d:β w w W)=>Ep (c:Int) T W (h.below d) B hm
  have a4:Hid (∀ W:ω,β w w W->κ prog 171 #[.pointer (some ⟨sp,6,none⟩),.slice a (x::r).length cap,(c:Int)] W λe F=>e=.returned (.tuple #[.string (s.read (x::r) c).1,.nilIface])/\β W W F):=λW d=>by
    have:=zN (cap:=cap) (x::r) (c:Int) W (h.below d) (hl.below d) hg h5
    rw[r1,aN] at this;exact this
  have ac:Hid (∀ k,w.heap.size<=k->¬fpS D s k):=λk hk hs=>by have:=h.gQ hs;omega
  have a2:=ah λW (d:β w w W)=>(h.below d).jW B
  obtain⟨g,o,ha,a5⟩:=hl 0 (by simp)
  subst ha;have ad:w.cell? ⟨g,o,none⟩=some (x:υ):=a5;have ag:g<w.heap.size:=ja2 _ _ a5;obtain⟨k,rfl⟩:∃ k:Nat,x=(k:Int):=⟨x.toNat,by omega⟩
  have hk:((k:Int)).toNat=k:=by omega
  rw[hk] at I X O a2 z;have am:(0:Int)<(((k:Int)::r).length:Int):=by simp
  generalize ao:((k:Int)::r).length=q at am h5 a4 |-;generalize s.lay ((k:Int)::r) c f t=R at z |-;generalize (s.read ((k:Int)::r) c).1=l at r2 a4 z;generalize (v.bC c).1=y at I z;generalize (D k).p=xp at I X O a2;obtain⟨j,J⟩:∃ j:Int->Int->ByteArray,j=λx y=>eU l x.toNat y.toNat:=⟨_,rfl⟩
  obtain⟨i,aa⟩:∃ i:Int,i=(f:Int)+(n:Int):=⟨_,rfl⟩;obtain⟨rs,a9⟩:∃ rs:Int,rs=4-i:=⟨_,rfl⟩
  have ai:Hid (∀(x y:Int) (W:ω),(x=0/\y=(f:Int))\/(x=i/\y=rs)->κ prog 169 #[l,x,y] W λe F=>e=.returned (.string (j x y))/\F=W):=λx y W aq=>by
    have M:((x.toNat:Nat):Int)=x:=by omega
    have K:((y.toNat:Nat):Int)=y:=by omega
    have:=BQ l x.toNat y.toNat W (by omega) (by omega)
    rw[M,K] at this;rw[J];exact this
  have a3:(eU l 0 f).size=f*16:=rX (by omega)
  have a0:(eU l (f+n) (4-(f+n))).size=(4-(f+n))*16:=rX (by omega)
  have a8:j 0 (f:Int)=eU l 0 f:=by rw[J];rfl
  have ab:j i rs=eU l (f+n) (4-(f+n)):=by rw[J];show eU l i.toNat rs.toNat=_;congr 1<;>omega
  have H:=ah (PN (o:=l) ht hp);rw[<- a8] at a3 H;rw[<- ab] at a0 H;clear a8 ab J;have G:Hid (β w w (w.alloc (.cells #[(c:Int),(f:Int),(n:Int),(b:Int)] 224))):=(ja0 _ _).alloc (ja1 _) _;have V:Hid ((w.alloc (.cells #[(c:Int),(f:Int),(n:Int),(b:Int)] 224)).heap[w.heap.size]?=some (.cells #[(c:Int),(f:Int),(n:Int),(b:Int)] 224 (0,0))):=heap_alloc_new _ _;go_enter func168,ntmps168
  go_wp2
  generalize w.alloc (.cells #[(c:Int),(f:Int),(n:Int),(b:Int)] 224)=u at G V |-;have d1:u.cell? ⟨g,o,none⟩=some (.int .i64 (k:Int)):=(G.out.cell (p:=⟨g,o,none⟩) ag).trans ad;have d2:=a2.out u G.out;have y0:u.cell? ⟨w,0,none⟩=some (.int .i64 (c:Int)):=by rw[cell_of_row _ _ _ _ _ _ V.out];rfl
  have y1:u.cell? ⟨w,1,none⟩=some (.int .i64 (f:Int)):=by rw[cell_of_row _ _ _ _ _ _ V.out];rfl
  have y2:u.cell? ⟨w,2,none⟩=some (.int .i64 (n:Int)):=by rw[cell_of_row _ _ _ _ _ _ V.out];rfl
  go_region
  have a1:Hid (β w w u.drew):=G.out.drew;have e0:u.drew.cell? ⟨w,0,none⟩=some (.int .i64 (c:Int)):=y0;have M:u.drew.cell? ⟨w,1,none⟩=some (.int .i64 (f:Int)):=y1;have K:u.drew.cell? ⟨w,2,none⟩=some (.int .i64 (n:Int)):=y2;have af:=ah (I.out _ a1.out);go_wp2_with fail
  refine cEq af.out λw1 U=>?_
  have L:=ah (a1.out.trans (U.mono a1.out.size));have z0:=(U.cell (ja2 _ _ e0)).trans e0;have z1:=(U.cell (ja2 _ _ M)).trans M;have z2:=(U.cell (ja2 _ _ K)).trans K;by_cases Q:y=2
  . have g1:(y==2)=true:=by simpa using Q
    have A:Hid (R=(s.upd k (v.write c f t),v.dJ c f t)):=by unfold Hid;rw[z.out,if_pos Q]
    have a7:=ah (X.out _ L.out);rw[<- A.out] at a7;go_wp2_with fail
    refine a7.out.mono ?_;rintro e w2 ⟨Y,rfl,Z,E⟩;have HD:Hid (cZ w sp D s (m+10) R (.returned (erV R.2)) w2):=⟨Y,rfl,Z,E⟩;go_wp2
    go_ret
    exact HD.out
  . have g1:(y==2)=false:=by simpa using Q
    have A:Hid (R=(s.upd k (v.fill c (j 0 (f:Int)++t++j i rs)),v.dD c (j 0 (f:Int)++t++j i rs))):=by unfold Hid;rw[H.out,z.out,if_neg Q]
    have ae:=ah (a4.out _ L.out);go_wp2_with fail
    refine cEq ae.out λw2 S=>?_
    have al:=ah (L.out.trans (S.mono L.out.size));have u0:=(S.cell (ja2 _ _ z0)).trans z0;have u1:=(S.cell (ja2 _ _ z1)).trans z1;have u2:=(S.cell (ja2 _ _ z2)).trans z2;have k5:IntKind.i64.wrap ((f:Int)+(n:Int))=i:=by rw[aa];exact ja7 _ (by omega)
    have k6:IntKind.i64.wrap (4-i)=rs:=by rw[a9];exact ja7 _ (by omega)
    have v0  := u0;have v1  := u1;have a6:Hid (β w w w2.drew):=al.out.drew;generalize hA:j 0 (f:Int)=N at a3 A;generalize hB:j i rs=SB at a0 A;have k7:¬9223372036854775807<N.size+t.size:=by omega
    have k8:¬9223372036854775807<N.size+t.size+SB.size:=by omega
    have k9:¬9223372036854775807<(N++t).size+SB.size:=by rw[jaL];omega
    have P:=ah (O.out (N++t++SB) _ a6.out);rw[<- A.out] at P;rw[<- hA] at P k7 k8 k9;rw[<- hB] at P k8 k9;clear hA hB O H ht a3 a0 r2 aa a9 A;go_wp2
    go_region_held3 (λW=>W.cell? ⟨w,0,none⟩=some (.int .i64 (c:Int))/\W.cell? ⟨w,1,none⟩=some (.int .i64 (f:Int)))
      (first|(exact⟨v0,v1⟩)|assumption)
      (first
        | (go_at_call 169;refine(ai.out _ _ _ ?_).mono ?_;(· first|exact .inl ⟨rfl,rfl⟩|exact .inr ⟨rfl,rfl⟩);rintro e F ⟨rfl,rfl⟩)
        | (go_at_call 224;refine P.out.mono ?_;rintro e w4 ⟨Y,rfl,Z,E⟩;have ap:w4.cell? ⟨w,0,none⟩=some (.int .i64 (c:Int))/\w4.cell? ⟨w,1,none⟩=some (.int .i64 (f:Int)):=⟨(E.cell (p:=⟨w.heap.size,0,none⟩) (ja2 _ _ v0) (ac.out _ (ja1 _))).trans v0,(E.cell (p:=⟨w.heap.size,1,none⟩) (ja2 _ _ v1) (ac.out _ (ja1 _))).trans v1⟩))
    have HD:Hid (cZ w sp D s (m+10) R (.returned (erV R.2)) w4):=cZ.from ⟨Y,rfl,Z,E⟩ a6.out;go_wp2
    go_ret
    exact HD.out
def Vp{sp m cap:Nat}{l:Nat->Ih}{s:SV}{a:Option Addr}{C:Int}(x:Int)(r:List Int)(c f n b:Nat)(w:ω)(h:bD w sp l s m)(hl:Nums w a (x::r))(hg:s.good C (x::r))(h5:(x::r).length<=100)(hm:m+10<1000000000)(hp:f+n<=4)(hc:(c:Int)<C) :
    κ prog 184 #[.pointer (some ⟨sp,6,none⟩),.slice a (x::r).length cap,.agg #[(c:Int),(f:Int),(n:Int),(b:Int)]] w (cZ w sp l s (m+10) (SV.dI (x::r) s ⟨c,f,n,b⟩)):=by
  obtain⟨v,D,a9⟩:=hg x jaf;obtain⟨x0,x5,_⟩:=SV.dS D
  have z:Hid (SV.dI (x::r) s ⟨c,f,n,b⟩=if n=4 then (s.upd x.toNat (v.clear c),v.fB c) else if (v.bC c).1=1 then (s,0) else s.lay (x::r) c f (dY (n*16))):=by
    unfold Hid;show(match s.file x with|none=>(s,(4:Int))|some v=>_)=_;rw[D]
  have O:=ah λW (d:β w w W)=>xJ (c:Int) W ((h.below d).gY D).1
  have V:=ah λW (d:β w w W)=>(DZ (c:Int) W (h.below d) D hm).mono λe w' hd=>hd.from d
  have E:Hid (∀ W:ω,β w w W->κ prog 168 #[.pointer (some ⟨sp,6,none⟩),.slice a (x::r).length cap,.agg #[(c:Int),(f:Int),(n:Int),(b:Int)],.string (dY (n*16))] W (cZ W sp l s (m+10) (s.lay (x::r) c f (dY (n*16))))):=λW d =>
    Gh x r c f n b (dY (n*16)) W (h.below d) (hl.below d) hg h5 hm hp hc (by show(List.replicate (n*16) (0:UInt8)).toArray.size=_;simp)
  have a1:=ah λW=>DK n W (by omega)
  have a3:Hid (∀ W:ω,β w w W->cZ w sp l s (m+10) (s,0) (.returned .nilIface) W):=λW d=>by rw[<- aN];exact cZ.same (h.more (by omega)) d
  have P:Hid (∀ k,w.heap.size<=k->¬fpS l s k):=λk hk hs=>by have:=h.gQ hs;omega
  have Q:=ah λW (d:β w w W)=>(h.below d).jW D
  obtain⟨g,o,ha,Y⟩:=hl 0 (by simp)
  subst ha;have a7:w.cell? ⟨g,o,none⟩=some (x:υ):=Y;have a5:g<w.heap.size:=ja2 _ _ Y;obtain⟨k,rfl⟩:∃ k:Nat,x=(k:Int):=⟨x.toNat,by omega⟩
  have hk:((k:Int)).toNat=k:=by omega
  rw[hk] at O V Q z;have a6:(0:Int)<(((k:Int)::r).length:Int):=by simp
  generalize a8:((k:Int)::r).length=q at a6 h5 E |-;generalize SV.dI ((k:Int)::r) s ⟨c,f,n,b⟩=R at z |-;generalize s.lay ((k:Int)::r) c f (dY (n*16))=RL at z E;generalize dY (n*16)=NB at E a1;generalize (v.bC c).1=y at O z;generalize (l k).p=xp at O V Q;have N:Hid (β w w (w.alloc (.cells #[(c:Int),(f:Int),(n:Int),(b:Int)] 224))):=(ja0 _ _).alloc (ja1 _) _;have I:Hid ((w.alloc (.cells #[(c:Int),(f:Int),(n:Int),(b:Int)] 224)).heap[w.heap.size]?=some (.cells #[(c:Int),(f:Int),(n:Int),(b:Int)] 224 (0,0))):=heap_alloc_new _ _
  go_enter func184,ntmps184
  go_wp2
  generalize w.alloc (.cells #[(c:Int),(f:Int),(n:Int),(b:Int)] 224)=i at N I |-;have d1:i.cell? ⟨g,o,none⟩=some (.int .i64 (k:Int)):=(N.out.cell (p:=⟨g,o,none⟩) a5).trans a7;have d2:=Q.out i N.out;have y0:i.cell? ⟨w,0,none⟩=some (.int .i64 (c:Int)):=by rw[cell_of_row _ _ _ _ _ _ I.out];rfl
  have y1:i.cell? ⟨w,1,none⟩=some (.int .i64 (f:Int)):=by rw[cell_of_row _ _ _ _ _ _ I.out];rfl
  have y2:i.cell? ⟨w,2,none⟩=some (.int .i64 (n:Int)):=by rw[cell_of_row _ _ _ _ _ _ I.out];rfl
  have y3:i.cell? ⟨w,3,none⟩=some (.int .i64 (b:Int)):=by rw[cell_of_row _ _ _ _ _ _ I.out];rfl
  go_region
  have K:Hid (β w w i.drew):=N.out.drew;have X:i.drew.cell? ⟨w,0,none⟩=some (.int .i64 (c:Int)):=y0;have Z:i.drew.cell? ⟨w,1,none⟩=some (.int .i64 (f:Int)):=y1;have e2:i.drew.cell? ⟨w,2,none⟩=some (.int .i64 (n:Int)):=y2;have e3:i.drew.cell? ⟨w,3,none⟩=some (.int .i64 (b:Int)):=y3;by_cases U:n=4
  . have g1:((n:Int)==4)=true:=by simp;omega
    have G:Hid (R=(s.upd k (v.clear c),v.fB c)):=by unfold Hid;rw[z.out,if_pos U]
    have a0:=ah (V.out _ K.out);rw[<- G.out] at a0;go_wp2_with fail
    refine a0.out.mono ?_;rintro e w2 ⟨S,rfl,T,u⟩;have A:Hid (cZ w sp l s (m+10) R (.returned (erV R.2)) w2):=⟨S,rfl,T,u⟩;go_wp2
    go_ret
    exact A.out
  . have g1:((n:Int)==4)=false:=by simp;omega
    have a4:=ah (O.out _ K.out);go_wp2_with fail
    refine cEq a4.out λF H=>?_
    have a2:=ah (K.out.trans (H.mono K.out.size));have z0:=(H.cell (ja2 _ _ X)).trans X;have z1:=(H.cell (ja2 _ _ Z)).trans Z;have z2:=(H.cell (ja2 _ _ e2)).trans e2;have z3:=(H.cell (ja2 _ _ e3)).trans e3;by_cases L:y=1
    . have g2:(y==1)=true:=by simpa using L
      have G:Hid (R=(s,0)):=by unfold Hid;rw[z.out,if_neg U,if_pos L]
      have A:=ah (a3.out _ a2.out);rw[<- G.out] at A;go_wp2
      go_ret
      exact A.out
    . have g2:(y==1)=false:=by simpa using L
      have G:Hid (R=RL):=by unfold Hid;rw[z.out,if_neg U,if_neg L]
      rw[<- G.out] at E;have u0:F.drew.cell? ⟨w,0,none⟩=some (.int .i64 (c:Int)):=z0;have u1:F.drew.cell? ⟨w,1,none⟩=some (.int .i64 (f:Int)):=z1;have u2:F.drew.cell? ⟨w,2,none⟩=some (.int .i64 (n:Int)):=z2;have u3:F.drew.cell? ⟨w,3,none⟩=some (.int .i64 (b:Int)):=z3;have M:Hid (β w w F.drew):=a2.out.drew;have t  := ja2 _ _ u0;go_wp2
      go_region_held3 (λW=>W.cell? ⟨w,0,none⟩=some (.int .i64 (c:Int))/\W.cell? ⟨w,1,none⟩=some (.int .i64 (f:Int))/\W.cell? ⟨w,2,none⟩=some (.int .i64 (n:Int))/\W.cell? ⟨w,3,none⟩=some (.int .i64 (b:Int)))
        (first|(exact⟨u0,u1,u2,u3⟩)|assumption)
        (first
          | (go_at_call 227;refine cEq (a1.out _) λB j=>?_;have J:B.cell? ⟨w,0,none⟩=some (.int .i64 (c:Int))/\B.cell? ⟨w,1,none⟩=some (.int .i64 (f:Int))/\B.cell? ⟨w,2,none⟩=some (.int .i64 (n:Int))/\B.cell? ⟨w,3,none⟩=some (.int .i64 (b:Int)):=⟨(j.cell (p:=⟨w.heap.size,0,none⟩) t).trans u0,(j.cell (p:=⟨w.heap.size,1,none⟩) t).trans u1,(j.cell (p:=⟨w.heap.size,2,none⟩) t).trans u2,(j.cell (p:=⟨w.heap.size,3,none⟩) t).trans u3⟩)
          | (go_at_call 168;refine(E.out B (M.out.trans (j.mono M.out.size))).mono ?_;rintro e w4 ⟨S,rfl,T,u⟩;have aa:w4.cell? ⟨w,0,none⟩=some (.int .i64 (c:Int))/\w4.cell? ⟨w,1,none⟩=some (.int .i64 (f:Int))/\w4.cell? ⟨w,2,none⟩=some (.int .i64 (n:Int))/\w4.cell? ⟨w,3,none⟩=some (.int .i64 (b:Int)):=⟨(u.cell (p:=⟨w.heap.size,0,none⟩) (ja9 t j.size) (P.out _ (ja1 _))).trans J.1,(u.cell (p:=⟨w.heap.size,1,none⟩) (ja9 t j.size) (P.out _ (ja1 _))).trans J.2.1,(u.cell (p:=⟨w.heap.size,2,none⟩) (ja9 t j.size) (P.out _ (ja1 _))).trans J.2.2.1,(u.cell (p:=⟨w.heap.size,3,none⟩) (ja9 t j.size) (P.out _ (ja1 _))).trans J.2.2.2⟩))
      have A:Hid (cZ w sp l s (m+10) R (.returned (erV R.2)) w4):=cZ.from ⟨S,rfl,T,u⟩ (M.out.trans (j.mono M.out.size));go_wp2
      go_ret
      exact A.out
def BJ{sp m cap:Nat}{f:Nat->Qh}{s:SV}{a:Option Addr}{C:Int}(l:List Int)(c:Int)(w:ω)(h:bG w sp f s m)(t:Nums w a l)(k:s.good C l)(h5:l.length<=100) :
    κ prog 118 #[sp,.slice a l.length cap,c] w λe b=>e=.returned (.tuple #[.string (s.read l c).1,.int .i64 (s.read l c).2])/\β w w b:=by
  by_cases H:l=[]
  . subst H
    have A:s.read [] c=(bytesOf [],4):=rfl;rw[A];clear h t k A;go_enter func118,ntmps118
    go_wp2
    go_ret2
    exact⟨rfl,ja0 _ _⟩
  . have L:s.gJ l=C:=k.gJ H
    have G:0<l.length:=List.length_pos_iff.2 H;have a5:((l.length:Int)==0)=false:=by simp;omega
    have Y:(0:Int)<(l.length:Int):=by omega
    have a4:0<l.length:=G;obtain⟨g,o,x,v,rfl,hx,x5,hf,N,X,U,R,I⟩:=h.numAt t k G
    have K:v.there c=decide (0<=c/\c<C):=by
      unfold IV.there;have:=I.len
      rw[<- N,<- this]
    have r:Hid (∀ W:ω,β w w W->κ prog 185 #[(f x).p,c] W λe b=>e=.returned (.bool (v.there c))/\b=W):=λW d=>sF c W (R.below d) I.len
    have a0:w.cell? ⟨g,o,none⟩=some (.int .i64 (x:Int)):=X;have d1:w.drew.cell? ⟨g,o,none⟩=some (.int .i64 (x:Int)):=a0;have D:w.drew.cell? ⟨sp,x,none⟩=some ((f x).p:υ):=U;have i:Hid (β w w w.drew):=(ja0 _ _).drew;have k3:(0:Int)<=(x:Int):=by omega
    have k4:(x:Int)<5:=by omega
    by_cases T:0<=c/\c<C
    . have B:Hid (s.read l c=match s.seenAt c l with|none=>(bytesOf qX,0)|some v=>(bytesOf (v.fZ c),v.iI c)):=by unfold Hid SV.read;rw[if_neg H,L,if_pos T];rfl
      have E:Hid (∀ W:ω,β w w W->κ prog 186 #[sp,.slice (some ⟨g,o,none⟩) l.length cap,c] W λe b=>e=.returned (s.found l c)/\β W W b):=λW d=>GK l c W (h.below d) (t.below d) k h5
      have a1:Hid (∀ W:ω,κ prog 43 #[(64:Int)] W λe b=>e=.returned (.string (bytesOf qX))/\β W W b):=λW=>xQ 64 W (by decide)
      rw[K,decide_eq_true T] at r;rcases SV.Af s c l 0 with⟨P,f2⟩|⟨j,n,u,j1,P,f3,f4,Q,f6,f7⟩
      . have J:Hid (s.found l c = -1):=P
        rw[f2] at B;rw[J.out] at E;rw[B.out];clear h t k L B J R I hf N K X a0 G;generalize l.length=q at a5 Y a4 E |-;generalize bytesOf qX=z at a1 |-;generalize (f x).p=xp at r D U;go_enter func118,ntmps118
        go_wp2
        go_region_held3 (λW=>β w w W/\W.cell? ⟨g,o,none⟩=some (.int .i64 (x:Int))/\W.cell? ⟨sp,x,none⟩=some (xp:υ))
          (first|(exact⟨i.out,d1,D⟩)|assumption)
          (first
            | (go_at_call 185;refine(r.out _ (by assumption:β w w _/\_).1).mono ?_;rintro e b ⟨rfl,rfl⟩))
        go_wp2_with fail
        refine cBl (E.out _ i.out) i.out λF M=>?_
        go_wp2_with fail
        refine cBl (a1.out _) M.out λw3 Z=>?_
        go_wp2
        go_ret2
        exact⟨rfl,Z.out⟩
      . have J:Hid (s.found l c=(j:Int)):=by unfold Hid SV.found;rw[P];congr 1;omega
        rw[f7] at B;simp only at B;rw[J.out] at E;rw[B.out]
        have a7:Hid (∀ W:ω,β w w W->∃(y:Nat),y<5/\W.cell? ⟨g,o+j,none⟩=some (.int .i64 (y:Int))/\W.cell? ⟨sp,y,none⟩=some ((f y).p:υ)/\s.file (y:Int)=some u):=λW d=>by
          obtain⟨g',o',y,u',h1,h2,h3,h4,_,h6,h7,_,_⟩:=(h.below d).numAt (t.below d) k j1;cases h1
          rw[f3] at h2;rw[h2] at Q;rw[Q] at h4;cases h4
          exact⟨y,h3,h6,h7,Q⟩
        obtain⟨y,y5,a6,a2,a8⟩:=a7.out w (ja0 _ _)
        have O:Hid (∀ W:ω,β w w W->κ prog 187 #[(f y).p,c] W λe b=>e=.returned (.tuple #[.string (bytesOf (u.fZ c)),u.iI c])/\β W W b):=λW d=>by
          have:=(h.below d).gY a8
          exact Rj c W this.1 this.2
        have aa:g<w.heap.size:=ja2 _ _ a6;have ab:sp<w.heap.size:=ja2 _ _ a2;have k0:(0:Int)<=(j:Int):=by omega
        have k1:(j:Int)<(l.length:Int):=by omega
        have k2:((j:Int)).toNat=j:=by omega
        have k5:decide ((j:Int)<0)=false:=by simp
        have k6:(0:Int)<=(y:Int):=by omega
        have k7:(y:Int)<5:=by omega
        generalize bytesOf (u.fZ c)=z at O |-;generalize u.iI c=er at O |-;clear h t k L B J R I hf N K X a0 G P f3 f4 Q f6 f7 a8 a7 a1;generalize l.length=q at a5 Y a4 E k1 |-;generalize (f y).p=S at O a2;generalize (f x).p=xp at r D U;go_enter func118,ntmps118
        go_wp2
        go_region_held3 (λW=>β w w W/\W.cell? ⟨g,o,none⟩=some (.int .i64 (x:Int))/\W.cell? ⟨sp,x,none⟩=some (xp:υ))
          (first|(exact⟨i.out,d1,D⟩)|assumption)
          (first
            | (go_at_call 185;refine(r.out _ (by assumption:β w w _/\_).1).mono ?_;rintro e b ⟨rfl,rfl⟩))
        go_wp2_with fail
        refine cBl (E.out _ i.out) i.out λF M=>?_
        have A:F.cell? ⟨g,o+j,none⟩=some (.int .i64 (y:Int)):=(M.out.cell (p:=⟨g,o+j,none⟩) aa).trans a6;have e2:F.cell? ⟨sp,y,none⟩=some (S:υ):=(M.out.cell (p:=⟨sp,y,none⟩) ab).trans a2;have e3:F.drew.cell? ⟨g,o+j,none⟩=some (.int .i64 (y:Int)):=A;have e4:F.drew.cell? ⟨sp,y,none⟩=some (S:υ):=e2;have a3:Hid (β w w F.drew):=M.out.drew;go_wp2
        go_region_held3 (λW=>W.cell? ⟨g,o+j,none⟩=some (.int .i64 (y:Int))/\W.cell? ⟨sp,y,none⟩=some (S:υ))
          (first|(exact⟨e3,e4⟩)|assumption)
          (first
            | (go_at_call 187;refine cEq (O.out _ a3.out) λw3 V=>?_;have a9:w3.cell? ⟨g,o+j,none⟩=some (.int .i64 (y:Int))/\w3.cell? ⟨sp,y,none⟩=some (S:υ):=⟨(V.cell (ja2 _ _ e3)).trans e3,(V.cell (ja2 _ _ e4)).trans e4⟩))
        have Z:=ah (a3.out.trans (V.mono a3.out.size));clear V a9;go_wp2
        go_ret2
        exact⟨rfl,Z.out⟩
    . have A:s.read l c=(bytesOf [],1):=by unfold SV.read;rw[if_neg H,L,if_neg T]
      rw[A];rw[K,decide_eq_false T] at r;clear h t k L A R I hf N K X G;generalize l.length=q at a5 Y a4 |-;generalize (f x).p=xp at r D U;go_enter func118,ntmps118
      go_wp2
      go_region_held3 (λW=>β w w W/\W.cell? ⟨g,o,none⟩=some (.int .i64 (x:Int))/\W.cell? ⟨sp,x,none⟩=some (xp:υ))
        (first|(exact⟨i.out,d1,D⟩)|assumption)
        (first
          | (go_at_call 185;refine(r.out _ (by assumption:β w w _/\_).1).mono ?_;rintro e b ⟨rfl,rfl⟩))
      go_wp2
      go_ret2
      exact⟨rfl,i.out⟩
def vJ{sp m cap:Nat}{u:Nat->Qh}{s:SV}{a:Option Addr}{C:Int}(l:List Int)(fr n:Int)(w:ω)(h:bG w sp u s m)(G:Nums w a l)(t:s.good C l)(O:0<=C/\C<=1000)(P : -9223372036854775808<=fr/\fr<=9223372036854775807) :
  κ prog 114 #[sp,.slice a l.length cap,fr,n] w λe z=>e=.returned (s.aW l fr n)/\β w w z:=by
 by_cases f:l=[]
 .subst f
  have K:s.aW [] fr n=4:=rfl;rw[K];go_enter func114,ntmps114
  go_wp2
  go_ret
  exact⟨rfl,ja0 _ _⟩
 .have D:s.gJ l=C:=t.gJ f
  have r  := List.length_pos_iff.2 f;have L:((l.length:Int)==0)=false:=by simp;omega
  have B:(0:Int)<(l.length:Int):=by omega
  have I  := r;obtain⟨g,o,x,v,rfl,T,U,S,A,M,H,J,V⟩:=h.numAt G t r;have Q:w.cell? ⟨g,o,none⟩=some (.int .i64 (x:Int)):=M;have c1:=J.cells.2.1;rw[A] at c1;have c:Hid (s.aW l fr n=if fr<0\/n<0\/4*C-fr<n then 1 else 0):=by unfold Hid SV.aW;rw[if_neg f,D]
  generalize s.aW l fr n=F at c |-;have N  := ja7 _ (by omega)
  have R:(0:Int)<=(x:Int):=by omega
  have X:(x:Int)<5:=by omega
  generalize l.length=q at L B I |-;generalize (u x).p=xp at c1 H;have d:Hid (β w w w.drew):=(ja0 _ _).drew;by_cases i:fr<0
  .have E  := decide_eq_true i
   have b:Hid (F=1):=by unfold Hid;rw[c.out,if_pos (.inl i)]
   go_enter func114,ntmps114
   go_wp2
   go_region
   go_wp2
   go_ret
   exact⟨mg b.out.symm,d.out⟩
  .have E  := decide_eq_false i
   by_cases j:n<0
   .have g1  := decide_eq_true j
    have b:Hid (F=1):=by unfold Hid;rw[c.out,if_pos (.inr (.inl j))]
    go_enter func114,ntmps114
    go_wp2
    go_region
    go_wp2
    go_ret
    exact⟨mg b.out.symm,d.out⟩
   .have g1  := decide_eq_false j
    have W  := ja7 _ (by omega)
    by_cases y:4*C<fr
    .have g3  := decide_eq_true y
     have b:Hid (F=1):=by unfold Hid;rw[c.out,if_pos (.inr (.inr (by omega)))]
     go_enter func114,ntmps114
     go_wp2
     go_region
     go_wp2
     go_ret
     exact⟨mg b.out.symm,d.out⟩
    .have g3  := decide_eq_false y
     by_cases k:4*C-fr<n
     .have g2  := decide_eq_true k
      have b:Hid (F=1):=by unfold Hid;rw[c.out,if_pos (.inr (.inr (by omega)))]
      go_enter func114,ntmps114
      go_wp2
      go_region
      go_wp2
      go_ret
      exact⟨mg b.out.symm,d.out⟩
     .have g2  := decide_eq_false k
      have b:Hid (F=0):=by unfold Hid;rw[c.out,if_neg (by omega)]
      go_enter func114,ntmps114
      go_wp2
      go_region
      go_wp2
      go_ret
      exact⟨mg b.out.symm,d.out⟩
def dropWhile_nil{p:UInt8->Bool}{l:List UInt8}:l.dropWhile p=[]↔∀ x∈l,p x=true:=by
 induction l with
 | nil=>simp
 | cons x l a =>
  rw[List.dropWhile_cons];split
  .simp_all
  .simp_all
def IL{l:List UInt8}{c:UInt8}:Lib.trimB l c=[]↔∀ x∈l,x=c:=by
 unfold Lib.trimB Lib.trimLeftB Lib.trimRightB;rw[dropWhile_nil]
 constructor
 .intro h x a
  have d:l.reverse.dropWhile (· == c)=[]:=by
   cases hd:l.reverse.dropWhile _ with
   | nil=>rfl
   | cons y r =>
    have f:¬(y==c)=true:=by
     have:=List.head?_dropWhile_not (· == c) l.reverse
     simp_all
    simp_all
  have:=dropWhile_nil.1 d x (by simpa using a)
  simp_all
 .intro h x a
  have:x∈l:=by
   have b:x∈l.reverse.dropWhile (· == c):=by simpa using a
   simpa using ((List.dropWhile_sublist _).subset b)
  simpa using h x this
def U8{t:ByteArray}(c:t.size=64):((Lib.trimB t.data.toList 0).toArray.toList==[])=decide (t=dY 64):=by
 have d:t.data.toList.length=64:=by simpa using c
 by_cases h:t=dY 64
 .rw[decide_eq_true h]
  have:Lib.trimB t.data.toList 0=[]:=IL.2 λx a=>by
   rw[h] at a;exact jba (show x∈List.replicate 64 (0:UInt8) from by simpa [dY,bytesOf] using a)
  rw[this];rfl
 .rw[decide_eq_false h]
  have:Lib.trimB _ 0≠[]:=λe=>h (by
   have b:=IL.1 e;unfold dY
   rw[<- (List.eq_replicate_iff.2 ⟨d,b⟩),wG])
  simpa using this
def KI{sp m:Nat}{i:Nat->Ih}{s:SV}{v:IV}(n c:Int)(t:ByteArray)(w:ω)(h:bD w sp i s m)(f:s.file n=S v)(L:t.size=64)(F:m+10<1000000000) :
  κ prog 244 #[.pointer (S ⟨sp,6,O⟩),n,c,t] w (cZ w sp i s (m+10) (s.move n c t)):=by
 have j:=ah (tH n w h);rw[f] at j;unfold iE at j;have g:Hid (s.move n c t=if t=dY 64 then (s.upd n.toNat (v.clear c),v.fB c) else if (v.bC c).1=2 then (s.upd n.toNat (v.write c 0 t),v.dJ c 0 t) else (s.upd n.toNat (v.fill c t),v.dD c t)):=by unfold Hid SV.move;rw[f]
 have B:Hid (κ prog 269 #[t,.string ⟨#[0]⟩] w λe l=>e=.returned (.string ⟨(Lib.trimB t.data.toList 0).toArray⟩)/\β w w l):=by
  refine(Tryz.strings_Trim_one t 0 (by decide) w (by omega)).mono ?_
  rintro e l ⟨rfl,rfl|rfl⟩
  .exact⟨rfl,ja0 _ _⟩
  .exact⟨rfl,(ja0 _ _).drew⟩
 have I:=U8 L;have q:=ah λW (a:β w w W)=>xJ c W ((h.below a).gY f).1
 have D:=ah λW (a:β w w W)=>(DZ c W (h.below a) f F).mono λe l hd=>hd.from a
 have z:=ah λW (a:β w w W)=>(Jb c 0 t W (h.below a) f F (by omega) (by decide)).mono λe l hd=>hd.from a
 have A:=ah λW (a:β w w W)=>(Ep c t W (h.below a) f F).mono λe l hd=>hd.from a
 generalize s.move n c t=R at g |-;generalize (v.bC c).1=y at q g;generalize (i n.toNat).p=xp at j q D z A;generalize (Lib.trimB t.data.toList 0).toArray=N at B I
 have K:((⟨N⟩:ByteArray).toList==[])=decide (t=dY 64):=by
  rw[<- I]
  congr 1
  rw[jbw]
 by_cases d:t=dY 64
 .have r:Hid (R=(s.upd n.toNat (v.clear c),v.fB c)):=by unfold Hid;rw[g.out,if_pos d]
  rw[decide_eq_true d] at K;rw[<- r.out] at D;clear d g q z A;go_enter func244,ntmps244
  go_wp2_with fail
  refine cSt j.out ?_;go_wp2_with fail
  refine cEq B.out λH M=>?_
  go_wp2_with fail
  refine(D.out _ M).mono ?_;rintro e G ⟨k,rfl,o,u⟩;have x:Hid (cZ w sp i s (m+10) R (.returned (erV R.2)) G):=⟨k,rfl,o,u⟩;go_wp2
  go_ret
  exact x.out
 .rw[decide_eq_false d] at K
  by_cases J:y=2
  .have r:Hid (R=(s.upd n.toNat (v.write c 0 t),v.dJ c 0 t)):=by unfold Hid;rw[g.out,if_neg d,if_pos J]
   rw[<- r.out] at z;go_enter func244,ntmps244
   go_wp2_with fail
   refine cSt j.out ?_;go_wp2_with fail
   refine cHd B.out λH b=>?_
   go_wp2_with fail
   refine cEq (q.out _ b.out) λG E=>?_
   go_wp2_with fail
   refine(z.out _ (b.out.trans (E.mono b.out.size))).mono ?_;rintro e C ⟨k,rfl,o,u⟩;have x:Hid (cZ w sp i s (m+10) R (.returned (erV R.2)) C):=⟨k,rfl,o,u⟩;go_wp2
   go_ret
   exact x.out
  .have r:Hid (R=(s.upd n.toNat (v.fill c t),v.dD c t)):=by unfold Hid;rw[g.out,if_neg d,if_neg J]
   rw[<- r.out] at A;go_enter func244,ntmps244
   go_wp2_with fail
   refine cSt j.out ?_;go_wp2_with fail
   refine cHd B.out λH b=>?_
   go_wp2_with fail
   refine cEq (q.out _ b.out) λG E=>?_
   go_wp2_with fail
   refine(A.out _ (b.out.trans (E.mono b.out.size))).mono ?_;rintro e C ⟨k,rfl,o,u⟩;have x:Hid (cZ w sp i s (m+10) R (.returned (erV R.2)) C):=⟨k,rfl,o,u⟩;go_wp2
   go_ret
   exact x.out
def G9{sp m:Nat}{a:Nat->Qh}{s:SV}{n:Int}{v:IV}(c f:Int)(t:ByteArray)(w:ω)(h:bG w sp a s m)(b:s.file n=S v)(k:m+10<1000000000)(i:t.size<=1000)(g : -9223372036854775808<=f/\f<=9223372036854775807) :
  κ prog 230 #[(a n.toNat).p,c,f,t] w (bH w sp a s (m+10) (s.upd n.toNat (v.write c f t),v.dJ c f t)):=by
 obtain⟨j,d⟩:=h.gY b;exact(VA c f t w j.but d k (ja1 _) i g).mono λe l hd=>bH.of h b (by omega) (d.write c f t (by omega)) hd
def GH{sp m:Nat}{a:Nat->Qh}{s:SV}{n:Int}{v:IV}(c:Int)(t:ByteArray)(w:ω)(h:bG w sp a s m)(b:s.file n=S v)(g:m+10<1000000000) :
  κ prog 231 #[(a n.toNat).p,c,t] w (bH w sp a s (m+10) (s.upd n.toNat (v.fill c t),v.dD c t)):=by
 obtain⟨f,d⟩:=h.gY b;exact(MS c t w f.but d g (ja1 _)).mono λe i hd=>bH.of h b (by omega) (d.fill c t (by omega)) hd
def Gn{sp m:Nat}{a:Nat->Qh}{s:SV}{n:Int}{v:IV}(c:Int)(w:ω)(h:bG w sp a s m)(b:s.file n=S v)(g:m+10<1000000000) :
  κ prog 181 #[(a n.toNat).p,c] w (bH w sp a s (m+10) (s.upd n.toNat (v.clear c),v.fB c)):=by
 obtain⟨f,d⟩:=h.gY b;exact(KE c w f.but d g (ja1 _)).mono λe i hd=>bH.of h b (by omega) (d.clear c (by omega)) hd
def qI(f:Int):yA f=.int .i64 f:=rfl
def GR{sp m cap:Nat}{d:Nat->Qh}{s:SV}{a:Option Addr}{C:Int}(l:List Int)(c f:Nat)(t:ByteArray)(w:ω)(h:bG w sp d s m)(X:Nums w a l)(N:s.good C l)(L:l≠[])(h5:l.length<=100)(hm:m+10<1000000000)(hp:f*16+t.size<=64)(hc:(c:Int)<C) :
    κ prog 180 #[sp,.slice a l.length cap,(c:Int),(f:Int),t] w (bH w sp d s (m+10) (s.lay l c f t)):=by
  have V:0<l.length:=List.length_pos_iff.2 L;obtain⟨g,o,x,v,rfl,hx,x5,P,af,ae,ab,Z,J⟩:=h.numAt X N V;have a0:((x:Int)).toNat=x:=by omega
  obtain⟨r1,r2⟩:=SV.kS N h.ok L (c:=(c:Int)) ⟨by omega,hc⟩
  have a8:v.there (c:Int)=true:=by unfold IV.there;have:=J.len;exact decide_eq_true ⟨by omega,by omega⟩
  obtain⟨g2,aa,a6,am,F,_⟩:=Z.jA (c:=c) (by have:=J.len;omega)
  have z:=Z.cells.2.2.2.2.1;rw[a6] at z;have a4:(v.bC c).1=(v.t.getD c (0,0)).1:=by unfold IV.bC;rw[a8,if_pos rfl];rfl
  have u:Hid (s.lay l c f t=if (v.bC c).1=2 then (s.upd x (v.write c f t),v.dJ c f t) else
      (s.upd x (v.fill c ((s.read l c).1.extract 0 (f*16)++t++(s.read l c).1.extract (f*16+t.size) 64)),v.dD c ((s.read l c).1.extract 0 (f*16)++t++(s.read l c).1.extract (f*16+t.size) 64))):=by
    unfold Hid
    cases l with
    | nil=>exact absurd rfl L
    | cons y r =>
      have n:y=(x:Int):=hx;subst n;show(match s.file (x:Int) with|none=>(s,(4:Int))|some v=>_)=_
      rw[P];rfl
  have U:Hid (∀ W:ω,β w w W->κ prog 230 #[(d x).p,(c:Int),(f:Int),t] W (bH w sp d s (m+10) (s.upd x (v.write c f t),v.dJ c f t))):=λW i=>by
    have:=(G9 (c:Int) (f:Int) t W (h.below i) P hm (by omega) (by omega)).mono λe K hd=>bH.from hd i
    rw[a0] at this;exact this
  have a1:Hid (∀(T:ByteArray) (W:ω),β w w W->κ prog 231 #[(d x).p,(c:Int),T] W (bH w sp d s (m+10) (s.upd x (v.fill c T),v.dD c T))):=λT W i=>by
    have:=(GH (c:Int) T W (h.below i) P hm).mono λe K hd=>bH.from hd i
    rw[a0] at this;exact this
  have O:Hid (∀ W:ω,β w w W->κ prog 118 #[sp,.slice (some ⟨g,o,none⟩) l.length cap,(c:Int)] W λe K=>e=.returned (.tuple #[.string (s.read l c).1,(0:Int)])/\β W W K):=λW i=>by
    have:=BJ (cap:=cap) l (c:Int) W (h.below i) (X.below i) N h5
    rw[r1] at this;exact this
  have ag:w.cell? ⟨g,o,none⟩=some (.int .i64 (x:Int)):=ae;have k3:(0:Int)<=(x:Int):=by omega
  have k4:(x:Int)<5:=by omega
  have q0:(0:Int)<=(c:Int):=by omega
  have q1:(c:Int)<(v.t.length:Int):=by have:=J.len;omega
  have q2:((c:Int)).toNat=c:=by omega
  have a5:(0:Int)<(l.length:Int):=by omega
  rw[<- a4] at F;generalize s.lay l c f t=R at u |-;generalize (s.read l c).1=b at r2 O u;generalize (v.bC c).1=y at F u;generalize (d x).p=xp at ab z U a1;generalize v.t.length=tl at z q1;generalize l.length=q at V a5 O |-;have A:Hid (β w w w.drew):=(ja0 _ _).drew;have m1:w.drew.cell? ⟨xp,4,none⟩=some (.slice (some ⟨g2,0,none⟩) tl aa):=z;have m2:w.drew.cell? ⟨g2,c*2,none⟩=some (y:υ):=F;by_cases n:y=2
  . have g1:(y==2)=true:=by simpa using n
    have D:Hid (R=(s.upd x (v.write c f t),v.dJ c f t)):=by unfold Hid;rw[u.out,if_pos n]
    have Y:=ah (U.out _ A.out);rw[<- D.out] at Y;go_enter func180,ntmps180
    go_wp2
    go_region
    go_wp2_with fail
    refine Y.out.mono ?_;rintro e Q ⟨G,rfl,H,I⟩;have S:Hid (bH w sp d s (m+10) R (.returned R.2) Q):=⟨G,rfl,H,I⟩;rw[qI];go_wp2
    go_ret
    exact S.out
  . have g1:(y==2)=false:=by simpa using n
    have D:Hid (R=(s.upd x (v.fill c (b.extract 0 (f*16)++t++b.extract (f*16+t.size) 64)),v.dD c (b.extract 0 (f*16)++t++b.extract (f*16+t.size) 64))):=by unfold Hid;rw[u.out,if_neg n]
    have a3:=ah (O.out _ A.out);have j1:IntKind.i64.wrap (16*(f:Int))=16*(f:Int):=ja7 _ (by omega)
    have j2:IntKind.i64.wrap (16*(f:Int)+(t.size:Int))=16*(f:Int)+(t.size:Int):=ja7 _ (by omega)
    have j3:(0:Int)<=16*(f:Int):=by omega
    have j4:16*(f:Int)<=(b.size:Int):=by omega
    have j5:(16*(f:Int)).toNat=16*f:=by omega
    have j6:(0:Int)<=16*(f:Int)+(t.size:Int):=by omega
    have j7:16*(f:Int)+(t.size:Int)<=(b.size:Int):=by omega
    have j8:(16*(f:Int)+(t.size:Int)).toNat=16*f+t.size:=by omega
    obtain⟨j,E⟩:∃ j,j=b.extract 0 (16*f):=⟨_,rfl⟩;obtain⟨k,B⟩:∃ k,k=b.extract (16*f+t.size) b.size:=⟨_,rfl⟩;have a9:j.size=16*f:=by rw[E,jaz];omega
    have a7:k.size<=64:=by rw[B,jaz];omega
    have k7:¬9223372036854775807<j.size+t.size:=by omega
    have k8:¬9223372036854775807<j.size+t.size+k.size:=by omega
    have k9:¬9223372036854775807<(j++t).size+k.size:=by rw[jaL];omega
    have ai:¬9223372036854775807<min (16*f) b.size+t.size:=by omega
    have al:¬9223372036854775807<min (16*f) b.size+t.size+(b.size-(16*f+t.size)):=by omega
    have M:Hid (R=(s.upd x (v.fill c (j++t++k)),v.dD c (j++t++k))):=by
      unfold Hid;rw[E,B,D.out,r2,show 16*f=f*16 by omega]
    rw[E] at k7 k8 k9 M;rw[B] at k8 k9 M;clear D a9 a7 r2 E B hp;go_enter func180,ntmps180
    go_wp2
    go_region
    go_wp2_with fail
    refine cEq a3.out λQ ad=>?_
    have ac:Hid (β w w Q.drew):=(A.out.trans (ad.mono A.out.size)).drew;have a2:=ah (a1.out (b.extract 0 (16*f)++t++b.extract (16*f+t.size) b.size) _ ac.out);rw[<- M.out] at a2;go_wp2
    go_region_held3 (λ_=>True)
      (first|trivial|assumption)
      (first
        | (go_at_call 231;refine a2.out.mono ?_;rintro e w4 ⟨G,rfl,H,I⟩))
    have S:Hid (bH w sp d s (m+10) R (.returned R.2) w4):=⟨G,rfl,H,I⟩;rw[qI];go_wp2
    go_ret
    exact S.out
