/- What was written is dirty to the job (J4). -/
import Derived.Test.YtonhoahnieoebabGreatDoorQAYardP5
set_option maxHeartbeats 1000000
set_option maxRecDepth 100000
namespace Go.Proofs.YtonhoahnieoebabGreatDoor
open Go.RowKit Go.Maps
attribute [local go_sem ↓] Go.wp_at_zero Go.wp_at_succ
theorem KA(w:World):(binOp BinOp.eql 33 .nilIface (.iface 127 (.int .i64 1))).run Tryz.prog w=.ok (.bool false) w:=by kernel_rfl
theorem CV(F:Int)(w:World):(binOp BinOp.eql 33 (.iface 127 (.int .i64 F)) (.iface 127 (.int .i64 1))).run Tryz.prog w=.ok (.bool (F==1)) w:=by kernel_rfl
theorem vI{yp:Nat}{Y:Yh}{y:YV}(fr n F:Int)(w:World)(h:ay w yp Y y)(hF:y.busy≠true∨n=0∨F=1) :
  Calls Tryz.prog 210 #[.pointer (some ⟨yp,0,none⟩),.int .i64 fr,.int .i64 n,erV F] w fun e w'=>e=.returned (.tuple #[])∧w'=w:=by
 have HG:=ah (og w h);clear h;unfold goV at HG;by_cases hb:y.busy=true
 ·rw[if_pos hb] at HG
  by_cases hn:n=0
  ·subst hn
   clear hF hb;go_enter Tryz.func210,Tryz.ntmps210
   go_wp2_with fail
   refine HG.out.mono ?_;rintro e w' ⟨rfl,hw⟩;have hw':=hw.symm;subst hw';clear hw;go_wp2
   refine bodyPost_ret (results_none rfl _ _ _) rfl ?_;exact⟨rfl,rfl⟩
  ·have h1:F=1:=by
    rcases hF with h1|h1|h1
    ·exact absurd hb h1
    ·exact absurd h1 hn
    ·exact h1
   have g1:(n==0)=false:=by simpa using hn
   rw[h1,dM];have gq:=CV 1;clear hF hb h1 hn;go_enter Tryz.func210,Tryz.ntmps210
   go_wp2_with fail
   refine HG.out.mono ?_;rintro e w' ⟨rfl,hw⟩;have hw':=hw.symm;subst hw';clear hw;go_wp2
   refine bodyPost_ret (results_none rfl _ _ _) rfl ?_;exact⟨rfl,rfl⟩
 ·rw[if_neg hb] at HG
  clear hF hb;generalize erV F=E;go_enter Tryz.func210,Tryz.ntmps210
  go_wp2_with fail
  refine HG.out.mono ?_;rintro e w' ⟨rfl,hw⟩;have hw':=hw.symm;subst hw';clear hw;go_wp2
  refine bodyPost_ret (results_none rfl _ _ _) rfl ?_;exact⟨rfl,rfl⟩
theorem Ur{yp C m:Nat}{Y:Yh}{y:YV}(fr n:Nat)(F:Int)(w:World)(h:ay w yp Y y)(hY:YOk y C m)(hF:F≠1)(hb:y.busy=true)(hn:1≤n)(hl:fr+n≤1000) :
  Calls Tryz.prog 210 #[.pointer (some ⟨yp,0,none⟩),.int .i64 (fr:Int),.int .i64 (n:Int),erV F] w fun e w'=>e=.returned (.tuple #[])∧au yp Y y (y.mark fr n) w w':=by
 have HG:=ah (og w h);unfold goV at HG;rw[if_pos hb] at HG;obtain⟨j,hj,hg⟩:=mW hb
 have HEN:Hid (∀ k:Nat,∀ W:World,fr / 4+k=(fr+n-1) / 4+1→au yp Y y { y with j:=some (jg j (fr / 4) k) } w W→au yp Y y (y.mark fr n) w W):=fun k W hk hd=>by
  obtain⟨n',rfl⟩:∃ n',n=n'+1:=⟨n-1,by omega⟩
  have e:y.mark fr (n'+1)={ y with j:=some (jg j (fr / 4) k) }:=by
   unfold YV.mark;have h0:fr / 4≤(fr+n') / 4:=Nat.div_le_div_right (by omega)
   have hk2:k=(fr+n') / 4-fr / 4+1:=by
    have:fr+(n'+1)-1=fr+n':=by omega
    rw[this] at hk;omega
   rw[hj,hk2,← JR];rfl
  rw[e];exact hd
 have HST:Hid (au yp Y y { y with j:=some (jg j (fr / 4) 0) } w w):=by
  have e:({ y with j:=some (jg j (fr / 4) 0) }:YV)=y:=by
   show({ y with j:=some j }:YV)=y
   rw[← hj]
  unfold Hid;rw[e];exact au.refl h
 have HDI:Hid (∀(k:Nat) (W:World),au yp Y y { y with j:=some (jg j (fr / 4) k) } w W→Calls Tryz.prog 88 #[.pointer (some ⟨Y.jb.jp,0,none⟩),.int .i64 ((fr:Int) / 4+(k:Int))] W fun e w'=>e=.returned (.tuple #[])∧au yp Y y { y with j:=some (jg j (fr / 4) (k+1)) } w w'):=fun k W ⟨Y1,e1,h1,h2⟩=>by
  have hok:JOk y.s C (jg j (fr / 4) k):=(hY.job j hj hg).ok.jg _ k;obtain⟨g1,g2,g3,g4,g5⟩:=h1.job _ rfl
  have hp:PJ W yp Y1.jb.jp Y1.jb.lp Y1.jb.bp Y1.jb.a Y1.jb.cap Y1.xs y.s m C (jg j (fr / 4) k):=⟨h1.shelf hY.s,g1,g2,fun g o e hk=>g5 g o e (by
   rcases hk with hk|hk
   ·exact .inr (.inl (h1.inS hk))
   ·exact .inr (.inr (.inr ⟨(by intro e;cases e),hk⟩))),hok,g4⟩
  rw[← e1,show(fr:Int) / 4+(k:Int)=((fr / 4+k:Nat):Int) by omega]
  refine(JY ((fr / 4+k:Nat):Int) W hp).mono ?_;rintro e w' ⟨rfl,hd⟩;obtain⟨Y2,e2,h3,h4⟩:=h1.rU rfl (Below.refl _ _) hd (by rw[show dD (jg j (fr / 4) k) ((fr / 4+k:Nat):Int)=jg j (fr / 4) (k+1) from rfl,Cj,Cj])
  exact⟨rfl,Y2,e2.trans e1,h3,h2.trans h4⟩
 clear h hY hb hj hg;generalize Y.jb.jp=jp at HG HDI
 have hE:erV F=.nilIface∨(erV F=.iface 127 (.int .i64 F)∧(F==1)=false):=by
  by_cases h0:F=0
  ·exact .inl (by rw[h0,aB])
  ·exact .inr ⟨aT h0,by simpa using hF⟩
 clear hF;have g1:((n:Int)==0)=false:=by simp;omega
 have k0:(0:Int)≤(fr:Int):=by omega
 have k1:IntKind.i64.wrap ((fr:Int)+(n:Int))=(fr:Int)+(n:Int):=IntWalk.i64_in _ (by omega)
 have k2:IntKind.i64.wrap ((fr:Int)+(n:Int)-1)=(fr:Int)+(n:Int)-1:=IntWalk.i64_in _ (by omega)
 have k3:(0:Int)≤(fr:Int)+(n:Int)-1:=by omega
 have gq0:=KA;have gq1:=CV F;rcases hE with hE|⟨hE,gE⟩<;>rw[hE]<;>clear hE
 all_goals
  go_enter Tryz.func210,Tryz.ntmps210
  go_wp2_with fail
  refine HG.out.mono ?_;rintro e w' ⟨rfl,hw⟩;have hw':=hw.symm;subst hw';clear hw HG;go_wp2
  go_loopw [9] (fun c wr=>∃ k:Nat,fr / 4+k≤(fr+n-1) / 4+1∧c=.int .i64 ((fr:Int) / 4+(k:Int))∧au yp Y y { y with j:=some (jg j (fr / 4) k) } w wr) (fun c _=>((fr+n) / 4+2)-(intOf c).toNat)
  case atStart=>exact⟨0,by have:fr / 4≤(fr+n-1) / 4:=Nat.div_le_div_right (by omega);omega,by simp,HST.out⟩
  case round =>
   obtain⟨k,hk,rfl,hd⟩:=hrel;by_cases hlt:fr / 4+k≤(fr+n-1) / 4
   ·have g2:decide ((fr:Int) / 4+(k:Int)≤((fr:Int)+(n:Int)-1) / 4)=true:=decide_eq_true (by omega)
    have k4:IntKind.i64.wrap ((fr:Int) / 4+(k:Int)+1)=(fr:Int) / 4+(k:Int)+1:=IntWalk.i64_in _ (by omega)
    have HD:=ah (HDI.out k _ hd);clear hd;go_wp2_with fail
    refine HD.out.mono ?_;rintro e w2 ⟨rfl,hd2⟩;have HD2:=ah hd2;clear hd2 HD;go_wp2
    refine⟨⟨k+1,by omega,by simp;omega,HD2.out⟩,?_⟩
    simp only[intOf];omega
   ·have g2:decide ((fr:Int) / 4+(k:Int)≤((fr:Int)+(n:Int)-1) / 4)=false:=decide_eq_false (by omega)
    have HD:=ah (HEN.out k _ (by omega) hd)
    clear hd;go_wp2
    go_end0
    exact⟨rfl,HD.out⟩
end Go.Proofs.YtonhoahnieoebabGreatDoor
namespace Go.Proofs.YtonhoahnieoebabGreatDoor
open Go.RowKit
theorem Gg{s:SV}{C:Int}{m:Nat}{l:List Int}{n:Int}{v:IV}(hg:s.good C l)(hok:s.ok m)(hn:n∈l)(hf:s.file n=some v){c:Nat}(hc:(c:Int)<C):v.there (c:Int)=true:=by
 obtain⟨u,h1,h2⟩:=hg n hn;rw[hf] at h1;cases h1
 have ht:=(hok.file hf).len;unfold IV.there;exact decide_eq_true (by omega)
theorem DT{s:SV}{C m:Nat}{l:List Int}(hg:s.good (C:Int) l)(hok:s.ok m){c f k:Nat}{t:ByteArray}(hc:c<C)(ht:t.size=k*16)(hk:f+k≤4):(s.lay l c f t).2≠1:=by
 unfold SV.lay
 cases l with
 | nil=>show(4:Int)≠1;decide
 | cons n r =>
  obtain⟨v,hf,hv⟩:=hg n List.mem_cons_self;have hth:=Gg hg hok List.mem_cons_self hf (c:=c) (by omega)
  have hR:=SV.kF (c:=(c:Int)) hg hok (by intro e;cases e) ⟨by omega,by omega⟩
  show(match s.file n with|none=>_|some v=>_:SV × Int).2≠1
  rw[hf];show(if (v.bH c).1=2 then _ else _:SV × Int).2≠1
  split
  ·show v.dB c f t≠1
   unfold IV.dB;rw[if_pos (show kK v c f t=true by unfold kK;rw[hth];simp;omega)]
   split
   ·unfold IV.qP
    rcases DV.zZ v.d (aI v.h (v.ent c).2.toNat+((f:Int)).toNat) t (t.size / 16) with h|h<;>rw[h]<;>decide
   ·decide
  ·show v.dL c _≠1
   have hz:((s.read (n::r) c).1.extract 0 (f*16)++t++(s.read (n::r) c).1.extract (f*16+t.size) 64).size=64:=by
    simp only[ByteArray.size_append,ByteArray.size_extract,hR.2,ht];omega
   unfold IV.dL;rw[if_pos ⟨hth,hz⟩];split
   ·decide
   ·split
    ·decide
    ·rename_i q r' hq
     split
     ·rcases DV.pU (v.fZ q ((s.read (n::r) c).1.extract 0 (f*16)++t++(s.read (n::r) c).1.extract (f*16+t.size) 64)).d with⟨h,_⟩|⟨h,_⟩<;>rw[h]<;>decide
     ·unfold IV.dV
      rcases DV.zZ v.d (aI v.h q+0) ((s.read (n::r) c).1.extract 0 (f*16)++t++(s.read (n::r) c).1.extract (f*16+t.size) 64) 4 with h|h<;>rw[h]<;>decide
theorem TQ{s:SV}{C m:Nat}{l:List Int}(hg:s.good (C:Int) l)(hok:s.ok m){fr N:Nat}{p:Pt}(hp:p.fits fr N C):(SV.bK l s p).2≠1:=by
 have hl:=DT (f:=p.f) (k:=p.n) (t:=eH (p.n*16)) hg hok hp.c (by unfold eH bytesOf;show(List.replicate (p.n*16) (0:UInt8)).toArray.size=_;rw[List.size_toArray,List.length_replicate]) hp.n4
 unfold SV.bK
 cases l with
 | nil=>show(4:Int)≠1;decide
 | cons n r =>
  obtain⟨v,hf,hv⟩:=hg n List.mem_cons_self;have hth:=Gg hg hok List.mem_cons_self hf (c:=p.c) (by have:=hp.c;omega)
  show(match s.file n with|none=>_|some v=>_:SV × Int).2≠1
  rw[hf];show(if p.n=4 then _ else _:SV × Int).2≠1
  split
  ·show v.dU p.c≠1
   unfold IV.dU;rw[if_pos hth];split
   ·decide
   ·rcases DV.pU v.d with⟨h,_⟩|⟨h,_⟩<;>rw[h]<;>decide
  ·split
   ·show(0:Int)≠1;decide
   ·exact hl
theorem Du{op:SV→Pt→SV × Int}{C:Nat}{l:List Int}{fr N:Nat}(h1:∀(s:SV) (m:Nat) p,s.good (C:Int) l→s.ok m→m+10≤1000000000→p.fits fr N C→(op s p).2≠1∧(op s p).1.ok (m+10)∧(op s p).1.good (C:Int) l) :
  ∀(P:List Pt) (s:SV) (m:Nat),s.good (C:Int) l→s.ok m→m+10*P.length≤1000000000→(∀ p∈P,p.fits fr N C)→(dY op s P).2≠1:=by
 intro P
 induction P with
 | nil=>intro s m _ _ _ _;show(0:Int)≠1;decide
 | cons p r ih =>
  intro s m hg hok hm hp;simp only[List.length_cons] at hm;rw[nP];obtain⟨h2,h3,h4⟩:=h1 s m p hg hok (by omega) (hp p List.mem_cons_self)
  split
  ·exact ih _ _ h4 h3 (by omega) fun q hq=>hp q (List.mem_cons_of_mem _ hq)
  ·exact h2
theorem zY{s:SV}{C m:Nat}{l:List Int}(hg:s.good (C:Int) l)(hok:s.ok m){fr:Int}{t:ByteArray}(ht:t.size % 16=0)(hf:s.bP l fr ((t.size / 16:Nat):Int)=0)(hm:m+10*(t.size / 16)≤1000000000):(s.put l fr t).2≠1:=by
 obtain⟨hl,f0,n0,hC⟩:=SV.jr hg hf;unfold SV.put;rw[if_pos ht,if_pos hf];have hlen:=nV fr.toNat (t.size / 16) _ 0 (Nat.le_refl _);refine Du (C:=C) (l:=l) (fr:=fr.toNat) (N:=t.size / 16) (fun s m p hg hok hm hp=>⟨DT hg hok hp.c (qj (by have:=hp.an;omega)) hp.n4,hok.lay _ _ _ _ hm,?_⟩) _ s m hg hok (by omega) (uG (by omega) _ 0 (Nat.le_refl _))
 exact(bF.lay l s l p.c p.f _).good hg
theorem AQ{s:SV}{C m:Nat}{l:List Int}(hg:s.good (C:Int) l)(hok:s.ok m){fr n:Int}(hf:s.bP l fr n=0)(hm:m+10*n.toNat≤1000000000):(s.wipe l fr n).2≠1:=by
 obtain⟨hl,f0,n0,hC⟩:=SV.jr hg hf;unfold SV.wipe;rw[if_pos hf];have hlen:=nV fr.toNat n.toNat _ 0 (Nat.le_refl _);refine Du (C:=C) (l:=l) (fr:=fr.toNat) (N:=n.toNat) (fun s m p hg hok hm hp=>⟨TQ hg hok hp,hok.bK _ _ hm,?_⟩) _ s m hg hok (by omega) (uG (by omega) _ 0 (Nat.le_refl _))
 exact(bF.bK l s l p).good hg
open Go.Maps
attribute [local go_sem ↓] Go.wp_at_zero Go.wp_at_succ
theorem BF{s:SV}{l:List Int}{fr n:Int}(hl:l≠[])(h:s.bP l fr n≠0):s.bP l fr n=1:=by
 unfold SV.bP at h ⊢;rw[if_neg hl] at h ⊢;split
 ·rfl
 ·next hx=>rw[if_neg hx] at h;exact absurd rfl h
theorem Hl{yp C m:Nat}{Y:Yh}{y:YV}(fr n F:Int)(w:World)(h:ay w yp Y y)(hY:YOk y C m)(hC:C≤40)(hF:F≠1→0≤fr∧0≤n∧fr+n≤4*C) :
  Calls Tryz.prog 210 #[.pointer (some ⟨yp,0,none⟩),.int .i64 fr,.int .i64 n,erV F] w fun e w'=>e=.returned (.tuple #[])∧au yp Y y (if F=1 then y else y.mark fr.toNat n.toNat) w w':=by
 by_cases h1:F=1
 ·refine(vI fr n F w h (.inr (.inr h1))).mono ?_
  rintro e w' ⟨rfl,rfl⟩;rw[if_pos h1];exact⟨rfl,au.refl h⟩
 ·obtain⟨f0,n0,hl⟩:=hF h1
  rw[if_neg h1];obtain⟨fn,rfl⟩:∃ k:Nat,fr=(k:Int):=⟨fr.toNat,by omega⟩
  obtain⟨nn,rfl⟩:∃ k:Nat,n=(k:Int):=⟨n.toNat,by omega⟩
  rw[show((fn:Int)).toNat=fn by omega,show((nn:Int)).toNat=nn by omega]
  by_cases hb:y.busy=true
  ·by_cases hn:nn=0
   ·subst hn
    refine(vI (fn:Int) 0 F w h (.inr (.inl rfl))).mono ?_;rintro e w' ⟨rfl,rfl⟩;rw[Ob];exact⟨rfl,au.refl h⟩
   ·exact Ur fn nn F w h hY h1 hb (by omega) (by omega)
  ·refine(vI (fn:Int) (nn:Int) F w h (.inl hb)).mono ?_
   rintro e w' ⟨rfl,rfl⟩;rw[Oa hb];exact⟨rfl,au.refl h⟩
theorem UQ{yp C m:Nat}{Y:Yh}{y:YV}(fr:Int)(t:ByteArray)(w:World)(h:ay w yp Y y)(hY:YOk y C m)(hC:C≤40)(hm:m+7000<1000000000)(hfr : -9223372036854775808≤fr∧fr≤9223372036854775807)(ht:t.size≤10000) :
    Calls Tryz.prog 99 #[.pointer (some ⟨yp,0,none⟩),.int .i64 fr,.string t] w fun e w'=>e=.returned (erV (y.dB fr t))∧au yp Y y (y.write fr t) w w':=by
  have HW:Hid (∀ W:World,Below w.heap.size w W→Calls Tryz.prog 143 #[.pointer (some ⟨yp,0,none⟩)] W fun e w'=>∃(g o cap:Nat),e=.returned (.slice (some ⟨g,o,none⟩) y.l.length cap)∧Nums w' (some ⟨g,o,none⟩) y.l∧w.heap.size≤g∧Below w.heap.size w w'):=fun W hb=>(qQ W (h.below hb) hY).mono fun e w' ⟨g,o,cap,h1,h2,h3,_,_,h6⟩=>⟨g,o,cap,h1,h2,Nat.le_trans hb.size h3,hb.trans (h6.mono hb.size)⟩
  have HPU:Hid (∀(W:World) (g o cap:Nat),Below w.heap.size w W→Nums W (some ⟨g,o,none⟩) y.l→w.heap.size≤g→Calls Tryz.prog 69 #[.pointer (some ⟨yp,6,none⟩),.slice (some ⟨g,o,none⟩) y.l.length cap,.int .i64 fr,.string t] W fun e w'=>e=.returned (erV (y.s.put y.l fr t).2)∧au yp Y y { y with s:=(y.s.put y.l fr t).1 } w w'):=fun W g o cap hb hn hg =>
    (Je y.l fr t W ((h.shelf hY.s).below hb) hn hY.ch.good (by have:=hY.ch.len;omega) hC (fun g' o' e hf=>by
      cases e
      have:=h.iT (.inr (.inl (h.inS hf)))
      omega) (by omega) hfr ht).mono fun e w' hd=>h.uO hb hd
  have HDI:Hid (∀ W:World,au yp Y y { y with s:=(y.s.put y.l fr t).1 } w W→Calls Tryz.prog 210 #[.pointer (some ⟨yp,0,none⟩),.int .i64 fr,.int .i64 ((t.size:Int) / 16),erV (y.s.put y.l fr t).2] W fun e w'=>e=.returned (.tuple #[])∧erV (y.s.put y.l fr t).2=erV (y.dB fr t)∧au yp Y y (y.write fr t) w w'):=fun W ⟨Y1,e1,h1,h2⟩=>by
    have hY1:YOk { y with s:=(y.s.put y.l fr t).1 } C (m+10*(t.size / 16)):=hY.files (hY.s.put _ _ _ (by omega)) (fun l=>.put l _ _ _ _) (by omega)
    by_cases hA:t.size % 16=0∧y.s.bP y.l fr ((t.size / 16:Nat):Int)=0
    · have hne:=zY hY.ch.good hY.s hA.1 hA.2 (by omega)
      obtain⟨_,f0,n0,hl⟩:=SV.jr hY.ch.good hA.2;refine(Hl fr ((t.size:Int) / 16) _ W h1 hY1 hC (fun _=>⟨f0,by omega,by omega⟩)).mono ?_
      rintro e w' ⟨rfl,Y2,e2,h3,h4⟩;rw[if_neg hne] at h3 h4
      have e3:y.write fr t=({ y with s:=(y.s.put y.l fr t).1 }:YV).mark fr.toNat ((t.size:Int) / 16).toNat:=by
        unfold YV.write;rw[if_pos hA,show((t.size:Int) / 16).toNat=t.size / 16 by omega]
      refine⟨rfl,?_,?_⟩
      · unfold YV.dB;rw[if_pos hA]
      · rw[e3];exact⟨Y2,e2.trans e1,h3,h2.trans h4⟩
    · have hR:y.s.put y.l fr t=(y.s,1):=by
        unfold SV.put;by_cases h16:t.size % 16=0
        · rw[if_pos h16,if_neg (fun e=>hA ⟨h16,e⟩),BF hY.ch.ne (fun e=>hA ⟨h16,e⟩)]
        · rw[if_neg h16]
      rw[hR] at h1 h2 hY1 ⊢;refine(vI fr ((t.size:Int) / 16) 1 W h1 (.inr (.inr rfl))).mono ?_;rintro e w' ⟨rfl,rfl⟩;refine⟨rfl,?_,?_⟩
      · unfold YV.dB;rw[if_neg hA]
      · unfold YV.write;rw[if_neg hA];exact⟨Y1,e1,h1,h2⟩
  have hsz:(0:Int)≤(t.size:Int):=by omega
  clear h hY;generalize y.s.put y.l fr t=R at HPU HDI;have HBD:Hid (Below w.heap.size w w.drew):=(Below.refl _ _).drew;go_enter Tryz.func99,Tryz.ntmps99
  go_wp2
  go_region_held3 (fun _=>True)
    (first|trivial|assumption)
    (first
      | (go_at_call 143;refine(HW.out _ HBD.out).mono ?_;rintro e w1 ⟨g,o,cap,rfl,h1,h3,h5⟩;have HC:=ah (HPU.out w1 g o cap h5 h1 h3);clear h1 h3 h5;have hS1:=True.intro)
      | (go_at_call 69;refine HC.out.mono ?_;rintro e w2 ⟨rfl,hd2⟩;have HD2:=ah (HDI.out _ hd2);clear hd2;have hS2:=True.intro))
  go_wp2_with fail
  refine HD2.out.mono ?_;rintro e w3 ⟨rfl,he,hd3⟩;have HE:=ah he;have HD3:=ah hd3;clear he hd3 HD2;go_wp2
  go_ret
  exact⟨iw HE.out,HD3.out⟩
theorem UO{yp C m:Nat}{Y:Yh}{y:YV}(fr n:Int)(w:World)(h:ay w yp Y y)(hY:YOk y C m)(hC:C≤40)(hm:m+7000<1000000000)(hfr : -9223372036854775808≤fr∧fr≤9223372036854775807) :
    Calls Tryz.prog 111 #[.pointer (some ⟨yp,0,none⟩),.int .i64 fr,.int .i64 n] w fun e w'=>e=.returned (erV (y.jo fr n))∧au yp Y y (y.wipe fr n) w w':=by
  have HW:Hid (∀ W:World,Below w.heap.size w W→Calls Tryz.prog 143 #[.pointer (some ⟨yp,0,none⟩)] W fun e w'=>∃(g o cap:Nat),e=.returned (.slice (some ⟨g,o,none⟩) y.l.length cap)∧Nums w' (some ⟨g,o,none⟩) y.l∧w.heap.size≤g∧Below w.heap.size w w'):=fun W hb=>(qQ W (h.below hb) hY).mono fun e w' ⟨g,o,cap,h1,h2,h3,_,_,h6⟩=>⟨g,o,cap,h1,h2,Nat.le_trans hb.size h3,hb.trans (h6.mono hb.size)⟩
  have HPU:Hid (∀(W:World) (g o cap:Nat),Below w.heap.size w W→Nums W (some ⟨g,o,none⟩) y.l→w.heap.size≤g→Calls Tryz.prog 71 #[.pointer (some ⟨yp,6,none⟩),.slice (some ⟨g,o,none⟩) y.l.length cap,.int .i64 fr,.int .i64 n] W fun e w'=>e=.returned (erV (y.s.wipe y.l fr n).2)∧au yp Y y { y with s:=(y.s.wipe y.l fr n).1 } w w'):=fun W g o cap hb hn hg =>
    (Jo y.l fr n W ((h.shelf hY.s).below hb) hn hY.ch.good (by have:=hY.ch.len;omega) hC (fun g' o' e hf=>by
      cases e
      have:=h.iT (.inr (.inl (h.inS hf)))
      omega) (by omega) hfr).mono fun e w' hd=>h.uO hb hd
  have HDI:Hid (∀ W:World,au yp Y y { y with s:=(y.s.wipe y.l fr n).1 } w W→Calls Tryz.prog 210 #[.pointer (some ⟨yp,0,none⟩),.int .i64 fr,.int .i64 n,erV (y.s.wipe y.l fr n).2] W fun e w'=>e=.returned (.tuple #[])∧erV (y.s.wipe y.l fr n).2=erV (y.jo fr n)∧au yp Y y (y.wipe fr n) w w'):=fun W ⟨Y1,e1,h1,h2⟩=>by
    by_cases hA:y.s.bP y.l fr n=0
    · obtain⟨_,f0,n0,hl⟩:=SV.jr hY.ch.good hA
      have hY1:YOk { y with s:=(y.s.wipe y.l fr n).1 } C (m+10*n.toNat):=hY.files (hY.s.wipe _ _ _ (by omega)) (fun l=>.wipe l _ _ _ _) (by omega)
      have hne:=AQ hY.ch.good hY.s hA (by omega)
      refine(Hl fr n _ W h1 hY1 hC (fun _=>⟨f0,by omega,by omega⟩)).mono ?_
      rintro e w' ⟨rfl,Y2,e2,h3,h4⟩;rw[if_neg hne] at h3 h4
      have e3:y.wipe fr n=({ y with s:=(y.s.wipe y.l fr n).1 }:YV).mark fr.toNat n.toNat:=by
        unfold YV.wipe;rw[if_pos hA]
      refine⟨rfl,?_,?_⟩
      · unfold YV.jo;rw[if_pos hA]
      · rw[e3];exact⟨Y2,e2.trans e1,h3,h2.trans h4⟩
    · have hR:y.s.wipe y.l fr n=(y.s,1):=by
        unfold SV.wipe;rw[if_neg hA,BF hY.ch.ne hA]
      rw[hR] at h1 h2 ⊢;refine(vI fr n 1 W h1 (.inr (.inr rfl))).mono ?_;rintro e w' ⟨rfl,rfl⟩;refine⟨rfl,?_,?_⟩
      · unfold YV.jo;rw[if_neg hA]
      · unfold YV.wipe;rw[if_neg hA];exact⟨Y1,e1,h1,h2⟩
  clear h hY;generalize y.s.wipe y.l fr n=R at HPU HDI;have HBD:Hid (Below w.heap.size w w.drew):=(Below.refl _ _).drew;go_enter Tryz.func111,Tryz.ntmps111
  go_wp2
  go_region_held3 (fun _=>True)
    (first|trivial|assumption)
    (first
      | (go_at_call 143;refine(HW.out _ HBD.out).mono ?_;rintro e w1 ⟨g,o,cap,rfl,h1,h3,h5⟩;have HC:=ah (HPU.out w1 g o cap h5 h1 h3);clear h1 h3 h5;have hS1:=True.intro)
      | (go_at_call 71;refine HC.out.mono ?_;rintro e w2 ⟨rfl,hd2⟩;have HD2:=ah (HDI.out _ hd2);clear hd2;have hS2:=True.intro))
  go_wp2_with fail
  refine HD2.out.mono ?_;rintro e w3 ⟨rfl,he,hd3⟩;have HE:=ah he;have HD3:=ah hd3;clear he hd3 HD2;go_wp2
  go_ret
  exact⟨iw HE.out,HD3.out⟩
theorem getD_in{l:List Int}{k:Nat}(h:k<l.length):l.getD k 0∈l:=by
 rw[List.getD_eq_getElem?_getD,List.getElem?_eq_getElem h];exact List.getElem_mem h
theorem Uu{yp C m:Nat}{Y:Yh}{y:YV}(w:World)(h:ay w yp Y y)(hY:YOk y C m) :
  Calls Tryz.prog 112 #[.pointer (some ⟨yp,0,none⟩)] w fun e w'=>e=.returned (.tuple #[])∧au yp Y y y.flush w w':=by
 have HW:=ah (qQ w h hY);have HST:Hid (∀ W:World,Below w.heap.size w W→au yp Y y { y with s:=y.s.bQ (y.l.take 0) } w W):=fun W hb=>au.below h hb
 have HEN:Hid (∀ W:World,au yp Y y { y with s:=y.s.bQ (y.l.take y.l.length) } w W→au yp Y y y.flush w W):=fun W hd=>by
  rw[List.take_length] at hd;exact hd
 have HRD:Hid (∀(k:Nat) (W1 W:World) (g o:Nat),k<y.l.length→Nums W1 (some ⟨g,o,none⟩) y.l→w.heap.size≤g→Below w.heap.size w W1→au yp Y y { y with s:=y.s.bQ (y.l.take k) } W1 W→∃(n xp:Nat),W.cell? ⟨g,o+k,none⟩=some (.int .i64 (n:Int))∧n<5∧W.cell? ⟨yp,6+n,none⟩=some (.pointer (some ⟨xp,0,none⟩)) ∧
   Calls Tryz.prog 169 #[.pointer (some ⟨xp,0,none⟩)] W fun e w'=>e=.returned (.tuple #[])∧au yp Y y { y with s:=y.s.bQ (y.l.take (k+1)) } W1 w'):=fun k W1 W g o hk hn hg hb ⟨Y1,e1,h1,h2⟩=>by
  have hN:Nums W (some ⟨g,o,none⟩) y.l:=hn.moved h2 (fun g' o' e hf=>by
   cases e
   have:=h.iT hf
   omega)
  obtain⟨g',o',e3,h4⟩:=hN k hk;cases e3
  obtain⟨v,hv,_⟩:=Lp hY.ch.good (y.l.take k) _ (getD_in hk);obtain⟨a0,a5,a2⟩:=SV.dJ hv;have hok:(y.s.bQ (y.l.take k)).ok m:=SV.ok.bQ _ hY.s;have hcell:W.cell? ⟨yp,6+(y.l.getD k 0).toNat,none⟩=some (fJ (Y1.xs (y.l.getD k 0).toNat) (y.s.bQ (y.l.take k) (y.l.getD k 0).toNat)):=h1.blk.cells.2.2.1 (y.l.getD k 0).toNat (by omega)
  rw[a2] at hcell;refine⟨(y.l.getD k 0).toNat,(Y1.xs (y.l.getD k 0).toNat).p,by rw[h4,show(((y.l.getD k 0).toNat:Nat):Int)=y.l.getD k 0 by omega],by omega,hcell,?_⟩
  refine(Df W (h1.shelf hok) hv).mono ?_;rintro e w' ⟨rfl,xs',h5,h6⟩;obtain⟨h7,h8⟩:=h1.FQ (Below.refl _ _) h5 h6;refine⟨rfl,{ Y1 with xs:=xs' },e1,?_,?_⟩
  ·rw[Aw hk,SV.y8];exact h7
  ·rw[Aw hk,SV.y8];exact h2.trans h8
 have HBW:Hid (∀(W1 W:World) (z:YV),Below w.heap.size w W1→au yp Y y z W1 W→au yp Y y z w W):=fun W1 W z hb ⟨Y1,e1,h1,h2⟩=>⟨Y1,e1,h1,(Moved.of_below hb).trans h2⟩
 have HS1:Hid (∀ W:World,Below w.heap.size w W→au yp Y y { y with s:=y.s.bQ (y.l.take 0) } W W):=fun W hb=>au.refl (h.below hb)
 have hl5:y.l.length≤5:=hY.ch.len;clear h hY HST;generalize hl:y.l.length=ln at HW HRD HEN hl5;go_enter Tryz.func112,Tryz.ntmps112
 go_wp2_with fail
 refine HW.out.mono ?_;rintro e w1 ⟨g,o,cap,rfl,h1,h2,h3,h4,h5⟩;have HR1:=ah (fun k W hk hd=>HRD.out k w1 W g o hk h1 h2 h5 hd)
 have H0:=ah (HS1.out w1 h5);have HB1:=ah (fun W z hd=>HBW.out w1 W z h5 hd)
 clear h1 h2 h3 h4 h5 HRD HS1 HBW HW;go_wp2
 go_loopw [7] (fun i wr=>∃ k:Nat,k≤ln∧i=.int .i64 (k:Int)∧au yp Y y { y with s:=y.s.bQ (y.l.take k) } w1 wr) (fun i _=>ln-(intOf i).toNat)
 case atStart=>exact⟨0,Nat.zero_le _,rfl,H0.out⟩
 case round =>
  obtain⟨k,hk,rfl,hd⟩:=hrel;by_cases hlt:k<ln
  ·obtain⟨n,xp,q1,q2,q3,hf⟩:=HR1.out k wr hlt hd
   have HF:=ah hf;clear hf hd;have k0:(0:Int)≤(k:Int):=by omega
   have k1:(k:Int)<(ln:Int):=by omega
   have k2:((k:Int)).toNat=k:=by omega
   have n0:(0:Int)≤(n:Int):=by omega
   have n1:(n:Int)<5:=by omega
   have n2:((n:Int)).toNat=n:=by omega
   have k3:IntKind.i64.wrap ((k:Int)+1)=(k:Int)+1:=IntWalk.i64_in _ (by omega)
   go_wp2_with fail
   refine HF.out.mono ?_;rintro e w2 ⟨rfl,hd2⟩;have HD2:=ah hd2;clear hd2 HF q1 q3;go_wp2
   refine⟨⟨k+1,by omega,by simp,HD2.out⟩,?_⟩
   simp only[intOf];omega
  ·have k1:¬((k:Int)<(ln:Int)):=by omega
   have hkl:k=ln:=by omega
   rw[hkl] at hd;have HD:=ah (HEN.out _ (HB1.out _ _ hd));clear hd;go_wp2
   go_end0
   exact⟨rfl,HD.out⟩
end Go.Proofs.YtonhoahnieoebabGreatDoor
namespace Go.Proofs.YtonhoahnieoebabGreatDoor
open Go.RowKit Go.Maps
def eu(a:aN):Obj:=.cells #[.string a.kind,.int .i64 a.a,.int .i64 a.b,.int .i64 a.c,.int .i64 a.d,.string a.s,.slice a.ka a.kl a.kc] 43 (0,0)
structure kL(w:World)(N:Nat)(a:aN):Prop where
 blk:w.heap[N]?=some (eu a)
theorem kL.cells{w:World}{N:Nat}{a:aN}(h:kL w N a):w.cell? ⟨N,1,none⟩=some (.int .i64 a.a)∧w.cell? ⟨N,2,none⟩=some (.int .i64 a.b)∧w.cell? ⟨N,5,none⟩=some (.string a.s):=by
 refine⟨?_,?_,?_⟩<;>(rw[cell_of_row _ _ _ _ _ _ h.blk];rfl)
end Go.Proofs.YtonhoahnieoebabGreatDoor
