/- Each act of TopImage, what it shows, and what a crash behind it shows, in plain words. -/
import Derived.Test.YtonhoahnieoebabGreatDoorQTopPlain
import Derived.Test.YtonhoahnieoebabGreatDoorQYardP5
set_option maxHeartbeats 2000000
set_option maxRecDepth 100000
namespace Go.Proofs.YtonhoahnieoebabGreatDoor
open Go.RowKit
theorem yB{d:DV}{m:Nat}(hd:d.fine d.fl.length m){a:Nat}{s:ByteArray}{c:Nat}(hs:s.size=c*16)(ha:a+c≤d.fl.length)(hm:m+c<1000000000):∀ k,k≤c→(d.puts a s k).1.seen.length=d.seen.length:=fun k hk=>by
 have:=hd.puts hs ha hm k hk
 rw[this.ok.same,this.len,hd.ok.same]
theorem Told.write{v:IV}{U:List (Int × Int)}{m:Nat}{may may':Nat→List (List UInt8)}(h:Told v may)(_hs:Safe v U)(hok:v.ok m)(hm:m+10<1000000000)(c fr:Int)(s:ByteArray)
  (hmay:∀ k x,x∈may k→x∈may' k) (hn:∀ k,k<4*v.t.length→(v.write c fr s).sh k∈may' k):Told (v.write c fr s) may':=by
 unfold IV.write at hn ⊢
 split
 ·next hw =>
  rw[if_pos hw] at hn
  obtain⟨w1,w2,w3,w4,w5⟩:=yc hw.1
  obtain⟨t0,t1⟩:=IV.kG w1
  obtain⟨p0,p1,p2⟩:=hok.place w1 hw.2
  unfold IV.qw at hn ⊢
  have hcs:s.size=s.size / 16*16:=by omega
  have hrange:aK v.h (v.ent c).2.toNat+fr.toNat+s.size / 16≤v.d.fl.length:=by omega
  have hl:=yB hok.d hcs hrange (by omega)
  have hpv:=GK v.d (aK v.h (v.ent c).2.toNat+fr.toNat) s (s.size / 16) hl (by rw[hok.d.ok.same];exact hrange) _ (Nat.le_refl _)
  have hlow:=wS v.d (aK v.h (v.ent c).2.toNat+fr.toNat) s (s.size / 16)
  refine⟨fun c2 hc2 x hv j hj=>?_,hn,h.held⟩
  have hc2':c2<v.t.length:=hc2
  have hold:=h.vers c2 hc2 x ((hlow (1+c2 / 8) (by have:=qX hok (v.ent c).2.toNat;have:=lM hc2';omega)).1 x hv) j hj
  refine⟨fun g=>hmay _ _ (hold.1 g),fun g=>hmay _ _ (hold.2.1 g),fun g=>⟨(hold.2.2 g).1,fun y hy=>?_⟩⟩
  rcases hpv _ y hy with h1|⟨h1,h2,h3⟩
  ·exact hmay _ _ ((hold.2.2 g).2 y h1)
  ·rcases(hold.2.2 g).1 with g1|g1
   ·exfalso
    have hq:(gV (bytesOf x) (c2 % 8)).2.toNat=(v.ent c).2.toNat:=by
     have h1':aK v.h (v.ent c).2.toNat+fr.toNat≤aK v.h (gV (bytesOf x) (c2 % 8)).2.toNat+j:=h1
     have h2':aK v.h (gV (bytesOf x) (c2 % 8)).2.toNat+j<aK v.h (v.ent c).2.toNat+fr.toNat+s.size / 16:=h2
     clear h1 h2 hpv hlow hl
     unfold aK at h1' h2'
     omega
    rw[hq] at g1
    refine h.held _ g1 (v.ent c) ?_ ?_
    ·unfold IV.ent;exact getD_mem (by omega)
    ·exact Prod.ext hw.2 (by show(v.ent c).2=_;omega)
   ·have h4:=hn (4*c2+j) (by omega)
    rw[yu _ c2 j hj] at h4
    have e1:({ v with d:=(v.d.puts (aK v.h (v.ent c).2.toNat+fr.toNat) s (s.size / 16)).1 }:IV).t.getD c2 (0,0)=gV (bytesOf x) (c2 % 8):=g1.symm
    rw[e1,if_pos g] at h4
    rw[h3];exact h4
 ·next hw =>
  rw[if_neg hw] at hn
  exact h.mono hmay
theorem Told.crash{v:IV}{U:List (Int × Int)}{m:Nat}{may:Nat→List (List UInt8)}(h:Told v may)(hs:Safe v U)(hok:v.ok m)(ks:List Bool)(wr:Nat) :
  ∀ k,k<4*v.t.length→(fQ (DV.made (fO v.d.pend ks v.d.fl v.d.pend.length) wr)).sh k∈may k:=by
 have hv:=Ik v.d ks _ (Nat.le_refl _)
 obtain⟨h1,h2,h3,h4⟩:=hs.opens hok (d:=DV.made (fO v.d.pend ks v.d.fl v.d.pend.length) wr) (sF _ _ _ _) hv
 generalize hl:fO v.d.pend ks v.d.fl v.d.pend.length=l at h1 h2 h3 h4 hv ⊢
 intro k hk
 have hc:k / 4<v.t.length:=by omega
 have hlen:(fQ (DV.made l wr)).t.length=v.t.length:=by rw[h3.1];exact hs.sub.1.symm
 have he:gV (bytesOf (l.getD (1+k / 4 / 8) [])) (k / 4 % 8)=(fQ (DV.made l wr)).t.getD (k / 4) (0,0):=by
  have:=h4 (k / 4 / 8) (lM hc)
  rw[show l.getD (1+k / 4 / 8) []=(dG (fQ (DV.made l wr)).t ((k / 4 / 8:Nat):Int)).data.toList from this,pY,tH hok.h (by rw[hlen];exact hok.len) (fun i=>h3.bP hs.good i) (by rw[hlen];exact lM hc) (by omega),show k / 4 / 8*8+k / 4 % 8=k / 4 by omega]
 have hf:=h.vers (k / 4) hc _ (hv (1+k / 4 / 8)) (k % 4) (by omega)
 rw[he,show 4*(k / 4)+k % 4=k by omega] at hf
 have hb:=iG (h3.bP hs.good (k / 4))
 unfold IV.sh
 split
 ·next g =>
  show l.getD (aK (aV (DV.made l wr)) _+k % 4) []∈may k
  rw[h2]
  exact(hf.2.2 g).2 _ (hv _)
 ·split
  ·next g=>exact hf.2.1 g
  ·next g1 g2=>exact hf.1 (by omega)
theorem BO{d:DV}{m:Nat}{h:HV}(hd:d.fine d.fl.length m)(hk:h.ok=true)(hn:aJ h≤d.fl.length)(hm:m+20<1000000000)(hf:crF d h=0):Told (crV d h) (fun _=>[[45]]):=by
 have hs:=AU hd hk hn hm hf
 have hok:=vP hd hk hn hm
 have hpf:(lQ d h).flush.d.aQ=0:=by
  unfold crF at hf
  rw[if_pos hk,if_neg (by omega)] at hf
  by_cases h0:(crD d h).2=0
  ·rw[if_pos h0] at hf;exact hf
  ·rw[if_neg h0] at hf;exact absurd hf h0
 have ht:∀ c,(crV d h).t.getD c (0,0)=(0,0):=fun c=>by
  have:(crV d h).t=crT h:=by unfold crV IV.gW;rw[if_pos hpf];rfl
  rw[this]
  show(List.replicate h.c.toNat ((0:Int),(0:Int))).getD c (0,0)=_
  rw[List.getD_eq_getElem?_getD,List.getElem?_replicate]
  split<;>rfl
 refine uI hs hok (fun i s hv=>?_) (by unfold crV IV.gW;rw[if_pos hpf];rfl) (fun k _=>?_)
 ·have e:(crV d h).d=((lQ d h).flush.d.put 0 (aU h.bytes).data.toList).flushed:=by unfold crV IV.gW;rw[if_pos hpf];rfl
  rw[e] at hv ⊢
  rcases hv with hv|⟨x,hx,_⟩
  ·exact hv
  ·cases hx
 ·unfold IV.sh
  rw[ht,if_neg (by decide),if_neg (by decide)]
  exact List.mem_singleton.2 rfl
open Go.Maps
attribute [local go_sem ↓] Go.wp_at_zero Go.wp_at_succ
theorem DJ{B:Nat}{vs:Value}{l:List (List UInt8)}(s:List UInt8)(w:World)(ho:w.ownsRow B 9 1 vs l.length (flS l))(hs:s∈l)(hl:l.length≤1000) :
  Calls Tryz.prog 145 #[vs,.string (bytesOf s)] w fun e w'=>e=.returned (.bool true)∧w'=w:=by
 obtain⟨i0,hi0,hget⟩:=List.getElem_of_mem hs
 have HG:Hid (l.getD i0 []=s):=by unfold Hid;rw[List.getD_eq_getElem?_getD,List.getElem?_eq_getElem hi0];exact hget
 obtain⟨a,cap,hsh⟩:=ownsRow_shape ho
 have HC:Hid (∀ k,k<l.length→∃ g,a=some ⟨g,0,none⟩∧w.cell? ⟨g,k,none⟩=some (.string (bytesOf (l.getD k [])))):=fun k hk=>by
  obtain⟨g,cap2,h1,h2,_⟩:=qm ho k hk
  rw[hsh] at h1
  cases h1
  exact⟨g,rfl,by rw[h2,U3 l k hk]⟩
 subst hsh
 clear ho hs hget
 generalize l.length=n at HC hi0 hl ⊢
 go_enter Tryz.func145,Tryz.ntmps145
 go_wp2
 go_loopw [5] (fun i wr=>∃ k:Nat,k≤i0∧i=.int .i64 k∧Hid (wr=w)) (fun i _=>n-(intOf i).toNat)
 case atStart=>exact⟨0,Nat.zero_le _,rfl,rfl⟩
 case round =>
  obtain⟨k,hk,rfl,HW⟩:=hrel
  have hkn:k<n:=by omega
  obtain⟨g,rfl,hc0⟩:=HC.out k hkn
  obtain⟨t,HT⟩:∃ t,Hid (t=bytesOf (l.getD k [])):=⟨_,rfl⟩
  have hc:wr.cell? ⟨g,k,none⟩=some (.string t):=by rw[HW.out,HT.out];exact hc0
  clear hc0
  have k0:(0:Int)≤(k:Int):=by omega
  have k1:(k:Int)<(n:Int):=by omega
  obtain⟨u,HU⟩:∃ u,Hid (u=bytesOf s):=⟨_,rfl⟩
  rw[← HU.out]
  cases hq:(t.toList==u.toList) with
  | true =>
   go_wp2
   go_ret
   exact⟨rfl,HW.out⟩
  | false =>
   have hne:k≠i0:=fun e=>by
    rw[HT.out,HU.out,e,HG.out] at hq
    simp at hq
   go_wp2
   go_roundw
   case rel =>
    have fin:∃ k':Nat,k'≤i0∧Value.int .i64 ((k:Int)+1)=.int .i64 k'∧Hid (wr=w):=⟨k+1,by omega,by go_num,HW.out⟩
    first|exact fin|((repeat apply Exists.intro);exact⟨fin,rfl⟩)
   case measure=>simp[intOf];omega
def dS(gp:Nat)(G:Gh)(n:Nat)(g':GV)(w w':World):Prop:=∃ G':Gh,IsG w' gp G' n g'∧Moved (fpG gp G n) w (fpG gp G' n) w'
theorem KU(s:ByteArray)(k:Nat):s.extract (16*k) (16*k+16)=bytesOf (chunk s k):=by
 have h:=BG s k
 rw[show k*16=16*k by omega,show(k+1)*16=16*k+16 by omega] at h
 rw[← pY (s.extract (16*k) (16*k+16)),h]
theorem wP(s:ByteArray)(k:Nat)(w:World)(hk:16*k+16≤s.size)(hs:s.size≤100000) :
  Calls Tryz.prog 144 #[.string s,.int .i64 (k:Int)] w fun e w'=>e=.returned (.string (bytesOf (chunk s k)))∧w'=w:=by
 have HX:Hid (s.extract (16*k) (16*k+16)=bytesOf (chunk s k)):=KU s k
 generalize bytesOf (chunk s k)=T at HX ⊢
 have k2:16*(k:Int)+16≤(s.size:Int):=by omega
 have k3:(0:Int)≤16*(k:Int):=by omega
 have k4:(0:Int)≤16*(k:Int)+16:=by omega
 have k5:(16*(k:Int)).toNat=16*k:=by omega
 have k6:(16*(k:Int)+16).toNat=16*k+16:=by omega
 have k7:IntKind.i64.wrap (16*(k:Int))=16*(k:Int):=IntWalk.i64_in _ (by omega)
 have k9:IntKind.i64.wrap (16*(k:Int)+16)=16*(k:Int)+16:=IntWalk.i64_in _ (by omega)
 have k11:16*(k:Int)≤16*(k:Int)+16:=by omega
 go_enter Tryz.func144,Tryz.ntmps144
 go_wp2
 go_ret
 exact⟨by rw[← HX.out];rfl,rfl⟩
def jh(s:ByteArray)(now:Nat→Rw)(k:Nat):Nat→Rw:=fun i=>if i<k then [chunk s i] else now i
theorem Ap(s:ByteArray)(now:Nat→Rw)(k:Nat):gJ (jh s now k) k [chunk s k]=jh s now (k+1):=by
 funext i
 unfold gJ jh
 by_cases e:i=k
 ·rw[if_pos e,if_pos (by omega),e]
 ·rw[if_neg e]
  by_cases h:i<k
  ·rw[if_pos h,if_pos (by omega)]
  ·rw[if_neg h,if_neg (by omega)]
theorem Ld{gp n:Nat}{G:Gh}{g:GV}(s:ByteArray)(w:World)(h:IsG w gp G n g)(hn:n≤1000)(hs:s.size=16*n)(hin:∀ k,k<n→chunk s k∈g.now k)(hlen:∀ k,k<n→(g.now k).length≤1000) :
  Calls Tryz.prog 45 #[.pointer (some ⟨gp,0,none⟩),.string s] w fun e w'=>e=.returned (.bool true)∧dS gp G n { g with now:=jh s g.now n } w w':=by
 have HST:Hid (dS gp G n { g with now:=jh s g.now 0 } w w):=⟨G,by
  have:jh s g.now 0=g.now:=by funext i;unfold jh;rw[if_neg (by omega)]
  rw[this];exact h,Moved.refl _ _⟩
 have HSH:Hid (∀(k:Nat) (W:World),dS gp G n { g with now:=jh s g.now k } w W→∃ a cap,W.cell? ⟨gp,0,none⟩=some (.slice a n cap)):=fun k W ⟨G1,h1,_⟩=>by
  obtain⟨a,cap,e⟩:=ownsRow_shape h1.now.own
  exact⟨a,cap,by rw[h1.cells.1,e]⟩
 have HRD:Hid (∀(k:Nat) (W:World),k<n→dS gp G n { g with now:=jh s g.now k } w W→∃(b cap:Nat) (v:Value),W.cell? ⟨gp,0,none⟩=some (.slice (some ⟨b,0,none⟩) n cap)∧W.cell? ⟨b,k,none⟩=some v∧b<W.heap.size∧W.frozen? ⟨b,k,none⟩=false ∧
   (Calls Tryz.prog 145 #[v,.string (bytesOf (chunk s k))] W fun e w'=>e=.returned (.bool true)∧w'=W) ∧
   (gp<W.heap.size)∧dS gp G n { g with now:=jh s g.now (k+1) } w ((W.setCell ⟨b,k,none⟩ (.slice (some ⟨W.heap.size,0,none⟩) 1 1)).alloc (.cells #[.string (bytesOf (chunk s k))] 9))):=fun k W hk ⟨G1,h1,h2⟩=>by
  obtain⟨b,cap,e1,e2,e3⟩:=h1.now.cell hk
  have hrow:=h1.now.row k hk
  have er:jh s g.now k k=g.now k:=by unfold jh;rw[if_neg (by omega)]
  rw[show({ g with now:=jh s g.now k }:GV).now k=g.now k from er] at hrow
  obtain⟨h3,h4⟩:=h1.Af hk e1 (chunk s k)
  have hbl:b<W.heap.size:=h1.now.lt (.inl (by rw[e1];rfl))
  rw[World.setCell_alloc_past _ _ _ _ hbl] at h3 h4
  refine⟨b,cap,G1.rn k,by rw[h1.cells.1,e1],e2,hbl,e3,DJ (chunk s k) W hrow (hin k hk) (hlen k hk),lt_of_some h1.blk,_,?_,h2.trans h4⟩
  rw[← Ap];exact h3
 have HSE:Hid (∀(k:Nat) (W:World),k<n→Calls Tryz.prog 144 #[.string s,.int .i64 (k:Int)] W fun e w'=>e=.returned (.string (bytesOf (chunk s k)))∧w'=W):=fun k W hk=>wP s k W (by omega) (by omega)
 obtain⟨a0,cap0,c0⟩:=HSH.out 0 w HST.out
 clear h hin hlen
 have g1:((s.size:Int) != 16*(n:Int))=false:=by simp;omega
 have k1:IntKind.i64.wrap (16*(n:Int))=16*(n:Int):=IntWalk.i64_in _ (by omega)
 go_enter Tryz.func45,Tryz.ntmps45
 go_wp2
 go_loopw [5] (fun i wr=>∃ k:Nat,k≤n∧i=.int .i64 (k:Int)∧dS gp G n { g with now:=jh s g.now k } w wr) (fun i _=>n-(intOf i).toNat)
 case atStart=>exact⟨0,Nat.zero_le _,rfl,HST.out⟩
 case round =>
  obtain⟨k,hk,rfl,hd⟩:=hrel
  by_cases hlt:k<n
  ·obtain⟨b,cap,v,q0,q1,q2,q3,hh,q5,hx⟩:=HRD.out k wr hlt hd
   have HH:=ah hh
   have HX:=ah hx
   have HS:=ah (HSE.out k wr hlt)
   clear hh hx hd c0
   generalize bytesOf (chunk s k)=T at HH HX HS
   have k0:(0:Int)≤(k:Int):=by omega
   have kn:(k:Int)<(n:Int):=by omega
   have k2:((k:Int)).toNat=k:=by omega
   go_wp2_with fail
   refine HS.out.mono ?_
   rintro e w' ⟨rfl,hw⟩
   have hw':=hw.symm
   subst hw'
   clear hw HS
   go_wp2_with fail
   refine HH.out.mono ?_
   rintro e w' ⟨rfl,hw⟩
   have hw':=hw.symm
   subst hw'
   clear hw HH
   go_wp2
   refine⟨⟨k+1,by omega,by simp,HX.out⟩,?_⟩
   simp only[intOf]
   omega
  ·have hkn:k=n:=by omega
   obtain⟨a,cap,q0⟩:=HSH.out k wr hd
   have kn:¬(k:Int)<(n:Int):=by omega
   rw[hkn] at hd
   have HD:=ah hd
   clear hd
   go_wp2
   go_ret
   exact⟨rfl,HD.out⟩
end Go.Proofs.YtonhoahnieoebabGreatDoor
namespace Go.Proofs.YtonhoahnieoebabGreatDoor
open Go.RowKit Go.Maps
structure YGd(B:Gd)(w0 w:World)(yp:Nat)(Y:Yh)(y:YV)(gp:Nat)(G:Gh)(n:Nat)(g:GV):Prop where
 dh:ay w yp Y y
 guest:IsG w gp G n g
 apart:∀ k,fpY yp Y y k→¬fpG gp G n k
 job:Apart Y.jb.a (fpG gp G n)
 jobL:∀ q o,Y.jb.a=some ⟨q,o,none⟩→q<w.heap.size
 offY:∀ k,fpY yp Y y k→¬B.g k
 offG:∀ k,fpG gp G n k→¬B.g k
 kept:Kept (fun k=>¬B.g k) w0 w
 top:B.top≤w0.heap.size
theorem YGd.U5{B:Gd}{w0 w:World}{yp gp n:Nat}{Y:Yh}{y:YV}{G:Gh}{g:GV}(h:YGd B w0 w yp Y y gp G n g):B.top≤w.heap.size:=Nat.le_trans h.top h.kept.size
theorem YGd.below{B:Gd}{w0 w w':World}{yp gp n:Nat}{Y:Yh}{y:YV}{G:Gh}{g:GV}(h:YGd B w0 w yp Y y gp G n g)(hb:Below w.heap.size w w'):YGd B w0 w' yp Y y gp G n g :=
 ⟨h.dh.below hb,h.guest.below hb,h.apart,h.job,fun q o e=>Nat.lt_of_lt_of_le (h.jobL q o e) hb.size,h.offY,h.offG,h.kept.trans (Below.kept hb),h.top⟩
theorem YGd.xX{B:Gd}{w0 w w':World}{yp gp n:Nat}{Y:Yh}{y y':YV}{G:Gh}{g:GV}(h:YGd B w0 w yp Y y gp G n g)(hd:iJ yp Y y y' w w'):∃ Y',YGd B w0 w' yp Y' y' gp G n g:=by
 obtain⟨Y',h1,h2,h3⟩:=hd
 refine⟨Y',h2,h.guest.beside h3 (fun k hk e=>h.apart k e hk),fun k hk hg=>?_,fun q o e hg=>?_,fun q o e=>?_,fun k hk=>?_,h.offG,h.kept.trans (h3.kept.mono fun k _ hk=>h.offY k hk),h.top⟩
 ·rcases h3.new k hk with e|e
  ·exact h.apart k e hg
  ·have:=h.guest.lt hg;omega
 ·rcases h1 with e1|e1
  ·exact h.job q o (by rw[← e1];exact e) hg
  ·have:=h.guest.lt hg;have:=(e1 q o e).1;omega
 ·rcases h1 with e1|e1
  ·exact Nat.lt_of_lt_of_le (h.jobL q o (by rw[← e1];exact e)) h3.size
  ·exact(e1 q o e).2
 ·rcases h3.new k hk with e|e
  ·exact h.offY k e
  ·exact B.fresh h.U5 e
theorem YGd.uV{B:Gd}{w0 w w':World}{yp gp n:Nat}{Y:Yh}{y:YV}{G:Gh}{g g':GV}(h:YGd B w0 w yp Y y gp G n g)(hd:dS gp G n g' w w'):∃ G',YGd B w0 w' yp Y y gp G' n g':=by
 obtain⟨G',h2,h3⟩:=hd
 refine⟨G',h.dh.beside h3 (fun k hk e=>h.apart k hk e) h.job,h2,fun k hk hg=>?_,fun q o e hg=>?_,fun q o e=>Nat.lt_of_lt_of_le (h.jobL q o e) h3.size,h.offY,fun k hk=>?_,h.kept.trans (h3.kept.mono fun k _ hk=>h.offG k hk),h.top⟩
 ·rcases h3.new k hg with e|e
  ·exact h.apart k hk e
  ·have:=h.dh.iY hk;omega
 ·rcases h3.new q hg with e2|e2
  ·exact h.job q o e e2
  ·have:=h.jobL q o e;omega
 ·rcases h3.new k hk with e|e
  ·exact h.offG k e
  ·exact B.fresh h.U5 e
theorem YGd.at{B:Nat}{w0 w:World}{yp gp n:Nat}{Y:Yh}{y:YV}{G:Gh}{g:GV}(hY:ay w yp Y y)(hG:IsG w gp G n g)(ha:∀ k,fpY yp Y y k→¬fpG gp G n k)(hj:Apart Y.jb.a (fpG gp G n))(hl:∀ q o,Y.jb.a=some ⟨q,o,none⟩→q<w.heap.size)
  (bY:∀ k,fpY yp Y y k→B≤k) (bG:∀ k,fpG gp G n k→B≤k) (hb:Below B w0 w) (hs:B≤w0.heap.size):YGd B w0 w yp Y y gp G n g :=
 ⟨hY,hG,ha,hj,hl,fun k hk e=>absurd (show k<B from e) (Nat.not_lt.2 (bY k hk)),fun k hk e=>absurd (show k<B from e) (Nat.not_lt.2 (bG k hk)),⟨hb.os,hb.tape,hb.output,hb.size,fun k _ hk=>hb.block k (Classical.byContradiction fun e=>hk fun e2=>e e2)⟩,hs⟩
theorem YGd.size{B:Nat}{w0 w:World}{yp gp n:Nat}{Y:Yh}{y:YV}{G:Gh}{g:GV}(h:YGd B w0 w yp Y y gp G n g):B≤w0.heap.size:=h.top
theorem YGd.sizes{B:Nat}{w0 w:World}{yp gp n:Nat}{Y:Yh}{y:YV}{G:Gh}{g:GV}(h:YGd B w0 w yp Y y gp G n g):B≤w.heap.size:=h.U5
theorem YGd.bG{B:Nat}{w0 w:World}{yp gp n:Nat}{Y:Yh}{y:YV}{G:Gh}{g:GV}(h:YGd B w0 w yp Y y gp G n g):∀ k,fpG gp G n k→B≤k:=fun k hk=>Nat.not_lt.1 (h.offG k hk)
theorem YGd.bel{B:Nat}{w0 w:World}{yp gp n:Nat}{Y:Yh}{y:YV}{G:Gh}{g:GV}(h:YGd B w0 w yp Y y gp G n g):Below B w0 w:=h.kept.below h.size fun _ hk=>Nat.not_lt.1 hk
attribute [local go_sem ↓] Go.wp_at_zero Go.wp_at_succ
theorem AB:(Tryz.prog.info? 9).map (fun i=>(i.zero,i.size,i.bytes))=some (some (.string ⟨#[]⟩),1,16):=by kernel_rfl
theorem IsG.KN{w w1 w2:World}{gp:Nat}{G:Gh}{n:Nat}{g:GV}(h:IsG w gp G n g){i b cap:Nat}(hi:i<n)(hv:G.vn=.slice (some ⟨b,0,none⟩) n cap)(hb:Below w.heap.size w w1){r:Option Nat}(hg:w1.grownBy w2 r)(hr:∀ k,r=some k→(G.rn i).ownBlock=some k){u:Value}{l:Rw}(ho:w2.ownsRow 0 9 1 u l.length (flS l))(hu:∀ k,u.ownBlock=some k→(G.rn i).ownBlock=some k∨w.heap.size≤k) :
  (w2.cell? ⟨b,i,none⟩=some (G.rn i)∧w2.frozen? ⟨b,i,none⟩=false)∧IsG (w2.setCell ⟨b,i,none⟩ u) gp { G with rn:=eu G.rn i u } n { g with now:=gJ g.now i l }∧Moved (fpG gp G n) w (fpG gp { G with rn:=eu G.rn i u } n) (w2.setCell ⟨b,i,none⟩ u):=by
 have hk:Kept (fun k=>(G.rn i).ownBlock=some k) w w2:=Kept.grown (Below.kept hb) hg fun k e=>.inl (hr k e)
 have hbb:G.vn.ownBlock=some b:=by rw[hv];rfl
 have hblk:=hk.block b (h.now.lt (.inl hbb)) (fun e=>h.now.vk hi e hbb)
 obtain⟨b',cap',e1,e2,e3⟩:=h.now.cell hi
 rw[hv] at e1
 cases e1
 exact⟨⟨(World.cell?_of_block hblk).trans e2,(World.frozen?_of_block hblk).trans e3⟩,h.CW hi hv hk ho hu⟩
theorem IsG.FK{w w1 w2:World}{gp:Nat}{G:Gh}{n:Nat}{g:GV}(h:IsG w gp G n g){i b cap:Nat}(hi:i<n)(hv:G.vc=.slice (some ⟨b,0,none⟩) n cap)(hb:Below w.heap.size w w1){r:Option Nat}(hg:w1.grownBy w2 r)(hr:∀ k,r=some k→(G.rc i).ownBlock=some k){u:Value}{l:Rw}(ho:w2.ownsRow 0 9 1 u l.length (flS l))(hu:∀ k,u.ownBlock=some k→(G.rc i).ownBlock=some k∨w.heap.size≤k) :
  (w2.cell? ⟨b,i,none⟩=some (G.rc i)∧w2.frozen? ⟨b,i,none⟩=false)∧IsG (w2.setCell ⟨b,i,none⟩ u) gp { G with rc:=eu G.rc i u } n { g with cr:=gJ g.cr i l }∧Moved (fpG gp G n) w (fpG gp { G with rc:=eu G.rc i u } n) (w2.setCell ⟨b,i,none⟩ u):=by
 have hk:Kept (fun k=>(G.rc i).ownBlock=some k) w w2:=Kept.grown (Below.kept hb) hg fun k e=>.inl (hr k e)
 have hbb:G.vc.ownBlock=some b:=by rw[hv];rfl
 have hblk:=hk.block b (h.cr.lt (.inl hbb)) (fun e=>h.cr.vk hi e hbb)
 obtain⟨b',cap',e1,e2,e3⟩:=h.cr.cell hi
 rw[hv] at e1
 cases e1
 exact⟨⟨(World.cell?_of_block hblk).trans e2,(World.frozen?_of_block hblk).trans e3⟩,h.CJ hi hv hk ho hu⟩
def kL(g:GV)(k:Nat):GV:={ g with cr:=fun i=>if i<k then g.now i else g.cr i }
theorem Qz(g:GV)(k:Nat):gJ (kL g k).cr k (g.now k)=(kL g (k+1)).cr:=by
 funext i
 show(if i=k then g.now k else (if i<k then g.now i else g.cr i))=(if i<k+1 then g.now i else g.cr i)
 by_cases e:i=k
 ·rw[if_pos e,if_pos (by omega),e]
 ·rw[if_neg e]
  by_cases h:i<k
  ·rw[if_pos h,if_pos (by omega)]
  ·rw[if_neg h,if_neg (by omega)]
theorem TD(g:GV)(k:Nat):({ kL g k with cr:=gJ (kL g k).cr k (g.now k) }:GV)=kL g (k+1):=by
 rw[Qz];rfl
theorem MB{gp n:Nat}{G:Gh}{g:GV}(w:World)(h:IsG w gp G n g)(hn:n≤1000)(hne:∀ k,k<n→g.now k≠[])(hlen:∀ k,k<n→(g.now k).length≤1000) :
  Calls Tryz.prog 142 #[.pointer (some ⟨gp,0,none⟩)] w fun e w'=>e=.returned (.tuple #[])∧dS gp G n (kL g n) w w':=by
 obtain⟨i2,hi2,hy0,hy1,hy2⟩:=info_parts AB
 have HST:Hid (dS gp G n (kL g 0) w w):=⟨G,by
  have:kL g 0=g:=by
   unfold kL
   have:(fun i=>if i<0 then g.now i else g.cr i)=g.cr:=by funext i;rw[if_neg (by omega)]
   rw[this]
  rw[this];exact h,Moved.refl _ _⟩
 have HSH:Hid (∀(k:Nat) (W:World),dS gp G n (kL g k) w W→∃ a cap,W.cell? ⟨gp,0,none⟩=some (.slice a n cap)):=fun k W ⟨G1,h1,_⟩=>by
  obtain⟨a,cap,e⟩:=ownsRow_shape h1.now.own
  exact⟨a,cap,by rw[h1.cells.1,e]⟩
 have HRD:Hid (∀(k:Nat) (W:World),k<n→dS gp G n (kL g k) w W→∃(bn cn bc cc rb rc:Nat) (v:Value),W.cell? ⟨gp,0,none⟩=some (.slice (some ⟨bn,0,none⟩) n cn)∧W.cell? ⟨gp,1,none⟩=some (.slice (some ⟨bc,0,none⟩) n cc)∧W.cell? ⟨bn,k,none⟩=some (.slice (some ⟨rb,0,none⟩) (g.now k).length rc) ∧
   (∀ j u,(flS (g.now k))[j]?=some u→W.cell? ((⟨rb,0,none⟩:Addr).add j)=some u) ∧
   ∀(w1 w2:World) (g' cap':Nat),Below W.heap.size W w1→w1.grownBy w2 none→w2.ownsRow 0 9 1 (.slice (some ⟨g',0,none⟩) (g.now k).length cap') (g.now k).length (flS (g.now k))→W.heap.size≤g' →
    (∃ v,w2.cell? ⟨bc,k,none⟩=some v)∧w2.frozen? ⟨bc,k,none⟩=false∧w2.cell? ⟨gp,0,none⟩=some (.slice (some ⟨bn,0,none⟩) n cn)∧w2.cell? ⟨gp,1,none⟩=some (.slice (some ⟨bc,0,none⟩) n cc)∧dS gp G n (kL g (k+1)) w (w2.setCell ⟨bc,k,none⟩ (.slice (some ⟨g',0,none⟩) (g.now k).length cap'))):=fun k W hk ⟨G1,h1,h2⟩=>by
  obtain⟨bn,cn,e1,e2,e3⟩:=h1.now.cell hk
  obtain⟨bc,cc,f1,f2,f3⟩:=h1.cr.cell hk
  have hrow:=h1.now.row k hk
  rw[show(kL g k).now k=g.now k from rfl] at hrow
  obtain⟨rb,rc,q1,_,_⟩:=hrow.form (by have:=hne k hk;have:=List.length_pos_iff.2 this;omega)
  rw[q1] at e2
  refine⟨bn,cn,bc,cc,rb,rc,.nilIface,by rw[h1.cells.1,e1],by rw[h1.cells.2,f1],e2,fun j u hj=>hrow.cells (g:=rb) (by rw[q1];rfl) j u hj,fun w1 w2 g' cap' hb hg ho hg'=>?_⟩
  obtain⟨⟨a1,a2⟩,a3,a4⟩:=h1.FK hk f1 hb hg (fun k e=>by cases e) ho (fun b e=>.inr (by
   have:g'=b:=by simpa [Value.ownBlock] using e
   omega))
  have hgb:w2.heap[gp]?=W.heap[gp]?:=(hg.block gp (Nat.lt_of_lt_of_le (lt_of_some h1.blk) hb.size) (fun e=>by cases e)).trans (hb.block gp (lt_of_some h1.blk))
  refine⟨⟨_,a1⟩,a2,by rw[World.cell?_of_block hgb,h1.cells.1,e1],by rw[World.cell?_of_block hgb,h1.cells.2,f1],_,?_,h2.trans a4⟩
  rw[← TD];exact a3
 have HLN:Hid (∀ k,k<n→0<(g.now k).length∧(g.now k).length≤1000):=fun k hk=>⟨List.length_pos_iff.2 (hne k hk),hlen k hk⟩
 clear h hne hlen
 go_enter Tryz.func142,Tryz.ntmps142
 go_wp2
 go_loopw [2] (fun i wr=>∃ k:Nat,k≤n∧i=.int .i64 (k:Int)∧dS gp G n (kL g k) w wr) (fun i _=>n-(intOf i).toNat)
 case atStart=>exact⟨0,Nat.zero_le _,rfl,HST.out⟩
 case round =>
  obtain⟨k,hk,rfl,hd⟩:=hrel
  by_cases hlt:k<n
  ·obtain⟨bn,cn,bc,cc,rb,rc,_,q0,q1,q2,hnw,hfin⟩:=HRD.out k wr hlt hd
   obtain⟨l0,l1⟩:=HLN.out k hlt
   have HNW:=ah hnw
   have HFI:=ah hfin
   clear hnw hfin hd HRD HSH HLN
   have HFL:Hid ((flS (g.now k)).length=(g.now k).length*1):=by unfold Hid;rw[UL];omega
   have HON:=ah (U1 (g.now k))
   generalize flS (g.now k)=fl at HNW HFI HFL HON
   generalize (g.now k).length=m at q2 HFI HFL l0 l1
   have k0:(0:Int)≤(k:Int):=by omega
   have kn:(k:Int)<(n:Int):=by omega
   have k2:((k:Int)).toNat=k:=by omega
   have k3:IntKind.i64.wrap ((k:Int)+1)=(k:Int)+1:=IntWalk.i64_in _ (by omega)
   have HMX:Hid (0+m≤maxLen):=by unfold Hid maxLen;omega
   have HBD:Hid (Below wr.heap.size wr wr.drew):=(Below.refl _ _).drew
   go_wp2
   go_region_law (refine step_append_lies _ (by rfl) _ _ 202 (by rfl) 0 9 i2 (.string ⟨#[]⟩) 1 16 Tryz.underlying202 hi2 hy0 hy1 hy2 rfl (by decide) (.slice none 0 0) 0 [] (by rfl) (World.ownsRow_nil _ _ _ _) ⟨rb,0,none⟩ m rc fl (by rfl) HFL.out HNW.out HON.out l0 HMX.out (by omega) (Nat.zero_le _) wr.heap.size (by rfl) ?_;intro g' cap' w2 hown hgrow hat hlt2;rw[Nat.zero_add,List.nil_append] at hown;obtain⟨⟨v,p0⟩,p1,p2,p3,hx⟩:=HFI.out _ w2 g' cap' HBD.out hgrow hown (by rcases hat with e|e;cases e;omega);have HX:=ah hx;clear hx hown hgrow hat hlt2)
   all_goals
    go_wp2
    refine⟨⟨k+1,by omega,by simp,?_⟩,?_⟩
    ·first|exact HX.out|(rw[Nat.zero_add];exact HX.out)
    ·simp only[intOf]
     omega
  ·have hkn:k=n:=by omega
   obtain⟨a,cap,q0⟩:=HSH.out k wr hd
   have kn:¬(k:Int)<(n:Int):=by omega
   rw[hkn] at hd
   have HD:=ah hd
   clear hd
   go_wp2
   go_end0
   exact⟨rfl,HD.out⟩
def kV(g:GV)(fr:Nat)(s:ByteArray)(well:Bool)(k:Nat):Nat→Rw:=fun i=>if fr≤i∧i<fr+k then (if well=true then [chunk s (i-fr)] else g.now i++[chunk s (i-fr)]) else g.now i
def jy(g:GV)(fr:Nat)(s:ByteArray)(k:Nat):Nat→Rw:=fun i=>if fr≤i∧i<fr+k then g.cr i++[chunk s (i-fr)] else g.cr i
def dR(g:GV)(fr:Nat)(s:ByteArray)(well:Bool)(k j:Nat):GV:=⟨kV g fr s well k,jy g fr s j⟩
theorem Ci(g:GV)(fr:Nat)(s:ByteArray)(well:Bool)(k:Nat):gJ (kV g fr s well k) (fr+k) (if well=true then [chunk s k] else g.now (fr+k)++[chunk s k])=kV g fr s well (k+1):=by
 funext i
 unfold gJ kV
 by_cases e:i=fr+k
 ·subst e
  rw[if_pos rfl,if_pos (show fr≤fr+k∧fr+k<fr+(k+1) by omega),show fr+k-fr=k by omega]
 ·rw[if_neg e]
  by_cases h:fr≤i∧i<fr+k
  ·rw[if_pos h,if_pos (show fr≤i∧i<fr+(k+1) by omega)]
  ·rw[if_neg h,if_neg (show ¬(fr≤i∧i<fr+(k+1)) by omega)]
theorem ER(g:GV)(fr:Nat)(s:ByteArray)(k:Nat):gJ (jy g fr s k) (fr+k) (g.cr (fr+k)++[chunk s k])=jy g fr s (k+1):=by
 funext i
 unfold gJ jy
 by_cases e:i=fr+k
 ·subst e
  rw[if_pos rfl,if_pos (show fr≤fr+k∧fr+k<fr+(k+1) by omega),show fr+k-fr=k by omega]
 ·rw[if_neg e]
  by_cases h:fr≤i∧i<fr+k
  ·rw[if_pos h,if_pos (show fr≤i∧i<fr+(k+1) by omega)]
  ·rw[if_neg h,if_neg (show ¬(fr≤i∧i<fr+(k+1)) by omega)]
theorem SC(g:GV)(fr:Nat)(s:ByteArray)(well:Bool)(k:Nat):kV g fr s well k (fr+k)=g.now (fr+k):=by unfold kV;rw[if_neg (by omega)]
theorem Gi(g:GV)(fr:Nat)(s:ByteArray)(k:Nat):jy g fr s k (fr+k)=g.cr (fr+k):=by unfold jy;rw[if_neg (by omega)]
theorem Eh(l:Rw)(t:List UInt8):flS (l++[t])=flS l++[.string (bytesOf t)]:=by simp[flS]
theorem uZ(w:World)(v:Value)(t:TypeId):∀ j u,[v][j]?=some u→(w.alloc (.cells #[v] t)).cell? ((⟨w.heap.size,0,none⟩:Addr).add j)=some u:=by
 intro j u hj
 cases j with
 | zero =>
  have hu:v=u:=by simpa using hj
  subst hu
  show(w.alloc (.cells #[v] t)).cell? ⟨w.heap.size,0,none⟩=_
  rw[cell_of_row _ _ _ _ _ _ (heap_alloc_new w _)];rfl
 | succ j=>simp at hj
structure tX(gp n c i:Nat)(T:ByteArray)(W:World)(b cap m:Nat)(v:Value)(xs:List Value)(P:World→Prop):Prop where
 tab:W.cell? ⟨gp,c,none⟩=some (.slice (some ⟨b,0,none⟩) n cap)
 elem:W.cell? ⟨b,i,none⟩=some v
 lts:gp<W.heap.size∧b<W.heap.size
 row:W.ownsRow 0 9 1 v m xs
 few:m≤1000
 fin:∀(w1 w2:World) (g' cap':Nat),Below W.heap.size W w1→w1.grownBy w2 v.ownBlock→w2.ownsRow 0 9 1 (.slice (some ⟨g',0,none⟩) (m+1) cap') (m+1) (xs++[.string T])→(v.ownBlock=some g'∨W.heap.size≤g') →
  (∃ u,w2.cell? ⟨b,i,none⟩=some u)∧w2.frozen? ⟨b,i,none⟩=false∧w2.cell? ⟨gp,c,none⟩=some (.slice (some ⟨b,0,none⟩) n cap)∧P (w2.setCell ⟨b,i,none⟩ (.slice (some ⟨g',0,none⟩) (m+1) cap'))
theorem IsG.SQ{w W:World}{gp:Nat}{G G1:Gh}{n i:Nat}{g1:GV}(h1:IsG W gp G1 n g1)(h2:Moved (fpG gp G n) w (fpG gp G1 n) W)(hi:i<n)(t:List UInt8)(hl:(g1.now i).length≤1000) :
  ∃(b cap:Nat),tX gp n 0 i (bytesOf t) W b cap (g1.now i).length (G1.rn i) (flS (g1.now i)) (dS gp G n { g1 with now:=gJ g1.now i (g1.now i++[t]) } w):=by
 obtain⟨b,cap,e1,e2,e3⟩:=h1.now.cell hi
 have hbl:b<W.heap.size:=h1.now.lt (.inl (by rw[e1];rfl))
 refine⟨b,cap,⟨by rw[h1.cells.1,e1],e2,⟨lt_of_some h1.blk,hbl⟩,h1.now.row i hi,hl,fun w1 w2 g' cap' hb hg ho hat=>?_⟩⟩
 obtain⟨⟨a1,a2⟩,a3,a4⟩:=h1.KN hi e1 hb hg (fun k e=>e) (l:=g1.now i++[t]) (by rw[List.length_append,Eh];exact ho) (fun k e=>by
  have e4:g'=k:=by simpa [Value.ownBlock] using e
  rw[← e4];exact hat)
 have hgb:w2.heap[gp]?=W.heap[gp]?:=(hg.block gp (Nat.lt_of_lt_of_le (lt_of_some h1.blk) hb.size) (fun e=>h1.rW.1 (.inr ⟨i,hi,e.symm⟩))).trans (hb.block gp (lt_of_some h1.blk))
 exact⟨⟨_,a1⟩,a2,by rw[World.cell?_of_block hgb,h1.cells.1,e1],_,a3,h2.trans a4⟩
theorem IsG.Fq{w W:World}{gp:Nat}{G G1:Gh}{n i:Nat}{g1:GV}(h1:IsG W gp G1 n g1)(h2:Moved (fpG gp G n) w (fpG gp G1 n) W)(hi:i<n)(t:List UInt8)(hl:(g1.cr i).length≤1000) :
  ∃(b cap:Nat),tX gp n 1 i (bytesOf t) W b cap (g1.cr i).length (G1.rc i) (flS (g1.cr i)) (dS gp G n { g1 with cr:=gJ g1.cr i (g1.cr i++[t]) } w):=by
 obtain⟨b,cap,e1,e2,e3⟩:=h1.cr.cell hi
 have hbl:b<W.heap.size:=h1.cr.lt (.inl (by rw[e1];rfl))
 refine⟨b,cap,⟨by rw[h1.cells.2,e1],e2,⟨lt_of_some h1.blk,hbl⟩,h1.cr.row i hi,hl,fun w1 w2 g' cap' hb hg ho hat=>?_⟩⟩
 obtain⟨⟨a1,a2⟩,a3,a4⟩:=h1.FK hi e1 hb hg (fun k e=>e) (l:=g1.cr i++[t]) (by rw[List.length_append,Eh];exact ho) (fun k e=>by
  have e4:g'=k:=by simpa [Value.ownBlock] using e
  rw[← e4];exact hat)
 have hgb:w2.heap[gp]?=W.heap[gp]?:=(hg.block gp (Nat.lt_of_lt_of_le (lt_of_some h1.blk) hb.size) (fun e=>h1.rW.2 (.inr ⟨i,hi,e.symm⟩))).trans (hb.block gp (lt_of_some h1.blk))
 exact⟨⟨_,a1⟩,a2,by rw[World.cell?_of_block hgb,h1.cells.2,e1],_,a3,h2.trans a4⟩
theorem KI{gp n:Nat}{G:Gh}{g:GV}(fr N:Nat)(s:ByteArray)(w:World)(h:IsG w gp G n g)(hn:n≤1000)(hs:s.size=16*N)(hN:fr+N≤n)(hlen:∀ k,k<n→(g.now k).length≤1000∧(g.cr k).length≤1000) :
  Calls Tryz.prog 141 #[.pointer (some ⟨gp,0,none⟩),.int .i64 (fr:Int),.string s,.bool true] w fun e w'=>e=.returned (.tuple #[])∧dS gp G n (dR g fr s true N N) w w':=by
 obtain⟨i2,hi2,hy0,hy1,hy2⟩:=info_parts AB
 have HST:Hid (dS gp G n (dR g fr s true 0 0) w w):=⟨G,by
  have e1:kV g fr s true 0=g.now:=by funext i;unfold kV;rw[if_neg (by omega)]
  have e2:jy g fr s 0=g.cr:=by funext i;unfold jy;rw[if_neg (by omega)]
  unfold dR
  rw[e1,e2];exact h,Moved.refl _ _⟩
 have HSE:Hid (∀(k:Nat) (W:World),k<N→Calls Tryz.prog 144 #[.string s,.int .i64 (k:Int)] W fun e w'=>e=.returned (.string (bytesOf (chunk s k)))∧w'=W):=fun k W hk=>wP s k W (by omega) (by omega)
 have HW1:Hid (∀(k:Nat) (W:World),k<N→dS gp G n (dR g fr s true k k) w W→∃(b cap:Nat) (v:Value),W.cell? ⟨gp,0,none⟩=some (.slice (some ⟨b,0,none⟩) n cap)∧W.cell? ⟨b,fr+k,none⟩=some v∧b<W.heap.size∧W.frozen? ⟨b,fr+k,none⟩=false∧gp<W.heap.size ∧
   dS gp G n (dR g fr s true (k+1) k) w ((W.setCell ⟨b,fr+k,none⟩ (.slice (some ⟨W.heap.size,0,none⟩) 1 1)).alloc (.cells #[.string (bytesOf (chunk s k))] 9))):=fun k W hk ⟨G1,h1,h2⟩=>by
  obtain⟨b,cap,e1,e2,e3⟩:=h1.now.cell (show fr+k<n by omega)
  obtain⟨h3,h4⟩:=h1.Af (show fr+k<n by omega) e1 (chunk s k)
  have hbl:b<W.heap.size:=h1.now.lt (.inl (by rw[e1];rfl))
  rw[World.setCell_alloc_past _ _ _ _ hbl] at h3 h4
  refine⟨b,cap,_,by rw[h1.cells.1,e1],e2,hbl,e3,lt_of_some h1.blk,_,?_,h2.trans h4⟩
  have e5:=Ci g fr s true k
  rw[if_pos rfl] at e5
  unfold dR
  rw[← e5];exact h3
 have HC:Hid (∀(k:Nat) (W:World),k<N→dS gp G n (dR g fr s true (k+1) k) w W→∃(b cap m:Nat) (v:Value) (xs:List Value),tX gp n 1 (fr+k) (bytesOf (chunk s k)) W b cap m v xs (dS gp G n (dR g fr s true (k+1) (k+1)) w)):=fun k W hk ⟨G1,h1,h2⟩=>by
  have e4:(dR g fr s true (k+1) k).cr (fr+k)=g.cr (fr+k):=Gi g fr s k
  obtain⟨b,cap,hG⟩:=h1.Fq h2 (show fr+k<n by omega) (chunk s k) (by rw[e4];exact(hlen _ (by omega)).2)
  rw[e4] at hG
  refine⟨b,cap,(g.cr (fr+k)).length,G1.rc (fr+k),flS (g.cr (fr+k)),?_⟩
  have e6:({ dR g fr s true (k+1) k with cr:=gJ (dR g fr s true (k+1) k).cr (fr+k) (g.cr (fr+k)++[chunk s k]) }:GV)=dR g fr s true (k+1) (k+1):=by
   unfold dR
   show GV.mk _ (gJ (jy g fr s k) (fr+k) (g.cr (fr+k)++[chunk s k]))=_
   rw[ER]
  rw[← e6];exact hG
 clear h hlen
 go_enter Tryz.func141,Tryz.ntmps141
 go_wp2
 go_loopw [8] (fun i wr=>∃ k:Nat,k≤N∧i=.int .i64 (k:Int)∧dS gp G n (dR g fr s true k k) w wr) (fun i _=>N-(intOf i).toNat)
 case atStart=>exact⟨0,Nat.zero_le _,rfl,HST.out⟩
 case round =>
  obtain⟨k,hk,rfl,hd⟩:=hrel
  have k9:IntKind.i64.wrap (16*(k:Int))=16*(k:Int):=IntWalk.i64_in _ (by omega)
  by_cases hlt:k<N
  ·have HS:=ah (HSE.out k wr hlt)
   have HC1:=ah (fun W hd=>HC.out k W hlt hd)
   have kl:decide (16*(k:Int)<(s.size:Int))=true:=decide_eq_true (by omega)
   have ki:IntKind.i64.wrap ((fr:Int)+(k:Int))=(fr:Int)+(k:Int):=IntWalk.i64_in _ (by omega)
   have k0:(0:Int)≤(fr:Int)+(k:Int):=by omega
   have kn:(fr:Int)+(k:Int)<(n:Int):=by omega
   have k2:((fr:Int)+(k:Int)).toNat=fr+k:=by omega
   have k3:IntKind.i64.wrap ((k:Int)+1)=(k:Int)+1:=IntWalk.i64_in _ (by omega)
   obtain⟨b,cap,v,q0,q1,q2,q3,q5,hx⟩:=HW1.out k wr hlt hd
   have HX:=ah (HC1.out _ hx)
   clear hd hx HSE HC HC1 HW1 HST
   generalize hT:bytesOf (chunk s k)=T at HX HS
   go_wp2_with fail
   refine HS.out.mono ?_
   rintro e w' ⟨rfl,hw'⟩
   have hw2:=hw'.symm
   subst hw2
   clear hw' HS
   go_wp2
   generalize hW:(wr.setCell ⟨b,fr+k,none⟩ (.slice (some ⟨wr.heap.size,0,none⟩) 1 1)).alloc (.cells #[.string T] 9)=W1 at HX ⊢
   obtain⟨bC,capC,mC,vC,xsC,hGC⟩:=HX.out
   have HGC:=ah hGC
   clear HX hGC hW q0 q1 q2 q3 q5
   have HROW1:Hid ((W1.drew.alloc (.cells #[.string T] 9)).ownsRow 0 9 1 vC mC xsC):=(dB HGC.out.row (fun _ _=>rfl)).alloc _
   have HMCC:Hid (mC+1≤maxLen):=by unfold Hid maxLen;have:=HGC.out.few;omega
   have HBDC:Hid (Below W1.heap.size W1 (W1.drew.alloc (.cells #[.string T] 9))):=(Below.refl _ _).drew.alloc (Nat.le_refl _) _
   have hfewC:=HGC.out.few
   have HFIC:=ah HGC.out.fin
   have tC:=HGC.out.tab
   have eC:=HGC.out.elem
   obtain⟨lC,bC'⟩:=HGC.out.lts
   have d1C:W1.drew.cell? ⟨gp,1,none⟩=some (.slice (some ⟨bC,0,none⟩) n capC):=tC
   have d2C:W1.drew.cell? ⟨bC,fr+k,none⟩=some vC:=eC
   have d3C:(W1.drew.alloc (.cells #[.string T] 9)).cell? ⟨gp,1,none⟩=some (.slice (some ⟨bC,0,none⟩) n capC):=by rw[World.cell?_alloc_past _ _ _ (show gp<W1.drew.heap.size from lC)];exact tC
   have d4C:(W1.drew.alloc (.cells #[.string T] 9)).cell? ⟨bC,fr+k,none⟩=some vC:=by rw[World.cell?_alloc_past _ _ _ (show bC<W1.drew.heap.size from bC')];exact eC
   clear HGC
   go_region_law (refine step_append_lies _ (by rfl) _ _ 202 (by rfl) 0 9 i2 (.string ⟨#[]⟩) 1 16 Tryz.underlying202 hi2 hy0 hy1 hy2 rfl (by decide) vC mC xsC (by rfl) HROW1.out ⟨W1.heap.size,0,none⟩ 1 1 [.string T] (by rfl) (by rfl) (uZ _ _ _) (fun u hu=>by simp at hu;subst hu;rfl) (by decide) HMCC.out (by omega) (Nat.zero_le _) (W1.heap.size+1) (by simp) ?_;intro gC capC2 wC hown hgrow hat hlt2;obtain⟨⟨uC,p0C⟩,p1C,p2C,hx⟩:=HFIC.out _ wC gC capC2 HBDC.out hgrow hown (by rcases hat with e|e;exact .inl e;exact .inr (by omega));have HD2:=ah hx;clear hx hown hgrow hat hlt2)
   all_goals
    go_wp2
    refine⟨⟨k+1,by omega,by simp,HD2.out⟩,?_⟩
    simp only[intOf]
    omega
  ·have hkn:k=N:=by omega
   have kl:decide (16*(k:Int)<(s.size:Int))=false:=decide_eq_false (by omega)
   rw[hkn] at hd
   have HD:=ah hd
   clear hd
   go_wp2
   go_end0
   exact⟨rfl,HD.out⟩
theorem JB{gp n:Nat}{G:Gh}{g:GV}(fr N:Nat)(s:ByteArray)(w:World)(h:IsG w gp G n g)(hn:n≤1000)(hs:s.size=16*N)(hN:fr+N≤n)(hlen:∀ k,k<n→(g.now k).length≤1000∧(g.cr k).length≤1000) :
  Calls Tryz.prog 141 #[.pointer (some ⟨gp,0,none⟩),.int .i64 (fr:Int),.string s,.bool false] w fun e w'=>e=.returned (.tuple #[])∧dS gp G n (dR g fr s false N N) w w':=by
 obtain⟨i2,hi2,hy0,hy1,hy2⟩:=info_parts AB
 have HST:Hid (dS gp G n (dR g fr s false 0 0) w w):=⟨G,by
  have e1:kV g fr s false 0=g.now:=by funext i;unfold kV;rw[if_neg (by omega)]
  have e2:jy g fr s 0=g.cr:=by funext i;unfold jy;rw[if_neg (by omega)]
  unfold dR
  rw[e1,e2];exact h,Moved.refl _ _⟩
 have HSE:Hid (∀(k:Nat) (W:World),k<N→Calls Tryz.prog 144 #[.string s,.int .i64 (k:Int)] W fun e w'=>e=.returned (.string (bytesOf (chunk s k)))∧w'=W):=fun k W hk=>wP s k W (by omega) (by omega)
 have HW2:Hid (∀(k:Nat) (W:World),k<N→dS gp G n (dR g fr s false k k) w W→∃(b cap m:Nat) (v:Value) (xs:List Value),tX gp n 0 (fr+k) (bytesOf (chunk s k)) W b cap m v xs (dS gp G n (dR g fr s false (k+1) k) w)):=fun k W hk ⟨G1,h1,h2⟩=>by
  have e4:(dR g fr s false k k).now (fr+k)=g.now (fr+k):=SC g fr s false k
  obtain⟨b,cap,hG⟩:=h1.SQ h2 (show fr+k<n by omega) (chunk s k) (by rw[e4];exact(hlen _ (by omega)).1)
  have e5:=Ci g fr s false k
  rw[if_neg (by decide)] at e5
  rw[e4] at hG
  refine⟨b,cap,(g.now (fr+k)).length,G1.rn (fr+k),flS (g.now (fr+k)),?_⟩
  have e6:({ dR g fr s false k k with now:=gJ (dR g fr s false k k).now (fr+k) (g.now (fr+k)++[chunk s k]) }:GV)=dR g fr s false (k+1) k:=by
   unfold dR
   show GV.mk (gJ (kV g fr s false k) (fr+k) (g.now (fr+k)++[chunk s k])) _=_
   rw[e5]
  rw[← e6];exact hG
 have HC:Hid (∀(k:Nat) (W:World),k<N→dS gp G n (dR g fr s false (k+1) k) w W→∃(b cap m:Nat) (v:Value) (xs:List Value),tX gp n 1 (fr+k) (bytesOf (chunk s k)) W b cap m v xs (dS gp G n (dR g fr s false (k+1) (k+1)) w)):=fun k W hk ⟨G1,h1,h2⟩=>by
  have e4:(dR g fr s false (k+1) k).cr (fr+k)=g.cr (fr+k):=Gi g fr s k
  obtain⟨b,cap,hG⟩:=h1.Fq h2 (show fr+k<n by omega) (chunk s k) (by rw[e4];exact(hlen _ (by omega)).2)
  rw[e4] at hG
  refine⟨b,cap,(g.cr (fr+k)).length,G1.rc (fr+k),flS (g.cr (fr+k)),?_⟩
  have e6:({ dR g fr s false (k+1) k with cr:=gJ (dR g fr s false (k+1) k).cr (fr+k) (g.cr (fr+k)++[chunk s k]) }:GV)=dR g fr s false (k+1) (k+1):=by
   unfold dR
   show GV.mk _ (gJ (jy g fr s k) (fr+k) (g.cr (fr+k)++[chunk s k]))=_
   rw[ER]
  rw[← e6];exact hG
 clear h hlen
 go_enter Tryz.func141,Tryz.ntmps141
 go_wp2
 go_loopw [8] (fun i wr=>∃ k:Nat,k≤N∧i=.int .i64 (k:Int)∧dS gp G n (dR g fr s false k k) w wr) (fun i _=>N-(intOf i).toNat)
 case atStart=>exact⟨0,Nat.zero_le _,rfl,HST.out⟩
 case round =>
  obtain⟨k,hk,rfl,hd⟩:=hrel
  have k9:IntKind.i64.wrap (16*(k:Int))=16*(k:Int):=IntWalk.i64_in _ (by omega)
  by_cases hlt:k<N
  ·have HS:=ah (HSE.out k wr hlt)
   have HC1:=ah (fun W hd=>HC.out k W hlt hd)
   have kl:decide (16*(k:Int)<(s.size:Int))=true:=decide_eq_true (by omega)
   have ki:IntKind.i64.wrap ((fr:Int)+(k:Int))=(fr:Int)+(k:Int):=IntWalk.i64_in _ (by omega)
   have k0:(0:Int)≤(fr:Int)+(k:Int):=by omega
   have kn:(fr:Int)+(k:Int)<(n:Int):=by omega
   have k2:((fr:Int)+(k:Int)).toNat=fr+k:=by omega
   have k3:IntKind.i64.wrap ((k:Int)+1)=(k:Int)+1:=IntWalk.i64_in _ (by omega)
   obtain⟨b0,cap0,m0,v0,xs0,hG0⟩:=HW2.out k wr hlt hd
   have HG0:=ah hG0
   clear hd hG0 HSE HC HW2 HST
   generalize hT:bytesOf (chunk s k)=T at HG0 HS HC1
   go_wp2_with fail
   refine HS.out.mono ?_
   rintro e w' ⟨rfl,hw'⟩
   have hw2:=hw'.symm
   subst hw2
   clear hw' HS
   go_upto_region 6 with fail
   go_cut [] from 10 to 70 (fun wx=>dS gp G n (dR g fr s false (k+1) k) w wx)
   case first =>
    clear HC1
    have HROwr:Hid ((wr.drew.alloc (.cells #[.string T] 9)).ownsRow 0 9 1 v0 m0 xs0):=(dB HG0.out.row (fun _ _=>rfl)).alloc _
    have HM00:Hid (m0+1≤maxLen):=by unfold Hid maxLen;have:=HG0.out.few;omega
    have HBD0:Hid (Below wr.heap.size wr (wr.drew.alloc (.cells #[.string T] 9))):=(Below.refl _ _).drew.alloc (Nat.le_refl _) _
    have hfew0:=HG0.out.few
    have HFI0:=ah HG0.out.fin
    have t0:=HG0.out.tab
    have e0:=HG0.out.elem
    obtain⟨l0,b0'⟩:=HG0.out.lts
    have d10:wr.drew.cell? ⟨gp,0,none⟩=some (.slice (some ⟨b0,0,none⟩) n cap0):=t0
    have d20:wr.drew.cell? ⟨b0,fr+k,none⟩=some v0:=e0
    have d30:(wr.drew.alloc (.cells #[.string T] 9)).cell? ⟨gp,0,none⟩=some (.slice (some ⟨b0,0,none⟩) n cap0):=by rw[World.cell?_alloc_past _ _ _ (show gp<wr.drew.heap.size from l0)];exact t0
    have d40:(wr.drew.alloc (.cells #[.string T] 9)).cell? ⟨b0,fr+k,none⟩=some v0:=by rw[World.cell?_alloc_past _ _ _ (show b0<wr.drew.heap.size from b0')];exact e0
    clear HG0
    go_region_law (refine step_append_lies _ (by rfl) _ _ 202 (by rfl) 0 9 i2 (.string ⟨#[]⟩) 1 16 Tryz.underlying202 hi2 hy0 hy1 hy2 rfl (by decide) v0 m0 xs0 (by rfl) HROwr.out ⟨wr.heap.size,0,none⟩ 1 1 [.string T] (by rfl) (by rfl) (uZ _ _ _) (fun u hu=>by simp at hu;subst hu;rfl) (by decide) HM00.out (by omega) (Nat.zero_le _) (wr.heap.size+1) (by simp) ?_;intro g0 cap02 w0 hown hgrow hat hlt2;obtain⟨⟨u0,p00⟩,p10,p20,hx⟩:=HFI0.out _ w0 g0 cap02 HBD0.out hgrow hown (by rcases hat with e|e;exact .inl e;exact .inr (by omega));have HX2:=ah hx;clear hx hown hgrow hat hlt2)
    all_goals
     go_wp2
     go_meet
     case rel=>exact HX2.out
   case rest =>
    have HX:=ah (HC1.out _ hcut)
    clear hcut HC1 HG0
    obtain⟨bC,capC,mC,vC,xsC,hGC⟩:=HX.out
    have HGC:=ah hGC
    clear HX hGC
    go_upto_region 7 with fail
    have HROwc:Hid ((wc.drew.alloc (.cells #[.string T] 9)).ownsRow 0 9 1 vC mC xsC):=(dB HGC.out.row (fun _ _=>rfl)).alloc _
    have HMCC:Hid (mC+1≤maxLen):=by unfold Hid maxLen;have:=HGC.out.few;omega
    have HBDC:Hid (Below wc.heap.size wc (wc.drew.alloc (.cells #[.string T] 9))):=(Below.refl _ _).drew.alloc (Nat.le_refl _) _
    have hfewC:=HGC.out.few
    have HFIC:=ah HGC.out.fin
    have tC:=HGC.out.tab
    have eC:=HGC.out.elem
    obtain⟨lC,bC'⟩:=HGC.out.lts
    have d1C:wc.drew.cell? ⟨gp,1,none⟩=some (.slice (some ⟨bC,0,none⟩) n capC):=tC
    have d2C:wc.drew.cell? ⟨bC,fr+k,none⟩=some vC:=eC
    have d3C:(wc.drew.alloc (.cells #[.string T] 9)).cell? ⟨gp,1,none⟩=some (.slice (some ⟨bC,0,none⟩) n capC):=by rw[World.cell?_alloc_past _ _ _ (show gp<wc.drew.heap.size from lC)];exact tC
    have d4C:(wc.drew.alloc (.cells #[.string T] 9)).cell? ⟨bC,fr+k,none⟩=some vC:=by rw[World.cell?_alloc_past _ _ _ (show bC<wc.drew.heap.size from bC')];exact eC
    clear HGC
    go_region_law (refine step_append_lies _ (by rfl) _ _ 202 (by rfl) 0 9 i2 (.string ⟨#[]⟩) 1 16 Tryz.underlying202 hi2 hy0 hy1 hy2 rfl (by decide) vC mC xsC (by rfl) HROwc.out ⟨wc.heap.size,0,none⟩ 1 1 [.string T] (by rfl) (by rfl) (uZ _ _ _) (fun u hu=>by simp at hu;subst hu;rfl) (by decide) HMCC.out (by omega) (Nat.zero_le _) (wc.heap.size+1) (by simp) ?_;intro gC capC2 wC hown hgrow hat hlt2;obtain⟨⟨uC,p0C⟩,p1C,p2C,hx⟩:=HFIC.out _ wC gC capC2 HBDC.out hgrow hown (by rcases hat with e|e;exact .inl e;exact .inr (by omega));have HD2:=ah hx;clear hx hown hgrow hat hlt2)
    all_goals
     go_wp2
     go_roundw
     case rel =>
      have fin:∃ k':Nat,k'≤N∧Value.int .i64 ((k:Int)+1)=.int .i64 k'∧dS gp G n (dR g fr s false k' k') w (wC.setCell ⟨bC,fr+k,none⟩ (.slice (some ⟨gC,0,none⟩) (mC+1) capC2)):=⟨k+1,by omega,by go_num,HD2.out⟩
      first|exact fin|((repeat apply Exists.intro);exact⟨fin,rfl⟩)
     case measure=>simp[intOf];omega
  ·have hkn:k=N:=by omega
   have kl:decide (16*(k:Int)<(s.size:Int))=false:=decide_eq_false (by omega)
   rw[hkn] at hd
   have HD:=ah hd
   clear hd
   go_wp2
   go_end0
   exact⟨rfl,HD.out⟩
theorem Bo{gp n:Nat}{G:Gh}{g:GV}(fr N:Nat)(s:ByteArray)(well:Bool)(w:World)(h:IsG w gp G n g)(hn:n≤1000)(hs:s.size=16*N)(hN:fr+N≤n)(hlen:∀ k,k<n→(g.now k).length≤1000∧(g.cr k).length≤1000) :
  Calls Tryz.prog 141 #[.pointer (some ⟨gp,0,none⟩),.int .i64 (fr:Int),.string s,.bool well] w fun e w'=>e=.returned (.tuple #[])∧dS gp G n (dR g fr s well N N) w w':=by
 cases well with
 | true=>exact KI fr N s w h hn hs hN hlen
 | false=>exact JB fr N s w h hn hs hN hlen
end Go.Proofs.YtonhoahnieoebabGreatDoor
