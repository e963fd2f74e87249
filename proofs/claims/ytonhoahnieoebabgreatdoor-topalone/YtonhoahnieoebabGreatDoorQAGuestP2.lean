/- What a sector of an image may be behind a crash: what it was at the last flush, or since (D2 to D4), in plain words. -/
import Derived.Test.YtonhoahnieoebabGreatDoorQACrashC
import Derived.Test.YtonhoahnieoebabGreatDoorQAYardP5
set_option maxHeartbeats 1000000
set_option maxRecDepth 100000
namespace Go.Proofs.YtonhoahnieoebabGreatDoor
open Go.RowKit
def IV.sh(v:IV)(k:Nat):List UInt8 :=
 if (v.t.getD (k / 4) (0,0)).1=2 then v.d.seen.getD (aI v.h (v.t.getD (k / 4) (0,0)).2.toNat+k % 4) []
 else if (v.t.getD (k / 4) (0,0)).1=1 then noughts else [45]
def Fits(v:IV)(may:Nat→List (List UInt8))(c:Nat)(e:Int × Int):Prop :=
 ∀ j,j<4→(e.1=0→[45]∈may (4*c+j))∧(e.1=1→noughts∈may (4*c+j)) ∧
  (e.1=2→(e.2.toNat∈v.held∨e=v.t.getD c (0,0))∧∀ s,v.d.ver (aI v.h e.2.toNat+j) s→s∈may (4*c+j))
structure Told(v:IV)(may:Nat→List (List UInt8)):Prop where
 vers:∀ c,c<v.t.length→∀ s,v.d.ver (1+c / 8) s→Fits v may c (jw (bytesOf s) (c % 8))
 now:∀ k,k<4*v.t.length→v.sh k∈may k
 held:∀ q∈v.held,∀ e∈v.t,e≠(2,(q:Int))
theorem CB{c j:Nat}(h:j<4):(4*c+j) / 4=c∧(4*c+j) % 4=j:=by omega
theorem xQ(v:IV)(c j:Nat)(h:j<4):v.sh (4*c+j)=if (v.t.getD c (0,0)).1=2 then v.d.seen.getD (aI v.h (v.t.getD c (0,0)).2.toNat+j) [] else if (v.t.getD c (0,0)).1=1 then noughts else [45]:=by
 unfold IV.sh;rw[(CB h).1,(CB h).2]
theorem Fits.mono{v:IV}{may may':Nat→List (List UInt8)}{c:Nat}{e:Int × Int}(h:Fits v may c e)(hm:∀ k s,s∈may k→s∈may' k):Fits v may' c e:=fun j hj =>
 ⟨fun h0=>hm _ _ ((h j hj).1 h0),fun h1=>hm _ _ ((h j hj).2.1 h1),fun h2=>⟨((h j hj).2.2 h2).1,fun s hs=>hm _ _ (((h j hj).2.2 h2).2 s hs)⟩⟩
theorem Told.mono{v:IV}{may may':Nat→List (List UInt8)}(h:Told v may)(hm:∀ k s,s∈may k→s∈may' k):Told v may' :=
 ⟨fun c hc s hs=>(h.vers c hc s hs).mono hm,fun k hk=>hm _ _ (h.now k hk),h.held⟩
theorem Fg{v:IV}{U:List (Int × Int)}{m:Nat}(hs:Safe v U)(hok:v.ok m){c:Nat}(hc:c<v.t.length):jw (bytesOf (v.d.seen.getD (1+c / 8) [])) (c % 8)=v.t.getD c (0,0):=by
 rw[hs.seen (c / 8) (kV hc),qB,uK hok.h hok.len (fun k=>hs.sub.bM hs.good k) (kV hc) (by omega),show c / 8*8+c % 8=c by omega]
theorem Told.cur{v:IV}{U:List (Int × Int)}{m:Nat}{may:Nat→List (List UInt8)}(h:Told v may)(hs:Safe v U)(hok:v.ok m){c:Nat}(hc:c<v.t.length):Fits v may c (v.t.getD c (0,0)):=by
 have:=h.vers c hc _ (AO hok.d.sn (1+c / 8))
 rw[Fg hs hok hc] at this;exact this
theorem yc{v:IV}{U:List (Int × Int)}{m:Nat}{may:Nat→List (List UInt8)}(hs:Safe v U)(hok:v.ok m)(hp:∀ i s,v.d.ver i s→s=v.d.seen.getD i [])(hh:v.held=[])(hn:∀ k,k<4*v.t.length→v.sh k∈may k):Told v may:=by
 refine⟨fun c hc s hv=>?_,hn,fun q hq=>by rw[hh] at hq;cases hq⟩
 rw[hp _ s hv,Fg hs hok hc];intro j hj;have h1:=hn (4*c+j) (by omega)
 rw[xQ v c j hj] at h1;refine⟨fun h0=>?_,fun h0=>?_,fun h0=>⟨.inr rfl,fun x hx=>?_⟩⟩
 ·rw[if_neg (by omega),if_neg (by omega)] at h1;exact h1
 ·rw[if_neg (by omega),if_pos h0] at h1;exact h1
 ·rw[if_pos h0] at h1;rw[hp _ x hx];exact h1
theorem FN(v:IV)(k:Nat):v.flush.sh k=v.sh k:=rfl
theorem Told.flush{v:IV}{U:List (Int × Int)}{m:Nat}{may may':Nat→List (List UInt8)}(_h:Told v may)(hs:Safe v U)(hok:v.ok m)(hn:∀ k,k<4*v.t.length→v.sh k∈may' k):Told v.flush may' :=
 yc (hs.flush hok.d.sn) hok.flush (fun i s h=>by
  rcases h with h|⟨x,hx,_⟩
  ·exact h
  ·cases hx) rfl hn
theorem EK(d:DV)(a:Nat)(s:ByteArray)(n:Nat)(hl:∀ k,k≤n→(d.puts a s k).1.seen.length=d.seen.length)(ha:a+n≤d.seen.length):∀ k,k≤n→∀ i t,(d.puts a s k).1.ver i t→d.ver i t∨(a≤i∧i<a+k∧t=(d.puts a s k).1.seen.getD i []):=by
 intro k
 induction k with
 | zero=>intro _ i t h;exact .inl h
 | succ k ih =>
  intro hk i t h;by_cases h0:(d.puts a s k).2=0
  ·rw[DV.pY h0] at h ⊢
   by_cases hp:(d.puts a s k).1.aQ=0
   ·rcases su h with h1|⟨h1,h2⟩
    ·rcases ih (by omega) i t h1 with h3|⟨h3,h4,h5⟩
     ·exact .inl h3
     ·refine .inr ⟨h3,by omega,?_⟩
      show t=((d.puts a s k).1.put (a+k) (chunk s k)).seen.getD i []
      rw[nG _ _ (by omega)];exact h5
    ·subst h1
     refine .inr ⟨by omega,by omega,?_⟩
     show t=((d.puts a s k).1.put (a+k) (chunk s k)).seen.getD (a+k) []
     rw[qM _ _ hp (by rw[hl k (by omega)];omega)];exact h2.symm
   ·have e:(d.puts a s k).1.put (a+k) (chunk s k)=(d.puts a s k).1.failing (-1):=pW _ _ hp
    have h':((d.puts a s k).1.put (a+k) (chunk s k)).ver i t:=h;rw[e] at h';rcases ih (by omega) i t h' with h3|⟨h3,h4,h5⟩
    ·exact .inl h3
    ·refine .inr ⟨h3,by omega,?_⟩
     show t=((d.puts a s k).1.put (a+k) (chunk s k)).seen.getD i []
     rw[e];exact h5
  ·rw[DV.pX h0 (k+1) (by omega)] at h ⊢
   rcases ih (by omega) i t h with h3|⟨h3,h4,h5⟩
   ·exact .inl h3
   ·exact .inr ⟨h3,by omega,h5⟩
theorem xB(d:DV)(a:Nat)(s:ByteArray):∀ k i,i<a∨a+k≤i→(d.puts a s k).1.seen.getD i []=d.seen.getD i []:=by
 intro k
 induction k with
 | zero=>intro i _;rfl
 | succ k ih =>
  intro i hi;by_cases h0:(d.puts a s k).2=0
  ·rw[DV.pY h0]
   show((d.puts a s k).1.put (a+k) (chunk s k)).seen.getD i []=_
   rw[nG _ _ (by omega)];exact ih i (by omega)
  ·rw[DV.pX h0 (k+1) (by omega)];exact ih i (by omega)
theorem yD{v:IV}{m:Nat}(hok:v.ok m){c q j:Nat}(hc:c<v.t.length):1+c / 8≠aI v.h q+j:=by
 have:=qX hok q
 have:=kV hc
 omega
theorem Gw{v:IV}{c:Nat}{e:Int × Int}{i:Nat}{s:List UInt8}(h:(v.dO c e).ver i s)(hi:1+c / 8≠i):v.d.ver i s:=by
 rcases su h with h1|⟨h1,_⟩
 ·exact h1
 ·exact absurd h1 hi
theorem lD(t:List (Int × Int)){c:Nat}(hc:c<t.length)(e:Int × Int)(k:Nat):(t.set c e).getD k (0,0)=if c=k then e else t.getD k (0,0):=by
 rw[List.getD_eq_getElem?_getD,List.getD_eq_getElem?_getD];by_cases h:c=k
 ·subst h;rw[List.getElem?_set_self hc,if_pos rfl];rfl
 ·rw[List.getElem?_set_ne h,if_neg h]
theorem Told.set{v:IV}{U:List (Int × Int)}{m:Nat}{may may':Nat→List (List UInt8)}(h:Told v may)(hs:Safe v U)(hok:v.ok m)(hm:m<1000000000)(hpf:v.d.aQ=0){c:Nat}(hc:c<v.t.length){e:Int × Int}(heb:bM e.1 e.2 v.h.p=true)
  (hmay:∀ k s,s∈may k→s∈may' k) (hn:∀ k,k<4*v.t.length→(v.set c e).sh k∈may' k)
  (hq:e.1=2→(∀ j,j<4→∀ s,v.d.ver (aI v.h e.2.toNat+j) s→s∈may' (4*c+j))∧(e.2.toNat ∉ v.held)∧(v.t.getD c (0,0)).1≠2):Told (v.set c e) may':=by
 have hset:v.set c e=⟨v.dO c e,v.h,v.t.set c e,if (v.t.getD c (0,0)).1=2 then v.held++[(v.t.getD c (0,0)).2.toNat] else v.held⟩:=by unfold IV.set;rw[if_pos hpf]
 have hgood:=hs.sub.good hs.good;have hoks:=hok.set hc heb hm
 have hheld:∀ q,q∈v.held→q∈(v.set c e).held:=fun q hq2=>by
  rw[hset];show q∈(if (v.t.getD c (0,0)).1=2 then v.held++[(v.t.getD c (0,0)).2.toNat] else v.held)
  split
  ·exact List.mem_append_left _ hq2
  ·exact hq2
 have hold:∀ c2,c2<v.t.length→∀ y,Fits v may c2 y→Fits (v.set c e) may' c2 y:=fun c2 hc2 y hf j hj=>by
  obtain⟨h0,h1,h2⟩:=hf j hj;refine⟨fun g=>hmay _ _ (h0 g),fun g=>hmay _ _ (h1 g),fun g=>⟨?_,fun s hv=>?_⟩⟩
  ·rcases(h2 g).1 with g1|g1
   ·exact .inl (hheld _ g1)
   ·by_cases hcc:c=c2
    ·subst hcc
     left
     rw[hset];show y.2.toNat∈(if (v.t.getD c (0,0)).1=2 then v.held++[(v.t.getD c (0,0)).2.toNat] else v.held)
     rw[← g1,if_pos g];exact List.mem_append_right _ (by simp)
    ·right
     rw[hset];show y=(v.t.set c e).getD c2 (0,0)
     rw[lD _ hc,if_neg hcc];exact g1
  ·rw[hset] at hv
   exact hmay _ _ ((h2 g).2 s (Gw hv (yD hok hc)))
 have hlen:(v.set c e).t.length=v.t.length:=by rw[hset];exact List.length_set
 refine⟨fun c2 hc2 s hv=>?_,fun k hk=>hn k (by rw[← hlen];exact hk),fun q hq2 y hy heq=>?_⟩
 ·rw[hlen] at hc2
  have hv2:(v.dO c e).ver (1+c2 / 8) s:=by rw[hset] at hv;exact hv
  rcases su hv2 with h1|⟨h1,h2⟩
  ·exact hold c2 hc2 _ (h.vers c2 hc2 s h1)
  ·have hrow:c / 8=c2 / 8:=by omega
   rw[← h2,qB,hrow,uK hok.h (by rw[List.length_set];exact hok.len) (fun k=>?_) (by rw[List.length_set];exact kV hc2) (by omega),show c2 / 8*8+c2 % 8=c2 by omega,lD _ hc]
   ·by_cases hcc:c=c2
    ·subst hcc
     rw[if_pos rfl];intro j hj;have h3:=hn (4*c+j) (by omega)
     have hte:(v.set c e).t.getD c (0,0)=e:=by rw[hset];show(v.t.set c e).getD c (0,0)=e;rw[lD _ hc,if_pos rfl]
     rw[xQ _ c j hj,hte] at h3;refine⟨fun g=>?_,fun g=>?_,fun g=>⟨.inr hte.symm,fun x hx=>?_⟩⟩
     ·rw[if_neg (by omega),if_neg (by omega)] at h3;exact h3
     ·rw[if_neg (by omega),if_pos g] at h3;exact h3
     ·rw[hset] at hx
      exact(hq g).1 j hj x (Gw hx (yD hok hc))
    ·rw[if_neg hcc]
     exact hold c2 hc2 _ (h.cur hs hok hc2)
   ·rw[lD _ hc]
    split
    ·exact heb
    ·exact hgood.at k
 ·rw[hset] at hq2 hy
  have hq3:q∈(if (v.t.getD c (0,0)).1=2 then v.held++[(v.t.getD c (0,0)).2.toNat] else v.held):=hq2
  have hy2:y∈v.t.set c e:=hy;obtain⟨i,hi,hyi⟩:=uo hy2;rw[List.length_set] at hi;rw[lD _ hc] at hyi;subst heq;by_cases hci:c=i
  ·rw[if_pos hci] at hyi
   subst hyi;obtain⟨_,h5,h6⟩:=hq rfl;rw[if_neg h6] at hq3;exact h5 hq3
  ·rw[if_neg hci] at hyi
   have hmem:((2:Int),(q:Int))∈v.t:=hyi▸getD_mem hi;split at hq3
   ·next hd =>
    rcases List.mem_append.1 hq3 with h5|h5
    ·exact h.held q h5 _ hmem rfl
    ·simp only[List.mem_singleton] at h5
     have hb:=iK (hgood.at c)
     have e1:v.t.getD c (0,0)=(2,(q:Int)):=by
      rcases hb with hb|hb
      ·exact Prod.ext hd (by show(v.t.getD c (0,0)).2=_;omega)
      ·omega
     rcases Nat.lt_or_ge c i with hlt|hge
     ·exact hgood.once c i hlt hi (by rw[hyi]) (by rw[e1,hyi])
     ·exact hgood.once i c (by omega) hc (by rw[e1]) (by rw[e1,hyi])
   ·exact h.held q hq3 _ hmem rfl
theorem xw{d:DV}{m:Nat}(hd:d.fine d.fl.length m){a:Nat}{s:ByteArray}{c:Nat}(hs:s.size=c*16)(ha:a+c≤d.fl.length)(hm:m+c<1000000000):∀ k,k≤c→(d.puts a s k).1.seen.length=d.seen.length:=fun k hk=>by
 have:=hd.puts hs ha hm k hk
 rw[this.ok.same,this.len,hd.ok.same]
theorem Told.write{v:IV}{U:List (Int × Int)}{m:Nat}{may may':Nat→List (List UInt8)}(h:Told v may)(_hs:Safe v U)(hok:v.ok m)(hm:m+10<1000000000)(c fr:Int)(s:ByteArray)
  (hmay:∀ k x,x∈may k→x∈may' k) (hn:∀ k,k<4*v.t.length→(v.write c fr s).sh k∈may' k):Told (v.write c fr s) may':=by
 unfold IV.write at hn ⊢;split
 ·next hw =>
  rw[if_pos hw] at hn;obtain⟨w1,w2,w3,w4,w5⟩:=yu hw.1;obtain⟨t0,t1⟩:=IV.kH w1;obtain⟨p0,p1,p2⟩:=hok.place w1 hw.2;unfold IV.qP at hn ⊢;have hcs:s.size=s.size / 16*16:=by omega
  have hrange:aI v.h (v.ent c).2.toNat+fr.toNat+s.size / 16≤v.d.fl.length:=by omega
  have hl:=xw hok.d hcs hrange (by omega)
  have hpv:=EK v.d (aI v.h (v.ent c).2.toNat+fr.toNat) s (s.size / 16) hl (by rw[hok.d.ok.same];exact hrange) _ (Nat.le_refl _)
  have hlow:=xA v.d (aI v.h (v.ent c).2.toNat+fr.toNat) s (s.size / 16);refine⟨fun c2 hc2 x hv j hj=>?_,hn,h.held⟩
  have hc2':c2<v.t.length:=hc2;have hold:=h.vers c2 hc2 x ((hlow (1+c2 / 8) (by have:=qX hok (v.ent c).2.toNat;have:=kV hc2';omega)).1 x hv) j hj
  refine⟨fun g=>hmay _ _ (hold.1 g),fun g=>hmay _ _ (hold.2.1 g),fun g=>⟨(hold.2.2 g).1,fun y hy=>?_⟩⟩
  rcases hpv _ y hy with h1|⟨h1,h2,h3⟩
  ·exact hmay _ _ ((hold.2.2 g).2 y h1)
  ·rcases(hold.2.2 g).1 with g1|g1
   ·exfalso
    have hq:(jw (bytesOf x) (c2 % 8)).2.toNat=(v.ent c).2.toNat:=by
     have h1':aI v.h (v.ent c).2.toNat+fr.toNat≤aI v.h (jw (bytesOf x) (c2 % 8)).2.toNat+j:=h1;have h2':aI v.h (jw (bytesOf x) (c2 % 8)).2.toNat+j<aI v.h (v.ent c).2.toNat+fr.toNat+s.size / 16:=h2;clear h1 h2 hpv hlow hl;unfold aI at h1' h2';omega
    rw[hq] at g1;refine h.held _ g1 (v.ent c) ?_ ?_
    ·unfold IV.ent;exact getD_mem (by omega)
    ·exact Prod.ext hw.2 (by show(v.ent c).2=_;omega)
   ·have h4:=hn (4*c2+j) (by omega)
    rw[xQ _ c2 j hj] at h4;have e1:({ v with d:=(v.d.puts (aI v.h (v.ent c).2.toNat+fr.toNat) s (s.size / 16)).1 }:IV).t.getD c2 (0,0)=jw (bytesOf x) (c2 % 8):=g1.symm
    rw[e1,if_pos g] at h4;rw[h3];exact h4
 ·next hw =>
  rw[if_neg hw] at hn;exact h.mono hmay
theorem BR{d:DV}{m:Nat}{h:HV}(hd:d.fine d.fl.length m)(hk:h.ok=true)(hn:aJ h≤d.fl.length)(hm:m+20<1000000000)(hf:crF d h=0):Told (crV d h) (fun _=>[[45]]):=by
 have hs:=yO hd hk hn hm hf;have hok:=wo hd hk hn hm
 have hpf:(lM d h).flush.d.aQ=0:=by
  unfold crF at hf;rw[if_pos hk,if_neg (by omega)] at hf
  by_cases h0:(crD d h).2=0
  ·rw[if_pos h0] at hf;exact hf
  ·rw[if_neg h0] at hf;exact absurd hf h0
 have ht:∀ c,(crV d h).t.getD c (0,0)=(0,0):=fun c=>by
  have:(crV d h).t=crT h:=by unfold crV IV.gJ;rw[if_pos hpf];rfl
  rw[this];show(List.replicate h.c.toNat ((0:Int),(0:Int))).getD c (0,0)=_
  rw[List.getD_eq_getElem?_getD,List.getElem?_replicate];split<;>rfl
 refine yc hs hok (fun i s hv=>?_) (by unfold crV IV.gJ;rw[if_pos hpf];rfl) (fun k _=>?_)
 ·have e:(crV d h).d=((lM d h).flush.d.put 0 (aU h.bytes).data.toList).flushed:=by unfold crV IV.gJ;rw[if_pos hpf];rfl
  rw[e] at hv ⊢;rcases hv with hv|⟨x,hx,_⟩
  ·exact hv
  ·cases hx
 ·unfold IV.sh
  rw[ht,if_neg (by decide),if_neg (by decide)]
  exact List.mem_singleton.2 rfl
open Go.Maps
attribute [local go_sem ↓] Go.wp_at_zero Go.wp_at_succ
def gV(gp:Nat)(G:Gh)(n:Nat)(g':GV)(w w':World):Prop:=∃ G':Gh,IsG w' gp G' n g'∧Moved (fpG gp G n) w (fpG gp G' n) w'
theorem KD(s:ByteArray)(k:Nat):s.extract (16*k) (16*k+16)=bytesOf (chunk s k):=by
 have h:=CW s k;rw[show k*16=16*k by omega,show(k+1)*16=16*k+16 by omega] at h
 rw[← qB (s.extract (16*k) (16*k+16)),h]
theorem Fe(s:ByteArray)(k:Nat)(w:World)(hk:16*k+16≤s.size)(hs:s.size≤100000) :
  Calls Tryz.prog 144 #[.string s,.int .i64 (k:Int)] w fun e w'=>e=.returned (.string (bytesOf (chunk s k)))∧w'=w:=by
 have HX:Hid (s.extract (16*k) (16*k+16)=bytesOf (chunk s k)):=KD s k;generalize bytesOf (chunk s k)=T at HX ⊢;have k2:16*(k:Int)+16≤(s.size:Int):=by omega
 have k3:(0:Int)≤16*(k:Int):=by omega
 have k4:(0:Int)≤16*(k:Int)+16:=by omega
 have k5:(16*(k:Int)).toNat=16*k:=by omega
 have k6:(16*(k:Int)+16).toNat=16*k+16:=by omega
 have k7:IntKind.i64.wrap (16*(k:Int))=16*(k:Int):=IntWalk.i64_in _ (by omega)
 have k9:IntKind.i64.wrap (16*(k:Int)+16)=16*(k:Int)+16:=IntWalk.i64_in _ (by omega)
 have k11:16*(k:Int)≤16*(k:Int)+16:=by omega
 go_enter Tryz.func144,Tryz.ntmps144
 go_wp2
 go_ret
 exact⟨by rw[← HX.out];rfl,rfl⟩
end Go.Proofs.YtonhoahnieoebabGreatDoor
namespace Go.Proofs.YtonhoahnieoebabGreatDoor
open Go.RowKit Go.Maps
structure YGd(B:Gd)(w0 w:World)(yp:Nat)(Y:Yh)(y:YV)(gp:Nat)(G:Gh)(n:Nat)(g:GV):Prop where
 bW:ay w yp Y y
 guest:IsG w gp G n g
 apart:∀ k,fpY yp Y y k→¬fpG gp G n k
 job:Apart Y.jb.a (fpG gp G n)
 jobL:∀ q o,Y.jb.a=some ⟨q,o,none⟩→q<w.heap.size
 offY:∀ k,fpY yp Y y k→¬B.g k
 offG:∀ k,fpG gp G n k→¬B.g k
 kept:Kept (fun k=>¬B.g k) w0 w
 top:B.top≤w0.heap.size
theorem YGd.Gt{B:Gd}{w0 w:World}{yp gp n:Nat}{Y:Yh}{y:YV}{G:Gh}{g:GV}(h:YGd B w0 w yp Y y gp G n g):B.top≤w.heap.size:=Nat.le_trans h.top h.kept.size
theorem YGd.below{B:Gd}{w0 w w':World}{yp gp n:Nat}{Y:Yh}{y:YV}{G:Gh}{g:GV}(h:YGd B w0 w yp Y y gp G n g)(hb:Below w.heap.size w w'):YGd B w0 w' yp Y y gp G n g :=
 ⟨h.bW.below hb,h.guest.below hb,h.apart,h.job,fun q o e=>Nat.lt_of_lt_of_le (h.jobL q o e) hb.size,h.offY,h.offG,h.kept.trans (Below.kept hb),h.top⟩
theorem YGd.yA{B:Gd}{w0 w w':World}{yp gp n:Nat}{Y:Yh}{y y':YV}{G:Gh}{g:GV}(h:YGd B w0 w yp Y y gp G n g)(hd:iD yp Y y y' w w'):∃ Y',YGd B w0 w' yp Y' y' gp G n g:=by
 obtain⟨Y',h1,h2,h3⟩:=hd;refine⟨Y',h2,h.guest.beside h3 (fun k hk e=>h.apart k e hk),fun k hk hg=>?_,fun q o e hg=>?_,fun q o e=>?_,fun k hk=>?_,h.offG,h.kept.trans (h3.kept.mono fun k _ hk=>h.offY k hk),h.top⟩
 ·rcases h3.new k hk with e|e
  ·exact h.apart k e hg
  ·have:=h.guest.lt hg;omega
 ·rcases h1 with e1|e1
  ·exact h.job q o (by rw[← e1];exact e) hg
  ·have:=h.guest.lt hg;have:=(e1 q o e).1;omega
 ·rcases h1 with e1|e1
  ·exact Nat.lt_of_lt_of_le (h.jobL q o (by rw[← e1];exact e)) h3.size
  ·exact(e1 q o e).2
 ·rcases h3.new k hk with e|e
  ·exact h.offY k e
  ·exact B.fresh h.Gt e
theorem YGd.zn{B:Gd}{w0 w w':World}{yp gp n:Nat}{Y:Yh}{y:YV}{G:Gh}{g g':GV}(h:YGd B w0 w yp Y y gp G n g)(hd:gV gp G n g' w w'):∃ G',YGd B w0 w' yp Y y gp G' n g':=by
 obtain⟨G',h2,h3⟩:=hd;refine⟨G',h.bW.beside h3 (fun k hk e=>h.apart k hk e) h.job,h2,fun k hk hg=>?_,fun q o e hg=>?_,fun q o e=>Nat.lt_of_lt_of_le (h.jobL q o e) h3.size,h.offY,fun k hk=>?_,h.kept.trans (h3.kept.mono fun k _ hk=>h.offG k hk),h.top⟩
 ·rcases h3.new k hg with e|e
  ·exact h.apart k hk e
  ·have:=h.bW.iT hk;omega
 ·rcases h3.new q hg with e2|e2
  ·exact h.job q o e e2
  ·have:=h.jobL q o e;omega
 ·rcases h3.new k hk with e|e
  ·exact h.offG k e
  ·exact B.fresh h.Gt e
theorem YGd.at{B:Nat}{w0 w:World}{yp gp n:Nat}{Y:Yh}{y:YV}{G:Gh}{g:GV}(hY:ay w yp Y y)(hG:IsG w gp G n g)(ha:∀ k,fpY yp Y y k→¬fpG gp G n k)(hj:Apart Y.jb.a (fpG gp G n))(hl:∀ q o,Y.jb.a=some ⟨q,o,none⟩→q<w.heap.size)
  (bY:∀ k,fpY yp Y y k→B≤k) (bG:∀ k,fpG gp G n k→B≤k) (hb:Below B w0 w) (hs:B≤w0.heap.size):YGd B w0 w yp Y y gp G n g :=
 ⟨hY,hG,ha,hj,hl,fun k hk e=>absurd (show k<B from e) (Nat.not_lt.2 (bY k hk)),fun k hk e=>absurd (show k<B from e) (Nat.not_lt.2 (bG k hk)),⟨hb.os,hb.tape,hb.output,hb.size,fun k _ hk=>hb.block k (Classical.byContradiction fun e=>hk fun e2=>e e2)⟩,hs⟩
theorem YGd.size{B:Nat}{w0 w:World}{yp gp n:Nat}{Y:Yh}{y:YV}{G:Gh}{g:GV}(h:YGd B w0 w yp Y y gp G n g):B≤w0.heap.size:=h.top
theorem YGd.bY{B:Nat}{w0 w:World}{yp gp n:Nat}{Y:Yh}{y:YV}{G:Gh}{g:GV}(h:YGd B w0 w yp Y y gp G n g):∀ k,fpY yp Y y k→B≤k:=fun k hk=>Nat.not_lt.1 (h.offY k hk)
theorem YGd.bel{B:Nat}{w0 w:World}{yp gp n:Nat}{Y:Yh}{y:YV}{G:Gh}{g:GV}(h:YGd B w0 w yp Y y gp G n g):Below B w0 w:=h.kept.below h.size fun _ hk=>Nat.not_lt.1 hk
attribute [local go_sem ↓] Go.wp_at_zero Go.wp_at_succ
theorem zy:(Tryz.prog.info? 9).map (fun i=>(i.zero,i.size,i.bytes))=some (some (.string ⟨#[]⟩),1,16):=by kernel_rfl
theorem IsG.Me{w w1 w2:World}{gp:Nat}{G:Gh}{n:Nat}{g:GV}(h:IsG w gp G n g){i b cap:Nat}(hi:i<n)(hv:G.vn=.slice (some ⟨b,0,none⟩) n cap)(hb:Below w.heap.size w w1){r:Option Nat}(hg:w1.grownBy w2 r)(hr:∀ k,r=some k→(G.rn i).ownBlock=some k){u:Value}{l:Rw}(ho:w2.ownsRow 0 9 1 u l.length (flS l))(hu:∀ k,u.ownBlock=some k→(G.rn i).ownBlock=some k∨w.heap.size≤k) :
  (w2.cell? ⟨b,i,none⟩=some (G.rn i)∧w2.frozen? ⟨b,i,none⟩=false)∧IsG (w2.setCell ⟨b,i,none⟩ u) gp { G with rn:=fF G.rn i u } n { g with now:=iH g.now i l }∧Moved (fpG gp G n) w (fpG gp { G with rn:=fF G.rn i u } n) (w2.setCell ⟨b,i,none⟩ u):=by
 have hk:Kept (fun k=>(G.rn i).ownBlock=some k) w w2:=Kept.grown (Below.kept hb) hg fun k e=>.inl (hr k e)
 have hbb:G.vn.ownBlock=some b:=by rw[hv];rfl
 have hblk:=hk.block b (h.now.lt (.inl hbb)) (fun e=>h.now.uJ hi e hbb)
 obtain⟨b',cap',e1,e2,e3⟩:=h.now.cell hi;rw[hv] at e1;cases e1
 exact⟨⟨(World.cell?_of_block hblk).trans e2,(World.frozen?_of_block hblk).trans e3⟩,h.Fz hi hv hk ho hu⟩
theorem IsG.Dw{w w1 w2:World}{gp:Nat}{G:Gh}{n:Nat}{g:GV}(h:IsG w gp G n g){i b cap:Nat}(hi:i<n)(hv:G.vc=.slice (some ⟨b,0,none⟩) n cap)(hb:Below w.heap.size w w1){r:Option Nat}(hg:w1.grownBy w2 r)(hr:∀ k,r=some k→(G.rc i).ownBlock=some k){u:Value}{l:Rw}(ho:w2.ownsRow 0 9 1 u l.length (flS l))(hu:∀ k,u.ownBlock=some k→(G.rc i).ownBlock=some k∨w.heap.size≤k) :
  (w2.cell? ⟨b,i,none⟩=some (G.rc i)∧w2.frozen? ⟨b,i,none⟩=false)∧IsG (w2.setCell ⟨b,i,none⟩ u) gp { G with rc:=fF G.rc i u } n { g with cr:=iH g.cr i l }∧Moved (fpG gp G n) w (fpG gp { G with rc:=fF G.rc i u } n) (w2.setCell ⟨b,i,none⟩ u):=by
 have hk:Kept (fun k=>(G.rc i).ownBlock=some k) w w2:=Kept.grown (Below.kept hb) hg fun k e=>.inl (hr k e)
 have hbb:G.vc.ownBlock=some b:=by rw[hv];rfl
 have hblk:=hk.block b (h.cr.lt (.inl hbb)) (fun e=>h.cr.uJ hi e hbb)
 obtain⟨b',cap',e1,e2,e3⟩:=h.cr.cell hi;rw[hv] at e1;cases e1
 exact⟨⟨(World.cell?_of_block hblk).trans e2,(World.frozen?_of_block hblk).trans e3⟩,h.Q8 hi hv hk ho hu⟩
def jX(g:GV)(k:Nat):GV:={ g with cr:=fun i=>if i<k then g.now i else g.cr i }
theorem Lr(g:GV)(k:Nat):iH (jX g k).cr k (g.now k)=(jX g (k+1)).cr:=by
 funext i
 show(if i=k then g.now k else (if i<k then g.now i else g.cr i))=(if i<k+1 then g.now i else g.cr i)
 by_cases e:i=k
 ·rw[if_pos e,if_pos (by omega),e]
 ·rw[if_neg e]
  by_cases h:i<k
  ·rw[if_pos h,if_pos (by omega)]
  ·rw[if_neg h,if_neg (by omega)]
theorem Ls(g:GV)(k:Nat):({ jX g k with cr:=iH (jX g k).cr k (g.now k) }:GV)=jX g (k+1):=by
 rw[Lr];rfl
theorem Lu{gp n:Nat}{G:Gh}{g:GV}(w:World)(h:IsG w gp G n g)(hn:n≤1000)(hne:∀ k,k<n→g.now k≠[])(hlen:∀ k,k<n→(g.now k).length≤1000) :
  Calls Tryz.prog 142 #[.pointer (some ⟨gp,0,none⟩)] w fun e w'=>e=.returned (.tuple #[])∧gV gp G n (jX g n) w w':=by
 obtain⟨i2,hi2,hy0,hy1,hy2⟩:=info_parts zy
 have HST:Hid (gV gp G n (jX g 0) w w):=⟨G,by
  have:jX g 0=g:=by
   unfold jX;have:(fun i=>if i<0 then g.now i else g.cr i)=g.cr:=by funext i;rw[if_neg (by omega)]
   rw[this]
  rw[this];exact h,Moved.refl _ _⟩
 have HSH:Hid (∀(k:Nat) (W:World),gV gp G n (jX g k) w W→∃ a cap,W.cell? ⟨gp,0,none⟩=some (.slice a n cap)):=fun k W ⟨G1,h1,_⟩=>by
  obtain⟨a,cap,e⟩:=ownsRow_shape h1.now.own;exact⟨a,cap,by rw[h1.cells.1,e]⟩
 have HRD:Hid (∀(k:Nat) (W:World),k<n→gV gp G n (jX g k) w W→∃(bn cn bc cc rb rc:Nat) (v:Value),W.cell? ⟨gp,0,none⟩=some (.slice (some ⟨bn,0,none⟩) n cn)∧W.cell? ⟨gp,1,none⟩=some (.slice (some ⟨bc,0,none⟩) n cc)∧W.cell? ⟨bn,k,none⟩=some (.slice (some ⟨rb,0,none⟩) (g.now k).length rc) ∧
   (∀ j u,(flS (g.now k))[j]?=some u→W.cell? ((⟨rb,0,none⟩:Addr).add j)=some u) ∧
   ∀(w1 w2:World) (g' cap':Nat),Below W.heap.size W w1→w1.grownBy w2 none→w2.ownsRow 0 9 1 (.slice (some ⟨g',0,none⟩) (g.now k).length cap') (g.now k).length (flS (g.now k))→W.heap.size≤g' →
    (∃ v,w2.cell? ⟨bc,k,none⟩=some v)∧w2.frozen? ⟨bc,k,none⟩=false∧w2.cell? ⟨gp,0,none⟩=some (.slice (some ⟨bn,0,none⟩) n cn)∧w2.cell? ⟨gp,1,none⟩=some (.slice (some ⟨bc,0,none⟩) n cc)∧gV gp G n (jX g (k+1)) w (w2.setCell ⟨bc,k,none⟩ (.slice (some ⟨g',0,none⟩) (g.now k).length cap'))):=fun k W hk ⟨G1,h1,h2⟩=>by
  obtain⟨bn,cn,e1,e2,e3⟩:=h1.now.cell hk;obtain⟨bc,cc,f1,f2,f3⟩:=h1.cr.cell hk;have hrow:=h1.now.row k hk;rw[show(jX g k).now k=g.now k from rfl] at hrow
  obtain⟨rb,rc,q1,_,_⟩:=hrow.form (by have:=hne k hk;have:=List.length_pos_iff.2 this;omega)
  rw[q1] at e2;refine⟨bn,cn,bc,cc,rb,rc,.nilIface,by rw[h1.cells.1,e1],by rw[h1.cells.2,f1],e2,fun j u hj=>hrow.cells (g:=rb) (by rw[q1];rfl) j u hj,fun w1 w2 g' cap' hb hg ho hg'=>?_⟩
  obtain⟨⟨a1,a2⟩,a3,a4⟩:=h1.Dw hk f1 hb hg (fun k e=>by cases e) ho (fun b e=>.inr (by
   have:g'=b:=by simpa [Value.ownBlock] using e
   omega))
  have hgb:w2.heap[gp]?=W.heap[gp]?:=(hg.block gp (Nat.lt_of_lt_of_le (lt_of_some h1.blk) hb.size) (fun e=>by cases e)).trans (hb.block gp (lt_of_some h1.blk))
  refine⟨⟨_,a1⟩,a2,by rw[World.cell?_of_block hgb,h1.cells.1,e1],by rw[World.cell?_of_block hgb,h1.cells.2,f1],_,?_,h2.trans a4⟩
  rw[← Ls];exact a3
 have HLN:Hid (∀ k,k<n→0<(g.now k).length∧(g.now k).length≤1000):=fun k hk=>⟨List.length_pos_iff.2 (hne k hk),hlen k hk⟩
 clear h hne hlen;go_enter Tryz.func142,Tryz.ntmps142
 go_wp2
 go_loopw [2] (fun i wr=>∃ k:Nat,k≤n∧i=.int .i64 (k:Int)∧gV gp G n (jX g k) w wr) (fun i _=>n-(intOf i).toNat)
 case atStart=>exact⟨0,Nat.zero_le _,rfl,HST.out⟩
 case round =>
  obtain⟨k,hk,rfl,hd⟩:=hrel;by_cases hlt:k<n
  ·obtain⟨bn,cn,bc,cc,rb,rc,_,q0,q1,q2,hnw,hfin⟩:=HRD.out k wr hlt hd
   obtain⟨l0,l1⟩:=HLN.out k hlt;have HNW:=ah hnw;have HFI:=ah hfin;clear hnw hfin hd HRD HSH HLN;have HFL:Hid ((flS (g.now k)).length=(g.now k).length*1):=by unfold Hid;rw[Lc];omega
   have HON:=ah (Ld (g.now k));generalize flS (g.now k)=fl at HNW HFI HFL HON;generalize (g.now k).length=m at q2 HFI HFL l0 l1;have k0:(0:Int)≤(k:Int):=by omega
   have kn:(k:Int)<(n:Int):=by omega
   have k2:((k:Int)).toNat=k:=by omega
   have k3:IntKind.i64.wrap ((k:Int)+1)=(k:Int)+1:=IntWalk.i64_in _ (by omega)
   have HMX:Hid (0+m≤maxLen):=by unfold Hid maxLen;omega
   have HBD:Hid (Below wr.heap.size wr wr.drew):=(Below.refl _ _).drew;go_wp2
   go_region_law (refine step_append_lies _ (by rfl) _ _ 202 (by rfl) 0 9 i2 (.string ⟨#[]⟩) 1 16 Tryz.underlying202 hi2 hy0 hy1 hy2 rfl (by decide) (.slice none 0 0) 0 [] (by rfl) (World.ownsRow_nil _ _ _ _) ⟨rb,0,none⟩ m rc fl (by rfl) HFL.out HNW.out HON.out l0 HMX.out (by omega) (Nat.zero_le _) wr.heap.size (by rfl) ?_;intro g' cap' w2 hown hgrow hat hlt2;rw[Nat.zero_add,List.nil_append] at hown;obtain⟨⟨v,p0⟩,p1,p2,p3,hx⟩:=HFI.out _ w2 g' cap' HBD.out hgrow hown (by rcases hat with e|e;cases e;omega);have HX:=ah hx;clear hx hown hgrow hat hlt2)
   all_goals
    go_wp2
    refine⟨⟨k+1,by omega,by simp,?_⟩,?_⟩
    ·first|exact HX.out|(rw[Nat.zero_add];exact HX.out)
    ·simp only[intOf]
     omega
  ·have hkn:k=n:=by omega
   obtain⟨a,cap,q0⟩:=HSH.out k wr hd;have kn:¬(k:Int)<(n:Int):=by omega
   rw[hkn] at hd;have HD:=ah hd;clear hd;go_wp2
   go_end0
   exact⟨rfl,HD.out⟩
end Go.Proofs.YtonhoahnieoebabGreatDoor
