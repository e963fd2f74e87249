/- What a guest does: what it wrote, well or not. -/
import Derived.Test.YtonhoahnieoebabGreatDoorQAGuestP2
set_option maxHeartbeats 2000000
set_option maxRecDepth 100000
namespace Go.Proofs.YtonhoahnieoebabGreatDoor
open Go.RowKit Go.Maps
attribute [local go_sem ↓] Go.wp_at_zero Go.wp_at_succ
def kX(g:GV)(fr:Nat)(s:ByteArray)(well:Bool)(k:Nat):Nat→Rw:=fun i=>if fr≤i∧i<fr+k then (if well=true then [chunk s (i-fr)] else g.now i++[chunk s (i-fr)]) else g.now i
def jC(g:GV)(fr:Nat)(s:ByteArray)(k:Nat):Nat→Rw:=fun i=>if fr≤i∧i<fr+k then g.cr i++[chunk s (i-fr)] else g.cr i
def dS(g:GV)(fr:Nat)(s:ByteArray)(well:Bool)(k j:Nat):GV:=⟨kX g fr s well k,jC g fr s j⟩
theorem G6(g:GV)(fr:Nat)(s:ByteArray)(well:Bool)(k:Nat):iH (kX g fr s well k) (fr+k) (if well=true then [chunk s k] else g.now (fr+k)++[chunk s k])=kX g fr s well (k+1):=by
 funext i
 unfold iH kX;by_cases e:i=fr+k
 ·subst e
  rw[if_pos rfl,if_pos (show fr≤fr+k∧fr+k<fr+(k+1) by omega),show fr+k-fr=k by omega]
 ·rw[if_neg e]
  by_cases h:fr≤i∧i<fr+k
  ·rw[if_pos h,if_pos (show fr≤i∧i<fr+(k+1) by omega)]
  ·rw[if_neg h,if_neg (show ¬(fr≤i∧i<fr+(k+1)) by omega)]
theorem G5(g:GV)(fr:Nat)(s:ByteArray)(k:Nat):iH (jC g fr s k) (fr+k) (g.cr (fr+k)++[chunk s k])=jC g fr s (k+1):=by
 funext i
 unfold iH jC;by_cases e:i=fr+k
 ·subst e
  rw[if_pos rfl,if_pos (show fr≤fr+k∧fr+k<fr+(k+1) by omega),show fr+k-fr=k by omega]
 ·rw[if_neg e]
  by_cases h:fr≤i∧i<fr+k
  ·rw[if_pos h,if_pos (show fr≤i∧i<fr+(k+1) by omega)]
  ·rw[if_neg h,if_neg (show ¬(fr≤i∧i<fr+(k+1)) by omega)]
theorem Ud(g:GV)(fr:Nat)(s:ByteArray)(well:Bool)(k:Nat):kX g fr s well k (fr+k)=g.now (fr+k):=by unfold kX;rw[if_neg (by omega)]
theorem GY(g:GV)(fr:Nat)(s:ByteArray)(k:Nat):jC g fr s k (fr+k)=g.cr (fr+k):=by unfold jC;rw[if_neg (by omega)]
theorem Dc(l:Rw)(t:List UInt8):flS (l++[t])=flS l++[.string (bytesOf t)]:=by simp[flS]
theorem tu(w:World)(v:Value)(t:TypeId):∀ j u,[v][j]?=some u→(w.alloc (.cells #[v] t)).cell? ((⟨w.heap.size,0,none⟩:Addr).add j)=some u:=by
 intro j u hj
 cases j with
 | zero =>
  have hu:v=u:=by simpa using hj
  subst hu;show(w.alloc (.cells #[v] t)).cell? ⟨w.heap.size,0,none⟩=_
  rw[cell_of_row _ _ _ _ _ _ (heap_alloc_new w _)];rfl
 | succ j=>simp at hj
structure sU(gp n c i:Nat)(T:ByteArray)(W:World)(b cap m:Nat)(v:Value)(xs:List Value)(P:World→Prop):Prop where
 tab:W.cell? ⟨gp,c,none⟩=some (.slice (some ⟨b,0,none⟩) n cap)
 elem:W.cell? ⟨b,i,none⟩=some v
 lts:gp<W.heap.size∧b<W.heap.size
 row:W.ownsRow 0 9 1 v m xs
 few:m≤1000
 fin:∀(w1 w2:World) (g' cap':Nat),Below W.heap.size W w1→w1.grownBy w2 v.ownBlock→w2.ownsRow 0 9 1 (.slice (some ⟨g',0,none⟩) (m+1) cap') (m+1) (xs++[.string T])→(v.ownBlock=some g'∨W.heap.size≤g') →
  (∃ u,w2.cell? ⟨b,i,none⟩=some u)∧w2.frozen? ⟨b,i,none⟩=false∧w2.cell? ⟨gp,c,none⟩=some (.slice (some ⟨b,0,none⟩) n cap)∧P (w2.setCell ⟨b,i,none⟩ (.slice (some ⟨g',0,none⟩) (m+1) cap'))
theorem IsG.MB{w W:World}{gp:Nat}{G G1:Gh}{n i:Nat}{g1:GV}(h1:IsG W gp G1 n g1)(h2:Moved (fpG gp G n) w (fpG gp G1 n) W)(hi:i<n)(t:List UInt8)(hl:(g1.now i).length≤1000) :
  ∃(b cap:Nat),sU gp n 0 i (bytesOf t) W b cap (g1.now i).length (G1.rn i) (flS (g1.now i)) (gV gp G n { g1 with now:=iH g1.now i (g1.now i++[t]) } w):=by
 obtain⟨b,cap,e1,e2,e3⟩:=h1.now.cell hi;have hbl:b<W.heap.size:=h1.now.lt (.inl (by rw[e1];rfl))
 refine⟨b,cap,⟨by rw[h1.cells.1,e1],e2,⟨lt_of_some h1.blk,hbl⟩,h1.now.row i hi,hl,fun w1 w2 g' cap' hb hg ho hat=>?_⟩⟩
 obtain⟨⟨a1,a2⟩,a3,a4⟩:=h1.Me hi e1 hb hg (fun k e=>e) (l:=g1.now i++[t]) (by rw[List.length_append,Dc];exact ho) (fun k e=>by
  have e4:g'=k:=by simpa [Value.ownBlock] using e
  rw[← e4];exact hat)
 have hgb:w2.heap[gp]?=W.heap[gp]?:=(hg.block gp (Nat.lt_of_lt_of_le (lt_of_some h1.blk) hb.size) (fun e=>h1.rG.1 (.inr ⟨i,hi,e.symm⟩))).trans (hb.block gp (lt_of_some h1.blk))
 exact⟨⟨_,a1⟩,a2,by rw[World.cell?_of_block hgb,h1.cells.1,e1],_,a3,h2.trans a4⟩
theorem IsG.Dx{w W:World}{gp:Nat}{G G1:Gh}{n i:Nat}{g1:GV}(h1:IsG W gp G1 n g1)(h2:Moved (fpG gp G n) w (fpG gp G1 n) W)(hi:i<n)(t:List UInt8)(hl:(g1.cr i).length≤1000) :
  ∃(b cap:Nat),sU gp n 1 i (bytesOf t) W b cap (g1.cr i).length (G1.rc i) (flS (g1.cr i)) (gV gp G n { g1 with cr:=iH g1.cr i (g1.cr i++[t]) } w):=by
 obtain⟨b,cap,e1,e2,e3⟩:=h1.cr.cell hi;have hbl:b<W.heap.size:=h1.cr.lt (.inl (by rw[e1];rfl))
 refine⟨b,cap,⟨by rw[h1.cells.2,e1],e2,⟨lt_of_some h1.blk,hbl⟩,h1.cr.row i hi,hl,fun w1 w2 g' cap' hb hg ho hat=>?_⟩⟩
 obtain⟨⟨a1,a2⟩,a3,a4⟩:=h1.Dw hi e1 hb hg (fun k e=>e) (l:=g1.cr i++[t]) (by rw[List.length_append,Dc];exact ho) (fun k e=>by
  have e4:g'=k:=by simpa [Value.ownBlock] using e
  rw[← e4];exact hat)
 have hgb:w2.heap[gp]?=W.heap[gp]?:=(hg.block gp (Nat.lt_of_lt_of_le (lt_of_some h1.blk) hb.size) (fun e=>h1.rG.2 (.inr ⟨i,hi,e.symm⟩))).trans (hb.block gp (lt_of_some h1.blk))
 exact⟨⟨_,a1⟩,a2,by rw[World.cell?_of_block hgb,h1.cells.2,e1],_,a3,h2.trans a4⟩
theorem Ug{gp n:Nat}{G:Gh}{g:GV}(fr N:Nat)(s:ByteArray)(w:World)(h:IsG w gp G n g)(hn:n≤1000)(hs:s.size=16*N)(hN:fr+N≤n)(hlen:∀ k,k<n→(g.now k).length≤1000∧(g.cr k).length≤1000) :
  Calls Tryz.prog 141 #[.pointer (some ⟨gp,0,none⟩),.int .i64 (fr:Int),.string s,.bool true] w fun e w'=>e=.returned (.tuple #[])∧gV gp G n (dS g fr s true N N) w w':=by
 obtain⟨i2,hi2,hy0,hy1,hy2⟩:=info_parts zy
 have HST:Hid (gV gp G n (dS g fr s true 0 0) w w):=⟨G,by
  have e1:kX g fr s true 0=g.now:=by funext i;unfold kX;rw[if_neg (by omega)]
  have e2:jC g fr s 0=g.cr:=by funext i;unfold jC;rw[if_neg (by omega)]
  unfold dS
  rw[e1,e2];exact h,Moved.refl _ _⟩
 have HSE:Hid (∀(k:Nat) (W:World),k<N→Calls Tryz.prog 144 #[.string s,.int .i64 (k:Int)] W fun e w'=>e=.returned (.string (bytesOf (chunk s k)))∧w'=W):=fun k W hk=>Fe s k W (by omega) (by omega)
 have HW1:Hid (∀(k:Nat) (W:World),k<N→gV gp G n (dS g fr s true k k) w W→∃(b cap:Nat) (v:Value),W.cell? ⟨gp,0,none⟩=some (.slice (some ⟨b,0,none⟩) n cap)∧W.cell? ⟨b,fr+k,none⟩=some v∧b<W.heap.size∧W.frozen? ⟨b,fr+k,none⟩=false∧gp<W.heap.size ∧
   gV gp G n (dS g fr s true (k+1) k) w ((W.setCell ⟨b,fr+k,none⟩ (.slice (some ⟨W.heap.size,0,none⟩) 1 1)).alloc (.cells #[.string (bytesOf (chunk s k))] 9))):=fun k W hk ⟨G1,h1,h2⟩=>by
  obtain⟨b,cap,e1,e2,e3⟩:=h1.now.cell (show fr+k<n by omega)
  obtain⟨h3,h4⟩:=h1.OX (show fr+k<n by omega) e1 (chunk s k)
  have hbl:b<W.heap.size:=h1.now.lt (.inl (by rw[e1];rfl))
  rw[World.setCell_alloc_past _ _ _ _ hbl] at h3 h4;refine⟨b,cap,_,by rw[h1.cells.1,e1],e2,hbl,e3,lt_of_some h1.blk,_,?_,h2.trans h4⟩
  have e5:=G6 g fr s true k;rw[if_pos rfl] at e5;unfold dS;rw[← e5];exact h3
 have HC:Hid (∀(k:Nat) (W:World),k<N→gV gp G n (dS g fr s true (k+1) k) w W→∃(b cap m:Nat) (v:Value) (xs:List Value),sU gp n 1 (fr+k) (bytesOf (chunk s k)) W b cap m v xs (gV gp G n (dS g fr s true (k+1) (k+1)) w)):=fun k W hk ⟨G1,h1,h2⟩=>by
  have e4:(dS g fr s true (k+1) k).cr (fr+k)=g.cr (fr+k):=GY g fr s k;obtain⟨b,cap,hG⟩:=h1.Dx h2 (show fr+k<n by omega) (chunk s k) (by rw[e4];exact(hlen _ (by omega)).2)
  rw[e4] at hG;refine⟨b,cap,(g.cr (fr+k)).length,G1.rc (fr+k),flS (g.cr (fr+k)),?_⟩
  have e6:({ dS g fr s true (k+1) k with cr:=iH (dS g fr s true (k+1) k).cr (fr+k) (g.cr (fr+k)++[chunk s k]) }:GV)=dS g fr s true (k+1) (k+1):=by
   unfold dS;show GV.mk _ (iH (jC g fr s k) (fr+k) (g.cr (fr+k)++[chunk s k]))=_
   rw[G5]
  rw[← e6];exact hG
 clear h hlen;go_enter Tryz.func141,Tryz.ntmps141
 go_wp2
 go_loopw [8] (fun i wr=>∃ k:Nat,k≤N∧i=.int .i64 (k:Int)∧gV gp G n (dS g fr s true k k) w wr) (fun i _=>N-(intOf i).toNat)
 case atStart=>exact⟨0,Nat.zero_le _,rfl,HST.out⟩
 case round =>
  obtain⟨k,hk,rfl,hd⟩:=hrel;have k9:IntKind.i64.wrap (16*(k:Int))=16*(k:Int):=IntWalk.i64_in _ (by omega)
  by_cases hlt:k<N
  ·have HS:=ah (HSE.out k wr hlt)
   have HC1:=ah (fun W hd=>HC.out k W hlt hd)
   have kl:decide (16*(k:Int)<(s.size:Int))=true:=decide_eq_true (by omega)
   have ki:IntKind.i64.wrap ((fr:Int)+(k:Int))=(fr:Int)+(k:Int):=IntWalk.i64_in _ (by omega)
   have k0:(0:Int)≤(fr:Int)+(k:Int):=by omega
   have kn:(fr:Int)+(k:Int)<(n:Int):=by omega
   have k2:((fr:Int)+(k:Int)).toNat=fr+k:=by omega
   have k3:IntKind.i64.wrap ((k:Int)+1)=(k:Int)+1:=IntWalk.i64_in _ (by omega)
   obtain⟨b,cap,v,q0,q1,q2,q3,q5,hx⟩:=HW1.out k wr hlt hd;have HX:=ah (HC1.out _ hx);clear hd hx HSE HC HC1 HW1 HST;generalize hT:bytesOf (chunk s k)=T at HX HS;go_wp2_with fail
   refine HS.out.mono ?_;rintro e w' ⟨rfl,hw'⟩;have hw2:=hw'.symm;subst hw2;clear hw' HS;go_wp2
   generalize hW:(wr.setCell ⟨b,fr+k,none⟩ (.slice (some ⟨wr.heap.size,0,none⟩) 1 1)).alloc (.cells #[.string T] 9)=W1 at HX ⊢;obtain⟨bC,capC,mC,vC,xsC,hGC⟩:=HX.out;have HGC:=ah hGC;clear HX hGC hW q0 q1 q2 q3 q5;have HROW1:Hid ((W1.drew.alloc (.cells #[.string T] 9)).ownsRow 0 9 1 vC mC xsC):=(dA HGC.out.row (fun _ _=>rfl)).alloc _
   have HMCC:Hid (mC+1≤maxLen):=by unfold Hid maxLen;have:=HGC.out.few;omega
   have HBDC:Hid (Below W1.heap.size W1 (W1.drew.alloc (.cells #[.string T] 9))):=(Below.refl _ _).drew.alloc (Nat.le_refl _) _;have hfewC:=HGC.out.few;have HFIC:=ah HGC.out.fin;have tC:=HGC.out.tab;have eC:=HGC.out.elem;obtain⟨lC,bC'⟩:=HGC.out.lts;have d1C:W1.drew.cell? ⟨gp,1,none⟩=some (.slice (some ⟨bC,0,none⟩) n capC):=tC;have d2C:W1.drew.cell? ⟨bC,fr+k,none⟩=some vC:=eC;have d3C:(W1.drew.alloc (.cells #[.string T] 9)).cell? ⟨gp,1,none⟩=some (.slice (some ⟨bC,0,none⟩) n capC):=by rw[World.cell?_alloc_past _ _ _ (show gp<W1.drew.heap.size from lC)];exact tC
   have d4C:(W1.drew.alloc (.cells #[.string T] 9)).cell? ⟨bC,fr+k,none⟩=some vC:=by rw[World.cell?_alloc_past _ _ _ (show bC<W1.drew.heap.size from bC')];exact eC
   clear HGC;go_region_law (refine step_append_lies _ (by rfl) _ _ 202 (by rfl) 0 9 i2 (.string ⟨#[]⟩) 1 16 Tryz.underlying202 hi2 hy0 hy1 hy2 rfl (by decide) vC mC xsC (by rfl) HROW1.out ⟨W1.heap.size,0,none⟩ 1 1 [.string T] (by rfl) (by rfl) (tu _ _ _) (fun u hu=>by simp at hu;subst hu;rfl) (by decide) HMCC.out (by omega) (Nat.zero_le _) (W1.heap.size+1) (by simp) ?_;intro gC capC2 wC hown hgrow hat hlt2;obtain⟨⟨uC,p0C⟩,p1C,p2C,hx⟩:=HFIC.out _ wC gC capC2 HBDC.out hgrow hown (by rcases hat with e|e;exact .inl e;exact .inr (by omega));have HD2:=ah hx;clear hx hown hgrow hat hlt2)
   all_goals
    go_wp2
    refine⟨⟨k+1,by omega,by simp,HD2.out⟩,?_⟩
    simp only[intOf];omega
  ·have hkn:k=N:=by omega
   have kl:decide (16*(k:Int)<(s.size:Int))=false:=decide_eq_false (by omega)
   rw[hkn] at hd;have HD:=ah hd;clear hd;go_wp2
   go_end0
   exact⟨rfl,HD.out⟩
theorem Ue{gp n:Nat}{G:Gh}{g:GV}(fr N:Nat)(s:ByteArray)(w:World)(h:IsG w gp G n g)(hn:n≤1000)(hs:s.size=16*N)(hN:fr+N≤n)(hlen:∀ k,k<n→(g.now k).length≤1000∧(g.cr k).length≤1000) :
  Calls Tryz.prog 141 #[.pointer (some ⟨gp,0,none⟩),.int .i64 (fr:Int),.string s,.bool false] w fun e w'=>e=.returned (.tuple #[])∧gV gp G n (dS g fr s false N N) w w':=by
 obtain⟨i2,hi2,hy0,hy1,hy2⟩:=info_parts zy
 have HST:Hid (gV gp G n (dS g fr s false 0 0) w w):=⟨G,by
  have e1:kX g fr s false 0=g.now:=by funext i;unfold kX;rw[if_neg (by omega)]
  have e2:jC g fr s 0=g.cr:=by funext i;unfold jC;rw[if_neg (by omega)]
  unfold dS
  rw[e1,e2];exact h,Moved.refl _ _⟩
 have HSE:Hid (∀(k:Nat) (W:World),k<N→Calls Tryz.prog 144 #[.string s,.int .i64 (k:Int)] W fun e w'=>e=.returned (.string (bytesOf (chunk s k)))∧w'=W):=fun k W hk=>Fe s k W (by omega) (by omega)
 have HW2:Hid (∀(k:Nat) (W:World),k<N→gV gp G n (dS g fr s false k k) w W→∃(b cap m:Nat) (v:Value) (xs:List Value),sU gp n 0 (fr+k) (bytesOf (chunk s k)) W b cap m v xs (gV gp G n (dS g fr s false (k+1) k) w)):=fun k W hk ⟨G1,h1,h2⟩=>by
  have e4:(dS g fr s false k k).now (fr+k)=g.now (fr+k):=Ud g fr s false k;obtain⟨b,cap,hG⟩:=h1.MB h2 (show fr+k<n by omega) (chunk s k) (by rw[e4];exact(hlen _ (by omega)).1)
  have e5:=G6 g fr s false k;rw[if_neg (by decide)] at e5
  rw[e4] at hG;refine⟨b,cap,(g.now (fr+k)).length,G1.rn (fr+k),flS (g.now (fr+k)),?_⟩
  have e6:({ dS g fr s false k k with now:=iH (dS g fr s false k k).now (fr+k) (g.now (fr+k)++[chunk s k]) }:GV)=dS g fr s false (k+1) k:=by
   unfold dS;show GV.mk (iH (kX g fr s false k) (fr+k) (g.now (fr+k)++[chunk s k])) _=_
   rw[e5]
  rw[← e6];exact hG
 have HC:Hid (∀(k:Nat) (W:World),k<N→gV gp G n (dS g fr s false (k+1) k) w W→∃(b cap m:Nat) (v:Value) (xs:List Value),sU gp n 1 (fr+k) (bytesOf (chunk s k)) W b cap m v xs (gV gp G n (dS g fr s false (k+1) (k+1)) w)):=fun k W hk ⟨G1,h1,h2⟩=>by
  have e4:(dS g fr s false (k+1) k).cr (fr+k)=g.cr (fr+k):=GY g fr s k;obtain⟨b,cap,hG⟩:=h1.Dx h2 (show fr+k<n by omega) (chunk s k) (by rw[e4];exact(hlen _ (by omega)).2)
  rw[e4] at hG;refine⟨b,cap,(g.cr (fr+k)).length,G1.rc (fr+k),flS (g.cr (fr+k)),?_⟩
  have e6:({ dS g fr s false (k+1) k with cr:=iH (dS g fr s false (k+1) k).cr (fr+k) (g.cr (fr+k)++[chunk s k]) }:GV)=dS g fr s false (k+1) (k+1):=by
   unfold dS;show GV.mk _ (iH (jC g fr s k) (fr+k) (g.cr (fr+k)++[chunk s k]))=_
   rw[G5]
  rw[← e6];exact hG
 clear h hlen;go_enter Tryz.func141,Tryz.ntmps141
 go_wp2
 go_loopw [8] (fun i wr=>∃ k:Nat,k≤N∧i=.int .i64 (k:Int)∧gV gp G n (dS g fr s false k k) w wr) (fun i _=>N-(intOf i).toNat)
 case atStart=>exact⟨0,Nat.zero_le _,rfl,HST.out⟩
 case round =>
  obtain⟨k,hk,rfl,hd⟩:=hrel;have k9:IntKind.i64.wrap (16*(k:Int))=16*(k:Int):=IntWalk.i64_in _ (by omega)
  by_cases hlt:k<N
  ·have HS:=ah (HSE.out k wr hlt)
   have HC1:=ah (fun W hd=>HC.out k W hlt hd)
   have kl:decide (16*(k:Int)<(s.size:Int))=true:=decide_eq_true (by omega)
   have ki:IntKind.i64.wrap ((fr:Int)+(k:Int))=(fr:Int)+(k:Int):=IntWalk.i64_in _ (by omega)
   have k0:(0:Int)≤(fr:Int)+(k:Int):=by omega
   have kn:(fr:Int)+(k:Int)<(n:Int):=by omega
   have k2:((fr:Int)+(k:Int)).toNat=fr+k:=by omega
   have k3:IntKind.i64.wrap ((k:Int)+1)=(k:Int)+1:=IntWalk.i64_in _ (by omega)
   obtain⟨b0,cap0,m0,v0,xs0,hG0⟩:=HW2.out k wr hlt hd;have HG0:=ah hG0;clear hd hG0 HSE HC HW2 HST;generalize hT:bytesOf (chunk s k)=T at HG0 HS HC1;go_wp2_with fail
   refine HS.out.mono ?_;rintro e w' ⟨rfl,hw'⟩;have hw2:=hw'.symm;subst hw2;clear hw' HS;go_upto_region 6 with fail
   go_cut [] from 10 to 70 (fun wx=>gV gp G n (dS g fr s false (k+1) k) w wx)
   case first =>
    clear HC1;have HROwr:Hid ((wr.drew.alloc (.cells #[.string T] 9)).ownsRow 0 9 1 v0 m0 xs0):=(dA HG0.out.row (fun _ _=>rfl)).alloc _
    have HM00:Hid (m0+1≤maxLen):=by unfold Hid maxLen;have:=HG0.out.few;omega
    have HBD0:Hid (Below wr.heap.size wr (wr.drew.alloc (.cells #[.string T] 9))):=(Below.refl _ _).drew.alloc (Nat.le_refl _) _;have hfew0:=HG0.out.few;have HFI0:=ah HG0.out.fin;have t0:=HG0.out.tab;have e0:=HG0.out.elem;obtain⟨l0,b0'⟩:=HG0.out.lts;have d10:wr.drew.cell? ⟨gp,0,none⟩=some (.slice (some ⟨b0,0,none⟩) n cap0):=t0;have d20:wr.drew.cell? ⟨b0,fr+k,none⟩=some v0:=e0;have d30:(wr.drew.alloc (.cells #[.string T] 9)).cell? ⟨gp,0,none⟩=some (.slice (some ⟨b0,0,none⟩) n cap0):=by rw[World.cell?_alloc_past _ _ _ (show gp<wr.drew.heap.size from l0)];exact t0
    have d40:(wr.drew.alloc (.cells #[.string T] 9)).cell? ⟨b0,fr+k,none⟩=some v0:=by rw[World.cell?_alloc_past _ _ _ (show b0<wr.drew.heap.size from b0')];exact e0
    clear HG0;go_region_law (refine step_append_lies _ (by rfl) _ _ 202 (by rfl) 0 9 i2 (.string ⟨#[]⟩) 1 16 Tryz.underlying202 hi2 hy0 hy1 hy2 rfl (by decide) v0 m0 xs0 (by rfl) HROwr.out ⟨wr.heap.size,0,none⟩ 1 1 [.string T] (by rfl) (by rfl) (tu _ _ _) (fun u hu=>by simp at hu;subst hu;rfl) (by decide) HM00.out (by omega) (Nat.zero_le _) (wr.heap.size+1) (by simp) ?_;intro g0 cap02 w0 hown hgrow hat hlt2;obtain⟨⟨u0,p00⟩,p10,p20,hx⟩:=HFI0.out _ w0 g0 cap02 HBD0.out hgrow hown (by rcases hat with e|e;exact .inl e;exact .inr (by omega));have HX2:=ah hx;clear hx hown hgrow hat hlt2)
    all_goals
     go_wp2
     go_meet
     case rel=>exact HX2.out
   case rest =>
    have HX:=ah (HC1.out _ hcut);clear hcut HC1 HG0;obtain⟨bC,capC,mC,vC,xsC,hGC⟩:=HX.out;have HGC:=ah hGC;clear HX hGC;go_upto_region 7 with fail
    have HROwc:Hid ((wc.drew.alloc (.cells #[.string T] 9)).ownsRow 0 9 1 vC mC xsC):=(dA HGC.out.row (fun _ _=>rfl)).alloc _
    have HMCC:Hid (mC+1≤maxLen):=by unfold Hid maxLen;have:=HGC.out.few;omega
    have HBDC:Hid (Below wc.heap.size wc (wc.drew.alloc (.cells #[.string T] 9))):=(Below.refl _ _).drew.alloc (Nat.le_refl _) _;have hfewC:=HGC.out.few;have HFIC:=ah HGC.out.fin;have tC:=HGC.out.tab;have eC:=HGC.out.elem;obtain⟨lC,bC'⟩:=HGC.out.lts;have d1C:wc.drew.cell? ⟨gp,1,none⟩=some (.slice (some ⟨bC,0,none⟩) n capC):=tC;have d2C:wc.drew.cell? ⟨bC,fr+k,none⟩=some vC:=eC;have d3C:(wc.drew.alloc (.cells #[.string T] 9)).cell? ⟨gp,1,none⟩=some (.slice (some ⟨bC,0,none⟩) n capC):=by rw[World.cell?_alloc_past _ _ _ (show gp<wc.drew.heap.size from lC)];exact tC
    have d4C:(wc.drew.alloc (.cells #[.string T] 9)).cell? ⟨bC,fr+k,none⟩=some vC:=by rw[World.cell?_alloc_past _ _ _ (show bC<wc.drew.heap.size from bC')];exact eC
    clear HGC;go_region_law (refine step_append_lies _ (by rfl) _ _ 202 (by rfl) 0 9 i2 (.string ⟨#[]⟩) 1 16 Tryz.underlying202 hi2 hy0 hy1 hy2 rfl (by decide) vC mC xsC (by rfl) HROwc.out ⟨wc.heap.size,0,none⟩ 1 1 [.string T] (by rfl) (by rfl) (tu _ _ _) (fun u hu=>by simp at hu;subst hu;rfl) (by decide) HMCC.out (by omega) (Nat.zero_le _) (wc.heap.size+1) (by simp) ?_;intro gC capC2 wC hown hgrow hat hlt2;obtain⟨⟨uC,p0C⟩,p1C,p2C,hx⟩:=HFIC.out _ wC gC capC2 HBDC.out hgrow hown (by rcases hat with e|e;exact .inl e;exact .inr (by omega));have HD2:=ah hx;clear hx hown hgrow hat hlt2)
    all_goals
     go_wp2
     go_roundw
     case rel =>
      have fin:∃ k':Nat,k'≤N∧Value.int .i64 ((k:Int)+1)=.int .i64 k'∧gV gp G n (dS g fr s false k' k') w (wC.setCell ⟨bC,fr+k,none⟩ (.slice (some ⟨gC,0,none⟩) (mC+1) capC2)):=⟨k+1,by omega,by go_num,HD2.out⟩
      first|exact fin|((repeat apply Exists.intro);exact⟨fin,rfl⟩)
     case measure=>simp[intOf];omega
  ·have hkn:k=N:=by omega
   have kl:decide (16*(k:Int)<(s.size:Int))=false:=decide_eq_false (by omega)
   rw[hkn] at hd;have HD:=ah hd;clear hd;go_wp2
   go_end0
   exact⟨rfl,HD.out⟩
theorem G7{gp n:Nat}{G:Gh}{g:GV}(fr N:Nat)(s:ByteArray)(well:Bool)(w:World)(h:IsG w gp G n g)(hn:n≤1000)(hs:s.size=16*N)(hN:fr+N≤n)(hlen:∀ k,k<n→(g.now k).length≤1000∧(g.cr k).length≤1000) :
  Calls Tryz.prog 141 #[.pointer (some ⟨gp,0,none⟩),.int .i64 (fr:Int),.string s,.bool well] w fun e w'=>e=.returned (.tuple #[])∧gV gp G n (dS g fr s well N N) w w':=by
 cases well with
 | true=>exact Ug fr N s w h hn hs hN hlen
 | false=>exact Ue fr N s w h hn hs hN hlen
end Go.Proofs.YtonhoahnieoebabGreatDoor
