/- Crash and Copy of a device: another device, as power that fails leaves it; the same one, apart. -/
import Derived.Test.YtonhoahnieoebabGreatDoorQDevFlush
import Derived.Deep.RegionLaw
set_option maxHeartbeats 1000000
set_option maxRecDepth 100000
namespace Go.Proofs.YtonhoahnieoebabGreatDoor
open Go.RowKit
attribute [local go_sem ↓] Go.wp_at_zero Go.wp_at_succ
theorem D7(w:World)(g o:Nat)(vs:List Value)(cur:Array Value)(t:TypeId)(hg:w.heap[g]?=some (.cells cur t (0,0)))(hfit:o+vs.length≤cur.size)(h1:∀ v∈vs,v.oneCell'=true) :
  w.setCells g o vs=w.setRow g (cur.toList.take o++vs++cur.toList.drop (o+vs.length)).toArray:=by
 have a:=run_storeCells_at (P:=Tryz.prog) g o t vs 0 cur w hg (by omega) h1
 have b:=run_storeCells_cells (P:=Tryz.prog) g o vs 0 w (fun j hj=>by rw[Nat.add_zero,cell_of_row _ _ _ _ _ _ hg];simp;omega) (fun j _=>frozen_of_row _ _ _ _ _ hg) h1
 rw[a] at b
 simp only[Nat.add_zero] at b
 injection b with _ b
 exact b.symm
theorem JQ(l:List (List UInt8))(i:Nat)(s:List UInt8)(hl:∀ x∈l,x.length=16)(hi:i<l.length) :
  cO (l.set i s)=(cO l).take (i*16)++bD s++(cO l).drop (i*16+16):=by
 induction l generalizing i with
 | nil=>simp at hi
 | cons x l ih =>
  have hx:=hl x (by simp)
  have hxl:(bD x).length=16:=by rw[oL,hx]
  have e:∀ y:List UInt8,∀ r,cO (y::r)=bD y++cO r:=fun y r=>by simp[cO]
  cases i with
  | zero =>
   rw[List.set_cons_zero,e,e]
   simp only[Nat.zero_mul,Nat.zero_add,List.take_zero,List.nil_append]
   rw[show(16:Nat)=(bD x).length by omega,List.drop_left]
  | succ i =>
   have h2:=ih i (fun y hy=>hl y (by simp[hy])) (by simpa using hi)
   rw[List.set_cons_succ,e,e,h2]
   rw[show(i+1)*16=(bD x).length+i*16 by omega,show(bD x).length+i*16+16=(bD x).length+(i*16+16) by omega]
   rw[List.take_append,List.drop_append]
   rw[List.take_of_length_le (show(bD x).length≤(bD x).length+i*16 by omega),List.drop_of_length_le (show(bD x).length≤(bD x).length+(i*16+16) by omega)]
   simp[List.append_assoc]
theorem BD{w:World}{B g n cap:Nat}{l:List (List UInt8)}(ho:w.ownsRow B 261 16 (.slice (some ⟨g,0,none⟩) n cap) n (cO l))(hn:l.length=n)(hl:∀ x∈l,x.length=16)(i:Nat)(s:List UInt8)(hs:s.length=16)(hi:i<n) :
  (w.setCells g (i*16) (bD s)).ownsRow B 261 16 (.slice (some ⟨g,0,none⟩) n cap) n (cO (l.set i s)):=by
 subst hn
 obtain⟨hB,cur,hh,h1,h2,h3,h4⟩:=fP ho
 have hsl:(bD s).length=16:=by rw[oL,hs]
 have hsz:cur.toList.length=cap*16:=by simpa using h3
 rw[D7 w g (i*16) (bD s) cur _ hh (by omega) (qV _)]
 have hset:∀ x∈l.set i s,x.length=16:=fun x hx=>by
  rcases List.mem_or_eq_of_mem_set hx with h|h
  ·exact hl x h
  ·rw[h];exact hs
 refine⟨by rw[vW _ hset,List.length_set],.inr ⟨g,cap,_,rfl,hB,setRow_heap w g cur _ _ _ hh,h1,h2,?_,?_⟩⟩
 ·simp[hsl];omega
 ·rw[JQ l i s hl hi,hsl,← h4]
  show(cur.toList.take (i*16)++bD s++cur.toList.drop (i*16+16)).take (l.length*16)=_
  rw[List.take_append,List.take_append,List.take_take,List.take_take,List.drop_take]
  simp only[List.length_append,List.length_take,hsl,hsz]
  rw[show min (i*16) (cap*16)=i*16 by omega,show min (l.length*16) (i*16)=i*16 by omega,List.take_of_length_le (show(bD s).length≤l.length*16-i*16 by omega),show l.length*16-(i*16+16)=l.length*16-(i*16+16) from rfl]
  rw[show min (i*16) (l.length*16)=i*16 by omega]
theorem Jl(l:List (Nat × List UInt8))(i:Nat)(h:∀ x∈l,x.2.length=16)(hi:i<l.length):((gG l).drop (i*17)).take 17=wrV (l.getD i (0,[])):=by
 induction l generalizing i with
 | nil=>simp at hi
 | cons s l ih =>
  have hs:=h s (by simp)
  have hsl:(wrV s).length=17:=by rw[xH,hs]
  have e:gG (s::l)=wrV s++gG l:=by simp[gG]
  rw[e]
  cases i with
  | zero=>simp[List.take_append_of_le_length (show 17≤(wrV s).length by omega),List.take_of_length_le (show(wrV s).length≤17 by omega)]
  | succ i =>
   have h2:=ih i (fun x hx=>h x (by simp[hx])) (by simpa using hi)
   rw[show(i+1)*17=(wrV s).length+i*17 by omega,List.drop_append]
   simp only[Nat.add_sub_cancel_left,List.getD_cons_succ]
   rw[List.drop_of_length_le (by omega),List.nil_append]
   exact h2
theorem QJ{w:World}{B g cap:Nat}{l:List (Nat × List UInt8)}(ho:w.ownsRow B 266 17 (.slice (some ⟨g,0,none⟩) l.length cap) l.length (gG l))(hl:∀ x∈l,x.2.length=16)(i:Nat)(hi:i<l.length) :
  w.rangeAt g (i*17) (wrV (l.getD i (0,[]))):=by
 intro j v hv
 rw[← Jl l i hl hi] at hv
 rcases Nat.lt_or_ge j 17 with h|h
 ·rw[ho.cellAt (i*17+j) (by omega)]
  rw[List.getElem?_take_of_lt h,List.getElem?_drop] at hv;exact hv
 ·rw[List.getElem?_eq_none (by simp;omega)] at hv;cases hv
def fO(pend:List (Nat × List UInt8))(ks:List Bool)(l:List (List UInt8)):Nat→List (List UInt8)
 | 0=>l
 | k+1=>if ks.getD k false then (fO pend ks l k).set (pend.getD k (0,[])).1 (pend.getD k (0,[])).2 else fO pend ks l k
theorem Gj{pend:List (Nat × List UInt8)}{ks:List Bool}{l:List (List UInt8)}{k:Nat}(e:ks.getD k false=false):fO pend ks l (k+1)=fO pend ks l k:=by
 show(if ks.getD k false then _ else _)=_
 rw[e];rfl
theorem Gv{pend:List (Nat × List UInt8)}{ks:List Bool}{l:List (List UInt8)}{k:Nat}(e:ks.getD k false=true):fO pend ks l (k+1)=(fO pend ks l k).set (pend.getD k (0,[])).1 (pend.getD k (0,[])).2:=by
 show(if ks.getD k false then _ else _)=_
 rw[e];rfl
theorem sF(pend:List (Nat × List UInt8))(ks:List Bool)(l:List (List UInt8))(k:Nat):(fO pend ks l k).length=l.length:=by
 induction k with
 | zero=>rfl
 | succ k ih=>unfold fO;split<;>simp[ih]
theorem Ag(pend:List (Nat × List UInt8))(ks:List Bool)(l:List (List UInt8))(k:Nat)(hk:k≤pend.length)(hl:∀ s∈l,s.length=16)(hp:∀ x∈pend,x.2.length=16):∀ s∈fO pend ks l k,s.length=16:=by
 induction k with
 | zero=>exact hl
 | succ k ih =>
  have h2:=ih (by omega)
  unfold fO
  split
  ·intro s hs
   rcases List.mem_or_eq_of_mem_set hs with h|h
   ·exact h2 s h
   ·rw[h,List.getD_eq_getElem?_getD,List.getElem?_eq_getElem (show k<pend.length by omega)]
    exact hp _ (List.getElem_mem _)
  ·exact h2
def Bools(w:World)(ka:Option Addr)(kl:Nat)(ks:List Bool):Prop :=
 ks.length=kl∧∀ j,j<kl→∃ b off,ka=some ⟨b,off,none⟩∧w.cell? ⟨b,off+j,none⟩=some (.bool (ks.getD j false))
theorem Bools.below{w w':World}{la:Option Addr}{len:Nat}{ls:List Bool}(h:Bools w la len ls)(hb:Below w.heap.size w w'):Bools w' la len ls:=by
 refine⟨h.1,fun k hk=>?_⟩
 obtain⟨b,off,e,hc⟩:=h.2 k hk
 exact⟨b,off,e,by rw[hb.cell (World.block_lt_of_cell? w _ hc)];exact hc⟩
theorem Ie:(Tryz.prog.info? 266).map (·.size)=some 17:=by kernel_rfl
theorem FN{w:World}{b:Nat}{x:Nat × List UInt8}(h:w.rangeAt b 0 (wrV x)):w.cell? ⟨b,0,none⟩=some (.int .i64 (x.1:Int))∧w.rangeAt b 1 (bD x.2):=by
 refine⟨by simpa using h 0 (.int .i64 (x.1:Int)) rfl,fun j v hv=>?_⟩
 have:=h (j+1) v (by simpa [wrV] using hv)
 rw[show 1+j=0+(j+1) by omega];exact this
theorem Bq{B:Nat}{h:Hd}{d:DV}(ka:Option Addr)(kl kc:Nat)(ks:List Bool)(w:World)(hd:aI B w h d)(hK:Bools w ka kl ks)(hkl:kl≤maxLen) :
  Calls Tryz.prog 108 #[.pointer (some ⟨h.p,0,none⟩),.slice ka kl kc] w fun e w' =>
   ∃ h':Hd,e=.returned (.pointer (some ⟨h'.p,0,none⟩))∧aI w.heap.size w' h' (DV.made (fO d.pend ks d.fl d.pend.length) d.wr)∧Below w.heap.size w w':=by
 obtain⟨c0,c1,c2,c3,c4,fz⟩:=hd.cells
 unfold maxLen at hkl
 have hpl:h.p<w.heap.size:=(hd.lt _ (.inl rfl)).2
 have HD:Hid (aI B w h d):=hd
 have HK:Hid (Bools w ka kl ks):=hK
 have h200:=hd.ok.n2
 have h1:=hd.ok.n1
 have hpw:=hd.ok.few
 have hpw2:=hd.ok.few2
 obtain⟨va,vc,hv2⟩:=hd.v2
 rw[hv2] at c2
 have HV:Hid (h.v2=.slice va d.pend.length vc):=hv2
 clear hd hK fz c1 c4 hv2
 go_enter Tryz.func108,Tryz.ntmps108
 go_wp2_with fail
 refine(wZ d.fl w h1 h200 HD.out.ok.l1 HD.out.of).mono ?_
 rintro e w1 ⟨gl,cl,rfl,ho1,hb1⟩
 have c2':w1.cell? ⟨h.p,2,none⟩=some (.slice va d.pend.length vc):=by rw[hb1.cell hpl];exact c2
 have HO1:Hid (w1.ownsRow w.heap.size 261 16 (.slice (some ⟨gl,0,none⟩) d.fl.length cl) d.fl.length (cO d.fl)):=ho1
 have HB1:Hid (Below w.heap.size w w1):=hb1
 clear ho1 hb1
 go_wp2
 go_loopw [18] (fun i wr=>∃ k:Nat,k≤d.pend.length∧i=.int .i64 k∧wr.ownsRow w.heap.size 261 16 (.slice (some ⟨gl,0,none⟩) d.fl.length cl) d.fl.length (cO (fO d.pend ks d.fl k))∧Below w.heap.size w wr) (fun i _=>d.pend.length-(intOf i).toNat)
 case atStart=>exact⟨0,Nat.zero_le _,rfl,HO1.out,HB1.out⟩
 case round =>
  obtain⟨k,hk,rfl,how,hbel⟩:=hrel
  clear c2'
  by_cases hlt:k<d.pend.length
  ·obtain⟨gp,cp,hvv,_,hgpl⟩:=HD.out.op.form (by omega)
   rw[HV.out] at hvv
   cases hvv
   have hopw:=HD.out.op
   rw[HV.out] at hopw
   have hl3:∀ x∈d.pend,x.2.length=16:=fun x hx=>(HD.out.ok.l3 x hx).2
   have hr0:=QJ hopw hl3 k hlt
   have hxm:d.pend.getD k (0,[])∈d.pend:=by
    rw[List.getD_eq_getElem?_getD,List.getElem?_eq_getElem hlt];exact List.getElem_mem _
   have hx1:=(HD.out.ok.l3 _ hxm).1
   have hx2:=(HD.out.ok.l3 _ hxm).2
   have HR:Hid (wr.rangeAt gp (k*17) (wrV (d.pend.getD k (0,[])))):=fun j v hv=>by
    rw[hbel.cell (p:=⟨gp,k*17+j,none⟩) hgpl];exact hr0 j v hv
   have h16:=Ag d.pend ks d.fl k hk HD.out.ok.l1 hl3
   have hkl2:=sF d.pend ks d.fl k
   have HST:Hid (ks.getD k false=true→fO d.pend ks d.fl (k+1)=(fO d.pend ks d.fl k).set (d.pend.getD k (0,[])).1 (d.pend.getD k (0,[])).2):=fun e=>Gv e
   have HSF:Hid (ks.getD k false=false→fO d.pend ks d.fl (k+1)=fO d.pend ks d.fl k):=fun e=>Gj e
   have HKB:=HK.out.below (HB1.out.trans (Below.refl _ _))
   clear hopw hr0 hxm hl3 HKB
   generalize d.pend.getD k (0,[])=x at HR hx1 hx2 HST
   generalize fO d.pend ks d.fl k=lk at how h16 hkl2 HST HSF
   have HL16:Hid (∀ s∈lk,s.length=16):=h16
   have HOW:Hid (wr.ownsRow w.heap.size 261 16 (.slice (some ⟨gl,0,none⟩) d.fl.length cl) d.fl.length (cO lk)):=how
   have hwl:(wrV x).length=17:=by rw[xH,hx2]
   have hone:∀ u∈wrV x,u.oneCell'=true:=fun u hu=>zK [x] u (by simpa [gG] using hu)
   have hone2:=qV x.2
   have hsl:(bD x.2).length=16:=by rw[oL,hx2]
   have HI:Hid ((Tryz.prog.info? 266).map (·.size)=some (wrV x).length):=by unfold Hid;rw[hwl];exact Ie
   have HI2:Hid ((Tryz.prog.info? 266).map (·.size)=some (wrV x).toArray.size):=by unfold Hid;rw[List.size_toArray];exact HI.out
   have HA:Hid ((wrV x).toArray.all (·.oneCell')=true):=all_oneCell_toArray hone
   have HTH:Hid ((wr.alloc (.cells #[.int .i64 0,.int .u8 0,.int .u8 0,.int .u8 0,.int .u8 0,.int .u8 0,.int .u8 0,.int .u8 0,.int .u8 0,.int .u8 0,.int .u8 0,.int .u8 0,.int .u8 0,.int .u8 0,.int .u8 0,.int .u8 0,.int .u8 0] 266)).there wr.heap.size 0 (wrV x).toArray.size):=zi wr _ _ _ (by simp[hwl])
   have hR3:((wr.alloc (.cells #[.int .i64 0,.int .u8 0,.int .u8 0,.int .u8 0,.int .u8 0,.int .u8 0,.int .u8 0,.int .u8 0,.int .u8 0,.int .u8 0,.int .u8 0,.int .u8 0,.int .u8 0,.int .u8 0,.int .u8 0,.int .u8 0,.int .u8 0] 266)).setCells wr.heap.size 0 (wrV x)).rangeAt wr.heap.size 0 (wrV x):=World.rangeAt_setCells_same _ _ _ _ (zi wr _ _ _ (by simp[hwl]))
   obtain⟨hN0,hN1⟩:=FN hR3
   have HN1:Hid (((wr.alloc (.cells #[.int .i64 0,.int .u8 0,.int .u8 0,.int .u8 0,.int .u8 0,.int .u8 0,.int .u8 0,.int .u8 0,.int .u8 0,.int .u8 0,.int .u8 0,.int .u8 0,.int .u8 0,.int .u8 0,.int .u8 0,.int .u8 0,.int .u8 0] 266)).setCells wr.heap.size 0 (wrV x)).rangeAt wr.heap.size 1 (bD x.2)):=hN1
   have HJ:Hid ((Tryz.prog.info? 261).map (·.size)=some (bD x.2).length):=by unfold Hid;rw[hsl];exact G9
   have HJ2:Hid ((Tryz.prog.info? 261).map (·.size)=some (bD x.2).toArray.size):=by unfold Hid;rw[List.size_toArray];exact HJ.out
   have HA2:Hid ((bD x.2).toArray.all (·.oneCell')=true):=all_oneCell_toArray hone2
   obtain⟨hBl,curl,hhl,hl1,_,hl3,_⟩:=fP HOW.out
   have hgl:gl<wr.heap.size:=lt_of_some hhl
   have hbs:=hbel.size
   have HOW3:Hid (((wr.alloc (.cells #[.int .i64 0,.int .u8 0,.int .u8 0,.int .u8 0,.int .u8 0,.int .u8 0,.int .u8 0,.int .u8 0,.int .u8 0,.int .u8 0,.int .u8 0,.int .u8 0,.int .u8 0,.int .u8 0,.int .u8 0,.int .u8 0,.int .u8 0] 266)).setCells wr.heap.size 0 (wrV x)).ownsRow w.heap.size 261 16 (.slice (some ⟨gl,0,none⟩) d.fl.length cl) d.fl.length (cO lk)):=dB HOW.out (fun q e=>by
    have:gl=q:=by simpa [Value.ownBlock] using e
    subst this
    rw[heap_setCells_other _ _ (by omega),Below.heap_alloc _ _ _ hgl])
   have HTH2:Hid (((wr.alloc (.cells #[.int .i64 0,.int .u8 0,.int .u8 0,.int .u8 0,.int .u8 0,.int .u8 0,.int .u8 0,.int .u8 0,.int .u8 0,.int .u8 0,.int .u8 0,.int .u8 0,.int .u8 0,.int .u8 0,.int .u8 0,.int .u8 0,.int .u8 0] 266)).setCells wr.heap.size 0 (wrV x)).there gl (x.1*16) (bD x.2).toArray.size):=by
    intro j hj
    obtain⟨_,cur4,hh4,h41,_,h43,_⟩:=fP HOW3.out
    have hj':j<16:=by simpa [hsl] using hj
    rw[cell_of_row _ _ _ _ _ _ hh4,frozen_of_row _ _ _ _ _ hh4]
    exact⟨by simp;omega,rfl⟩
   have HB3:Hid (Below w.heap.size w ((wr.alloc (.cells #[.int .i64 0,.int .u8 0,.int .u8 0,.int .u8 0,.int .u8 0,.int .u8 0,.int .u8 0,.int .u8 0,.int .u8 0,.int .u8 0,.int .u8 0,.int .u8 0,.int .u8 0,.int .u8 0,.int .u8 0,.int .u8 0,.int .u8 0] 266)).setCells wr.heap.size 0 (wrV x))):=Below.setCells (hbel.alloc hbs _) hbs 0 _
   have HB4:Hid (Below w.heap.size w (((wr.alloc (.cells #[.int .i64 0,.int .u8 0,.int .u8 0,.int .u8 0,.int .u8 0,.int .u8 0,.int .u8 0,.int .u8 0,.int .u8 0,.int .u8 0,.int .u8 0,.int .u8 0,.int .u8 0,.int .u8 0,.int .u8 0,.int .u8 0,.int .u8 0] 266)).setCells wr.heap.size 0 (wrV x)).setCells gl (x.1*16) (bD x.2))):=Below.setCells HB3.out hBl _ _
   have HOW4:Hid ((((wr.alloc (.cells #[.int .i64 0,.int .u8 0,.int .u8 0,.int .u8 0,.int .u8 0,.int .u8 0,.int .u8 0,.int .u8 0,.int .u8 0,.int .u8 0,.int .u8 0,.int .u8 0,.int .u8 0,.int .u8 0,.int .u8 0,.int .u8 0,.int .u8 0] 266)).setCells wr.heap.size 0 (wrV x)).setCells gl (x.1*16) (bD x.2)).ownsRow w.heap.size 261 16 (.slice (some ⟨gl,0,none⟩) d.fl.length cl) d.fl.length (cO (lk.set x.1 x.2))):=BD HOW3.out hkl2 HL16.out x.1 x.2 hx2 hx1
   have HKW:Hid (Bools ((wr.alloc (.cells #[.int .i64 0,.int .u8 0,.int .u8 0,.int .u8 0,.int .u8 0,.int .u8 0,.int .u8 0,.int .u8 0,.int .u8 0,.int .u8 0,.int .u8 0,.int .u8 0,.int .u8 0,.int .u8 0,.int .u8 0,.int .u8 0,.int .u8 0] 266)).setCells wr.heap.size 0 (wrV x)) ka kl ks):=HK.out.below HB3.out
   clear how hbel hR3 hN1 hhl h16 hkl2 hone
   by_cases hkk:k<kl
   ·obtain⟨kb,ko,rfl,hkcell⟩:=HKW.out.2 k hkk
    cases hbk:ks.getD k false with
    | true =>
     rw[hbk] at hkcell
     have HX:Hid (fO d.pend ks d.fl (k+1)=lk.set x.1 x.2):=HST.out hbk
     clear HST HSF hbk
     go_wp2_with (first
      | (refine wpList_load_mid (by rfl) 266 (.tmp 21) (by rfl) gp (k*17) (by rfl) (wrV x) _ HR.out Tryz.underlying266 rfl HI.out ?_)
      | (refine wpList_store_mid (by rfl) 266 (.tmp 7) (.tmp 22) (by rfl) wr.heap.size 0 (wrV x).toArray (by rfl) (by rfl) HTH.out HI2.out HA.out ?_)
      | (refine wpList_load_mid (by rfl) 261 (.tmp 36) (by rfl) wr.heap.size 1 (by rfl) (bD x.2) _ HN1.out Tryz.underlying261 rfl HJ.out ?_)
      | (refine wpList_store_mid (by rfl) 261 (.tmp 38) (.tmp 37) (by rfl) gl (x.1*16) (bD x.2).toArray (by rfl) (by rfl) HTH2.out HJ2.out HA2.out ?_))
     refine⟨⟨k+1,by omega,by go_num,?_,HB4.out⟩,by simp[intOf];omega⟩
     rw[HX.out];exact HOW4.out
    | false =>
     rw[hbk] at hkcell
     have HX:Hid (fO d.pend ks d.fl (k+1)=lk):=HSF.out hbk
     clear HST HSF hbk
     go_wp2_with (first
      | (refine wpList_load_mid (by rfl) 266 (.tmp 21) (by rfl) gp (k*17) (by rfl) (wrV x) _ HR.out Tryz.underlying266 rfl HI.out ?_)
      | (refine wpList_store_mid (by rfl) 266 (.tmp 7) (.tmp 22) (by rfl) wr.heap.size 0 (wrV x).toArray (by rfl) (by rfl) HTH.out HI2.out HA.out ?_))
     refine⟨⟨k+1,by omega,by go_num,?_,HB3.out⟩,by simp[intOf];omega⟩
     rw[HX.out];exact HOW3.out
   ·have hbk:ks.getD k false=false:=by
     rw[List.getD_eq_getElem?_getD,List.getElem?_eq_none (by rw[HKW.out.1];omega)];rfl
    have HX:Hid (fO d.pend ks d.fl (k+1)=lk):=HSF.out hbk
    have hdk:decide ((k:Int)<kl)=false:=by simp;omega
    clear HST HSF hbk
    go_wp2_with (first
      | (refine wpList_load_mid (by rfl) 266 (.tmp 21) (by rfl) gp (k*17) (by rfl) (wrV x) _ HR.out Tryz.underlying266 rfl HI.out ?_)
      | (refine wpList_store_mid (by rfl) 266 (.tmp 7) (.tmp 22) (by rfl) wr.heap.size 0 (wrV x).toArray (by rfl) (by rfl) HTH.out HI2.out HA.out ?_))
    refine⟨⟨k+1,by omega,by go_num,?_,HB3.out⟩,by simp[intOf];omega⟩
    rw[HX.out];exact HOW3.out
  ·have hkn:k=d.pend.length:=by omega
   subst hkn
   have c3':wr.cell? ⟨h.p,3,none⟩=some (.int .i64 (d.wr:Int)):=by rw[hbel.cell hpl];exact c3
   have hl3:∀ x∈d.pend,x.2.length=16:=fun x hx=>(HD.out.ok.l3 x hx).2
   have h16:=Ag d.pend ks d.fl d.pend.length (Nat.le_refl _) HD.out.ok.l1 hl3
   have hkl2:=sF d.pend ks d.fl d.pend.length
   have hmd:=BA (g:=gl) (cap:=cl) (fO d.pend ks d.fl d.pend.length) d.wr wr (by omega) (by omega) h16 hpw2 (by rw[hkl2];exact how) hbel.size
   rw[hkl2] at hmd
   have HM:Hid (Calls Tryz.prog 152 #[.slice (some ⟨gl,0,none⟩) d.fl.length cl,.int .i64 (d.wr:Int)] wr fun e w' =>
    ∃ h:Hd,e=.returned (.pointer (some ⟨h.p,0,none⟩))∧aI w.heap.size w' h (DV.made (fO d.pend ks d.fl d.pend.length) d.wr)∧Below wr.heap.size wr w'∧h.bf=gl∧wr.heap.size≤h.p∧wr.heap.size≤h.bs∧h.v2=.slice none 0 0):=hmd
   have HBL:Hid (Below w.heap.size w wr):=hbel
   clear hmd how h16 hkl2 hl3 hbel
   go_wp2_with fail
   refine HM.out.mono ?_
   rintro e w5 ⟨h',rfl,hd5,hb5,_⟩
   have HD5:Hid (aI w.heap.size w5 h' (DV.made (fO d.pend ks d.fl d.pend.length) d.wr)):=hd5
   clear hd5 HM
   go_wp2
   go_ret
   exact⟨h',rfl,HD5.out,HBL.out.trans (hb5.mono HBL.out.size)⟩
theorem Pj(s:ByteArray):byteCells s=bD s.data.toList:=rfl
theorem TQ(w:World)(g off:Nat)(s:ByteArray)(n cap:Nat)(cur:List Value)(t:TypeId)(hn:s.size=n)(hg:w.heap[g]?=some (.cells cur.toArray t (0,0)))(hfit:off+n≤cur.length) :
  (Builtin.copy_ #[206,9] 3 #[.slice (some ⟨g,off,none⟩) n cap,.string s]).run Tryz.prog w=.ok (.int .i64 (n:Int)) (w.setRow g (splice cur off (bD s.data.toList)).toArray):=by
 subst hn
 have hlen:(bD s.data.toList).length=s.size:=by rw[oL];simp
 have hst:=run_storeCells_at (P:=Tryz.prog) g off t (bD s.data.toList) 0 cur.toArray w hg (by simp[hlen];omega) (qV _)
 have hsz:∀ w:World,(sizeOf 5).run Tryz.prog w=.ok 1 w:=fun _=>by kernel_rfl
 have hfc:=firstCells_string (P:=Tryz.prog) s w
 rw[Pj] at hfc
 simp[Builtin.copy_,run_underlying Tryz.underlying206,Builtin.lenOf,hsz,hfc,hst,goInt,splice]
theorem Rl{B:Nat}{h:Hd}{d:DV}(at_:Int)(s:ByteArray)(w:World)(hd:aI B w h d)(hs:s.size=16)(hn:d.has at_=true)(hf:d.fail=0) :
  Calls Tryz.prog 214 #[.pointer (some ⟨h.p,0,none⟩),.int .i64 at_,.string s] w fun e w'=>e=.returned (.iface 127 (.int .i64 7))∧aI B w' h (d.failing (-1))∧Kept h.fp w w':=by
 have HH:=zS at_ w hd
 rw[hn] at HH
 have HF:=Qp w hd (by omega)
 rw[hf] at HF
 have h16:((s.size:Int) != 16)=false:=by simp;omega
 clear hn hd hf
 have HH1:Hid (Calls Tryz.prog 231 #[.pointer (some ⟨h.p,0,none⟩),.int .i64 at_] w fun e w'=>e=.returned (.bool true)∧w'=w):=HH
 have HF1:Hid (Calls Tryz.prog 259 #[.pointer (some ⟨h.p,0,none⟩)] w fun e w'=>e=.returned (.bool (decide ((0:Int)=0)))∧aI B w' h (d.failing (0-1))∧Kept h.fp w w'):=HF
 clear HH HF
 go_enter Tryz.func214,Tryz.ntmps214
 go_wp2_with fail
 refine HH1.out.mono ?_
 rintro e w' ⟨rfl,hw⟩
 have hw':=hw.symm
 subst hw'
 clear hw
 go_wp2_with fail
 refine HF1.out.mono ?_
 rintro e w1 ⟨rfl,hd1,hk1⟩
 have HD1:Hid (aI B w1 h (d.failing (0-1))):=hd1
 clear hd1
 go_wp2
 go_ret
 exact⟨rfl,HD1.out,hk1⟩
theorem Ot(w1:World)(i:Nat)(s:ByteArray)(hs:s.size=16) :
    (Builtin.copy_ #[206,9] 3 #[.slice (some ⟨w1.heap.size,1,none⟩) 16 16,.string s]).run Tryz.prog (w1.alloc (.cells #[.int .i64 (i:Int),.int .u8 0,.int .u8 0,.int .u8 0,.int .u8 0,.int .u8 0,.int .u8 0,.int .u8 0,.int .u8 0,.int .u8 0,.int .u8 0,.int .u8 0,.int .u8 0,.int .u8 0,.int .u8 0,.int .u8 0,.int .u8 0] 266)) =
      .ok (.int .i64 16) (w1.alloc (.cells (wrV (i,s.data.toList)).toArray 266)):=by
  have:=TQ (w1.alloc (.cells #[.int .i64 (i:Int),.int .u8 0,.int .u8 0,.int .u8 0,.int .u8 0,.int .u8 0,.int .u8 0,.int .u8 0,.int .u8 0,.int .u8 0,.int .u8 0,.int .u8 0,.int .u8 0,.int .u8 0,.int .u8 0,.int .u8 0,.int .u8 0] 266)) w1.heap.size 1 s 16 16 [.int .i64 (i:Int),.int .u8 0,.int .u8 0,.int .u8 0,.int .u8 0,.int .u8 0,.int .u8 0,.int .u8 0,.int .u8 0,.int .u8 0,.int .u8 0,.int .u8 0,.int .u8 0,.int .u8 0,.int .u8 0,.int .u8 0,.int .u8 0] 266 hs (heap_alloc_new w1 _) (by simp)
  rw[this,World.setRow_alloc_new]
  have hl:(bD s.data.toList).length=16:=by rw[oL];simpa using hs
  congr 4
  simp[splice,wrV,hl]
theorem IW(w:World)(c:Array Value)(t:TypeId)(vs:List Value)(h:c.size=vs.length)(h1:∀ v∈vs,v.oneCell'=true):(w.alloc (.cells c t)).setCells w.heap.size 0 vs=w.alloc (.cells vs.toArray t):=by
 rw[D7 _ _ _ _ c t (heap_alloc_new w _) (by omega) h1,World.setRow_alloc_new]
 congr 3
 simp[← h]
def DV.wrote(d:DV)(i:Nat)(s:List UInt8):DV:={ d with seen:=d.seen.set i s,pend:=d.pend++[(i,s)],wr:=d.wr+1 }
theorem DV.ok.wrote{d:DV}(h:d.ok){i:Nat}{s:List UInt8}(hi:i<d.fl.length)(hs:s.length=16)(hw:d.wr<1000000000):(d.wrote i s).ok:=by
 refine⟨h.n1,h.n2,?_,h.l1,fun x hx=>?_,fun x hx=>?_,?_,?_,h.f1,h.f2⟩
 ·show(d.seen.set i s).length=_;rw[List.length_set];exact h.same
 ·rcases List.mem_or_eq_of_mem_set hx with q|q
  ·exact h.l2 x q
  ·rw[q];exact hs
 ·rcases List.mem_append.1 hx with q|q
  ·exact h.l3 x q
  ·have:x=(i,s):=by simpa using q
   subst this;exact⟨hi,hs⟩
 ·show(d.pend++[(i,s)]).length≤d.wr+1;rw[List.length_append];have:=h.few;simp;omega
 ·show d.wr+1≤_;omega
structure Mid(B:Nat)(w1 w3:World)(h:Hd)(d:DV)(i:Nat)(s:List UInt8)(v:Value):Prop where
 bp:w3.heap[h.p]?=some (.cells #[.slice (some ⟨h.bf,0,none⟩) d.fl.length h.cf,.slice (some ⟨h.bs,0,none⟩) d.fl.length h.cs,v,.int .i64 (d.wr:Int),.int .i64 d.fail] 264 (0,0))
 bf:w3.heap[h.bf]?=w1.heap[h.bf]?
 bs:w3.heap[h.bs]?=w1.heap[h.bs]?
 bn:w3.heap[w1.heap.size]?=some (.cells (wrV (i,s)).toArray 266 (0,0))
 ow:w3.ownsRow B 266 17 v (d.pend.length+1) (gG (d.pend++[(i,s)]))
 at_:v.ownBlock=h.v2.ownBlock∨v.ownBlock=some (w1.heap.size+2)
 kept:Kept h.fp w1 w3
theorem JF{B:Nat}{w1 w2:World}{h:Hd}{d:DV}(hd:aI B w1 h d)(i:Nat)(s:List UInt8)(g cap:Nat)
  (hown:w2.ownsRow B 266 17 (.slice (some ⟨g,0,none⟩) (d.pend.length+1) cap) (d.pend.length+1) (gG d.pend++wrV (i,s)))
  (hgrow:(((w1.alloc (.cells (wrV (i,s)).toArray 266)).alloc (.cells (wrV (i,s)).toArray 266)).drew).grownBy w2 h.v2.ownBlock)
  (hat:h.v2.ownBlock=some g∨g=w1.heap.size+2):Mid B w1 (w2.setCell ⟨h.p,2,none⟩ (.slice (some ⟨g,0,none⟩) (d.pend.length+1) cap)) h d i s (.slice (some ⟨g,0,none⟩) (d.pend.length+1) cap):=by
 obtain⟨a1,a2,a3,a4,a5⟩:=hd.apart
 have hlt:=hd.lt
 have hpl:=(hlt h.p (.inl rfl)).2
 have hfl:=(hlt h.bf (.inr (.inl rfl))).2
 have hsl:=(hlt h.bs (.inr (.inr (.inl rfl)))).2
 have hW:∀ k,k<w1.heap.size→(((w1.alloc (.cells (wrV (i,s)).toArray 266)).alloc (.cells (wrV (i,s)).toArray 266)).drew).heap[k]?=w1.heap[k]?:=fun k hk=>by
  show((w1.alloc _).alloc _).heap[k]?=_
  rw[Below.heap_alloc _ _ _ (by simp;omega),Below.heap_alloc _ _ _ hk]
 have hsz:(((w1.alloc (.cells (wrV (i,s)).toArray 266)).alloc (.cells (wrV (i,s)).toArray 266)).drew).heap.size=w1.heap.size+2:=by
  show((w1.alloc _).alloc _).heap.size=_
  simp
 have hN:(((w1.alloc (.cells (wrV (i,s)).toArray 266)).alloc (.cells (wrV (i,s)).toArray 266)).drew).heap[w1.heap.size]?=some (.cells (wrV (i,s)).toArray 266 (0,0)):=heap_alloc2_old w1 _ _
 have h2:∀ k,k<w1.heap.size→h.v2.ownBlock≠some k→w2.heap[k]?=w1.heap[k]?:=fun k hk hne=>by
  rw[hgrow.block k (by omega) (Ne.symm hne),hW k hk]
 have hp2:w2.heap[h.p]?=_:=(h2 h.p hpl a3).trans hd.blk
 obtain⟨hgB,curg,hhg,_⟩:=fP hown
 have hgp:g≠h.p:=fun e=>by rw[e,hp2] at hhg;cases hhg
 have hown':gG (d.pend++[(i,s)])=gG d.pend++wrV (i,s):=by simp[gG]
 refine⟨?_,?_,?_,?_,?_,?_,?_⟩
 ·rw[heap_setCell_same w2 h.p 2 _ _ _ hp2];rfl
 ·rw[heap_setCell_other _ _ _ _ a1];exact h2 _ hfl a4
 ·rw[heap_setCell_other _ _ _ _ a2];exact h2 _ hsl a5
 ·rw[heap_setCell_other _ _ _ _ (show w1.heap.size≠h.p by omega),hgrow.block w1.heap.size (by omega) (fun e=>by
   have:=(hlt w1.heap.size (.inr (.inr (.inr e.symm)))).2
   omega)]
  exact hN
 ·rw[hown']
  exact dB hown (fun k e=>by
   have:g=k:=by simpa [Value.ownBlock] using e
   subst this
   exact heap_setCell_other _ _ _ _ hgp)
 ·rcases hat with q|q
  ·left;rw[q];rfl
  ·right;rw[q];rfl
 ·refine⟨hgrow.os,hgrow.tape,hgrow.output,?_,fun k hk hs=>?_⟩
  ·have:=hgrow.size
   rw[hsz] at this
   simp[World.setCell];omega
  ·rw[heap_setCell_other _ _ _ _ (fun e=>hs (.inl e)),h2 k hk (fun e=>hs (.inr (.inr (.inr e))))]
theorem Mid.reads{B:Nat}{w1 w3:World}{h:Hd}{d:DV}{i:Nat}{s:List UInt8}{v:Value}(m:Mid B w1 w3 h d i s v)(hd:aI B w1 h d)(hi:i<d.fl.length) :
  w3.cell? ⟨h.p,1,none⟩=some (.slice (some ⟨h.bs,0,none⟩) d.fl.length h.cs)∧w3.rangeAt w1.heap.size 1 (bD s)∧w3.there h.bs (i*16) 16:=by
 refine⟨by rw[cell_of_row _ _ _ _ _ _ m.bp];rfl,(FN (x:=(i,s)) (fun j v hv=>?_)).2,fun j hj=>?_⟩
 ·rw[Nat.zero_add,cell_of_row _ _ _ _ _ _ m.bn];simpa using hv
 ·obtain⟨_,cur,hh,h1,_,h3,_⟩:=fP hd.os
  rw[← m.bs] at hh
  rw[cell_of_row _ _ _ _ _ _ hh,frozen_of_row _ _ _ _ _ hh]
  exact⟨by simp;omega,rfl⟩
theorem Mid.fin{B:Nat}{w1 w3 w4:World}{h:Hd}{d:DV}{i:Nat}{s:List UInt8}{v:Value}(m:Mid B w1 w3 h d i s v)(hd:aI B w1 h d)(hi:i<d.fl.length)(hs:s.length=16)(hw:d.wr<1000000000)
  (hh:w4.heap=w3.heap) (ho:w4.os=w3.os∧w4.tape=w3.tape∧w4.output=w3.output) :
  aI B ((w4.setCells h.bs (i*16) (bD s)).setCell ⟨h.p,3,none⟩ (.int .i64 ((d.wr:Int)+1))) { h with v2:=v } (d.wrote i s)∧Kept h.fp w1 ((w4.setCells h.bs (i*16) (bD s)).setCell ⟨h.p,3,none⟩ (.int .i64 ((d.wr:Int)+1))) ∧
   (w4.setCells h.bs (i*16) (bD s)).cell? ⟨h.p,3,none⟩=some (.int .i64 (d.wr:Int))∧(w4.setCells h.bs (i*16) (bD s)).frozen? ⟨h.p,3,none⟩=false:=by
 obtain⟨a1,a2,a3,a4,a5⟩:=hd.apart
 have hp5:(w4.setCells h.bs (i*16) (bD s)).heap[h.p]?=some (.cells #[.slice (some ⟨h.bf,0,none⟩) d.fl.length h.cf,.slice (some ⟨h.bs,0,none⟩) d.fl.length h.cs,v,.int .i64 (d.wr:Int),.int .i64 d.fail] 264 (0,0)):=by
  rw[heap_setCells_other _ _ (Ne.symm a2),hh];exact m.bp
 have ow4:w4.ownsRow B 266 17 v (d.pend.length+1) (gG (d.pend++[(i,s)])):=dB m.ow (fun k _=>by rw[hh])
 have vne:∀ k,v.ownBlock=some k→∃ cur,w3.heap[k]?=some (.cells cur 266 (0,0)):=fun k e=>by
  rcases m.ow.2 with⟨q,_⟩|⟨g,cap,cur,q,_,hg,_⟩
  ·rw[q] at e;cases e
  ·rw[q] at e
   have:g=k:=by simpa [Value.ownBlock] using e
   subst this
   exact⟨cur,hg⟩
 obtain⟨_,curs,hhs,_⟩:=fP hd.os
 obtain⟨_,curf,hhf,_⟩:=fP hd.of
 have vbs:∀ k,v.ownBlock=some k→k≠h.bs:=fun k e q=>by
  obtain⟨cur,hc⟩:=vne k e
  rw[q,m.bs,hhs] at hc;cases hc
 have vp:∀ k,v.ownBlock=some k→k≠h.p:=fun k e q=>by
  obtain⟨cur,hc⟩:=vne k e
  rw[q,m.bp] at hc;cases hc
 have os4:w4.ownsRow B 261 16 (.slice (some ⟨h.bs,0,none⟩) d.fl.length h.cs) d.fl.length (cO d.seen):=dB hd.os (fun k e=>by
  have:h.bs=k:=by simpa [Value.ownBlock] using e
  subst this
  rw[hh];exact m.bs)
 have os5:=BD os4 hd.ok.same hd.ok.l2 i s hs hi
 refine⟨⟨hd.ok.wrote hi hs hw,hd.pB,?_,?_,?_,?_,hd.ne,fun e=>by simp[DV.wrote] at e⟩,?_,by rw[cell_of_row _ _ _ _ _ _ hp5];rfl,frozen_of_row _ _ _ _ _ hp5⟩
 ·show((w4.setCells h.bs (i*16) (bD s)).setCell ⟨h.p,3,none⟩ (.int .i64 ((d.wr:Int)+1))).heap[h.p]?=some (.cells #[.slice (some ⟨h.bf,0,none⟩) d.fl.length h.cf,.slice (some ⟨h.bs,0,none⟩) d.fl.length h.cs,v,.int .i64 ((d.wr+1:Nat):Int),.int .i64 d.fail] 264 (0,0))
  rw[heap_setCell_same _ h.p 3 _ _ _ hp5];rfl
 ·show World.ownsRow _ B 261 16 (.slice (some ⟨h.bf,0,none⟩) d.fl.length h.cf) d.fl.length (cO d.fl)
  exact dB hd.of (fun k e=>by
   have:h.bf=k:=by simpa [Value.ownBlock] using e
   subst this
   rw[heap_setCell_other _ _ _ _ a1,heap_setCells_other _ _ hd.ne,hh];exact m.bf)
 ·show World.ownsRow _ B 261 16 (.slice (some ⟨h.bs,0,none⟩) d.fl.length h.cs) d.fl.length (cO (d.seen.set i s))
  exact dB os5 (fun k e=>by
   have:h.bs=k:=by simpa [Value.ownBlock] using e
   subst this
   exact heap_setCell_other _ _ _ _ a2)
 ·show World.ownsRow _ B 266 17 v (d.pend++[(i,s)]).length (gG (d.pend++[(i,s)]))
  rw[List.length_append]
  exact dB ow4 (fun k e=>by rw[heap_setCell_other _ _ _ _ (vp k e),heap_setCells_other _ _ (vbs k e)])
 ·have k4:Kept h.fp w1 w4:=⟨ho.1.trans m.kept.os,ho.2.1.trans m.kept.tape,ho.2.2.trans m.kept.output,by rw[hh];exact m.kept.size,fun k hk q=>by rw[hh];exact m.kept.block k hk q⟩
  exact(k4.setCells (.inl (.inr (.inr (.inl rfl)))) _ _).setCell (.inl (.inl rfl)) _
theorem Nv(cs:List Value)(h:cs.length=17):∃ x0 x1 x2 x3 x4 x5 x6 x7 x8 x9 x10 x11 x12 x13 x14 x15 x16,cs=[x0,x1,x2,x3,x4,x5,x6,x7,x8,x9,x10,x11,x12,x13,x14,x15,x16]:=by
 match cs,h with
 | [x0,x1,x2,x3,x4,x5,x6,x7,x8,x9,x10,x11,x12,x13,x14,x15,x16],_=>exact⟨_,_,_,_,_,_,_,_,_,_,_,_,_,_,_,_,_,rfl⟩
theorem O3{P:Program}{ops:Array Oper}{rest:List Oper}{op:Oper}{a:Act}{w:World}{Q:Exit→Act→World→Prop}(hgd:op.guard=none)(ty t:TypeId)(x y:Operand)(ho:op.op=.store ty x y)
  (c cells:Array Value) (hx:a.eval x=.pointer (some ⟨w.heap.size,0,none⟩)) (hy:a.eval y=.agg cells)
  (hc:c.size=cells.size) (hi:(P.info? ty).map (·.size)=some cells.size) (h1:∀ v∈cells.toList,v.oneCell'=true)
  (h:wpList P ops Q rest (a.put op.dst undef) (w.alloc (.cells cells t))):wpList P ops Q (op::rest) a (w.alloc (.cells c t)):=by
 refine wpList_store_mid hgd ty x y ho w.heap.size 0 cells hx hy (zi w c t _ hc) hi (by have:=all_oneCell_toArray h1;simpa using this) ?_
 rw[IW w c t cells.toList (by simpa using hc) h1]
 simpa using h
theorem Dk{B:Nat}{h:Hd}{d1:DV}(i:Nat)(s:ByteArray)(w w1:World)(hd1:aI B w1 h d1)(hB:B≤w1.heap.size)(hs:s.size=16)(hi:i<d1.fl.length)(hw:d1.wr<1000000000)
  (HH:Hid (Calls Tryz.prog 231 #[.pointer (some ⟨h.p,0,none⟩),.int .i64 (i:Int)] w fun e w'=>e=.returned (.bool true)∧w'=w))
  (HF:Hid (Calls Tryz.prog 259 #[.pointer (some ⟨h.p,0,none⟩)] w fun e w'=>e=.returned (.bool false)∧w'=w1)) :
  Calls Tryz.prog 214 #[.pointer (some ⟨h.p,0,none⟩),.int .i64 (i:Int),.string s] w fun e w' =>
   ∃ v:Value,e=.returned .nilIface∧aI B w' { h with v2:=v } (d1.wrote i s.data.toList)∧Kept h.fp w1 w'∧(v.ownBlock=h.v2.ownBlock∨v.ownBlock=some (w1.heap.size+2)):=by
 have h16:((s.size:Int) != 16)=false:=by simp;omega
 have hsl:s.data.toList.length=16:=by simpa using hs
 obtain⟨c0,c1,c2,c3,c4,fz⟩:=hd1.cells
 obtain⟨i0,hi0,hz0,hz1,hz2⟩:=info_parts FY
 have hlen:(wrV (i,s.data.toList)).length=17:=by rw[xH];simpa using hs
 have hone:∀ u∈wrV (i,s.data.toList),u.oneCell'=true:=fun u hu=>zK [(i,s.data.toList)] u (by simpa [gG] using hu)
 have hpl:h.p<w1.heap.size:=(hd1.lt _ (.inl rfl)).2
 have hwr:=hd1.ok.few
 have fz2:=fz 2
 have HD:Hid (aI B w1 h d1):=hd1
 have hzone:∀ v∈([.int .i64 (i:Int),.int .u8 0,.int .u8 0,.int .u8 0,.int .u8 0,.int .u8 0,.int .u8 0,.int .u8 0,.int .u8 0,.int .u8 0,.int .u8 0,.int .u8 0,.int .u8 0,.int .u8 0,.int .u8 0,.int .u8 0,.int .u8 0]:List Value),v.oneCell'=true:=fun v hv=>by
  simp only[List.mem_cons,List.not_mem_nil,or_false] at hv
  rcases hv with rfl|rfl|rfl|rfl|rfl|rfl|rfl|rfl|rfl|rfl|rfl|rfl|rfl|rfl|rfl|rfl|rfl<;>rfl
 have hcp:=Ot w1 i s hs
 have HZ:Hid (∀ v∈(#[.int .i64 (i:Int),.int .u8 0,.int .u8 0,.int .u8 0,.int .u8 0,.int .u8 0,.int .u8 0,.int .u8 0,.int .u8 0,.int .u8 0,.int .u8 0,.int .u8 0,.int .u8 0,.int .u8 0,.int .u8 0,.int .u8 0,.int .u8 0]:Array Value).toList,v.oneCell'=true):=hzone
 have HI2:Hid ((Tryz.prog.info? 266).map (·.size)=some (#[.int .i64 (i:Int),.int .u8 0,.int .u8 0,.int .u8 0,.int .u8 0,.int .u8 0,.int .u8 0,.int .u8 0,.int .u8 0,.int .u8 0,.int .u8 0,.int .u8 0,.int .u8 0,.int .u8 0,.int .u8 0,.int .u8 0,.int .u8 0]:Array Value).size):=Ie
 obtain⟨x0,x1,x2,x3,x4,x5,x6,x7,x8,x9,x10,x11,x12,x13,x14,x15,x16,hcs⟩:=Nv _ hlen
 have HCS:Hid (wrV (i,s.data.toList)=[x0,x1,x2,x3,x4,x5,x6,x7,x8,x9,x10,x11,x12,x13,x14,x15,x16]):=hcs
 rw[hcs] at hcp hone
 have HONE:Hid (∀ u∈[x0,x1,x2,x3,x4,x5,x6,x7,x8,x9,x10,x11,x12,x13,x14,x15,x16],u.oneCell'=true):=hone
 have HMX:Hid (d1.pend.length+1≤maxLen):=by unfold Hid maxLen;omega
 have HNB:Hid ((((w1.alloc (.cells #[x0,x1,x2,x3,x4,x5,x6,x7,x8,x9,x10,x11,x12,x13,x14,x15,x16] 266)).alloc (.cells #[x0,x1,x2,x3,x4,x5,x6,x7,x8,x9,x10,x11,x12,x13,x14,x15,x16] 266)).drew).heap[w1.heap.size+1]?=some (.cells #[x0,x1,x2,x3,x4,x5,x6,x7,x8,x9,x10,x11,x12,x13,x14,x15,x16] 266 (0,0))):=heap_alloc2_new w1 _ _
 have HOW:Hid ((((w1.alloc (.cells #[x0,x1,x2,x3,x4,x5,x6,x7,x8,x9,x10,x11,x12,x13,x14,x15,x16] 266)).alloc (.cells #[x0,x1,x2,x3,x4,x5,x6,x7,x8,x9,x10,x11,x12,x13,x14,x15,x16] 266)).drew).ownsRow B 266 17 h.v2 d1.pend.length (gG d1.pend)):=(hd1.op.alloc _).alloc _
 have HSZ:Hid ((((w1.alloc (.cells #[x0,x1,x2,x3,x4,x5,x6,x7,x8,x9,x10,x11,x12,x13,x14,x15,x16] 266)).alloc (.cells #[x0,x1,x2,x3,x4,x5,x6,x7,x8,x9,x10,x11,x12,x13,x14,x15,x16] 266)).drew).heap.size=w1.heap.size+2):=by unfold Hid;simp
 have HBS:Hid (B≤(((w1.alloc (.cells #[x0,x1,x2,x3,x4,x5,x6,x7,x8,x9,x10,x11,x12,x13,x14,x15,x16] 266)).alloc (.cells #[x0,x1,x2,x3,x4,x5,x6,x7,x8,x9,x10,x11,x12,x13,x14,x15,x16] 266)).drew).heap.size):=by unfold Hid;rw[HSZ.out];omega
 have HP:Hid (h.p<(((w1.alloc (.cells #[x0,x1,x2,x3,x4,x5,x6,x7,x8,x9,x10,x11,x12,x13,x14,x15,x16] 266)).alloc (.cells #[x0,x1,x2,x3,x4,x5,x6,x7,x8,x9,x10,x11,x12,x13,x14,x15,x16] 266)).drew).heap.size):=by unfold Hid;rw[HSZ.out];omega
 have HNE:Hid (some h.p≠h.v2.ownBlock):=Ne.symm hd1.apart.2.2.1
 have HC2:Hid ((((w1.alloc (.cells #[x0,x1,x2,x3,x4,x5,x6,x7,x8,x9,x10,x11,x12,x13,x14,x15,x16] 266)).alloc (.cells #[x0,x1,x2,x3,x4,x5,x6,x7,x8,x9,x10,x11,x12,x13,x14,x15,x16] 266)).drew).cell? ⟨h.p,2,none⟩=some h.v2):=by
  unfold Hid
  show((w1.alloc (.cells #[x0,x1,x2,x3,x4,x5,x6,x7,x8,x9,x10,x11,x12,x13,x14,x15,x16] 266)).alloc (.cells #[x0,x1,x2,x3,x4,x5,x6,x7,x8,x9,x10,x11,x12,x13,x14,x15,x16] 266)).cell? ⟨h.p,2,none⟩=some h.v2
  rw[World.cell?_alloc_past _ _ _ (by simp;omega),World.cell?_alloc_past _ _ _ hpl];exact c2
 have HF2:Hid ((((w1.alloc (.cells #[x0,x1,x2,x3,x4,x5,x6,x7,x8,x9,x10,x11,x12,x13,x14,x15,x16] 266)).alloc (.cells #[x0,x1,x2,x3,x4,x5,x6,x7,x8,x9,x10,x11,x12,x13,x14,x15,x16] 266)).drew).frozen? ⟨h.p,2,none⟩=false):=by
  unfold Hid
  show((w1.alloc (.cells #[x0,x1,x2,x3,x4,x5,x6,x7,x8,x9,x10,x11,x12,x13,x14,x15,x16] 266)).alloc (.cells #[x0,x1,x2,x3,x4,x5,x6,x7,x8,x9,x10,x11,x12,x13,x14,x15,x16] 266)).frozen? ⟨h.p,2,none⟩=false
  rw[World.frozen?_alloc_past _ _ _ (by simp;omega),World.frozen?_alloc_past _ _ _ hpl];exact fz2
 clear hd1 fz hcs hlen hone hzone c0 c1 c3 c4
 go_enter Tryz.func214,Tryz.ntmps214
 go_wp2_with fail
 refine HH.out.mono ?_
 rintro e w' ⟨rfl,hww⟩
 have hw':=hww.symm
 subst hw'
 clear hww
 go_wp2_with fail
 refine HF.out.mono ?_
 rintro e w' ⟨rfl,hww⟩
 have hw':=hww.symm
 subst hw'
 clear hww HH HF h16
 go_wp2_with (refine O3 (by rfl) 266 266 (.tmp 7) (.tmp 22) (by rfl) _ #[.int .i64 (i:Int),.int .u8 0,.int .u8 0,.int .u8 0,.int .u8 0,.int .u8 0,.int .u8 0,.int .u8 0,.int .u8 0,.int .u8 0,.int .u8 0,.int .u8 0,.int .u8 0,.int .u8 0,.int .u8 0,.int .u8 0,.int .u8 0] (by rfl) (by rfl) rfl HI2.out HZ.out ?_)
 clear hcp HZ HI2
 go_region_law (refine step_append_lies _ (by rfl) _ _ 262 (by rfl) B 266 i0 AP 17 24 Tryz.underlying262 hi0 hz0 hz1 hz2 rfl (by decide) h.v2 d1.pend.length (gG d1.pend) (by rfl) HOW.out ⟨w1.heap.size+1,0,none⟩ 1 1 [x0,x1,x2,x3,x4,x5,x6,x7,x8,x9,x10,x11,x12,x13,x14,x15,x16] (by rfl) (by rfl) (World.news_of_block HNB.out) HONE.out (by decide) HMX.out (by omega) HBS.out (w1.heap.size+2) HSZ.out ?_;intro g cap w2 hown hgrow hat hlt;have q2:=(hgrow.cell_far ⟨h.p,2,none⟩ HP.out HNE.out).trans HC2.out;have q3:=(hgrow.frozen_far ⟨h.p,2,none⟩ HP.out HNE.out).trans HF2.out)
 all_goals
  clear q2 q3
  go_wp2_with fail
  have m:Mid B w1 (w2.setCell ⟨h.p,2,none⟩ (.slice (some ⟨g,0,none⟩) (d1.pend.length+1) cap)) h d1 i s.data.toList (.slice (some ⟨g,0,none⟩) (d1.pend.length+1) cap) :=
   JF HD.out i s.data.toList g cap (by rw[HCS.out];exact hown) (by rw[HCS.out];exact hgrow) hat
  have M:Hid (Mid B w1 (w2.setCell ⟨h.p,2,none⟩ (.slice (some ⟨g,0,none⟩) (d1.pend.length+1) cap)) h d1 i s.data.toList (.slice (some ⟨g,0,none⟩) (d1.pend.length+1) cap)):=m
  clear m hown hgrow hat hlt HMX HNB HOW HSZ HBS HP HNE HC2 HF2 HONE HCS c2 fz2 hi0 hz0 hz1 hz2
  generalize w2.setCell ⟨h.p,2,none⟩ (.slice (some ⟨g,0,none⟩) (d1.pend.length+1) cap)=w3 at M ⊢
  obtain⟨s1,s2,s3⟩:=M.out.reads HD.out hi
  have hcl:(bD s.data.toList).length=16:=by rw[oL];exact hsl
  have hone2:=qV s.data.toList
  have hu71:=Tryz.underlying261
  have hi71:(Tryz.prog.info? 261).map (·.size)=some (bD s.data.toList).length:=by rw[hcl];exact G9
  have hii0:(0:Int)≤(i:Int):=by omega
  have hii1:(i:Int)<(d1.fl.length:Int):=by omega
  have hpbs:h.p≠h.bs:=Ne.symm HD.out.apart.2.1
  have hNbs:w1.heap.size≠h.bs:=by have:=(HD.out.lt h.bs (.inr (.inr (.inl rfl)))).2;omega
  obtain⟨sv,hsv⟩:∃ sv,sv=bD s.data.toList:=⟨_,rfl⟩
  have HSV:Hid (sv=bD s.data.toList):=hsv
  rw[← hsv] at s2 hcl hone2 hi71
  clear hsv
  go_region_held3 (fun w'=>w'.cell? ⟨h.p,1,none⟩=some (.slice (some ⟨h.bs,0,none⟩) d1.fl.length h.cs)∧w'.rangeAt w1.heap.size 1 sv∧w'.there h.bs (i*16) 16)
   ((go_split_ands;(try simp only[World.rangeAt_drew,World.there_drew] at *);refine⟨?_,?_,?_⟩<;>first|assumption|(apply World.there_setCells;assumption)|(refine World.rangeAt_setCells_apart (by assumption) _ _ _ (by omega))|(rw[World.cell?_setCells_out _ _ _ _ _ (fun e=>absurd e hpbs)];assumption)))
   (fail)
  have hfin:=M.out.fin (w4:=w3.drew) HD.out hi hsl hw rfl ⟨rfl,rfl,rfl⟩
  rw[← HSV.out] at hfin
  obtain⟨f1,f2,f3,f4⟩:=hfin
  have HAT:Hid ((Value.slice (some ⟨g,0,none⟩) (d1.pend.length+1) cap).ownBlock=h.v2.ownBlock∨(Value.slice (some ⟨g,0,none⟩) (d1.pend.length+1) cap).ownBlock=some (w1.heap.size+2)):=M.out.at_
  clear s1 s2 s3 hcl hone2 hi71 hu71 hii0 hii1 hpbs hNbs HSV M
  have F1:Hid (aI B ((w3.drew.setCells h.bs (i*16) sv).setCell ⟨h.p,3,none⟩ (.int .i64 ((d1.wr:Int)+1))) { h with v2:=.slice (some ⟨g,0,none⟩) (d1.pend.length+1) cap } (d1.wrote i s.data.toList)):=f1
  have F2:Hid (Kept h.fp w1 ((w3.drew.setCells h.bs (i*16) sv).setCell ⟨h.p,3,none⟩ (.int .i64 ((d1.wr:Int)+1)))):=f2
  clear f1 f2
  generalize w3.drew.setCells h.bs (i*16) sv=w5 at F1 F2 f3 f4 ⊢
  go_wp2
  go_ret
  exact⟨_,rfl,F1.out,F2.out,HAT.out⟩
def DV.ig(d:DV):DV:=if d.fail = -1 then d else d.failing (d.fail-1)
theorem DV.Es(d:DV):d.ig.fl=d.fl:=by unfold DV.ig;split<;>rfl
theorem DV.Hl(d:DV):d.ig.wr=d.wr:=by unfold DV.ig;split<;>rfl
theorem Nu{B:Nat}{h:Hd}{d:DV}(w:World)(hd:aI B w h d)(hn:0<d.fail) :
  Calls Tryz.prog 259 #[.pointer (some ⟨h.p,0,none⟩)] w fun e w'=>e=.returned (.bool false)∧w'=w.setCell ⟨h.p,4,none⟩ (.int .i64 (d.fail-1)):=by
 obtain⟨c0,c1,c2,c3,c4,fz⟩:=hd.cells
 have hm:=hd.ok.f2
 have g1:(d.fail == -1)=false:=beq_eq_false_iff_ne.2 (by omega)
 have HE:Hid ((d.fail-1 == -1)=false):=beq_eq_false_iff_ne.2 (by omega)
 clear hd
 go_enter Tryz.func259,Tryz.ntmps259
 go_wp2
 go_ret
 exact⟨wY HE.out,rfl⟩
theorem Oo{B:Nat}{h:Hd}{d:DV}(i:Nat)(s:ByteArray)(w:World)(hd:aI B w h d)(hB:B≤w.heap.size)(hs:s.size=16)(hi:i<d.fl.length)(hw:d.wr<1000000000)(hf:d.fail≠0) :
  Calls Tryz.prog 214 #[.pointer (some ⟨h.p,0,none⟩),.int .i64 (i:Int),.string s] w fun e w' =>
   ∃ v:Value,e=.returned .nilIface∧aI B w' { h with v2:=v } (d.ig.wrote i s.data.toList)∧Kept h.fp w w'∧∀ k,v.ownBlock=some k→h.v2.ownBlock=some k∨w.heap.size≤k:=by
 have HH:Hid (Calls Tryz.prog 231 #[.pointer (some ⟨h.p,0,none⟩),.int .i64 (i:Int)] w fun e w'=>e=.returned (.bool true)∧w'=w):=by
  have:=zS (i:Int) w hd
  rw[show d.has (i:Int)=true by unfold DV.has;simp;omega] at this
  exact this
 by_cases h1:d.fail = -1
 ·have e:d.ig=d:=by unfold DV.ig;rw[if_pos h1]
  rw[e]
  refine(Dk i s w w hd hB hs hi hw HH (Ny w hd h1)).mono ?_
  rintro e w' ⟨v,rfl,a,b,c⟩
  exact⟨v,rfl,a,b,fun k hk=>by rcases c with c|c<;>rw[c] at hk;exact .inl hk;right;simp at hk;omega⟩
 ·have h2:=hd.ok.f1
  have h3:=hd.ok.f2
  have e:d.ig=d.failing (d.fail-1):=by unfold DV.ig;rw[if_neg h1]
  rw[e]
  have hsz:(w.setCell ⟨h.p,4,none⟩ (.int .i64 (d.fail-1))).heap.size=w.heap.size:=by simp[World.setCell]
  refine(Dk i s w (w.setCell ⟨h.p,4,none⟩ (.int .i64 (d.fail-1))) (hd.failing (by omega) (by omega)) (by rw[hsz];exact hB) hs hi hw HH (Nu w hd (by omega))).mono ?_
  rintro e w' ⟨v,rfl,a,b,c⟩
  refine⟨v,rfl,a,((Kept.refl _ w).setCell (.inl (.inl rfl)) _).trans b,fun k hk=>?_⟩
  rw[hsz] at c
  rcases c with c|c<;>rw[c] at hk
  ·exact .inl hk
  ·right;simp at hk;omega
def chunk(s:ByteArray)(i:Nat):List UInt8:=(s.data.toList.drop (i*16)).take 16
theorem Uu(s:ByteArray)(n i:Nat)(hs:s.size=n*16)(hi:i<n):(chunk s i).length=16:=by
 have:s.data.toList.length=n*16:=by simpa using hs
 simp only[chunk,List.length_take,List.length_drop]
 omega
end Go.Proofs.YtonhoahnieoebabGreatDoor
