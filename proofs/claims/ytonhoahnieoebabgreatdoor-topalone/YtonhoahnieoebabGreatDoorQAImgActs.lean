/- The places that are free: neither used by an entry nor held. -/
import Derived.Test.YtonhoahnieoebabGreatDoorQAImgWrite
set_option maxHeartbeats 1000000
set_option maxRecDepth 100000
namespace Go.Proofs.YtonhoahnieoebabGreatDoor
open Go.RowKit Go.Maps
attribute [local go_sem ↓] Go.wp_at_zero Go.wp_at_succ
theorem MC(l:List Nat)(k:Nat):Maps.has (oH l) (.int .i64 (k:Int))=l.any fun x=>decide (x=k):=by
 unfold oH;rw[has_setOf]
 ·induction l with
  | nil=>rfl
  | cons a l ih =>
   rw[List.map_cons,List.any_cons,List.any_cons,ih]
   congr 1
   simp only[Lit.sameKey];apply decide_eq_decide.2
   constructor<;>intro h<;>first|omega|exact⟨rfl,by omega⟩|exact⟨trivial,by omega⟩|(have:=h.2;omega)
 ·intro x hx
  obtain⟨q,_,rfl⟩:=List.mem_map.1 hx
  trivial
theorem O8{ub hb:Bool}(h:true=(!ub && !hb)):ub=false∧hb=false:=by cases ub<;>cases hb<;>first|exact⟨rfl,rfl⟩|cases h
theorem Ph{ub:Bool}(h:false=(!ub && !false)):ub=true:=by cases ub<;>first|rfl|cases h
structure iV(w:World)(tk:List Bool)(wr:World):Prop where
 blk:wr.heap[w.heap.size]?=some (.cells (tk.map Value.bool).toArray 285 (0,0))
 bel:Below w.heap.size w wr
 n40:tk.length=40
theorem iV.bit{w wr:World}{tk:List Bool}(h:iV w tk wr)(q:Nat)(hq:q<40):wr.cell? ⟨w.heap.size,q,none⟩=some (.bool (tk.getD q false))∧wr.frozen? ⟨w.heap.size,q,none⟩=false:=by
 refine⟨?_,frozen_of_row _ _ _ _ _ h.blk⟩;have hq':q<tk.length:=by rw[h.n40];exact hq
 rw[cell_of_row _ _ _ _ _ _ h.blk,List.getElem?_toArray];simp[List.getElem?_eq_getElem hq',List.getD]
theorem iV.set{w wr:World}{tk:List Bool}(h:iV w tk wr)(q:Nat):iV w (tk.set q true) (wr.setCell ⟨w.heap.size,q,none⟩ (.bool true)):=by
 refine⟨?_,h.bel.setCell (Nat.le_refl _) _,by rw[List.length_set];exact h.n40⟩
 rw[heap_setCell_same _ _ _ _ _ _ h.blk];simp[List.map_set]
theorem iV.below{w wr w2:World}{tk:List Bool}(h:iV w tk wr)(hb:Below (w.heap.size+1) wr w2):iV w tk w2 :=
 ⟨by rw[hb.block _ (Nat.lt_succ_self _)];exact h.blk,h.bel.trans (hb.mono (Nat.le_succ _)),h.n40⟩
theorem iV.size{w wr:World}{tk:List Bool}(h:iV w tk wr):w.heap.size+1≤wr.heap.size:=lt_of_some h.blk
def mG(l:List Nat):List Value:=l.map fun q:Nat=>.int .i64 (q:Int)
theorem AZ(w:World):(zeroValue 284).run Tryz.prog w=.ok (.agg #[]) w:=by kernel_rfl
theorem take_snoc{l:List (Int × Int)}{k:Nat}(h:k<l.length):l.take (k+1)=l.take k++[((l.getD k (0,0)).1,(l.getD k (0,0)).2)]:=by
 rw[List.take_succ_eq_append_getElem h]
 congr 1
 rw[List.getD_eq_getElem?_getD,List.getElem?_eq_getElem h];rfl
theorem Dl{B:Gd}{m:Nat}{x:Ih}{v:IV}(w:World)(h:aC B w x v)(hok:v.ok m) :
  Calls Tryz.prog 167 #[.pointer (some ⟨x.p,0,none⟩)] w fun e w' =>
   ∃ a cap,e=.returned (.slice a v.fD.length cap)∧w'.ownsRow w.heap.size 3 1 (.slice a v.fD.length cap) v.fD.length (mG v.fD)∧Below w.heap.size w w':=by
 have hbo:=HV.fE hok.h;have hlen:=hok.len;obtain⟨c0,c1,c2,c3,c4,c5,fz⟩:=h.cells;obtain⟨lp,lm,lt⟩:=h.lts;obtain⟨i1,hi1,hx0,hx1,hx2⟩:=info_parts zx;have HI:=ah h
 have HEB:Hid (∀ k,k<v.t.length→bM (v.t.getD k (0,0)).1 (v.t.getD k (0,0)).2 v.h.p=true):=fun k hk=>by
  rw[List.getD_eq_getElem?_getD,List.getElem?_eq_getElem hk];exact hok.ents _ (List.getElem_mem hk)
 obtain⟨P,hP⟩:∃ P:Nat,v.h.p=(P:Int):=⟨v.h.p.toNat,by omega⟩
 have HFL:Hid (v.fD=v.lu P):=by unfold Hid IV.fD;rw[hP];rfl
 have HFS:Hid (∀ k,v.lu (k+1)=v.lu k++(if v.lX k=true then [k] else [])):=v.LM
 have HF0:Hid (v.lu 0=[]):=rfl;have HFN:Hid (∀ k,(v.lu k).length≤k):=v.LK
 have HOP:Hid (∀ k,k<40→v.lX k=(!(dK v.t).getD k false && !v.uh k)):=fun k hk=>by
  unfold IV.lX
  congr 1
  rw[AB _ _ hk];unfold IV.vk
  congr 1
  rw[Bool.eq_iff_iff,List.any_eq_true,decide_eq_true_eq]
  constructor
  ·rintro⟨e,he,h1⟩;rw[of_decide_eq_true h1] at he;exact he
  ·intro hm;exact⟨_,hm,decide_eq_true rfl⟩
 have hp40:P≤40:=by omega
 have hvl:v.t.length≤32:=by omega
 rw[hP] at c2;rw[HFL.out];have HN:Hid (v.t.length=v.t.length):=rfl;generalize hnn:v.t.length=n at c4 HEB hvl;have HNN:Hid (v.t.length=n):=hnn
 have HU0:Hid (iV w (dK (v.t.take 0)) (w.alloc (.cells (List.replicate 40 (Value.bool false)).toArray 285))):=by
  refine⟨?_,(Below.refl _ _).alloc (Nat.le_refl _) _,xZ _⟩;rw[heap_alloc_new,List.take_zero,Gq,List.map_replicate]
 clear h hok hbo hlen fz c0 c1 c3 hnn HN c5 c4;have c4:=HI.out.cells.2.2.2.2.1;rw[HNN.out] at c4;generalize v.lu=F at HFL HFS HF0 HFN ⊢;go_enter Tryz.func167,Tryz.ntmps167
 go_wp2
 go_loopw [15] (fun i wr=>∃ k:Nat,k≤n∧i=.int .i64 k∧iV w (dK (v.t.take k)) wr) (fun i _=>n-(intOf i).toNat)
 case atStart=>exact⟨0,Nat.zero_le _,rfl,HU0.out⟩
 case round =>
  obtain⟨k,hk,rfl,hu⟩:=hrel;by_cases hlt:k<n
  ·have hi:=HI.out.below hu.bel
   have hkl:k<v.t.length:=by rw[HNN.out];exact hlt
   obtain⟨t0,t1,_⟩:=hi.jw (c:=k) hkl;have hts:=take_snoc hkl;have heb:=HEB.out k hlt;have hszw:=hu.size;generalize (v.t.getD k (0,0)).1=y0 at t0 hts heb;generalize (v.t.getD k (0,0)).2=y1 at t1 hts heb;have HU:=ah hu;have HTS:=ah hts;have k0:(0:Int)≤(k:Int):=by omega
   have k1:(k:Int)<(n:Int):=by omega
   have htl:x.tb<wr.heap.size:=by omega
   clear hi hu hts;by_cases h2:y0=2
   ·have hq:0≤y1∧y1<40:=by
     rcases iK heb with h4|h4
     ·omega
     ·omega
    obtain⟨q,rfl⟩:∃ q:Nat,y1=(q:Int):=⟨y1.toNat,by omega⟩
    have HU2:Hid (iV w (dK (v.t.take (k+1))) ((wr.alloc (.cells #[.int .i64 y0,.int .i64 (q:Int)] 211)).setCell ⟨w.heap.size,q,none⟩ (.bool true))):=by
     unfold Hid;rw[HTS.out,h2,Gp _ _ (by omega)]
     exact(HU.out.below ((Below.refl _ _).alloc HU.out.size _)).set q
    obtain⟨u0,uf⟩:=HU.out.bit q (by omega)
    have u0':(wr.alloc (.cells #[.int .i64 y0,.int .i64 (q:Int)] 211)).cell? ⟨w.heap.size,q,none⟩=some (.bool ((dK (v.t.take k)).getD q false)):=by
     rw[World.cell?_alloc_past _ _ _ (by show w.heap.size<wr.heap.size;omega)];exact u0
    have uf':(wr.alloc (.cells #[.int .i64 y0,.int .i64 (q:Int)] 211)).frozen? ⟨w.heap.size,q,none⟩=false:=by
     rw[World.frozen?_alloc_past _ _ _ (by show w.heap.size<wr.heap.size;omega)];exact uf
    have g2:(y0==2)=true:=by simpa using h2
    have q0:(0:Int)≤(q:Int):=by omega
    have q1:(q:Int)<40:=by omega
    generalize (dK (v.t.take k)).getD q false=bb at u0 u0';clear h2 heb hq;go_wp2
    go_roundw
    case rel =>
     have fin:∃ k1:Nat,k1≤n∧Value.int .i64 ((k:Int)+1)=.int .i64 k1∧iV w (dK (v.t.take k1)) ((wr.alloc (.cells #[.int .i64 y0,.int .i64 (q:Int)] 211)).setCell ⟨w.heap.size,q,none⟩ (.bool true)):=⟨k+1,by omega,by go_num,HU2.out⟩
     first|exact fin|((repeat apply Exists.intro);exact⟨fin,rfl⟩)
    case measure=>simp[intOf];omega
   ·have HU2:Hid (iV w (dK (v.t.take (k+1))) (wr.alloc (.cells #[.int .i64 y0,.int .i64 y1] 211))):=by
     unfold Hid;rw[HTS.out,Gs _ _ _ h2];exact HU.out.below ((Below.refl _ _).alloc HU.out.size _)
    have g2:(y0==2)=false:=by simpa using h2
    clear h2 heb;go_wp2
    go_roundw
    case rel =>
     have fin:∃ k1:Nat,k1≤n∧Value.int .i64 ((k:Int)+1)=.int .i64 k1∧iV w (dK (v.t.take k1)) (wr.alloc (.cells #[.int .i64 y0,.int .i64 y1] 211)):=⟨k+1,by omega,by go_num,HU2.out⟩
     first|exact fin|((repeat apply Exists.intro);exact⟨fin,rfl⟩)
    case measure=>simp[intOf];omega
  ·have hkn:k=v.t.length:=by rw[HNN.out];omega
   rw[hkn,List.take_length] at hu;have HU:=ah hu;have hi:=HI.out.below hu.bel;have c2':=hi.cells.2.2.1;rw[hP] at c2';clear hu hi hkn;go_wp2
   go_loopw [6,31] (fun u i wq=>∃(k:Nat) (a:Option Addr) (cap:Nat),k≤P∧i=.int .i64 k∧u=.slice a (F k).length cap∧wq.ownsRow (w.heap.size+1) 3 1 (.slice a (F k).length cap) (F k).length (mG (F k))∧iV w (dK v.t) wq) (fun _ i _=>P-(intOf i).toNat)
   case atStart=>exact⟨0,none,0,Nat.zero_le _,rfl,by rw[HF0.out];rfl,by rw[HF0.out];exact World.ownsRow_nil _ _ _ _,HU.out⟩
   case round =>
    obtain⟨j,a,cap,hj,rfl,rfl,ho,hu⟩:=hrel;obtain⟨wq,ewq⟩:∃ wq,wq=wr:=⟨wr,rfl⟩;subst ewq;by_cases hlt2:j<P
    ·have hi:=HI.out.below hu.bel
     have c5:=hi.cells.2.2.2.2.2.1;have hsz:=hu.size;have HM:=ah hi.map;have hhas:=MC v.held j;have hop:=HOP.out j (by omega)
     have hst:=HFS.out j;have hfn:=HFN.out j;have HKEY:=ah (DR j (by omega))
     obtain⟨b0,bf⟩:=hu.bit j (by omega)
     have b0':(wq.alloc (.cells #[] 284)).cell? ⟨w.heap.size,j,none⟩=some (.bool ((dK v.t).getD j false)):=by
      rw[World.cell?_alloc_past _ _ _ (by show w.heap.size<wq.heap.size;omega)];exact b0
     have j0:(0:Int)≤(j:Int):=by omega
     have j1:(j:Int)<40:=by omega
     have HO:=ah ho;have HUU:=ah hu;have hhb:v.uh j=v.held.any fun x=>decide (x=j):=rfl
     rw[← hhb] at hhas;clear hi hu ho hhb b0 bf;generalize (dK v.t).getD j false=ub at b0' hop;generalize v.uh j=hb at hhas hop;generalize oH v.held=D at HM hhas;generalize v.held.length=nh at HM;by_cases hopn:v.lX j=true
     ·rw[hopn] at hop
      obtain⟨hub,hhb⟩:=O8 hop;rw[hub] at b0';rw[hhb] at hhas;rw[hopn,if_pos rfl] at hst;have HST:=ah hst;have HO2:Hid (((wq.alloc (.cells #[] 284)).alloc (.cells #[.int .i64 (j:Int)] 3)).ownsRow (w.heap.size+1) 3 1 (.slice a (F j).length cap) (F j).length (mG (F j))):=(HO.out.alloc _).alloc _
      have HNW:Hid (∀ i y,([.int .i64 (j:Int)]:List Value)[i]?=some y→((wq.alloc (.cells #[] 284)).alloc (.cells #[.int .i64 (j:Int)] 3)).cell? ((⟨wq.heap.size+1,0,none⟩:Addr).add i)=some y):=by
       have:=cell_one_new (wq.alloc (.cells #[] 284)) (.int .i64 (j:Int)) 3
       rw[show(wq.alloc (.cells #[] 284)).heap.size=wq.heap.size+1 by simp] at this;exact this
      have HSA:Hid (w.heap.size+1≤((wq.alloc (.cells #[] 284)).alloc (.cells #[.int .i64 (j:Int)] 3)).heap.size):=by unfold Hid;simp;omega
      have HZZ:Hid (((wq.alloc (.cells #[] 284)).alloc (.cells #[.int .i64 (j:Int)] 3)).heap.size=wq.heap.size+2):=by unfold Hid;simp
      have HBA:Hid (Below (w.heap.size+1) wq ((wq.alloc (.cells #[] 284)).alloc (.cells #[.int .i64 (j:Int)] 3))):=((Below.refl _ _).alloc HUU.out.size _).alloc (by have:=HUU.out.size;simp;omega) _
      clear hst hop hopn hub hhb HFS HOP
      go_wp2_with (first
       | (at_lookup;refine wpList_lookup_own_unit _ rfl _ _ 218 rfl 3 284 wS Tryz.underlying218 (AZ _) x.m nh D rfl HM.out _ _ rfl HKEY.out ?_)
       | (at_builtin;refine wpList_append_lies _ (by rfl) _ _ 31 (by rfl) (w.heap.size+1) 3 i1 (.int .i64 0) 1 8 Tryz.underlying31 hi1 hx0 hx1 hx2 rfl (by decide) (.slice a (F j).length cap) (F j).length (mG (F j)) (by rfl) HO2.out ⟨wq.heap.size+1,0,none⟩ 1 1 [.int .i64 (j:Int)] (by rfl) (by rfl) HNW.out (fun u hu=>by simp at hu;subst hu;rfl) (by decide) (by unfold maxLen;omega) (by omega) HSA.out (wq.heap.size+2) HZZ.out ?_;intro g3 cap3 w3 hown hgrow hat hlt3))
      have HUF:Hid (iV w (dK v.t) w3):=HUU.out.below (HBA.out.grown hgrow HSA.out (fun r e=>(HO2.out.lt r e).1))
      have HOF:Hid (w3.ownsRow (w.heap.size+1) 3 1 (.slice (some ⟨g3,0,none⟩) (F (j+1)).length cap3) (F (j+1)).length (mG (F (j+1)))):=by
       unfold Hid;have e1:(F (j+1)).length=(F j).length+1:=by rw[HST.out];simp
       have e2:mG (F (j+1))=mG (F j)++[.int .i64 (j:Int)]:=by rw[HST.out];simp[mG]
       rw[e1,e2];exact hown
      have HEL:Hid ((F (j+1)).length=(F j).length+1):=by unfold Hid;rw[HST.out];simp
      clear hown hgrow hat hlt3;go_roundw
      case rel =>
       have fin:∃(k1:Nat) (a1:Option Addr) (cap1:Nat),k1≤P∧Value.int .i64 ((j:Int)+1)=.int .i64 k1∧Value.slice (some ⟨g3,0,none⟩) ((F j).length+1) cap3=.slice a1 (F k1).length cap1∧w3.ownsRow (w.heap.size+1) 3 1 (.slice a1 (F k1).length cap1) (F k1).length (mG (F k1))∧iV w (dK v.t) w3 :=
        ⟨j+1,some ⟨g3,0,none⟩,cap3,by omega,by go_num,by rw[HEL.out],HOF.out,HUF.out⟩
       first|exact fin|((repeat apply Exists.intro);exact⟨fin,rfl⟩)
      case measure=>simp[intOf];omega
     ·have hopf:v.lX j=false:=by simpa using hopn
      rw[hopf] at hop;rw[hopf,if_neg (by decide),List.append_nil] at hst
      have HST:=ah hst;have HUF:Hid (iV w (dK v.t) (wq.alloc (.cells #[] 284))):=HUU.out.below ((Below.refl _ _).alloc HUU.out.size _)
      have HOF:Hid ((wq.alloc (.cells #[] 284)).ownsRow (w.heap.size+1) 3 1 (.slice a (F (j+1)).length cap) (F (j+1)).length (mG (F (j+1)))):=by
       unfold Hid;rw[HST.out];exact HO.out.alloc _
      clear hst hopn hopf HFS HOP
      cases hb with
      | true =>
       clear hop b0'
       go_wp2_with (first
        | (at_lookup;refine wpList_lookup_own_unit _ rfl _ _ 218 rfl 3 284 wS Tryz.underlying218 (AZ _) x.m nh D rfl HM.out _ _ rfl HKEY.out ?_))
       go_roundw
       case rel =>
        have fin:∃(k1:Nat) (a1:Option Addr) (cap1:Nat),k1≤P∧Value.int .i64 ((j:Int)+1)=.int .i64 k1∧Value.slice a (F j).length cap=.slice a1 (F k1).length cap1∧(wq.alloc (.cells #[] 284)).ownsRow (w.heap.size+1) 3 1 (.slice a1 (F k1).length cap1) (F k1).length (mG (F k1))∧iV w (dK v.t) (wq.alloc (.cells #[] 284)) :=
         ⟨j+1,a,cap,by omega,by go_num,by rw[HST.out],HOF.out,HUF.out⟩
        first|exact fin|((repeat apply Exists.intro);exact⟨fin,rfl⟩)
       case measure=>simp[intOf];omega
      | false =>
       have hub:ub=true:=Ph hop;rw[hub] at b0';clear hop hub
       go_wp2_with (first
        | (at_lookup;refine wpList_lookup_own_unit _ rfl _ _ 218 rfl 3 284 wS Tryz.underlying218 (AZ _) x.m nh D rfl HM.out _ _ rfl HKEY.out ?_))
       go_roundw
       case rel =>
        have fin:∃(k1:Nat) (a1:Option Addr) (cap1:Nat),k1≤P∧Value.int .i64 ((j:Int)+1)=.int .i64 k1∧Value.slice a (F j).length cap=.slice a1 (F k1).length cap1∧(wq.alloc (.cells #[] 284)).ownsRow (w.heap.size+1) 3 1 (.slice a1 (F k1).length cap1) (F k1).length (mG (F k1))∧iV w (dK v.t) (wq.alloc (.cells #[] 284)) :=
         ⟨j+1,a,cap,by omega,by go_num,by rw[HST.out],HOF.out,HUF.out⟩
        first|exact fin|((repeat apply Exists.intro);exact⟨fin,rfl⟩)
       case measure=>simp[intOf];omega
    ·have hjp:j=P:=by omega
     subst hjp;have HO:=ah ho;have HBL:=ah hu.bel;clear ho hu;go_wp2
     go_ret
     exact⟨a,cap,rfl,ownsRow_base HO.out (Nat.le_succ _),HBL.out⟩
theorem QJ(c:Nat):(aA (c+1):Int)-1=((c / 8:Nat):Int):=by unfold aA;omega
theorem Rl(l:List (Int × Int))(c:Nat)(e:Int × Int)(hc:c<l.length):(l.set c e).set c ((l.getD c (0,0)).1,(l.getD c (0,0)).2)=l:=by
 rw[List.set_set];have:l.getD c (0,0)=l[c]:=by rw[List.getD_eq_getElem?_getD,List.getElem?_eq_getElem hc];rfl
 rw[this];exact List.set_getElem_self hc
theorem FD{B:Gd}{m:Nat}{x:Ih}{v:IV}(c:Nat)(k p:Int)(w:World)(h:aC B w x v)(hok:v.ok m)(hm:m<1000000000)(hB:B.top≤w.heap.size)(hc:c<v.t.length)(he:bM k p v.h.p=true) :
  Calls Tryz.prog 164 #[.pointer (some ⟨x.p,0,none⟩),.int .i64 (c:Int),.agg #[.int .i64 k,.int .i64 p]] w fun e w' =>
   ∃ y:Hd,e=.returned (erV v.d.aQ)∧y.p=x.h.p∧aC B w' { x with h:=y } (v.set c (k,p))∧aP B x.tb w w':=by
 have hbo:=HV.fE hok.h;have hlen:=hok.len;have hrl:=kV hc;obtain⟨hrF,hrS⟩:=uM (ts:=v.t.set c (k,p)) hok.h (by rw[List.length_set];exact hok.len) (wF hok.ents c (k,p) he) (c / 8) (by rw[List.length_set];exact hrl)
 have hbl:=(kM hok.h hok.need).1;rw[show v.h.c.toNat=v.t.length by omega] at hbl
 have HRW:Hid (∀ W:World,Calls Tryz.prog 155 #[.int .i64 ((c:Int)+1)] W fun e w'=>e=.returned (.int .i64 (aA (c+1):Int))∧w'=W):=fun W=>by
  have:=qh (c+1) W (by omega)
  rw[show(((c+1:Nat):Int))=(c:Int)+1 by omega] at this;exact this
 have HWR:Hid (∀(W:World),aC B W x { v with t:=v.t.set c (k,p) }→B.top≤W.heap.size→Calls Tryz.prog 156 #[.pointer (some ⟨x.p,0,none⟩),.int .i64 ((aA (c+1):Int)-1)] W fun e w' =>
   ∃ y:Hd,e=.returned (erV v.d.aQ)∧y.p=x.h.p∧aC B w' { x with h:=y } { v with t:=v.t.set c (k,p),d:=v.dO c (k,p) }∧aP B x.tb W w'):=fun W hi hb=>by
  rw[QJ];exact GN (c / 8) W hi hok.d hm hb (by show(v.t.set c (k,p)).length≤32;rw[List.length_set];omega) (by show c / 8+1<v.d.fl.length;omega) hrF hrS
 have hrn:aA (c+1)≤10:=by unfold aA;omega
 have hrn1:1≤aA (c+1):=by unfold aA;omega
 have hew:bM (v.t.getD c (0,0)).1 (v.t.getD c (0,0)).2 v.h.p=true:=by rw[List.getD_eq_getElem?_getD,List.getElem?_eq_getElem hc];exact hok.ents _ (List.getElem_mem hc)
 have HPF:Hid (v.d.aQ=0∨v.d.aQ=7):=by
  rcases DV.pU v.d with h7|h7
  ·exact .inl h7.1
  ·exact .inr h7.1
 have HV0:Hid (v.d.aQ=0→v.set c (k,p)=⟨v.dO c (k,p),v.h,v.t.set c (k,p),if (v.t.getD c (0,0)).1=2 then v.held++[(v.t.getD c (0,0)).2.toNat] else v.held⟩):=fun h0=>by unfold IV.set;rw[if_pos h0]
 have HV1:Hid (v.d.aQ≠0→v.set c (k,p)={ v with d:=v.dO c (k,p) }):=fun h0=>by unfold IV.set;rw[if_neg h0]
 have HBK:=ah (Rl v.t c (k,p) hc);have hfew:=hok.few;have HI:=ah h;have c4:=h.cells.2.2.2.2.1;obtain⟨t0,t1,ft⟩:=h.jw hc;obtain⟨lp,lm,lt⟩:=h.lts;generalize v.d.aQ=pf at HWR HPF HV0 HV1 ⊢;generalize v.set c (k,p)=V at HV0 HV1 ⊢;have hpN:x.tb<w.heap.size+1:=by omega
 have hc0:(0:Int)≤(c:Int):=by omega
 have hc1:(c:Int)<(v.t.length:Int):=by omega
 have hvl:v.t.length≤32:=by omega
 have hp40:=hbo.2.2.2.1;clear h hok hbl hrF hrS hrl hlen hbo he ft;generalize hy0:(v.t.getD c (0,0)).1=y0 at t0 hew HV0 HBK;generalize hy1:(v.t.getD c (0,0)).2=y1 at t1 hew HV0 HBK;clear hy0 hy1;have HLE:Hid ((v.t.set c (k,p)).length=v.t.length):=List.length_set;generalize hnn:v.t.length=n at c4 hc hc1 HLE hvl;have HN:Hid (v.t.length=n):=hnn;clear hnn;generalize aA (c+1)=rn at HRW HWR hrn hrn1;go_enter Tryz.func164,Tryz.ntmps164
 go_wp2
 have HB0:Hid (Below w.heap.size w ((w.alloc (.cells #[.int .i64 k,.int .i64 p] 211)).alloc (.cells #[.int .i64 y0,.int .i64 y1] 211))):=((Below.refl _ _).alloc (Nat.le_refl _) _).alloc (by simp) _
 have hx5:((w.alloc (.cells #[.int .i64 k,.int .i64 p] 211)).alloc (.cells #[.int .i64 y0,.int .i64 y1] 211)).heap[w.heap.size]?=some (.cells #[.int .i64 k,.int .i64 p] 211 (0,0)):=by rw[Below.heap_alloc _ _ _ (by simp),heap_alloc_new]
 have hx7:((w.alloc (.cells #[.int .i64 k,.int .i64 p] 211)).alloc (.cells #[.int .i64 y0,.int .i64 y1] 211)).heap[w.heap.size+1]?=some (.cells #[.int .i64 y0,.int .i64 y1] 211 (0,0)):=by
  have:=heap_alloc_new (w.alloc (.cells #[.int .i64 k,.int .i64 p] 211)) (.cells #[.int .i64 y0,.int .i64 y1] 211)
  rw[show(w.alloc (.cells #[.int .i64 k,.int .i64 p] 211)).heap.size=w.heap.size+1 by simp] at this;exact this
 clear c4 t0 t1;generalize (w.alloc (.cells #[.int .i64 k,.int .i64 p] 211)).alloc (.cells #[.int .i64 y0,.int .i64 y1] 211)=W0 at HB0 hx5 hx7 ⊢;have hi0:=HI.out.below HB0.out;have c4:W0.cell? ⟨x.p,4,none⟩=some (.slice (some ⟨x.tb,0,none⟩) n x.tc):=by have:=hi0.cells.2.2.2.2.1;rw[HN.out] at this;exact this
 obtain⟨t0,t1,ft⟩:=hi0.jw (c:=c) (by rw[HN.out];exact hc)
 have f0:=ft (c*2);have f1:=ft (c*2+1);have b0:W0.cell? ⟨w.heap.size,0,none⟩=some (.int .i64 k):=by rw[cell_of_row _ _ _ _ _ _ hx5];rfl
 have b1:W0.cell? ⟨w.heap.size,1,none⟩=some (.int .i64 p):=by rw[cell_of_row _ _ _ _ _ _ hx5];rfl
 obtain⟨hi1,hk1⟩:=hi0.Fp c k p;have htb0:w.heap.size+1≠x.tb:=by omega
 have hx7b:=aP.box hk1 hx7 (by decide) htb0
 have HI1:=ah hi1.drew;have HK1:Hid (aP B x.tb w ((W0.setCell ⟨x.tb,c*2,none⟩ (.int .i64 k)).setCell ⟨x.tb,c*2+1,none⟩ (.int .i64 p)).drew):=aP.trans (aP.trans (aP.of_below HB0.out) hk1) (aP.of_below (Below.refl _ _).drew);have HX7:Hid (((W0.setCell ⟨x.tb,c*2,none⟩ (.int .i64 k)).setCell ⟨x.tb,c*2+1,none⟩ (.int .i64 p)).drew.heap[w.heap.size+1]?=some (.cells #[.int .i64 y0,.int .i64 y1] 211 (0,0))):=hx7b;clear hi0 hi1 hk1 hx5 hx7 hx7b ft HI;go_region
 have hB1:B.top≤((W0.setCell ⟨x.tb,c*2,none⟩ (.int .i64 k)).setCell ⟨x.tb,c*2+1,none⟩ (.int .i64 p)).drew.heap.size:=Nat.le_trans hB HK1.out.size;clear c4 t0 t1 f0 f1 b0 b1 HB0;generalize ((W0.setCell ⟨x.tb,c*2,none⟩ (.int .i64 k)).setCell ⟨x.tb,c*2+1,none⟩ (.int .i64 p)).drew=W1 at HI1 HK1 HX7 hB1 ⊢;have HW2:=ah (HWR.out W1 HI1.out hB1);clear HWR HI1;go_wp2_with (go_at_call 155;refine(HRW.out _).mono ?_;rintro e w' ⟨rfl,hw⟩;have hw':=hw.symm;subst hw';clear hw)
 refine HW2.out.mono ?_;rintro e w3 ⟨y,rfl,hyp,hi3,hk3⟩;have HYP:=ah hyp;have hx3:=hk3.box HX7.out (by decide) htb0
 have z0:w3.cell? ⟨w.heap.size+1,0,none⟩=some (.int .i64 y0):=by rw[cell_of_row _ _ _ _ _ _ hx3];rfl
 have z1:w3.cell? ⟨w.heap.size+1,1,none⟩=some (.int .i64 y1):=by rw[cell_of_row _ _ _ _ _ _ hx3];rfl
 have HK3:=ah (aP.trans HK1.out hk3);clear hyp hk3 HX7 HK1 HW2 hx3 HRW;by_cases hpf:pf=0
 ·have HV:=ah (HV0.out hpf)
  have HE0:Hid (erV pf=.nilIface):=by unfold Hid;rw[hpf,aB]
  rw[hpf,aB];clear HV0 HV1 HPF hpf HBK;by_cases h2:y0=2
  ·have hwq:0≤y1∧y1<1000:=by
    rcases iK hew with h4|h4
    ·omega
    ·omega
   obtain⟨q,rfl⟩:∃ q:Nat,y1=(q:Int):=⟨y1.toNat,by omega⟩
   obtain⟨w4,hru,hm4,htu⟩:=hi3.drew.map.store wS Tryz.underlying218 (by show v.held.length<maxLen;unfold maxLen;omega) (DR q (by omega)) unitElem_mk
   have hm5:w4.ownsMap Tryz.prog 3 (unitElem (H:=Unit)) x.m (v.held++[q]).length (oH (v.held++[q])):=by
    rw[MI,List.length_append];exact hm4
   obtain⟨hi4,hk4⟩:=hi3.drew.Eb (v.held++[q]) htu hm5;have c5:=hi3.cells.2.2.2.2.2.1
   have HV2:Hid (V=⟨v.dO c (k,p),v.h,v.t.set c (k,p),v.held++[q]⟩):=by
    unfold Hid;rw[HV.out,if_pos h2];simp
   have HI4:=ah hi4;have HK4:=ah (aP.trans (aP.trans HK3.out (aP.of_below (Below.refl _ w3).drew)) hk4);have g2:(y0==2)=true:=by simpa using h2
   clear hi4 hk4 hm4 hm5 htu hi3 HV h2 hew HK3 hwq;go_wp2
   go_region
   go_wp2
   go_ret
   exact⟨y,iw HE0.out.symm,HYP.out,by rw[HV2.out];exact HI4.out,HK4.out⟩
  ·have HV2:Hid (V=⟨v.dO c (k,p),v.h,v.t.set c (k,p),v.held⟩):=by
    unfold Hid;rw[HV.out,if_neg h2]
   have HI3:=ah hi3;have g2:(y0==2)=false:=by simpa using h2
   clear hi3 HV h2 hew;go_wp2
   go_ret
   exact⟨y,iw HE0.out.symm,HYP.out,by rw[HV2.out];exact HI3.out,HK3.out⟩
 ·have HV:=ah (HV1.out hpf)
  have e7:erV pf=.iface 127 (.int .i64 7):=by
   rcases HPF.out with h7|h7
   ·exact absurd h7 hpf
   ·rw[h7];simp[erV]
  have HE7:=ah e7;rw[e7];have c4:w3.cell? ⟨x.p,4,none⟩=some (.slice (some ⟨x.tb,0,none⟩) n x.tc):=by have:=hi3.cells.2.2.2.2.1;rw[HLE.out] at this;exact this
  obtain⟨t0,t1,ft⟩:=hi3.jw (c:=c) (by show c<(v.t.set c (k,p)).length;rw[HLE.out];exact hc)
  have f0:=ft (c*2);have f1:=ft (c*2+1);obtain⟨hi4,hk4⟩:=hi3.Fp c y0 y1
  have HI4:Hid (aC B ((w3.setCell ⟨x.tb,c*2,none⟩ (.int .i64 y0)).setCell ⟨x.tb,c*2+1,none⟩ (.int .i64 y1)).drew { x with h:=y } { v with d:=v.dO c (k,p) }):=by
   have:=hi4.drew
   unfold Hid;rw[show(({ v with t:=v.t.set c (k,p),d:=v.dO c (k,p) }:IV).t.set c (y0,y1))=v.t from HBK.out] at this
   exact this
  have HK4:=ah (aP.trans (aP.trans HK3.out hk4) (aP.of_below (Below.refl _ _).drew));clear hi4 hk4 hi3 HV0 HV1 HPF hpf HBK e7 ft hew HK3;go_wp2
  go_region
  go_wp2
  go_ret
  exact⟨y,iw HE7.out.symm,HYP.out,by rw[HV.out];exact HI4.out,HK4.out⟩
def Did(B:Gd)(w:World)(x:Ih)(V:IV)(f:Int)(e:Ending)(w':World):Prop :=
 ∃ y:Hd,e=.returned (erV f)∧y.p=x.h.p∧aC B w' { x with h:=y } V∧aP B x.tb w w'
theorem Did.from{B:Gd}{w w1:World}{x:Ih}{V:IV}{f:Int}{e:Ending}{w':World}(h:Did B w1 x V f e w')(hb:Below w.heap.size w w1):Did B w x V f e w':=by
 obtain⟨y,h1,h2,h3,h4⟩:=h;exact⟨y,h1,h2,h3,aP.trans (aP.of_below hb) h4⟩
theorem oC{B:Gd}{w w':World}{x:Ih}{v:IV}{f:Int}(h:aC B w x v)(hb:Below w.heap.size w w'):Did B w x v f (.returned (erV f)) w':=⟨x.h,rfl,rfl,h.below hb,aP.of_below hb⟩
theorem aT{f:Int}(h:f≠0):erV f=.iface 127 (.int .i64 f):=by unfold erV;rw[if_neg h]
theorem TY{B:Gd}{x:Ih}{v:IV}(c fr:Int)(s:ByteArray)(w:World)(h:aC B w x v)(hs:s.size≤1000)(hf : -9223372036854775808≤fr∧fr≤9223372036854775807)(hw:kK v c fr s=false) :
  Calls Tryz.prog 185 #[.pointer (some ⟨x.p,0,none⟩),.int .i64 c,.int .i64 fr,.string s] w fun e w'=>e=.returned (.iface 127 (.int .i64 1))∧Below w.heap.size w w':=by
 have HE:=ah (qC c w h)
 cases hc:v.there c with
 | false =>
  have e1:v.gy c=1:=by unfold IV.gy;rw[hc];rfl
  rw[e1,dM] at HE;clear h hc e1 hw;generalize (v.bH c).1=y0 at HE;generalize (v.bH c).2=y1 at HE;go_enter Tryz.func185,Tryz.ntmps185
  go_wp2_with fail
  refine HE.out.mono ?_;rintro e w1 ⟨rfl,hb1⟩;go_wp2
  go_ret
  exact⟨rfl,hb1.alloc hb1.size _⟩
 | true =>
  have e1:v.gy c=0:=by unfold IV.gy;rw[hc];rfl
  rw[e1,aB] at HE
  have hd:¬(0≤fr∧fr≤4∧s.size % 16=0∧(s.size:Int)≤16*(4-fr)):=by
   unfold kK at hw;rw[hc,Bool.true_and] at hw;exact of_decide_eq_false hw
  clear h hc e1 hw;generalize (v.bH c).1=y0 at HE;generalize (v.bH c).2=y1 at HE;by_cases h1:fr<0
  ·have g1:decide (fr<0)=true:=decide_eq_true h1
   go_enter Tryz.func185,Tryz.ntmps185
   go_wp2_with fail
   refine HE.out.mono ?_;rintro e w1 ⟨rfl,hb1⟩;go_wp2
   go_ret
   exact⟨rfl,hb1.alloc hb1.size _⟩
  ·have g1:decide (fr<0)=false:=decide_eq_false h1
   by_cases h2:4<fr
   ·have g2:decide (4<fr)=true:=decide_eq_true h2
    go_enter Tryz.func185,Tryz.ntmps185
    go_wp2_with fail
    refine HE.out.mono ?_;rintro e w1 ⟨rfl,hb1⟩;go_wp2
    go_ret
    exact⟨rfl,hb1.alloc hb1.size _⟩
   ·have g2:decide (4<fr)=false:=decide_eq_false h2
    by_cases h3:s.size % 16=0
    ·have g3:((s.size:Int) % 16 != 0)=false:=by simp;omega
     have g4:decide (4-fr<(s.size:Int) / 16)=true:=by simp;omega
     go_enter Tryz.func185,Tryz.ntmps185
     go_wp2_with fail
     refine HE.out.mono ?_;rintro e w1 ⟨rfl,hb1⟩;go_wp2
     go_ret
     exact⟨rfl,hb1.alloc hb1.size _⟩
    ·have g3:((s.size:Int) % 16 != 0)=true:=by simp;omega
     go_enter Tryz.func185,Tryz.ntmps185
     go_wp2_with fail
     refine HE.out.mono ?_;rintro e w1 ⟨rfl,hb1⟩;go_wp2
     go_ret
     exact⟨rfl,hb1.alloc hb1.size _⟩
theorem Ua{B:Gd}{m:Nat}{x:Ih}{v:IV}(c fr:Int)(s:ByteArray)(w:World)(h:aC B w x v)(hok:v.ok m)(hm:m+10<1000000000)(hB:B.top≤w.heap.size)(hs:s.size≤1000)(hf : -9223372036854775808≤fr∧fr≤9223372036854775807) :
  Calls Tryz.prog 185 #[.pointer (some ⟨x.p,0,none⟩),.int .i64 c,.int .i64 fr,.string s] w (Did B w x (v.write c fr s) (v.dB c fr s)):=by
 cases hw:kK v c fr s with
 | false =>
  refine(TY c fr s w h hs hf hw).mono ?_;rintro e w' ⟨rfl,hb⟩;have e1:v.write c fr s=v:=by unfold IV.write;rw[hw,if_neg (fun h=>by cases h.1)]
  have e2:v.dB c fr s=1:=by unfold IV.dB;rw[hw];rfl
  rw[e1,e2,← dM];exact oC h hb
 | true =>
  obtain⟨h1,h2,h3,h4,h5⟩:=yu hw;have HE:=ah (qC c w h);have e1:v.gy c=0:=by unfold IV.gy;rw[h1];rfl
  have e2:v.bH c=v.ent c:=by unfold IV.bH;rw[h1];rfl
  rw[e1,aB,e2] at HE;have g1:decide (fr<0)=false:=decide_eq_false (by omega)
  have g2:decide (4<fr)=false:=decide_eq_false (by omega)
  have g3:((s.size:Int) % 16 != 0)=false:=by simp;omega
  have g4:decide (4-fr<(s.size:Int) / 16)=false:=by simp;omega
  have HI:=ah h;by_cases hk:(v.ent c).1=2
  ·obtain⟨p0,p1,p2⟩:=hok.place h1 hk
   have hbo:=HV.fE hok.h;have HV:Hid (v.write c fr s={ v with d:=(v.qP c fr s).1 }):=by unfold Hid IV.write;rw[if_pos ⟨hw,hk⟩]
   have HF:Hid (v.dB c fr s=(v.qP c fr s).2):=by unfold Hid IV.dB;rw[hw,if_pos rfl,if_pos hk]
   have HWP:Hid (∀ W:World,aC B W x v→B.top≤W.heap.size→Calls Tryz.prog 168 #[.pointer (some ⟨x.p,0,none⟩),.int .i64 (v.ent c).2,.int .i64 fr,.string s] W (Did B W x (v.write c fr s) (v.dB c fr s))):=fun W hi hb=>by
    have:=GL (v.ent c).2.toNat fr.toNat (s.size / 16) s W hi hok.d (by omega) hb hok.h (by omega) (by omega) (by omega) (by omega)
    rw[show(((v.ent c).2.toNat:Nat):Int)=(v.ent c).2 by omega,show((fr.toNat:Nat):Int)=fr by omega] at this
    rw[HV.out,HF.out];exact this
   generalize v.write c fr s=V at HWP ⊢;generalize v.dB c fr s=f at HWP ⊢;rw[hk] at HE;clear h hok h1 h5 h4 hw e1 e2 p0 p1 p2 hbo hk HV HF;generalize (v.ent c).2=y1 at HE HWP;go_enter Tryz.func185,Tryz.ntmps185
   go_wp2_with fail
   refine HE.out.mono ?_;rintro e w1 ⟨rfl,hb1⟩;have HB1:=ah (hb1.alloc hb1.size (.cells #[.int .i64 2,.int .i64 y1] 211));have HW2:=ah (HWP.out _ (HI.out.below HB1.out) (Nat.le_trans hB HB1.out.size));clear hb1 HE HI HWP;go_wp2_with fail
   refine HW2.out.mono ?_;rintro e w2 ⟨y,rfl,h2y,h3y,h4y⟩;have HD:Hid (Did B w x V f (.returned (erV f)) w2):=Did.from ⟨y,rfl,h2y,h3y,h4y⟩ HB1.out;clear h2y h3y h4y;go_wp2
   go_ret
   exact HD.out
  ·have e3:v.write c fr s=v:=by unfold IV.write;rw[if_neg (fun h=>hk h.2)]
   have e4:v.dB c fr s=4:=by unfold IV.dB;rw[hw,if_pos rfl,if_neg hk]
   rw[e3,e4];generalize (v.ent c).1=y0 at HE hk;generalize (v.ent c).2=y1 at HE;have g5:(y0 != 2)=true:=by simpa using hk
   clear h hok h1 h5 h4 hw e1 e2 e3 e4 hk;go_enter Tryz.func185,Tryz.ntmps185
   go_wp2_with fail
   refine HE.out.mono ?_;rintro e w1 ⟨rfl,hb1⟩;have HD:Hid (Did B w x v 4 (.returned (erV 4)) (w1.alloc (.cells #[.int .i64 y0,.int .i64 y1] 211))):=oC HI.out (hb1.alloc hb1.size _);rw[aT (by decide)] at HD
   clear hb1;go_wp2
   go_ret
   exact HD.out
end Go.Proofs.YtonhoahnieoebabGreatDoor
