/- What three calls of Go's library give where an image calls them: a text is written into a builder; a builder's text; noughts by Repeat. -/
import Derived.Test.YtonhoahnieoebabGreatDoorQAShelf
import Derived.Test.YtonhoahnieoebabGreatDoorQAImgGets
set_option maxHeartbeats 1000000
set_option maxRecDepth 100000
namespace Go.Proofs.YtonhoahnieoebabGreatDoor
open Go.RowKit
theorem Ip(B b:Nat)(l:List UInt8)(s:ByteArray)(w:World)(h:Lib.IsBuilder 232 5 B b (Lib.byteCells l) w)(hlen:l.length+s.size≤140737488355328)(hBw:B≤w.heap.size) :
  Calls Tryz.prog 181 #[.pointer (some ⟨b,0,none⟩),.string s] w fun e w' =>
   e=.returned (.tuple #[.int .i64 s.size,.nilIface])∧Lib.IsBuilder 232 5 B b (Lib.byteCells (l++s.data.toList)) w'∧Below B w w':=by
 refine(Any.Builder_WriteString { Tryz.lays105 with } Tryz.Builder_Extra_105 B b (Lib.byteCells l) s w h (by rw[Lib.byteCells_length];exact hlen) hBw).mono ?_
 rintro e w' ⟨rfl,h1,h2⟩;refine⟨rfl,.inr ?_,h2⟩;have e1:Lib.byteCells (l++s.data.toList)=Lib.byteCells l++Lib.strCells s:=by simp[Lib.byteCells,Lib.strCells]
 rw[e1];exact h1
theorem Il(B b:Nat)(l:List UInt8)(w:World)(h:Lib.IsBuilder 232 5 B b (Lib.byteCells l) w)(hBw:B≤w.heap.size) :
  Calls Tryz.prog 182 #[.pointer (some ⟨b,0,none⟩)] w fun e w'=>e=.returned (.string ⟨l.toArray⟩)∧Below B w w' :=
 Tryz.Builder_String_any B b l w h hBw
def zL:List UInt8:=List.replicate 64 0
theorem Qv:Lib.repeatL [0] 64=zL:=by decide
theorem Qw(w:World) :
  Calls Tryz.prog 238 #[.string ⟨#[0]⟩,.int .i64 64] w fun e w'=>e=.returned (.string ⟨zL.toArray⟩)∧Below w.heap.size w w':=by
 have h:=Tryz.strings_Repeat ⟨#[0]⟩ 64 w (by omega) (by show 1*64≤_;omega)
 rw[show(⟨#[0]⟩:ByteArray).data.toList=[0] from rfl,Qv] at h
 exact h
open Go.Maps
attribute [local go_sem ↓] Go.wp_at_zero Go.wp_at_succ
theorem Qd{B:Gd}{x:Ih}{v:IV}(q:Nat)(w:World)(h:aC B w x v)(hk:v.h.ok=true)(hq:q≤40)(ha:aI v.h q+4≤v.d.fl.length)(h16:∀ s∈v.d.seen,s.length=16)(hn:v.d.fl.length≤200)(hsl:v.d.seen.length=v.d.fl.length) :
  Calls Tryz.prog 237 #[.pointer (some ⟨x.p,0,none⟩),.int .i64 (q:Int)] w fun e w' =>
   e=.returned (.tuple #[.string ⟨(lH v.d (aI v.h q) 4).toArray⟩,.nilIface])∧Below w.heap.size w w':=by
 obtain⟨c0,c1,c2,c3,c4,c5,fz⟩:=h.cells;have HBG:Hid (∀ W:World,Calls Tryz.prog 212 #[.agg #[.int .i64 v.h.c,.int .i64 v.h.p,.int .i64 v.h.b],.int .i64 (q:Int)] W fun e w'=>e=.returned (.int .i64 (aI v.h q:Int))∧Below W.heap.size W w'):=fun W=>yC v.h.c v.h.p v.h.b q W hk hq
 generalize aI v.h q=a at HBG ha ⊢;have HP0:Hid (lH v.d a 0=[]):=rfl;have HPS:Hid (∀ k,lH v.d a (k+1)=lH v.d a k++v.d.seen.getD (a+k) []):=fun _=>rfl
 have HPL:Hid (∀ k,k≤4→(lH v.d a k).length=16*k):=fun k hk4=>by
  induction k with
  | zero=>rfl
  | succ k ih =>
   rw[HPS.out,List.length_append,ih (by omega)]
   have hx:a+k<v.d.seen.length:=by omega
   have:(v.d.seen.getD (a+k) []).length=16:=by rw[List.getD_eq_getElem?_getD,List.getElem?_eq_getElem hx];exact h16 _ (List.getElem_mem hx)
   omega
 have HSB:Hid (∀ k,k<4→(bytesOf (v.d.seen.getD (a+k) [])).size=16):=fun k hk4=>by
  have hx:a+k<v.d.seen.length:=by omega
  have:(v.d.seen.getD (a+k) []).length=16:=by rw[List.getD_eq_getElem?_getD,List.getElem?_eq_getElem hx];exact h16 _ (List.getElem_mem hx)
  show(v.d.seen.getD (a+k) []).toArray.size=16
  simpa using this
 have HRD:Hid (∀(k:Nat) (W:World),k<4→aC B W x v→Calls Tryz.prog 135 #[.pointer (some ⟨x.h.p,0,none⟩),.int .i64 ((a:Int)+(k:Int))] W fun e w'=>e=.returned (.tuple #[.string (bytesOf (v.d.seen.getD (a+k) [])),.nilIface])∧w'=W):=fun k W hk4 hi=>by
  have:=kF (a+k) W hi.dev.toaH (by omega)
  rw[show(((a+k:Nat):Int))=(a:Int)+(k:Int) by omega] at this;exact this
 have HI:=ah h;generalize lH v.d a=PL at HP0 HPS HPL ⊢;clear h fz c4 c5 hk hq h16 hsl;go_enter Tryz.func237,Tryz.ntmps237
 go_wp2_with fail
 refine(HBG.out _).mono ?_;rintro e w1 ⟨rfl,hb1⟩;have HI1:=ah (HI.out.below hb1);have HB1:=ah hb1;have HBU:Hid (Lib.IsBuilder 232 5 w1.heap.size w1.heap.size [] (w1.alloc (.cells #[.pointer none,.slice none 0 0] 232))):=Lib.fresh_isBuilder _ _ _;clear hb1 HBG HI c0 c1 c2 c3;go_wp2
 go_loopw [17] (fun i wr=>∃(k:Nat),k≤4∧i=.int .i64 k∧Lib.IsBuilder 232 5 w1.heap.size w1.heap.size (Lib.byteCells (PL k)) wr∧Below w1.heap.size w1 wr) (fun i _=>4-(intOf i).toNat)
 case atStart=>exact⟨0,Nat.zero_le _,rfl,by rw[HP0.out];exact HBU.out,(Below.refl _ _).alloc (Nat.le_refl _) _⟩
 case round =>
  obtain⟨k,hk4,rfl,hbu,hbel⟩:=hrel;have hi:=HI1.out.below hbel;have c0:=hi.cells.1;have HBL:=ah hbel;by_cases hlt:k<4
  ·have HR:=ah (HRD.out k wr hlt hi)
   have HWS:=ah (Ip w1.heap.size w1.heap.size (PL k) (bytesOf (v.d.seen.getD (a+k) [])) wr hbu (by rw[HPL.out k (by omega),HSB.out k hlt];omega) hbel.size)
   have HST:=HPS.out k;have HSTT:Hid (PL (k+1)=PL k++(bytesOf (v.d.seen.getD (a+k) [])).data.toList):=by unfold Hid;rw[HST];simp[bytesOf]
   clear hi hbu hbel HRD HST HPS;generalize bytesOf (v.d.seen.getD (a+k) [])=S at HR HWS HSTT;have hak:IntKind.i64.wrap ((a:Int)+(k:Int))=(a:Int)+(k:Int):=IntWalk.i64_in _ (by omega)
   go_wp2_with fail
   refine HR.out.mono ?_;rintro e w' ⟨rfl,hw⟩;have hw':=hw.symm;subst hw';clear hw;go_wp2_with fail
   refine HWS.out.mono ?_;rintro e w3 ⟨rfl,hbu3,hb3⟩;have HBU3:Hid (Lib.IsBuilder 232 5 w1.heap.size w1.heap.size (Lib.byteCells (PL (k+1))) w3):=by unfold Hid;rw[HSTT.out];exact hbu3
   have HB3:=ah (HBL.out.trans hb3);clear hbu3 hb3 HR HWS;go_wp2
   go_roundw
   case rel =>
    have fin:∃(k1:Nat),k1≤4∧Value.int .i64 ((k:Int)+1)=.int .i64 k1∧Lib.IsBuilder 232 5 w1.heap.size w1.heap.size (Lib.byteCells (PL k1)) w3∧Below w1.heap.size w1 w3:=⟨k+1,by omega,by go_num,HBU3.out,HB3.out⟩
    first|exact fin|((repeat apply Exists.intro);exact⟨fin,rfl⟩)
   case measure=>simp[intOf];omega
  ·have hk44:k=4:=by omega
   subst hk44;have HSG:=ah (Il w1.heap.size w1.heap.size (PL 4) wr hbu hbel.size);clear hi hbu hbel HRD HPS;go_wp2_with fail
   refine HSG.out.mono ?_;rintro e w3 ⟨rfl,hb3⟩;have HB3:=ah (HBL.out.trans hb3);clear hb3;go_wp2
   go_ret2
   exact⟨rfl,HB1.out.trans (HB3.out.mono HB1.out.size)⟩
theorem Qo{B:Gd}{m:Nat}{x:Ih}{v:IV}(c:Int)(w:World)(h:aC B w x v)(hok:v.ok m) :
  Calls Tryz.prog 150 #[.pointer (some ⟨x.p,0,none⟩),.int .i64 c] w fun e w' =>
   e=.returned (.tuple #[.string ⟨(v.jm c).toArray⟩,erV (v.kU c)])∧Below w.heap.size w w':=by
 have HE:=ah (qC c w h);have HI:=ah h
 cases hc:v.there c with
 | false =>
  have HS:Hid (v.jm c=[]):=by unfold Hid IV.jm;rw[hc];rfl
  have HF:Hid (erV (v.kU c)=.iface 127 (.int .i64 1)):=by unfold Hid IV.kU;rw[hc];exact dM
  have e1:v.gy c=1:=by unfold IV.gy;rw[hc];rfl
  rw[e1,dM] at HE;clear h hok hc e1;generalize (v.bH c).1=y0 at HE;generalize (v.bH c).2=y1 at HE;go_enter Tryz.func150,Tryz.ntmps150
  go_wp2_with fail
  refine HE.out.mono ?_;rintro e w1 ⟨rfl,hb1⟩;go_wp2
  go_ret2
  exact⟨by rw[HS.out,HF.out];rfl,hb1.alloc hb1.size _⟩
 | true =>
  have e1:v.gy c=0:=by unfold IV.gy;rw[hc];rfl
  have e2:v.bH c=v.ent c:=by unfold IV.bH;rw[hc];rfl
  rw[e1,aB,e2] at HE;by_cases h2:(v.ent c).1=2
  ·obtain⟨p0,p1,p2⟩:=hok.place hc h2
   have hb:=HV.fE hok.h;have HS:Hid (v.jm c=lH v.d (aI v.h (v.ent c).2.toNat) 4):=by unfold Hid IV.jm;rw[hc,if_pos rfl,if_pos h2]
   have HF:Hid (erV (v.kU c)=.nilIface):=by unfold Hid IV.kU;rw[hc,if_pos rfl,if_neg (by omega)];exact aB
   have HRP:Hid (∀ W:World,aC B W x v→Calls Tryz.prog 237 #[.pointer (some ⟨x.p,0,none⟩),.int .i64 (v.ent c).2] W fun e w'=>e=.returned (.tuple #[.string ⟨(v.jm c).toArray⟩,.nilIface])∧Below W.heap.size W w'):=fun W hi=>by
    have:=Qd (v.ent c).2.toNat W hi hok.h (by omega) p2 hok.d.ok.l2 hok.d.ok.n2 hok.d.ok.same
    rw[show(((v.ent c).2.toNat:Nat):Int)=(v.ent c).2 by omega,← HS.out] at this;exact this
   rw[h2] at HE;clear h hok hc e1 e2 p0 p1 p2 hb h2 HS;generalize (v.ent c).2=y1 at HE HRP;generalize v.jm c=S at HRP ⊢;go_enter Tryz.func150,Tryz.ntmps150
   go_wp2_with fail
   refine HE.out.mono ?_;rintro e w1 ⟨rfl,hb1⟩;have HR2:=ah (HRP.out (w1.alloc (.cells #[.int .i64 2,.int .i64 y1] 211)) (HI.out.below (hb1.alloc hb1.size _)));have HB1:=ah (hb1.alloc hb1.size (.cells #[.int .i64 2,.int .i64 y1] 211));clear HRP hb1 HE HI;go_wp2_with fail
   refine HR2.out.mono ?_;rintro e w2 ⟨rfl,hb2⟩;go_wp2
   go_ret2
   exact⟨by rw[HF.out];rfl,HB1.out.trans (hb2.mono HB1.out.size)⟩
  ·by_cases h1:(v.ent c).1=1
   ·have HS:Hid (v.jm c=zL):=by unfold Hid IV.jm;rw[hc,if_pos rfl,if_neg h2,if_pos h1];rfl
    have HF:Hid (erV (v.kU c)=.nilIface):=by unfold Hid IV.kU;rw[hc,if_pos rfl,if_neg (by omega)];exact aB
    rw[h1] at HE;clear h hok hc e1 e2 h1 h2;generalize (v.ent c).2=y1 at HE;generalize v.jm c=S at HS ⊢;have HRA:=ah Qw;go_enter Tryz.func150,Tryz.ntmps150
    go_wp2_with fail
    refine HE.out.mono ?_;rintro e w1 ⟨rfl,hb1⟩;have HB1:=ah (hb1.alloc hb1.size (.cells #[.int .i64 1,.int .i64 y1] 211));clear hb1 HE HI;go_wp2_with fail
    refine(HRA.out _).mono ?_;rintro e w2 ⟨rfl,hb2⟩;go_wp2
    go_ret2
    exact⟨by rw[HF.out,HS.out];rfl,HB1.out.trans (hb2.mono HB1.out.size)⟩
   ·have h0:(v.ent c).1=0:=by
     rcases iK (hok.ent hc) with h3|h3
     ·omega
     ·omega
    have HS:Hid (v.jm c=[]):=by unfold Hid IV.jm;rw[hc,if_pos rfl,if_neg h2,if_neg h1]
    have HF:Hid (erV (v.kU c)=.iface 127 (.int .i64 4)):=by unfold Hid IV.kU;rw[hc,if_pos rfl,if_pos h0];simp[erV]
    rw[h0] at HE;clear h hok hc e1 e2 h1 h2 h0;generalize (v.ent c).2=y1 at HE;go_enter Tryz.func150,Tryz.ntmps150
    go_wp2_with fail
    refine HE.out.mono ?_;rintro e w1 ⟨rfl,hb1⟩;go_wp2
    go_ret2
    exact⟨by rw[HS.out,HF.out];rfl,hb1.alloc hb1.size _⟩
open Go.ChangeMaps Go.MapKept
theorem QK{P:Program}{k t e:TypeId}{R:Value→Option (DataW Unit × List MemPlace)}{w:World}{b n:Nat}{D:DataW Unit}(h:w.ownsMap P k R b n D)(ht:P.underlying t=some (.map k e)) :
  ∃ w',(∀ ty,(Builtin.clear_ #[t] ty #[.map (some b)]).run P w=.ok (.tuple #[]) w')∧w'.ownsMap P k R b 0 (.map [])∧w.mapTurned w' b:=by
 obtain⟨es,clock,hb,F,hs,rfl⟩:=h;refine⟨setBlock w b (.map #[] clock),fun ty=>?_,⟨#[],clock,heap_setBlock_same hb _,⟨by simp,stamped_empty clock,by simp⟩,Nat.le_refl _,rfl⟩,⟨es,clock, #[],clock,hb,rfl⟩⟩
 simp[Builtin.clear_,run_underlying ht,MapKept.run_getObj_map hb,MapKept.run_setObj_map _ hb,Result.andThen,setBlock]
theorem MI(l:List Nat)(q:Nat):oH (l++[q])=(oH l).put (.int .i64 (q:Int)) (.agg []):=by
 unfold oH;rw[List.map_append];exact setOf_snoc _ _ _
theorem aC.Eb{B:Gd}{w w':World}{x:Ih}{v:IV}(h:aC B w x v)(held:List Nat)(ht:w.mapTurned w' x.m)(hm:w'.ownsMap Tryz.prog 3 (unitElem (H:=Unit)) x.m held.length (oH held)) :
  aC B w' x { v with held:=held }∧aP B x.tb w w':=by
 have hg:=ht.grown;obtain⟨es,c,e2⟩:=rP h.map;have n1:some x.p≠some x.m:=fun e=>by have:=h.blk;rw[Option.some.inj e,e2] at this;cases this
 have n3:some x.tb≠some x.m:=fun e=>by obtain⟨_,cur,hh⟩:=h.tb;rw[Option.some.inj e,e2] at hh;cases hh
 have n2:∀ k,x.h.fp k→some k≠some x.m:=fun k hk e=>by
  obtain⟨cur2,t,e1,p⟩:=h.dev.kinds _ hk;rw[Option.some.inj e,e2] at e1;cases e1
 obtain⟨l1,l2,l3⟩:=h.lts
 refine⟨⟨?_,h.pB,h.mB,h.dev.keep fun k hk=>hg.block _ (h.dev.lt k hk).2 (n2 k hk),dA h.own (fun k e=>by
  have:x.tb=k:=by simpa [Value.ownBlock] using e
  subst this;exact hg.block _ l3 n3),hm⟩,?_⟩
 ·rw[hg.block _ l1 n1];exact h.blk
 ·exact(Kept.refl _ _).grown hg fun k e=>by
   have:x.m=k:=by simpa using e
   subst this;exact .inl ⟨h.mB,.inl (.inr ⟨es,c,e2⟩)⟩
theorem wP{B:Gd}{x:Ih}{v:IV}(w:World)(h:aC B w x v) :
  Calls Tryz.prog 169 #[.pointer (some ⟨x.p,0,none⟩)] w fun e w' =>
   ∃ h':Hd,e=.returned (.tuple #[])∧h'.p=x.h.p∧aC B w' { x with h:=h' } v.flush∧aP B x.tb w w':=by
 obtain⟨c0,c1,c2,c3,c4,c5,fz⟩:=h.cells;have HI:=ah h;have HF:=ah (flush_any w h.dev.toaH);clear c1 c2 c3 c4 fz h;go_enter Tryz.func169,Tryz.ntmps169
 go_wp2_with fail
 refine HF.out.mono ?_;rintro e w1 ⟨rfl,hd1,hk1⟩;have hk2:Kept x.h.fp w w1:=hk1.mono fun k _ hs=>by rcases hs with hs|hs;exact .inl hs;exact .inr (.inl hs)
 obtain⟨hi1,hp1⟩:=HI.out.tX (HI.out.dev.nilled hd1) rfl hk2;obtain⟨w2,hr,hm,htu⟩:=QK hi1.map Tryz.underlying218;obtain⟨hi2,hp2⟩:=hi1.Eb [] htu hm;have c5':=hi1.cells.2.2.2.2.2.1;have HI2:=ah hi2;have HP2:=ah (aP.trans hp1 hp2);clear hd1 hk1 hk2 hi1 hp1 hm htu hi2 hp2 HI HF c5 c0;go_wp2
 go_end0
 exact⟨{ x.h with v2:=.slice none 0 0 },rfl,rfl,HI2.out,HP2.out⟩
theorem Kz{B:Gd}{w:World}{x:Ih}{v:IV}(h:aC B w x v):nK w (some ⟨x.tb,0,none⟩) v.t.length v.t :=
 CU h.own _ (by rw[List.take_of_length_le (by rw[yV];exact Nat.le_refl _)]) (Nat.le_refl _) rfl
theorem MJ{B:Gd}{w:World}{x:Ih}{v:IV}(h:aC B w x v):v.t.length≤x.tc:=by
 obtain⟨_,cur,hh,hc1,_⟩:=gB h.own;exact hc1
theorem GN{B:Gd}{m:Nat}{x:Ih}{v:IV}(r:Nat)(w:World)(h:aC B w x v)(hd:v.d.fine v.d.fl.length m)(hm:m<1000000000)(hB:B.top≤w.heap.size)(hl:v.t.length≤32)(hr:r+1<v.d.fl.length)(hf:jM v.t (r:Int)=0)(hs:(dG v.t (r:Int)).size=16) :
  Calls Tryz.prog 156 #[.pointer (some ⟨x.p,0,none⟩),.int .i64 (r:Int)] w fun e w' =>
   ∃ h':Hd,e=.returned (erV v.d.aQ)∧h'.p=x.h.p∧aC B w' { x with h:=h' } { v with d:=v.d.put (1+r) (dG v.t (r:Int)).data.toList }∧aP B x.tb w w':=by
 obtain⟨c0,c1,c2,c3,c4,c5,fz⟩:=h.cells;have HI:=ah h
 have HR:Hid (∀ W:World,Below w.heap.size w W→Calls Tryz.prog 239 #[.slice (some ⟨x.tb,0,none⟩) v.t.length x.tc,.int .i64 (r:Int)] W fun e w'=>e=.returned (.tuple #[.string (dG v.t (r:Int)),.nilIface])∧Below W.heap.size W w'):=fun W hb=>by
  have:=QD (some ⟨x.tb,0,none⟩) v.t.length x.tc v.t (r:Int) W ((Kz h).below hb) (by omega) (MJ h)
  rw[hf,aB] at this;exact this
 have HW:Hid (∀(W:World),aC B W x v→B.top≤W.heap.size→Calls Tryz.prog 214 #[.pointer (some ⟨x.h.p,0,none⟩),.int .i64 (1+(r:Int)),.string (dG v.t (r:Int))] W fun e w' =>
   ∃ v2,e=.returned (erV v.d.aQ)∧bg B w' { x.h with v2:=v2 } (v.d.put (1+r) (dG v.t (r:Int)).data.toList)∧Kept x.h.fp W w'):=fun W hi hb=>by
  have:=wu (1+r) (dG v.t (r:Int)) W hi.dev hd hm hb hs (by omega)
  rw[show(((1+r:Nat):Int))=1+(r:Int) by omega] at this;exact this
 have hn2:=hd.ok.n2;clear c1 c2 c3 c5 fz h hf hs hd;have hwp:1+(r:Int)≤1000:=by omega
 generalize dG v.t (r:Int)=rs at HR HW ⊢;generalize v.t.length=n at c4 HR;generalize v.d.aQ=pf at HW ⊢;go_enter Tryz.func156,Tryz.ntmps156
 go_wp2_with fail
 refine(HR.out w (Below.refl _ _)).mono ?_;rintro e w1 ⟨rfl,hb1⟩;have hi1:=HI.out.below hb1;have c0':=hi1.cells.1;have HI1:=ah hi1;have hB1:B.top≤w1.heap.size:=Nat.le_trans hB hb1.size;have HK1:Hid (aP B x.tb w w1):=aP.of_below hb1;clear hi1 hb1 c0 c4 HR HI;go_wp2_with fail
 refine(HW.out w1 HI1.out hB1).mono ?_;rintro e w2 ⟨v2,rfl,hd2,hk2⟩;obtain⟨hi2,hp2⟩:=HI1.out.tX hd2 rfl hk2;have HI2:=ah hi2;have HP2:=ah (aP.trans HK1.out hp2);clear hd2 hk2 hi2 hp2 c0' HW HI1 HK1;go_wp2
 go_ret
 exact⟨{ x.h with v2:=v2 },rfl,rfl,HI2.out,HP2.out⟩
theorem aC.headed{B:Gd}{w:World}{x:Ih}{v:IV}(h:aC B w x v)(g:HV) :
  aC B (((w.setCell ⟨x.p,1,none⟩ (.int .i64 g.c)).setCell ⟨x.p,2,none⟩ (.int .i64 g.p)).setCell ⟨x.p,3,none⟩ (.int .i64 g.b)) x { v with h:=g } ∧
  aP B x.tb w (((w.setCell ⟨x.p,1,none⟩ (.int .i64 g.c)).setCell ⟨x.p,2,none⟩ (.int .i64 g.p)).setCell ⟨x.p,3,none⟩ (.int .i64 g.b)):=by
 have hb:=h.blk;obtain⟨es,c,e2⟩:=rP h.map;obtain⟨_,cur,hh⟩:=h.tb;have n2:x.m≠x.p:=fun e=>by rw[← e,e2] at hb;cases hb
 have n3:x.tb≠x.p:=fun e=>by rw[← e,hh] at hb;cases hb
 have n1:∀ k,x.h.fp k→k≠x.p:=fun k hk e=>by
  obtain⟨cur2,t,e1,p⟩:=h.dev.kinds _ hk;rw[e,hb] at e1;cases e1
  rcases p with p|p|p<;>cases p
 have ho:∀ k,k≠x.p→(((w.setCell ⟨x.p,1,none⟩ (.int .i64 g.c)).setCell ⟨x.p,2,none⟩ (.int .i64 g.p)).setCell ⟨x.p,3,none⟩ (.int .i64 g.b)).heap[k]?=w.heap[k]?:=fun k hk=>by
  rw[heap_setCell_other _ _ _ _ hk,heap_setCell_other _ _ _ _ hk,heap_setCell_other _ _ _ _ hk]
 refine⟨⟨?_,h.pB,h.mB,h.dev.keep fun k hk=>ho k (n1 k hk),dA h.own (fun k e=>by
  have:x.tb=k:=by simpa [Value.ownBlock] using e
  subst this;exact ho _ n3),uD h.map (ho _ n2)⟩,?_⟩
 ·rw[heap_setCell_same _ _ _ _ _ _ (heap_setCell_same _ _ _ _ _ _ (heap_setCell_same w x.p _ _ _ _ hb))];rfl
 ·have hs:SP B x.tb w x.p:=⟨h.pB.1,.inl (.inl ⟨_,_,hb,.inr (.inr (.inr rfl))⟩)⟩
  exact(((Kept.refl (SP B x.tb w) w).setCell (p:=⟨x.p,1,none⟩) (.inl hs) _).setCell (p:=⟨x.p,2,none⟩) (.inl hs) _).setCell (p:=⟨x.p,3,none⟩) (.inl hs) _
end Go.Proofs.YtonhoahnieoebabGreatDoor
namespace Go.Proofs.YtonhoahnieoebabGreatDoor
open Go.RowKit Go.Maps
attribute [local go_sem ↓] Go.wp_at_zero Go.wp_at_succ
theorem CW(s:ByteArray)(k:Nat):(s.extract (k*16) ((k+1)*16)).data.toList=chunk s k:=by
 unfold chunk;rw[ByteArray.data_extract,Array.toList_extract,List.extract_eq_take_drop];rw[show(k+1)*16-k*16=16 by omega]
structure mg(B:Gd)(tb:Nat)(w:World)(x:Ih)(v:IV)(d:DV)(y:Hd)(W:World):Prop where
 img:aC B W { x with h:=y } { v with d:=d }
 kept:aP B tb w W
theorem mg.drew{B:Gd}{tb:Nat}{w W:World}{x:Ih}{v:IV}{d:DV}{y:Hd}(h:mg B tb w x v d y W):mg B tb w x v d y W.drew:=⟨h.img.drew,aP.trans h.kept (aP.of_below (Below.refl _ _).drew)⟩
theorem GL{B:Gd}{m:Nat}{x:Ih}{v:IV}(q fr c:Nat)(s:ByteArray)(w:World)(h:aC B w x v)(hd:v.d.fine v.d.fl.length m)(hm:m+4<1000000000)(hB:B.top≤w.heap.size)(hk:v.h.ok=true)(hq:q≤40)(hs:s.size=c*16)(hf:fr+c≤4)(ha:aI v.h q+fr+c≤v.d.fl.length) :
    Calls Tryz.prog 168 #[.pointer (some ⟨x.p,0,none⟩),.int .i64 (q:Int),.int .i64 (fr:Int),.string s] w fun e w' =>
      ∃ y:Hd,e=.returned (erV (v.d.puts (aI v.h q+fr) s c).2)∧y.p=x.h.p∧aC B w' { x with h:=y } { v with d:=(v.d.puts (aI v.h q+fr) s c).1 }∧aP B x.tb w w':=by
  obtain⟨c0,c1,c2,c3,c4,c5,fz⟩:=h.cells;have hn2:=hd.ok.n2;have HBG:Hid (∀ W:World,Calls Tryz.prog 212 #[.agg #[.int .i64 v.h.c,.int .i64 v.h.p,.int .i64 v.h.b],.int .i64 (q:Int)] W fun e w'=>e=.returned (.int .i64 (aI v.h q:Int))∧Below W.heap.size W w'):=fun W=>yC v.h.c v.h.p v.h.b q W hk hq
  have HFI:Hid (∀ k,k≤c→(v.d.puts (aI v.h q+fr) s k).1.fine v.d.fl.length (m+k)):=fun k hk=>hd.puts hs (by omega) (by omega) k hk
  generalize hbn:aI v.h q=bn at HBG HFI ha ⊢;have HST:Hid (∀ k,(v.d.puts (bn+fr) s k).2=0→v.d.puts (bn+fr) s (k+1)=((v.d.puts (bn+fr) s k).1.put (bn+fr+k) (chunk s k),(v.d.puts (bn+fr) s k).1.aQ)):=fun k hk=>DV.pY hk
  have HEN:Hid (∀ k,(v.d.puts (bn+fr) s k).2≠0→k≤c→v.d.puts (bn+fr) s c=v.d.puts (bn+fr) s k):=fun k hk hkc=>DV.pX hk c hkc
  have H00:Hid (v.d.puts (bn+fr) s 0=(v.d,0)):=rfl;generalize v.d.puts (bn+fr) s=D at HFI HST HEN H00 ⊢;have HI:=ah h;have hq16:(s.size:Int) / 16=(c:Int):=by omega
  have hbc:bn+fr+c≤200:=by omega
  clear h hd fz hbn hq;go_enter Tryz.func168,Tryz.ntmps168
  go_wp2_with fail
  refine(HBG.out _).mono ?_;rintro e w1 ⟨rfl,hb1⟩;have HI1:=ah (HI.out.below hb1);have HK1:Hid (aP B x.tb w w1):=aP.of_below hb1;have hB1:B.top≤w1.heap.size:=Nat.le_trans hB hb1.size;clear hb1 HBG HI c0 c1 c2 c3 c4 c5;go_wp2
  go_loopw [23] (fun i wr=>∃(k:Nat) (y:Hd),k≤c∧i=.int .i64 k∧(D k).2=0∧y.p=x.h.p∧mg B x.tb w x v (D k).1 y wr) (fun i _=>c-(intOf i).toNat)
  case atStart=>exact⟨0,x.h,Nat.zero_le _,rfl,by rw[H00.out],rfl,⟨by rw[H00.out];exact HI1.out,HK1.out⟩⟩
  case round =>
    obtain⟨k,y,hkc,rfl,hf0,hyp,hat⟩:=hrel;by_cases hlt:k<c
    · have hstep:=HST.out k hf0
      have hfk:=HFI.out k (by omega)
      have hBk:B.top≤wr.heap.size:=Nat.le_trans hB hat.kept.size
      have HW:Hid (∀ W:World,mg B x.tb w x v (D k).1 y W→wr.heap.size≤W.heap.size→Calls Tryz.prog 214 #[.pointer (some ⟨y.p,0,none⟩),.int .i64 ((bn:Int)+(fr:Int)+(k:Int)),.string (s.extract (k*16) ((k+1)*16))] W fun e w' =>
          ∃ y2:Hd,e=.returned (erV (D (k+1)).2)∧y2.p=y.p∧mg B x.tb w x v (D (k+1)).1 y2 w'∧w'.cell? ⟨x.p,0,none⟩=some (.pointer (some ⟨y.p,0,none⟩))):=fun W hi hsz=>by
        have h1:=wu (bn+fr+k) (s.extract (k*16) ((k+1)*16)) W hi.img.dev hfk (by omega) (Nat.le_trans hBk hsz) (by rw[ByteArray.size_extract];omega) (by omega)
        rw[show(((bn+fr+k:Nat):Int))=(bn:Int)+(fr:Int)+(k:Int) by omega] at h1
        refine h1.mono ?_;rintro e w' ⟨v2,rfl,hd2,hk2⟩;obtain⟨hi3,hp3⟩:=hi.img.tX hd2 rfl hk2;refine⟨{ y with v2:=v2 },by rw[hstep],rfl,⟨?_,aP.trans hi.kept hp3⟩,hi3.cells.1⟩
        rw[hstep,← CW];exact hi3
      have c0:=hat.img.cells.1;have HA:=ah hat;have HYP:=ah hyp;clear hstep hfk hf0 hat hyp HFI HST;have k0:(0:Int)≤(k:Int):=by omega
      have k1:(k:Int)*16≤((k:Int)+1)*16:=by omega
      have k2:((k:Int)+1)*16≤(s.size:Int):=by omega
      have k3:(0:Int)≤(k:Int)*16:=by omega
      have k4:(0:Int)≤((k:Int)+1)*16:=by omega
      have k5:((k:Int)*16).toNat=k*16:=by omega
      have k6:(((k:Int)+1)*16).toNat=(k+1)*16:=by omega
      have k7:IntKind.i64.wrap ((k:Int)*16)=(k:Int)*16:=IntWalk.i64_in _ (by omega)
      have k8:IntKind.i64.wrap ((k:Int)+1)=(k:Int)+1:=IntWalk.i64_in _ (by omega)
      have k9:IntKind.i64.wrap (((k:Int)+1)*16)=((k:Int)+1)*16:=IntWalk.i64_in _ (by omega)
      have k10:IntKind.i64.wrap ((bn:Int)+(fr:Int)+(k:Int))=(bn:Int)+(fr:Int)+(k:Int):=IntWalk.i64_in _ (by omega)
      have k11:(k:Int)≤(k:Int)+1:=by omega
      clear hs hq16;have hdr:wr.drew.cell? ⟨x.p,0,none⟩=some (.pointer (some ⟨y.p,0,none⟩)):=c0;have HAD:Hid (mg B x.tb w x v (D k).1 y wr.drew∧wr.heap.size≤wr.drew.heap.size):=⟨HA.out.drew,Nat.le_refl _⟩;go_wp2
      go_region_held3 (fun W=>W.cell? ⟨x.p,0,none⟩=some (.pointer (some ⟨y.p,0,none⟩)))
        (first|(exact hdr)|assumption)
        (first
          | (go_at_call 214;refine(HW.out _ HAD.out.1 HAD.out.2).mono ?_;rintro e w3 ⟨y2,rfl,hyp2,hat2,hcl2⟩))
      have HA2:=ah hat2;have HYP2:Hid (y2.p=x.h.p):=by unfold Hid;rw[hyp2];exact HYP.out
      clear hat2 hyp2 hcl2 HA HAD HW hdr c0 HYP;by_cases hz:(D (k+1)).2=0
      · have HZ:=ah hz
        have e0:erV (D (k+1)).2=.nilIface:=by rw[hz,aB]
        rw[e0];clear hz e0;go_wp2
        go_roundw
        case rel =>
          have fin:∃(k1:Nat) (y1:Hd),k1≤c∧Value.int .i64 ((k:Int)+1)=.int .i64 k1∧(D k1).2=0∧y1.p=x.h.p∧mg B x.tb w x v (D k1).1 y1 w3:=⟨k+1,y2,by omega,by go_num,HZ.out,HYP2.out,HA2.out⟩
          first|exact fin|((repeat apply Exists.intro);exact⟨fin,rfl⟩)
        case measure=>simp[intOf];omega
      · have HE:=HEN.out (k+1) hz (by omega)
        have HEE:=ah HE;have h7:erV (D (k+1)).2=.iface 127 (.int .i64 (D (k+1)).2):=by unfold erV;rw[if_neg hz]
        have H7:=ah h7;rw[h7];clear hz HE h7;go_wp2
        go_ret
        refine⟨y2,?_,HYP2.out,?_,HA2.out.kept⟩
        · rw[HEE.out,H7.out];rfl
        · rw[HEE.out];exact HA2.out.img
    · have hkc2:k=c:=by omega
      subst hkc2;have HA:=ah hat;have HYP:=ah hyp;have HE0:Hid (erV (D k).2=.nilIface):=by unfold Hid;rw[hf0,aB]
      clear hat hyp hf0 HFI HST HEN;go_wp2
      go_ret
      exact⟨y,iw HE0.out.symm,HYP.out,HA.out.img,HA.out.kept⟩
end Go.Proofs.YtonhoahnieoebabGreatDoor
