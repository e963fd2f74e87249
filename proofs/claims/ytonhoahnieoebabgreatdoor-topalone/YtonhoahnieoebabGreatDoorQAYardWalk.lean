/- Get of a range (G3). -/
import Derived.Test.YtonhoahnieoebabGreatDoorQAChainPut3
set_option maxHeartbeats 2000000
set_option maxRecDepth 100000
namespace Go.Proofs.YtonhoahnieoebabGreatDoor
open Go.RowKit Go.Maps
attribute [local go_sem ↓] Go.wp_at_zero Go.wp_at_succ
theorem Pn{w w':World}{B e size n:Nat}{v:Value}{xs:List Value}(h:w.ownsRowF B e size v n xs)(hk:∀ k,v.ownBlock=some k→w'.heap[k]?=w.heap[k]?):w'.ownsRowF B e size v n xs:=by
 obtain⟨h1,h2⟩:=h;refine⟨h1,?_⟩;rcases h2 with h2|⟨g,cap,cur,fz,hv,hb,hh,r⟩
 ·exact .inl h2
 ·exact .inr ⟨g,cap,cur,fz,hv,hb,by rw[hk g (by rw[hv];rfl)];exact hh,r⟩
theorem yG{T e B b:Nat}{bs:List Value}{w w':World}(h:Lib.IsBuilderF T e B b bs w)(hb:Below w.heap.size w w'):Lib.IsBuilderF T e B b bs w':=by
 have key:∀ p,Lib.BuilderAtF T e B b p bs w→Lib.BuilderAtF T e B b p bs w':=by
  rintro p ⟨h1,v,h2,h3,h4⟩;exact⟨h1,v,by rw[hb.block _ (lt_of_some h2)];exact h2,Pn h3 fun k e=>hb.block k (h3.lt k e).2,h4⟩
 exact h.imp (key _) (key _)
theorem Io(B b:Nat)(l:List UInt8)(s:ByteArray)(w:World)(h:Lib.IsBuilderF 232 5 B b (Lib.byteCells l) w)(hlen:l.length+s.size≤140737488355328)(hBw:B≤w.heap.size) :
  Calls Tryz.prog 181 #[.pointer (some ⟨b,0,none⟩),.string s] w fun e w' =>
   e=.returned (.tuple #[.int .i64 s.size,.nilIface])∧Lib.IsBuilderF 232 5 B b (Lib.byteCells (l++s.data.toList)) w'∧Below B w w'∧Lib.OthersKept 5 (some b) w w':=by
 refine(Any.Builder_WriteString_k { Tryz.lays105 with } Tryz.Builder_Extra_105 B b (Lib.byteCells l) s w h (by rw[Lib.byteCells_length];exact hlen) hBw).mono ?_
 rintro e w' ⟨rfl,h1,h2,h3⟩;refine⟨rfl,.inr ?_,h2,h3⟩;have e1:Lib.byteCells (l++s.data.toList)=Lib.byteCells l++Lib.strCells s:=by simp[Lib.byteCells,Lib.strCells]
 rw[e1];exact h1
def nN(P:List Pt)(n i:Nat):Nat:=if h:i<P.length then P[i].a else n
theorem Ii(a b:ByteArray):(a++b).data.toList=a.data.toList++b.data.toList:=by rw[ByteArray.data_append,Array.toList_append]
structure vM(w1:World)(B b:Nat)(G:Nat→ByteArray)(P:List Pt)(n:Nat)(i:Nat)(wr:World):Prop where
 bld:Lib.IsBuilderF 232 5 B b (Lib.byteCells (G (nN P n i)).data.toList) wr
 bel:Below B w1 wr
 row:∀ g cap,qA w1 g cap P→qA wr g cap P
theorem II{sp m cap C:Nat}{xs:Nat→Ih}{s:SV}{a:Option Addr}(l:List Int)(fr n:Int)(w:World)(h:aV w sp xs s m)(hl:Nums w a l)(hg:s.good (C:Int) l)(h5:l.length≤100)(hC:C≤40)(hfr : -9223372036854775808≤fr∧fr≤9223372036854775807) :
  Calls Tryz.prog 73 #[.pointer (some ⟨sp,6,none⟩),.slice a l.length cap,.int .i64 fr,.int .i64 n] w fun e w'=>e=.returned (.tuple #[.string (s.jY l fr n),erV (s.bP l fr n)])∧Below w.heap.size w w':=by
 have HCK:=ah (check_any (cap:=cap) l fr n w h hl hg (by omega) hfr)
 by_cases hF:s.bP l fr n=0
 ·obtain⟨h0,n0,n1,n2⟩:=SV.jr hg hF
  obtain⟨f,rfl⟩:∃ f:Nat,fr=(f:Int):=⟨fr.toNat,by omega⟩
  obtain⟨k,rfl⟩:∃ k:Nat,n=(k:Int):=⟨n.toNat,by omega⟩
  have HR:Hid (s.jY l (f:Int) (k:Int)=s.jR l f k):=by unfold Hid SV.jY;rw[if_pos hF];rfl
  rw[hF,aB] at HCK ⊢;have HPA:=ah (fun W=>zU f k W (by omega))
  have hPL:=nV f k k 0 (by omega)
  have HFI:Hid (∀ p∈aO f k 0,p.fits f k C):=uG (by omega) k 0 (by omega)
  have HAT:=ah (PE f k k 0 (by omega))
  have HAZ:Hid (nN (aO f k 0) k 0=0):=by
   unfold Hid nN;split
   ·next hx=>exact(HAT.out 0 hx).2.2.2 rfl
   ·next hx =>
    by_cases hk:0<k
    ·rw[oM hk] at hx;simp at hx
    ·omega
  have HAS:Hid (∀ i (hi:i<(aO f k 0).length),nN (aO f k 0) k i=(aO f k 0)[i].a∧nN (aO f k 0) k (i+1)=(aO f k 0)[i].a+(aO f k 0)[i].n):=fun i hi=>by
   refine⟨by unfold nN;rw[dif_pos hi],?_⟩
   unfold nN;split
   ·next hx=>exact(HAT.out i hi).2.1 (i+1) hx rfl
   ·next hx=>exact((HAT.out i hi).2.2.1 (by omega)).symm
  have HAE:Hid (nN (aO f k 0) k (aO f k 0).length=k):=by unfold Hid nN;rw[dif_neg (by omega)]
  have HGS:Hid (∀ p∈aO f k 0,s.jR l f (p.a+p.n)=s.jR l f p.a++dR (s.read l (p.c:Int)).1 p.f p.n):=fun p hp=>SV.L9 (HFI.out p hp) p.n (Nat.le_refl _)
  have HGZ:Hid (∀ j,j≤k→(s.jR l f j).size=j*16):=fun j hj=>SV.zk hg h.ok h0 j (by omega)
  have HG0:Hid (s.jR l f 0=bytesOf []):=rfl
  have HRD:Hid (∀(i:Nat) (hi:i<(aO f k 0).length) (W:World),Below w.heap.size w W→Calls Tryz.prog 57 #[.pointer (some ⟨sp,6,none⟩),.slice a l.length cap,.int .i64 ((aO f k 0)[i].c:Int)] W fun e w'=>e=.returned (.tuple #[.string (s.read l ((aO f k 0)[i].c:Int)).1,.nilIface])∧Below W.heap.size W w'):=fun i hi W hb=>by
   have hfi:=HFI.out _ (List.getElem_mem hi);have:=yP (cap:=cap) l ((aO f k 0)[i].c:Int) W (h.below hb) (hl.below hb) hg h5
   rw[(SV.kF hg h.ok h0 (c:=((aO f k 0)[i].c:Int)) ⟨by omega,by have:=hfi.c;omega⟩).1,aB] at this;exact this
  have HSE:Hid (∀(i:Nat) (hi:i<(aO f k 0).length) (W:World),Calls Tryz.prog 177 #[.string (s.read l ((aO f k 0)[i].c:Int)).1,.int .i64 ((aO f k 0)[i].f:Int),.int .i64 ((aO f k 0)[i].n:Int)] W fun e w'=>e=.returned (.string (dR (s.read l ((aO f k 0)[i].c:Int)).1 (aO f k 0)[i].f (aO f k 0)[i].n))∧w'=W):=fun i hi W=>by
   have hfi:=HFI.out _ (List.getElem_mem hi);have hz:=(SV.kF hg h.ok h0 (c:=((aO f k 0)[i].c:Int)) ⟨by omega,by have:=hfi.c;omega⟩).2
   exact Ah _ _ _ W (by have:=hfi.n4;omega) (by omega)
  have HSZ:Hid (∀(i:Nat) (hi:i<(aO f k 0).length),(dR (s.read l ((aO f k 0)[i].c:Int)).1 (aO f k 0)[i].f (aO f k 0)[i].n).size≤100∧(aO f k 0)[i].a≤k):=fun i hi=>by
   have hfi:=HFI.out _ (List.getElem_mem hi);have hz:=(SV.kF hg h.ok h0 (c:=((aO f k 0)[i].c:Int)) ⟨by omega,by have:=hfi.c;omega⟩).2
   refine⟨?_,by have:=hfi.an;omega⟩
   rw[qj (by have:=hfi.n4;omega)]
   have:=hfi.n4;omega
  generalize aO f k 0=P at HPA hPL HAZ HAS HAE HGS HRD HSE HSZ;generalize s.jY l (f:Int) (k:Int)=R at HR ⊢;have HRR:Hid (∀ c:Int,s.read l c=s.read l c):=fun _=>rfl
  generalize s.jR l f=G at HR HGS HGZ HG0;generalize hq:l.length=q at HCK HRD ⊢;clear h hl hg hF hq HFI HAT HRR;have hk1000:k≤1000:=by omega
  go_enter Tryz.func73,Tryz.ntmps73
  go_wp2_with fail
  refine HCK.out.mono ?_;rintro e wA ⟨rfl,hbA⟩;have HBA:=ah hbA;have HBU:Hid (Lib.IsBuilderF 232 5 wA.heap.size wA.heap.size (Lib.byteCells []) (wA.alloc (.cells #[.pointer none,.slice none 0 0] 232))):=Lib.IsBuilderF.of (Lib.fresh_isBuilder _ _ _);have HBB:Hid (Below wA.heap.size wA (wA.alloc (.cells #[.pointer none,.slice none 0 0] 232))):=(Below.refl _ _).alloc (Nat.le_refl _) _;clear hbA HCK;go_wp2_with fail
  generalize wA.alloc (.cells #[.pointer none,.slice none 0 0] 232)=wB at HBU HBB ⊢;refine(HPA.out wB).mono ?_;rintro e w1 ⟨pa,pcap,rfl,hpo,hb1⟩;have HB1:=ah (HBB.out.trans (hb1.mono HBB.out.size));have HPO:=ah hpo;have HS1:Hid (vM w1 wA.heap.size wA.heap.size G P k 0 w1):=⟨by rw[HAZ.out,HG0.out];exact yG HBU.out hb1,Below.refl _ _,fun _ _ h=>h⟩
  clear hpo hb1 HPA HBU;generalize hPn:P.length=N at hPL HPO ⊢;have HPN:=ah hPn;clear hPn;go_wp2
  go_loopw [28] (fun i wr=>∃(j:Nat),j≤N∧i=.int .i64 (j:Int)∧vM w1 wA.heap.size wA.heap.size G P k j wr) (fun i _=>N-(intOf i).toNat)
  case atStart=>exact⟨0,Nat.zero_le _,rfl,HS1.out⟩
  case round =>
   obtain⟨i,hiN,rfl,hp⟩:=hrel;have hbw:Below wA.heap.size wA wr:=HB1.out.trans hp.bel;have HWB:Hid (Below w.heap.size w wr):=HBA.out.trans (hbw.mono HBA.out.size);by_cases hlt:i<N
   ·have hi:i<P.length:=by rw[HPN.out];exact hlt
    obtain⟨g,rfl,hgB,hgl,hpt⟩:=zW HPO.out HPN.out (by omega)
    obtain⟨c0,c1,c2,c3⟩:=(hp.row g pcap hpt).cells hi;obtain⟨a1,a2⟩:=HAS.out i hi;have HRI:=ah (HRD.out i hi);have HSI:=ah (HSE.out i hi);obtain⟨z1,z2⟩:=HSZ.out i hi;have HGI:=ah (HGS.out P[i] (List.getElem_mem hi));have HP:=ah hp;have hgw:g<wr.heap.size:=by have:=hp.bel.size;omega
    have hbld:=hp.bld;rw[a1] at hbld;have HBLD:=ah hbld;have HA2:=ah a2;clear hp HRD HSE HSZ HGS HAS a1 a2 hbld;generalize hpi:P[i]=p at c0 c1 c2 c3 HRI HSI HGI z1 z2 HBLD HA2;clear hpi;obtain⟨pc,pf,pn,pp⟩:=p;simp only at c0 c1 c2 c3 HRI HSI HGI z1 z2 HBLD HA2;generalize (s.read l (pc:Int)).1=old at HRI HSI HGI z1;generalize dR old pf pn=ST at HSI HGI z1;have hGz:=HGZ.out pp z2;have k0:(0:Int)≤(i:Int):=by omega
    have k1:(i:Int)<(N:Int):=by omega
    have k2:((i:Int)).toNat=i:=by omega
    have HBN:Hid (Below wr.heap.size wr (wr.alloc (.cells #[.int .i64 (pc:Int),.int .i64 (pf:Int),.int .i64 (pn:Int),.int .i64 (pp:Int)] 224))):=(Below.refl _ _).alloc (Nat.le_refl _) _;have HX:Hid ((wr.alloc (.cells #[.int .i64 (pc:Int),.int .i64 (pf:Int),.int .i64 (pn:Int),.int .i64 (pp:Int)] 224)).heap[wr.heap.size]?=some (.cells #[.int .i64 (pc:Int),.int .i64 (pf:Int),.int .i64 (pn:Int),.int .i64 (pp:Int)] 224 (0,0))):=heap_alloc_new _ _;go_wp2_with fail
    generalize wr.alloc (.cells #[.int .i64 (pc:Int),.int .i64 (pf:Int),.int .i64 (pn:Int),.int .i64 (pp:Int)] 224)=wN at HBN HX ⊢;refine(HRI.out wN (HWB.out.trans (HBN.out.mono HWB.out.size))).mono ?_;rintro e w2 ⟨rfl,hb2⟩;have HB2:=ah (HBN.out.trans (hb2.mono HBN.out.size));have hx2:w2.heap[wr.heap.size]?=some (.cells #[.int .i64 (pc:Int),.int .i64 (pf:Int),.int .i64 (pn:Int),.int .i64 (pp:Int)] 224 (0,0)):=by rw[hb2.block _ (lt_of_some HX.out)];exact HX.out
    have y1:w2.cell? ⟨wr.heap.size,1,none⟩=some (.int .i64 (pf:Int)):=by rw[cell_of_row _ _ _ _ _ _ hx2];rfl
    have y2:w2.cell? ⟨wr.heap.size,2,none⟩=some (.int .i64 (pn:Int)):=by rw[cell_of_row _ _ _ _ _ _ hx2];rfl
    have hdl:(G pp).data.toList.length=pp*16:=by rw[← hGz];simp
    have HWS:=ah (Io wA.heap.size wA.heap.size (G pp).data.toList ST w2 (yG HBLD.out HB2.out) (by rw[hdl];omega) (Nat.le_trans hbw.size HB2.out.size))
    clear hdl;clear hb2 hx2 HRI HX c0 c1 c2 c3 hGz;go_wp2_with (go_at_call 177;refine(HSI.out _).mono ?_;rintro e w' ⟨rfl,hw⟩;have hw':=hw.symm;subst hw';clear hw)
    refine HWS.out.mono ?_;rintro e w3 ⟨rfl,hbl,hb3,hok3⟩
    have HP3:Hid (vM w1 wA.heap.size wA.heap.size G P k (i+1) w3):=by
     refine⟨?_,?_,fun g2 cap2 h2=>?_⟩
     ·rw[HA2.out,HGI.out,Ii];exact hbl
     ·exact HP.out.bel.trans ((HB2.out.mono hbw.size).trans hb3)
     ·have h3:=HP.out.row g2 cap2 h2
      refine⟨dA h3.own fun r e=>?_⟩
      obtain⟨cur,hh⟩:=ownsRow_kind h3.own r e;have h4:w2.heap[r]?=some (.cells cur 224 (0,0)):=by rw[HB2.out.block r (lt_of_some hh)];exact hh
      rw[hh];refine hok3 r _ h4 (fun e2=>?_) (fun c fz e2=>by cases e2)
      cases e2
      have hbb:∃ p v,w2.heap[wA.heap.size]?=some (.cells #[p,v] 232 (0,0)):=by
       rcases yG HBLD.out HB2.out with⟨_,v,q,_⟩|⟨_,v,q,_⟩<;>exact⟨_,v,q⟩
      obtain⟨p,v,hbb⟩:=hbb;rw[h4] at hbb;cases hbb
    clear hbl hb3 hok3 HWS HSI y1 y2 HBLD HA2 HGI HP;go_wp2
    go_roundw
    case rel =>
     have fin:∃(j1:Nat),j1≤N∧Value.int .i64 ((i:Int)+1)=.int .i64 (j1:Int)∧vM w1 wA.heap.size wA.heap.size G P k j1 w3:=⟨i+1,by omega,by go_num,HP3.out⟩
     first|exact fin|((repeat apply Exists.intro);exact⟨fin,rfl⟩)
    case measure=>simp[intOf];omega
   ·have hie:i=N:=by omega
    subst hie;have hbld:=hp.bld;have e1:nN P k i=k:=by rw[← HPN.out];exact HAE.out
    rw[e1,← HR.out] at hbld;have HST:=ah (Tryz.Builder_String_any_k wA.heap.size wA.heap.size R.data.toList wr hbld hbw.size);have hre:ByteArray.mk R.data.toList.toArray=R:=by simp
    rw[hre] at HST;clear hre;clear hp hbld HRD HSE HSZ HGS HAS;go_wp2_with fail
    refine HST.out.mono ?_;rintro e w2 ⟨rfl,_,hb2,_⟩;have HB2:Hid (Below w.heap.size w w2):=HBA.out.trans ((hbw.trans hb2).mono HBA.out.size);clear hb2;go_wp2
    go_ret2
    exact⟨rfl,HB2.out⟩
 ·have HR:Hid (s.jY l fr n=bytesOf []):=by unfold Hid SV.jY;rw[if_neg hF]
  rw[HR.out];rw[aT hF] at HCK ⊢;generalize s.bP l fr n=F at HCK ⊢;generalize l.length=q at HCK ⊢;clear h hl hg HR hF;go_enter Tryz.func73,Tryz.ntmps73
  go_wp2_with fail
  refine HCK.out.mono ?_;rintro e wA ⟨rfl,hbA⟩;go_wp2
  go_ret2
  exact⟨rfl,hbA⟩
end Go.Proofs.YtonhoahnieoebabGreatDoor
namespace Go.Proofs.YtonhoahnieoebabGreatDoor
open Go.RowKit
def aS.kv(d:aS):KV:=⟨d.root,d.kind,d.file,d.rate,d.burst⟩
def KV.kd(d:KV):aS:=⟨d.r,d.k,d.f,d.a,d.u⟩
def ak(root:Int):aS:=⟨root,0,-1,0,0⟩
theorem jH{r:Int}(h0:0≤r)(h4:r≤4):(ak r).kv.fault=0:=by
 have hb:(ak r).kv.bound=true:=decide_eq_true (by simp only[ak,aS.kv];omega)
 have hm:(ak r).kv.may=true:=decide_eq_true (.inl ⟨rfl,rfl,rfl,rfl⟩);unfold KV.fault;rw[if_pos hb,if_pos hm]
structure YV where
 dv:Nat→DV
 top:DV
 s:SV
 kd:aS
 l:List Int
 j:Option JV
def YV.dev(y:YV)(i:Nat):DV:=match y.s i with
 | some v=>v.d
 | none=>y.dv i
def YV.busy(y:YV):Bool:=match y.j with
 | none=>false
 | some j=>decide (j.stage<4)
def YV.kQ(d:aS):List UInt8:=(aU d.kv.bytes).data.toList
def YV.aj(y:YV)(d:aS):YV:=if y.top.aQ=0 then { y with top:=(y.top.put 0 (YV.kQ d)).flushed,kd:=d } else { y with top:=y.top.put 0 (YV.kQ d) }
def YV.bJ(y:YV):Int:=y.top.aQ
def SV.gone(s:SV)(i:Nat):SV:=fun j=>if j=i then none else s j
def YV.used(y:YV)(f:Int):Bool:=y.busy&&decide (y.kd.file=f)||y.l.contains f
def qc(n:Nat)(c:Int):Int:=Int.tdiv ((n:Int)-1-(aA c.toNat:Int)) 4
def YV.head(y:YV)(f back:Int):HV:=⟨y.s.fQ y.kd.root,qc (y.dev f.toNat).fl.length (y.s.fQ y.kd.root),back⟩
def YV.iR(y:YV)(f back:Int):Int:=if 0≤f∧f<5 then (if y.used f=true then 5 else crF (y.dev f.toNat) (y.head f back)) else 1
def YV.blank(y:YV)(f back:Int):YV :=
 if 0≤f∧f<5 then (if y.used f=true then y else if crF (y.dev f.toNat) (y.head f back)=0 then { y with s:=y.s.upd f.toNat (crV (y.dev f.toNat) (y.head f back)) }
  else { y with s:=y.s.gone f.toNat,dv:=fun i=>if i=f.toNat then kP (y.dev f.toNat) (y.head f back) else y.dv i }) else y
def YV.oO(y:YV)(f:Int):Int:=if y.busy=true then 8 else if y.l.length=4 then 6 else if y.iR f y.kd.root=0 then (y.blank f y.kd.root).bJ else y.iR f y.kd.root
def YV.snap(y:YV)(f:Int):YV:=if y.busy=true∨y.l.length=4 then y else if y.iR f y.kd.root=0 then
  (if (y.blank f y.kd.root).bJ=0 then { (y.blank f y.kd.root).aj (ak f) with l:=f::y.l } else (y.blank f y.kd.root).aj (ak f)) else y.blank f y.kd.root
def dh(j:JV)(fr:Nat):Nat→JV
 | 0=>j
 | k+1=>dD (dh j fr k) (((fr+k) / 4:Nat):Int)
def YV.mark(y:YV)(fr n:Nat):YV:={ y with j:=y.j.map fun j=>dh j fr n }
def YV.write(y:YV)(fr:Int)(t:ByteArray):YV :=
 if t.size % 16=0∧y.s.bP y.l fr ((t.size / 16:Nat):Int)=0 then ({ y with s:=(y.s.put y.l fr t).1 }:YV).mark fr.toNat (t.size / 16) else y
def YV.dB(y:YV)(fr:Int)(t:ByteArray):Int:=if t.size % 16=0∧y.s.bP y.l fr ((t.size / 16:Nat):Int)=0 then (y.s.put y.l fr t).2 else 1
def YV.wipe(y:YV)(fr n:Int):YV:=if y.s.bP y.l fr n=0 then ({ y with s:=(y.s.wipe y.l fr n).1 }:YV).mark fr.toNat n.toNat else y
def YV.jo(y:YV)(fr n:Int):Int:=if y.s.bP y.l fr n=0 then (y.s.wipe y.l fr n).2 else 1
def YV.flush(y:YV):YV:={ y with s:=y.s.bQ y.l }
def kW(y:YV)(kind file rate burst:Int):aS:=⟨y.kd.root,kind,file,rate,burst⟩
def YV.mO(y:YV)(d:aS):Int:=if y.busy=true then 8 else if d.kind=0 then 1 else if d.kv.fault=0 then newF y.s d else d.kv.fault
def YV.nH(y:YV)(d:aS):Int:=if y.mO d=0 then y.bJ else y.mO d
def YV.start(y:YV)(d:aS):YV:=if y.mO d=0 then (if y.bJ=0 then { y.aj d with j:=some ((iL y.s d).at 1) } else y.aj d) else y
def YV.step(y:YV):YV:=match y.j with
 | none=>y
 | some j=>if 4≤j.stage then y else
  if eU y.s j≠0 then (if (stepJ y.s j).stage=5 then ({ y with s:=stepS y.s j,j:=some (stepJ y.s j) }:YV).aj (ak y.kd.root) else { y with s:=stepS y.s j,j:=some (stepJ y.s j) })
  else if y.kd.kind≠2∨(stepJ y.s j).state≠3 then { y with s:=stepS y.s j,j:=some (stepJ y.s j) }
  else if dH (stepS y.s j) (stepJ y.s j)≠0 then ({ y with s:=aF (stepS y.s j) (stepJ y.s j),j:=some (aK (stepS y.s j) (stepJ y.s j)) }:YV).aj (ak y.kd.root)
  else { ({ y with s:=aF (stepS y.s j) (stepJ y.s j),l:=((aF (stepS y.s j) (stepJ y.s j)).walk y.kd.root).1,j:=some ((aK (stepS y.s j) (stepJ y.s j)).at 4) }:YV).aj (ak y.kd.root) with kd:=ak y.kd.root }
def YV.eU(y:YV):Int:=match y.j with
 | none=>4
 | some j=>if 4≤j.stage then 4 else if Go.Proofs.YtonhoahnieoebabGreatDoor.eU y.s j≠0 then Go.Proofs.YtonhoahnieoebabGreatDoor.eU y.s j else if y.kd.kind≠2∨(stepJ y.s j).state≠3 then 0 else dH (stepS y.s j) (stepJ y.s j)
def YV.jG(y:YV):Bool:=match y.j with
 | none=>false
 | some j=>if 4≤j.stage then false else if Go.Proofs.YtonhoahnieoebabGreatDoor.eU y.s j≠0 then false else if y.kd.kind≠2∨(stepJ y.s j).state≠3 then Go.Proofs.YtonhoahnieoebabGreatDoor.jG y.s j else decide (dH (stepS y.s j) (stepJ y.s j)=0)
def YV.over(y:YV)(root st:Int):YV:=if y.bJ=0 then { y.aj (ak root) with j:=y.j.map fun j=>j.at st,l:=(y.s.walk root).1 } else y.aj (ak root)
def YV.pivot(y:YV):YV:=match y.j with
 | none=>y
 | some j=>if 4≤j.stage∨y.kd.kind=2 then y else if dH y.s j≠0 then { y with s:=aF y.s j,j:=some (aK y.s j) } else ({ y with s:=aF y.s j,j:=some (aK y.s j) }:YV).over y.kd.file 4
def YV.qL(y:YV):Int:=match y.j with
 | none=>4
 | some j=>if 4≤j.stage then 4 else if y.kd.kind=2 then 9 else if dH y.s j≠0 then dH y.s j else y.bJ
def YV.cancel(y:YV):YV:=if y.busy=true then y.over y.kd.root 5 else y
def YV.Bv(y:YV):Int:=if y.busy=true then y.bJ else 4
def YV.pause(y:YV)(on:Bool):YV:=if y.busy=true then { y with j:=y.j.map fun j=>gQ j on } else y
def YV.mJ(y:YV)(on:Bool):Int:=match y.j with
 | none=>4
 | some j=>if 4≤j.stage then 4 else Go.Proofs.YtonhoahnieoebabGreatDoor.mJ j on
def YV.tick(y:YV)(n:Int):YV:=if y.busy=true then { y with j:=y.j.map fun j=>gG j n } else y
def YV.Gj(n:Int):Int:=if S4.inB n 100000=true then 0 else 1
def YV.arm(y:YV)(f n:Int):YV :=
 if -1≤f∧f<5∧0≤n then (if f = -1 then { y with top:=y.top.failing n } else match y.s f.toNat with
  | none=>{ y with dv:=fun i=>if i=f.toNat then (y.dv i).failing n else y.dv i }
  | some v=>{ y with s:=y.s.upd f.toNat { v with d:=v.d.failing n } }) else y
def YV.ou(f n:Int):Int:=if -1≤f∧f<5∧0≤n then 0 else 1
def aY(d:Nat→DV):SV:=fun i=>if i<5∧fO (d i)=0 then some (jB (d i)) else none
def aG(t:DV):aS:=(jI (bytesOf (t.seen.getD 0 []))).kd
def nU(d:Nat→DV)(t:DV):Int:=if Go.Proofs.YtonhoahnieoebabGreatDoor.bJ (bytesOf (t.seen.getD 0 []))=0 then ((aY d).walk (aG t).root).2 else Go.Proofs.YtonhoahnieoebabGreatDoor.bJ (bytesOf (t.seen.getD 0 []))
def SV.back(s:SV)(n:Int):Int:=match s.file n with
 | none=>0
 | some v=>v.h.b
def mF(s:SV)(k:aS):Bool:=decide (k.kind≠0∧¬(k.kind=2∧s.back k.root=k.file)∧newF s k=0)
def gK(d:Nat→DV)(t:DV):YV :=
 ⟨d,t,aY d,if mF (aY d) (aG t)=true then aG t else ak (aG t).root,((aY d).walk (aG t).root).1,if mF (aY d) (aG t)=true then some (iL (aY d) (aG t)) else none⟩
def BU(d:DV)(ks:List Bool):DV:=DV.made (zA d.pend ks d.fl d.pend.length) d.wr
def YV.left(y:YV)(k:List (List Bool))(i:Nat):DV:=BU (y.dev i) (k.getD i [])
def YV.crash(y:YV)(k:List (List Bool)):YV:=gK (y.left k) (BU y.top [])
def newH(c p:Int):HV:=⟨c,p,-1⟩
def fH(n:Nat):DV:=DV.made (List.replicate n (List.replicate 16 0)) 0
def jy(c p:Int):YV:=⟨fun _=>fH (aJ (newH c p)),fH 1,SV.upd (fun _=>none) 0 (crV (fH (aJ (newH c p))) (newH c p)),ak 0,[0],none⟩
def jF(c p:Int):YV:=(jy c p).aj (ak 0)
theorem TK{s:SV}{rc:Int}:∀(r:List Int) (k:Nat) (a:List Int) (n:Int),Linked s n r→s.good rc r→a.length+r.length≤5→r.length<k→s.iI rc k a n=(a++r,0):=by
 intro r
 induction r with
 | nil =>
  intro k a n h _ _ hk
  cases k with
  | zero=>exact absurd hk (Nat.not_lt_zero _)
  | succ k =>
   have hn:n = -1:=h;rw[hn,SV.sG,List.append_nil]
 | cons x r ih =>
  intro k a n h hg hl hk
  cases k with
  | zero=>exact absurd hk (Nat.not_lt_zero _)
  | succ k =>
   obtain⟨h1,h2,v,h3,h4⟩:=h;obtain⟨u,h5,h6⟩:=hg x List.mem_cons_self;rw[← h1,h3] at h5;cases h5
   simp only[List.length_cons] at hl hk;rw[SV.sJ h2 h3 (by omega) h6,ih k _ _ h4 (fun m hm=>hg m (List.mem_cons_of_mem _ hm)) (by rw[List.length_append];simp;omega) (by omega),← h1,List.append_assoc]
   rfl
theorem TM{s:SV}{C:Int}{l:List Int}{n:Int}(h:Linked s n l)(hg:s.good C l)(h5:l.length≤5)(hne:l≠[]):s.walk n=(l,0):=by
 have hc:s.fQ n=C:=by
  cases l with
  | nil=>exact absurd rfl hne
  | cons x r =>
   obtain⟨v,h1,h2⟩:=hg x List.mem_cons_self;unfold SV.fQ;rw[h.1,h1];exact h2
 unfold SV.walk;rw[hc,TK l 6 [] n h hg (by simpa using h5) (by omega)]
 rfl
theorem Linked.over{s z:SV}:∀(l:List Int) (n:Int),Linked s n l→(∀ k∈l,∀ v,s.file k=some v→∃ u,z.file k=some u∧u.h.b=v.h.b)→Linked z n l:=by
 intro l
 induction l with
 | nil=>intro n h _;exact h
 | cons x r ih =>
  intro n h hz;obtain⟨h1,h2,v,h3,h4⟩:=h;obtain⟨u,h5,h6⟩:=hz x List.mem_cons_self v (by rw[← h1];exact h3)
  exact⟨h1,h2,u,by rw[h1];exact h5,by rw[h6];exact ih _ h4 fun k hk=>hz k (List.mem_cons_of_mem _ hk)⟩
def bF(l:List Int)(s z:SV):Prop:=∀ k∈l,∀ v,s.file k=some v→∃ u,z.file k=some u∧u.h=v.h
theorem bF.refl(l:List Int)(s:SV):bF l s s:=fun _ _ v h=>⟨v,h,rfl⟩
theorem bF.trans{l:List Int}{a b c:SV}(h:bF l a b)(k:bF l b c):bF l a c:=fun n hn v hv=>by
 obtain⟨u,h1,h2⟩:=h n hn v hv;obtain⟨t,h3,h4⟩:=k n hn u h1;exact⟨t,h3,h4.trans h2⟩
theorem bF.good{l:List Int}{s z:SV}{C:Int}(h:bF l s z)(hg:s.good C l):z.good C l:=fun n hn=>by
 obtain⟨v,h1,h2⟩:=hg n hn;obtain⟨u,h3,h4⟩:=h n hn v h1;exact⟨u,h3,by rw[h4];exact h2⟩
theorem bF.linked{l:List Int}{s z:SV}{n:Int}(h:bF l s z)(hl:Linked s n l):Linked z n l :=
 Linked.over l n hl fun k hk v hv=>by
  obtain⟨u,h3,h4⟩:=h k hk v hv;exact⟨u,h3,by rw[h4]⟩
theorem pq(s:SV){f:Int}(h0:0≤f)(h5:f<5)(u:IV)(k:Int):(s.upd f.toNat u).file k=if k=f then some u else s.file k:=by
 unfold SV.file SV.upd;by_cases hk:0≤k∧k<5
 ·rw[if_pos hk]
  by_cases e:k=f
  ·rw[if_pos e,if_pos (by rw[e])]
  ·rw[if_neg e,if_neg (by omega),if_pos hk]
 ·rw[if_neg hk,if_neg (by omega),if_neg hk]
theorem wG(s:SV){f:Int}(h0:0≤f)(h5:f<5)(k:Int):(s.gone f.toNat).file k=if k=f then none else s.file k:=by
 unfold SV.file SV.gone;by_cases hk:0≤k∧k<5
 ·rw[if_pos hk]
  by_cases e:k=f
  ·rw[if_pos e,if_pos (by rw[e])]
  ·rw[if_neg e,if_neg (by omega),if_pos hk]
 ·rw[if_neg hk,if_neg (by omega),if_neg hk]
theorem bF.set{l:List Int}{s:SV}{f:Int}(h0:0≤f)(h5:f<5)(hf:f ∉ l)(u:IV):bF l s (s.upd f.toNat u):=fun k hk v hv =>
 ⟨v,by rw[pq s h0 h5,if_neg (fun (e:k=f)=>hf (e▸hk))];exact hv,rfl⟩
theorem bF.gone{l:List Int}{s:SV}{f:Int}(h0:0≤f)(h5:f<5)(hf:f ∉ l):bF l s (s.gone f.toNat):=fun k hk v hv =>
 ⟨v,by rw[wG s h0 h5,if_neg (fun (e:k=f)=>hf (e▸hk))];exact hv,rfl⟩
theorem bF.upd{l:List Int}{s:SV}{n:Int}{v u:IV}(hf:s.file n=some v)(hu:u.h=v.h):bF l s (s.upd n.toNat u):=fun k _ t ht=>by
 rw[SV.fM hf];by_cases e:k=n
 ·rw[if_pos e]
  rw[e,hf] at ht;cases ht
  exact⟨u,rfl,hu⟩
 ·rw[if_neg e];exact⟨t,ht,rfl⟩
theorem bF.lay(l:List Int)(s:SV)(l':List Int)(c f:Nat)(t:ByteArray):bF l s (s.lay l' c f t).1:=by
 unfold SV.lay;split
 ·exact .refl l s
 ·split
  ·exact .refl l s
  ·next v hf =>
   split
   ·exact .upd hf (IV.yx _ _ _ _)
   ·exact .upd hf (IV.wK _ _ _)
theorem bF.bK(l:List Int)(s:SV)(l':List Int)(p:Pt):bF l s (SV.bK l' s p).1:=by
 unfold SV.bK;split
 ·exact .refl l s
 ·split
  ·exact .refl l s
  ·next v hf =>
   split
   ·exact .upd hf (IV.rC _ _)
   ·split
    ·exact .refl l s
    ·exact .lay _ _ _ _ _ _
theorem bF.dY{op:SV→Pt→SV × Int}{l:List Int}(hop:∀(s:SV) p,bF l s (op s p).1):∀(P:List Pt) (s:SV),bF l s (dY op s P).1:=by
 intro P
 induction P with
 | nil=>intro s;exact .refl l s
 | cons p r ih =>
  intro s;rw[nP];split
  ·exact(hop s p).trans (ih _)
  ·exact hop s p
theorem bF.put(l:List Int)(s:SV)(l':List Int)(fr:Int)(t:ByteArray):bF l s (s.put l' fr t).1:=by
 unfold SV.put;split
 ·split
  ·exact .dY (fun s p=>.lay _ _ _ _ _ _) _ _
  ·exact .refl l s
 ·exact .refl l s
theorem bF.wipe(l:List Int)(s:SV)(l':List Int)(fr n:Int):bF l s (s.wipe l' fr n).1:=by
 unfold SV.wipe;split
 ·exact .dY (fun s p=>.bK _ _ _ _) _ _
 ·exact .refl l s
theorem bF.move(l:List Int)(s:SV)(n c:Int)(t:ByteArray):bF l s (s.move n c t).1:=by
 unfold SV.move;split
 ·exact .refl l s
 ·next v hf =>
  split
  ·exact .upd hf (IV.rC _ _)
  ·split
   ·exact .upd hf (IV.yx _ _ _ _)
   ·exact .upd hf (IV.wK _ _ _)
theorem bF.cZ(l:List Int)(s:SV)(n:Int):bF l s (s.cZ n):=by
 unfold SV.cZ;split
 ·exact .refl l s
 ·next v hf=>exact .upd hf rfl
theorem bF.bQ(l:List Int):∀(r:List Int) (s:SV),bF l s (s.bQ r):=by
 intro r
 induction r with
 | nil=>intro s;exact .refl l s
 | cons n r ih=>intro s;exact(bF.cZ l s n).trans (ih _)
theorem bF.step(l:List Int)(s:SV)(j:JV):bF l s (stepS s j):=by
 unfold stepS;split
 ·exact .move _ _ _ _ _
 ·exact .refl l s
theorem IV.zC{v:IV}{b:Int}(h:v.kC b≠0):(v.link b).h=v.h:=by
 unfold IV.kC at h;unfold IV.link;split
 ·next hx =>
  rw[if_pos hx] at h;unfold IV.gJ;rw[if_neg h];rfl
 ·rfl
theorem IV.DX{v:IV}{b:Int}(h:v.kC b=0):(v.link b).h=v.lV b:=by
 unfold IV.kC at h;unfold IV.link;split
 ·next hx =>
  rw[if_pos hx] at h;unfold IV.gJ;rw[if_pos h]
 ·next hx=>rw[if_neg hx] at h;cases h
theorem bF.zC{l:List Int}{s:SV}{n b:Int}(h:(bI s n b).2≠0):bF l s (bI s n b).1:=by
 unfold bI at h ⊢;split
 ·exact .refl l s
 ·next v hf =>
  rw[hf] at h;exact .upd hf (IV.zC h)
structure Chain(s:SV)(C:Int)(root:Int)(l:List Int):Prop where
 link:Linked s root l
 good:s.good C l
 len:l.length≤5
 ne:l≠[]
theorem Chain.walk{s:SV}{C root:Int}{l:List Int}(h:Chain s C root l):s.walk root=(l,0):=TM h.link h.good h.len h.ne
theorem Chain.over{s z:SV}{C root:Int}{l:List Int}(h:Chain s C root l)(hs:bF l s z):Chain z C root l:=⟨hs.linked h.link,hs.good h.good,h.len,h.ne⟩
theorem Chain.of{s:SV}{root:Int}(h:(s.walk root).2=0)(hne:(s.walk root).1≠[]):Chain s (s.fQ root) root (s.walk root).1 :=
 ⟨SV.sH h,(s.walk_good root).1,(s.walk_good root).2.1,hne⟩
theorem Chain.head{s:SV}{C root:Int}{l:List Int}(h:Chain s C root l):∃ r,l=root::r:=by
 have:=h.link
 cases l with
 | nil=>exact absurd rfl h.ne
 | cons x r=>exact⟨r,by rw[this.1]⟩
theorem Chain.nodup{s:SV}{C root:Int}{l:List Int}(h:Chain s C root l):l.Nodup:=Linked.nodup _ _ h.link
theorem Chain.root{s:SV}{C root:Int}{l:List Int}(h:Chain s C root l):∃ v,s.file root=some v∧v.h.c=C:=by
 obtain⟨r,e⟩:=h.head;exact h.good root (by rw[e];exact List.mem_cons_self)
theorem Chain.fQ{s:SV}{C root:Int}{l:List Int}(h:Chain s C root l):s.fQ root=C:=by
 obtain⟨v,h1,h2⟩:=h.root;unfold SV.fQ;rw[h1];exact h2
theorem Chain.drop{s:SV}{C root k:Int}{p q:List Int}(h:Chain s C root (p++k::q)):Chain s C k (k::q) :=
 ⟨Linked.part p q k root h.link,fun n hn=>h.good n (List.mem_append_right p hn),by have:=h.len;rw[List.length_append] at this;omega,List.cons_ne_nil _ _⟩
theorem Chain.push{s:SV}{C root f:Int}{l:List Int}{u:IV}(h:Chain s C root l)(hl:l.length≤4)(h0:0≤f)(h5:f<5)(hf:f ∉ l)(hc:u.h.c=C)(hb:u.h.b=root):Chain (s.upd f.toNat u) C f (f::l):=by
 have hs:bF l s (s.upd f.toNat u):=.set h0 h5 hf u;have hu:(s.upd f.toNat u).file f=some u:=by rw[pq s h0 h5,if_pos rfl]
 refine⟨⟨rfl,by omega,u,hu,by rw[hb];exact hs.linked h.link⟩,fun n hn=>?_,by simp;omega,List.cons_ne_nil _ _⟩
 rcases List.mem_cons.1 hn with e|e
 ·exact⟨u,by rw[e];exact hu,hc⟩
 ·exact hs.good h.good n e
theorem Chain.one{s:SV}{f:Int}{v:IV}(hf:s.file f=some v)(hb:v.h.b = -1):Chain s v.h.c f [f]:=by
 obtain⟨h0,_,_⟩:=SV.dJ hf;refine⟨⟨rfl,by omega,v,hf,hb⟩,fun n hn=>?_,by simp,List.cons_ne_nil _ _⟩
 rw[List.mem_singleton] at hn;exact⟨v,by rw[hn];exact hf,rfl⟩
theorem Chain.linked{s:SV}{C root k:Int}{p q:List Int}(h:Chain s C root (root::p++k::q))(hw:(bI s root k).2=0):Chain (bI s root k).1 C root (root::k::q):=by
 obtain⟨v,h1,h2⟩:=h.root;have hnd:=h.nodup;have hd:Chain s C k (k::q):=Chain.drop (p:=root::p) h;unfold bI at hw ⊢;rw[h1] at hw ⊢;have hy:=IV.DX hw;obtain⟨h0,h5,_⟩:=SV.dJ h1
 have hnm:root ∉ k::q:=by
  have:(root::(p++k::q)).Nodup:=by simpa using hnd
  rw[List.nodup_cons] at this;exact fun hm=>this.1 (List.mem_append_right p hm)
 have hlen:(k::q).length≤4:=by
  have:=h.len
  simp only[List.cons_append,List.length_cons,List.length_append] at this ⊢;omega
 exact hd.push hlen h0 h5 hnm (by rw[hy];exact h2) (by rw[hy];rfl)
theorem Chain.DY{s:SV}{C root:Int}{l:List Int}(h:Chain s C root l)(hw:(bI s root (-1)).2=0):Chain (bI s root (-1)).1 C root [root]:=by
 obtain⟨v,h1,h2⟩:=h.root;unfold bI at hw ⊢;rw[h1] at hw ⊢;have hy:=IV.DX hw;obtain⟨h0,h5,_⟩:=SV.dJ h1;have hu:(s.upd root.toNat (v.link (-1))).file root=some (v.link (-1)):=by rw[pq s h0 h5,if_pos rfl]
 have:=Chain.one hu (by rw[hy];rfl)
 rw[hy] at this;rw[← h2];exact this
end Go.Proofs.YtonhoahnieoebabGreatDoor
