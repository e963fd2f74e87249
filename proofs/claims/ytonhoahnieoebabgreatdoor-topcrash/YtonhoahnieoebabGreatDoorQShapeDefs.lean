/- Acts that came in: how a list of them lies in memory, how it is read, and whether it is few and short (LightActs). -/
import Derived.Test.YtonhoahnieoebabGreatDoorQDevOf
import Derived.ProofKit
import Derived.OpenShut
import Derived.ShutString
import Derived.Deep.Grids
import Derived.BigRegion
import Derived.Laws.BitsAllLaws
set_option maxHeartbeats 400000
set_option maxRecDepth 100000
namespace Go.Proofs.YtonhoahnieoebabGreatDoor
open Go.RowKit Go.ChangeShapes Go.WideShapes
structure aG where
 kind:ByteArray
 a:Int
 b:Int
 c:Int
 d:Int
 s:ByteArray
 ka:Option Addr
 kl:Nat
 kc:Nat
 ks:List Bool
def aG.none_:aG:=⟨⟨#[]⟩,0,0,0,0,⟨#[]⟩,none,0,0,[]⟩
def aG.cells(x:aG):List Value:=[.string x.kind,.int .i64 x.a,.int .i64 x.b,.int .i64 x.c,.int .i64 x.d,.string x.s,.slice x.ka x.kl x.kc]
structure qY(w:World)(x:aG):Prop where
 k1:x.kind.size≤maxLen
 s1:x.s.size≤maxLen
 a1 : -9223372036854775808≤x.a∧x.a≤9223372036854775807
 kl1:x.kl≤maxLen
 keep:Bools w x.ka x.kl x.ks
 kn:x.ka=none→x.kc=0
def kM(w:World)(la:Option Addr)(len:Nat)(xs:List aG):Prop :=
 xs.length=len∧∀ k,k<len→∃ b off,la=some ⟨b,off,none⟩∧w.rangeAt b (off+k*7) (xs.getD k aG.none_).cells∧qY w (xs.getD k aG.none_)
theorem UM{w w':World}{b o:Nat}{cs:List Value}(h:w.rangeAt b o cs)(hb:Below w.heap.size w w'):w'.rangeAt b o cs:=fun j v hv=>by
 have:=h j v hv
 rw[hb.cell (World.block_lt_of_cell? w _ this)];exact this
theorem kM.below{w w':World}{la:Option Addr}{len:Nat}{xs:List aG}(h:kM w la len xs)(hb:Below w.heap.size w w'):kM w' la len xs:=by
 refine⟨h.1,fun k hk=>?_⟩
 obtain⟨b,off,e,hr,ho⟩:=h.2 k hk
 exact⟨b,off,e,UM hr hb,ho.k1,ho.s1,ho.a1,ho.kl1,ho.keep.below hb,ho.kn⟩
section
variable {H:Type} {enc:TypeId × Value→H}
theorem O0{w:World}{fuel:Nat}{v:Value}{x:DataW H × List MemPlace}(h:DataW.trod enc Tryz.prog w 0 (fun _=>true) true fuel 41 [v]=some x) :
  ∃ ka kl kc ks,v=.slice ka kl kc∧kl≤maxLen∧Bools w ka kl ks∧(ka=none→kc=0):=by
 rcases Go.Deep.open_bools Tryz.underlying41 Tryz.underlying4 (by kernel_rfl) h with⟨hcs,_⟩|⟨a,len,cap,Bf,hcs,_,hl,hm,_,hcell⟩
 ·have:v=.slice none 0 0:=by simpa using hcs
  exact⟨none,0,0,[],this,by unfold maxLen;omega,⟨rfl,fun j hj=>by omega⟩,fun _=>rfl⟩
 ·have:v=.slice (some a) len cap:=by simpa using hcs
  refine⟨some a,len,cap,(List.range len).map Bf,this,by omega,⟨by simp,fun j hj=>?_⟩,fun e=>by cases e⟩
  obtain⟨b,off,spot⟩:=a
  have h0:=hcell 0 (by omega)
  have hspot:spot=none:=by simpa [Addr.add] using World.cell?_spot h0
  subst hspot
  refine⟨b,off,rfl,?_⟩
  rw[← Go.WideShapes.add_plain,hcell j (by omega)]
  simp[List.getD,hj]
theorem Om{w:World}{fuel:Nat}{cs:List Value}{x:DataW H × List MemPlace}(h:DataW.trod enc Tryz.prog w 0 (fun _=>true) true fuel 43 cs=some x) :
  ∃ y:aG,cs=y.cells∧qY w y:=by
 obtain⟨xs,n,_,_,hl,hlen,hf⟩:=DataW.trod_struct Tryz.underlying43 h
 have h7:cs.length=7:=by rw[hl];kernel_rfl
 have c9:Tryz.prog.cellsOf 9=1:=by kernel_rfl
 have c3:Tryz.prog.cellsOf 3=1:=by kernel_rfl
 have c45:Tryz.prog.cellsOf 41=1:=by kernel_rfl
 match cs,h7,xs,hlen with
 | [v0,v1,v2,v3,v4,v5,v6],_,[y0,y1,y2,y3,y4,y5,y6],_ =>
  have f0:DataW.trod enc Tryz.prog w 0 (fun _=>true) true n 9 [v0]=some y0:=by simpa [c9] using hf 0 _ rfl
  have f1:DataW.trod enc Tryz.prog w 0 (fun _=>true) true n 3 [v1]=some y1:=by simpa [c3] using hf 1 _ rfl
  have f2:DataW.trod enc Tryz.prog w 0 (fun _=>true) true n 3 [v2]=some y2:=by simpa [c3] using hf 2 _ rfl
  have f3:DataW.trod enc Tryz.prog w 0 (fun _=>true) true n 3 [v3]=some y3:=by simpa [c3] using hf 3 _ rfl
  have f4:DataW.trod enc Tryz.prog w 0 (fun _=>true) true n 3 [v4]=some y4:=by simpa [c3] using hf 4 _ rfl
  have f5:DataW.trod enc Tryz.prog w 0 (fun _=>true) true n 9 [v5]=some y5:=by simpa [c9] using hf 5 _ rfl
  have f6:DataW.trod enc Tryz.prog w 0 (fun _=>true) true n 41 [v6]=some y6:=by simpa [c45] using hf 6 _ rfl
  obtain⟨s0,e0,_,m0⟩:=DataW.trod_string Tryz.underlying9 f0
  obtain⟨a1,e1,_,w1⟩:=DataW.trod_int Tryz.underlying3 f1
  obtain⟨a2,e2,_,_⟩:=DataW.trod_int Tryz.underlying3 f2
  obtain⟨a3,e3,_,_⟩:=DataW.trod_int Tryz.underlying3 f3
  obtain⟨a4,e4,_,_⟩:=DataW.trod_int Tryz.underlying3 f4
  obtain⟨s5,e5,_,m5⟩:=DataW.trod_string Tryz.underlying9 f5
  obtain⟨ka,kl,kc,ks,e6,m6,hk,hkn⟩:=O0 f6
  simp only[List.cons.injEq,and_true] at e0 e1 e2 e3 e4 e5
  subst e0 e1 e2 e3 e4 e5 e6
  have b1:=bounds_i64 w1
  exact⟨⟨s0,a1,a2,a3,a4,s5,ka,kl,kc,ks⟩,rfl,m0,m5,⟨b1.1,b1.2⟩,m6,hk,hkn⟩
theorem MV{w:World}{la:Option Addr}{len cap fuel:Nat}{x:DataW H × List MemPlace}(h:DataW.trod enc Tryz.prog w 0 (fun _=>true) true fuel 23 [.slice la len cap]=some x) :
  ∃ xs,kM w la len xs∧len≤maxLen:=by
 rcases Go.Deep.open_slice Tryz.underlying23 h with⟨hcs,_⟩|⟨a,len',cap',m,n,D,Pl,hcs,_,hl,hm,hmm,_,hx⟩
 ·simp at hcs
  obtain⟨rfl,rfl,rfl⟩:=hcs
  exact⟨[],⟨rfl,fun k hk=>by omega⟩,by unfold maxLen;omega⟩
 ·simp at hcs
  obtain⟨rfl,rfl,rfl⟩:=hcs
  have c47:Tryz.prog.cellsOf 43=7:=by kernel_rfl
  simp only[if_true] at hmm
  subst hmm
  have:∀ i,i<len→∃ y:aG,(∀ j,j<7→w.cell? (a.add (i*7+j))=y.cells[j]?)∧qY w y:=fun i hi=>by
   obtain⟨cs',h1,h2⟩:=hx i (by omega)
   obtain⟨y,rfl,hok⟩:=Om h2
   obtain⟨_,_,hc⟩:=World.cells?_some h1
   rw[c47] at hc
   exact⟨y,fun j hj=>by rw[← Go.Deep.add_add];exact hc j hj,hok⟩
  refine⟨(List.range len).attach.map fun i=>Classical.choose (this i.1 (List.mem_range.1 i.2)),⟨by simp,fun k hk=>?_⟩,by omega⟩
  have hk':=this k hk
  have e:((List.range len).attach.map fun i=>Classical.choose (this i.1 (List.mem_range.1 i.2))).getD k aG.none_=Classical.choose (this k hk):=by
   simp[List.getD,hk]
  rw[e]
  obtain⟨hc,hok⟩:=Classical.choose_spec (this k hk)
  obtain⟨b,off,spot⟩:=a
  have hc0:=(Classical.choose_spec (this 0 (by omega))).1 0 (by omega)
  have hspot:spot=none:=by
   have h0:w.cell? ((⟨b,off,spot⟩:Addr).add (0*7+0))=some (.string (Classical.choose (this 0 (by omega))).kind):=hc0.trans rfl
   simpa [Addr.add] using World.cell?_spot h0
  subst hspot
  refine⟨b,off,rfl,fun j v hv=>?_,hok⟩
  have hj:j<7:=by
   rcases Nat.lt_or_ge j 7 with q|q
   ·exact q
   ·rw[List.getElem?_eq_none (by exact q)] at hv;cases hv
  have:=hc j hj
  rw[Go.WideShapes.add_plain,hv] at this
  rw[show off+k*7+j=off+(k*7+j) by omega];exact this
end
def lJ(xs:List aG)(most:Nat):Bool:=decide (xs.length≤most∧∀ k,k<xs.length→(xs.getD k aG.none_).s.size≤700∧(xs.getD k aG.none_).kl≤300)
theorem nG{a b:Bool}(h:a=b):Ending.returned (.bool a)=.returned (.bool b):=by rw[h]
theorem Bh(la:Option Addr)(len cap most:Nat)(xs:List aG)(w:World)(hT:kM w la len xs)(_hn:len≤maxLen)(hm:most≤100) :
  Calls Tryz.prog 13 #[.slice la len cap,.int .i64 (most:Int)] w fun e w'=>e=.returned (.bool (lJ xs most))∧w'=w:=by
 obtain⟨hlen,hT⟩:=hT
 by_cases h20:most<len
 ·have HF:Hid (lJ xs most=false):=by unfold Hid lJ;simp;omega
  clear hT
  go_enter Tryz.func13,Tryz.ntmps13
  go_wp2
  go_ret
  exact⟨nG HF.out.symm,rfl⟩
 ·have HT:Hid (∀ k,k<len→∃ b off,la=some ⟨b,off,none⟩∧w.rangeAt b (off+k*7) (xs.getD k aG.none_).cells∧qY w (xs.getD k aG.none_)):=hT
  have HL:Hid (xs.length=len):=hlen
  clear hT hlen
  go_enter Tryz.func13,Tryz.ntmps13
  go_wp2
  go_loop [5] (fun i=>∃ k:Nat,k≤len∧i=.int .i64 k∧∀ j,j<k→(xs.getD j aG.none_).s.size≤700∧(xs.getD j aG.none_).kl≤300) (fun i=>len-(intOf i).toNat)
  case atStart=>exact⟨0,Nat.zero_le _,rfl,fun j hj=>by omega⟩
  case round =>
   obtain⟨k,hk,rfl,hall⟩:=hrel
   by_cases hlt:k<len
   ·obtain⟨b,off,rfl,hr,hok⟩:=HT.out k hlt
    have c5:w.cell? ⟨b,off+k*7+5,none⟩=some (.string (xs.getD k aG.none_).s):=hr 5 _ rfl
    have c6:w.cell? ⟨b,off+k*7+6,none⟩=some (.slice (xs.getD k aG.none_).ka (xs.getD k aG.none_).kl (xs.getD k aG.none_).kc):=hr 6 _ rfl
    have hs1:=hok.s1
    have hk1:=hok.kl1
    unfold maxLen at hs1 hk1
    have HA:Hid ((xs.getD k aG.none_).s.size≤700→(xs.getD k aG.none_).kl≤300→∀ j,j<k+1→(xs.getD j aG.none_).s.size≤700∧(xs.getD j aG.none_).kl≤300):=by
     intro h1 h2 j hj
     by_cases e:j=k
     ·rw[e];exact⟨h1,h2⟩
     ·exact hall j (by omega)
    have HF:Hid ((700<(xs.getD k aG.none_).s.size∨300<(xs.getD k aG.none_).kl)→lJ xs most=false):=by
     intro h
     unfold lJ
     simp only[decide_eq_false_iff_not]
     rintro⟨_,q⟩
     have:=q k (by rw[HL.out];exact hlt)
     omega
    clear hall hr hok
    generalize xs.getD k aG.none_=x at c5 c6 hs1 hk1 HA HF
    by_cases h7:700<x.s.size
    ·have g7:decide (700<(x.s.size:Int))=true:=by simp;omega
     go_wp2
     go_ret
     exact⟨nG (HF.out (.inl h7)).symm,rfl⟩
    ·have g7:decide (700<(x.s.size:Int))=false:=by simp;omega
     by_cases h3:300<x.kl
     ·have g3:decide (300<(x.kl:Int))=true:=by simp;omega
      go_wp2
      go_ret
      exact⟨nG (HF.out (.inr h3)).symm,rfl⟩
     ·have g3:decide (300<(x.kl:Int))=false:=by simp;omega
      go_wp2
      go_round
      case rel=>exact⟨k+1,by omega,by go_num,HA.out (by omega) (by omega)⟩
      case measure=>simp[intOf];omega
   ·have HF:Hid (lJ xs most=true):=by
     unfold Hid lJ
     simp only[decide_eq_true_eq]
     exact⟨by rw[HL.out];omega,fun j hj=>hall j (by have:=HL.out;omega)⟩
    clear hall
    go_wp2
    go_ret
    exact⟨nG HF.out.symm,rfl⟩
theorem Ig(w:World) :
  Calls Tryz.prog 72 #[.int .i64 16] w fun e w'=>e=.returned (.string (bytesOf noughts))∧Below w.heap.size w w':=by
 obtain⟨i0,hi0,hz0,hz1,hz2⟩:=info_parts BF
 obtain⟨w1,hmk,hown,hgr⟩:=run_make_full (P:=Tryz.prog) w w.heap.size 206 5 i0 (.int .u8 0) 1 Tryz.underlying206 hi0 hz0 hz1 .i64 .i64 16 (by rw[hz2];omega) (by unfold maxLen;omega) (Nat.le_refl _)
 have hmk':(Instr.makeSlice 206 (.int .i64 16) (.int .i64 16)).run Tryz.prog w=.ok (.slice (some ⟨w.heap.size,0,none⟩) 16 16) w1:=hmk
 clear hmk
 have hb:Below w.heap.size w w1:=(Below.refl _ _).grown hgr (Nat.le_refl _) (fun k e=>by cases e)
 have hr:w1.rangeAt w.heap.size 0 (bD noughts):=fun j v hv=>by
  have hj:j<16:=by
   rcases Nat.lt_or_ge j 16 with q|q
   ·exact q
   ·rw[List.getElem?_eq_none (by exact q)] at hv;cases hv
  rw[Nat.zero_add,hown.cellAt j (by omega)]
  have e:(madeCells (Value.int .u8 0).cells (16*1)).toList=bD noughts:=by
   show(madeCells #[Value.int .u8 0] 16).toList=_
   rw[toList_madeCells_one];rfl
  rw[e];exact hv
 have hcv:=AQ 16 16 rfl hr
 have HB:Hid (Below w.heap.size w w1):=hb
 clear hr hown hgr hb hi0 hz0 hz1 hz2
 go_enter Tryz.func72,Tryz.ntmps72
 go_wp2
 go_ret
 exact⟨rfl,HB.out⟩
end Go.Proofs.YtonhoahnieoebabGreatDoor
namespace Go.Proofs.YtonhoahnieoebabGreatDoor
open Go.RowKit
attribute [local go_sem ↓] Go.wp_at_zero Go.wp_at_succ
structure Rh where
 p:Nat
 bf:Nat
 cf:Nat
 v1:Value
 v2:Value
def flS(l:List (List UInt8)):List Value:=l.map fun s=>.string (bytesOf s)
def Rh.fp(q:Rh)(k:Nat):Prop:=k=q.p∨k=q.bf∨q.v1.ownBlock=some k∨q.v2.ownBlock=some k
theorem Qe:(Tryz.prog.info? 9).map (fun i=>(i.zero,i.size,i.bytes))=some (some (.string ⟨#[]⟩),1,16):=by kernel_rfl
theorem Dj:(Tryz.prog.info? 3).map (fun i=>(i.zero,i.size,i.bytes))=some (some (.int .i64 0),1,8):=by kernel_rfl
theorem ownsRow_kind{w:World}{B e size n:Nat}{v:Value}{xs:List Value}(h:w.ownsRow B e size v n xs)(k:Nat)(hk:v.ownBlock=some k):∃ cur,w.heap[k]?=some (.cells cur e (0,0)):=by
 rcases h.2 with⟨q,_⟩|⟨g,cap,cur,q,_,hg,_⟩
 ·rw[q] at hk;cases hk
 ·rw[q] at hk
  have:g=k:=by simpa [Value.ownBlock] using hk
  subst this
  exact⟨cur,hg⟩
theorem aI.kinds{B:Nat}{w:World}{h:Hd}{d:DV}(hd:aI B w h d)(k:Nat)(hk:h.fp k):∃ cur t,w.heap[k]?=some (.cells cur t (0,0))∧(t=264∨t=261∨t=266):=by
 rcases hk with rfl|rfl|rfl|hk
 ·exact⟨_,_,hd.blk,.inl rfl⟩
 ·obtain⟨_,cur,hh,_⟩:=fP hd.of;exact⟨cur,_,hh,.inr (.inl rfl)⟩
 ·obtain⟨_,cur,hh,_⟩:=fP hd.os;exact⟨cur,_,hh,.inr (.inl rfl)⟩
 ·obtain⟨cur,hh⟩:=ownsRow_kind hd.op k hk;exact⟨cur,_,hh,.inr (.inr rfl)⟩
theorem ownsRow_shape{w:World}{B e size n:Nat}{v:Value}{xs:List Value}(h:w.ownsRow B e size v n xs):∃ a cap,v=.slice a n cap:=by
 rcases h.2 with⟨h0,h1⟩|⟨g,cap,cur,hv,_⟩
 ·exact⟨none,0,by rw[h0,h1]⟩
 ·exact⟨_,cap,hv⟩
theorem qm{w:World}{B e n:Nat}{v:Value}{xs:List Value}(h:w.ownsRow B e 1 v n xs)(k:Nat)(hk:k<n):∃ g cap,v=.slice (some ⟨g,0,none⟩) n cap∧w.cell? ⟨g,k,none⟩=xs[k]?∧g<w.heap.size∧w.frozen? ⟨g,k,none⟩=false:=by
 obtain⟨g,cap,hv,_,hg⟩:=h.form (by omega)
 subst hv
 exact⟨g,cap,rfl,h.cellAt k (by omega),hg,h.frozenAt k⟩
theorem U3(l:List (List UInt8))(i:Nat)(h:i<l.length):(flS l)[i]?=some (.string (bytesOf (l.getD i []))):=by
 simp[flS,List.getD,List.getElem?_eq_getElem h]
theorem pY(s:ByteArray):bytesOf s.data.toList=s:=by
 apply ByteArray.ext
 simp[bytesOf]
def nD(pend:List (Nat × List UInt8))(l:List (List UInt8)):Nat→List (List UInt8)
 | 0=>l
 | k+1=>(nD pend l k).set (pend.getD k (0,[])).1 (pend.getD k (0,[])).2
def DV.sn(d:DV):Prop:=d.seen=nD d.pend d.fl d.pend.length
theorem UL(l:List (List UInt8)):(flS l).length=l.length:=by simp[flS]
theorem U1(l:List (List UInt8)):∀ u∈flS l,u.oneCell'=true:=by
 intro u hu
 obtain⟨x,_,rfl⟩:=List.mem_map.1 hu
 rfl
end Go.Proofs.YtonhoahnieoebabGreatDoor
namespace Go.Proofs.YtonhoahnieoebabGreatDoor
open Go.RowKit
theorem FW(l:List (List UInt8))(wr:Nat):(DV.made l wr).sn:=rfl
theorem Ak{d:DV}(h:d.sn)(n:Int):(d.failing n).sn:=h
theorem IY{d:DV}(h:d.sn):d.ig.sn:=by
 unfold DV.ig;split
 ·exact h
 ·exact Ak h _
theorem OA(d:DV):d.flushed.sn:=rfl
theorem O4(p r:List (Nat × List UInt8))(l:List (List UInt8))(k:Nat)(hk:k≤p.length):nD (p++r) l k=nD p l k:=by
 induction k with
 | zero=>rfl
 | succ k ih =>
  show(nD (p++r) l k).set _ _=(nD p l k).set _ _
  rw[ih (by omega)]
  have e:(p++r).getD k (0,[])=p.getD k (0,[]):=by
   rw[List.getD_eq_getElem?_getD,List.getD_eq_getElem?_getD,List.getElem?_append_left (by omega)]
  rw[e]
theorem QD{d:DV}(h:d.sn)(i:Nat)(s:List UInt8):(d.wrote i s).sn:=by
 unfold DV.sn DV.wrote
 show d.seen.set i s=nD (d.pend++[(i,s)]) d.fl (d.pend++[(i,s)]).length
 rw[List.length_append]
 show _=(nD (d.pend++[(i,s)]) d.fl d.pend.length).set _ _
 rw[O4 _ _ _ _ (Nat.le_refl _),← h]
 have e:(d.pend++[(i,s)]).getD d.pend.length (0,[])=(i,s):=by
  rw[List.getD_eq_getElem?_getD,List.getElem?_append_right (Nat.le_refl _)];simp
 rw[e]
end Go.Proofs.YtonhoahnieoebabGreatDoor
namespace Go.Proofs.YtonhoahnieoebabGreatDoor.Crc
def poly:Nat:=3988292384
def stp(s:Nat):Nat:=if s % 2=1 then (s / 2) ^^^ poly else s / 2
def many:Nat→Nat→Nat
 | 0,s=>s
 | n+1,s=>many n (stp s)
theorem Ei(a b s:Nat):many (a+b) s=many b (many a s):=by
 induction a generalizing s with
 | zero=>simp[many]
 | succ a ih=>rw[Nat.succ_add];simp only[many];exact ih (stp s)
theorem EG(n s:Nat):many (n+1) s=stp (many n s):=by
 rw[Ei n 1 s];rfl
theorem FH(x y:Nat):(x ^^^ y) % 2=(x % 2+y % 2) % 2:=by
 have h:=Nat.testBit_xor x y 0
 simp only[Nat.testBit_zero] at h
 have h1:(x ^^^ y) % 2=0∨(x ^^^ y) % 2=1:=by omega
 have hx:x % 2=0∨x % 2=1:=by omega
 have hy:y % 2=0∨y % 2=1:=by omega
 rcases h1 with h1|h1<;>rcases hx with hx|hx<;>rcases hy with hy|hy<;>simp[h1,hx,hy] at h ⊢
theorem Ez(x y:Nat):(x ^^^ y) / 2=(x / 2) ^^^ (y / 2):=Nat.xor_div_two
theorem Ux(x y:Nat):stp (x ^^^ y)=stp x ^^^ stp y:=by
 unfold stp
 rw[FH,Ez]
 have hx:x % 2=0∨x % 2=1:=by omega
 have hy:y % 2=0∨y % 2=1:=by omega
 rcases hx with hx|hx<;>rcases hy with hy|hy<;>simp[hx,hy]
 ·rw[Nat.xor_assoc]
 ·rw[Nat.xor_assoc,Nat.xor_assoc,Nat.xor_comm (y / 2) poly]
 ·rw[Nat.xor_assoc,← Nat.xor_assoc poly,Nat.xor_comm poly (y / 2),Nat.xor_assoc,Nat.xor_self,Nat.xor_zero]
theorem Ep(n x y:Nat):many n (x ^^^ y)=many n x ^^^ many n y:=by
 induction n generalizing x y with
 | zero=>rfl
 | succ n ih=>simp only[many];rw[Ux,ih]
theorem Rt(x:Nat):stp (2*x)=x:=by
 unfold stp
 rw[if_neg (by omega)];omega
theorem Gf(n x:Nat):many n (2 ^ n*x)=x:=by
 induction n generalizing x with
 | zero=>simp[many]
 | succ n ih =>
  simp only[many]
  rw[Nat.pow_succ,Nat.mul_assoc,Nat.mul_left_comm,Rt,ih]
theorem Hq(x:Nat)(h:x<4294967296):stp x<4294967296:=by
 unfold stp
 split
 ·exact Nat.xor_lt_two_pow (n:=32) (by omega) (by unfold poly;omega)
 ·omega
theorem Dx(n x:Nat)(h:x<4294967296):many n x<4294967296:=by
 induction n generalizing x with
 | zero=>exact h
 | succ n ih=>exact ih _ (Hq x h)
def num:List UInt8→Nat
 | []=>0
 | b::l=>b.toNat+256*num l
theorem OL(l:List UInt8):num l<2 ^ (8*l.length):=by
 induction l with
 | nil=>simp[num]
 | cons b l ih =>
  have hb:=b.toNat_lt
  simp only[num,List.length_cons]
  rw[show 8*(l.length+1)=8+8*l.length by omega,Nat.pow_add]
  have:(2:Nat) ^ 8=256:=rfl
  rw[this];omega
theorem add_eq_xor(i x y:Nat)(h:x<2 ^ i):x+2 ^ i*y=x ^^^ (2 ^ i*y):=by
 apply Nat.eq_of_testBit_eq
 intro j
 rw[Nat.testBit_xor,Nat.add_comm,Nat.testBit_two_pow_mul_add y h,Nat.testBit_two_pow_mul]
 by_cases hj:j<i
 ·have:¬j≥i:=by omega
  simp[hj,this]
 ·have hz:x.testBit j=false:=Nat.testBit_lt_two_pow (Nat.lt_of_lt_of_le h (Nat.pow_le_pow_right (by omega) (by omega)))
  have:j≥i:=by omega
  simp[hj,this,hz]
def byt(s:Nat)(b:UInt8):Nat:=many 8 (s ^^^ b.toNat)
def crc(s:Nat)(l:List UInt8):Nat:=l.foldl byt s
theorem CX(s:Nat)(l m:List UInt8):crc s (l++m)=crc (crc s l) m:=by
 simp[crc]
theorem Lr(s:Nat)(l:List UInt8):crc s l=many (8*l.length) (s ^^^ num l):=by
 induction l generalizing s with
 | nil=>simp[crc,num,many]
 | cons b l ih =>
  have e:crc s (b::l)=crc (byt s b) l:=rfl
  have hb:=b.toNat_lt
  have hn:num (b::l)=b.toNat ^^^ (2 ^ 8*num l):=by
   rw[← add_eq_xor 8 _ _ (by omega)];rfl
  rw[e,ih,hn,List.length_cons,show 8*(l.length+1)=8+8*l.length by omega,Ei,← Nat.xor_assoc,Ep 8,Gf];rfl
theorem UJ(s:Nat)(b:UInt8)(h:s<4294967296):byt s b<4294967296:=by
 have hb:=b.toNat_lt
 exact Dx _ _ (Nat.xor_lt_two_pow (n:=32) (by omega) (by omega))
theorem Cm(s:Nat)(l:List UInt8)(h:s<4294967296):crc s l<4294967296:=by
 induction l generalizing s with
 | nil=>exact h
 | cons b l ih=>exact ih _ (UJ s b h)
def ones:Nat:=4294967295
def more(s:Nat)(l:List UInt8):Nat:=crc (s ^^^ ones) l ^^^ ones
def total(l:List UInt8):Nat:=crc ones l ^^^ ones
theorem yL(l:List UInt8):total l<4294967296 :=
 Nat.xor_lt_two_pow (n:=32) (Cm _ _ (by unfold ones;omega)) (by unfold ones;omega)
theorem Ku(l m:List UInt8):more (total l) m=total (l++m):=by
 unfold more total
 rw[Nat.xor_assoc,Nat.xor_self,Nat.xor_zero,CX]
theorem La:total []=0:=by simp[total,crc]
def bitwise(n i:Nat):Nat:=many i (ones ^^^ (n % 2 ^ i))
theorem BX(n:Nat):bitwise n 0=ones:=by simp[bitwise,many,Nat.mod_one]
theorem Hz(n i:Nat):bitwise n (i+1)=stp (bitwise n i ^^^ (n / 2 ^ i % 2)):=by
 have h:n % 2 ^ (i+1)=(n % 2 ^ i) ^^^ (2 ^ i*(n / 2 ^ i % 2)):=by
  rw[← add_eq_xor i _ _ (Nat.mod_lt _ (Nat.two_pow_pos i)),Nat.pow_succ,Nat.mod_mul]
 unfold bitwise
 rw[h,← Nat.xor_assoc,EG,Ep,Gf]
theorem Jy(n i:Nat):bitwise n i<4294967296:=by
 induction i with
 | zero=>rw[BX];unfold ones;omega
 | succ i ih =>
  rw[Hz]
  exact Hq _ (Nat.xor_lt_two_pow (n:=32) ih (by have:=Nat.mod_lt (n / 2 ^ i) (show 0<2 by omega);omega))
theorem SX(l:List UInt8):bitwise (num l) (8*l.length)=crc ones l:=by
 rw[Lr];unfold bitwise
 rw[Nat.mod_eq_of_lt (OL l)]
theorem PW(l:List UInt8)(i:Nat)(h:i<8*l.length):num l / 2 ^ i % 2=(l[i / 8]'(by omega)).toNat / 2 ^ (i % 8) % 2:=by
 induction l generalizing i with
 | nil=>simp at h
 | cons b l ih =>
  have hb:=b.toNat_lt
  by_cases hi:i<8
  ·have e0:i / 8=0:=by omega
   have e1:i % 8=i:=by omega
   simp only[e0,e1,List.getElem_cons_zero,num]
   have h8:(256:Nat)=2 ^ i*(2*2 ^ (7-i)):=by
    rw[← Nat.mul_assoc,Nat.mul_comm (2 ^ i) 2,Nat.mul_assoc,← Nat.pow_add,show i+(7-i)=7 by omega]
   rw[h8,Nat.mul_assoc,Nat.add_mul_div_left _ _ (Nat.two_pow_pos i),Nat.mul_assoc,Nat.add_mul_mod_self_left]
  ·obtain⟨j,rfl⟩:∃ j,i=j+8:=⟨i-8,by omega⟩
   have e0:(j+8) / 8=j / 8+1:=by omega
   have e1:(j+8) % 8=j % 8:=by omega
   simp only[e0,e1,List.getElem_cons_succ,num]
   rw[← ih j (by simp only[List.length_cons] at h;omega),Nat.pow_add,Nat.mul_comm (2 ^ j),← Nat.div_div_eq_div_mul]
   congr 2
   have:(2:Nat) ^ 8=256:=rfl
   rw[this];omega
theorem FM(s b:Nat)(hb:b<2):stp (s ^^^ b)=if (s % 2) ^^^ b=1 then (s / 2) ^^^ poly else s / 2:=by
 unfold stp
 rw[FH,Ez]
 have hs:s % 2=0∨s % 2=1:=by omega
 have hb':b=0∨b=1:=by omega
 rcases hs with hs|hs<;>rcases hb' with rfl|rfl<;>simp[hs]
end Go.Proofs.YtonhoahnieoebabGreatDoor.Crc
namespace Go.Proofs.YtonhoahnieoebabGreatDoor
open Go.RowKit
theorem vM{a b:Int}(h:a=b):Ending.returned (.int .u32 a)=.returned (.int .u32 b):=by rw[h]
theorem UF(m:Nat)(h:m<4294967296)(e:((m:Int) % 2==1)=true):bits .xor .u32 ((m:Int) / 2) 3988292384=(Crc.stp m:Int):=by
 have e1:m % 2=1:=by have:=beq_iff_eq.1 e;omega
 rw[u32_xor _ _ (by omega) (by omega) (by omega) (by omega)]
 unfold Crc.stp Crc.poly
 rw[if_pos e1]
 congr 2
theorem Uc(m:Nat)(e:((m:Int) % 2==1)=false):((m:Int) / 2)=(Crc.stp m:Int):=by
 have e1:¬m % 2=1:=by have:=beq_eq_false_iff_ne.1 e;omega
 unfold Crc.stp
 rw[if_neg e1]
 omega
theorem sD{a b:Int}(h:a=b):Value.int .u32 a=Value.int .u32 b:=by rw[h]
theorem TY(s:Nat)(b:UInt8)(w:World)(hs:s<4294967296) :
  Calls Tryz.prog 289 #[.int .u32 s,.int .u8 b.toNat] w fun e w'=>e=.returned (.int .u32 (Crc.byt s b))∧w'=w:=by
 have hb:=b.toNat_lt
 have hx:bits .xor .u32 (s:Int) (b.toNat:Int)=((s ^^^ b.toNat:Nat):Int):=u32_xor_nat s b.toNat hs (by omega)
 have hlt0:s ^^^ b.toNat<4294967296:=Nat.xor_lt_two_pow (n:=32) hs (by omega)
 go_enter Tryz.func289,Tryz.ntmps289
 go_wp2
 go_loop [0,9] (fun t i=>∃ k:Nat,k≤8∧i=.int .i64 k∧t=.int .u32 (Crc.many k (s ^^^ b.toNat))) (fun _ i=>8-(intOf i).toNat)
 case atStart=>exact⟨0,by omega,rfl,rfl⟩
 case round =>
  obtain⟨k,hk,rfl,rfl⟩:=hrel
  have hm:=Crc.Dx k _ hlt0
  have HK:Hid (¬k<8→Crc.many k (s ^^^ b.toNat)=Crc.byt s b):=by
   intro h
   have h8:k=8:=by omega
   rw[h8];rfl
  have hs1:=Crc.EG k (s ^^^ b.toNat)
  have HS:Hid (Crc.many (k+1) (s ^^^ b.toNat)=Crc.stp (Crc.many k (s ^^^ b.toNat))):=hs1
  clear hs1
  generalize Crc.many k (s ^^^ b.toNat)=m at HS HK hm ⊢
  by_cases hlt:k<8
  ·go_wp2
   ·go_round
    case rel=>exact⟨k+1,by omega,by go_num,sD (by rw[HS.out];exact UF m hm (by assumption))⟩
    case measure=>simp[intOf];omega
   ·go_round
    case rel=>exact⟨k+1,by omega,by go_num,sD (by rw[HS.out];exact Uc m (by assumption))⟩
    case measure=>simp[intOf];omega
  ·go_wp2
   go_ret
   exact⟨vM (by rw[HK.out hlt]),rfl⟩
theorem Sj(s:Nat)(t:ByteArray)(w:World)(hs:s<4294967296)(ht:t.size≤maxLen) :
  Calls Tryz.prog 280 #[.int .u32 s,.string t] w fun e w'=>e=.returned (.int .u32 (Crc.more s t.data.toList))∧w'=w:=by
 unfold maxLen at ht
 have hx:bits .xor .u32 (s:Int) 4294967295=((s ^^^ Crc.ones:Nat):Int):=u32_xor_nat s 4294967295 hs (by omega)
 have hlt0:s ^^^ Crc.ones<4294967296:=Nat.xor_lt_two_pow (n:=32) hs (by unfold Crc.ones;omega)
 go_enter Tryz.func280,Tryz.ntmps280
 go_wp2
 go_loop [0,5,10] (fun x _ i=>∃ k:Nat,k≤t.size∧i=.int .i64 k∧x=.int .u32 (Crc.crc (s ^^^ Crc.ones) (t.data.toList.take k))) (fun _ _ i=>t.size-(intOf i).toNat)
 case atStart=>exact⟨0,Nat.zero_le _,rfl,rfl⟩
 case round =>
  obtain⟨k,hk,rfl,rfl⟩:=hrel
  have hm:=Crc.Cm (s ^^^ Crc.ones) (t.data.toList.take k) hlt0
  have HK:Hid (¬k<t.size→Crc.crc (s ^^^ Crc.ones) (t.data.toList.take k) ^^^ Crc.ones=Crc.more s t.data.toList):=by
   intro h
   rw[List.take_of_length_le (by simp;omega)];rfl
  by_cases hlt:k<t.size
  ·have HS:Hid (Crc.crc (s ^^^ Crc.ones) (t.data.toList.take (k+1))=Crc.byt (Crc.crc (s ^^^ Crc.ones) (t.data.toList.take k)) t[k]):=by
    have e:t.data.toList.take (k+1)=t.data.toList.take k++[t[k]]:=by
     rw[List.take_succ_eq_append_getElem (by simpa using hlt)];rfl
    rw[e,Crc.CX];rfl
   generalize Crc.crc (s ^^^ Crc.ones) (t.data.toList.take k)=m at HS HK hm ⊢
   go_wp2_with (go_at_call 289;refine(TY _ _ _ hm).mono ?_;rintro e w' ⟨rfl,rfl⟩)
   go_round
   case rel=>exact⟨k+1,by omega,by go_num,sD (by rw[HS.out])⟩
   case measure=>simp[intOf];omega
  ·generalize Crc.crc (s ^^^ Crc.ones) (t.data.toList.take k)=m at HK hm ⊢
   go_wp2
   go_ret
   exact⟨vM (by rw[← HK.out hlt];exact u32_xor_nat m 4294967295 hm (by omega)),rfl⟩
def flat(ls:List ByteArray):List UInt8:=(ls.map fun s=>s.data.toList).flatten
theorem Jb(ls:List ByteArray)(s:ByteArray):flat (ls++[s])=flat ls++s.data.toList:=by
 simp[flat]
theorem Qu(ls:List ByteArray)(k:Nat)(h:k<ls.length):ls.take (k+1)=ls.take k++[ls.getD k ByteArray.empty]:=by
 rw[List.take_succ_eq_append_getElem h]
 simp[List.getD,List.getElem?_eq_getElem h]
theorem OX(ls:List ByteArray)(b off cap:Nat)(w:World)(hn:ls.length≤9223372036854775806)(hl:∀ k,k<ls.length→(ls.getD k ByteArray.empty).size≤maxLen)
  (hc:∀ k,k<ls.length→w.cell? ⟨b,off+k,none⟩=some (.string (ls.getD k ByteArray.empty))) :
  Calls Tryz.prog 264 #[.slice (some ⟨b,off,none⟩) ls.length cap] w fun e w'=>e=.returned (.int .u32 (Crc.total (flat ls)))∧w'=w:=by
 go_enter Tryz.func264,Tryz.ntmps264
 go_wp2
 go_loop [3,5,8] (fun x _ i=>∃ k:Nat,k≤ls.length∧i=.int .i64 k∧x=.int .u32 (Crc.total (flat (ls.take k)))) (fun _ _ i=>ls.length-(intOf i).toNat)
 case atStart=>exact⟨0,Nat.zero_le _,rfl,by simp[flat,Crc.La]⟩
 case round =>
  obtain⟨k,hk,rfl,rfl⟩:=hrel
  have hm:=Crc.yL (flat (ls.take k))
  have HK:Hid (¬k<ls.length→Crc.total (flat (ls.take k))=Crc.total (flat ls)):=by
   intro h
   rw[List.take_of_length_le (by omega)]
  by_cases hlt:k<ls.length
  ·have HS:Hid (Crc.total (flat (ls.take (k+1)))=Crc.more (Crc.total (flat (ls.take k))) (ls.getD k ByteArray.empty).data.toList):=by
    unfold Hid;rw[Qu ls k hlt,Jb,Crc.Ku]
   have hcell:=hc k hlt
   have hsz:=hl k hlt
   generalize Crc.total (flat (ls.take k))=m at HS HK hm ⊢
   generalize ls.getD k ByteArray.empty=s at HS hcell hsz
   clear hc hl
   go_wp2_with (go_at_call 280;refine(Sj _ _ _ hm hsz).mono ?_;rintro e w' ⟨rfl,rfl⟩)
   go_round
   case rel=>exact⟨k+1,by omega,by go_num,sD (by rw[HS.out])⟩
   case measure=>simp[intOf];omega
  ·generalize Crc.total (flat (ls.take k))=m at HK hm ⊢
   clear hc hl
   go_wp2
   go_ret
   exact⟨vM (by rw[← HK.out hlt]),rfl⟩
theorem Hu(s:ByteArray)(b cap:Nat)(w:World)(hs:s.size≤maxLen)(hc:w.cell? ⟨b,0,none⟩=some (.string s)) :
  Calls Tryz.prog 264 #[.slice (some ⟨b,0,none⟩) 1 cap] w fun e w'=>e=.returned (.int .u32 (Crc.total s.data.toList))∧w'=w:=by
 have:=OX [s] b 0 cap w (by simp) (fun k hk=>by
  have:k=0:=by simpa using hk
  subst this;exact hs) (fun k hk=>by
  have:k=0:=by simpa using hk
  subst this;exact hc)
 have e:flat [s]=s.data.toList:=by simp[flat]
 rw[e] at this
 exact this
theorem Dt(m c j:Nat)(hm:m<4294967296)(hc:c<256):bits .xor .u32 (bits .and .u32 (m:Int) 1) (bits .and .u32 ((c:Int) / 2 ^ j % 4294967296) 1)=(((m % 2) ^^^ (c / 2 ^ j % 2):Nat):Int):=by
 have h1:bits .and .u32 (m:Int) 1=((m % 2:Nat):Int):=by
  have:=u32_and_nat m 1 hm (by omega)
  rw[nat_mask1] at this;exact this
 have hcj:c / 2 ^ j≤c:=Nat.div_le_self _ _
 have e:((c:Int) / 2 ^ j % 4294967296)=((c / 2 ^ j:Nat):Int):=by
  have:(c:Int) / 2 ^ j=((c / 2 ^ j:Nat):Int):=by simp
  rw[this]
  generalize c / 2 ^ j=q at hcj
  omega
 have h2:bits .and .u32 ((c:Int) / 2 ^ j % 4294967296) 1=((c / 2 ^ j % 2:Nat):Int):=by
  rw[e]
  have:=u32_and_nat (c / 2 ^ j) 1 (by omega) (by omega)
  rw[nat_mask1] at this;exact this
 rw[h1,h2]
 exact u32_xor_nat _ _ (by omega) (by omega)
theorem UZ(m c j:Nat)(hm:m<4294967296)(hc:c<256)
  (e:(bits .xor .u32 (bits .and .u32 (m:Int) 1) (bits .and .u32 ((c:Int) / 2 ^ j % 4294967296) 1)==1)=true) :
  bits .xor .u32 ((m:Int) / 2) 3988292384=(Crc.stp (m ^^^ (c / 2 ^ j % 2)):Int):=by
 rw[Dt m c j hm hc] at e
 have e1:(m % 2) ^^^ (c / 2 ^ j % 2)=1:=by have:=beq_iff_eq.1 e;omega
 rw[Crc.FM _ _ (by omega),if_pos e1,u32_xor _ _ (by omega) (by omega) (by omega) (by omega)]
 congr 2
theorem OU(m c j:Nat)(hm:m<4294967296)(hc:c<256)
  (e:(bits .xor .u32 (bits .and .u32 (m:Int) 1) (bits .and .u32 ((c:Int) / 2 ^ j % 4294967296) 1)==1)=false) :
  (m:Int) / 2=(Crc.stp (m ^^^ (c / 2 ^ j % 2)):Int):=by
 rw[Dt m c j hm hc] at e
 have e1:¬(m % 2) ^^^ (c / 2 ^ j % 2)=1:=by have:=beq_eq_false_iff_ne.1 e;omega
 rw[Crc.FM _ _ (by omega),if_neg e1]
 omega
theorem Nb(t:ByteArray)(w:World)(ht:t.size≤1000000) :
  Calls Tryz.prog 266 #[.string t] w fun e w'=>e=.returned (.int .u32 (Crc.total t.data.toList))∧w'=w:=by
 go_enter Tryz.func266,Tryz.ntmps266
 go_wp2
 go_loop [3,4] (fun x i=>∃ k:Nat,k≤8*t.size∧i=.int .i64 k∧x=.int .u32 (Crc.bitwise (Crc.num t.data.toList) k)) (fun _ i=>8*t.size-(intOf i).toNat)
 case atStart=>exact⟨0,Nat.zero_le _,rfl,by rw[Crc.BX];rfl⟩
 case round =>
  obtain⟨k,hk,rfl,rfl⟩:=hrel
  have hm:=Crc.Jy (Crc.num t.data.toList) k
  by_cases hlt:k<8*t.size
  ·have HS:Hid (Crc.bitwise (Crc.num t.data.toList) (k+1)=Crc.stp (Crc.bitwise (Crc.num t.data.toList) k ^^^ ((t[k / 8]'(by omega)).toNat / 2 ^ (k % 8) % 2))):=by
    unfold Hid;rw[Crc.Hz,Crc.PW _ k (by simpa using hlt)];rfl
   generalize Crc.bitwise (Crc.num t.data.toList) k=m at HS hm ⊢
   have hcb:=(t[k / 8]'(by omega)).toNat_lt
   go_wp2
   ·go_round
    case rel=>exact⟨k+1,by omega,by go_num,sD (by rw[HS.out];exact UZ m _ _ hm hcb (by assumption))⟩
    case measure=>simp[intOf];omega
   ·go_round
    case rel=>exact⟨k+1,by omega,by go_num,sD (by rw[HS.out];exact OU m _ _ hm hcb (by assumption))⟩
    case measure=>simp[intOf];omega
  ·have HK:Hid (Crc.bitwise (Crc.num t.data.toList) k ^^^ Crc.ones=Crc.total t.data.toList):=by
    have h8:k=8*t.data.toList.length:=by simp;omega
    unfold Hid
    rw[h8,Crc.SX];rfl
   generalize Crc.bitwise (Crc.num t.data.toList) k=m at HK hm ⊢
   go_wp2
   go_ret
   exact⟨vM (by rw[← HK.out];exact u32_xor_nat m 4294967295 hm (by omega)),rfl⟩
def zq(s:Nat):List Int:=[(s:Int) % 256,(s:Int) / 256 % 256,(s:Int) / 65536 % 256,(s:Int) / 16777216]
def four(s:Nat):ByteArray:=strOfNums (zq s)
theorem cells4(w:World)(x0 x1 x2 x3:Int)(i:Nat)(h:i<4) :
  (w.alloc (.cells #[.int .u8 x0,.int .u8 x1,.int .u8 x2,.int .u8 x3] 5)).cell? ⟨w.heap.size,0+i,none⟩=some (.int .u8 ([x0,x1,x2,x3].getD i 0)):=by
 match i,h with
 | 0,_=>simp[go_sem]
 | 1,_=>simp[go_sem]
 | 2,_=>simp[go_sem]
 | 3,_=>simp[go_sem]
theorem DL(s:Nat)(w:World)(hs:s<4294967296) :
  Calls Tryz.prog 263 #[.int .u32 s] w fun e w'=>e=.returned (.string (four s))∧Below w.heap.size w w':=by
 have hcv:=run_convert_bytes_arg (P:=Tryz.prog) (w.alloc (.cells #[.int .u8 ((s:Int) % 256),.int .u8 ((s:Int) / 256 % 256),.int .u8 ((s:Int) / 65536 % 256),.int .u8 ((s:Int) / 16777216)] 5)) 206 5 Tryz.underlying206 Tryz.underlying5 w.heap.size 0 4 4 (zq s) rfl (cells4 w _ _ _ _) 9 Tryz.underlying9
 go_enter Tryz.func263,Tryz.ntmps263
 go_wp2
 go_ret
 exact⟨rfl,(Below.refl _ _).alloc (Nat.le_refl _) _⟩
def Texts(w:World)(la:Option Addr)(len:Nat)(ls:List ByteArray):Prop :=
 ls.length=len∧∀ k,k<len→∃ b off,la=some ⟨b,off,none⟩∧w.cell? ⟨b,off+k,none⟩=some (.string (ls.getD k ByteArray.empty))∧(ls.getD k ByteArray.empty).size≤maxLen
theorem qZ{a b:Bool}(h:a=b):Ending.returned (.bool a)=.returned (.bool b):=by rw[h]
def erV(f:Int):Value:=if f=0 then .nilIface else .iface 127 (.int .i64 f)
def kC(l:List Int):List Int:=l++List.replicate (12-l.length) 0
def s12(l:List Int):ByteArray:=strOfNums (kC l)
def aU(l:List Int):ByteArray:=s12 l++four (Crc.total (s12 l).data.toList)
theorem yU(l:List Int)(h:l.length≤12):(kC l).length=12:=by
 unfold kC;rw[List.length_append,List.length_replicate];omega
theorem strOfNums_size(l:List Int):(strOfNums l).size=l.length:=by simp[strOfNums,ByteArray.size]
theorem vT(l:List Int)(h:l.length≤12):(s12 l).size=12:=by
 unfold s12;rw[strOfNums_size,yU l h]
theorem F8(s:Nat):(four s).size=4:=rfl
theorem xw(l:List Int)(h:l.length≤12):(aU l).size=16:=by
 unfold aU;rw[ByteArray.size_append,vT l h,F8]
def vI(s:ByteArray):Bool:=(four (Crc.total (s.extract 0 12).data.toList)).toList==(s.extract 12 s.size).toList
def dV(s:ByteArray):Int:=if s.size=16 then (if vI s=true then 0 else 3) else 1
def bAt(s:ByteArray)(i:Nat):Int:=((s.data.toList.getD i 0).toNat:Int)
theorem fH(s:ByteArray)(i:Nat):0≤bAt s i∧bAt s i<256:=by
 unfold bAt;have:=(s.data.toList.getD i 0).toNat_lt;omega
theorem oz(s:ByteArray)(i:Nat)(h:i<s.size):((s[i]'h).toNat:Int)=bAt s i:=by
 have hl:i<s.data.toList.length:=by simpa using h
 unfold bAt
 rw[List.getD_eq_getElem?_getD,List.getElem?_eq_getElem hl]
 rfl
structure HV where
 c:Int
 p:Int
 b:Int
def HV.ok(h:HV):Bool:=decide (1≤h.c∧h.c≤32∧0≤h.p∧h.p≤40 ∧ -1≤h.b∧h.b≤4)
def HV.cells(h:HV):Array Value := #[.int .i64 h.c,.int .i64 h.p,.int .i64 h.b]
def HV.zero:HV:=⟨0,0,0⟩
def HV.bytes(h:HV):List Int:=[83,89,h.c,h.p,h.b+1]
def HV.fault(h:HV):Int:=if h.ok=true then 0 else 1
def HV.text(h:HV):ByteArray:=if h.ok=true then aU h.bytes else ⟨#[]⟩
def kX(s:ByteArray):HV:=⟨bAt s 2,bAt s 3,bAt s 4-1⟩
def mG(s:ByteArray):Bool:=(kX s).ok&&((aU (kX s).bytes).toList==s.toList)
def iT(s:ByteArray):HV:=if dV s=0∧mG s=true then kX s else HV.zero
def gX(s:ByteArray):Int:=if dV s=0 then (if mG s=true then 0 else 2) else dV s
structure KV where
 r:Int
 k:Int
 f:Int
 a:Int
 u:Int
def KV.bound(d:KV):Bool:=decide (0≤d.r∧d.r≤4∧0≤d.k∧d.k≤3 ∧ -1≤d.f∧d.f≤4∧0≤d.a∧d.a≤1000∧0≤d.u∧d.u≤1000)
def KV.may(d:KV):Bool:=decide ((d.k=0∧d.f = -1∧d.a=0∧d.u=0)∨(d.k≠0∧d.f≠d.r∧(d.f ≠ -1∨d.k=2)))
def KV.fault(d:KV):Int:=if d.bound=true then (if d.may=true then 0 else 2) else 1
def KV.cells(d:KV):Array Value := #[.int .i64 d.r,.int .i64 d.k,.int .i64 d.f,.int .i64 d.a,.int .i64 d.u]
def KV.zero:KV:=⟨0,0,0,0,0⟩
def KV.bytes(d:KV):List Int:=[68,75,d.r,d.k,d.f+1,d.a % 256,d.a / 256,d.u % 256,d.u / 256]
def KV.text(d:KV):ByteArray:=if d.fault=0 then aU d.bytes else ⟨#[]⟩
def lu(s:ByteArray):KV:=⟨bAt s 2,bAt s 3,bAt s 4-1,bAt s 5+bAt s 6*256,bAt s 7+bAt s 8*256⟩
def mZ(s:ByteArray):Bool:=decide ((lu s).fault=0)&&((aU (lu s).bytes).toList==s.toList)
def jM(s:ByteArray):KV:=if dV s=0∧mZ s=true then lu s else KV.zero
def bK(s:ByteArray):Int:=if dV s=0 then (if mZ s=true then 0 else 2) else dV s
theorem nY(l:List Int)(i:Nat)(hi:i<l.length)(h12:l.length≤12)(h0:0≤l.getD i 0)(h1:l.getD i 0<256):bAt (aU l) i=l.getD i 0:=by
 have e:(aU l).data.toList=(s12 l).data.toList++(four (Crc.total (s12 l).data.toList)).data.toList:=by unfold aU;simp
 have e2:(s12 l).data.toList=(kC l).map fun n=>UInt8.ofNat n.toNat:=by unfold s12 strOfNums;simp
 have hp:i<(kC l).length:=by rw[yU l h12];omega
 unfold bAt
 rw[e,e2,List.getD_eq_getElem?_getD,List.getElem?_append_left (by simpa using hp),List.getElem?_map,List.getElem?_eq_getElem hp]
 have e3:(kC l)[i]=l.getD i 0:=by
  have e4:(kC l)[i]?=l[i]?:=by unfold kC;rw[List.getElem?_append_left hi]
  rw[List.getElem?_eq_getElem hp] at e4
  rw[List.getD_eq_getElem?_getD,← e4];rfl
 rw[e3]
 simp only[Option.map_some,Option.getD_some,UInt8.toNat_ofNat']
 omega
theorem Pv(a b:ByteArray)(n:Nat)(h:a.size=n):(a++b).extract 0 n=a:=by
 apply ByteArray.ext
 have hl:n=a.data.size:=h.symm
 rw[ByteArray.data_extract,ByteArray.data_append,hl,Array.extract_append_left,Array.extract_size]
theorem JM(a b:ByteArray)(n:Nat)(h:a.size=n):(a++b).extract n (a++b).size=b:=by
 apply ByteArray.ext
 have hl:n=a.data.size:=h.symm
 have hs:(a++b).size=a.data.size+b.data.size:=by rw[ByteArray.size_append];rfl
 rw[hs,ByteArray.data_extract,ByteArray.data_append,hl,Array.extract_append_right,Array.extract_size]
theorem Rq(l:List Int)(h:l.length≤12):vI (aU l)=true:=by
 unfold vI aU
 rw[Pv _ _ 12 (vT l h),JM _ _ 12 (vT l h)]
 exact beq_self_eq_true _
theorem BJ(l:List Int)(h:l.length≤12):dV (aU l)=0:=by
 unfold dV
 rw[if_pos (xw l h),if_pos (Rq l h)]
theorem Ue(h:HV)(hk:h.ok=true):kX (aU h.bytes)=h:=by
 have hb:=of_decide_eq_true hk
 obtain⟨c,p,b⟩:=h
 simp only at hb
 have e2:bAt (aU (HV.bytes ⟨c,p,b⟩)) 2=c:=nY (HV.bytes ⟨c,p,b⟩) 2 (by simp[HV.bytes]) (by simp[HV.bytes]) (by show 0≤c;omega) (by show c<256;omega)
 have e3:bAt (aU (HV.bytes ⟨c,p,b⟩)) 3=p:=nY (HV.bytes ⟨c,p,b⟩) 3 (by simp[HV.bytes]) (by simp[HV.bytes]) (by show 0≤p;omega) (by show p<256;omega)
 have e4:bAt (aU (HV.bytes ⟨c,p,b⟩)) 4=b+1:=nY (HV.bytes ⟨c,p,b⟩) 4 (by simp[HV.bytes]) (by simp[HV.bytes]) (by show 0≤b+1;omega) (by show b+1<256;omega)
 unfold kX
 rw[e2,e3,e4]
 congr 1;omega
theorem QU(h:HV)(hk:h.ok=true):iT (aU h.bytes)=h∧gX (aU h.bytes)=0:=by
 have e:=Ue h hk
 have hs:dV (aU h.bytes)=0:=BJ _ (by simp[HV.bytes])
 have hg:mG (aU h.bytes)=true:=by unfold mG;rw[e,hk];simp
 unfold iT gX
 rw[if_pos ⟨hs,hg⟩,if_pos hs,if_pos hg]
 exact⟨e,rfl⟩
theorem KV.sW{d : KV}(h : d.fault = 0) : d.bound = true ∧ d.may = true := by
  unfold KV.fault at h
  split at h
  · next hb => split at h
               · next hm => exact ⟨hb, hm⟩
               · omega
  · omega
theorem RH(d:KV)(hk:d.fault=0):lu (aU d.bytes)=d:=by
 have hb:=of_decide_eq_true (KV.sW hk).1
 obtain⟨r,k,f,a,u⟩:=d
 simp only at hb
 have l9:(KV.bytes ⟨r,k,f,a,u⟩).length=9:=rfl
 have e2:bAt (aU (KV.bytes ⟨r,k,f,a,u⟩)) 2=r:=nY (KV.bytes ⟨r,k,f,a,u⟩) 2 (by omega) (by omega) (by show 0≤r;omega) (by show r<256;omega)
 have e3:bAt (aU (KV.bytes ⟨r,k,f,a,u⟩)) 3=k:=nY (KV.bytes ⟨r,k,f,a,u⟩) 3 (by omega) (by omega) (by show 0≤k;omega) (by show k<256;omega)
 have e4:bAt (aU (KV.bytes ⟨r,k,f,a,u⟩)) 4=f+1:=nY (KV.bytes ⟨r,k,f,a,u⟩) 4 (by omega) (by omega) (by show 0≤f+1;omega) (by show f+1<256;omega)
 have e5:bAt (aU (KV.bytes ⟨r,k,f,a,u⟩)) 5=a % 256:=nY (KV.bytes ⟨r,k,f,a,u⟩) 5 (by omega) (by omega) (by show 0≤a % 256;omega) (by show a % 256<256;omega)
 have e6:bAt (aU (KV.bytes ⟨r,k,f,a,u⟩)) 6=a / 256:=nY (KV.bytes ⟨r,k,f,a,u⟩) 6 (by omega) (by omega) (by show 0≤a / 256;omega) (by show a / 256<256;omega)
 have e7:bAt (aU (KV.bytes ⟨r,k,f,a,u⟩)) 7=u % 256:=nY (KV.bytes ⟨r,k,f,a,u⟩) 7 (by omega) (by omega) (by show 0≤u % 256;omega) (by show u % 256<256;omega)
 have e8:bAt (aU (KV.bytes ⟨r,k,f,a,u⟩)) 8=u / 256:=nY (KV.bytes ⟨r,k,f,a,u⟩) 8 (by omega) (by omega) (by show 0≤u / 256;omega) (by show u / 256<256;omega)
 unfold lu
 rw[e2,e3,e4,e5,e6,e7,e8]
 congr 1<;>omega
theorem MK(d:KV)(hk:d.fault=0):jM (aU d.bytes)=d∧bK (aU d.bytes)=0:=by
 have e:=RH d hk
 have hs:dV (aU d.bytes)=0:=BJ _ (by simp[KV.bytes])
 have hg:mZ (aU d.bytes)=true:=by unfold mZ;rw[e,decide_eq_true hk];simp
 unfold jM bK
 rw[if_pos ⟨hs,hg⟩,if_pos hs,if_pos hg]
 exact⟨e,rfl⟩
end Go.Proofs.YtonhoahnieoebabGreatDoor
