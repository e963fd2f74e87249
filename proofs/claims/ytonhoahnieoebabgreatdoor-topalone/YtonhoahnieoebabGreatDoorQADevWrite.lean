/- Flush, Crash, Bytes and Copy of a device: what each gives, and what the device is behind it. -/
import Derived.Test.YtonhoahnieoebabGreatDoorQADevNew
import Derived.Deep.RegionHeld3
import Derived.Deep.DrawnRows
import Derived.Deep.AppendSrc
import Derived.Deep.WholeRow
import Derived.Deep.RegionLaw
set_option maxHeartbeats 400000
set_option maxRecDepth 100000
namespace Go.Proofs.YtonhoahnieoebabGreatDoor
open Go.RowKit
attribute [local go_sem ↓] Go.wp_at_zero Go.wp_at_succ
theorem QN(w:World)(g1 g2:Nat)(n c1 c2:Nat)(cur:Array Value)(t:TypeId)(xs:List Value)(hg:w.heap[g1]?=some (.cells cur t (0,0)))(hx:xs.length=n*16)(hfit:n*16≤cur.size)
  (hsrc:∀ j u,xs[j]?=some u→w.cell? ((⟨g2,0,none⟩:Addr).add j)=some u) (h1:∀ u∈xs,u.oneCell'=true) :
  (Builtin.copy_ #[208,208] 3 #[.slice (some ⟨g1,0,none⟩) n c1,.slice (some ⟨g2,0,none⟩) n c2]).run Tryz.prog w=.ok (.int .i64 (n:Int)) (w.setRow g1 (xs++cur.toList.drop (n*16)).toArray):=by
 have hst:=run_storeCells_at (P:=Tryz.prog) g1 0 t xs 0 cur w hg (by simp[hx];omega) h1
 have hsz:∀ w:World,(sizeOf 261).run Tryz.prog w=.ok 16 w:=fun _=>by kernel_rfl
 have hfc:=run_firstCells_some (P:=Tryz.prog) w 16 n ⟨g2,0,none⟩ n c2 xs hx hsrc;simp[Builtin.copy_,run_underlying Tryz.underlying208,Builtin.lenOf,hsz,hfc,hst,goInt,hx]
theorem Kept.setRow{S:Nat→Prop}{a w:World}(h:Kept S a w){g:Nat}(hp:S g∨a.heap.size≤g)(cs:Array Value):Kept S a (w.setRow g cs) :=
 ⟨h.os,h.tape,h.output,by simpa [World.setRow] using h.size,fun k hk hs=>(setRow_other w g k cs (fun e=>by rcases hp with hp|hp;exact hs (e▸hp);omega)).trans (h.block k hk hs)⟩
theorem aH.Rf{B:Nat}{w:World}{h:Hd}{d:DV}(hd:aH B w h d)(l:List (List UInt8))(arr:Array Value)(hok:({ d with fl:=l }:DV).ok)(hlen:l.length=d.fl.length)(harr:arr.toList.take (l.length*16)=dw l)(hsz:arr.size=h.cf*16) :
  aH B (w.setRow h.bf arr) h { d with fl:=l }:=by
 obtain⟨a1,a2,a3,a4,a5⟩:=hd.apart;obtain⟨hbB,cf,hf2,hcf1,hcf2,hcf3,hcf4⟩:=gB hd.of;refine⟨hok,hd.pB,?_,?_,?_,dA hd.op (fun k e=>setRow_other _ _ _ _ (fun e2=>a4 (by rw[e,e2]))),hd.ne,hd.pn⟩
 ·show(w.setRow h.bf arr).heap[h.p]?=_
  rw[setRow_other _ _ _ _ (Ne.symm a1)];show _=some (Obj.cells #[.slice (some ⟨h.bf,0,none⟩) l.length h.cf,.slice (some ⟨h.bs,0,none⟩) l.length h.cs,h.v2,.int .i64 (d.wr:Int),.int .i64 d.fail] 264 (0,0))
  rw[hlen];exact hd.blk
 ·show(w.setRow h.bf arr).ownsRow B 261 16 (.slice (some ⟨h.bf,0,none⟩) l.length h.cf) l.length (dw l)
  exact⟨xM l hok.l1,.inr ⟨h.bf,h.cf,arr,rfl,hbB,setRow_heap w h.bf cf arr _ _ hf2,by omega,hcf2,hsz,harr⟩⟩
 ·show(w.setRow h.bf arr).ownsRow B 261 16 (.slice (some ⟨h.bs,0,none⟩) l.length h.cs) l.length (dw d.seen)
  rw[hlen]
  exact dA hd.os (fun k e=>setRow_other _ _ _ _ (by
   have:h.bs=k:=by simpa [Value.ownBlock] using e
   rw[← this];exact Ne.symm hd.ne))
theorem aH.drew{B:Nat}{w:World}{h:Hd}{d:DV}(hd:aH B w h d):aH B w.drew h d:=hd.keep fun _ _=>rfl
def DV.flushed(d:DV):DV:={ d with fl:=d.seen,pend:=[] }
theorem DV.ok.flushed{d:DV}(h:d.ok):d.flushed.ok :=
 ⟨by show 1≤d.seen.length;rw[h.same];exact h.n1,by show d.seen.length≤200;rw[h.same];exact h.n2,rfl,h.l2,h.l2,(fun x hx=>by cases hx),Nat.zero_le _,h.few2,h.f1,h.f2⟩
theorem DV.ok.over{d:DV}(h:d.ok):({ d with fl:=d.seen }:DV).ok :=
 ⟨by show 1≤d.seen.length;rw[h.same];exact h.n1,by show d.seen.length≤200;rw[h.same];exact h.n2,rfl,h.l2,h.l2,(fun x hx=>by show x.1<d.seen.length∧_;rw[h.same];exact h.l3 x hx),h.few,h.few2,h.f1,h.f2⟩
theorem flush_any{B:Nat}{h:Hd}{d:DV}(w:World)(hd:aH B w h d) :
  Calls Tryz.prog 215 #[.pointer (some ⟨h.p,0,none⟩)] w fun e w'=>e=.returned (.tuple #[])∧aH B w' { h with v2:=.slice none 0 0 } d.flushed∧Kept (fun k=>k=h.p∨k=h.bf) w w':=by
 obtain⟨c0,c1,c2,c3,c4,fz⟩:=hd.cells;have fz2:=fz 2;obtain⟨hbB,cf,hf2,hcf1,hcf2,hcf3,hcf4⟩:=gB hd.of;have hsn:=zO hd.os;have hxl:(dw d.seen).length=d.fl.length*16:=by rw[xM _ hd.ok.l2,hd.ok.same]
 have hcp:∀ W:World,W.heap=w.heap→(Builtin.copy_ #[208,208] 3 #[.slice (some ⟨h.bf,0,none⟩) d.fl.length h.cf,.slice (some ⟨h.bs,0,none⟩) d.fl.length h.cs]).run Tryz.prog W=.ok (.int .i64 (d.fl.length:Int)) (W.setRow h.bf (dw d.seen++cf.toList.drop (d.fl.length*16)).toArray):=fun W hW =>
  QN W h.bf h.bs d.fl.length h.cf h.cs cf 261 (dw d.seen) (by rw[hW];exact hf2) hxl (by rw[hcf3];omega) (fun j u hj=>by
   have:=hsn j u hj
   rw[World.cell?_of_block (w:=w) (by rw[hW])];exact this) (Fb _)
 have hcpd:=hcp w.drew rfl
 have HD2:Hid (aH B (w.drew.setRow h.bf (dw d.seen++cf.toList.drop (d.fl.length*16)).toArray) h { d with fl:=d.seen }) :=
  hd.drew.Rf d.seen _ hd.ok.over hd.ok.same (by
   show(dw d.seen++cf.toList.drop (d.fl.length*16)).take (d.seen.length*16)=dw d.seen
   rw[hd.ok.same,← hxl];simp) (by simp[hxl,hcf3];omega)
 have HK:Hid (Kept (fun k=>k=h.p∨k=h.bf) w (w.drew.setRow h.bf (dw d.seen++cf.toList.drop (d.fl.length*16)).toArray)):=(Kept.refl _ w).drew.setRow (.inl (.inr rfl)) _
 obtain⟨_,_,c2',_,_,fz'⟩:=HD2.out.cells;have fz2':=fz' 2;have HOK:Hid (d.flushed.ok):=hd.ok.flushed;clear hd fz hcp hsn hcf4 hxl hf2 fz';generalize (dw d.seen++cf.toList.drop (d.fl.length*16)).toArray=arr at hcpd HD2 HK c2' fz2';go_enter Tryz.func215,Tryz.ntmps215
 go_wp2
 go_region
 generalize w.drew.setRow h.bf arr=W at HD2 HK c2' fz2' ⊢;clear c0 c1 c2 c3 c4 fz2 hcpd;go_wp2
 go_end0
 exact⟨rfl,HD2.out.FB (d':=d.flushed) (.slice none 0 0) 2 (.slice none 0 0) HOK.out rfl rfl rfl (World.ownsRow_nil _ _ _ _) (fun _=>rfl),HK.out.setCell (.inl (.inl rfl)) _⟩
theorem heap_setCells_other(b k:Nat)(hk:k≠b):∀(vs:List Value) (o:Nat) (w:World),(w.setCells b o vs).heap[k]?=w.heap[k]?
 | [],_,_=>rfl
 | v::r,o,w=>by
  show((w.setCell ⟨b,o,none⟩ v).setCells b (o+1) r).heap[k]?=_
  rw[heap_setCells_other b k hk r];exact heap_setCell_other w ⟨b,o,none⟩ k v hk
theorem size_setCells(b:Nat):∀(vs:List Value) (o:Nat) (w:World),(w.setCells b o vs).heap.size=w.heap.size
 | [],_,_=>rfl
 | v::r,o,w=>by
  show((w.setCell ⟨b,o,none⟩ v).setCells b (o+1) r).heap.size=_
  rw[size_setCells b r];simp[World.setCell]
theorem CY(b:Nat):∀(vs:List Value) (o:Nat) (w:World),(w.setCells b o vs).os=w.os∧(w.setCells b o vs).tape=w.tape∧(w.setCells b o vs).output=w.output
 | [],_,_=>⟨rfl,rfl,rfl⟩
 | v::r,o,w=>by
  show((w.setCell ⟨b,o,none⟩ v).setCells b (o+1) r).os=_∧_∧_
  exact CY b r (o+1) (w.setCell ⟨b,o,none⟩ v)
theorem Kept.setCells{S:Nat→Prop}{a w:World}(h:Kept S a w){b:Nat}(hp:S b∨a.heap.size≤b)(o:Nat)(vs:List Value):Kept S a (w.setCells b o vs):=by
 obtain⟨f1,f2,f3⟩:=CY b vs o w;exact⟨f1.trans h.os,f2.trans h.tape,f3.trans h.output,by rw[size_setCells];exact h.size,fun k hk hs=>(heap_setCells_other b k (fun e=>by rcases hp with hp|hp;exact hs (e▸hp);omega) vs o w).trans (h.block k hk hs)⟩
theorem SY(w:World)(c:Array Value)(t:TypeId)(n:Nat)(h:c.size=n):(w.alloc (.cells c t)).there w.heap.size 0 n:=by
 intro j hj;rw[Nat.zero_add,cell_of_row _ _ _ _ _ _ (heap_alloc_new w _),frozen_of_row _ _ _ _ _ (heap_alloc_new w _)];exact⟨by simp;omega,rfl⟩
theorem Dz:(Tryz.prog.info? 5).map (fun i=>(i.zero,i.size,i.bytes))=some (some (.int .u8 0),1,1):=by kernel_rfl
theorem Ry:(Tryz.prog.info? 261).map (·.size)=some 16:=by kernel_rfl
theorem Fj(w:World)(g o:Nat)(vs:List Value)(cur:Array Value)(t:TypeId)(hg:w.heap[g]?=some (.cells cur t (0,0)))(hfit:o+vs.length≤cur.size)(h1:∀ v∈vs,v.oneCell'=true) :
  w.setCells g o vs=w.setRow g (cur.toList.take o++vs++cur.toList.drop (o+vs.length)).toArray:=by
 have a:=run_storeCells_at (P:=Tryz.prog) g o t vs 0 cur w hg (by omega) h1
 have b:=run_storeCells_cells (P:=Tryz.prog) g o vs 0 w (fun j hj=>by rw[Nat.add_zero,cell_of_row _ _ _ _ _ _ hg];simp;omega) (fun j _=>frozen_of_row _ _ _ _ _ hg) h1
 rw[a] at b;simp only[Nat.add_zero] at b
 injection b with _ b
 exact b.symm
theorem QZ(l:List (List UInt8))(i:Nat)(s:List UInt8)(hl:∀ x∈l,x.length=16)(hi:i<l.length) :
  dw (l.set i s)=(dw l).take (i*16)++cO s++(dw l).drop (i*16+16):=by
 induction l generalizing i with
 | nil=>simp at hi
 | cons x l ih =>
  have hx:=hl x (by simp)
  have hxl:(cO x).length=16:=by rw[ql,hx]
  have e:∀ y:List UInt8,∀ r,dw (y::r)=cO y++dw r:=fun y r=>by simp[dw]
  cases i with
  | zero =>
   rw[List.set_cons_zero,e,e];simp only[Nat.zero_mul,Nat.zero_add,List.take_zero,List.nil_append];rw[show(16:Nat)=(cO x).length by omega,List.drop_left]
  | succ i =>
   have h2:=ih i (fun y hy=>hl y (by simp[hy])) (by simpa using hi)
   rw[List.set_cons_succ,e,e,h2];rw[show(i+1)*16=(cO x).length+i*16 by omega,show(cO x).length+i*16+16=(cO x).length+(i*16+16) by omega]
   rw[List.take_append,List.drop_append];rw[List.take_of_length_le (show(cO x).length≤(cO x).length+i*16 by omega),List.drop_of_length_le (show(cO x).length≤(cO x).length+(i*16+16) by omega)]
   simp[List.append_assoc]
theorem Po{w:World}{B g n cap:Nat}{l:List (List UInt8)}(ho:w.ownsRow B 261 16 (.slice (some ⟨g,0,none⟩) n cap) n (dw l))(hn:l.length=n)(hl:∀ x∈l,x.length=16)(i:Nat)(s:List UInt8)(hs:s.length=16)(hi:i<n) :
  (w.setCells g (i*16) (cO s)).ownsRow B 261 16 (.slice (some ⟨g,0,none⟩) n cap) n (dw (l.set i s)):=by
 subst hn;obtain⟨hB,cur,hh,h1,h2,h3,h4⟩:=gB ho;have hsl:(cO s).length=16:=by rw[ql,hs]
 have hsz:cur.toList.length=cap*16:=by simpa using h3
 rw[Fj w g (i*16) (cO s) cur _ hh (by omega) (uQ _)]
 have hset:∀ x∈l.set i s,x.length=16:=fun x hx=>by
  rcases List.mem_or_eq_of_mem_set hx with h|h
  ·exact hl x h
  ·rw[h];exact hs
 refine⟨by rw[xM _ hset,List.length_set],.inr ⟨g,cap,_,rfl,hB,setRow_heap w g cur _ _ _ hh,h1,h2,?_,?_⟩⟩
 ·simp[hsl];omega
 ·rw[QZ l i s hl hi,hsl,← h4]
  show(cur.toList.take (i*16)++cO s++cur.toList.drop (i*16+16)).take (l.length*16)=_
  rw[List.take_append,List.take_append,List.take_take,List.take_take,List.drop_take];simp only[List.length_append,List.length_take,hsl,hsz];rw[show min (i*16) (cap*16)=i*16 by omega,show min (l.length*16) (i*16)=i*16 by omega,List.take_of_length_le (show(cO s).length≤l.length*16-i*16 by omega),show l.length*16-(i*16+16)=l.length*16-(i*16+16) from rfl]
  rw[show min (i*16) (l.length*16)=i*16 by omega]
def zA(pend:List (Nat × List UInt8))(ks:List Bool)(l:List (List UInt8)):Nat→List (List UInt8)
 | 0=>l
 | k+1=>if ks.getD k false then (zA pend ks l k).set (pend.getD k (0,[])).1 (pend.getD k (0,[])).2 else zA pend ks l k
def Bools(w:World)(ka:Option Addr)(kl:Nat)(ks:List Bool):Prop :=
 ks.length=kl∧∀ j,j<kl→∃ b off,ka=some ⟨b,off,none⟩∧w.cell? ⟨b,off+j,none⟩=some (.bool (ks.getD j false))
theorem Bools.below{w w':World}{la:Option Addr}{len:Nat}{ls:List Bool}(h:Bools w la len ls)(hb:Below w.heap.size w w'):Bools w' la len ls:=by
 refine⟨h.1,fun k hk=>?_⟩
 obtain⟨b,off,e,hc⟩:=h.2 k hk;exact⟨b,off,e,by rw[hb.cell (World.block_lt_of_cell? w _ hc)];exact hc⟩
theorem RF:(Tryz.prog.info? 266).map (·.size)=some 17:=by kernel_rfl
theorem TW{w:World}{b:Nat}{x:Nat × List UInt8}(h:w.rangeAt b 0 (wrV x)):w.cell? ⟨b,0,none⟩=some (.int .i64 (x.1:Int))∧w.rangeAt b 1 (cO x.2):=by
 refine⟨by simpa using h 0 (.int .i64 (x.1:Int)) rfl,fun j v hv=>?_⟩
 have:=h (j+1) v (by simpa [wrV] using hv)
 rw[show 1+j=0+(j+1) by omega];exact this
theorem IB(s:ByteArray):byteCells s=cO s.data.toList:=rfl
theorem QO(w:World)(g off:Nat)(s:ByteArray)(n cap:Nat)(cur:List Value)(t:TypeId)(hn:s.size=n)(hg:w.heap[g]?=some (.cells cur.toArray t (0,0)))(hfit:off+n≤cur.length) :
  (Builtin.copy_ #[206,9] 3 #[.slice (some ⟨g,off,none⟩) n cap,.string s]).run Tryz.prog w=.ok (.int .i64 (n:Int)) (w.setRow g (splice cur off (cO s.data.toList)).toArray):=by
 subst hn;have hlen:(cO s.data.toList).length=s.size:=by rw[ql];simp
 have hst:=run_storeCells_at (P:=Tryz.prog) g off t (cO s.data.toList) 0 cur.toArray w hg (by simp[hlen];omega) (uQ _)
 have hsz:∀ w:World,(sizeOf 5).run Tryz.prog w=.ok 1 w:=fun _=>by kernel_rfl
 have hfc:=firstCells_string (P:=Tryz.prog) s w;rw[IB] at hfc;simp[Builtin.copy_,run_underlying Tryz.underlying206,Builtin.lenOf,hsz,hfc,hst,goInt,splice]
theorem Ub{B:Nat}{h:Hd}{d:DV}(at_:Int)(s:ByteArray)(w:World)(hd:aH B w h d)(hs:s.size=16)(hn:d.has at_=true)(hf:d.fail=0) :
  Calls Tryz.prog 214 #[.pointer (some ⟨h.p,0,none⟩),.int .i64 at_,.string s] w fun e w'=>e=.returned (.iface 127 (.int .i64 7))∧aH B w' h (d.failing (-1))∧Kept h.fp w w':=by
 have HH:=zo at_ w hd;rw[hn] at HH;have HF:=KI w hd (by omega)
 rw[hf] at HF;have h16:((s.size:Int) != 16)=false:=by simp;omega
 clear hn hd hf;have HH1:Hid (Calls Tryz.prog 231 #[.pointer (some ⟨h.p,0,none⟩),.int .i64 at_] w fun e w'=>e=.returned (.bool true)∧w'=w):=HH
 have HF1:Hid (Calls Tryz.prog 259 #[.pointer (some ⟨h.p,0,none⟩)] w fun e w'=>e=.returned (.bool (decide ((0:Int)=0)))∧aH B w' h (d.failing (0-1))∧Kept h.fp w w'):=HF
 clear HH HF;go_enter Tryz.func214,Tryz.ntmps214
 go_wp2_with fail
 refine HH1.out.mono ?_;rintro e w' ⟨rfl,hw⟩;have hw':=hw.symm;subst hw';clear hw;go_wp2_with fail
 refine HF1.out.mono ?_;rintro e w1 ⟨rfl,hd1,hk1⟩;have HD1:Hid (aH B w1 h (d.failing (0-1))):=hd1;clear hd1;go_wp2
 go_ret
 exact⟨rfl,HD1.out,hk1⟩
theorem Jd(w1:World)(i:Nat)(s:ByteArray)(hs:s.size=16) :
    (Builtin.copy_ #[206,9] 3 #[.slice (some ⟨w1.heap.size,1,none⟩) 16 16,.string s]).run Tryz.prog (w1.alloc (.cells #[.int .i64 (i:Int),.int .u8 0,.int .u8 0,.int .u8 0,.int .u8 0,.int .u8 0,.int .u8 0,.int .u8 0,.int .u8 0,.int .u8 0,.int .u8 0,.int .u8 0,.int .u8 0,.int .u8 0,.int .u8 0,.int .u8 0,.int .u8 0] 266)) =
      .ok (.int .i64 16) (w1.alloc (.cells (wrV (i,s.data.toList)).toArray 266)):=by
  have:=QO (w1.alloc (.cells #[.int .i64 (i:Int),.int .u8 0,.int .u8 0,.int .u8 0,.int .u8 0,.int .u8 0,.int .u8 0,.int .u8 0,.int .u8 0,.int .u8 0,.int .u8 0,.int .u8 0,.int .u8 0,.int .u8 0,.int .u8 0,.int .u8 0,.int .u8 0] 266)) w1.heap.size 1 s 16 16 [.int .i64 (i:Int),.int .u8 0,.int .u8 0,.int .u8 0,.int .u8 0,.int .u8 0,.int .u8 0,.int .u8 0,.int .u8 0,.int .u8 0,.int .u8 0,.int .u8 0,.int .u8 0,.int .u8 0,.int .u8 0,.int .u8 0,.int .u8 0] 266 hs (heap_alloc_new w1 _) (by simp)
  rw[this,World.setRow_alloc_new];have hl:(cO s.data.toList).length=16:=by rw[ql];simpa using hs
  congr 4
  simp[splice,wrV,hl]
theorem Q7(w:World)(c:Array Value)(t:TypeId)(vs:List Value)(h:c.size=vs.length)(h1:∀ v∈vs,v.oneCell'=true):(w.alloc (.cells c t)).setCells w.heap.size 0 vs=w.alloc (.cells vs.toArray t):=by
 rw[Fj _ _ _ _ c t (heap_alloc_new w _) (by omega) h1,World.setRow_alloc_new]
 congr 3
 simp[← h]
def DV.wrote(d:DV)(i:Nat)(s:List UInt8):DV:={ d with seen:=d.seen.set i s,pend:=d.pend++[(i,s)],wr:=d.wr+1 }
theorem DV.ok.wrote{d:DV}(h:d.ok){i:Nat}{s:List UInt8}(hi:i<d.fl.length)(hs:s.length=16)(hw:d.wr<1000000000):(d.wrote i s).ok:=by
 refine⟨h.n1,h.n2,?_,h.l1,fun x hx=>?_,fun x hx=>?_,?_,?_,h.f1,h.f2⟩
 ·show(d.seen.set i s).length=_;rw[List.length_set];exact h.same
 ·rcases List.mem_or_eq_of_mem_set hx with q|q
  ·exact h.l2 x q
  ·rw[q];exact hs
 ·rcases List.mem_append.1 hx with q|q
  ·exact h.l3 x q
  ·have:x=(i,s):=by simpa using q
   subst this;exact⟨hi,hs⟩
 ·show(d.pend++[(i,s)]).length≤d.wr+1;rw[List.length_append];have:=h.few;simp;omega
 ·show d.wr+1≤_;omega
structure Mid(B:Nat)(w1 w3:World)(h:Hd)(d:DV)(i:Nat)(s:List UInt8)(v:Value):Prop where
 bp:w3.heap[h.p]?=some (.cells #[.slice (some ⟨h.bf,0,none⟩) d.fl.length h.cf,.slice (some ⟨h.bs,0,none⟩) d.fl.length h.cs,v,.int .i64 (d.wr:Int),.int .i64 d.fail] 264 (0,0))
 bf:w3.heap[h.bf]?=w1.heap[h.bf]?
 bs:w3.heap[h.bs]?=w1.heap[h.bs]?
 bn:w3.heap[w1.heap.size]?=some (.cells (wrV (i,s)).toArray 266 (0,0))
 ow:w3.ownsRow B 266 17 v (d.pend.length+1) (iZ (d.pend++[(i,s)]))
 at_:v.ownBlock=h.v2.ownBlock∨v.ownBlock=some (w1.heap.size+2)
 kept:Kept h.fp w1 w3
theorem Oe{B:Nat}{w1 w2:World}{h:Hd}{d:DV}(hd:aH B w1 h d)(i:Nat)(s:List UInt8)(g cap:Nat)
  (hown:w2.ownsRow B 266 17 (.slice (some ⟨g,0,none⟩) (d.pend.length+1) cap) (d.pend.length+1) (iZ d.pend++wrV (i,s)))
  (hgrow:(((w1.alloc (.cells (wrV (i,s)).toArray 266)).alloc (.cells (wrV (i,s)).toArray 266)).drew).grownBy w2 h.v2.ownBlock)
  (hat:h.v2.ownBlock=some g∨g=w1.heap.size+2):Mid B w1 (w2.setCell ⟨h.p,2,none⟩ (.slice (some ⟨g,0,none⟩) (d.pend.length+1) cap)) h d i s (.slice (some ⟨g,0,none⟩) (d.pend.length+1) cap):=by
 obtain⟨a1,a2,a3,a4,a5⟩:=hd.apart;have hlt:=hd.lt;have hpl:=(hlt h.p (.inl rfl)).2;have hfl:=(hlt h.bf (.inr (.inl rfl))).2;have hsl:=(hlt h.bs (.inr (.inr (.inl rfl)))).2
 have hW:∀ k,k<w1.heap.size→(((w1.alloc (.cells (wrV (i,s)).toArray 266)).alloc (.cells (wrV (i,s)).toArray 266)).drew).heap[k]?=w1.heap[k]?:=fun k hk=>by
  show((w1.alloc _).alloc _).heap[k]?=_
  rw[Below.heap_alloc _ _ _ (by simp;omega),Below.heap_alloc _ _ _ hk]
 have hsz:(((w1.alloc (.cells (wrV (i,s)).toArray 266)).alloc (.cells (wrV (i,s)).toArray 266)).drew).heap.size=w1.heap.size+2:=by
  show((w1.alloc _).alloc _).heap.size=_
  simp
 have hN:(((w1.alloc (.cells (wrV (i,s)).toArray 266)).alloc (.cells (wrV (i,s)).toArray 266)).drew).heap[w1.heap.size]?=some (.cells (wrV (i,s)).toArray 266 (0,0)):=heap_alloc2_old w1 _ _
 have h2:∀ k,k<w1.heap.size→h.v2.ownBlock≠some k→w2.heap[k]?=w1.heap[k]?:=fun k hk hne=>by
  rw[hgrow.block k (by omega) (Ne.symm hne),hW k hk]
 have hp2:w2.heap[h.p]?=_:=(h2 h.p hpl a3).trans hd.blk;obtain⟨hgB,curg,hhg,_⟩:=gB hown;have hgp:g≠h.p:=fun e=>by rw[e,hp2] at hhg;cases hhg
 have hown':iZ (d.pend++[(i,s)])=iZ d.pend++wrV (i,s):=by simp[iZ]
 refine⟨?_,?_,?_,?_,?_,?_,?_⟩
 ·rw[heap_setCell_same w2 h.p 2 _ _ _ hp2];rfl
 ·rw[heap_setCell_other _ _ _ _ a1];exact h2 _ hfl a4
 ·rw[heap_setCell_other _ _ _ _ a2];exact h2 _ hsl a5
 ·rw[heap_setCell_other _ _ _ _ (show w1.heap.size≠h.p by omega),hgrow.block w1.heap.size (by omega) (fun e=>by
   have:=(hlt w1.heap.size (.inr (.inr (.inr e.symm)))).2
   omega)]
  exact hN
 ·rw[hown']
  exact dA hown (fun k e=>by
   have:g=k:=by simpa [Value.ownBlock] using e
   subst this
   exact heap_setCell_other _ _ _ _ hgp)
 ·rcases hat with q|q
  ·left;rw[q];rfl
  ·right;rw[q];rfl
 ·refine⟨hgrow.os,hgrow.tape,hgrow.output,?_,fun k hk hs=>?_⟩
  ·have:=hgrow.size
   rw[hsz] at this;simp[World.setCell];omega
  ·rw[heap_setCell_other _ _ _ _ (fun e=>hs (.inl e)),h2 k hk (fun e=>hs (.inr (.inr (.inr e))))]
theorem Mid.reads{B:Nat}{w1 w3:World}{h:Hd}{d:DV}{i:Nat}{s:List UInt8}{v:Value}(m:Mid B w1 w3 h d i s v)(hd:aH B w1 h d)(hi:i<d.fl.length) :
  w3.cell? ⟨h.p,1,none⟩=some (.slice (some ⟨h.bs,0,none⟩) d.fl.length h.cs)∧w3.rangeAt w1.heap.size 1 (cO s)∧w3.there h.bs (i*16) 16:=by
 refine⟨by rw[cell_of_row _ _ _ _ _ _ m.bp];rfl,(TW (x:=(i,s)) (fun j v hv=>?_)).2,fun j hj=>?_⟩
 ·rw[Nat.zero_add,cell_of_row _ _ _ _ _ _ m.bn];simpa using hv
 ·obtain⟨_,cur,hh,h1,_,h3,_⟩:=gB hd.os
  rw[← m.bs] at hh;rw[cell_of_row _ _ _ _ _ _ hh,frozen_of_row _ _ _ _ _ hh];exact⟨by simp;omega,rfl⟩
theorem Mid.fin{B:Nat}{w1 w3 w4:World}{h:Hd}{d:DV}{i:Nat}{s:List UInt8}{v:Value}(m:Mid B w1 w3 h d i s v)(hd:aH B w1 h d)(hi:i<d.fl.length)(hs:s.length=16)(hw:d.wr<1000000000)
  (hh:w4.heap=w3.heap) (ho:w4.os=w3.os∧w4.tape=w3.tape∧w4.output=w3.output) :
  aH B ((w4.setCells h.bs (i*16) (cO s)).setCell ⟨h.p,3,none⟩ (.int .i64 ((d.wr:Int)+1))) { h with v2:=v } (d.wrote i s)∧Kept h.fp w1 ((w4.setCells h.bs (i*16) (cO s)).setCell ⟨h.p,3,none⟩ (.int .i64 ((d.wr:Int)+1))) ∧
   (w4.setCells h.bs (i*16) (cO s)).cell? ⟨h.p,3,none⟩=some (.int .i64 (d.wr:Int))∧(w4.setCells h.bs (i*16) (cO s)).frozen? ⟨h.p,3,none⟩=false:=by
 obtain⟨a1,a2,a3,a4,a5⟩:=hd.apart
 have hp5:(w4.setCells h.bs (i*16) (cO s)).heap[h.p]?=some (.cells #[.slice (some ⟨h.bf,0,none⟩) d.fl.length h.cf,.slice (some ⟨h.bs,0,none⟩) d.fl.length h.cs,v,.int .i64 (d.wr:Int),.int .i64 d.fail] 264 (0,0)):=by
  rw[heap_setCells_other _ _ (Ne.symm a2),hh];exact m.bp
 have ow4:w4.ownsRow B 266 17 v (d.pend.length+1) (iZ (d.pend++[(i,s)])):=dA m.ow (fun k _=>by rw[hh])
 have vne:∀ k,v.ownBlock=some k→∃ cur,w3.heap[k]?=some (.cells cur 266 (0,0)):=fun k e=>by
  rcases m.ow.2 with⟨q,_⟩|⟨g,cap,cur,q,_,hg,_⟩
  ·rw[q] at e;cases e
  ·rw[q] at e
   have:g=k:=by simpa [Value.ownBlock] using e
   subst this;exact⟨cur,hg⟩
 obtain⟨_,curs,hhs,_⟩:=gB hd.os;obtain⟨_,curf,hhf,_⟩:=gB hd.of
 have vbs:∀ k,v.ownBlock=some k→k≠h.bs:=fun k e q=>by
  obtain⟨cur,hc⟩:=vne k e;rw[q,m.bs,hhs] at hc;cases hc
 have vp:∀ k,v.ownBlock=some k→k≠h.p:=fun k e q=>by
  obtain⟨cur,hc⟩:=vne k e;rw[q,m.bp] at hc;cases hc
 have os4:w4.ownsRow B 261 16 (.slice (some ⟨h.bs,0,none⟩) d.fl.length h.cs) d.fl.length (dw d.seen):=dA hd.os (fun k e=>by
  have:h.bs=k:=by simpa [Value.ownBlock] using e
  subst this
  rw[hh];exact m.bs)
 have os5:=Po os4 hd.ok.same hd.ok.l2 i s hs hi;refine⟨⟨hd.ok.wrote hi hs hw,hd.pB,?_,?_,?_,?_,hd.ne,fun e=>by simp[DV.wrote] at e⟩,?_,by rw[cell_of_row _ _ _ _ _ _ hp5];rfl,frozen_of_row _ _ _ _ _ hp5⟩
 ·show((w4.setCells h.bs (i*16) (cO s)).setCell ⟨h.p,3,none⟩ (.int .i64 ((d.wr:Int)+1))).heap[h.p]?=some (.cells #[.slice (some ⟨h.bf,0,none⟩) d.fl.length h.cf,.slice (some ⟨h.bs,0,none⟩) d.fl.length h.cs,v,.int .i64 ((d.wr+1:Nat):Int),.int .i64 d.fail] 264 (0,0))
  rw[heap_setCell_same _ h.p 3 _ _ _ hp5];rfl
 ·show World.ownsRow _ B 261 16 (.slice (some ⟨h.bf,0,none⟩) d.fl.length h.cf) d.fl.length (dw d.fl)
  exact dA hd.of (fun k e=>by
   have:h.bf=k:=by simpa [Value.ownBlock] using e
   subst this
   rw[heap_setCell_other _ _ _ _ a1,heap_setCells_other _ _ hd.ne,hh];exact m.bf)
 ·show World.ownsRow _ B 261 16 (.slice (some ⟨h.bs,0,none⟩) d.fl.length h.cs) d.fl.length (dw (d.seen.set i s))
  exact dA os5 (fun k e=>by
   have:h.bs=k:=by simpa [Value.ownBlock] using e
   subst this
   exact heap_setCell_other _ _ _ _ a2)
 ·show World.ownsRow _ B 266 17 v (d.pend++[(i,s)]).length (iZ (d.pend++[(i,s)]))
  rw[List.length_append];exact dA ow4 (fun k e=>by rw[heap_setCell_other _ _ _ _ (vp k e),heap_setCells_other _ _ (vbs k e)])
 ·have k4:Kept h.fp w1 w4:=⟨ho.1.trans m.kept.os,ho.2.1.trans m.kept.tape,ho.2.2.trans m.kept.output,by rw[hh];exact m.kept.size,fun k hk q=>by rw[hh];exact m.kept.block k hk q⟩
  exact(k4.setCells (.inl (.inr (.inr (.inl rfl)))) _ _).setCell (.inl (.inl rfl)) _
theorem NR(cs:List Value)(h:cs.length=17):∃ x0 x1 x2 x3 x4 x5 x6 x7 x8 x9 x10 x11 x12 x13 x14 x15 x16,cs=[x0,x1,x2,x3,x4,x5,x6,x7,x8,x9,x10,x11,x12,x13,x14,x15,x16]:=by
 match cs,h with
 | [x0,x1,x2,x3,x4,x5,x6,x7,x8,x9,x10,x11,x12,x13,x14,x15,x16],_=>exact⟨_,_,_,_,_,_,_,_,_,_,_,_,_,_,_,_,_,rfl⟩
end Go.Proofs.YtonhoahnieoebabGreatDoor
