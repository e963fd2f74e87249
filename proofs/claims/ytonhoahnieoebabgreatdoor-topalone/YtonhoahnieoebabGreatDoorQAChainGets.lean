/- An image made anew, of whatever head: the program's, and the document's. -/
import Derived.Test.YtonhoahnieoebabGreatDoorQAImgCreate2
set_option maxHeartbeats 1000000
set_option maxRecDepth 100000
namespace Go.Proofs.YtonhoahnieoebabGreatDoor
open Go.RowKit Go.Maps
theorem Jf{d:DV}{h:HV}(hn:¬(h.ok=true∧aJ h≤d.fl.length)):crF d h=1:=by
 unfold crF;by_cases hk:h.ok=true
 ·rw[if_pos hk,if_pos (Nat.lt_of_not_le fun e=>hn ⟨hk,e⟩)]
 ·rw[if_neg hk]
theorem Cb{B:Gd}{m:Nat}{h:Hd}{d:DV}(c p b:Int)(w:World)(hd:bg B w h d)(hf:d.fine d.fl.length m)(hm:m+20<1000000000)(hB:B.top≤w.heap.size) :
  Calls Tryz.prog 60 #[.pointer (some ⟨h.p,0,none⟩),.agg #[.int .i64 c,.int .i64 p,.int .i64 b]] w fun e w' =>
   ∃ x:Ih,x.h.p=h.p∧w.heap.size≤x.tb∧aP B x.tb w w'∧((crF d ⟨c,p,b⟩=0∧e=.returned (.tuple #[.pointer (some ⟨x.p,0,none⟩),.nilIface])∧aC B w' x (crV d ⟨c,p,b⟩)∧HV.ok ⟨c,p,b⟩=true∧aJ ⟨c,p,b⟩≤d.fl.length) ∨
    (crF d ⟨c,p,b⟩≠0∧e=.returned (.tuple #[.pointer none,erV (crF d ⟨c,p,b⟩)])∧bg B w' x.h (kP d ⟨c,p,b⟩))):=by
 by_cases hn:HV.ok ⟨c,p,b⟩=true∧aJ ⟨c,p,b⟩≤d.fl.length
 ·have hb:=HV.fE hn.1
  simp only at hb;obtain⟨nc,rfl⟩:∃ nc:Nat,c=(nc:Int):=⟨c.toNat,by omega⟩
  refine(Jl nc p b w hd hf hm hB hn.1 hn.2).mono ?_;rintro e w' ⟨x,h1,h2,h3,h4|h4⟩
  ·exact⟨x,h1,h2,h3,.inl ⟨h4.1,h4.2.1,h4.2.2,hn.1,hn.2⟩⟩
  ·exact⟨x,h1,h2,h3,.inr h4⟩
 ·refine(Jk c p b w hd hn).mono ?_
  rintro e w' ⟨rfl,hb⟩;rw[Jf hn];refine⟨⟨0,h,w.heap.size,0,0⟩,rfl,Nat.le_refl _,aP.of_below hb,.inr ⟨by decide,by rw[dM],?_⟩⟩
  unfold kP;rw[if_neg hn];exact hd.keep fun k hf=>hb.block k (hd.lt k hf).2
theorem Kept.of4{S:Nat→Prop}{w w':World}(h:S4.Kept S w w'):Kept S w w':=⟨h.os,h.tape,h.output,h.size,h.block⟩
structure gW(w:World)(jp sp lp bp:Nat)(a:Option Addr)(cap:Nat)(j:JV):Prop where
 blk:w.heap[jp]?=some (.cells #[.pointer (some ⟨sp,6,none⟩),.slice a j.l.length cap,.int .i64 j.kind,.int .i64 j.file,.int .i64 j.stage,.pointer (some ⟨lp,0,none⟩),.pointer (some ⟨bp,0,none⟩),.int .i64 j.last] 150 (0,0))
 set:S4.fU w lp j.n j.x
 bkt:S4.Three 245 w bp j.rate j.burst j.lv
theorem gW.cells{w:World}{jp sp lp bp cap:Nat}{a:Option Addr}{j:JV}(h:gW w jp sp lp bp a cap j) :
  w.cell? ⟨jp,0,none⟩=some (.pointer (some ⟨sp,6,none⟩))∧w.cell? ⟨jp,1,none⟩=some (.slice a j.l.length cap)∧w.cell? ⟨jp,2,none⟩=some (.int .i64 j.kind)∧w.cell? ⟨jp,3,none⟩=some (.int .i64 j.file)∧w.cell? ⟨jp,4,none⟩=some (.int .i64 j.stage)∧w.cell? ⟨jp,5,none⟩=some (.pointer (some ⟨lp,0,none⟩))∧w.cell? ⟨jp,6,none⟩=some (.pointer (some ⟨bp,0,none⟩))∧w.cell? ⟨jp,7,none⟩=some (.int .i64 j.last)∧w.frozen? ⟨jp,4,none⟩=false∧w.frozen? ⟨jp,7,none⟩=false:=by
 have h':=h.blk;refine⟨?_,?_,?_,?_,?_,?_,?_,?_,?_,?_⟩<;>simp[World.cell?,World.frozen?,h']
theorem gW.ne{w:World}{jp sp lp bp cap:Nat}{a:Option Addr}{j:JV}(h:gW w jp sp lp bp a cap j):jp≠lp∧jp≠bp∧lp≠bp:=by
 have h1:w.heap[jp]?=_:=h.blk;have h2:w.heap[lp]?=_:=h.set;have h3:w.heap[bp]?=_:=h.bkt;refine⟨fun e=>?_,fun e=>?_,fun e=>?_⟩
 ·rw[e,h2] at h1;simp at h1
 ·rw[e,h3] at h1;simp at h1
 ·rw[e,h3] at h2;simp at h2
theorem gW.lts{w:World}{jp sp lp bp cap:Nat}{a:Option Addr}{j:JV}(h:gW w jp sp lp bp a cap j):jp<w.heap.size∧lp<w.heap.size∧bp<w.heap.size:=⟨lt_of_some h.blk,lt_of_some h.set,lt_of_some h.bkt⟩
theorem gW.keep{w w':World}{jp sp lp bp cap:Nat}{a:Option Addr}{j:JV}(h:gW w jp sp lp bp a cap j)(h1:w'.heap[jp]?=w.heap[jp]?)(h2:w'.heap[lp]?=w.heap[lp]?)(h3:w'.heap[bp]?=w.heap[bp]?):gW w' jp sp lp bp a cap j:=⟨h1.trans h.blk,h2.trans h.set,h3.trans h.bkt⟩
def fpP(xs:Nat→Ih)(s:SV)(jp lp bp:Nat)(k:Nat):Prop:=fpS xs s k∨k=jp∨k=lp∨k=bp
structure PJ(w:World)(sp jp lp bp:Nat)(a:Option Addr)(cap:Nat)(xs:Nat→Ih)(s:SV)(m C:Nat)(j:JV):Prop where
 shelf:aV w sp xs s m
 job:gW w jp sp lp bp a cap j
 nums:Nums w a j.l
 ap:Apart a (fpP xs s jp lp bp)
 ok:JOk s C j
 cap:j.l.length≤cap
theorem PJ.jJ{w:World}{sp jp lp bp cap m C:Nat}{a:Option Addr}{xs:Nat→Ih}{s:SV}{j:JV}(h:PJ w sp jp lp bp a cap xs s m C j){k:Nat}(hk:fpP xs s jp lp bp k):k<w.heap.size:=by
 obtain⟨l1,l2,l3⟩:=h.job.lts;rcases hk with hk|rfl|rfl|rfl
 ·exact h.shelf.jJ hk
 ·exact l1
 ·exact l2
 ·exact l3
theorem PJ.not{w:World}{sp jp lp bp cap m C:Nat}{a:Option Addr}{xs:Nat→Ih}{s:SV}{j:JV}(h:PJ w sp jp lp bp a cap xs s m C j):¬fpS xs s jp∧¬fpS xs s lp∧¬fpS xs s bp∧¬fpP xs s jp lp bp sp :=
 ⟨h.shelf.xk h.job.blk (by decide),h.shelf.xk h.job.set (by decide),h.shelf.xk h.job.bkt (by decide),by
  obtain⟨c0,h0⟩:=h.shelf.is;have h1:=h.job.blk;have h2:w.heap[lp]?=_:=h.job.set;have h3:w.heap[bp]?=_:=h.job.bkt;rintro(e|e|e|e)
  ·exact h.shelf.Es e
  ·rw[e,h1] at h0;simp at h0
  ·rw[e,h2] at h0;simp at h0
  ·rw[e,h3] at h0;simp at h0⟩
theorem PJ.beside{S S':Nat→Prop}{w w':World}{sp jp lp bp cap m C:Nat}{a:Option Addr}{xs:Nat→Ih}{s:SV}{j:JV}(h:PJ w sp jp lp bp a cap xs s m C j)(hm:Moved S w S' w')(hp:¬S sp)(hs:∀ k,fpP xs s jp lp bp k→¬S k)(ha:Apart a S):PJ w' sp jp lp bp a cap xs s m C j:=by
 obtain⟨l1,l2,l3⟩:=h.job.lts;exact⟨h.shelf.beside hm hp (fun k hk=>hs k (.inl hk)),h.job.keep (hm.block l1 (hs _ (.inr (.inl rfl)))) (hm.block l2 (hs _ (.inr (.inr (.inl rfl))))) (hm.block l3 (hs _ (.inr (.inr (.inr rfl))))),h.nums.moved hm ha,h.ap,h.ok,h.cap⟩
theorem PJ.below{w w':World}{sp jp lp bp cap m C:Nat}{a:Option Addr}{xs:Nat→Ih}{s:SV}{j:JV}(h:PJ w sp jp lp bp a cap xs s m C j)(hb:Below w.heap.size w w'):PJ w' sp jp lp bp a cap xs s m C j :=
 h.beside (Moved.of_below (S:=fun _=>False) hb) (fun e=>e) (fun _ _ e=>e) (fun _ _ _ e=>e)
theorem PJ.more{w:World}{sp jp lp bp cap m m' C:Nat}{a:Option Addr}{xs:Nat→Ih}{s:SV}{j:JV}(h:PJ w sp jp lp bp a cap xs s m C j)(hm:m≤m'):PJ w sp jp lp bp a cap xs s m' C j :=
 ⟨h.shelf.more hm,h.job,h.nums,h.ap,h.ok,h.cap⟩
theorem PJ.oU{w w':World}{sp jp lp bp cap m m' C:Nat}{a:Option Addr}{xs xs':Nat→Ih}{s z:SV}{j:JV}(h:PJ w sp jp lp bp a cap xs s m C j)(h1:aV w' sp xs' z m')(hm:Moved (fpS xs s) w (fpS xs' z) w')(hz:s.alike z) :
  PJ w' sp jp lp bp a cap xs' z m' C j∧Moved (fpP xs s jp lp bp) w (fpP xs' z jp lp bp) w':=by
 obtain⟨n1,n2,n3,_⟩:=h.not;obtain⟨l1,l2,l3⟩:=h.job.lts
 have hM:Moved (fpP xs s jp lp bp) w (fpP xs' z jp lp bp) w':=⟨hm.kept.mono fun k _ hk=>.inl hk,fun k hk=>by
  rcases hk with hk|hk
  ·rcases hm.new k hk with h2|h2
   ·exact .inl (.inl h2)
   ·exact .inr h2
  ·exact .inl (.inr hk)⟩
 exact⟨⟨h1,h.job.keep (hm.block l1 n1) (hm.block l2 n2) (hm.block l3 n3),h.nums.moved hm (fun g o e hf=>h.ap g o e (.inl hf)),h.ap.moved h.nums h.ok.ne hM,h.ok.over hz,h.cap⟩,hM⟩
theorem PJ.own{w w':World}{sp jp lp bp cap m C:Nat}{a:Option Addr}{xs:Nat→Ih}{s:SV}{j j':JV}(h:PJ w sp jp lp bp a cap xs s m C j)(hk:Kept (fun k=>k=jp∨k=lp∨k=bp) w w')(hj:gW w' jp sp lp bp a cap j')(hl:j'.l=j.l)(hok:JOk s C j') :
  PJ w' sp jp lp bp a cap xs s m C j'∧Moved (fpP xs s jp lp bp) w (fpP xs s jp lp bp) w':=by
 obtain⟨n1,n2,n3,n4⟩:=h.not;have hM:Moved (fpP xs s jp lp bp) w (fpP xs s jp lp bp) w':=⟨hk.mono fun k _ hk=>.inr hk,fun k hk=>.inl hk⟩
 refine⟨⟨h.shelf.keep (hM.block (h.shelf.lt) n4) (fun k hf=>hk.block k (h.shelf.jJ hf) (fun e=>?_)),hj,by rw[hl];exact h.nums.moved hM h.ap,h.ap,hok,by rw[hl];exact h.cap⟩,hM⟩
 rcases e with rfl|rfl|rfl
 ·exact n1 hf
 ·exact n2 hf
 ·exact n3 hf
theorem gW.nY{w:World}{jp sp lp bp cap:Nat}{a:Option Addr}{j:JV}(h:gW w jp sp lp bp a cap j)(st:Int):gW (w.setCell ⟨jp,4,none⟩ (.int .i64 st)) jp sp lp bp a cap (j.at st):=by
 obtain⟨n1,n2,n3⟩:=h.ne;exact⟨by rw[heap_setCell_same w jp 4 _ _ _ h.blk];rfl,(heap_setCell_other w ⟨jp,4,none⟩ lp _ (Ne.symm n1)).trans h.set,(heap_setCell_other w ⟨jp,4,none⟩ bp _ (Ne.symm n2)).trans h.bkt⟩
theorem PJ.nY{w:World}{sp jp lp bp cap m C:Nat}{a:Option Addr}{xs:Nat→Ih}{s:SV}{j:JV}(h:PJ w sp jp lp bp a cap xs s m C j){st:Int}(hs:st=1∨st=2∨st=4∨st=5) :
  PJ (w.setCell ⟨jp,4,none⟩ (.int .i64 st)) sp jp lp bp a cap xs s m C (j.at st)∧Moved (fpP xs s jp lp bp) w (fpP xs s jp lp bp) (w.setCell ⟨jp,4,none⟩ (.int .i64 st)) :=
 h.own (Kept.setCell (Kept.refl _ w) (.inl (.inl rfl)) _) (h.job.nY st) rfl (h.ok.at hs)
theorem PJ.zX{w w':World}{sp jp lp bp cap m C:Nat}{a:Option Addr}{xs:Nat→Ih}{s:SV}{j:JV}(h:PJ w sp jp lp bp a cap xs s m C j){c:Int}{b:Bool}(h1:S4.fU w' lp j.n (S4.eP j.n j.x c b))(hk:S4.Kept (fun k=>k=lp) w w') :
  PJ w' sp jp lp bp a cap xs s m C (j.put (S4.eP j.n j.x c b))∧Moved (fpP xs s jp lp bp) w (fpP xs s jp lp bp) w':=by
 obtain⟨n1,n2,n3⟩:=h.job.ne;obtain⟨l1,l2,l3⟩:=h.job.lts;exact h.own ((Kept.of4 hk).mono fun k _ e=>.inr (.inl e)) ⟨(hk.block jp l1 n1).trans h.job.blk,h1,(hk.block bp l3 (Ne.symm n3)).trans h.job.bkt⟩ rfl (h.ok.put c b)
theorem PJ.rV{w w':World}{sp jp lp bp cap m C:Nat}{a:Option Addr}{xs:Nat→Ih}{s:SV}{j:JV}(h:PJ w sp jp lp bp a cap xs s m C j){lv:Int}(h1:S4.Three 245 w' bp j.rate j.burst lv)(hk:S4.Kept (fun k=>k=bp) w w')(hl:0≤lv∧lv≤j.burst) :
  PJ w' sp jp lp bp a cap xs s m C { j with lv:=lv }∧Moved (fpP xs s jp lp bp) w (fpP xs s jp lp bp) w':=by
 obtain⟨n1,n2,n3⟩:=h.job.ne;obtain⟨l1,l2,l3⟩:=h.job.lts;exact h.own ((Kept.of4 hk).mono fun k _ e=>.inr (.inr e)) ⟨(hk.block jp l1 n2).trans h.job.blk,(hk.block lp l2 n3).trans h.job.set,h1⟩ rfl { h.ok with lv:=⟨hl.1,hl.2,h.ok.lv.2.2⟩ }
theorem gW.Ai{w:World}{jp sp lp bp cap:Nat}{a:Option Addr}{j:JV}(h:gW w jp sp lp bp a cap j)(c:Int):gW (w.setCell ⟨jp,7,none⟩ (.int .i64 c)) jp sp lp bp a cap { j with last:=c }:=by
 obtain⟨n1,n2,n3⟩:=h.ne;exact⟨by rw[heap_setCell_same w jp 7 _ _ _ h.blk];rfl,(heap_setCell_other w ⟨jp,7,none⟩ lp _ (Ne.symm n1)).trans h.set,(heap_setCell_other w ⟨jp,7,none⟩ bp _ (Ne.symm n2)).trans h.bkt⟩
theorem PJ.Ai{w:World}{sp jp lp bp cap m C:Nat}{a:Option Addr}{xs:Nat→Ih}{s:SV}{j:JV}(h:PJ w sp jp lp bp a cap xs s m C j){c:Int}(hs : -1≤c∧c<64) :
  PJ (w.setCell ⟨jp,7,none⟩ (.int .i64 c)) sp jp lp bp a cap xs s m C { j with last:=c }∧Moved (fpP xs s jp lp bp) w (fpP xs s jp lp bp) (w.setCell ⟨jp,7,none⟩ (.int .i64 c)) :=
 h.own (Kept.setCell (Kept.refl _ w) (.inl (.inl rfl)) _) (h.job.Ai c) rfl { h.ok with last:=hs }
def aX(sp jp lp bp:Nat)(a:Option Addr)(cap:Nat)(xs:Nat→Ih)(s z:SV)(m C:Nat)(j:JV)(w w':World):Prop:=∃ xs',PJ w' sp jp lp bp a cap xs' z m C j∧Moved (fpP xs s jp lp bp) w (fpP xs' z jp lp bp) w'
theorem aX.refl{w:World}{sp jp lp bp cap m C:Nat}{a:Option Addr}{xs:Nat→Ih}{s:SV}{j:JV}(h:PJ w sp jp lp bp a cap xs s m C j):aX sp jp lp bp a cap xs s s m C j w w:=⟨xs,h,Moved.refl _ _⟩
theorem aX.below{w w':World}{sp jp lp bp cap m C:Nat}{a:Option Addr}{xs:Nat→Ih}{s:SV}{j:JV}(h:PJ w sp jp lp bp a cap xs s m C j)(hb:Below w.heap.size w w'):aX sp jp lp bp a cap xs s s m C j w w':=⟨xs,h.below hb,Moved.of_below hb⟩
theorem aX.after{w w1 w':World}{sp jp lp bp cap m C:Nat}{a:Option Addr}{xs xs1:Nat→Ih}{s s1 z:SV}{j:JV}(hm:Moved (fpP xs s jp lp bp) w (fpP xs1 s1 jp lp bp) w1)(h:aX sp jp lp bp a cap xs1 s1 z m C j w1 w'):aX sp jp lp bp a cap xs s z m C j w w':=by
 obtain⟨xs',h1,h2⟩:=h;exact⟨xs',h1,hm.trans h2⟩
attribute [local go_sem ↓] Go.wp_at_zero Go.wp_at_succ
theorem qG{sp m:Nat}{xs:Nat→Ih}{s:SV}(n:Int)(w:World)(h:aV w sp xs s m) :
  Calls Tryz.prog 68 #[.pointer (some ⟨sp,6,none⟩),.int .i64 n] w fun e w'=>e=.returned (fJ (xs n.toNat) (s.file n))∧w'=w:=by
 by_cases h0:n<0
 ·have g0:decide (n<0)=true:=decide_eq_true h0
  have hf:s.file n=none:=by unfold SV.file;rw[if_neg (by omega)]
  rw[hf];clear h;go_enter Tryz.func68,Tryz.ntmps68
  go_wp2
  go_ret
  exact⟨rfl,rfl⟩
 ·have g0:decide (n<0)=false:=decide_eq_false h0
  by_cases h1:5≤n
  ·have g1:decide (5≤n)=true:=decide_eq_true h1
   have hf:s.file n=none:=by unfold SV.file;rw[if_neg (by omega)]
   rw[hf];clear h;go_enter Tryz.func68,Tryz.ntmps68
   go_wp2
   go_ret
   exact⟨rfl,rfl⟩
  ·have g1:decide (5≤n)=false:=decide_eq_false h1
   obtain⟨k,rfl⟩:∃ k:Nat,n=(k:Int):=⟨n.toNat,by omega⟩
   have hc:=h.cell (i:=k) (by omega)
   have hf:s.file (k:Int)=s k:=SV.KU (by omega)
   rw[hf];clear h hf;have h2:(0:Int)≤(k:Int):=by omega
   have h3:(k:Int)<5:=by omega
   have h4:((k:Int)).toNat=k:=by omega
   rw[h4];generalize fJ (xs k) (s k)=pv at hc ⊢;go_enter Tryz.func68,Tryz.ntmps68
   go_wp2
   go_ret
   exact⟨rfl,rfl⟩
theorem ND(c:Int)(w:World) :
  Calls Tryz.prog 184 #[.pointer none,.int .i64 c] w fun e w'=>e=.returned (.int .i64 0)∧w'=w:=by
 go_enter Tryz.func184,Tryz.ntmps184
 go_wp2
 go_ret
 exact⟨rfl,rfl⟩
theorem wR{B:Gd}{x:Ih}{v:IV}(c:Int)(w:World)(h:aC B w x v) :
  Calls Tryz.prog 184 #[.pointer (some ⟨x.p,0,none⟩),.int .i64 c] w fun e w'=>e=.returned (.int .i64 (v.bH c).1)∧Below w.heap.size w w':=by
 have HK:=ah (NI c w h)
 have HC:Hid (v.gy c=0∨v.gy c=1∧(v.bH c).1=0):=by
  unfold Hid IV.gy IV.bH;cases v.there c<;>simp
 clear h;generalize v.gy c=f at HK HC;generalize (v.bH c).1=y at HK HC ⊢;go_enter Tryz.func184,Tryz.ntmps184
 go_wp2_with fail
 refine HK.out.mono ?_;rintro e w1 ⟨rfl,hb1⟩;rcases HC.out with h|⟨h,hy⟩
 ·rw[h,aB]
  go_wp2
  go_ret
  exact⟨rfl,hb1⟩
 ·rw[h,dM]
  have HY:=ah hy;clear hy;go_wp2
  go_ret
  exact⟨uI HY.out.symm,hb1⟩
theorem NC{sp m:Nat}{xs:Nat→Ih}{s:SV}(n c:Int)(w:World)(h:aV w sp xs s m) :
  Calls Tryz.prog 184 #[fJ (xs n.toNat) (s.file n),.int .i64 c] w fun e w'=>e=.returned (.int .i64 (iF (s.file n) c))∧Below w.heap.size w w':=by
 cases hf:s.file n with
 | none =>
  refine(ND c w).mono ?_;rintro e w' ⟨rfl,rfl⟩;exact⟨rfl,Below.refl _ _⟩
 | some v=>exact wR c w (h.jZ hf).1
theorem o9(c p b:Int)(w:World):(Instr.field 103 (.agg #[.int .i64 c,.int .i64 p,.int .i64 b]) 0).run Tryz.prog w=.ok (.int .i64 c) w:=by kernel_rfl
theorem CX(c p b:Int)(w:World):(Instr.field 103 (.agg #[.int .i64 c,.int .i64 p,.int .i64 b]) 2).run Tryz.prog w=.ok (.int .i64 b) w:=by kernel_rfl
theorem drop_cons{l:List Int}{k:Nat}(h:k<l.length):l.drop k=l.getD k 0::l.drop (k+1):=by
 rw[List.drop_eq_getElem_cons h,List.getD_eq_getElem?_getD,List.getElem?_eq_getElem h];rfl
theorem Dh{sp m cap:Nat}{xs:Nat→Ih}{s:SV}{a:Option Addr}(l:List Int)(c:Int)(w:World)(h:aV w sp xs s m)(hl:Nums w a l)(h5:l.length≤100) :
  Calls Tryz.prog 78 #[.pointer (some ⟨sp,6,none⟩),.slice a l.length cap,.int .i64 c] w fun e w'=>e=.returned (.int .i64 (s.found l c))∧Below w.heap.size w w':=by
 have HFI:Hid (∀(n:Int) (W:World),Below w.heap.size w W→Calls Tryz.prog 68 #[.pointer (some ⟨sp,6,none⟩),.int .i64 n] W fun e w'=>e=.returned (fJ (xs n.toNat) (s.file n))∧w'=W):=fun n W hb=>qG n W (h.below hb)
 have HKO:Hid (∀(n:Int) (W:World),Below w.heap.size w W→Calls Tryz.prog 184 #[fJ (xs n.toNat) (s.file n),.int .i64 c] W fun e w'=>e=.returned (.int .i64 (iF (s.file n) c))∧Below W.heap.size W w'):=fun n W hb=>NC n c W (h.below hb)
 have HNA:Hid (∀(k:Nat) (W:World),Below w.heap.size w W→k<l.length→∃ g o,a=some ⟨g,o,none⟩∧W.cell? ⟨g,o+k,none⟩=some (.int .i64 (l.getD k 0))):=fun k W hb hk=>(hl.below hb) k hk
 have HF0:Hid (s.fC c (l.drop 0) 0=s.found l c):=rfl;have HFS:Hid (∀ k,k<l.length→s.fC c (l.drop k) k=if iF (s.file (l.getD k 0)) c=0 then s.fC c (l.drop (k+1)) (k+1) else (k:Int)):=fun k hk=>by rw[drop_cons hk];rfl
 have HFE:Hid (s.fC c (l.drop l.length) l.length = -1):=by unfold Hid;rw[List.drop_length];rfl
 generalize s.found l c=R at HF0 ⊢;generalize hn:l.length=n at HNA HFS HFE h5 ⊢;clear hn h hl;go_enter Tryz.func78,Tryz.ntmps78
 go_wp2
 go_loopw [11] (fun i wr=>∃ k:Nat,k≤n∧i=.int .i64 k∧s.fC c (l.drop k) k=R∧Below w.heap.size w wr) (fun i _=>n-(intOf i).toNat)
 case atStart=>exact⟨0,Nat.zero_le _,rfl,HF0.out,Below.refl _ _⟩
 case round =>
  obtain⟨k,hkn,rfl,hR,hbel⟩:=hrel;by_cases hlt:k<n
  ·obtain⟨g,o,rfl,hc⟩:=HNA.out k wr hbel hlt
   have HS:=ah (HFS.out k hlt);have HR:=ah hR;have HF:=ah (HFI.out (l.getD k 0) wr hbel);have HK:=ah (HKO.out (l.getD k 0) wr hbel);have HB:=ah hbel;clear hR hbel HFI HKO HFS HNA;generalize hx:l.getD k 0=x at hc HS HF HK;generalize fJ (xs x.toNat) (s.file x)=pv at HF HK;generalize iF (s.file x) c=y at HS HK;clear hx;have k0:(0:Int)≤(k:Int):=by omega
   have k1:(k:Int)<(n:Int):=by omega
   have k2:((k:Int)).toNat=k:=by omega
   go_wp2_with fail
   refine HF.out.mono ?_;rintro e w' ⟨rfl,hw⟩;have hw':=hw.symm;subst hw';clear hw;go_wp2_with fail
   refine HK.out.mono ?_;rintro e w2 ⟨rfl,hb2⟩;have HB2:=ah (HB.out.trans (hb2.mono HB.out.size));clear hb2;by_cases hy:y=0
   ·have g1:(y != 0)=false:=by simpa using hy
    have HN:Hid (s.fC c (l.drop (k+1)) (k+1)=R):=by unfold Hid;rw[← HR.out,HS.out,if_pos hy]
    clear hy;go_wp2
    go_roundw
    case rel =>
     have fin:∃ k1:Nat,k1≤n∧Value.int .i64 ((k:Int)+1)=.int .i64 k1∧s.fC c (l.drop k1) k1=R∧Below w.heap.size w w2:=⟨k+1,by omega,by go_num,HN.out,HB2.out⟩
     first|exact fin|((repeat apply Exists.intro);exact⟨fin,rfl⟩)
    case measure=>simp[intOf];omega
   ·have g1:(y != 0)=true:=by simpa using hy
    have HN:Hid ((k:Int)=R):=by unfold Hid;rw[← HR.out,HS.out,if_neg hy]
    clear hy;go_wp2
    go_ret
    exact⟨uI HN.out,HB2.out⟩
  ·have hkc:k=n:=by omega
   subst hkc;have HN:Hid (-1=R):=by unfold Hid;rw[← hR,HFE.out]
   clear hR;go_wp2
   go_ret
   exact⟨uI HN.out,hbel⟩
theorem BM{sp m n cap:Nat}{xs:Nat→Ih}{s:SV}{a:Option Addr}(x:Int)(r:List Int)(w:World)(h:aV w sp xs s m)(hl:Nums w a (x::r))(hn:(x::r).length=n) :
  Calls Tryz.prog 149 #[.pointer (some ⟨sp,6,none⟩),.slice a n cap] w fun e w'=>e=.returned (.int .i64 (s.fV (x::r)))∧Below w.heap.size w w':=by
 have HFI:=ah (qG x w h);obtain⟨g,o,rfl,hc⟩:=hl 0 (by simp)
 have hc':w.cell? ⟨g,o,none⟩=some (.int .i64 x):=hc;have hn0:0<n:=by rw[← hn];simp
 have hn1:(0:Int)<(n:Int):=by omega
 show Calls _ _ _ _ fun e w'=>e=.returned (.int .i64 (s.fQ x))∧_
 unfold SV.fQ;clear hl hc hn
 cases hf:s.file x with
 | none =>
  rw[hf] at HFI;clear h hf;go_enter Tryz.func149,Tryz.ntmps149
  go_wp2_with fail
  refine HFI.out.mono ?_;rintro e w' ⟨rfl,hw⟩;have hw':=hw.symm;subst hw';clear hw;unfold fJ;go_wp2
  go_ret
  exact⟨rfl,Below.refl _ _⟩
 | some v =>
  have HHD:=ah (oG w (h.jZ hf).1);have hfd:=o9 v.h.c v.h.p v.h.b;rw[hf] at HFI;clear h hf;go_enter Tryz.func149,Tryz.ntmps149
  go_wp2_with fail
  refine HFI.out.mono ?_;rintro e w' ⟨rfl,hw⟩;have hw':=hw.symm;subst hw';clear hw;unfold fJ;go_wp2_with fail
  refine HHD.out.mono ?_;rintro e w1 ⟨rfl,hb1⟩;go_wp2
  go_ret
  exact⟨rfl,hb1⟩
end Go.Proofs.YtonhoahnieoebabGreatDoor
