/- How a job that is concluded leaves the chain (W2): in plain words. -/
import Derived.Test.YtonhoahnieoebabGreatDoorQADevCopy2
set_option maxHeartbeats 1000000
set_option maxRecDepth 100000
namespace Go.Proofs.YtonhoahnieoebabGreatDoor
open Go.RowKit Go.Maps
theorem EF{y:YV}{r st:Int}{a:JV}(ha:(y.over r st).j=some a):y.j=some a∨∃ j,y.j=some j∧a=j.at st∧(y.over r st).l=(y.s.walk r).1:=by
 unfold YV.over at ha ⊢;split
 ·next hd =>
  rw[if_pos hd] at ha;have ha':(y.j.map fun j=>j.at st)=some a:=ha
  cases hj:y.j with
  | none=>rw[hj] at ha';cases ha'
  | some j =>
   rw[hj] at ha';exact .inr ⟨j,rfl,(Option.some.inj ha').symm,rfl⟩
 ·next hd =>
  rw[if_neg hd] at ha;rw[(fP _ _).2.2.2] at ha;exact .inl ha
theorem BO{y y':YV}{C m n:Nat}{g g':GV}{x:aN}(h:YG y C m)(hr:gu n y g x y' g')(hm:m+30<1000000000)(hn:∀ j,y.j=some j→j.stage≠4){a:JV}(ha:y'.j=some a)(h4:a.stage=4) :
  ∃ j,y.j=some j∧j.stage<4∧a.kind=j.kind∧a.file=j.file∧y'.l=bV j:=by
 have same:y'.j=y.j→False:=fun e=>hn a (by rw[← e];exact ha) h4
 cases hr with
 | write hk =>
  exfalso
  have e:(y.write x.a x.s).j=y.j∨(y.write x.a x.s).j=y.j.map fun j=>dh j x.a.toNat (x.s.size / 16):=by
   unfold YV.write;split
   ·exact .inr rfl
   ·exact .inl rfl
  rcases e with e|e
  ·exact same e
  ·rw[e] at ha
   cases hj:y.j with
   | none=>rw[hj] at ha;cases ha
   | some j =>
    rw[hj] at ha;have e2:dh j x.a.toNat (x.s.size / 16)=a:=Option.some.inj ha;have e3:=(oD j x.a.toNat (x.s.size / 16)).2.2.1;rw[e2] at e3;exact hn j hj (by rw[← e3];exact h4)
 | wipe hk =>
  exfalso
  have e:(y.wipe x.a x.b).j=y.j∨(y.wipe x.a x.b).j=y.j.map fun j=>dh j x.a.toNat x.b.toNat:=by
   unfold YV.wipe;split
   ·exact .inr rfl
   ·exact .inl rfl
  rcases e with e|e
  ·exact same e
  ·rw[e] at ha
   cases hj:y.j with
   | none=>rw[hj] at ha;cases ha
   | some j =>
    rw[hj] at ha;have e2:dh j x.a.toNat x.b.toNat=a:=Option.some.inj ha;have e3:=(oD j x.a.toNat x.b.toNat).2.2.1;rw[e2] at e3;exact hn j hj (by rw[← e3];exact h4)
 | flush hk=>exact(same rfl).elim
 | blank hk=>exact(same (oV y x.a (-1)).1).elim
 | snap hk =>
  exfalso
  refine same ?_;have b1:=(oV y x.a y.kd.root).1;have d4:=(fP (y.blank x.a y.kd.root) (ak x.a)).2.2.2;unfold YV.snap;split
  ·rfl
  ·split
   ·split
    ·exact d4.trans b1
    ·exact d4.trans b1
   ·exact b1
 | start hk =>
  exfalso
  have d4:=(fP y (kW y x.a x.b x.c x.d)).2.2.2;unfold YV.start at ha;split at ha
  ·split at ha
   ·have ha':some ((iL y.s (kW y x.a x.b x.c x.d)).at 1)=some a:=ha
    cases ha'
    exact absurd h4 (by show ¬(1:Int)=4;decide)
   ·rw[d4] at ha;exact hn a ha h4
  ·exact hn a ha h4
 | pivot hk =>
  obtain⟨hg,_⟩:=h.pivot (show m+20<1000000000 by omega)
  cases hj:y.j with
  | none =>
   have e:y.pivot=y:=by unfold YV.pivot;rw[hj]
   rw[e] at ha;exact(hn a ha h4).elim
  | some j =>
   by_cases hx:4≤j.stage∨y.kd.kind=2
   ·have e:y.pivot=y:=by unfold YV.pivot;rw[hj];simp only;rw[if_pos hx]
    rw[e] at ha;exact(hn a ha h4).elim
   ·have est:y.pivot=(if dH y.s j≠0 then { y with s:=aF y.s j,j:=some (aK y.s j) } else ({ y with s:=aF y.s j,j:=some (aK y.s j) }:YV).over y.kd.file 4):=by
     unfold YV.pivot;rw[hj];simp only
     rw[if_neg hx]
    rw[not_or] at hx;have hgj:j.stage<4:=by omega
    have hgo:=h.go hj hgj;have hin:=h.ok.job j hj hgj;have hk:j.kind=y.kd.kind:=by rw[← hin.dsk];rfl
    have hkf:y.kd.file=j.file:=by rw[← hin.dsk];rfl
    have hj2:j.kind≠2:=by rw[hk];exact hx.2
    have hJ:aK y.s j=j:=by
     unfold aK;rw[if_neg (fun e=>hj2 e.2.1)]
    rw[est,hJ] at ha ⊢;split at ha
    ·next hf =>
     have ha':some j=some a:=ha;cases ha'
     exact(hn _ hj h4).elim
    ·next hf =>
     rw[if_neg hf];rcases EF ha with e|⟨j2,e1,e2,e3⟩
     ·have e':some j=some a:=e
      cases e'
      exact(hn _ hj h4).elim
     ·have e1':some j=some j2:=e1
      cases e1'
      refine⟨j,rfl,hgj,by rw[e2];rfl,by rw[e2];rfl,?_⟩
      rw[e3]
      have hbk:j.kind=1→∀ v,y.s.file j.file=some v→v.h.b = -1:=fun e v hv1=>by
       obtain⟨u,h1,h3,_⟩:=hin.tgt.mir (by rw[← hk];exact e)
       rw[hkf,hv1] at h1;cases h1;exact h3
      have hcj:Chain y.s C y.kd.root j.l:=by rw[hin.lst];exact h.ok.ch
      have hp:Chain (aF y.s j) C j.file (bV j):=(hgo.pivots hcj hj2 hbk).over (by
       unfold aF;split
       ·exact .bQ _ _ _
       ·exact .refl _ _)
      show((aF y.s j).walk y.kd.file).1=_
      rw[hkf,hp.walk]
 | cancel hk =>
  exfalso
  unfold YV.cancel at ha;split at ha
  ·rcases EF ha with e|⟨j,_,e2,_⟩
   ·exact hn a e h4
   ·rw[e2] at h4
    exact absurd h4 (by show ¬(5:Int)=4;decide)
  ·exact hn a ha h4
 | pause hk =>
  exfalso
  unfold YV.pause at ha;split at ha
  ·have ha':(y.j.map fun j=>gQ j (decide (0<x.a)))=some a:=ha
   cases hj:y.j with
   | none=>rw[hj] at ha';cases ha'
   | some j =>
    rw[hj] at ha';have e:gQ j (decide (0<x.a))=a:=Option.some.inj ha'
    have hp:(gQ j (decide (0<x.a))).stage=j.stage∨(gQ j (decide (0<x.a))).stage=1∨(gQ j (decide (0<x.a))).stage=2:=by
     unfold gQ;split<;>split<;>first|exact .inl rfl|exact .inr (.inl rfl)|exact .inr (.inr rfl)
    rw[e] at hp;have:=hn j hj
    omega
  ·exact hn a ha h4
 | tick hk =>
  exfalso
  unfold YV.tick at ha;split at ha
  ·have ha':(y.j.map fun j=>gG j x.a)=some a:=ha
   cases hj:y.j with
   | none=>rw[hj] at ha';cases ha'
   | some j =>
    rw[hj] at ha';have e:gG j x.a=a:=Option.some.inj ha'
    have hp:(gG j x.a).stage=j.stage:=by
     unfold gG
     first
      | rfl
      | (split<;>rfl)
    rw[e] at hp;exact hn j hj (by rw[← hp];exact h4)
  ·exact hn a ha h4
 | fail hk =>
  exfalso
  refine same ?_;unfold YV.arm;split
  ·split
   ·rfl
   ·cases y.s x.a.toNat<;>rfl
  ·rfl
 | step =>
  cases hj:y.j with
  | none =>
   have e:y.step=y:=by unfold YV.step;rw[hj]
   rw[e] at ha;exact(hn a ha h4).elim
  | some j =>
   by_cases hx:4≤j.stage
   ·have e:y.step=y:=by unfold YV.step;rw[hj];simp only;rw[if_pos hx]
    rw[e] at ha;exact(hn a ha h4).elim
   ·have hgj:j.stage<4:=by omega
    have hin:=h.ok.job j hj hgj;have hgo:=h.go hj hgj;have hh:=h.job j hj hgj
    have est:y.step=(if eU y.s j≠0 then (if (stepJ y.s j).stage=5 then ({ y with s:=stepS y.s j,j:=some (stepJ y.s j) }:YV).aj (ak y.kd.root) else { y with s:=stepS y.s j,j:=some (stepJ y.s j) })
      else if y.kd.kind≠2∨(stepJ y.s j).state≠3 then { y with s:=stepS y.s j,j:=some (stepJ y.s j) }
      else if dH (stepS y.s j) (stepJ y.s j)≠0 then ({ y with s:=aF (stepS y.s j) (stepJ y.s j),j:=some (aK (stepS y.s j) (stepJ y.s j)) }:YV).aj (ak y.kd.root)
      else { ({ y with s:=aF (stepS y.s j) (stepJ y.s j),l:=((aF (stepS y.s j) (stepJ y.s j)).walk y.kd.root).1,j:=some ((aK (stepS y.s j) (stepJ y.s j)).at 4) }:YV).aj (ak y.kd.root) with kd:=ak y.kd.root }):=by
     unfold YV.step;rw[hj];simp only
     rw[if_neg hx]
    have hst:(stepJ y.s j).stage=j.stage∨(stepJ y.s j).stage=5:=by
     have a1:∀ c,(j.went c).stage=j.stage:=fun _=>rfl
     have b1:j.fell.stage=5:=rfl;unfold stepJ;by_cases h1:j.stage=1∧j.some=true∧S4.inB 4 j.lv=true
     ·rw[if_pos h1]
      by_cases g:j.eY y.s j.pick=true∧(j.moved y.s j.pick).2≠0
      ·rw[if_pos g];exact .inr b1
      ·rw[if_neg g];exact .inl (a1 _)
     ·rw[if_neg h1];exact .inl rfl
    have hno:(stepJ y.s j).stage≠4:=by omega
    rw[est] at ha ⊢;split at ha
    ·next c1 =>
     exfalso
     split at ha
     ·rw[(fP _ _).2.2.2] at ha
      have ha':some (stepJ y.s j)=some a:=ha;cases ha';exact hno h4
     ·have ha':some (stepJ y.s j)=some a:=ha
      cases ha';exact hno h4
    ·next c1 =>
     rw[if_neg c1];split at ha
     ·next c2 =>
      exfalso
      have ha':some (stepJ y.s j)=some a:=ha;cases ha';exact hno h4
     ·next c2 =>
      rw[if_neg c2];rw[not_or] at c2;have hk2:y.kd.kind=2:=Classical.byContradiction c2.1;have hs3:(stepJ y.s j).state=3:=Classical.byContradiction c2.2
      have hst4:(stepJ y.s j).stage<4:=by
       unfold JV.state at hs3;split at hs3
       ·next e=>omega
       ·omega
      have hla:(stepJ y.s j).l=y.l:=(iO y.s j).1.trans hin.lst;have hka:iq (stepJ y.s j)=y.kd:=(iO y.s j).2.trans hin.dsk;have hcz:Chain (stepS y.s j) C y.kd.root y.l:=h.ok.ch.over (.step _ _ _);have ha2:(stepJ y.s j).kind=2:=by rw[← hk2,← hka];rfl
      have hhd:(stepJ y.s j).l.headD 0=y.kd.root:=by
       obtain⟨r,e⟩:=hcz.head;rw[hla,e];rfl
      obtain⟨es,ef⟩:=uU (s:=stepS y.s j) hs3 ha2;rw[hhd] at es ef;split at ha
      ·next hf =>
       exfalso
       rw[(fP _ _).2.2.2] at ha;have ha':some (aK (stepS y.s j) (stepJ y.s j))=some a:=ha;rw[uT hs3 ha2 (by rw[hhd,← ef];exact hf)] at ha'
       cases ha'
       exact absurd h4 (by show ¬(5:Int)=4;decide)
      ·next hf =>
       rw[if_neg hf];have hf0:(bI (stepS y.s j) y.kd.root (stepJ y.s j).file).2=0:=by rw[← ef];exact Classical.byContradiction hf
       have ha':(YV.aj _ _).j=some a:=ha;rw[(fP _ _).2.2.2] at ha';have ha2':some ((aK (stepS y.s j) (stepJ y.s j)).at 4)=some a:=ha';have hJ:=xP (s:=stepS y.s j) (j:=stepJ y.s j) (by rw[hhd];exact hf0)
       rw[hJ] at ha2';have ea:(stepJ y.s j).at 4=a:=Option.some.inj ha2';have hk3:(stepJ y.s j).kind=j.kind:=congrArg aS.kind (iO y.s j).2;have hf3:(stepJ y.s j).file=j.file:=congrArg aS.file (iO y.s j).2;have hh2:=hh.as (Aq hgo (by omega) hh.same hst4) (iO _ _).1 (iO _ _).2 (xX _ _)
       have hcl:Chain (stepS y.s j) C y.kd.root (stepJ y.s j).l:=by rw[hla];exact hcz
       have hq:=Ar hcl ha2 (hh2.str ha2) (hh2.str2 ha2) hf0
       have htl:bV (stepJ y.s j)=bV j:=by
        unfold bV;rw[hk3,hf3,(iO y.s j).1,xX]
       refine⟨j,rfl,hgj,by rw[← ea];exact hk3,by rw[← ea];exact hf3,?_⟩
       show(YV.aj _ _).l=_
       rw[(fP _ _).2.2.1];show((aF (stepS y.s j) (stepJ y.s j)).walk y.kd.root).1=_
       rw[es,hq.walk,htl]
attribute [local go_sem ↓] Go.wp_at_zero Go.wp_at_succ
theorem Af{a b:Option Addr}{c1 c2:Nat}(l:List Int)(w:World)(h1:Nums w a l)(h2:Nums w b l)(h5:l.length≤1000) :
  Calls Tryz.prog 18 #[.slice a l.length c1,.slice b l.length c2] w fun e w'=>e=.returned (.bool true)∧Below w.heap.size w w':=by
 have HN:Hid (∀(k:Nat) (W:World),Below w.heap.size w W→k<l.length→∃ g o g2 o2,a=some ⟨g,o,none⟩∧b=some ⟨g2,o2,none⟩∧W.cell? ⟨g,o+k,none⟩=some (.int .i64 (l.getD k 0))∧W.cell? ⟨g2,o2+k,none⟩=some (.int .i64 (l.getD k 0))):=fun k W hb hk=>by
  obtain⟨g,o,e1,e2⟩:=(h1.below hb) k hk;obtain⟨g2,o2,e3,e4⟩:=(h2.below hb) k hk;exact⟨g,o,g2,o2,e1,e3,e2,e4⟩
 clear h1 h2;generalize l.length=n at HN h5 ⊢;go_enter Tryz.func18,Tryz.ntmps18
 go_wp2
 go_loopw [5] (fun i wr=>∃ k:Nat,k≤n∧i=.int .i64 (k:Int)∧Below w.heap.size w wr) (fun i _=>n-(intOf i).toNat)
 case atStart=>exact⟨0,Nat.zero_le _,rfl,Below.refl _ _⟩
 case round =>
  obtain⟨k,hk,rfl,hbel⟩:=hrel;have HB:=ah hbel;by_cases hlt:k<n
  ·obtain⟨g,o,g2,o2,rfl,rfl,e1,e2⟩:=HN.out k wr hbel hlt
   have k0:(0:Int)≤(k:Int):=by omega
   have k1:(k:Int)<(n:Int):=by omega
   have k2:((k:Int)).toNat=k:=by omega
   generalize l.getD k 0=x at e1 e2;have gx:(x != x)=false:=by simp
   clear hbel;go_wp2
   go_region
   go_wp2
   go_roundw
   case rel =>
    have fin:∃ k1:Nat,k1≤n∧Value.int .i64 ((k:Int)+1)=.int .i64 (k1:Int)∧Below w.heap.size w wr.drew:=⟨k+1,by omega,by go_num,HB.out.drew⟩
    first|exact fin|((repeat apply Exists.intro);exact⟨fin,rfl⟩)
   case measure=>simp[intOf];omega
  ·have hke:k=n:=by omega
   subst hke;clear hbel;go_wp2
   go_ret
   exact⟨rfl,HB.out⟩
def dn(l:List Int)(f:Int):Nat→Nat
 | 0=>l.length
 | k+1=>if l.getD k 0=f then k else dn l f k
theorem wE(l:List Int)(f:Int):∀ k,k≤l.length→dn l f k≤l.length:=by
 intro k
 induction k with
 | zero=>intro _;exact Nat.le_refl _
 | succ k ih =>
  intro hk;unfold dn;split
  ·omega
  ·exact ih (by omega)
theorem Kq{l:List Int}{f:Int}(h:f ∉ l):∀ k,k≤l.length→dn l f k=l.length:=by
 intro k
 induction k with
 | zero=>intro _;rfl
 | succ k ih =>
  intro hk;unfold dn;rw[if_neg,ih (by omega)]
  intro e;refine h ?_;rw[List.getD_eq_getElem?_getD,List.getElem?_eq_getElem (by omega)] at e
  have e':l[k]=f:=e;rw[← e'];exact List.getElem_mem _
theorem Ko{l:List Int}{f:Int}(hn:l.Nodup){i:Nat}(hi:i<l.length)(he:l.getD i 0=f):∀ k,k≤l.length→i<k→dn l f k=i:=by
 intro k
 induction k with
 | zero=>intro _ h;omega
 | succ k ih =>
  intro hk h;unfold dn;by_cases e:i=k
  ·subst e
   rw[if_pos he]
  ·rw[if_neg,ih (by omega) (by omega)]
   intro e2;rw[← he] at e2;rw[List.getD_eq_getElem?_getD,List.getD_eq_getElem?_getD,List.getElem?_eq_getElem hi,List.getElem?_eq_getElem (show k<l.length by omega)] at e2
   have e3:l[k]=l[i]:=e2;exact e ((List.getElem_inj hn).1 e3).symm
def sS(l l':List Int)(k f:Int):Prop:=(k=1∧l'=[f])∨(k=3∧l'=l.drop (dn l f l.length))∨(k=2∧l'=l.headD 0::l.drop (dn l f l.length))
theorem sS.of{s:SV}{C m:Nat}{j:JV}(h:JGo s C m j):sS j.l (bV j) j.kind j.file:=by
 unfold bV
 have hd:j.kind≠1→j.deep=dn j.l j.file j.l.length:=fun hk=>by
  rcases h.ok.idx hk with⟨e1,e2⟩|⟨e1,e2⟩
  ·rcases pJ _ j.file h.nodup with⟨e3,_⟩|⟨i,e3,e4,e5⟩
   ·omega
   ·rw[Ko h.nodup e4 e5 _ (Nat.le_refl _) e4];omega
  ·rcases pJ _ j.file h.nodup with⟨_,e3⟩|⟨i,e3,_,_⟩
   ·rw[Kq e3 _ (Nat.le_refl _)];exact e2
   ·omega
 rcases h.ok.kind with e|e|e
 ·exact .inl ⟨e,by rw[if_pos e]⟩
 ·exact .inr (.inr ⟨e,by rw[if_neg (by omega),if_pos e,← hd (by omega)]⟩)
 ·exact .inr (.inl ⟨e,by rw[if_neg (by omega),if_neg (by omega),← hd (by omega)]⟩)
theorem Nums.drop{w:World}{g o A:Nat}{l:List Int}(h:Nums w (some ⟨g,o,none⟩) l):Nums w (some ⟨g,o+A,none⟩) (l.drop A):=fun k hk=>by
 rw[List.length_drop] at hk;obtain⟨g',o',e1,e2⟩:=h (A+k) (by omega)
 cases e1
 refine⟨g,o+A,rfl,?_⟩;rw[Nat.add_assoc,e2,List.getD_eq_getElem?_getD,List.getD_eq_getElem?_getD,List.getElem?_drop]
def qo(k f st lf:Int):Obj:=.cells #[.int .i64 k,.int .i64 f,.int .i64 st,.int .i64 lf] 56 (0,0)
theorem FX{P:Program}{ops:Array Oper}{o:Oper}{a:Act}{w w':World}{K:Act→World→Prop}{Q:Exit→Act→World→Prop}{E:Prop}(hgd:o.guard=none)(s x:Operand)(t ty:TypeId)
  (ho:o.op=.call { callee:=.builtin .append,args := #[s,x],argTypes := #[t,t] }) (hty:o.type=ty) {v xv v':Value} (hs:a.eval s=v) (hx:a.eval x=xv)
  (hr:(Builtin.append_ #[t,t] ty #[v,xv]).run P w=.ok v' w') (h:K (a.put o.dst v') w') :
  if Region.wanted o (yielded ops a.tmps)=true then Oper.wp P o a w K Q else E:=by
 have hw:Region.wanted o (yielded ops a.tmps)=true:=by simp[Region.wanted,hgd]
 rw[if_pos hw];unfold Oper.wp;simp only[execOp,ho,resolve,invoke,builtin,Sem.run_bind,Sem.run_pure,Result.andThen_ok,List.map_toArray,List.map_cons,List.map_nil,hs,hx,hty,hr];exact h
def oL(l:List Int):List Value:=l.map fun n=>.int .i64 n
theorem MS:(Tryz.prog.info? 3).map (fun i=>(i.zero,i.size,i.bytes))=some (some (.int .i64 0),1,8):=by kernel_rfl
theorem Md(W:World)(h0:Int)(p:Addr)(cc:Nat)(r:List Int)(hr:r.length≤5)(hn:∀ j u,(oL r)[j]?=some u→W.cell? (p.add j)=some u) :
  ∃ g cap w',(Builtin.append_ #[31,31] 31 #[.slice (some ⟨W.heap.size,0,none⟩) 1 1,.slice (some p) r.length cc]).run Tryz.prog (W.alloc (.cells #[.int .i64 h0] 3))=.ok (.slice (some ⟨g,0,none⟩) (1+r.length) cap) w'∧Nums w' (some ⟨g,0,none⟩) (h0::r)∧Below W.heap.size W w':=by
 obtain⟨i2,hi2,hy0,hy1,hy2⟩:=info_parts MS
 have hown:(W.alloc (.cells #[.int .i64 h0] 3)).ownsRow W.heap.size 3 1 (.slice (some ⟨W.heap.size,0,none⟩) 1 1) 1 [.int .i64 h0] :=
  ⟨rfl,.inr ⟨W.heap.size,1,_,rfl,Nat.le_refl _,heap_alloc_new W _,Nat.le_refl _,by decide,rfl,rfl⟩⟩
 have hl:(oL r).length=r.length*1:=by simp[oL]
 have hnews:∀ j u,(oL r)[j]?=some u→(W.alloc (.cells #[.int .i64 h0] 3)).cell? (p.add j)=some u:=fun j u hu=>by
  have h1:=hn j u hu;exact(((Below.refl _ W).alloc (Nat.le_refl _) _).cell (p:=p.add j) (World.block_lt_of_cell? _ _ h1)).trans h1
 obtain⟨v',w',hrun,h2,h3,_,h5⟩:=run_append_own_at (P:=Tryz.prog) (W.alloc (.cells #[.int .i64 h0] 3)) W.heap.size 31 31 3 i2 (.int .i64 0) 1 8 Tryz.underlying31 hi2 hy0 hy1 hy2 rfl (by decide) (.slice (some ⟨W.heap.size,0,none⟩) 1 1) 1 [.int .i64 h0] hown p r.length cc (oL r) hl hnews (fun u hu=>by
  obtain⟨n,_,rfl⟩:=List.mem_map.1 hu
  rfl) (by unfold maxLen;omega) (by omega) (by simp)
 obtain⟨g,cap,rfl,_,hlt⟩:=h2.form (by omega)
 have hb:Below W.heap.size W w':=((Below.refl _ W).alloc (Nat.le_refl _) _).grown h3 (by simp) (fun q e=>by
  have:W.heap.size=q:=by simpa [Value.ownBlock] using e
  omega)
 refine⟨g,cap,w',hrun,fun k hk=>?_,hb⟩
 obtain⟨g',cap',hv,hc,_,_⟩:=rQ h2 k (by simpa [Nat.add_comm] using hk)
 injection hv with hv1 _ _
 refine⟨g,0,rfl,?_⟩;cases hv1
 rw[Nat.zero_add,hc]
 cases k with
 | zero=>rfl
 | succ k =>
  have hk':k<r.length:=by simpa using hk
  simp[oL,hk']
theorem Kr{g o c1 c2:Nat}{b:Option Addr}(l l':List Int)(kind file st lf:Int)(w:World)(h1:Nums w (some ⟨g,o,none⟩) l)(h2:Nums w b l')(hne:l≠[])(h5:l.length≤5)(hc:l.length≤c1)(hc1:c1≤maxLen)(hE:sS l l' kind file) :
  Calls Tryz.prog 50 #[.slice (some ⟨g,o,none⟩) l.length c1,.slice b l'.length c2,.agg #[.int .i64 kind,.int .i64 file,.int .i64 st,.int .i64 lf]] w fun e w'=>e=.returned (.bool true)∧Below w.heap.size w w':=by
 have HB0:Hid (Below w.heap.size w (w.alloc (qo kind file st lf))):=(Below.refl _ _).alloc (Nat.le_refl _) _
 have HBX:Hid (∀ W:World,Below (w.alloc (qo kind file st lf)).heap.size (w.alloc (qo kind file st lf)) W→W.cell? ⟨w.heap.size,0,none⟩=some (.int .i64 kind)∧W.cell? ⟨w.heap.size,1,none⟩=some (.int .i64 file)):=fun W hb=>by
  have e:W.heap[w.heap.size]?=some (qo kind file st lf):=(hb.block _ (by simp)).trans (heap_alloc_new w _)
  unfold qo at e;refine⟨?_,?_⟩<;>(rw[cell_of_row _ _ _ _ _ _ e];rfl)
 rcases hE with⟨rfl,rfl⟩|⟨rfl,rfl⟩|⟨rfl,rfl⟩
 ·obtain⟨gb,ob,rfl,hcb⟩:=h2 0 (by simp)
  have hcb':w.cell? ⟨gb,ob,none⟩=some (.int .i64 file):=hcb;have hbl:gb<w.heap.size:=World.block_lt_of_cell? _ _ hcb';have HCB:Hid (∀ W:World,Below w.heap.size w W→W.cell? ⟨gb,ob,none⟩=some (.int .i64 file)):=fun W hb=>(hb.cell (p:=⟨gb,ob,none⟩) hbl).trans hcb'
  clear h1 h2 hcb hcb' hne h5 hc hc1;unfold qo at HB0 HBX;show Calls _ _ #[_,.slice _ 1 c2,_] _ _
  go_enter Tryz.func50,Tryz.ntmps50
  obtain⟨x0,x1⟩:=HBX.out _ (Below.refl _ _);have x2:=HCB.out _ HB0.out;have gf:(file==file)=true:=by simp
  clear HBX HCB;go_wp2
  generalize w.alloc (.cells #[.int .i64 1,.int .i64 file,.int .i64 st,.int .i64 lf] 56)=W0 at HB0 x0 x1 x2 ⊢;go_quiet (fail)
  go_wp2
  go_ret
  exact⟨rfl,below_drewN HB0.out _⟩
 ·have hA:=wE l file l.length (Nat.le_refl _)
  have HN1:Hid (∀ W:World,Below w.heap.size w W→∀ q,q<l.length→W.cell? ⟨g,o+q,none⟩=some (.int .i64 (l.getD q 0))):=fun W hb q hq=>by
   obtain⟨g',o',e1,e2⟩:=(h1.below hb) q hq;cases e1
   exact e2
  have HSN:Hid (∀(W:World) (p:Option Addr) (cc:Nat),Below w.heap.size w W→p=(if c1=dn l file l.length then some ⟨g,o,none⟩ else some ⟨g,o+dn l file l.length,none⟩)→Calls Tryz.prog 18 #[.slice b (l.drop (dn l file l.length)).length c2,.slice p (l.length-dn l file l.length) cc] W fun e w'=>e=.returned (.bool true)∧Below w.heap.size w w'):=fun W p cc hb hp=>by
   have hd:Nums W p (l.drop (dn l file l.length)):=by
    rw[hp];split
    ·next e =>
     have:l.drop (dn l file l.length)=[]:=List.drop_of_length_le (by omega)
     rw[this];exact Nums.nil _ _
    ·exact(h1.below hb).drop
   have:=Af (c1:=c2) (c2:=cc) (l.drop (dn l file l.length)) W (h2.below hb) hd (by rw[List.length_drop];omega)
   rw[show(l.drop (dn l file l.length)).length=l.length-dn l file l.length from List.length_drop] at this ⊢
   exact this.mono fun e w' ⟨e1,e2⟩=>⟨e1,hb.trans (e2.mono hb.size)⟩
  have HST:Hid (∀ q,dn l file (q+1)=if l.getD q 0=file then q else dn l file q):=fun q=>rfl
  have HS0:Hid (dn l file 0=l.length):=rfl;have HLE:Hid (∀ q,q≤l.length→dn l file q≤l.length):=wE l file;have hc1':c1≤9223372036854775807:=hc1;generalize (l.drop (dn l file l.length)).length=nl at HSN ⊢;generalize hE:dn l file=E at HSN HST HS0 HLE hA;generalize hL:(fun q=>l.getD q 0)=L at *
  have hLq:∀ q,l.getD q 0=L q:=fun q=>by rw[← hL]
  simp only[hLq] at HN1 HST;clear h1 h2 hne hc1 hE hL hLq;generalize l.length=n at *
  unfold qo at HB0 HBX;go_enter Tryz.func50,Tryz.ntmps50
  obtain⟨x0,x1⟩:=HBX.out _ (Below.refl _ _);go_wp2
  generalize w.alloc (.cells #[.int .i64 3,.int .i64 file,.int .i64 st,.int .i64 lf] 56)=W0 at HB0 HBX x0 x1 ⊢;go_loopw [7,8] (fun u i wr=>∃ q:Nat,q≤n∧i=.int .i64 (q:Int)∧u=.int .i64 ((E q:Nat):Int)∧Below W0.heap.size W0 wr) (fun _ i _=>n-(intOf i).toNat)
  case atStart=>exact⟨0,Nat.zero_le _,rfl,by rw[HS0.out],Below.refl _ _⟩
  case round =>
   obtain⟨q,hq,rfl,rfl,hbq⟩:=hrel;have j0:(0:Int)≤(q:Int):=by omega
   have j2:((q:Int)).toNat=q:=by omega
   have j3:IntKind.i64.wrap ((q:Int)+1)=(q:Int)+1:=IntWalk.i64_in _ (by omega)
   have HBQ:=ah hbq;have HBW:Hid (Below w.heap.size w wr):=HB0.out.trans (hbq.mono HB0.out.size);obtain⟨y0,y1⟩:=HBX.out wr hbq;clear hbq x0 x1;by_cases hql:q<n
   ·have cq:=HN1.out wr HBW.out q hql
    have hst:=HST.out q;have j1:(q:Int)<(n:Int):=by omega
    by_cases he:L q=file
    ·have g1:(L q==file)=true:=by simpa using he
     rw[if_pos he] at hst;have HE1:=ah hst;clear hst he HSN HN1 HST HLE;generalize L q=lq at cq g1;go_wp2
     go_quiet (fail)
     go_wp2
     refine⟨⟨q+1,by omega,by simp,by rw[HE1.out],below_drewN HBQ.out _⟩,?_⟩
     simp only[intOf];omega
    ·have g1:(L q==file)=false:=by simpa using he
     rw[if_neg he] at hst;have HE1:=ah hst;clear hst he HSN HN1 HST HLE;generalize L q=lq at cq g1;go_wp2
     go_quiet (fail)
     go_wp2
     refine⟨⟨q+1,by omega,by simp,by rw[HE1.out],below_drewN HBQ.out _⟩,?_⟩
     simp only[intOf];omega
   ·have hqe:q=n:=by omega
    subst hqe;have m5:E q≤q:=HLE.out q (Nat.le_refl _);generalize E q=A at HSN hA m5 ⊢;have m2:(0:Int)≤(A:Int):=by omega
    have m3:(A:Int)≤(q:Int):=by omega
    have m4:((A:Int)).toNat=A:=by omega
    clear HN1 HST HLE HBX HS0;by_cases hkf:c1=A
    ·have HS1:Hid (∀ cc,Calls Tryz.prog 18 #[.slice b nl c2,.slice (some ⟨g,o,none⟩) (q-A) cc] wr fun e w'=>e=.returned (.bool true)∧Below w.heap.size w w'):=fun cc=>HSN.out wr _ cc HBW.out (by rw[if_pos hkf])
     have hkf2:(c1=A)=True:=eq_true hkf;clear hkf HSN;go_wp2_with fail
     refine(HS1.out _).mono ?_;rintro e w5 ⟨rfl,hb5⟩;have HB5:=ah hb5;clear hb5 HS1;go_wp2
     go_ret
     exact⟨rfl,HB5.out⟩
    ·have HS1:Hid (∀ cc,Calls Tryz.prog 18 #[.slice b nl c2,.slice (some ⟨g,o+A,none⟩) (q-A) cc] wr fun e w'=>e=.returned (.bool true)∧Below w.heap.size w w'):=fun cc=>HSN.out wr _ cc HBW.out (by rw[if_neg hkf])
     clear HSN;go_wp2_with fail
     refine(HS1.out _).mono ?_;rintro e w5 ⟨rfl,hb5⟩;have HB5:=ah hb5;clear hb5 HS1;go_wp2
     go_ret
     exact⟨rfl,HB5.out⟩
 ·have hA:=wE l file l.length (Nat.le_refl _)
  have HN1:Hid (∀ W:World,Below w.heap.size w W→∀ q,q<l.length→W.cell? ⟨g,o+q,none⟩=some (.int .i64 (l.getD q 0))):=fun W hb q hq=>by
   obtain⟨g',o',e1,e2⟩:=(h1.below hb) q hq;cases e1
   exact e2
  have HSN:Hid (∀(W:World) (p:Addr) (cc:Nat),Below w.heap.size w W→p=(if c1=dn l file l.length then ⟨g,o,none⟩ else ⟨g,o+dn l file l.length,none⟩)→∃ g3 cap3 w3,(Builtin.append_ #[31,31] 31 #[.slice (some ⟨W.heap.size,0,none⟩) 1 1,.slice (some p) (l.length-dn l file l.length) cc]).run Tryz.prog (W.alloc (.cells #[.int .i64 (l.getD 0 0)] 3))=.ok (.slice (some ⟨g3,0,none⟩) (1+(l.length-dn l file l.length)) cap3) w3∧Calls Tryz.prog 18 #[.slice b (l.headD 0::l.drop (dn l file l.length)).length c2,.slice (some ⟨g3,0,none⟩) (1+(l.length-dn l file l.length)) cap3] w3 fun e w'=>e=.returned (.bool true)∧Below w.heap.size w w'):=fun W p cc hb hp=>by
   have hh:l.headD 0=l.getD 0 0:=by
    cases l with
    | nil=>exact absurd rfl hne
    | cons x r=>rfl
   have hdl:(l.drop (dn l file l.length)).length=l.length-dn l file l.length:=List.length_drop
   have hd:∀ j u,(oL (l.drop (dn l file l.length)))[j]?=some u→W.cell? (p.add j)=some u:=fun j u hu=>by
    by_cases e:c1=dn l file l.length
    ·have:l.drop (dn l file l.length)=[]:=List.drop_of_length_le (by omega)
     rw[this] at hu;cases hu
    ·rw[if_neg e] at hp
     have hj:j<(l.drop (dn l file l.length)).length:=by
      rcases Nat.lt_or_ge j (l.drop (dn l file l.length)).length with q|q
      ·exact q
      ·rw[List.getElem?_eq_none (by simpa [oL] using q)] at hu;cases hu
     obtain⟨g',o',e1,e2⟩:=((h1.below hb).drop (A:=dn l file l.length)) j hj;cases e1
     rw[hp,Go.WideShapes.add_plain,e2];unfold oL at hu;rw[List.getElem?_map,List.getElem?_eq_getElem hj] at hu;rw[List.getD_eq_getElem?_getD,List.getElem?_eq_getElem hj];exact hu
   obtain⟨g3,cap3,w3,r1,r2,r3⟩:=Md W (l.getD 0 0) p cc (l.drop (dn l file l.length)) (by omega) hd
   rw[hdl] at r1;refine⟨g3,cap3,w3,r1,?_⟩;have hb3:=hb.trans (r3.mono hb.size);have:=Af (c1:=c2) (c2:=cap3) (l.headD 0::l.drop (dn l file l.length)) w3 (h2.below hb3) (by rw[hh];exact r2) (by simp only[List.length_cons];omega)
   rw[show(l.headD 0::l.drop (dn l file l.length)).length=1+(l.length-dn l file l.length) by simp only[List.length_cons];omega] at this ⊢
   exact this.mono fun e w' ⟨e1,e2⟩=>⟨e1,hb3.trans (e2.mono hb3.size)⟩
  have hn0:0<l.length:=List.length_pos_iff.2 hne;have HST:Hid (∀ q,dn l file (q+1)=if l.getD q 0=file then q else dn l file q):=fun q=>rfl
  have HS0:Hid (dn l file 0=l.length):=rfl;have HLE:Hid (∀ q,q≤l.length→dn l file q≤l.length):=wE l file;have hc1':c1≤9223372036854775807:=hc1;generalize (l.headD 0::l.drop (dn l file l.length)).length=nl at HSN ⊢;generalize hE:dn l file=E at HSN HST HS0 HLE hA;generalize hL:(fun q=>l.getD q 0)=L at *
  have hLq:∀ q,l.getD q 0=L q:=fun q=>by rw[← hL]
  simp only[hLq] at HN1 HST HSN;clear h1 h2 hne hc1 hE hL hLq;generalize l.length=n at *
  unfold qo at HB0 HBX;go_enter Tryz.func50,Tryz.ntmps50
  obtain⟨x0,x1⟩:=HBX.out _ (Below.refl _ _);go_wp2
  generalize w.alloc (.cells #[.int .i64 2,.int .i64 file,.int .i64 st,.int .i64 lf] 56)=W0 at HB0 HBX x0 x1 ⊢;go_loopw [7,8] (fun u i wr=>∃ q:Nat,q≤n∧i=.int .i64 (q:Int)∧u=.int .i64 ((E q:Nat):Int)∧Below W0.heap.size W0 wr) (fun _ i _=>n-(intOf i).toNat)
  case atStart=>exact⟨0,Nat.zero_le _,rfl,by rw[HS0.out],Below.refl _ _⟩
  case round =>
   obtain⟨q,hq,rfl,rfl,hbq⟩:=hrel;have j0:(0:Int)≤(q:Int):=by omega
   have j2:((q:Int)).toNat=q:=by omega
   have j3:IntKind.i64.wrap ((q:Int)+1)=(q:Int)+1:=IntWalk.i64_in _ (by omega)
   have HBQ:=ah hbq;have HBW:Hid (Below w.heap.size w wr):=HB0.out.trans (hbq.mono HB0.out.size);obtain⟨y0,y1⟩:=HBX.out wr hbq;clear hbq x0 x1;by_cases hql:q<n
   ·have cq:=HN1.out wr HBW.out q hql
    have hst:=HST.out q;have j1:(q:Int)<(n:Int):=by omega
    by_cases he:L q=file
    ·have g1:(L q==file)=true:=by simpa using he
     rw[if_pos he] at hst;have HE1:=ah hst;clear hst he HSN HN1 HST HLE;generalize L q=lq at cq g1;go_wp2
     go_quiet (fail)
     go_wp2
     refine⟨⟨q+1,by omega,by simp,by rw[HE1.out],below_drewN HBQ.out _⟩,?_⟩
     simp only[intOf];omega
    ·have g1:(L q==file)=false:=by simpa using he
     rw[if_neg he] at hst;have HE1:=ah hst;clear hst he HSN HN1 HST HLE;generalize L q=lq at cq g1;go_wp2
     go_quiet (fail)
     go_wp2
     refine⟨⟨q+1,by omega,by simp,by rw[HE1.out],below_drewN HBQ.out _⟩,?_⟩
     simp only[intOf];omega
   ·have hqe:q=n:=by omega
    subst hqe;have m5:E q≤q:=HLE.out q (Nat.le_refl _);generalize E q=A at HSN hA m5 ⊢;have m2:(0:Int)≤(A:Int):=by omega
    have m3:(A:Int)≤(q:Int):=by omega
    have m4:((A:Int)).toNat=A:=by omega
    have q0:(0:Int)<(q:Int):=by omega
    have cq:wr.cell? ⟨g,o,none⟩=some (.int .i64 (L 0)):=HN1.out wr HBW.out 0 (by omega)
    have cd:wr.drew.cell? ⟨g,o,none⟩=some (.int .i64 (L 0)):=cq;clear HN1 HST HLE HBX HS0;generalize L 0=L0 at cq cd HSN;by_cases hkf:c1=A
    ·obtain⟨g3,cap3,w3,hrun,hcall⟩:=HSN.out wr.drew _ (c1-A) HBW.out.drew rfl
     rw[if_pos hkf] at hrun;have HR:=ah hrun;have HCL:=ah hcall;have hkf2:(c1=A)=True:=eq_true hkf;clear hkf HSN hrun hcall;go_wp2
     go_region_law (first
      | (refine FX (by rfl) (.tmp 51) (.tmp 54) 31 31 (by rfl) (by rfl) (by rfl) (by rfl) HR.out ?_)
      | (go_simp;go_at_call 18;refine HCL.out.mono ?_;rintro e w5 ⟨rfl,hb5⟩;have HB5:=ah hb5;clear hb5))
     all_goals
      go_wp2
      go_ret
      exact⟨rfl,HB5.out⟩
    ·obtain⟨g3,cap3,w3,hrun,hcall⟩:=HSN.out wr.drew _ (c1-A) HBW.out.drew rfl
     rw[if_neg hkf] at hrun;have HR:=ah hrun;have HCL:=ah hcall;clear HSN hrun hcall;go_wp2
     go_region_law (first
      | (refine FX (by rfl) (.tmp 51) (.tmp 54) 31 31 (by rfl) (by rfl) (by rfl) (by rfl) HR.out ?_)
      | (go_simp;go_at_call 18;refine HCL.out.mono ?_;rintro e w5 ⟨rfl,hb5⟩;have HB5:=ah hb5;clear hb5))
     all_goals
      go_wp2
      go_ret
      exact⟨rfl,HB5.out⟩
end Go.Proofs.YtonhoahnieoebabGreatDoor
