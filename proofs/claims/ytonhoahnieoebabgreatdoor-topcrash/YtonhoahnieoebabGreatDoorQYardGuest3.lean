/- A yard as its guest sees it (W1): what is seen through the chain behind each call. -/
import Derived.Test.YtonhoahnieoebabGreatDoorQYardSafe
namespace Go.Proofs.YtonhoahnieoebabGreatDoor
open Go.RowKit
structure mJ(s:SV)(C:Nat)(j:JV):Prop where
 same:Same s C j
 str:j.kind=2→1≤j.deep
 com:j.kind=3→∃ q,j.l.drop j.deep=j.file::q
 str2:j.kind=2→(j.file = -1∧j.l.drop j.deep=[])∨∃ q,j.l.drop j.deep=j.file::q
theorem mJ.as{s z:SV}{C:Nat}{j a:JV}(h:mJ s C j)(hs:Same z C a)(hl:a.l=j.l)(hk:iD a=iD j)(hd:a.deep=j.deep):mJ z C a:=by
 have hkind:a.kind=j.kind:=by have:=congrArg aT.kind hk;exact this
 have hfile:a.file=j.file:=by have:=congrArg aT.file hk;exact this
 exact⟨hs,fun x=>by rw[hd];exact h.str (by rw[← hkind];exact x),fun x=>by rw[hd,hl,hfile];exact h.com (by rw[← hkind];exact x),fun x=>by rw[hd,hl,hfile];exact h.str2 (by rw[← hkind];exact x)⟩
structure YG(y:YV)(C m:Nat):Prop where
 ok:YOk y C m
 safe:aZ y.s
 job:∀ j,y.j=some j→j.stage<4→mJ y.s C j
theorem YG.go{y:YV}{C m:Nat}(h:YG y C m){j:JV}(hj:y.j=some j)(hg:j.stage<4):JGo y.s C m j:=by
 have hin:=h.ok.job j hj hg
 have hh:=h.job j hj hg
 refine⟨hin.ok,h.ok.s,by rw[hin.lst];exact h.ok.ch.nodup,fun n v hv=>h.safe.tab hv,fun e=>?_,hh.str,hh.com⟩
 have hk:y.kd.kind=1:=by rw[← hin.dsk];exact e
 have hf:y.kd.file=j.file:=by rw[← hin.dsk];rfl
 obtain⟨v,h1,_,h3,h4⟩:=hin.tgt.mir hk
 rw[hf] at h1 h4
 exact⟨by rw[hin.lst];exact h4,v,h1,h3⟩
theorem YG.top{y:YV}{C m:Nat}(h:YG y C m):∃ r,y.l=y.kd.root::r∧fD y.s C m y.kd.root r:=by
 obtain⟨r,e⟩:=h.ok.ch.head
 obtain⟨v,h1,_⟩:=h.ok.ch.root
 obtain⟨U,hs⟩:=h.safe.file h1
 have hg:=h.ok.ch.good
 have hn:=h.ok.ch.nodup
 rw[e] at hg hn
 exact⟨r,e,.of h.ok.s hg h1 (List.nodup_cons.1 hn).1 hs⟩
theorem YG.write{y:YV}{C m:Nat}(h:YG y C m){fr:Nat}{t:ByteArray}(ht:t.size % 16=0)(hf:y.s.bT y.l (fr:Int) ((t.size / 16:Nat):Int)=0)(hm:m+10*(t.size / 16)≤1000000000) :
  Laid y.s (y.write (fr:Int) t).s C y.l fr (fr+t.size / 16) (fun k=>chunk t (k-fr)) (y.dw (fr:Int) t=0)∧YG (y.write (fr:Int) t) C (m+10*(t.size / 16))∧(y.write (fr:Int) t).l=y.l:=by
 obtain⟨r,el,hT⟩:=h.top
 have hok:=h.ok.write (fr:Int) t hm
 have e1:y.write (fr:Int) t=({ y with s:=(y.s.put y.l (fr:Int) t).1 }:YV).mark fr (t.size / 16):=by
  unfold YV.write
  rw[if_pos ⟨ht,hf⟩]
  rfl
 have e2:y.dw (fr:Int) t=(y.s.put y.l (fr:Int) t).2:=by
  unfold YV.dw
  rw[if_pos ⟨ht,hf⟩]
 have es:(y.write (fr:Int) t).s=(y.s.put y.l (fr:Int) t).1:=by rw[e1];rfl
 have hf':=hf
 rw[el] at hf'
 refine⟨?_,⟨hok,by rw[es];exact h.safe.put h.ok.s _ _ _ hm,fun a ha hg=>?_⟩,by rw[e1];rfl⟩
 ·rw[es,e2,el]
  exact(QY hT ht hf' hm).1
 ·rw[es]
  have ha':(y.j.map fun j=>dF j fr (t.size / 16))=some a:=by rw[e1] at ha;exact ha
  cases hj:y.j with
  | none=>rw[hj] at ha';cases ha'
  | some j =>
   rw[hj] at ha'
   have e:dF j fr (t.size / 16)=a:=Option.some.inj ha'
   obtain⟨d1,d2,d3,d4⟩:=qJ j fr (t.size / 16)
   have hgj:j.stage<4:=by rw[← d3,e];exact hg
   have hgo:=h.go hj hgj
   have hh:=h.job j hj hgj
   have hin:=h.ok.job j hj hgj
   have hS:=Root.same hgo hgj (n:=y.kd.root) (r:=r) (by rw[hin.lst,el]) (Sl hT ht hf' hm) hh.same
   have hdeep:∀ k,(dF j fr k).deep=j.deep:=by
    intro k
    induction k with
    | zero=>rfl
    | succ k ih =>
     show(dA _ _).deep=_
     unfold dA
     split<;>exact ih
   rw[← e]
   exact hh.as (by rw[el];exact hS) d1 d2 (hdeep _)
theorem zT(y:YV)(f back:Int)(c i:Nat):(y.blank f back).s.view c i y.l=y.s.view c i y.l:=by
 unfold YV.blank
 split
 ·next hx =>
  split
  ·rfl
  ·next hu =>
   obtain⟨hn,_⟩:=rM hu
   split
   ·exact sK fun n hm=>by
     show(y.s.upd f.toNat _).file n=_
     rw[pK _ hx.1 hx.2,if_neg (fun (e:n=f)=>hn (e▸hm))]
   ·exact sK fun n hm=>by
     show(y.s.gone f.toNat).file n=_
     rw[xC _ hx.1 hx.2,if_neg (fun (e:n=f)=>hn (e▸hm))]
 ·rfl
theorem DW{s:SV}{f:Int}{d:DV}{h:HV}{l:List Int}(hf:s.file f=some (crV d h))(c i:Nat):s.view c i (f::l)=s.view c i l:=by
 rw[jH hf]
 have ht:(crV d h).t=crT h:=by
  unfold crV IV.gW
  split<;>rfl
 rw[ht]
 have:(crT h).getD c (0,0)=(0,0):=by
  unfold crT
  rw[List.getD_eq_getElem?_getD]
  cases hx:(List.replicate h.c.toNat ((0:Int),(0:Int)))[c]? with
  | none=>rfl
  | some e =>
   have:=List.mem_of_getElem? hx
   rw[List.eq_of_mem_replicate this];rfl
 rw[this,if_pos rfl]
theorem FZ{s:SV}{C root:Int}{j:JV}(h:Chain s C root j.l)(h2:j.kind=2)(hd:1≤j.deep)(hs:(j.file = -1∧j.l.drop j.deep=[])∨∃ q,j.l.drop j.deep=j.file::q)(hw:(bQ s root j.file).2=0):Chain (bQ s root j.file).1 C root (dn j):=by
 obtain⟨r,el⟩:=h.head
 have et:dn j=root::j.l.drop j.deep:=by
  unfold dn
  rw[if_neg (by omega),if_pos h2,el];rfl
 rw[et]
 rcases hs with⟨e,e2⟩|⟨q,e⟩
 ·rw[e2]
  rw[e] at hw ⊢
  exact h.Fv hw
 ·rw[e]
  have hsplit:j.l=root::r.take (j.deep-1)++j.file::q:=by
   rw[← e]
   obtain⟨k,hk⟩:∃ k,j.deep=k+1:=⟨j.deep-1,by omega⟩
   rw[hk,el]
   show root::r=root::(r.take k++r.drop k)
   rw[List.take_append_drop]
  rw[hsplit] at h
  exact h.linked (p:=r.take (j.deep-1)) (q:=q) hw
theorem F6(s:SV)(j:JV):(stepJ s j).deep=j.deep:=by
 have a:∀ c,(j.went c).deep=j.deep:=fun _=>rfl
 have b:j.fell.deep=j.deep:=rfl
 unfold stepJ
 by_cases h1:j.stage=1∧j.some=true∧S4.inB 4 j.lv=true
 ·rw[if_pos h1]
  by_cases g:j.fA s j.pick=true∧(j.moved s j.pick).2≠0
  ·rw[if_pos g];exact b
  ·rw[if_neg g];exact a _
 ·rw[if_neg h1]
theorem YG.step{y:YV}{C m:Nat}(h:YG y C m)(hm:m+30<1000000000):YG y.step C (m+21)∧∀ c,c<C→∀ i,i<4→y.step.s.view c i y.step.l=y.s.view c i y.l:=by
  have hok:=h.ok.step hm
  cases hj:y.j with
  | none =>
    have e:y.step=y:=by unfold YV.step;rw[hj]
    rw[e] at hok ⊢
    exact⟨⟨hok,h.safe,h.job⟩,fun _ _ _ _=>rfl⟩
  | some j =>
    by_cases hx:4≤j.stage
    · have e:y.step=y:=by unfold YV.step;rw[hj];simp only;rw[if_pos hx]
      rw[e] at hok ⊢
      exact⟨⟨hok,h.safe,h.job⟩,fun _ _ _ _=>rfl⟩
    · have hgj:j.stage<4:=by omega
      have hgo:=h.go hj hgj
      have hh:=h.job j hj hgj
      have hin:=h.ok.job j hj hgj
      have hz:=h.safe.step h.ok.s (show m+10≤1000000000 by omega) j
      have hzok:=h.ok.s.step j (show m+10≤1000000000 by omega)
      have hv:∀ c,c<C→∀ i,i<4→(stepS y.s j).view c i y.l=y.s.view c i y.l:=fun c hc i hi=>by
        have:=Ef hgo (show m+10≤1000000000 by omega) hc hi
        rw[hin.lst] at this;exact this
      have hha:(stepJ y.s j).stage<4→mJ (stepS y.s j) C (stepJ y.s j):=fun hg =>
        hh.as (Dp hgo (by omega) hh.same hg) (jT _ _).1 (jT _ _).2 (F6 _ _)
      have plain:∀(Y:YV),Y.s=stepS y.s j→Y.l=y.l→Y.j=some (stepJ y.s j)→YOk Y C (m+21)→YG Y C (m+21)∧∀ c,c<C→∀ i,i<4→Y.s.view c i Y.l=y.s.view c i y.l:=fun Y e1 e2 e3 hY=>by
        refine⟨⟨hY,by rw[e1];exact hz,fun b hb hg=>?_⟩,fun c hc i hi=>by rw[e1,e2];exact hv c hc i hi⟩
        rw[e3] at hb
        cases hb
        rw[e1];exact hha hg
      have est:y.step=(if fE y.s j≠0 then (if (stepJ y.s j).stage=5 then ({ y with s:=stepS y.s j,j:=some (stepJ y.s j) }:YV).aj (ak y.kd.root) else { y with s:=stepS y.s j,j:=some (stepJ y.s j) })
          else if y.kd.kind≠2∨(stepJ y.s j).state≠3 then { y with s:=stepS y.s j,j:=some (stepJ y.s j) }
          else if dH (stepS y.s j) (stepJ y.s j)≠0 then ({ y with s:=aH (stepS y.s j) (stepJ y.s j),j:=some (aO (stepS y.s j) (stepJ y.s j)) }:YV).aj (ak y.kd.root)
          else { ({ y with s:=aH (stepS y.s j) (stepJ y.s j),l:=((aH (stepS y.s j) (stepJ y.s j)).walk y.kd.root).1,j:=some ((aO (stepS y.s j) (stepJ y.s j)).at 4) }:YV).aj (ak y.kd.root) with kd:=ak y.kd.root }):=by
        unfold YV.step
        rw[hj]
        simp only
        rw[if_neg hx]
      rw[est] at hok ⊢
      clear est
      split
      · next c1 =>
        rw[if_pos c1] at hok
        split
        · next c2 =>
          rw[if_pos c2] at hok
          obtain⟨d1,_,d3,d4⟩:=iH { y with s:=stepS y.s j,j:=some (stepJ y.s j) } (ak y.kd.root)
          exact plain _ d1 d3 d4 hok
        · next c2=>rw[if_neg c2] at hok;exact plain _ rfl rfl rfl hok
      · next c1 =>
        rw[if_neg c1] at hok
        split
        · next c2=>rw[if_pos c2] at hok;exact plain _ rfl rfl rfl hok
        · next c2 =>
          rw[if_neg c2] at hok
          rw[not_or] at c2
          have hk2:y.kd.kind=2:=Classical.byContradiction c2.1
          have hs3:(stepJ y.s j).state=3:=Classical.byContradiction c2.2
          have hst:(stepJ y.s j).stage<4:=by
            unfold JV.state at hs3
            split at hs3
            · next e=>omega
            · omega
          have hh2:=hha hst
          have hla:(stepJ y.s j).l=y.l:=(jT y.s j).1.trans hin.lst
          have hka:iD (stepJ y.s j)=y.kd:=(jT y.s j).2.trans hin.dsk
          have hcz:Chain (stepS y.s j) C y.kd.root y.l:=h.ok.ch.over (.step _ _ _)
          generalize ea:stepJ y.s j=a at hok hs3 hh2 hla hka hst ⊢
          generalize ez:stepS y.s j=z at hok hh2 hcz hz hzok hv ⊢
          have ha2:a.kind=2:=by rw[← hk2,← hka];rfl
          have haf:y.kd.file=a.file:=by rw[← hka];rfl
          have hhd:a.l.headD 0=y.kd.root:=by
            obtain⟨r,e⟩:=hcz.head
            rw[hla,e];rfl
          obtain⟨es,ef⟩:=xG (s:=z) hs3 ha2
          rw[hhd] at es ef
          rw[ef,es] at hok ⊢
          have hlv:∀ c i,i<4→∀ l,z.good (C:Int) l→(bQ z y.kd.root a.file).1.view c i l=z.view c i l:=fun c i hi l hg=>TN z _ _ c i hi hg
          split
          · next hf =>
            rw[if_pos hf] at hok
            have hJ:=xB (s:=z) hs3 ha2 (by rw[hhd];exact hf)
            rw[hJ] at hok ⊢
            obtain⟨d1,_,d3,d4⟩:=iH { y with s:=(bQ z y.kd.root a.file).1,j:=some (a.at 5) } (ak y.kd.root)
            refine⟨⟨hok,by rw[d1];exact hz.link hzok _ _,fun b hb hg=>?_⟩,fun c hc i hi=>?_⟩
            · rw[d4] at hb
              cases hb
              exact absurd hg (by show ¬(5:Int)<4;decide)
            · rw[d1,d3]
              exact(hlv c i hi y.l hcz.good).trans (hv c hc i hi)
          · next hf =>
            rw[if_neg hf] at hok
            have hf0:(bQ z y.kd.root a.file).2=0:=Classical.byContradiction hf
            have hJ:=Ac (s:=z) (j:=a) (by rw[hhd];exact hf0)
            rw[hJ] at hok ⊢
            have hcl:Chain z C y.kd.root a.l:=by rw[hla];exact hcz
            have hq:=FZ hcl ha2 (hh2.str ha2) (hh2.str2 ha2) hf0
            have hwq:((bQ z y.kd.root a.file).1.walk y.kd.root).1=dn a:=by rw[hq.walk]
            rw[hwq] at hok ⊢
            obtain⟨d1,_,d3,d4⟩:=iH { y with s:=(bQ z y.kd.root a.file).1,l:=dn a,j:=some (a.at 4) } (ak y.kd.root)
            refine⟨⟨hok,?_,fun b hb hg=>?_⟩,fun c hc i hi=>?_⟩
            · show aZ (YV.aj _ _).s
              rw[d1];exact hz.link hzok _ _
            · have hb':(YV.aj _ _).j=some b:=hb
              rw[d4] at hb'
              cases hb'
              exact absurd hg (by show ¬(4:Int)<4;decide)
            · show(YV.aj _ _).s.view c i (YV.aj _ _).l=_
              rw[d1,d3]
              have hgt:z.good (C:Int) (dn a):=by
                intro k hk
                have:k∈y.kd.root::a.l.drop a.deep:=by
                  unfold dn at hk
                  rw[if_neg (by omega),if_pos ha2,hhd] at hk;exact hk
                rcases List.mem_cons.1 this with e|e
                · obtain⟨w,h1,h2⟩:=hcz.root
                  exact⟨w,by rw[e];exact h1,h2⟩
                · exact hcz.good k (by rw[← hla];exact List.mem_of_mem_drop e)
              have hcnt:S4.cnt a.x 64=0:=by
                unfold JV.state at hs3
                split at hs3
                · next e=>exact e.2
                · next e =>
                  have:=(hin.ok.step).stage
                  rw[ea] at this
                  omega
              have hC:C≤64:=by have:=hin.ok.c40;omega
              have:=hh2.same.done hcnt hC hc hi
              rw[hla] at this
              exact(hlv c i hi _ hgt).trans (this.trans (hv c hc i hi))
theorem zO{j:JV}(h:j.state=3)(hs:j.stage=1∨j.stage=2∨j.stage=4∨j.stage=5):S4.cnt j.x 64=0:=by
 unfold JV.state at h
 split at h
 ·next e=>exact e.2
 ·omega
theorem JGo.pivots{s:SV}{C m:Nat}{root:Int}{j:JV}(h:JGo s C m j)(hc:Chain s C root j.l)(h2:j.kind≠2)(hb:j.kind=1→∀ v,s.file j.file=some v→v.h.b = -1):Chain s C j.file (dn j):=by
 unfold dn
 rcases h.ok.kind with e|e|e
 ·rw[if_pos e]
  obtain⟨_,v,h1,h3⟩:=h.mir e
  rw[← h3]
  exact Chain.one h1 (hb e v h1)
 ·exact absurd e h2
 ·rw[if_neg (by omega),if_neg (by omega)]
  obtain⟨q,hq⟩:=h.com e
  rw[hq]
  have hsplit:j.l=j.l.take j.deep++j.file::q:=by rw[← hq,List.take_append_drop]
  rw[hsplit] at hc
  exact hc.drop
theorem YG.pivot{y:YV}{C m:Nat}(h:YG y C m)(hm:m+20<1000000000):YG y.pivot C (m+11)∧∀ c,c<C→∀ i,i<4→y.pivot.s.view c i y.pivot.l=y.s.view c i y.l:=by
 have hok:=h.ok.pivot hm
 cases hj:y.j with
 | none =>
  have e:y.pivot=y:=by unfold YV.pivot;rw[hj]
  rw[e] at hok ⊢
  exact⟨⟨hok,h.safe,h.job⟩,fun _ _ _ _=>rfl⟩
 | some j =>
  by_cases hx:4≤j.stage∨y.kd.kind=2
  ·have e:y.pivot=y:=by unfold YV.pivot;rw[hj];simp only;rw[if_pos hx]
   rw[e] at hok ⊢
   exact⟨⟨hok,h.safe,h.job⟩,fun _ _ _ _=>rfl⟩
  ·have est:y.pivot=(if dH y.s j≠0 then { y with s:=aH y.s j,j:=some (aO y.s j) } else ({ y with s:=aH y.s j,j:=some (aO y.s j) }:YV).over y.kd.file 4):=by
    unfold YV.pivot
    rw[hj]
    simp only
    rw[if_neg hx]
   rw[not_or] at hx
   have hgj:j.stage<4:=by omega
   have hgo:=h.go hj hgj
   have hh:=h.job j hj hgj
   have hin:=h.ok.job j hj hgj
   have hk:j.kind=y.kd.kind:=by rw[← hin.dsk];rfl
   have hkf:y.kd.file=j.file:=by rw[← hin.dsk];rfl
   have hj2:j.kind≠2:=by rw[hk];exact hx.2
   have hJ:aO y.s j=j:=by
    unfold aO
    rw[if_neg (fun e=>hj2 e.2.1)]
   have hS:∀ l,bI l y.s (aH y.s j):=fun l=>by
    unfold aH
    split
    ·exact .bV l _ _
    ·exact .refl l _
   have hV:∀ c i,i<4→∀ l,y.s.good (C:Int) l→(aH y.s j).view c i l=y.s.view c i l:=fun c i hi l hg=>by
    unfold aH
    split
    ·exact uQ c i hi _ _ hg
    ·rfl
   have hz:=h.safe.settle h.ok.s j
   obtain⟨r,v,etl,_,_,_,hgt⟩:=hgo.form
   have hgt':y.s.good (C:Int) (dn j):=by rw[etl];exact hgt
   have hsame:Same (aH y.s j) C j:=fun c hc hb i hi=>by
    rw[hV c i hi _ hgt',hV c i hi _ hin.ok.good]
    exact hh.same c hc hb i hi
   have hhz:mJ (aH y.s j) C j:=hh.as hsame rfl rfl rfl
   rw[est,hJ] at hok ⊢
   clear est
   split
   ·next hf =>
    rw[if_pos hf] at hok
    refine⟨⟨hok,hz,fun b hb _=>?_⟩,fun c hc i hi=>hV c i hi _ h.ok.ch.good⟩
    cases hb;exact hhz
   ·next hf =>
    rw[if_neg hf] at hok
    have hs3:j.state=3:=by
     have hf0:dH y.s j=0:=Classical.byContradiction hf
     unfold dH at hf0
     split at hf0
     ·next e=>exact e
     ·cases hf0
    unfold YV.over at hok ⊢
    obtain⟨d1,_,d3,d4⟩:=iH { y with s:=aH y.s j,j:=some j } (ak y.kd.file)
    split
    ·next hd =>
     rw[if_pos hd] at hok
     have hcj:Chain y.s C y.kd.root j.l:=by rw[hin.lst];exact h.ok.ch
     have hbk:j.kind=1→∀ v,y.s.file j.file=some v→v.h.b = -1:=fun e v hv=>by
      obtain⟨u,h1,h3,_⟩:=hin.tgt.mir (by rw[← hk];exact e)
      rw[hkf,hv] at h1
      cases h1;exact h3
     have hp:=(hgo.pivots hcj hj2 hbk).over (hS _)
     have hw:((aH y.s j).walk y.kd.file).1=dn j:=by rw[hkf,hp.walk]
     refine⟨⟨hok,?_,fun b hb hg=>?_⟩,fun c hc i hi=>?_⟩
     ·show aZ (YV.aj _ _).s
      rw[d1];exact hz
     ·have hb':some (j.at 4)=some b:=hb
      cases hb'
      exact absurd hg (by show ¬(4:Int)<4;decide)
     ·show(YV.aj _ _).s.view c i ((aH y.s j).walk y.kd.file).1=_
      rw[d1,hw]
      show(aH y.s j).view c i (dn j)=_
      have:=hsame.done (zO hs3 hin.ok.stage) (by have:=hin.ok.c40;omega) hc hi
      rw[this,hin.lst]
      exact hV c i hi _ h.ok.ch.good
    ·next hd =>
     rw[if_neg hd] at hok
     refine⟨⟨hok,by rw[d1];exact hz,fun b hb _=>?_⟩,fun c hc i hi=>by rw[d1,d3];exact hV c i hi _ h.ok.ch.good⟩
     rw[d4] at hb
     cases hb
     rw[d1];exact hhz
def mY(y z:YV)(C:Nat):Prop:=∀ c,c<C→∀ i,i<4→z.s.view c i z.l=y.s.view c i y.l
theorem ES{s:SV}{d:aT}{C m:Nat}(hk:xU s d m)(h:JOk s C (dW s d)):mJ s C (iI s d):=by
 have hnd:=Linked.nodup _ _ (SV.rY hk.w0)
 have hl:(iI s d).l=(s.walk d.root).1:=rfl
 have hdp:(iI s d).deep=mg (s.walk d.root).1 d:=rfl
 have drop_at:∀(l:List Int) (k:Nat),k<l.length→l.getD k 0=d.file→l.drop k=d.file::l.drop (k+1):=fun l k hk' hd=>by
  rw[List.getD_eq_getElem?_getD,List.getElem?_eq_getElem hk'] at hd
  have hd':l[k]=d.file:=hd
  rw[List.drop_eq_getElem_cons hk',hd']
 have hck:=hk.ck
 unfold lS at hck
 have pos:∀ l:List Int,l≠[]→1≤l.length:=fun l h=>by
  cases l with
  | nil=>exact absurd rfl h
  | cons x r=>simp
 have hstr:d.kind=2→1≤mg (s.walk d.root).1 d∧((d.file = -1∧(s.walk d.root).1.drop (mg (s.walk d.root).1 d)=[])∨∃ q,(s.walk d.root).1.drop (mg (s.walk d.root).1 d)=d.file::q):=fun e=>by
  rw[if_neg (by omega),if_pos (.inl e)] at hck
  unfold mg
  rw[if_neg (by omega)]
  split at hck
  ·next hx =>
   rcases rO _ d.file hnd with⟨e1,e2⟩|⟨k,e1,e2,e3⟩
   ·rw[if_pos e1]
    refine⟨pos _ hk.ne,.inl ⟨?_,List.drop_length⟩⟩
    rcases hx with hx|hx
    ·exact hx.2
    ·exact absurd (List.mem_of_mem_drop (i:=1) (by simpa using hx)) e2
   ·rw[e1,if_neg (by omega),show((k:Int)).toNat=k by omega]
    refine⟨?_,.inr ⟨_,drop_at _ k e2 e3⟩⟩
    rcases hx with hx|hx
    ·obtain⟨v,hv,_⟩:=(s.walk_good d.root).1 d.file (by
      rw[List.getD_eq_getElem?_getD,List.getElem?_eq_getElem e2] at e3
      have e3':(s.walk d.root).1[k]=d.file:=e3
      rw[← e3'];exact List.getElem_mem e2)
     have:=(SV.dK hv).1
     omega
    ·have:=(Gm hnd).1 hx
     omega
  ·cases hck
 refine⟨SS h (fun e=>(hstr e).1),fun e=>(hstr e).1,fun e=>?_,fun e=>(hstr e).2⟩
 have e':d.kind=3:=e
 rw[if_neg (by omega),if_pos (.inr e')] at hck
 rw[hl,hdp]
 unfold mg
 rw[if_neg (by omega)]
 split at hck
 ·next hx =>
  rcases hx with hx|hx
  ·have:=hx.1;omega
  ·have h1:=(Gm hnd).1 hx
   rcases rO _ d.file hnd with⟨e1,_⟩|⟨k,e1,e2,e3⟩
   ·omega
   ·rw[e1,if_neg (by omega),show((k:Int)).toNat=k by omega]
    exact⟨_,drop_at _ k e2 e3⟩
 ·cases hck
theorem mJ.at{s:SV}{C:Nat}{j:JV}(h:mJ s C j)(st:Int):mJ s C (j.at st):=⟨h.same,h.str,h.com,h.str2⟩
theorem YG.start{y:YV}{C m:Nat}(h:YG y C m){d:aT}(hr:d.root=y.kd.root)(hm:m<1000000000):YG (y.start d) C (m+1)∧mY y (y.start d) C:=by
 have hok:=h.ok.start hr hm
 unfold YV.start at hok ⊢
 split
 ·next h0 =>
  rw[if_pos h0] at hok
  have hn:newF y.s d=0:=by
   unfold YV.mM at h0
   split at h0
   ·cases h0
   ·split at h0
    ·cases h0
    ·split at h0
     ·exact h0
     ·next hf=>exact absurd h0 hf
  have hin:=yK h.ok hr hn (st:=1) (.inl rfl)
  obtain⟨d1,_,d3,d4⟩:=iH y d
  split
  ·next hd =>
   rw[if_pos hd] at hok
   refine⟨⟨hok,by show aZ (y.aj d).s;rw[d1];exact h.safe,fun b hb _=>?_⟩,fun c _ i _=>by show(y.aj d).s.view c i (y.aj d).l=_;rw[d1,d3]⟩
   have hb':some ((iI y.s d).at 1)=some b:=hb
   cases hb'
   show mJ (y.aj d).s C _
   rw[d1]
   have hk:=vJ h.ok.s hn
   obtain⟨C',k1,k2,_⟩:=hk.jok
   have hC:C'=C:=by
    have hl:(y.s.walk d.root).1=y.l:=by rw[hr,h.ok.ch.walk]
    rw[hl,h.ok.ch.good.fU h.ok.ch.ne] at k2
    omega
   subst hC
   exact(ES hk k1).at 1
  ·next hd =>
   rw[if_neg hd] at hok
   exact⟨⟨hok,by rw[d1];exact h.safe,by rw[d4,d1];exact h.job⟩,fun c _ i _=>by rw[d1,d3]⟩
 ·next h0 =>
  rw[if_neg h0] at hok
  exact⟨⟨hok,h.safe,h.job⟩,fun _ _ _ _=>rfl⟩
theorem YG.flush{y:YV}{C m:Nat}(h:YG y C m):YG y.flush C m∧mY y y.flush C:=by
 refine⟨⟨h.ok.flush,aZ.bV _ h.safe h.ok.s,fun j hj hg=>?_⟩,fun c _ i hi=>uQ c i hi _ _ h.ok.ch.good⟩
 have hh:=h.job j hj hg
 have hin:=h.ok.job j hj hg
 obtain⟨r,v,etl,_,_,_,hgt⟩:=(h.go hj hg).form
 refine hh.as (fun c hc hb i hi=>?_) rfl rfl rfl
 show(y.s.bV y.l).view c i (dn j)=(y.s.bV y.l).view c i j.l
 rw[uQ c i hi _ _ (show y.s.good (C:Int) (dn j) by rw[etl];exact hgt),uQ c i hi _ _ hin.ok.good]
 exact hh.same c hc hb i hi
theorem YG.cancel{y:YV}{C m:Nat}(h:YG y C m)(hm:m<1000000000):YG y.cancel C (m+1)∧mY y y.cancel C:=by
 have hok:=h.ok.cancel hm
 unfold YV.cancel at hok ⊢
 split
 ·next hb =>
  rw[if_pos hb] at hok
  unfold YV.over at hok ⊢
  obtain⟨d1,_,d3,d4⟩:=iH y (ak y.kd.root)
  split
  ·next hd =>
   rw[if_pos hd] at hok
   refine⟨⟨hok,by show aZ (y.aj _).s;rw[d1];exact h.safe,fun b hb' hg=>?_⟩,fun c _ i _=>?_⟩
   ·have hb2:(y.j.map fun j=>j.at 5)=some b:=hb'
    cases hj:y.j with
    | none=>rw[hj] at hb2;cases hb2
    | some j =>
     rw[hj] at hb2
     have e:j.at 5=b:=Option.some.inj hb2
     rw[← e] at hg
     exact absurd hg (by show ¬(5:Int)<4;decide)
   ·show(y.aj _).s.view c i (y.s.walk y.kd.root).1=_
    rw[d1,h.ok.ch.walk]
  ·next hd =>
   rw[if_neg hd] at hok
   exact⟨⟨hok,by rw[d1];exact h.safe,by rw[d4,d1];exact h.job⟩,fun c _ i _=>by rw[d1,d3]⟩
 ·next hb =>
  rw[if_neg hb] at hok
  exact⟨⟨hok,h.safe,h.job⟩,fun _ _ _ _=>rfl⟩
end Go.Proofs.YtonhoahnieoebabGreatDoor
