/- An image that is safe: whatever of its pending writes is lost, it is opened, and is safe again. -/
import Derived.Test.YtonhoahnieoebabGreatDoorQCrashA
import Derived.Test.YtonhoahnieoebabGreatDoorQImgCreate2
namespace Go.Proofs.YtonhoahnieoebabGreatDoor
open Go.RowKit
structure Safe(v:IV)(U:List (Int × Int)):Prop where
 good:gQ v.h U
 sub:Sub U v.t
 head:∀ s,v.d.ver 0 s→s=(aU v.h.bytes).data.toList
 rows:∀ r,r<aA v.t.length→∀ s,v.d.ver (1+r) s→∃ T,Sub U T∧s=(dG T (r:Int)).data.toList
 seen:∀ r,r<aA v.t.length→v.d.seen.getD (1+r) []=(dG v.t (r:Int)).data.toList
def jS(n:Nat)(T:Nat→List (Int × Int)):List (Int × Int):=(List.range n).map fun c=>(T (c / 8)).getD c (0,0)
theorem nP(n:Nat)(T:Nat→List (Int × Int)):(jS n T).length=n:=by simp[jS]
theorem zL{n:Nat}{T:Nat→List (Int × Int)}{c:Nat}(h:c<n):(jS n T).getD c (0,0)=(T (c / 8)).getD c (0,0):=by
 simp[jS,List.getD_eq_getElem?_getD,h]
theorem Ic{U:List (Int × Int)}{T:Nat→List (Int × Int)}(h:∀ r,r<aA U.length→Sub U (T r)):Sub U (jS U.length T):=by
 refine⟨nP _ _,fun c=>?_⟩
 by_cases hc:c<U.length
 ·rw[zL hc];exact(h (c / 8) (lM hc)).2 c
 ·right;left
  rw[List.getD_eq_getElem?_getD,List.getElem?_eq_none (by rw[nP];omega)];rfl
theorem U4{l:List (Int × Int)}{c:Nat}(h:c<l.length):l.take (c+1)=l.take c++[l.getD c (0,0)]:=by
 rw[List.take_add_one,List.getD_eq_getElem?_getD,List.getElem?_eq_getElem h];rfl
theorem LD{h:HV}{U:List (Int × Int)}{T:Nat→List (Int × Int)}{rs:List ByteArray}(hk:h.ok=true)(hl:(U.length:Int)=h.c)(hg:gQ h U)(hT:∀ r,r<aA U.length→Sub U (T r))
  (hrl:rs.length=aA U.length) (hr:∀ r,r<aA U.length→rs.getD r ByteArray.empty=dG (T r) (r:Int)) :
  iC h rs=0∧dZ h rs=jS U.length T:=by
 have hsub:=Ic hT
 have hmg:=hsub.good hg
 have hnl:h.c.toNat=U.length:=by omega
 have key:∀ j,j≤aA U.length→bW h rs j=((jS U.length T).take (8*j),0):=by
  intro j
  induction j with
  | zero=>intro _;rfl
  | succ j ih =>
   intro hj
   have ej:=ih (by omega)
   have hjr:j<aA U.length:=by omega
   have hTl:((T j).length:Int)=h.c:=by rw[(hT j hjr).1];exact hl
   have hTe:=fun c=>(hT j hjr).bP hg c
   have hrow:∀ i,i≤8→gI h ((jS U.length T).take (8*j)) (dG (T j) (j:Int)) i=some ((jS U.length T).take (8*j+i)):=by
    intro i
    induction i with
    | zero=>intro _;rfl
    | succ i ihi =>
     intro hi
     rw[uO (ihi (by omega)),tH hk hTl hTe (by rw[(hT j hjr).1];exact hjr) (by omega)]
     by_cases hc:8*j+i<U.length
     ·have hc8:(8*j+i) / 8=j:=by omega
      have e1:(T j).getD (j*8+i) (0,0)=(jS U.length T).getD (8*j+i) (0,0):=by
       rw[zL hc,hc8,show j*8+i=8*j+i by omega]
      have hlen:((jS U.length T).take (8*j+i)).length=8*j+i:=by rw[List.length_take,nP];omega
      unfold stepT
      rw[hlen,if_neg (by omega),e1,if_pos]
      ·rw[show 8*j+(i+1)=8*j+i+1 by omega,U4 (by rw[nP];exact hc)]
      ·refine⟨hsub.bP hg _,fun ⟨h2,hm⟩=>?_⟩
       obtain⟨c2,hc2,he2⟩:=uo hm
       rw[hlen] at hc2
       have he3:((jS U.length T).take (8*j+i)).getD c2 (0,0)=(jS U.length T).getD c2 (0,0):=by
        rw[List.getD_eq_getElem?_getD,List.getD_eq_getElem?_getD,List.getElem?_take_of_lt hc2]
       exact hmg.once c2 (8*j+i) hc2 (by rw[nP];exact hc) h2 (by rw[← he3];exact he2)
     ·have e1:(T j).getD (j*8+i) (0,0)=(0,0):=by
       rw[List.getD_eq_getElem?_getD,List.getElem?_eq_none (by rw[(hT j hjr).1];omega)];rfl
      have hta:∀ k,U.length≤k→(jS U.length T).take k=jS U.length T:=fun k hk2=>List.take_of_length_le (by rw[nP];exact hk2)
      unfold stepT
      rw[hta _ (by omega),hta _ (by omega),nP,if_pos hl,e1,if_pos rfl]
   have hsz:(rs.getD j ByteArray.empty).size=16:=by
    rw[hr j hjr]
    exact(qQ hk hTl (fun e hm=>by obtain⟨i,_,rfl⟩:=uo hm;exact hTe i) j (by rw[(hT j hjr).1];exact hjr)).2
   have:=xW (h:=h) (rows:=rs) (j:=j) (a:=(jS U.length T).take (8*j+8)) (by rw[ej]) hsz (by rw[ej,hr j hjr];exact hrow 8 (Nat.le_refl _))
   rw[this,show 8*(j+1)=8*j+8 by omega]
 have hin:lI h rs=true:=by unfold lI;rw[hk,hnl];simp[hrl]
 have hend:=key (aA U.length) (Nat.le_refl _)
 refine⟨?_,?_⟩
 ·unfold iC;rw[if_pos hin,hrl,hend]
 ·unfold dZ;rw[if_pos hin,hrl,hend]
  exact List.take_of_length_le (by rw[nP];unfold aA;omega)
theorem Safe.opens{v:IV}{U:List (Int × Int)}{m:Nat}(hs:Safe v U)(hok:v.ok m){d:DV}(hl:d.fl.length=v.d.fl.length)(hv:∀ i,v.d.ver i (d.seen.getD i [])) :
  fG d=0∧aV d=v.h∧Sub U (fQ d).t∧∀ r,r<aA v.t.length→d.seen.getD (1+r) []=(dG (fQ d).t (r:Int)).data.toList:=by
 have hlen:v.t.length=U.length:=hs.sub.1
 have hUl:(U.length:Int)=v.h.c:=by rw[← hlen];exact hok.len
 have hex:∀ r,∃ T,r<aA U.length→Sub U T∧d.seen.getD (1+r) []=(dG T (r:Int)).data.toList:=fun r=>by
  by_cases hr:r<aA U.length
  ·obtain⟨T,h1,h2⟩:=hs.rows r (by rw[hlen];exact hr) _ (hv (1+r))
   exact⟨T,fun _=>⟨h1,h2⟩⟩
  ·exact⟨[],fun h=>absurd h hr⟩
 have hch:∃ T:Nat→List (Int × Int),∀ r,r<aA U.length→Sub U (T r)∧d.seen.getD (1+r) []=(dG (T r) (r:Int)).data.toList:=⟨fun r=>Classical.choose (hex r),fun r=>Classical.choose_spec (hex r)⟩
 obtain⟨T,hT⟩:=hch
 have h0:bytesOf (d.seen.getD 0 [])=aU v.h.bytes:=by rw[hs.head _ (hv 0),pY]
 obtain⟨g1,g2⟩:=QU v.h hok.h
 have hH:aV d=v.h:=by unfold aV;rw[h0];exact g1
 have hnl:v.h.c.toNat=U.length:=by omega
 have hrs:(fV d).length=aA U.length:=by unfold fV;rw[List.length_map,List.length_range,hH,hnl]
 have hrr:∀ r,r<aA U.length→(fV d).getD r ByteArray.empty=dG (T r) (r:Int):=fun r hr=>by
  unfold fV
  rw[hH,hnl,List.getD_eq_getElem?_getD,List.getElem?_map,List.getElem?_range hr]
  show lZ d r=_
  unfold lZ
  rw[(hT r hr).2,pY]
 obtain⟨k1,k2⟩:=LD hok.h hUl hs.good (fun r hr=>(hT r hr).1) hrs hrr
 have hsub:=Ic (fun r hr=>(hT r hr).1)
 have ht:(fQ d).t=jS U.length T:=by show dZ (aV d) (fV d)=_;rw[hH];exact k2
 refine⟨?_,hH,by rw[ht];exact hsub,fun r hr=>?_⟩
 ·unfold fG
  rw[h0,if_pos g2,hH,if_neg (by have:=hok.need;omega)]
  exact k1
 ·have hr2:r<aA U.length:=by rw[← hlen];exact hr
  rw[(hT r hr2).2,ht]
  congr 2
  refine BI (by rw[(hT r hr2).1.1,nP]) fun i hi=>?_
  by_cases hc:r*8+i<U.length
  ·rw[zL hc,show(r*8+i) / 8=r by omega]
  ·rw[List.getD_eq_getElem?_getD,List.getD_eq_getElem?_getD,List.getElem?_eq_none (by rw[(hT r hr2).1.1];omega),List.getElem?_eq_none (by rw[nP];omega)]
theorem Safe.low{v:IV}{U:List (Int × Int)}(hs:Safe v U){d:DV}(h1:∀ i,i<1+aA v.t.length→∀ t,d.ver i t→v.d.ver i t)(h2:∀ i,i<1+aA v.t.length→d.seen.getD i []=v.d.seen.getD i [])(held:List Nat):Safe ⟨d,v.h,v.t,held⟩ U :=
 ⟨hs.good,hs.sub,fun s h=>hs.head s (h1 0 (by omega) s h),fun r hr s h=>hs.rows r hr s (h1 (1+r) (by have:r<aA v.t.length:=hr;omega) s h),fun r hr=>by
  show d.seen.getD (1+r) []=_
  rw[h2 (1+r) (by have:r<aA v.t.length:=hr;omega)];exact hs.seen r hr⟩
theorem Safe.flush{v:IV}{U:List (Int × Int)}(hs:Safe v U)(hsn:v.d.sn):Safe v.flush v.t:=by
 have hone:∀ i s,v.d.flushed.ver i s→s=v.d.seen.getD i []:=fun i s h=>by
  rcases h with h|⟨x,hx,_⟩
  ·exact h
  ·cases hx
 refine⟨hs.sub.good hs.good,Sub.refl _,fun s h=>?_,fun r hr s h=>⟨v.t,Sub.refl _,?_⟩,hs.seen⟩
 ·rw[hone 0 s h];exact hs.head _ (Dq hsn 0)
 ·rw[hone _ s h];exact hs.seen r hr
theorem Safe.set{v:IV}{U:List (Int × Int)}{m:Nat}(hs:Safe v U)(hok:v.ok m){c:Nat}(hc:c<v.t.length){e:Int × Int}(he:e=U.getD c (0,0)∨e=(0,0)∨e=(1,0)):Safe (v.set c e) U:=by
 have hb:=(kR hok.h hok.need).1
 have hnl:v.h.c.toNat=v.t.length:=by have:=hok.len;omega
 rw[hnl] at hb
 have hcr:=lM hc
 have gs:∀ k,(v.t.set c e).getD k (0,0)=(if c=k then e else v.t.getD k (0,0)):=fun k=>by
  rw[List.getD_eq_getElem?_getD,List.getD_eq_getElem?_getD]
  by_cases h:c=k
  ·subst h;rw[List.getElem?_set_self hc,if_pos rfl];rfl
  ·rw[List.getElem?_set_ne h,if_neg h]
 have hsub:Sub U (v.t.set c e):=⟨by rw[List.length_set];exact hs.sub.1,fun k=>by
  rw[gs k]
  split
  ·next h=>subst h;exact he
  ·exact hs.sub.2 k⟩
 unfold IV.set
 by_cases h0:v.d.aQ=0
 ·rw[if_pos h0]
  refine⟨hs.good,hsub,fun s h=>?_,fun r hr s h=>?_,fun r hr=>?_⟩
  ·rcases rQ h with h1|⟨h1,_⟩
   ·exact hs.head s h1
   ·omega
  ·have hr2:r<aA v.t.length:=by have:r<aA (v.t.set c e).length:=hr;rw[List.length_set] at this;exact this
   rcases rQ h with h1|⟨h1,h2⟩
   ·exact hs.rows r hr2 s h1
   ·have:r=c / 8:=by omega
    subst this
    exact⟨_,hsub,h2.symm⟩
  ·have hr2:r<aA v.t.length:=by have:r<aA (v.t.set c e).length:=hr;rw[List.length_set] at this;exact this
   show(v.dL c e).seen.getD (1+r) []=(dG (v.t.set c e) (r:Int)).data.toList
   unfold IV.dL
   by_cases hrc:r=c / 8
   ·subst hrc
    exact qE _ _ h0 (by have:=hok.d.ok.same;omega)
   ·rw[nC _ _ (by omega),hs.seen r hr2]
    congr 2
    refine BI (by rw[List.length_set]) fun i hi=>?_
    rw[gs,if_neg (by omega)]
 ·rw[if_neg h0]
  unfold IV.dL
  rw[pI _ _ h0]
  exact hs.low (d:=v.d.failing (-1)) (fun i _ t h=>h) (fun i _=>rfl) _
theorem qX{v:IV}{m:Nat}(hok:v.ok m)(q:Nat):1+aA v.t.length≤aK v.h q:=by
 have:v.h.c.toNat=v.t.length:=by have:=hok.len;omega
 unfold aK
 rw[this];omega
theorem Safe.puts{v:IV}{U:List (Int × Int)}(hs:Safe v U){a:Nat}(ha:1+aA v.t.length≤a)(s:ByteArray)(k:Nat):Safe { v with d:=(v.d.puts a s k).1 } U :=
 hs.low (fun i hi t h=>(wS v.d a s k i (by omega)).1 t h) (fun i hi=>(wS v.d a s k i (by omega)).2) _
theorem Safe.write{v:IV}{U:List (Int × Int)}{m:Nat}(hs:Safe v U)(hok:v.ok m)(c fr:Int)(s:ByteArray):Safe (v.write c fr s) U:=by
 unfold IV.write
 split
 ·unfold IV.qw
  exact hs.puts (by have:=qX hok (v.ent c).2.toNat;omega) s _
 ·exact hs
theorem Safe.clear{v:IV}{U:List (Int × Int)}{m:Nat}(hs:Safe v U)(hok:v.ok m)(c:Int):Safe (v.clear c) U:=by
 unfold IV.clear
 split
 ·next h =>
  obtain⟨h1,h2⟩:=IV.kG h.1
  exact hs.set hok (by omega) (.inr (.inr rfl))
 ·exact hs
theorem Safe.fail{v:IV}{U:List (Int × Int)}(hs:Safe v U)(n:Int):Safe { v with d:=v.d.failing n } U :=
 hs.low (d:=v.d.failing n) (fun _ _ _ h=>h) (fun _ _=>rfl) _
theorem Safe.fill{v:IV}{U:List (Int × Int)}{m:Nat}(hs:Safe v U)(hok:v.ok m)(hm:m+10≤1000000000)(c:Int)(s:ByteArray):∃ U',Safe (v.fill c s) U':=by
  unfold IV.fill
  split
  · next h1 =>
    split
    · exact⟨U,hs⟩
    · next h2 =>
      cases hq:v.fC with
      | nil=>exact⟨U,hs⟩
      | cons q tl =>
        have hs2:Safe { v with d:=(v.dU q s).1 } U:=by
          unfold IV.dU
          exact hs.puts (by have:=qX hok q;omega) s 4
        show ∃ U',Safe (if (v.dU q s).2=0 then (v.fZ q s).set c.toNat (2,(q:Int)) else { v with d:=(v.dU q s).1 }) U'
        by_cases h0:(v.dU q s).2=0
        · rw[if_pos h0]
          have hqm:q∈v.fC:=by rw[hq];exact List.mem_cons_self
          have hfd:=hok.dU hqm h1.2 hm
          have hs3:Safe (v.fZ q s) v.t:=hs2.flush hfd.sn
          obtain⟨t0,t1⟩:=IV.kG h1.1
          have hc:c.toNat<v.t.length:=by omega
          have hcd:v.t.getD c.toNat (0,0)=(0,0)∨v.t.getD c.toNat (0,0)=(1,0):=by
            have hb:=iG (hok.ent h1.1)
            unfold IV.ent at hb h2
            generalize v.t.getD c.toNat (0,0)=y at hb h2 ⊢
            obtain⟨y0,y1⟩:=y
            simp only at hb h2
            rcases hb with hb|⟨hb|hb,hb2⟩
            · exact absurd hb.1 h2
            · left;rw[hb,hb2]
            · right;rw[hb,hb2]
          have hop:=(IV.pq hqm).2
          unfold IV.lT IV.uj at hop
          simp only[Bool.and_eq_true,Bool.not_eq_true',List.any_eq_false,decide_eq_true_eq] at hop
          have gs:∀ k,(v.t.set c.toNat (2,(q:Int))).getD k (0,0)=(if c.toNat=k then (2,(q:Int)) else v.t.getD k (0,0)):=fun k=>by
            rw[List.getD_eq_getElem?_getD,List.getD_eq_getElem?_getD]
            by_cases h:c.toNat=k
            · subst h;rw[List.getElem?_set_self hc,if_pos rfl];rfl
            · rw[List.getElem?_set_ne h,if_neg h]
          have hgood:gQ v.h (v.t.set c.toNat (2,(q:Int))):=by
            refine⟨yA hs3.good.ents _ _ (xO hok hqm),fun i j hij hj hd heq=>?_⟩
            rw[List.length_set] at hj
            rw[gs j] at hd heq
            rw[gs i] at heq
            by_cases hi2:c.toNat=i
            · rw[if_pos hi2,if_neg (by omega)] at heq
              exact hop.1 _ (getD_mem hj) heq.symm
            · rw[if_neg hi2] at heq
              by_cases hj2:c.toNat=j
              · rw[if_pos hj2] at heq
                exact hop.1 _ (getD_mem (by omega)) heq
              · rw[if_neg hj2] at heq hd
                exact hs3.good.once i j hij hj hd heq
          have hsub:Sub (v.t.set c.toNat (2,(q:Int))) v.t:=⟨by rw[List.length_set],fun k=>by
            rw[gs k]
            by_cases h:c.toNat=k
            · subst h;exact .inr hcd
            · rw[if_neg h];exact .inl rfl⟩
          have hone:∀ i x,(v.fZ q s).d.ver i x→x=(v.fZ q s).d.seen.getD i []:=fun i x h=>by
            rcases h with h|⟨x,hx,_⟩
            · exact h
            · cases hx
          have hs4:Safe (v.fZ q s) (v.t.set c.toNat (2,(q:Int))):=⟨hgood,hsub,hs3.head,fun r hr x h=>⟨v.t,hsub,by rw[hone _ x h];exact hs3.seen r hr⟩,hs3.seen⟩
          exact⟨_,hs4.set (hok.fZ hqm h1.2 hm) (c:=c.toNat) hc (.inl (by rw[gs,if_pos rfl]))⟩
        · rw[if_neg h0];exact⟨U,hs2⟩
  · exact⟨U,hs⟩
theorem Gg{v:IV}{m:Nat}(hok:v.ok m)(hg:gQ v.h v.t)(hse:∀ r,r<aA v.t.length→v.d.seen.getD (1+r) []=(dG v.t (r:Int)).data.toList){h:HV}(hp:h.p=v.h.p)(h0:v.flush.d.aQ=0):Safe (v.gW h) v.t:=by
 unfold IV.gW
 rw[if_pos h0]
 have hb:=(kR hok.h hok.need).1
 have hsm:=hok.d.ok.same
 have hone:∀ i x,(v.flush.d.put 0 (aU h.bytes).data.toList).flushed.ver i x→x=(v.flush.d.put 0 (aU h.bytes).data.toList).seen.getD i []:=fun i x hx=>by
  rcases hx with hx|⟨y,hy,_⟩
  ·exact hx
  ·cases hy
 have hrow:∀ r,r<aA v.t.length→(v.flush.d.put 0 (aU h.bytes).data.toList).seen.getD (1+r) []=(dG v.t (r:Int)).data.toList:=fun r hr=>by
  rw[nC _ _ (by omega)];exact hse r hr
 refine⟨⟨fun e he=>?_,hg.once⟩,Sub.refl _,fun s hs=>?_,fun r hr s hs=>⟨v.t,Sub.refl _,?_⟩,hrow⟩
 ·show bP e.1 e.2 h.p=true
  rw[hp];exact hg.ents e he
 ·rw[hone 0 s hs,qE _ _ h0 (by show 0<v.d.seen.length;omega)]
 ·rw[hone _ s hs];exact hrow r hr
theorem Safe.link{v:IV}{U:List (Int × Int)}{m:Nat}(hs:Safe v U)(hok:v.ok m)(b:Int):∃ U',Safe (v.link b) U':=by
 unfold IV.link
 split
 ·by_cases h0:v.flush.d.aQ=0
  ·exact⟨_,Gg hok (hs.sub.good hs.good) hs.seen rfl h0⟩
  ·refine⟨v.t,?_⟩
   unfold IV.gW
   rw[if_neg h0,pI _ _ h0]
   exact(hs.flush hok.d.sn).low (d:=v.flush.d.failing (-1)) (fun i _ t h=>h) (fun i _=>rfl) _
 ·exact⟨U,hs⟩
theorem Ji{d:DV}{t:List (Int × Int)}(hl:∀ k,k≤aA t.length→(d.dP t k).1.seen.length=d.seen.length)(hn:aA t.length<d.seen.length):∀ k,k≤aA t.length→(d.dP t k).2=0→∀ r,r<k→(d.dP t k).1.seen.getD (1+r) []=(dG t (r:Int)).data.toList:=by
 intro k
 induction k with
 | zero=>intro _ _ r hr;omega
 | succ k ih =>
  intro hk h0 r hr
  by_cases e0:(d.dP t k).2=0
  ·rw[DV.ug e0] at h0 ⊢
   show((d.dP t k).1.put (1+k) (dG t (k:Int)).data.toList).seen.getD (1+r) []=_
   by_cases hrk:r=k
   ·subst hrk
    exact qE _ _ h0 (by rw[hl r (by omega)];omega)
   ·rw[nC _ _ (by omega)]
    exact ih (by omega) e0 r (by omega)
  ·rw[DV.yZ e0 (k+1) (by omega)] at h0
   exact absurd h0 e0
theorem AU{d:DV}{m:Nat}{h:HV}(hd:d.fine d.fl.length m)(hk:h.ok=true)(hn:aJ h≤d.fl.length)(hm:m+20<1000000000)(hf:crF d h=0):Safe (crV d h) (crT h):=by
 unfold crF at hf
 rw[if_pos hk,if_neg (by omega)] at hf
 by_cases h0:(crD d h).2=0
 ·rw[if_pos h0] at hf
  have hok:=zU hd hk hn (by omega)
  have hcl:=xu h hk
  have hrl:aA (crT h).length=aA h.c.toNat:=by unfold crT;rw[List.length_replicate]
  have hb:=(kR hk hn).1
  refine Gg (v:=lQ d h) hok ⟨yQ h,fun i j hij hj h2=>?_⟩ (fun r hr=>?_) rfl hf
  ·have:(lQ d h).t.getD j (0,0)=(0,0):=by
    show(List.replicate h.c.toNat ((0:Int),(0:Int))).getD j (0,0)=_
    rw[List.getD_eq_getElem?_getD]
    by_cases hj2:j<h.c.toNat
    ·rw[List.getElem?_replicate,if_pos hj2];rfl
    ·rw[List.getElem?_replicate,if_neg hj2];rfl
   rw[this] at h2;cases h2
  ·have hsl:∀ k,k≤aA (crT h).length→(d.dP (crT h) k).1.seen.length=d.seen.length:=fun k hk2=>by
    have hx:=xk hd hk hn (by omega) k (by rw[← hrl];exact hk2)
    rw[hx.ok.same,hx.len,hd.ok.same]
   have:=Ji hsl (by rw[hrl,hd.ok.same];omega) (aA (crT h).length) (Nat.le_refl _) (by rw[hrl];exact h0) r hr
   rw[hrl] at this
   exact this
 ·rw[if_neg h0] at hf;exact absurd hf h0
def IV.sh(v:IV)(k:Nat):List UInt8 :=
 if (v.t.getD (k / 4) (0,0)).1=2 then v.d.seen.getD (aK v.h (v.t.getD (k / 4) (0,0)).2.toNat+k % 4) []
 else if (v.t.getD (k / 4) (0,0)).1=1 then noughts else [45]
def Fits(v:IV)(may:Nat→List (List UInt8))(c:Nat)(e:Int × Int):Prop :=
 ∀ j,j<4→(e.1=0→[45]∈may (4*c+j))∧(e.1=1→noughts∈may (4*c+j)) ∧
  (e.1=2→(e.2.toNat∈v.held∨e=v.t.getD c (0,0))∧∀ s,v.d.ver (aK v.h e.2.toNat+j) s→s∈may (4*c+j))
structure Told(v:IV)(may:Nat→List (List UInt8)):Prop where
 vers:∀ c,c<v.t.length→∀ s,v.d.ver (1+c / 8) s→Fits v may c (gV (bytesOf s) (c % 8))
 now:∀ k,k<4*v.t.length→v.sh k∈may k
 held:∀ q∈v.held,∀ e∈v.t,e≠(2,(q:Int))
theorem Dw{c j:Nat}(h:j<4):(4*c+j) / 4=c∧(4*c+j) % 4=j:=by omega
theorem yu(v:IV)(c j:Nat)(h:j<4):v.sh (4*c+j)=if (v.t.getD c (0,0)).1=2 then v.d.seen.getD (aK v.h (v.t.getD c (0,0)).2.toNat+j) [] else if (v.t.getD c (0,0)).1=1 then noughts else [45]:=by
 unfold IV.sh
 rw[(Dw h).1,(Dw h).2]
theorem Fits.mono{v:IV}{may may':Nat→List (List UInt8)}{c:Nat}{e:Int × Int}(h:Fits v may c e)(hm:∀ k s,s∈may k→s∈may' k):Fits v may' c e:=fun j hj =>
 ⟨fun h0=>hm _ _ ((h j hj).1 h0),fun h1=>hm _ _ ((h j hj).2.1 h1),fun h2=>⟨((h j hj).2.2 h2).1,fun s hs=>hm _ _ (((h j hj).2.2 h2).2 s hs)⟩⟩
theorem Told.mono{v:IV}{may may':Nat→List (List UInt8)}(h:Told v may)(hm:∀ k s,s∈may k→s∈may' k):Told v may' :=
 ⟨fun c hc s hs=>(h.vers c hc s hs).mono hm,fun k hk=>hm _ _ (h.now k hk),h.held⟩
theorem GR{v:IV}{U:List (Int × Int)}{m:Nat}(hs:Safe v U)(hok:v.ok m){c:Nat}(hc:c<v.t.length):gV (bytesOf (v.d.seen.getD (1+c / 8) [])) (c % 8)=v.t.getD c (0,0):=by
 rw[hs.seen (c / 8) (lM hc),pY,tH hok.h hok.len (fun k=>hs.sub.bP hs.good k) (lM hc) (by omega),show c / 8*8+c % 8=c by omega]
theorem Told.cur{v:IV}{U:List (Int × Int)}{m:Nat}{may:Nat→List (List UInt8)}(h:Told v may)(hs:Safe v U)(hok:v.ok m){c:Nat}(hc:c<v.t.length):Fits v may c (v.t.getD c (0,0)):=by
 have:=h.vers c hc _ (Dq hok.d.sn (1+c / 8))
 rw[GR hs hok hc] at this
 exact this
theorem uI{v:IV}{U:List (Int × Int)}{m:Nat}{may:Nat→List (List UInt8)}(hs:Safe v U)(hok:v.ok m)(hp:∀ i s,v.d.ver i s→s=v.d.seen.getD i [])(hh:v.held=[])(hn:∀ k,k<4*v.t.length→v.sh k∈may k):Told v may:=by
 refine⟨fun c hc s hv=>?_,hn,fun q hq=>by rw[hh] at hq;cases hq⟩
 rw[hp _ s hv,GR hs hok hc]
 intro j hj
 have h1:=hn (4*c+j) (by omega)
 rw[yu v c j hj] at h1
 refine⟨fun h0=>?_,fun h0=>?_,fun h0=>⟨.inr rfl,fun x hx=>?_⟩⟩
 ·rw[if_neg (by omega),if_neg (by omega)] at h1;exact h1
 ·rw[if_neg (by omega),if_pos h0] at h1;exact h1
 ·rw[if_pos h0] at h1;rw[hp _ x hx];exact h1
theorem Fj(v:IV)(k:Nat):v.flush.sh k=v.sh k:=rfl
theorem Told.flush{v:IV}{U:List (Int × Int)}{m:Nat}{may may':Nat→List (List UInt8)}(_h:Told v may)(hs:Safe v U)(hok:v.ok m)(hn:∀ k,k<4*v.t.length→v.sh k∈may' k):Told v.flush may' :=
 uI (hs.flush hok.d.sn) hok.flush (fun i s h=>by
  rcases h with h|⟨x,hx,_⟩
  ·exact h
  ·cases hx) rfl hn
theorem GK(d:DV)(a:Nat)(s:ByteArray)(n:Nat)(hl:∀ k,k≤n→(d.puts a s k).1.seen.length=d.seen.length)(ha:a+n≤d.seen.length):∀ k,k≤n→∀ i t,(d.puts a s k).1.ver i t→d.ver i t∨(a≤i∧i<a+k∧t=(d.puts a s k).1.seen.getD i []):=by
 intro k
 induction k with
 | zero=>intro _ i t h;exact .inl h
 | succ k ih =>
  intro hk i t h
  by_cases h0:(d.puts a s k).2=0
  ·rw[DV.o9 h0] at h ⊢
   by_cases hp:(d.puts a s k).1.aQ=0
   ·rcases rQ h with h1|⟨h1,h2⟩
    ·rcases ih (by omega) i t h1 with h3|⟨h3,h4,h5⟩
     ·exact .inl h3
     ·refine .inr ⟨h3,by omega,?_⟩
      show t=((d.puts a s k).1.put (a+k) (chunk s k)).seen.getD i []
      rw[nC _ _ (by omega)];exact h5
    ·subst h1
     refine .inr ⟨by omega,by omega,?_⟩
     show t=((d.puts a s k).1.put (a+k) (chunk s k)).seen.getD (a+k) []
     rw[qE _ _ hp (by rw[hl k (by omega)];omega)];exact h2.symm
   ·have e:(d.puts a s k).1.put (a+k) (chunk s k)=(d.puts a s k).1.failing (-1):=pI _ _ hp
    have h':((d.puts a s k).1.put (a+k) (chunk s k)).ver i t:=h
    rw[e] at h'
    rcases ih (by omega) i t h' with h3|⟨h3,h4,h5⟩
    ·exact .inl h3
    ·refine .inr ⟨h3,by omega,?_⟩
     show t=((d.puts a s k).1.put (a+k) (chunk s k)).seen.getD i []
     rw[e];exact h5
  ·rw[DV.pz h0 (k+1) (by omega)] at h ⊢
   rcases ih (by omega) i t h with h3|⟨h3,h4,h5⟩
   ·exact .inl h3
   ·exact .inr ⟨h3,by omega,h5⟩
theorem xZ(d:DV)(a:Nat)(s:ByteArray):∀ k i,i<a∨a+k≤i→(d.puts a s k).1.seen.getD i []=d.seen.getD i []:=by
 intro k
 induction k with
 | zero=>intro i _;rfl
 | succ k ih =>
  intro i hi
  by_cases h0:(d.puts a s k).2=0
  ·rw[DV.o9 h0]
   show((d.puts a s k).1.put (a+k) (chunk s k)).seen.getD i []=_
   rw[nC _ _ (by omega)];exact ih i (by omega)
  ·rw[DV.pz h0 (k+1) (by omega)];exact ih i (by omega)
theorem zZ{v:IV}{m:Nat}(hok:v.ok m){c q j:Nat}(hc:c<v.t.length):1+c / 8≠aK v.h q+j:=by
 have:=qX hok q
 have:=lM hc
 omega
theorem GZ{v:IV}{c:Nat}{e:Int × Int}{i:Nat}{s:List UInt8}(h:(v.dL c e).ver i s)(hi:1+c / 8≠i):v.d.ver i s:=by
 rcases rQ h with h1|⟨h1,_⟩
 ·exact h1
 ·exact absurd h1 hi
theorem lD(t:List (Int × Int)){c:Nat}(hc:c<t.length)(e:Int × Int)(k:Nat):(t.set c e).getD k (0,0)=if c=k then e else t.getD k (0,0):=by
 rw[List.getD_eq_getElem?_getD,List.getD_eq_getElem?_getD]
 by_cases h:c=k
 ·subst h;rw[List.getElem?_set_self hc,if_pos rfl];rfl
 ·rw[List.getElem?_set_ne h,if_neg h]
theorem Told.set{v:IV}{U:List (Int × Int)}{m:Nat}{may may':Nat→List (List UInt8)}(h:Told v may)(hs:Safe v U)(hok:v.ok m)(hm:m<1000000000)(hpf:v.d.aQ=0){c:Nat}(hc:c<v.t.length){e:Int × Int}(heb:bP e.1 e.2 v.h.p=true)
  (hmay:∀ k s,s∈may k→s∈may' k) (hn:∀ k,k<4*v.t.length→(v.set c e).sh k∈may' k)
  (hq:e.1=2→(∀ j,j<4→∀ s,v.d.ver (aK v.h e.2.toNat+j) s→s∈may' (4*c+j))∧(e.2.toNat ∉ v.held)∧(v.t.getD c (0,0)).1≠2):Told (v.set c e) may':=by
 have hset:v.set c e=⟨v.dL c e,v.h,v.t.set c e,if (v.t.getD c (0,0)).1=2 then v.held++[(v.t.getD c (0,0)).2.toNat] else v.held⟩:=by unfold IV.set;rw[if_pos hpf]
 have hgood:=hs.sub.good hs.good
 have hoks:=hok.set hc heb hm
 have hheld:∀ q,q∈v.held→q∈(v.set c e).held:=fun q hq2=>by
  rw[hset]
  show q∈(if (v.t.getD c (0,0)).1=2 then v.held++[(v.t.getD c (0,0)).2.toNat] else v.held)
  split
  ·exact List.mem_append_left _ hq2
  ·exact hq2
 have hold:∀ c2,c2<v.t.length→∀ y,Fits v may c2 y→Fits (v.set c e) may' c2 y:=fun c2 hc2 y hf j hj=>by
  obtain⟨h0,h1,h2⟩:=hf j hj
  refine⟨fun g=>hmay _ _ (h0 g),fun g=>hmay _ _ (h1 g),fun g=>⟨?_,fun s hv=>?_⟩⟩
  ·rcases(h2 g).1 with g1|g1
   ·exact .inl (hheld _ g1)
   ·by_cases hcc:c=c2
    ·subst hcc
     left
     rw[hset]
     show y.2.toNat∈(if (v.t.getD c (0,0)).1=2 then v.held++[(v.t.getD c (0,0)).2.toNat] else v.held)
     rw[← g1,if_pos g]
     exact List.mem_append_right _ (by simp)
    ·right
     rw[hset]
     show y=(v.t.set c e).getD c2 (0,0)
     rw[lD _ hc,if_neg hcc];exact g1
  ·rw[hset] at hv
   exact hmay _ _ ((h2 g).2 s (GZ hv (zZ hok hc)))
 have hlen:(v.set c e).t.length=v.t.length:=by rw[hset];exact List.length_set
 refine⟨fun c2 hc2 s hv=>?_,fun k hk=>hn k (by rw[← hlen];exact hk),fun q hq2 y hy heq=>?_⟩
 ·rw[hlen] at hc2
  have hv2:(v.dL c e).ver (1+c2 / 8) s:=by rw[hset] at hv;exact hv
  rcases rQ hv2 with h1|⟨h1,h2⟩
  ·exact hold c2 hc2 _ (h.vers c2 hc2 s h1)
  ·have hrow:c / 8=c2 / 8:=by omega
   rw[← h2,pY,hrow,tH hok.h (by rw[List.length_set];exact hok.len) (fun k=>?_) (by rw[List.length_set];exact lM hc2) (by omega),show c2 / 8*8+c2 % 8=c2 by omega,lD _ hc]
   ·by_cases hcc:c=c2
    ·subst hcc
     rw[if_pos rfl]
     intro j hj
     have h3:=hn (4*c+j) (by omega)
     have hte:(v.set c e).t.getD c (0,0)=e:=by rw[hset];show(v.t.set c e).getD c (0,0)=e;rw[lD _ hc,if_pos rfl]
     rw[yu _ c j hj,hte] at h3
     refine⟨fun g=>?_,fun g=>?_,fun g=>⟨.inr hte.symm,fun x hx=>?_⟩⟩
     ·rw[if_neg (by omega),if_neg (by omega)] at h3;exact h3
     ·rw[if_neg (by omega),if_pos g] at h3;exact h3
     ·rw[hset] at hx
      exact(hq g).1 j hj x (GZ hx (zZ hok hc))
    ·rw[if_neg hcc]
     exact hold c2 hc2 _ (h.cur hs hok hc2)
   ·rw[lD _ hc]
    split
    ·exact heb
    ·exact hgood.at k
 ·rw[hset] at hq2 hy
  have hq3:q∈(if (v.t.getD c (0,0)).1=2 then v.held++[(v.t.getD c (0,0)).2.toNat] else v.held):=hq2
  have hy2:y∈v.t.set c e:=hy
  obtain⟨i,hi,hyi⟩:=uo hy2
  rw[List.length_set] at hi
  rw[lD _ hc] at hyi
  subst heq
  by_cases hci:c=i
  ·rw[if_pos hci] at hyi
   subst hyi
   obtain⟨_,h5,h6⟩:=hq rfl
   rw[if_neg h6] at hq3
   exact h5 hq3
  ·rw[if_neg hci] at hyi
   have hmem:((2:Int),(q:Int))∈v.t:=hyi▸getD_mem hi
   split at hq3
   ·next hd =>
    rcases List.mem_append.1 hq3 with h5|h5
    ·exact h.held q h5 _ hmem rfl
    ·simp only[List.mem_singleton] at h5
     have hb:=iG (hgood.at c)
     have e1:v.t.getD c (0,0)=(2,(q:Int)):=by
      rcases hb with hb|hb
      ·exact Prod.ext hd (by show(v.t.getD c (0,0)).2=_;omega)
      ·omega
     rcases Nat.lt_or_ge c i with hlt|hge
     ·exact hgood.once c i hlt hi (by rw[hyi]) (by rw[e1,hyi])
     ·exact hgood.once i c (by omega) hc (by rw[e1]) (by rw[e1,hyi])
   ·exact h.held q hq3 _ hmem rfl
end Go.Proofs.YtonhoahnieoebabGreatDoor
