/- A crash (J7): the yard is opened, its chain is the same, and of each sector something that may be found is seen; a new yard; a yard of its chain's devices alone (W2). -/
import Derived.Test.YtonhoahnieoebabGreatDoorQATellActs
set_option maxHeartbeats 1000000
set_option maxRecDepth 100000
namespace Go.Proofs.YtonhoahnieoebabGreatDoor
open Go.RowKit
theorem Jv{y:YV}{n:Int}{v:IV}(h:y.s.file n=some v):y.dev n.toNat=v.d:=by
 unfold YV.dev;rw[(SV.dJ h).2.2]
theorem Ez{d:Nat→DV}{n:Int}(h0:0≤n)(h5:n<5)(hf:fO (d n.toNat)=0):(aY d).file n=some (jB (d n.toNat)):=by
 unfold SV.file aY;rw[if_pos ⟨h0,h5⟩,if_pos ⟨by omega,hf⟩]
theorem opens{y:YV}{C m:Nat}(h:YG y C m){d:Nat→DV}{t:DV}(hd:∀ i,(d i).fine (d i).fl.length m)(ht:t.fine t.fl.length m)(hdk:jD t y.kd.root)(hst:∀ n∈y.l,∀ v,y.s.file n=some v→fO (d n.toNat)=0∧bU (d n.toNat)=v.h) :
  nU d t=0∧YOk (gK d t) C m∧(gK d t).l=y.l∧(gK d t).kd.root=y.kd.root:=by
 have hS:bF y.l y.s (aY d):=fun n hn v hv=>by
  obtain⟨h0,h5,_⟩:=SV.dJ hv;obtain⟨e1,e2⟩:=hst n hn v hv;exact⟨jB (d n.toNat),Ez h0 h5 e1,e2⟩
 have hch:=h.ok.ch.over hS
 have hF:nU d t=0:=by
  unfold nU;rw[if_pos hdk.ok,hdk.root,hch.walk]
 obtain⟨C',hY⟩:=O1 hd ht hF
 have hkr:(gK d t).kd.root=y.kd.root:=by
  show(if mF (aY d) (aG t)=true then aG t else ak (aG t).root).root=_
  split
  ·exact hdk.root
  ·exact hdk.root
 have hl:(gK d t).l=y.l:=by
  show((aY d).walk (aG t).root).1=_
  rw[hdk.root,hch.walk]
 have hC:C'=C:=by
  have h1:=hY.ch.fQ;rw[hkr] at h1;have h2:=hch.fQ;have h3:(aY d).fQ y.kd.root=(C':Int):=h1;omega
 subst hC;exact⟨hF,hY,hl,hkr⟩
theorem YT.new{c p:Int}(hk:(newH c p).ok=true)(hn:aJ (newH c p)≤200):YT (jF c p) c.toNat 20 (fun _=>[noughts]):=by
 obtain⟨h1,_⟩:=Ej hk hn;obtain⟨d1,_,d3,d4⟩:=fP (jy c p) (ak 0);have hd:=pO (n:=aJ (newH c p)) (by unfold aJ aI;omega) hn
 have hlen:(fH (aJ (newH c p))).fl.length=aJ (newH c p):=List.length_replicate;have htold:=BR hd hk (by rw[hlen];exact Nat.le_refl _) (by omega) (zH hk (Nat.le_refl _))
 refine⟨h1,?_,fun j hj=>?_,?_⟩
 ·show aW (YV.aj _ _).s _ (YV.aj _ _).l _
  rw[d1,d3];refine⟨fun _ _=>[[45]],fun n hm v hv=>?_,fun k _=>⟨fun x hx h45=>absurd (List.mem_singleton.1 hx) h45,fun _=>List.mem_singleton.2 rfl⟩⟩
  have hm':n∈[(0:Int)]:=hm;rw[List.mem_singleton] at hm';subst hm';have e:(jy c p).s.file 0=some (crV (fH (aJ (newH c p))) (newH c p)):=rfl;rw[e] at hv;cases hv
  exact htold
 ·have hj':(YV.aj _ _).j=some j:=hj
  rw[d4] at hj';cases hj'
 ·have hp:(jy c p).top.aQ=0:=by unfold DV.aQ;rw[if_neg (by show ¬(-1:Int)=0;decide)]
  have:=Ce (y:=jy c p) (pO (n:=1) (by omega) (by omega)) (jH (r:=0) (by decide) (by decide)) hp
  have e:(jF c p).kd.root=0:=by
   show((jy c p).aj (ak 0)).kd.root=0
   rw[sN hp];rfl
  rw[e];exact this
def kZ(y:YV)(k i:Nat):DV:=if i<k∧(i:Int) ∉ y.l then fH 1 else y.dev i
def iW(y:YV):Nat→DV:=kZ y 5
theorem YG.alone{y:YV}{C m:Nat}(h:YG y C m)(hdk:jD y.top y.kd.root) :
  (∀ i,(iW y i).fine (iW y i).fl.length m)∧nU (iW y) y.top=0∧YOk (gK (iW y) y.top) C m∧(gK (iW y) y.top).l=y.l∧∀ k,k<4*C→(gK (iW y) y.top).s.sec y.l k=y.s.sec y.l k:=by
 have hd:∀ i,(iW y i).fine (iW y i).fl.length m:=fun i=>by
  unfold iW kZ;split
  ·exact(pO (by omega) (by omega)).more (Nat.zero_le _)
  ·exact h.ok.dev i
 have hv:∀ n∈y.l,∀ v,y.s.file n=some v→iW y n.toNat=v.d:=fun n hn v hf=>by
  unfold iW kZ;rw[if_neg (fun e=>e.2 (by have:=SV.dJ hf;rw[show((n.toNat:Nat):Int)=n by omega];exact hn)),Jv hf]
 have hst:∀ n∈y.l,∀ v,y.s.file n=some v→fO (iW y n.toNat)=0∧bU (iW y n.toNat)=v.h:=fun n hn v hf=>by
  obtain⟨U,hs⟩:=h.safe.file hf;rw[hv n hn v hf];obtain⟨h1,h2,_⟩:=hs.same (h.ok.s.file hf);exact⟨h1,h2⟩
 obtain⟨hF,hY,hl,_⟩:=opens h hd h.ok.top hdk hst;refine⟨hd,hF,hY,hl,fun k hk=>?_⟩
 refine sD (by omega) fun n hn=>?_
 obtain⟨v,hf,_⟩:=h.ok.ch.good n hn;obtain⟨h0,h5,_⟩:=SV.dJ hf;obtain⟨U,hs⟩:=h.safe.file hf;obtain⟨h1,h2,h3⟩:=hs.same (h.ok.s.file hf);have e:=hv n hn v hf;refine⟨v,jB (iW y n.toNat),hf,Ez h0 h5 (hst n hn v hf).1,by rw[e,h3],fun _=>?_⟩
 rw[e,iy _ _ _ (by omega),iy _ _ _ (by omega),h3]
 unfold IV.shE;show(if (v.t.getD (k / 4) (0,0)).1=2 then v.d.seen.getD (aI (bU v.d) _+k % 4) [] else _)=_
 rw[h2]
open Go.Maps
structure Kno(y:YV)(C m:Nat)(g:GV)(L:Nat):Prop where
 saw:Saw y C m g L
 yt:YT y C m g.cr
theorem YT.more{y:YV}{C m m':Nat}{cr:Nat→List (List UInt8)}(h:YT y C m cr)(hm:m≤m'):YT y C m' cr:=⟨h.yg.more hm,h.tells,h.want,h.aj⟩
theorem Kno.more{y:YV}{C m m' L L':Nat}{g:GV}(h:Kno y C m g L)(hm:m≤m')(hL:L≤L'):Kno y C m' g L':=⟨h.saw.more hm hL,h.yt.more hm⟩
theorem GZ(g:GV)(fr:Nat)(t:ByteArray)(N:Nat):∀ k x,x∈g.cr k→x∈jC g fr t N k:=fun k x hx=>by
 unfold jC;split
 ·exact List.mem_append_left _ hx
 ·exact hx
theorem Kno.act{y y':YV}{C m L:Nat}{g g':GV}{x:aN}(h:Kno y C m g L)(hr:gu (4*C) y g x y' g')(hx:sQ x)(hC:C≤32)(hm:m+8000<1000000000):Kno y' C (m+2000) g' (L+1):=by
 refine⟨h.saw.act hr hx hC hm,?_⟩;obtain⟨⟨a1,a2⟩,hs,b1,b2⟩:=hx;have hyg:=h.saw.yg
 cases hr with
 | write hk =>
  by_cases hf:x.s.size % 16=0∧y.s.bP y.l x.a ((x.s.size / 16:Nat):Int)=0
  ·obtain⟨_,f0,_,_⟩:=SV.jr hyg.ok.ch.good hf.2
   have h1:y.dB x.a x.s≠1:=by
    unfold YV.dB;rw[if_pos hf];exact zY hyg.ok.ch.good hyg.ok.s hf.1 hf.2 (by omega)
   rw[if_neg h1];obtain⟨fr,e⟩:∃ fr:Nat,x.a=(fr:Int):=⟨x.a.toNat,by omega⟩
   rw[e] at hf ⊢;have hfr:((fr:Int)).toNat=fr:=Int.toNat_natCast fr;rw[hfr];refine(h.yt.write (cr':=jC g fr x.s (x.s.size / 16)) hf.1 hf.2 (by omega) (GZ g fr x.s _) fun k k1 k2=>?_).more (by omega)
   unfold jC;rw[if_pos ⟨k1,k2⟩];exact List.mem_append_right _ (List.mem_singleton.2 rfl)
  ·have e1:y.dB x.a x.s=1:=by unfold YV.dB;rw[if_neg hf]
   have e2:y.write x.a x.s=y:=by unfold YV.write;rw[if_neg hf]
   rw[if_pos e1,e2];exact h.yt.more (by omega)
 | wipe hk =>
  by_cases hf:y.s.bP y.l x.a x.b=0
  ·obtain⟨_,f0,n0,n1⟩:=SV.jr hyg.ok.ch.good hf
   have h1:y.jo x.a x.b≠1:=by
    unfold YV.jo;rw[if_pos hf];exact AQ hyg.ok.ch.good hyg.ok.s hf (by omega)
   rw[if_neg h1];obtain⟨fr,e⟩:∃ fr:Nat,x.a=(fr:Int):=⟨x.a.toNat,by omega⟩
   obtain⟨N,e'⟩:∃ N:Nat,x.b=(N:Int):=⟨x.b.toNat,by omega⟩
   rw[e,e'] at hf n1 ⊢;have hfr:((fr:Int)).toNat=fr:=Int.toNat_natCast fr;have hN:((N:Int)).toNat=N:=Int.toNat_natCast N;rw[hfr,hN];refine(h.yt.wipe (cr':=jC g fr (eH (N*16)) N) hf (by omega) (GZ g fr _ _) fun k k1 k2=>?_).more (by omega)
   unfold jC;rw[if_pos ⟨k1,k2⟩];exact List.mem_append_right _ (List.mem_singleton.2 (vU (n:=N) (i:=k-fr) (by omega)).symm)
  ·have e1:y.jo x.a x.b=1:=by unfold YV.jo;rw[if_neg hf]
   have e2:y.wipe x.a x.b=y:=by unfold YV.wipe;rw[if_neg hf]
   rw[if_pos e1,e2];exact h.yt.more (by omega)
 | flush hk =>
  refine(h.yt.flush (cr':=(jX g (4*C)).cr) fun k hk=>?_).more (by omega)
  show _∈(if k<4*C then g.now k else g.cr k)
  rw[if_pos hk];exact h.saw.now k hk
 | blank hk=>exact(h.yt.blank x.a (-1) (by omega)).more (by omega)
 | snap hk=>exact(h.yt.snap x.a (by omega)).more (by omega)
 | start hk=>exact(h.yt.start (d:=kW y x.a x.b x.c x.d) rfl (by omega)).more (by omega)
 | pivot hk=>exact(h.yt.pivot (by omega)).more (by omega)
 | cancel hk=>exact(h.yt.cancel (by omega)).more (by omega)
 | pause hk=>exact(h.yt.pause _).more (by omega)
 | tick hk=>exact(h.yt.tick _).more (by omega)
 | fail hk=>exact(h.yt.arm x.a x.b (by omega)).more (by omega)
 | step=>exact(h.yt.step (by omega)).more (by omega)
theorem gu.other{n:Nat}{y y':YV}{g g':GV}{x:aN}(h:gu n y g x y' g')(k:GV):∃ k',gu n y k x y' k':=by
 cases h with
 | write hk=>exact⟨_,.write hk⟩
 | wipe hk=>exact⟨_,.wipe hk⟩
 | flush hk=>exact⟨_,.flush hk⟩
 | blank hk=>exact⟨_,.blank hk⟩
 | snap hk=>exact⟨_,.snap hk⟩
 | start hk=>exact⟨_,.start hk⟩
 | pivot hk=>exact⟨_,.pivot hk⟩
 | cancel hk=>exact⟨_,.cancel hk⟩
 | pause hk=>exact⟨_,.pause hk⟩
 | tick hk=>exact⟨_,.tick hk⟩
 | fail hk=>exact⟨_,.fail hk⟩
 | step=>exact⟨_,.step⟩
theorem Kno.made{c p:Int}(hk:(newH c p).ok=true)(hn:aJ (newH c p)≤200):Kno (jF c p) c.toNat 20 ⟨fun _=>[noughts],fun _=>[noughts]⟩ 1:=⟨Saw.made hk hn,YT.new hk hn⟩
end Go.Proofs.YtonhoahnieoebabGreatDoor
namespace Go.Proofs.YtonhoahnieoebabGreatDoor
open Go.RowKit
theorem I7{B g cap:Nat}(l:List (Nat × List UInt8))(w:World)(h1:1≤l.length)(h2:l.length≤1000000000)(hl:∀ x∈l,x.2.length=16)
  (ho:w.ownsRow B 266 17 (.slice (some ⟨g,0,none⟩) l.length cap) l.length (iZ l)) :
  Calls Tryz.prog 228 #[.slice (some ⟨g,0,none⟩) l.length cap] w fun e w' =>
   ∃ g' cap',e=.returned (.slice (some ⟨g',0,none⟩) l.length cap')∧w'.ownsRow w.heap.size 266 17 (.slice (some ⟨g',0,none⟩) l.length cap') l.length (iZ l)∧Below w.heap.size w w':=by
 obtain⟨i0,hi,hz0,hz1,hz2⟩:=info_parts DF;have hn:=zO ho;have hlen:=Uh l hl;have h1c:=G8 l;obtain⟨_,cur,hh,_⟩:=gB ho;have hg:g<w.heap.size:=lt_of_some hh
 have HN:Hid (∀ j u,(iZ l)[j]?=some u→(w.alloc (.cells #[] 266)).cell? ((⟨g,0,none⟩:Addr).add j)=some u):=fun j u hj=>by
  have:=hn j u hj
  rw[World.cell?_alloc_lt _ _ _ (World.block_lt_of_cell? w _ this)];exact this
 have hq:∀ w:World,(binOp .eql 262 (.slice (some ⟨g,0,none⟩) l.length cap) (.slice none 0 0)).run Tryz.prog w=.ok (.bool false) w:=fun w=>by
  simpa using Lib.run_eql_slice_nil (P:=Tryz.prog) w 262 266 (some ⟨g,0,none⟩) l.length cap 0 0 Tryz.underlying262
 clear hn hh;go_enter Tryz.func228,Tryz.ntmps228
 go_wp2_with (at_builtin;refine wpList_append_lies _ rfl _ _ 262 rfl w.heap.size 266 i0 AY 17 24 Tryz.underlying262 hi hz0 hz1 hz2 rfl (by decide) _ 0 [] rfl (EG w 266 17) ⟨g,0,none⟩ l.length cap (iZ l) rfl hlen HN.out h1c (by omega) (by unfold maxLen;omega) (by omega) (by simp) _ rfl ?_;intro g' cap' w1 hown hgrow hat hlt)
 rw[Nat.zero_add] at hown;go_ret
 exact⟨g',cap',rfl,by simpa using hown,((Below.refl _ _).alloc (Nat.le_refl _) _).grown (row:=some w.heap.size) hgrow (by simp) (fun k e=>by
  have:w.heap.size=k:=by simpa using e
  omega)⟩
theorem I9(w:World) :
  Calls Tryz.prog 228 #[.slice none 0 0] w fun e w'=>e=.returned (.slice none 0 0)∧w'=w:=by
 have hq:∀ w:World,(binOp .eql 262 (.slice none 0 0) (.slice none 0 0)).run Tryz.prog w=.ok (.bool true) w:=fun w=>by
  simpa using Lib.run_eql_slice_nil (P:=Tryz.prog) w 262 266 none 0 0 0 0 Tryz.underlying262
 go_enter Tryz.func228,Tryz.ntmps228
 go_wp2
 go_ret
 exact⟨rfl,rfl⟩
attribute [local go_sem ↓] Go.wp_at_zero Go.wp_at_succ
theorem I8{B:Nat}{h:Hd}{d:DV}(w:World)(hd:aH B w h d) :
  Calls Tryz.prog 228 #[h.v2] w fun e w' =>
   ∃ a c,e=.returned (.slice a d.pend.length c)∧w'.ownsRow w.heap.size 266 17 (.slice a d.pend.length c) d.pend.length (iZ d.pend)∧Below w.heap.size w w'∧(d.pend=[]→(Value.slice a d.pend.length c)=.slice none 0 0):=by
 by_cases hp:d.pend=[]
 ·rw[hd.pn hp]
  refine(I9 w).mono ?_;rintro e w' ⟨rfl,rfl⟩;rw[hp];exact⟨none,0,rfl,World.ownsRow_nil _ _ _ _,Below.refl _ _,fun _=>rfl⟩
 ·have h1:1≤d.pend.length:=List.length_pos_iff.2 hp
  obtain⟨g,cap,hv,_,_⟩:=hd.op.form h1;have ho:=hd.op;rw[hv] at ho ⊢;refine(I7 d.pend w h1 (by have:=hd.ok.few;have:=hd.ok.few2;omega) (fun x hx=>(hd.ok.l3 x hx).2) ho).mono ?_
  rintro e w' ⟨g',cap',rfl,a,b⟩;exact⟨_,_,rfl,a,b,fun q=>absurd q hp⟩
theorem vW{B:Nat}{h:Hd}{d:DV}(w:World)(hd:aH B w h d) :
  Calls Tryz.prog 133 #[.pointer (some ⟨h.p,0,none⟩)] w fun e w' =>
   ∃ h':Hd,e=.returned (.pointer (some ⟨h'.p,0,none⟩))∧aH w.heap.size w' h' d∧Below w.heap.size w w':=by
 obtain⟨c0,c1,c2,c3,c4,fz⟩:=hd.cells;have hpl:h.p<w.heap.size:=(hd.lt _ (.inl rfl)).2;have HD:Hid (aH B w h d):=hd;obtain⟨va,vc,hv2⟩:=hd.v2;have HV:Hid (h.v2=.slice va d.pend.length vc):=hv2;rw[hv2] at c2;have h1:=hd.ok.n1;have h200:=hd.ok.n2;have HB0:Hid (Below w.heap.size w (w.alloc (.cells #[.slice (some ⟨h.bf,0,none⟩) d.fl.length h.cf,.slice (some ⟨h.bs,0,none⟩) d.fl.length h.cs,.slice va d.pend.length vc,.int .i64 (d.wr:Int),.int .i64 d.fail] 264))):=(Below.refl _ _).alloc (Nat.le_refl _) _;have HN0:Hid ((w.alloc (.cells #[.slice (some ⟨h.bf,0,none⟩) d.fl.length h.cf,.slice (some ⟨h.bs,0,none⟩) d.fl.length h.cs,.slice va d.pend.length vc,.int .i64 (d.wr:Int),.int .i64 d.fail] 264)).heap[w.heap.size]?=some (.cells #[.slice (some ⟨h.bf,0,none⟩) d.fl.length h.cf,.slice (some ⟨h.bs,0,none⟩) d.fl.length h.cs,.slice va d.pend.length vc,.int .i64 (d.wr:Int),.int .i64 d.fail] 264 (0,0))):=heap_alloc_new w _
 have HC0:Hid ((w.alloc (.cells #[.slice (some ⟨h.bf,0,none⟩) d.fl.length h.cf,.slice (some ⟨h.bs,0,none⟩) d.fl.length h.cs,.slice va d.pend.length vc,.int .i64 (d.wr:Int),.int .i64 d.fail] 264)).heap.size=w.heap.size+1):=by unfold Hid;simp
 have c0':(w.alloc (.cells #[.slice (some ⟨h.bf,0,none⟩) d.fl.length h.cf,.slice (some ⟨h.bs,0,none⟩) d.fl.length h.cs,.slice va d.pend.length vc,.int .i64 (d.wr:Int),.int .i64 d.fail] 264)).cell? ⟨h.p,0,none⟩=some (.slice (some ⟨h.bf,0,none⟩) d.fl.length h.cf):=by rw[HB0.out.cell hpl];exact c0
 clear hd fz hv2;go_enter Tryz.func133,Tryz.ntmps133
 go_wp2_with fail
 generalize w.alloc (.cells #[.slice (some ⟨h.bf,0,none⟩) d.fl.length h.cf,.slice (some ⟨h.bs,0,none⟩) d.fl.length h.cs,.slice va d.pend.length vc,.int .i64 (d.wr:Int),.int .i64 d.fail] 264)=w0 at HB0 HN0 HC0 c0' ⊢;clear c0';have keep0:∀ W:World,Below w.heap.size w W→aH B W h d:=fun W hb=>HD.out.keep fun k hk=>hb.block k (HD.out.lt k hk).2
 have HK:Hid (∀ W:World,Below w.heap.size w W→aH B W h d):=keep0;clear keep0;have hs0:w.heap.size<w0.heap.size:=by rw[HC0.out];omega
 refine(yI d.fl w0 h1 h200 HD.out.ok.l1 (HK.out w0 HB0.out).of).mono ?_;rintro e w1 ⟨g1,k1,rfl,ho1,hb1⟩;have HB1:Hid (Below w.heap.size w (w1.setCell ⟨w.heap.size,0,none⟩ (.slice (some ⟨g1,0,none⟩) d.fl.length k1))):=(HB0.out.trans (hb1.mono (by omega))).setCell (Nat.le_refl _) _
 have hN1:w1.heap[w.heap.size]?=_:=(hb1.block w.heap.size hs0).trans HN0.out
 have HN1:Hid ((w1.setCell ⟨w.heap.size,0,none⟩ (.slice (some ⟨g1,0,none⟩) d.fl.length k1)).heap[w.heap.size]?=some (.cells #[.slice (some ⟨g1,0,none⟩) d.fl.length k1,.slice (some ⟨h.bs,0,none⟩) d.fl.length h.cs,.slice va d.pend.length vc,.int .i64 (d.wr:Int),.int .i64 d.fail] 264 (0,0))):=by
  unfold Hid;rw[heap_setCell_same w1 _ 0 _ _ _ hN1];rfl
 have HO1:Hid ((w1.setCell ⟨w.heap.size,0,none⟩ (.slice (some ⟨g1,0,none⟩) d.fl.length k1)).ownsRow w0.heap.size 261 16 (.slice (some ⟨g1,0,none⟩) d.fl.length k1) d.fl.length (dw d.fl)):=dA ho1 (fun q e=>by
  have:g1=q:=by simpa [Value.ownBlock] using e
  subst this;have:=(gB ho1).1
  exact heap_setCell_other _ _ _ _ (show g1≠w.heap.size by omega))
 have fN1:=frozen_of_row w1 w.heap.size 0 _ _ hN1;have cN1:=cell_of_row w1 w.heap.size 0 _ _ _ hN1;have c1':(w1.setCell ⟨w.heap.size,0,none⟩ (.slice (some ⟨g1,0,none⟩) d.fl.length k1)).cell? ⟨h.p,1,none⟩=some (.slice (some ⟨h.bs,0,none⟩) d.fl.length h.cs):=by rw[HB1.out.cell hpl];exact c1
 have c2':(w1.setCell ⟨w.heap.size,0,none⟩ (.slice (some ⟨g1,0,none⟩) d.fl.length k1)).cell? ⟨h.p,2,none⟩=some (.slice va d.pend.length vc):=by rw[HB1.out.cell hpl];exact c2
 have hs1:w0.heap.size≤(w1.setCell ⟨w.heap.size,0,none⟩ (.slice (some ⟨g1,0,none⟩) d.fl.length k1)).heap.size:=by have:=hb1.size;simpa [World.setCell] using this
 have hg1:g1<(w1.setCell ⟨w.heap.size,0,none⟩ (.slice (some ⟨g1,0,none⟩) d.fl.length k1)).heap.size:=by
  obtain⟨_,cur,hh,_⟩:=gB HO1.out;exact lt_of_some hh
 clear ho1 hb1 HN0 HC0 HB0 hN1 c0;go_wp2_with fail
 generalize w1.setCell ⟨w.heap.size,0,none⟩ (.slice (some ⟨g1,0,none⟩) d.fl.length k1)=W1 at HB1 HN1 HO1 c1' c2' hs1 hg1 ⊢;clear c1' fN1 cN1;have hseen:(HD.out.ok.same)=HD.out.ok.same:=rfl;have hos:=(HK.out W1 HB1.out).os;rw[← HD.out.ok.same] at hos;have hcl:=yI d.seen W1 (by rw[HD.out.ok.same];exact h1) (by rw[HD.out.ok.same];exact h200) HD.out.ok.l2 hos
 rw[HD.out.ok.same] at hcl;clear hseen hos;refine hcl.mono ?_;rintro e w2 ⟨g2,k2,rfl,ho2,hb2⟩;clear hcl;have HB2:Hid (Below w.heap.size w (w2.setCell ⟨w.heap.size,1,none⟩ (.slice (some ⟨g2,0,none⟩) d.fl.length k2))):=(HB1.out.trans (hb2.mono (by omega))).setCell (Nat.le_refl _) _
 have hN2:w2.heap[w.heap.size]?=_:=(hb2.block w.heap.size (by omega)).trans HN1.out
 have HN2:Hid ((w2.setCell ⟨w.heap.size,1,none⟩ (.slice (some ⟨g2,0,none⟩) d.fl.length k2)).heap[w.heap.size]?=some (.cells #[.slice (some ⟨g1,0,none⟩) d.fl.length k1,.slice (some ⟨g2,0,none⟩) d.fl.length k2,.slice va d.pend.length vc,.int .i64 (d.wr:Int),.int .i64 d.fail] 264 (0,0))):=by
  unfold Hid;rw[heap_setCell_same w2 _ 1 _ _ _ hN2];rfl
 have hg1B:=(gB HO1.out).1;have hg2B:=(gB ho2).1
 have HO1b:Hid ((w2.setCell ⟨w.heap.size,1,none⟩ (.slice (some ⟨g2,0,none⟩) d.fl.length k2)).ownsRow w0.heap.size 261 16 (.slice (some ⟨g1,0,none⟩) d.fl.length k1) d.fl.length (dw d.fl)):=dA HO1.out (fun q e=>by
  have:g1=q:=by simpa [Value.ownBlock] using e
  subst this
  rw[heap_setCell_other _ _ _ _ (show g1≠w.heap.size by omega)];exact hb2.block g1 hg1)
 have HO2:Hid ((w2.setCell ⟨w.heap.size,1,none⟩ (.slice (some ⟨g2,0,none⟩) d.fl.length k2)).ownsRow W1.heap.size 261 16 (.slice (some ⟨g2,0,none⟩) d.fl.length k2) d.fl.length (dw d.seen)):=dA ho2 (fun q e=>by
  have:g2=q:=by simpa [Value.ownBlock] using e
  subst this
  exact heap_setCell_other _ _ _ _ (show g2≠w.heap.size by omega))
 have fN2:=frozen_of_row w2 w.heap.size 1 _ _ hN2;have cN2:=cell_of_row w2 w.heap.size 1 _ _ _ hN2;have c2'':(w2.setCell ⟨w.heap.size,1,none⟩ (.slice (some ⟨g2,0,none⟩) d.fl.length k2)).cell? ⟨h.p,2,none⟩=some (.slice va d.pend.length vc):=by rw[HB2.out.cell hpl];exact c2
 have hs2:W1.heap.size≤(w2.setCell ⟨w.heap.size,1,none⟩ (.slice (some ⟨g2,0,none⟩) d.fl.length k2)).heap.size:=by have:=hb2.size;simpa [World.setCell] using this
 have hg2:g2<(w2.setCell ⟨w.heap.size,1,none⟩ (.slice (some ⟨g2,0,none⟩) d.fl.length k2)).heap.size:=by
  obtain⟨_,cur,hh,_⟩:=gB HO2.out;exact lt_of_some hh
 clear ho2 hb2 HN1 HB1 hN2 c1 c2' HO1;go_wp2_with fail
 generalize w2.setCell ⟨w.heap.size,1,none⟩ (.slice (some ⟨g2,0,none⟩) d.fl.length k2)=W2 at HB2 HN2 HO1b HO2 c2'' hs2 hg2 ⊢;clear c2'' fN2 cN2;have hclw:=I8 W2 (HK.out W2 HB2.out);rw[HV.out] at hclw;refine hclw.mono ?_;rintro e w3 ⟨a3,k3,rfl,ho3,hb3,hpn⟩;clear hclw;have HB3:Hid (Below w.heap.size w (w3.setCell ⟨w.heap.size,2,none⟩ (.slice a3 d.pend.length k3))):=(HB2.out.trans (hb3.mono (by omega))).setCell (Nat.le_refl _) _
 have hN3:w3.heap[w.heap.size]?=_:=(hb3.block w.heap.size (by omega)).trans HN2.out
 have HFIN:Hid (aH w.heap.size (w3.setCell ⟨w.heap.size,2,none⟩ (.slice a3 d.pend.length k3)) ⟨w.heap.size,g1,k1,g2,k2,.slice a3 d.pend.length k3⟩ d):=by
  refine⟨HD.out.ok,Nat.le_refl _,?_,?_,?_,?_,show g1≠g2 by omega,hpn⟩
  ·show(w3.setCell ⟨w.heap.size,2,none⟩ (.slice a3 d.pend.length k3)).heap[w.heap.size]?=_
   rw[heap_setCell_same w3 _ 2 _ _ _ hN3];rfl
  ·exact ownsRow_base (dA HO1b.out (fun q e=>by
    have:g1=q:=by simpa [Value.ownBlock] using e
    subst this
    rw[heap_setCell_other _ _ _ _ (show g1≠w.heap.size by omega)];exact hb3.block g1 (by omega))) (by omega)
  ·exact ownsRow_base (dA HO2.out (fun q e=>by
    have:g2=q:=by simpa [Value.ownBlock] using e
    subst this
    rw[heap_setCell_other _ _ _ _ (show g2≠w.heap.size by omega)];exact hb3.block g2 hg2)) (by omega)
  ·exact ownsRow_base (dA ho3 (fun q e=>by
    have:=(ho3.lt q e).1
    exact heap_setCell_other _ _ _ _ (show q≠w.heap.size by omega))) (by omega)
 have fN3:=frozen_of_row w3 w.heap.size 2 _ _ hN3;have cN3:=cell_of_row w3 w.heap.size 2 _ _ _ hN3;clear ho3 hb3 HN2 HB2 hN3 c2 HO1b HO2 hpn;go_wp2
 go_ret
 exact⟨⟨w.heap.size,g1,k1,g2,k2,.slice a3 d.pend.length k3⟩,rfl,HFIN.out,HB3.out⟩
end Go.Proofs.YtonhoahnieoebabGreatDoor
