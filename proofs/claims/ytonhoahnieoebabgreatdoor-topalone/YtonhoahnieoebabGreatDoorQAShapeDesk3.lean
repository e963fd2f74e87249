/- Sectors as desks (C3), in the program: what ReadDesk gives. -/
import Derived.Test.YtonhoahnieoebabGreatDoorQAYardP5
set_option maxHeartbeats 2000000
set_option maxRecDepth 100000
namespace Go.Proofs.YtonhoahnieoebabGreatDoor
open Go.RowKit
attribute [local go_sem ↓] Go.wp_at_zero Go.wp_at_succ
theorem Ac(s:ByteArray)(h:s.size=16):∃(h5:5<s.size) (h6:6<s.size) (h7:7<s.size) (h8:8<s.size),((s[5]'h5).toNat:Int)=bAt s 5∧((s[6]'h6).toNat:Int)=bAt s 6∧((s[7]'h7).toNat:Int)=bAt s 7∧((s[8]'h8).toNat:Int)=bAt s 8 :=
 ⟨by omega,by omega,by omega,by omega,oz s 5 _,oz s 6 _,oz s 7 _,oz s 8 _⟩
theorem P8(s:ByteArray)(w:World)(hs:dX s≠0) :
  Calls Tryz.prog 136 #[.string s] w fun e w'=>e=.returned (.tuple #[.agg (jI s).cells,erV (bJ s)])∧Below w.heap.size w w':=by
 have hch:=o7 s (w.alloc (.cells #[.int .i64 0,.int .i64 0,.int .i64 0,.int .i64 0,.int .i64 0] 47));have e1:bJ s=dX s:=by unfold bJ;rw[if_neg hs]
 have e2:jI s=KV.zero:=by unfold jI;rw[if_neg (fun h=>hs h.1)]
 have e3:erV (dX s)=.iface 127 (.int .i64 (dX s)):=by unfold erV;rw[if_neg hs]
 rw[e1,e2,e3];rw[e3] at hch;generalize dX s=f at hch;have HC:=ah hch;clear hch e1 e2 e3 hs;go_enter Tryz.func136,Tryz.ntmps136
 go_wp2_with fail
 refine HC.out.mono ?_;rintro e w1 ⟨rfl,hb1⟩;obtain⟨hc,hf⟩:=lJ hb1;have hz:w.heap.size<w1.heap.size:=by have:=hb1.size;simp at this;omega
 go_wp2
 exact bodyPost_ret (v:=.tuple #[.agg #[.int .i64 0,.int .i64 0,.int .i64 0,.int .i64 0,.int .i64 0],.iface 127 (.int .i64 f)]) (by simp[results,Tryz.results136,go_sem,hc]) rfl ⟨rfl,((((((((Below.refl _ _).alloc (Nat.le_refl _) _).trans (hb1.mono (by simp))).setCell (by simp) _).setCell (by simp) _).setCell (by simp) _).setCell (by simp) _).setCell (by simp) _)⟩
theorem P5(s:ByteArray)(w:World)(hs:dX s=0)(hk:(lg s).fault≠0) :
  Calls Tryz.prog 136 #[.string s] w fun e w'=>e=.returned (.tuple #[.agg (jI s).cells,erV (bJ s)])∧Below w.heap.size w w':=by
 have hch:=o7 s (w.alloc (.cells #[.int .i64 0,.int .i64 0,.int .i64 0,.int .i64 0,.int .i64 0] 47));have hg:mY s=false:=by unfold mY;rw[decide_eq_false hk];rfl
 have e1:bJ s=2:=by unfold bJ;rw[if_pos hs,if_neg (by rw[hg];decide)]
 have e2:jI s=KV.zero:=by unfold jI;rw[if_neg (fun h=>by rw[hg] at h;exact absurd h.2 (by decide))]
 have h16:s.size=16:=rY hs;obtain⟨h2,h3,h4,b2,b3,b4⟩:=rW s h16;obtain⟨h5,h6,h7,h8,b5,b6,b7,b8⟩:=Ac s h16;obtain⟨l2,u2⟩:=fK s 2;obtain⟨l3,u3⟩:=fK s 3;obtain⟨l4,u4⟩:=fK s 4;obtain⟨l5,u5⟩:=fK s 5;obtain⟨l6,u6⟩:=fK s 6;obtain⟨l7,u7⟩:=fK s 7;obtain⟨l8,u8⟩:=fK s 8;have HN:Hid (∀ W:World,Calls Tryz.prog 213 #[.agg #[.int .i64 (bAt s 2),.int .i64 (bAt s 3),.int .i64 (bAt s 4-1),.int .i64 (bAt s 5+bAt s 6*256),.int .i64 (bAt s 7+bAt s 8*256)]] W fun e w'=>e=.returned (.tuple #[.string ⟨#[]⟩,.iface 127 (.int .i64 (KV.fault ⟨bAt s 2,bAt s 3,bAt s 4-1,bAt s 5+bAt s 6*256,bAt s 7+bAt s 8*256⟩))])∧Below W.heap.size W w'):=fun W=>Ju _ _ _ _ _ W hk
 generalize KV.fault ⟨bAt s 2,bAt s 3,bAt s 4-1,bAt s 5+bAt s 6*256,bAt s 7+bAt s 8*256⟩=fl at HN;rw[e1,e2,mZ];rw[hs,aB] at hch;have HC:=ah hch;clear hch e1 e2 hs hk hg h16;generalize bAt s 2=x2 at b2 l2 u2 HN;generalize bAt s 3=x3 at b3 l3 u3 HN;generalize bAt s 4=x4 at b4 l4 u4 HN;generalize bAt s 5=x5 at b5 l5 u5 HN;generalize bAt s 6=x6 at b6 l6 u6 HN;generalize bAt s 7=x7 at b7 l7 u7 HN;generalize bAt s 8=x8 at b8 l8 u8 HN;have i2:(2:Int)<(s.size:Int):=by omega
 have i3:(3:Int)<(s.size:Int):=by omega
 have i4:(4:Int)<(s.size:Int):=by omega
 have i5:(5:Int)<(s.size:Int):=by omega
 have i6:(6:Int)<(s.size:Int):=by omega
 have i7:(7:Int)<(s.size:Int):=by omega
 have i8:(8:Int)<(s.size:Int):=by omega
 go_enter Tryz.func136,Tryz.ntmps136
 go_wp2_with fail
 refine HC.out.mono ?_;rintro e w1 ⟨rfl,hb1⟩;obtain⟨hc,hf⟩:=lJ hb1;have hz:w.heap.size<w1.heap.size:=by have:=hb1.size;simp at this;omega
 go_wp2
 refine wp_region_noPanic ?_;refine wp_region_held_drew (S:=fun _=>True) (by kernel_rfl) trivial (fun hHeld=>?_)
 refine wpAnyH_take (i:=0) (oi:=_) (v:=?_) rfl (by kernel_rfl) (by kernel_rfl) (by kernel_rfl) (fun _ _ _ h=>h) (Or.inl ⟨by rfl,?_⟩) trivial ?_
 rotate_left
 ·(intro w hSw;go_simp;try with_reducible rfl)
 simp only[Act.put];refine wpAnyH_take (i:=1) (oi:=_) (v:=?_) rfl (by kernel_rfl) (by kernel_rfl) (by kernel_rfl) (fun _ _ _ h=>h) (Or.inl ⟨by rfl,?_⟩) trivial ?_
 rotate_left
 ·(intro w hSw;go_simp;try with_reducible rfl)
 simp only[Act.put];refine wpAnyH_take (i:=2) (oi:=_) (v:=?_) rfl (by kernel_rfl) (by kernel_rfl) (by kernel_rfl) (fun _ _ _ h=>h) (Or.inl ⟨by rfl,?_⟩) trivial ?_
 rotate_left
 ·(intro w hSw;go_simp;try with_reducible rfl)
 simp only[Act.put];refine wpAnyH_take (i:=3) (oi:=_) (v:=?_) rfl (by kernel_rfl) (by kernel_rfl) (by kernel_rfl) (fun _ _ _ h=>h) (Or.inl ⟨by rfl,?_⟩) trivial ?_
 rotate_left
 ·(intro w hSw;go_simp;try with_reducible rfl)
 simp only[Act.put];refine wpAnyH_take (i:=4) (oi:=_) (v:=?_) rfl (by kernel_rfl) (by kernel_rfl) (by kernel_rfl) (fun _ _ _ h=>h) (Or.inl ⟨by rfl,?_⟩) trivial ?_
 rotate_left
 ·(intro w hSw;go_simp;try with_reducible rfl)
 simp only[Act.put];refine wpAnyH_take (i:=5) (oi:=_) (v:=?_) rfl (by kernel_rfl) (by kernel_rfl) (by kernel_rfl) (fun _ _ _ h=>h) (Or.inl ⟨by rfl,?_⟩) trivial ?_
 rotate_left
 ·(intro w hSw;go_simp;try with_reducible rfl)
 simp only[Act.put];refine wpAnyH_take (i:=6) (oi:=_) (v:=?_) rfl (by kernel_rfl) (by kernel_rfl) (by kernel_rfl) (fun _ _ _ h=>h) (Or.inl ⟨by rfl,?_⟩) trivial ?_
 rotate_left
 ·(intro w hSw;go_simp;try with_reducible rfl)
 simp only[Act.put];refine wpAnyH_take (i:=7) (oi:=_) (v:=?_) rfl (by kernel_rfl) (by kernel_rfl) (by kernel_rfl) (fun _ _ _ h=>h) (Or.inl ⟨by rfl,?_⟩) trivial ?_
 rotate_left
 ·(intro w hSw;go_simp;try with_reducible rfl)
 simp only[Act.put];refine wpAnyH_take (i:=8) (oi:=_) (v:=?_) rfl (by kernel_rfl) (by kernel_rfl) (by kernel_rfl) (fun _ _ _ h=>h) (Or.inl ⟨by rfl,?_⟩) trivial ?_
 rotate_left
 ·(intro w hSw;go_simp;try with_reducible rfl)
 simp only[Act.put];refine wpAnyH_take (i:=9) (oi:=_) (v:=?_) rfl (by kernel_rfl) (by kernel_rfl) (by kernel_rfl) (fun _ _ _ h=>h) (Or.inl ⟨by rfl,?_⟩) trivial ?_
 rotate_left
 ·(intro w hSw;go_simp;try with_reducible rfl)
 simp only[Act.put];refine wpAnyH_take (i:=10) (oi:=_) (v:=?_) rfl (by kernel_rfl) (by kernel_rfl) (by kernel_rfl) (fun _ _ _ h=>h) (Or.inl ⟨by rfl,?_⟩) trivial ?_
 rotate_left
 ·(intro w hSw;go_simp;try with_reducible rfl)
 simp only[Act.put];refine wpAnyH_take (i:=11) (oi:=_) (v:=?_) rfl (by kernel_rfl) (by kernel_rfl) (by kernel_rfl) (fun _ _ _ h=>h) (Or.inl ⟨by rfl,?_⟩) trivial ?_
 rotate_left
 ·(intro w hSw;go_simp;try with_reducible rfl)
 simp only[Act.put];refine wpAnyH_take (i:=12) (oi:=_) (v:=?_) rfl (by kernel_rfl) (by kernel_rfl) (by kernel_rfl) (fun _ _ _ h=>h) (Or.inl ⟨by rfl,?_⟩) trivial ?_
 rotate_left
 ·(intro w hSw;go_simp;try with_reducible rfl)
 simp only[Act.put];refine wpAnyH_take (i:=13) (oi:=_) (v:=?_) rfl (by kernel_rfl) (by kernel_rfl) (by kernel_rfl) (fun _ _ _ h=>h) (Or.inl ⟨by rfl,?_⟩) trivial ?_
 rotate_left
 ·(intro w hSw;go_simp;try with_reducible rfl)
 simp only[Act.put];refine wpAnyH_take (i:=15) (oi:=_) (v:=?_) rfl (by kernel_rfl) (by kernel_rfl) (by kernel_rfl) (fun _ _ _ h=>h) (Or.inl ⟨by rfl,?_⟩) trivial ?_
 rotate_left
 ·(intro w hSw;go_simp;try with_reducible rfl)
 simp only[Act.put];refine wpAnyH_take (i:=16) (oi:=_) (v:=?_) rfl (by kernel_rfl) (by kernel_rfl) (by kernel_rfl) (fun _ _ _ h=>h) (Or.inl ⟨by rfl,?_⟩) trivial ?_
 rotate_left
 ·(intro w hSw;go_simp;try with_reducible rfl)
 simp only[Act.put];refine wpAnyH_take (i:=17) (oi:=_) (v:=?_) rfl (by kernel_rfl) (by kernel_rfl) (by kernel_rfl) (fun _ _ _ h=>h) (Or.inl ⟨by rfl,?_⟩) trivial ?_
 rotate_left
 ·(intro w hSw;go_simp;try with_reducible rfl)
 simp only[Act.put];refine wpAnyH_take (i:=18) (oi:=_) (v:=?_) rfl (by kernel_rfl) (by kernel_rfl) (by kernel_rfl) (fun _ _ _ h=>h) (Or.inl ⟨by rfl,?_⟩) trivial ?_
 rotate_left
 ·(intro w hSw;go_simp;try with_reducible rfl)
 simp only[Act.put];refine wpAnyH_ready (rs:=[14,21]) (by kernel_rfl) (by simp) ?_
 refine AllReadyH.cons (o:=_) rfl (fun K hK=>?_) ?_
 ·go_simp
  go_at_call 233;refine(kT _ _ _ (by assumption) (by assumption) (by assumption) (by assumption)).mono ?_;rintro e w' ⟨rfl,rfl⟩
  try go_wp2_with fail
  refine hK.out _ _ trivial (fun _=>?_)
  clear hK K
  try simp only[Act.put,List.setIfInBounds_toArray]
  refine wpAnyH_ready (rs:=[19,21]) (by kernel_rfl) (by simp) ?_
  refine AllReadyH.cons (o:=_) rfl (fun K hK=>?_) ?_
  ·go_simp
   go_at_call 233;refine(kT _ _ _ (by assumption) (by assumption) (by assumption) (by assumption)).mono ?_;rintro e w' ⟨rfl,rfl⟩
   try go_wp2_with fail
   refine hK.out _ _ trivial (fun _=>?_)
   clear hK K
   try simp only[Act.put,List.setIfInBounds_toArray]
   refine wpAnyH_take (i:=20) (oi:=_) (v:=?_) rfl (by kernel_rfl) (by kernel_rfl) (by kernel_rfl) (fun _ _ _ h=>h) (Or.inl ⟨by rfl,?_⟩) trivial ?_
   rotate_left
   ·(intro w hSw;go_simp;try with_reducible rfl)
   simp only[Act.put];refine wpAnyH_ready (rs:=[21]) (by kernel_rfl) (by simp) ?_
   refine AllReadyH.cons (o:=_) rfl (fun K hK=>?_) ?_
   ·go_simp
    refine hK.out _ _ trivial (fun _=>?_)
    clear hK K
    try simp only[Act.put,List.setIfInBounds_toArray]
    refine wpAnyH_ready (rs:=[22]) (by kernel_rfl) (by simp) ?_
    refine AllReadyH.cons (o:=_) rfl (fun K hK=>?_) ?_
    ·go_simp
     refine hK.out _ _ trivial (fun _=>?_)
     clear hK K
     try simp only[Act.put,List.setIfInBounds_toArray]
     refine wpAnyH_done (by kernel_rfl) ?_ _
     refine NoPanic.normal ?_;go_wp2_with fail
     refine(HN.out _).mono ?_;rintro e w2 ⟨rfl,hb2⟩;have q0:=bZ hb1 hb2 0 _ rfl;have f0:=dF hb1 hb2 0;have q1:=bZ hb1 hb2 1 _ rfl;have f1:=dF hb1 hb2 1;have q2:=bZ hb1 hb2 2 _ rfl;have f2:=dF hb1 hb2 2;have q3:=bZ hb1 hb2 3 _ rfl;have f3:=dF hb1 hb2 3;have q4:=bZ hb1 hb2 4 _ rfl;have f4:=dF hb1 hb2 4;go_wp2
     exact bodyPost_ret (v:=.tuple #[.agg #[.int .i64 0,.int .i64 0,.int .i64 0,.int .i64 0,.int .i64 0],.iface 127 (.int .i64 2)]) (by simp[results,Tryz.results136,go_sem,q0,q1,q2,q3,q4]) rfl ⟨rfl,(((((below3 hb1 hb2).setCell (Nat.le_refl _) _).setCell (Nat.le_refl _) _).setCell (Nat.le_refl _) _).setCell (Nat.le_refl _) _).setCell (Nat.le_refl _) _⟩
    exact AllReadyH.nil
   exact AllReadyH.nil
  refine AllReadyH.cons (o:=_) rfl (fun K hK=>?_) ?_
  ·go_simp
   refine hK.out _ _ trivial (fun _=>?_)
   clear hK K
   try simp only[Act.put,List.setIfInBounds_toArray]
   refine wpAnyH_ready (rs:=[19]) (by kernel_rfl) (by simp) ?_
   refine AllReadyH.cons (o:=_) rfl (fun K hK=>?_) ?_
   ·go_simp
    go_at_call 233;refine(kT _ _ _ (by assumption) (by assumption) (by assumption) (by assumption)).mono ?_;rintro e w' ⟨rfl,rfl⟩
    try go_wp2_with fail
    refine hK.out _ _ trivial (fun _=>?_)
    clear hK K
    try simp only[Act.put,List.setIfInBounds_toArray]
    refine wpAnyH_take (i:=20) (oi:=_) (v:=?_) rfl (by kernel_rfl) (by kernel_rfl) (by kernel_rfl) (fun _ _ _ h=>h) (Or.inl ⟨by rfl,?_⟩) trivial ?_
    rotate_left
    ·(intro w hSw;go_simp;try with_reducible rfl)
    simp only[Act.put];refine wpAnyH_ready (rs:=[22]) (by kernel_rfl) (by simp) ?_
    refine AllReadyH.cons (o:=_) rfl (fun K hK=>?_) ?_
    ·go_simp
     refine hK.out _ _ trivial (fun _=>?_)
     clear hK K
     try simp only[Act.put,List.setIfInBounds_toArray]
     refine wpAnyH_done (by kernel_rfl) ?_ _
     refine NoPanic.normal ?_;go_wp2_with fail
     refine(HN.out _).mono ?_;rintro e w2 ⟨rfl,hb2⟩;have q0:=bZ hb1 hb2 0 _ rfl;have f0:=dF hb1 hb2 0;have q1:=bZ hb1 hb2 1 _ rfl;have f1:=dF hb1 hb2 1;have q2:=bZ hb1 hb2 2 _ rfl;have f2:=dF hb1 hb2 2;have q3:=bZ hb1 hb2 3 _ rfl;have f3:=dF hb1 hb2 3;have q4:=bZ hb1 hb2 4 _ rfl;have f4:=dF hb1 hb2 4;go_wp2
     exact bodyPost_ret (v:=.tuple #[.agg #[.int .i64 0,.int .i64 0,.int .i64 0,.int .i64 0,.int .i64 0],.iface 127 (.int .i64 2)]) (by simp[results,Tryz.results136,go_sem,q0,q1,q2,q3,q4]) rfl ⟨rfl,(((((below3 hb1 hb2).setCell (Nat.le_refl _) _).setCell (Nat.le_refl _) _).setCell (Nat.le_refl _) _).setCell (Nat.le_refl _) _).setCell (Nat.le_refl _) _⟩
    exact AllReadyH.nil
   exact AllReadyH.nil
  exact AllReadyH.nil
 refine AllReadyH.cons (o:=_) rfl (fun K hK=>?_) ?_
 ·go_simp
  refine hK.out _ _ trivial (fun _=>?_)
  clear hK K
  try simp only[Act.put,List.setIfInBounds_toArray]
  refine wpAnyH_ready (rs:=[14]) (by kernel_rfl) (by simp) ?_
  refine AllReadyH.cons (o:=_) rfl (fun K hK=>?_) ?_
  ·go_simp
   go_at_call 233;refine(kT _ _ _ (by assumption) (by assumption) (by assumption) (by assumption)).mono ?_;rintro e w' ⟨rfl,rfl⟩
   try go_wp2_with fail
   refine hK.out _ _ trivial (fun _=>?_)
   clear hK K
   try simp only[Act.put,List.setIfInBounds_toArray]
   refine wpAnyH_ready (rs:=[19]) (by kernel_rfl) (by simp) ?_
   refine AllReadyH.cons (o:=_) rfl (fun K hK=>?_) ?_
   ·go_simp
    go_at_call 233;refine(kT _ _ _ (by assumption) (by assumption) (by assumption) (by assumption)).mono ?_;rintro e w' ⟨rfl,rfl⟩
    try go_wp2_with fail
    refine hK.out _ _ trivial (fun _=>?_)
    clear hK K
    try simp only[Act.put,List.setIfInBounds_toArray]
    refine wpAnyH_take (i:=20) (oi:=_) (v:=?_) rfl (by kernel_rfl) (by kernel_rfl) (by kernel_rfl) (fun _ _ _ h=>h) (Or.inl ⟨by rfl,?_⟩) trivial ?_
    rotate_left
    ·(intro w hSw;go_simp;try with_reducible rfl)
    simp only[Act.put];refine wpAnyH_ready (rs:=[22]) (by kernel_rfl) (by simp) ?_
    refine AllReadyH.cons (o:=_) rfl (fun K hK=>?_) ?_
    ·go_simp
     refine hK.out _ _ trivial (fun _=>?_)
     clear hK K
     try simp only[Act.put,List.setIfInBounds_toArray]
     refine wpAnyH_done (by kernel_rfl) ?_ _
     refine NoPanic.normal ?_;go_wp2_with fail
     refine(HN.out _).mono ?_;rintro e w2 ⟨rfl,hb2⟩;have q0:=bZ hb1 hb2 0 _ rfl;have f0:=dF hb1 hb2 0;have q1:=bZ hb1 hb2 1 _ rfl;have f1:=dF hb1 hb2 1;have q2:=bZ hb1 hb2 2 _ rfl;have f2:=dF hb1 hb2 2;have q3:=bZ hb1 hb2 3 _ rfl;have f3:=dF hb1 hb2 3;have q4:=bZ hb1 hb2 4 _ rfl;have f4:=dF hb1 hb2 4;go_wp2
     exact bodyPost_ret (v:=.tuple #[.agg #[.int .i64 0,.int .i64 0,.int .i64 0,.int .i64 0,.int .i64 0],.iface 127 (.int .i64 2)]) (by simp[results,Tryz.results136,go_sem,q0,q1,q2,q3,q4]) rfl ⟨rfl,(((((below3 hb1 hb2).setCell (Nat.le_refl _) _).setCell (Nat.le_refl _) _).setCell (Nat.le_refl _) _).setCell (Nat.le_refl _) _).setCell (Nat.le_refl _) _⟩
    exact AllReadyH.nil
   exact AllReadyH.nil
  exact AllReadyH.nil
 exact AllReadyH.nil
theorem P7(s:ByteArray)(w:World)(hs:dX s=0)(hk:(lg s).fault=0)(ht:((aU (lg s).bytes).toList==s.toList)=false) :
  Calls Tryz.prog 136 #[.string s] w fun e w'=>e=.returned (.tuple #[.agg (jI s).cells,erV (bJ s)])∧Below w.heap.size w w':=by
 have hch:=o7 s (w.alloc (.cells #[.int .i64 0,.int .i64 0,.int .i64 0,.int .i64 0,.int .i64 0] 47));have hg:mY s=false:=by unfold mY;rw[ht,Bool.and_false]
 have e1:bJ s=2:=by unfold bJ;rw[if_pos hs,if_neg (by rw[hg];decide)]
 have e2:jI s=KV.zero:=by unfold jI;rw[if_neg (fun h=>by rw[hg] at h;exact absurd h.2 (by decide))]
 have h16:s.size=16:=rY hs;obtain⟨h2,h3,h4,b2,b3,b4⟩:=rW s h16;obtain⟨h5,h6,h7,h8,b5,b6,b7,b8⟩:=Ac s h16;obtain⟨l2,u2⟩:=fK s 2;obtain⟨l3,u3⟩:=fK s 3;obtain⟨l4,u4⟩:=fK s 4;obtain⟨l5,u5⟩:=fK s 5;obtain⟨l6,u6⟩:=fK s 6;obtain⟨l7,u7⟩:=fK s 7;obtain⟨l8,u8⟩:=fK s 8;obtain⟨X,hX⟩:∃ X:ByteArray,X=aU (lg s).bytes:=⟨_,rfl⟩;have HX:Hid (X=aU (KV.bytes ⟨bAt s 2,bAt s 3,bAt s 4-1,bAt s 5+bAt s 6*256,bAt s 7+bAt s 8*256⟩)):=hX;have ht2:(X.toList==s.toList)=false:=by rw[hX];exact ht
 clear hX ht;have HN:Hid (∀ W:World,Calls Tryz.prog 213 #[.agg #[.int .i64 (bAt s 2),.int .i64 (bAt s 3),.int .i64 (bAt s 4-1),.int .i64 (bAt s 5+bAt s 6*256),.int .i64 (bAt s 7+bAt s 8*256)]] W fun e w'=>e=.returned (.tuple #[.string X,.nilIface])∧Below W.heap.size W w'):=fun W=>by rw[HX.out];exact yQ _ _ _ _ _ W hk
 rw[e1,e2,mZ];rw[hs,aB] at hch;have HC:=ah hch;clear hch e1 e2 hs hk hg h16 HX;generalize bAt s 2=x2 at b2 l2 u2 HN;generalize bAt s 3=x3 at b3 l3 u3 HN;generalize bAt s 4=x4 at b4 l4 u4 HN;generalize bAt s 5=x5 at b5 l5 u5 HN;generalize bAt s 6=x6 at b6 l6 u6 HN;generalize bAt s 7=x7 at b7 l7 u7 HN;generalize bAt s 8=x8 at b8 l8 u8 HN;have i2:(2:Int)<(s.size:Int):=by omega
 have i3:(3:Int)<(s.size:Int):=by omega
 have i4:(4:Int)<(s.size:Int):=by omega
 have i5:(5:Int)<(s.size:Int):=by omega
 have i6:(6:Int)<(s.size:Int):=by omega
 have i7:(7:Int)<(s.size:Int):=by omega
 have i8:(8:Int)<(s.size:Int):=by omega
 go_enter Tryz.func136,Tryz.ntmps136
 go_wp2_with fail
 refine HC.out.mono ?_;rintro e w1 ⟨rfl,hb1⟩;obtain⟨hc,hf⟩:=lJ hb1;have hz:w.heap.size<w1.heap.size:=by have:=hb1.size;simp at this;omega
 go_wp2
 refine wp_region_noPanic ?_;refine wp_region_held_drew (S:=fun _=>True) (by kernel_rfl) trivial (fun hHeld=>?_)
 refine wpAnyH_take (i:=0) (oi:=_) (v:=?_) rfl (by kernel_rfl) (by kernel_rfl) (by kernel_rfl) (fun _ _ _ h=>h) (Or.inl ⟨by rfl,?_⟩) trivial ?_
 rotate_left
 ·(intro w hSw;go_simp;try with_reducible rfl)
 simp only[Act.put];refine wpAnyH_take (i:=1) (oi:=_) (v:=?_) rfl (by kernel_rfl) (by kernel_rfl) (by kernel_rfl) (fun _ _ _ h=>h) (Or.inl ⟨by rfl,?_⟩) trivial ?_
 rotate_left
 ·(intro w hSw;go_simp;try with_reducible rfl)
 simp only[Act.put];refine wpAnyH_take (i:=2) (oi:=_) (v:=?_) rfl (by kernel_rfl) (by kernel_rfl) (by kernel_rfl) (fun _ _ _ h=>h) (Or.inl ⟨by rfl,?_⟩) trivial ?_
 rotate_left
 ·(intro w hSw;go_simp;try with_reducible rfl)
 simp only[Act.put];refine wpAnyH_take (i:=3) (oi:=_) (v:=?_) rfl (by kernel_rfl) (by kernel_rfl) (by kernel_rfl) (fun _ _ _ h=>h) (Or.inl ⟨by rfl,?_⟩) trivial ?_
 rotate_left
 ·(intro w hSw;go_simp;try with_reducible rfl)
 simp only[Act.put];refine wpAnyH_take (i:=4) (oi:=_) (v:=?_) rfl (by kernel_rfl) (by kernel_rfl) (by kernel_rfl) (fun _ _ _ h=>h) (Or.inl ⟨by rfl,?_⟩) trivial ?_
 rotate_left
 ·(intro w hSw;go_simp;try with_reducible rfl)
 simp only[Act.put];refine wpAnyH_take (i:=5) (oi:=_) (v:=?_) rfl (by kernel_rfl) (by kernel_rfl) (by kernel_rfl) (fun _ _ _ h=>h) (Or.inl ⟨by rfl,?_⟩) trivial ?_
 rotate_left
 ·(intro w hSw;go_simp;try with_reducible rfl)
 simp only[Act.put];refine wpAnyH_take (i:=6) (oi:=_) (v:=?_) rfl (by kernel_rfl) (by kernel_rfl) (by kernel_rfl) (fun _ _ _ h=>h) (Or.inl ⟨by rfl,?_⟩) trivial ?_
 rotate_left
 ·(intro w hSw;go_simp;try with_reducible rfl)
 simp only[Act.put];refine wpAnyH_take (i:=7) (oi:=_) (v:=?_) rfl (by kernel_rfl) (by kernel_rfl) (by kernel_rfl) (fun _ _ _ h=>h) (Or.inl ⟨by rfl,?_⟩) trivial ?_
 rotate_left
 ·(intro w hSw;go_simp;try with_reducible rfl)
 simp only[Act.put];refine wpAnyH_take (i:=8) (oi:=_) (v:=?_) rfl (by kernel_rfl) (by kernel_rfl) (by kernel_rfl) (fun _ _ _ h=>h) (Or.inl ⟨by rfl,?_⟩) trivial ?_
 rotate_left
 ·(intro w hSw;go_simp;try with_reducible rfl)
 simp only[Act.put];refine wpAnyH_take (i:=9) (oi:=_) (v:=?_) rfl (by kernel_rfl) (by kernel_rfl) (by kernel_rfl) (fun _ _ _ h=>h) (Or.inl ⟨by rfl,?_⟩) trivial ?_
 rotate_left
 ·(intro w hSw;go_simp;try with_reducible rfl)
 simp only[Act.put];refine wpAnyH_take (i:=10) (oi:=_) (v:=?_) rfl (by kernel_rfl) (by kernel_rfl) (by kernel_rfl) (fun _ _ _ h=>h) (Or.inl ⟨by rfl,?_⟩) trivial ?_
 rotate_left
 ·(intro w hSw;go_simp;try with_reducible rfl)
 simp only[Act.put];refine wpAnyH_take (i:=11) (oi:=_) (v:=?_) rfl (by kernel_rfl) (by kernel_rfl) (by kernel_rfl) (fun _ _ _ h=>h) (Or.inl ⟨by rfl,?_⟩) trivial ?_
 rotate_left
 ·(intro w hSw;go_simp;try with_reducible rfl)
 simp only[Act.put];refine wpAnyH_take (i:=12) (oi:=_) (v:=?_) rfl (by kernel_rfl) (by kernel_rfl) (by kernel_rfl) (fun _ _ _ h=>h) (Or.inl ⟨by rfl,?_⟩) trivial ?_
 rotate_left
 ·(intro w hSw;go_simp;try with_reducible rfl)
 simp only[Act.put];refine wpAnyH_take (i:=13) (oi:=_) (v:=?_) rfl (by kernel_rfl) (by kernel_rfl) (by kernel_rfl) (fun _ _ _ h=>h) (Or.inl ⟨by rfl,?_⟩) trivial ?_
 rotate_left
 ·(intro w hSw;go_simp;try with_reducible rfl)
 simp only[Act.put];refine wpAnyH_take (i:=15) (oi:=_) (v:=?_) rfl (by kernel_rfl) (by kernel_rfl) (by kernel_rfl) (fun _ _ _ h=>h) (Or.inl ⟨by rfl,?_⟩) trivial ?_
 rotate_left
 ·(intro w hSw;go_simp;try with_reducible rfl)
 simp only[Act.put];refine wpAnyH_take (i:=16) (oi:=_) (v:=?_) rfl (by kernel_rfl) (by kernel_rfl) (by kernel_rfl) (fun _ _ _ h=>h) (Or.inl ⟨by rfl,?_⟩) trivial ?_
 rotate_left
 ·(intro w hSw;go_simp;try with_reducible rfl)
 simp only[Act.put];refine wpAnyH_take (i:=17) (oi:=_) (v:=?_) rfl (by kernel_rfl) (by kernel_rfl) (by kernel_rfl) (fun _ _ _ h=>h) (Or.inl ⟨by rfl,?_⟩) trivial ?_
 rotate_left
 ·(intro w hSw;go_simp;try with_reducible rfl)
 simp only[Act.put];refine wpAnyH_take (i:=18) (oi:=_) (v:=?_) rfl (by kernel_rfl) (by kernel_rfl) (by kernel_rfl) (fun _ _ _ h=>h) (Or.inl ⟨by rfl,?_⟩) trivial ?_
 rotate_left
 ·(intro w hSw;go_simp;try with_reducible rfl)
 simp only[Act.put];refine wpAnyH_ready (rs:=[14,21]) (by kernel_rfl) (by simp) ?_
 refine AllReadyH.cons (o:=_) rfl (fun K hK=>?_) ?_
 ·go_simp
  go_at_call 233;refine(kT _ _ _ (by assumption) (by assumption) (by assumption) (by assumption)).mono ?_;rintro e w' ⟨rfl,rfl⟩
  try go_wp2_with fail
  refine hK.out _ _ trivial (fun _=>?_)
  clear hK K
  try simp only[Act.put,List.setIfInBounds_toArray]
  refine wpAnyH_ready (rs:=[19,21]) (by kernel_rfl) (by simp) ?_
  refine AllReadyH.cons (o:=_) rfl (fun K hK=>?_) ?_
  ·go_simp
   go_at_call 233;refine(kT _ _ _ (by assumption) (by assumption) (by assumption) (by assumption)).mono ?_;rintro e w' ⟨rfl,rfl⟩
   try go_wp2_with fail
   refine hK.out _ _ trivial (fun _=>?_)
   clear hK K
   try simp only[Act.put,List.setIfInBounds_toArray]
   refine wpAnyH_take (i:=20) (oi:=_) (v:=?_) rfl (by kernel_rfl) (by kernel_rfl) (by kernel_rfl) (fun _ _ _ h=>h) (Or.inl ⟨by rfl,?_⟩) trivial ?_
   rotate_left
   ·(intro w hSw;go_simp;try with_reducible rfl)
   simp only[Act.put];refine wpAnyH_ready (rs:=[21]) (by kernel_rfl) (by simp) ?_
   refine AllReadyH.cons (o:=_) rfl (fun K hK=>?_) ?_
   ·go_simp
    refine hK.out _ _ trivial (fun _=>?_)
    clear hK K
    try simp only[Act.put,List.setIfInBounds_toArray]
    refine wpAnyH_ready (rs:=[22]) (by kernel_rfl) (by simp) ?_
    refine AllReadyH.cons (o:=_) rfl (fun K hK=>?_) ?_
    ·go_simp
     refine hK.out _ _ trivial (fun _=>?_)
     clear hK K
     try simp only[Act.put,List.setIfInBounds_toArray]
     refine wpAnyH_done (by kernel_rfl) ?_ _
     refine NoPanic.normal ?_;go_wp2_with fail
     refine(HN.out _).mono ?_;rintro e w2 ⟨rfl,hb2⟩;have q0:=bZ hb1 hb2 0 _ rfl;have f0:=dF hb1 hb2 0;have q1:=bZ hb1 hb2 1 _ rfl;have f1:=dF hb1 hb2 1;have q2:=bZ hb1 hb2 2 _ rfl;have f2:=dF hb1 hb2 2;have q3:=bZ hb1 hb2 3 _ rfl;have f3:=dF hb1 hb2 3;have q4:=bZ hb1 hb2 4 _ rfl;have f4:=dF hb1 hb2 4;go_wp2
     exact bodyPost_ret (v:=.tuple #[.agg #[.int .i64 0,.int .i64 0,.int .i64 0,.int .i64 0,.int .i64 0],.iface 127 (.int .i64 2)]) (by simp[results,Tryz.results136,go_sem,q0,q1,q2,q3,q4]) rfl ⟨rfl,(((((below3 hb1 hb2).setCell (Nat.le_refl _) _).setCell (Nat.le_refl _) _).setCell (Nat.le_refl _) _).setCell (Nat.le_refl _) _).setCell (Nat.le_refl _) _⟩
    exact AllReadyH.nil
   exact AllReadyH.nil
  refine AllReadyH.cons (o:=_) rfl (fun K hK=>?_) ?_
  ·go_simp
   refine hK.out _ _ trivial (fun _=>?_)
   clear hK K
   try simp only[Act.put,List.setIfInBounds_toArray]
   refine wpAnyH_ready (rs:=[19]) (by kernel_rfl) (by simp) ?_
   refine AllReadyH.cons (o:=_) rfl (fun K hK=>?_) ?_
   ·go_simp
    go_at_call 233;refine(kT _ _ _ (by assumption) (by assumption) (by assumption) (by assumption)).mono ?_;rintro e w' ⟨rfl,rfl⟩
    try go_wp2_with fail
    refine hK.out _ _ trivial (fun _=>?_)
    clear hK K
    try simp only[Act.put,List.setIfInBounds_toArray]
    refine wpAnyH_take (i:=20) (oi:=_) (v:=?_) rfl (by kernel_rfl) (by kernel_rfl) (by kernel_rfl) (fun _ _ _ h=>h) (Or.inl ⟨by rfl,?_⟩) trivial ?_
    rotate_left
    ·(intro w hSw;go_simp;try with_reducible rfl)
    simp only[Act.put];refine wpAnyH_ready (rs:=[22]) (by kernel_rfl) (by simp) ?_
    refine AllReadyH.cons (o:=_) rfl (fun K hK=>?_) ?_
    ·go_simp
     refine hK.out _ _ trivial (fun _=>?_)
     clear hK K
     try simp only[Act.put,List.setIfInBounds_toArray]
     refine wpAnyH_done (by kernel_rfl) ?_ _
     refine NoPanic.normal ?_;go_wp2_with fail
     refine(HN.out _).mono ?_;rintro e w2 ⟨rfl,hb2⟩;have q0:=bZ hb1 hb2 0 _ rfl;have f0:=dF hb1 hb2 0;have q1:=bZ hb1 hb2 1 _ rfl;have f1:=dF hb1 hb2 1;have q2:=bZ hb1 hb2 2 _ rfl;have f2:=dF hb1 hb2 2;have q3:=bZ hb1 hb2 3 _ rfl;have f3:=dF hb1 hb2 3;have q4:=bZ hb1 hb2 4 _ rfl;have f4:=dF hb1 hb2 4;go_wp2
     exact bodyPost_ret (v:=.tuple #[.agg #[.int .i64 0,.int .i64 0,.int .i64 0,.int .i64 0,.int .i64 0],.iface 127 (.int .i64 2)]) (by simp[results,Tryz.results136,go_sem,q0,q1,q2,q3,q4]) rfl ⟨rfl,(((((below3 hb1 hb2).setCell (Nat.le_refl _) _).setCell (Nat.le_refl _) _).setCell (Nat.le_refl _) _).setCell (Nat.le_refl _) _).setCell (Nat.le_refl _) _⟩
    exact AllReadyH.nil
   exact AllReadyH.nil
  exact AllReadyH.nil
 refine AllReadyH.cons (o:=_) rfl (fun K hK=>?_) ?_
 ·go_simp
  refine hK.out _ _ trivial (fun _=>?_)
  clear hK K
  try simp only[Act.put,List.setIfInBounds_toArray]
  refine wpAnyH_ready (rs:=[14]) (by kernel_rfl) (by simp) ?_
  refine AllReadyH.cons (o:=_) rfl (fun K hK=>?_) ?_
  ·go_simp
   go_at_call 233;refine(kT _ _ _ (by assumption) (by assumption) (by assumption) (by assumption)).mono ?_;rintro e w' ⟨rfl,rfl⟩
   try go_wp2_with fail
   refine hK.out _ _ trivial (fun _=>?_)
   clear hK K
   try simp only[Act.put,List.setIfInBounds_toArray]
   refine wpAnyH_ready (rs:=[19]) (by kernel_rfl) (by simp) ?_
   refine AllReadyH.cons (o:=_) rfl (fun K hK=>?_) ?_
   ·go_simp
    go_at_call 233;refine(kT _ _ _ (by assumption) (by assumption) (by assumption) (by assumption)).mono ?_;rintro e w' ⟨rfl,rfl⟩
    try go_wp2_with fail
    refine hK.out _ _ trivial (fun _=>?_)
    clear hK K
    try simp only[Act.put,List.setIfInBounds_toArray]
    refine wpAnyH_take (i:=20) (oi:=_) (v:=?_) rfl (by kernel_rfl) (by kernel_rfl) (by kernel_rfl) (fun _ _ _ h=>h) (Or.inl ⟨by rfl,?_⟩) trivial ?_
    rotate_left
    ·(intro w hSw;go_simp;try with_reducible rfl)
    simp only[Act.put];refine wpAnyH_ready (rs:=[22]) (by kernel_rfl) (by simp) ?_
    refine AllReadyH.cons (o:=_) rfl (fun K hK=>?_) ?_
    ·go_simp
     refine hK.out _ _ trivial (fun _=>?_)
     clear hK K
     try simp only[Act.put,List.setIfInBounds_toArray]
     refine wpAnyH_done (by kernel_rfl) ?_ _
     refine NoPanic.normal ?_;go_wp2_with fail
     refine(HN.out _).mono ?_;rintro e w2 ⟨rfl,hb2⟩;have q0:=bZ hb1 hb2 0 _ rfl;have f0:=dF hb1 hb2 0;have q1:=bZ hb1 hb2 1 _ rfl;have f1:=dF hb1 hb2 1;have q2:=bZ hb1 hb2 2 _ rfl;have f2:=dF hb1 hb2 2;have q3:=bZ hb1 hb2 3 _ rfl;have f3:=dF hb1 hb2 3;have q4:=bZ hb1 hb2 4 _ rfl;have f4:=dF hb1 hb2 4;go_wp2
     exact bodyPost_ret (v:=.tuple #[.agg #[.int .i64 0,.int .i64 0,.int .i64 0,.int .i64 0,.int .i64 0],.iface 127 (.int .i64 2)]) (by simp[results,Tryz.results136,go_sem,q0,q1,q2,q3,q4]) rfl ⟨rfl,(((((below3 hb1 hb2).setCell (Nat.le_refl _) _).setCell (Nat.le_refl _) _).setCell (Nat.le_refl _) _).setCell (Nat.le_refl _) _).setCell (Nat.le_refl _) _⟩
    exact AllReadyH.nil
   exact AllReadyH.nil
  exact AllReadyH.nil
 exact AllReadyH.nil
theorem P6(s:ByteArray)(w:World)(hs:dX s=0)(hk:(lg s).fault=0)(ht:((aU (lg s).bytes).toList==s.toList)=true) :
  Calls Tryz.prog 136 #[.string s] w fun e w'=>e=.returned (.tuple #[.agg (jI s).cells,erV (bJ s)])∧Below w.heap.size w w':=by
 have hch:=o7 s (w.alloc (.cells #[.int .i64 0,.int .i64 0,.int .i64 0,.int .i64 0,.int .i64 0] 47));have hg:mY s=true:=by unfold mY;rw[ht,decide_eq_true hk];rfl
 have e1:bJ s=0:=by unfold bJ;rw[if_pos hs,if_pos hg]
 have e2:jI s=⟨bAt s 2,bAt s 3,bAt s 4-1,bAt s 5+bAt s 6*256,bAt s 7+bAt s 8*256⟩:=by unfold jI;rw[if_pos ⟨hs,hg⟩];rfl
 have h16:s.size=16:=rY hs;obtain⟨h2,h3,h4,b2,b3,b4⟩:=rW s h16;obtain⟨h5,h6,h7,h8,b5,b6,b7,b8⟩:=Ac s h16;obtain⟨l2,u2⟩:=fK s 2;obtain⟨l3,u3⟩:=fK s 3;obtain⟨l4,u4⟩:=fK s 4;obtain⟨l5,u5⟩:=fK s 5;obtain⟨l6,u6⟩:=fK s 6;obtain⟨l7,u7⟩:=fK s 7;obtain⟨l8,u8⟩:=fK s 8;obtain⟨X,hX⟩:∃ X:ByteArray,X=aU (lg s).bytes:=⟨_,rfl⟩;have HX:Hid (X=aU (KV.bytes ⟨bAt s 2,bAt s 3,bAt s 4-1,bAt s 5+bAt s 6*256,bAt s 7+bAt s 8*256⟩)):=hX;have ht2:(X.toList==s.toList)=true:=by rw[hX];exact ht
 clear hX ht;have HN:Hid (∀ W:World,Calls Tryz.prog 213 #[.agg #[.int .i64 (bAt s 2),.int .i64 (bAt s 3),.int .i64 (bAt s 4-1),.int .i64 (bAt s 5+bAt s 6*256),.int .i64 (bAt s 7+bAt s 8*256)]] W fun e w'=>e=.returned (.tuple #[.string X,.nilIface])∧Below W.heap.size W w'):=fun W=>by rw[HX.out];exact yQ _ _ _ _ _ W hk
 rw[e1,e2,aB];rw[hs,aB] at hch;have HC:=ah hch;clear hch e1 e2 hs hk hg h16 HX;generalize bAt s 2=x2 at b2 l2 u2 HN ⊢;generalize bAt s 3=x3 at b3 l3 u3 HN ⊢;generalize bAt s 4=x4 at b4 l4 u4 HN ⊢;generalize bAt s 5=x5 at b5 l5 u5 HN ⊢;generalize bAt s 6=x6 at b6 l6 u6 HN ⊢;generalize bAt s 7=x7 at b7 l7 u7 HN ⊢;generalize bAt s 8=x8 at b8 l8 u8 HN ⊢;have i2:(2:Int)<(s.size:Int):=by omega
 have i3:(3:Int)<(s.size:Int):=by omega
 have i4:(4:Int)<(s.size:Int):=by omega
 have i5:(5:Int)<(s.size:Int):=by omega
 have i6:(6:Int)<(s.size:Int):=by omega
 have i7:(7:Int)<(s.size:Int):=by omega
 have i8:(8:Int)<(s.size:Int):=by omega
 go_enter Tryz.func136,Tryz.ntmps136
 go_wp2_with fail
 refine HC.out.mono ?_;rintro e w1 ⟨rfl,hb1⟩;obtain⟨hc,hf⟩:=lJ hb1;have hz:w.heap.size<w1.heap.size:=by have:=hb1.size;simp at this;omega
 go_wp2
 refine wp_region_noPanic ?_;refine wp_region_held_drew (S:=fun _=>True) (by kernel_rfl) trivial (fun hHeld=>?_)
 refine wpAnyH_take (i:=0) (oi:=_) (v:=?_) rfl (by kernel_rfl) (by kernel_rfl) (by kernel_rfl) (fun _ _ _ h=>h) (Or.inl ⟨by rfl,?_⟩) trivial ?_
 rotate_left
 ·(intro w hSw;go_simp;try with_reducible rfl)
 simp only[Act.put];refine wpAnyH_take (i:=1) (oi:=_) (v:=?_) rfl (by kernel_rfl) (by kernel_rfl) (by kernel_rfl) (fun _ _ _ h=>h) (Or.inl ⟨by rfl,?_⟩) trivial ?_
 rotate_left
 ·(intro w hSw;go_simp;try with_reducible rfl)
 simp only[Act.put];refine wpAnyH_take (i:=2) (oi:=_) (v:=?_) rfl (by kernel_rfl) (by kernel_rfl) (by kernel_rfl) (fun _ _ _ h=>h) (Or.inl ⟨by rfl,?_⟩) trivial ?_
 rotate_left
 ·(intro w hSw;go_simp;try with_reducible rfl)
 simp only[Act.put];refine wpAnyH_take (i:=3) (oi:=_) (v:=?_) rfl (by kernel_rfl) (by kernel_rfl) (by kernel_rfl) (fun _ _ _ h=>h) (Or.inl ⟨by rfl,?_⟩) trivial ?_
 rotate_left
 ·(intro w hSw;go_simp;try with_reducible rfl)
 simp only[Act.put];refine wpAnyH_take (i:=4) (oi:=_) (v:=?_) rfl (by kernel_rfl) (by kernel_rfl) (by kernel_rfl) (fun _ _ _ h=>h) (Or.inl ⟨by rfl,?_⟩) trivial ?_
 rotate_left
 ·(intro w hSw;go_simp;try with_reducible rfl)
 simp only[Act.put];refine wpAnyH_take (i:=5) (oi:=_) (v:=?_) rfl (by kernel_rfl) (by kernel_rfl) (by kernel_rfl) (fun _ _ _ h=>h) (Or.inl ⟨by rfl,?_⟩) trivial ?_
 rotate_left
 ·(intro w hSw;go_simp;try with_reducible rfl)
 simp only[Act.put];refine wpAnyH_take (i:=6) (oi:=_) (v:=?_) rfl (by kernel_rfl) (by kernel_rfl) (by kernel_rfl) (fun _ _ _ h=>h) (Or.inl ⟨by rfl,?_⟩) trivial ?_
 rotate_left
 ·(intro w hSw;go_simp;try with_reducible rfl)
 simp only[Act.put];refine wpAnyH_take (i:=7) (oi:=_) (v:=?_) rfl (by kernel_rfl) (by kernel_rfl) (by kernel_rfl) (fun _ _ _ h=>h) (Or.inl ⟨by rfl,?_⟩) trivial ?_
 rotate_left
 ·(intro w hSw;go_simp;try with_reducible rfl)
 simp only[Act.put];refine wpAnyH_take (i:=8) (oi:=_) (v:=?_) rfl (by kernel_rfl) (by kernel_rfl) (by kernel_rfl) (fun _ _ _ h=>h) (Or.inl ⟨by rfl,?_⟩) trivial ?_
 rotate_left
 ·(intro w hSw;go_simp;try with_reducible rfl)
 simp only[Act.put];refine wpAnyH_take (i:=9) (oi:=_) (v:=?_) rfl (by kernel_rfl) (by kernel_rfl) (by kernel_rfl) (fun _ _ _ h=>h) (Or.inl ⟨by rfl,?_⟩) trivial ?_
 rotate_left
 ·(intro w hSw;go_simp;try with_reducible rfl)
 simp only[Act.put];refine wpAnyH_take (i:=10) (oi:=_) (v:=?_) rfl (by kernel_rfl) (by kernel_rfl) (by kernel_rfl) (fun _ _ _ h=>h) (Or.inl ⟨by rfl,?_⟩) trivial ?_
 rotate_left
 ·(intro w hSw;go_simp;try with_reducible rfl)
 simp only[Act.put];refine wpAnyH_take (i:=11) (oi:=_) (v:=?_) rfl (by kernel_rfl) (by kernel_rfl) (by kernel_rfl) (fun _ _ _ h=>h) (Or.inl ⟨by rfl,?_⟩) trivial ?_
 rotate_left
 ·(intro w hSw;go_simp;try with_reducible rfl)
 simp only[Act.put];refine wpAnyH_take (i:=12) (oi:=_) (v:=?_) rfl (by kernel_rfl) (by kernel_rfl) (by kernel_rfl) (fun _ _ _ h=>h) (Or.inl ⟨by rfl,?_⟩) trivial ?_
 rotate_left
 ·(intro w hSw;go_simp;try with_reducible rfl)
 simp only[Act.put];refine wpAnyH_take (i:=13) (oi:=_) (v:=?_) rfl (by kernel_rfl) (by kernel_rfl) (by kernel_rfl) (fun _ _ _ h=>h) (Or.inl ⟨by rfl,?_⟩) trivial ?_
 rotate_left
 ·(intro w hSw;go_simp;try with_reducible rfl)
 simp only[Act.put];refine wpAnyH_take (i:=15) (oi:=_) (v:=?_) rfl (by kernel_rfl) (by kernel_rfl) (by kernel_rfl) (fun _ _ _ h=>h) (Or.inl ⟨by rfl,?_⟩) trivial ?_
 rotate_left
 ·(intro w hSw;go_simp;try with_reducible rfl)
 simp only[Act.put];refine wpAnyH_take (i:=16) (oi:=_) (v:=?_) rfl (by kernel_rfl) (by kernel_rfl) (by kernel_rfl) (fun _ _ _ h=>h) (Or.inl ⟨by rfl,?_⟩) trivial ?_
 rotate_left
 ·(intro w hSw;go_simp;try with_reducible rfl)
 simp only[Act.put];refine wpAnyH_take (i:=17) (oi:=_) (v:=?_) rfl (by kernel_rfl) (by kernel_rfl) (by kernel_rfl) (fun _ _ _ h=>h) (Or.inl ⟨by rfl,?_⟩) trivial ?_
 rotate_left
 ·(intro w hSw;go_simp;try with_reducible rfl)
 simp only[Act.put];refine wpAnyH_take (i:=18) (oi:=_) (v:=?_) rfl (by kernel_rfl) (by kernel_rfl) (by kernel_rfl) (fun _ _ _ h=>h) (Or.inl ⟨by rfl,?_⟩) trivial ?_
 rotate_left
 ·(intro w hSw;go_simp;try with_reducible rfl)
 simp only[Act.put];refine wpAnyH_ready (rs:=[14,21]) (by kernel_rfl) (by simp) ?_
 refine AllReadyH.cons (o:=_) rfl (fun K hK=>?_) ?_
 ·go_simp
  go_at_call 233;refine(kT _ _ _ (by assumption) (by assumption) (by assumption) (by assumption)).mono ?_;rintro e w' ⟨rfl,rfl⟩
  try go_wp2_with fail
  refine hK.out _ _ trivial (fun _=>?_)
  clear hK K
  try simp only[Act.put,List.setIfInBounds_toArray]
  refine wpAnyH_ready (rs:=[19,21]) (by kernel_rfl) (by simp) ?_
  refine AllReadyH.cons (o:=_) rfl (fun K hK=>?_) ?_
  ·go_simp
   go_at_call 233;refine(kT _ _ _ (by assumption) (by assumption) (by assumption) (by assumption)).mono ?_;rintro e w' ⟨rfl,rfl⟩
   try go_wp2_with fail
   refine hK.out _ _ trivial (fun _=>?_)
   clear hK K
   try simp only[Act.put,List.setIfInBounds_toArray]
   refine wpAnyH_take (i:=20) (oi:=_) (v:=?_) rfl (by kernel_rfl) (by kernel_rfl) (by kernel_rfl) (fun _ _ _ h=>h) (Or.inl ⟨by rfl,?_⟩) trivial ?_
   rotate_left
   ·(intro w hSw;go_simp;try with_reducible rfl)
   simp only[Act.put];refine wpAnyH_ready (rs:=[21]) (by kernel_rfl) (by simp) ?_
   refine AllReadyH.cons (o:=_) rfl (fun K hK=>?_) ?_
   ·go_simp
    refine hK.out _ _ trivial (fun _=>?_)
    clear hK K
    try simp only[Act.put,List.setIfInBounds_toArray]
    refine wpAnyH_ready (rs:=[22]) (by kernel_rfl) (by simp) ?_
    refine AllReadyH.cons (o:=_) rfl (fun K hK=>?_) ?_
    ·go_simp
     refine hK.out _ _ trivial (fun _=>?_)
     clear hK K
     try simp only[Act.put,List.setIfInBounds_toArray]
     refine wpAnyH_done (by kernel_rfl) ?_ _
     refine NoPanic.normal ?_;go_wp2_with fail
     refine(HN.out _).mono ?_;rintro e w2 ⟨rfl,hb2⟩;have r0:=kN hb2 0 _ rfl;have r1:=kN hb2 1 _ rfl;have r2:=kN hb2 2 _ rfl;have r3:=kN hb2 3 _ rfl;have r4:=kN hb2 4 _ rfl;have q0:=bZ hb1 hb2 0 _ rfl;have f0:=dF hb1 hb2 0;have q1:=bZ hb1 hb2 1 _ rfl;have f1:=dF hb1 hb2 1;have q2:=bZ hb1 hb2 2 _ rfl;have f2:=dF hb1 hb2 2;have q3:=bZ hb1 hb2 3 _ rfl;have f3:=dF hb1 hb2 3;have q4:=bZ hb1 hb2 4 _ rfl;have f4:=dF hb1 hb2 4;go_wp2
     exact bodyPost_ret (v:=.tuple #[Value.agg #[.int .i64 x2,.int .i64 x3,.int .i64 (x4-1),.int .i64 (x5+x6*256),.int .i64 (x7+x8*256)],.nilIface]) (by simp[results,Tryz.results136,go_sem,q0,q1,q2,q3,q4]) rfl ⟨rfl,(((((below3 hb1 hb2).setCell (Nat.le_refl _) _).setCell (Nat.le_refl _) _).setCell (Nat.le_refl _) _).setCell (Nat.le_refl _) _).setCell (Nat.le_refl _) _⟩
    exact AllReadyH.nil
   exact AllReadyH.nil
  refine AllReadyH.cons (o:=_) rfl (fun K hK=>?_) ?_
  ·go_simp
   refine hK.out _ _ trivial (fun _=>?_)
   clear hK K
   try simp only[Act.put,List.setIfInBounds_toArray]
   refine wpAnyH_ready (rs:=[19]) (by kernel_rfl) (by simp) ?_
   refine AllReadyH.cons (o:=_) rfl (fun K hK=>?_) ?_
   ·go_simp
    go_at_call 233;refine(kT _ _ _ (by assumption) (by assumption) (by assumption) (by assumption)).mono ?_;rintro e w' ⟨rfl,rfl⟩
    try go_wp2_with fail
    refine hK.out _ _ trivial (fun _=>?_)
    clear hK K
    try simp only[Act.put,List.setIfInBounds_toArray]
    refine wpAnyH_take (i:=20) (oi:=_) (v:=?_) rfl (by kernel_rfl) (by kernel_rfl) (by kernel_rfl) (fun _ _ _ h=>h) (Or.inl ⟨by rfl,?_⟩) trivial ?_
    rotate_left
    ·(intro w hSw;go_simp;try with_reducible rfl)
    simp only[Act.put];refine wpAnyH_ready (rs:=[22]) (by kernel_rfl) (by simp) ?_
    refine AllReadyH.cons (o:=_) rfl (fun K hK=>?_) ?_
    ·go_simp
     refine hK.out _ _ trivial (fun _=>?_)
     clear hK K
     try simp only[Act.put,List.setIfInBounds_toArray]
     refine wpAnyH_done (by kernel_rfl) ?_ _
     refine NoPanic.normal ?_;go_wp2_with fail
     refine(HN.out _).mono ?_;rintro e w2 ⟨rfl,hb2⟩;have r0:=kN hb2 0 _ rfl;have r1:=kN hb2 1 _ rfl;have r2:=kN hb2 2 _ rfl;have r3:=kN hb2 3 _ rfl;have r4:=kN hb2 4 _ rfl;have q0:=bZ hb1 hb2 0 _ rfl;have f0:=dF hb1 hb2 0;have q1:=bZ hb1 hb2 1 _ rfl;have f1:=dF hb1 hb2 1;have q2:=bZ hb1 hb2 2 _ rfl;have f2:=dF hb1 hb2 2;have q3:=bZ hb1 hb2 3 _ rfl;have f3:=dF hb1 hb2 3;have q4:=bZ hb1 hb2 4 _ rfl;have f4:=dF hb1 hb2 4;go_wp2
     exact bodyPost_ret (v:=.tuple #[Value.agg #[.int .i64 x2,.int .i64 x3,.int .i64 (x4-1),.int .i64 (x5+x6*256),.int .i64 (x7+x8*256)],.nilIface]) (by simp[results,Tryz.results136,go_sem,q0,q1,q2,q3,q4]) rfl ⟨rfl,(((((below3 hb1 hb2).setCell (Nat.le_refl _) _).setCell (Nat.le_refl _) _).setCell (Nat.le_refl _) _).setCell (Nat.le_refl _) _).setCell (Nat.le_refl _) _⟩
    exact AllReadyH.nil
   exact AllReadyH.nil
  exact AllReadyH.nil
 refine AllReadyH.cons (o:=_) rfl (fun K hK=>?_) ?_
 ·go_simp
  refine hK.out _ _ trivial (fun _=>?_)
  clear hK K
  try simp only[Act.put,List.setIfInBounds_toArray]
  refine wpAnyH_ready (rs:=[14]) (by kernel_rfl) (by simp) ?_
  refine AllReadyH.cons (o:=_) rfl (fun K hK=>?_) ?_
  ·go_simp
   go_at_call 233;refine(kT _ _ _ (by assumption) (by assumption) (by assumption) (by assumption)).mono ?_;rintro e w' ⟨rfl,rfl⟩
   try go_wp2_with fail
   refine hK.out _ _ trivial (fun _=>?_)
   clear hK K
   try simp only[Act.put,List.setIfInBounds_toArray]
   refine wpAnyH_ready (rs:=[19]) (by kernel_rfl) (by simp) ?_
   refine AllReadyH.cons (o:=_) rfl (fun K hK=>?_) ?_
   ·go_simp
    go_at_call 233;refine(kT _ _ _ (by assumption) (by assumption) (by assumption) (by assumption)).mono ?_;rintro e w' ⟨rfl,rfl⟩
    try go_wp2_with fail
    refine hK.out _ _ trivial (fun _=>?_)
    clear hK K
    try simp only[Act.put,List.setIfInBounds_toArray]
    refine wpAnyH_take (i:=20) (oi:=_) (v:=?_) rfl (by kernel_rfl) (by kernel_rfl) (by kernel_rfl) (fun _ _ _ h=>h) (Or.inl ⟨by rfl,?_⟩) trivial ?_
    rotate_left
    ·(intro w hSw;go_simp;try with_reducible rfl)
    simp only[Act.put];refine wpAnyH_ready (rs:=[22]) (by kernel_rfl) (by simp) ?_
    refine AllReadyH.cons (o:=_) rfl (fun K hK=>?_) ?_
    ·go_simp
     refine hK.out _ _ trivial (fun _=>?_)
     clear hK K
     try simp only[Act.put,List.setIfInBounds_toArray]
     refine wpAnyH_done (by kernel_rfl) ?_ _
     refine NoPanic.normal ?_;go_wp2_with fail
     refine(HN.out _).mono ?_;rintro e w2 ⟨rfl,hb2⟩;have r0:=kN hb2 0 _ rfl;have r1:=kN hb2 1 _ rfl;have r2:=kN hb2 2 _ rfl;have r3:=kN hb2 3 _ rfl;have r4:=kN hb2 4 _ rfl;have q0:=bZ hb1 hb2 0 _ rfl;have f0:=dF hb1 hb2 0;have q1:=bZ hb1 hb2 1 _ rfl;have f1:=dF hb1 hb2 1;have q2:=bZ hb1 hb2 2 _ rfl;have f2:=dF hb1 hb2 2;have q3:=bZ hb1 hb2 3 _ rfl;have f3:=dF hb1 hb2 3;have q4:=bZ hb1 hb2 4 _ rfl;have f4:=dF hb1 hb2 4;go_wp2
     exact bodyPost_ret (v:=.tuple #[Value.agg #[.int .i64 x2,.int .i64 x3,.int .i64 (x4-1),.int .i64 (x5+x6*256),.int .i64 (x7+x8*256)],.nilIface]) (by simp[results,Tryz.results136,go_sem,q0,q1,q2,q3,q4]) rfl ⟨rfl,(((((below3 hb1 hb2).setCell (Nat.le_refl _) _).setCell (Nat.le_refl _) _).setCell (Nat.le_refl _) _).setCell (Nat.le_refl _) _).setCell (Nat.le_refl _) _⟩
    exact AllReadyH.nil
   exact AllReadyH.nil
  exact AllReadyH.nil
 exact AllReadyH.nil
theorem PZ(s:ByteArray)(w:World) :
  Calls Tryz.prog 136 #[.string s] w fun e w'=>e=.returned (.tuple #[.agg (jI s).cells,erV (bJ s)])∧Below w.heap.size w w':=by
 by_cases hs:dX s=0
 ·by_cases hk:(lg s).fault=0
  ·cases ht:((aU (lg s).bytes).toList==s.toList) with
   | false=>exact P7 s w hs hk ht
   | true=>exact P6 s w hs hk ht
  ·exact P5 s w hs hk
 ·exact P8 s w hs
end Go.Proofs.YtonhoahnieoebabGreatDoor
