/-
A new job of the document's answer, behind its first tests.
-/
import Derived.Test.YtjegaljdindfaabGreatDoorQRjN1
import Derived.Test.YtjegaljdindfaabGreatDoorQRjP2
namespace Go.Proofs.YtjegaljdindfaabGreatDoor
open Go.RowKit Go.Maps
attribute [local go_sem ↓] Go.wp_at_zero Go.wp_at_succ

/- While it is being made. -/
structure RN (w : World) (N xp mp : Nat) (g o cap : Nat) (qs : Nat → Qh) (s : SV) (m : Nat) (d : KDesk) (J : JV) (wr : World) : Prop where
  shelf : IsRshelf wr mp qs s m
  job : IsRjob wr xp mp (some ⟨g, o, none⟩) cap J 2
  nums : Nums wr (some ⟨g, o, none⟩) J.l
  desk : wr.rangeAt N 0 [.int .i64 d.root, .int .i64 d.kind, .int .i64 d.file, .int .i64 d.rate, .int .i64 d.burst]
  bel : Below w.heap.size w wr
  xw : w.heap.size ≤ xp
  nx : N ≠ xp
  gw : w.heap.size ≤ g
  gx : g ≠ xp
  cap : J.l.length ≤ cap
  old : ∀ k, fpQ qs s k → k < w.heap.size
  mpw : mp < w.heap.size
  nw : w.heap.size ≤ N

theorem RN.drewN {w wr : World} {N xp mp g o cap m : Nat} {qs : Nat → Qh} {s : SV} {d : KDesk} {J : JV} (h : RN w N xp mp g o cap qs s m d J wr) (n : Nat) : RN w N xp mp g o cap qs s m d J (wr.drewN n) :=
  ⟨h.shelf.below (below_drewN (Below.refl _ _) n), h.job.keep rfl, h.nums, h.desk, below_drewN h.bel n, h.xw, h.nx, h.gw, h.gx, h.cap, h.old, h.mpw, h.nw⟩
theorem RN.drew {w wr : World} {N xp mp g o cap m : Nat} {qs : Nat → Qh} {s : SV} {d : KDesk} {J : JV} (h : RN w N xp mp g o cap qs s m d J wr) : RN w N xp mp g o cap qs s m d J wr.drew :=
  ⟨h.shelf.below (Below.refl _ _).drew, h.job.keep rfl, h.nums, h.desk, h.bel.drew, h.xw, h.nx, h.gw, h.gx, h.cap, h.old, h.mpw, h.nw⟩
theorem RN.below {w wr w' : World} {N xp mp g o cap m : Nat} {qs : Nat → Qh} {s : SV} {d : KDesk} {J : JV} (h : RN w N xp mp g o cap qs s m d J wr) (hb : Below wr.heap.size wr w') : RN w N xp mp g o cap qs s m d J w' :=
  ⟨h.shelf.below hb, h.job.keep (hb.block _ h.job.lt), h.nums.below hb, fun j v hv => by
    have := h.desk j v hv
    exact (hb.cell (p := ⟨N, 0 + j, none⟩) (World.block_lt_of_cell? _ _ this)).trans this, h.bel.trans (hb.mono h.bel.size), h.xw, h.nx, h.gw, h.gx, h.cap, h.old, h.mpw, h.nw⟩
theorem RN.put {w wr : World} {N xp mp g o cap m i : Nat} {qs : Nat → Qh} {s : SV} {d : KDesk} {J J' : JV} {v : Value} (h : RN w N xp mp g o cap qs s m d J wr) (hj : IsRjob (wr.setCell ⟨xp, i, none⟩ v) xp mp (some ⟨g, o, none⟩) cap J' 2) (hl : J'.l = J.l) : RN w N xp mp g o cap qs s m d J' (wr.setCell ⟨xp, i, none⟩ v) :=
  ⟨h.shelf.keep (heap_setCell_other _ _ _ _ (fun e => by have e' : mp = xp := e; have := h.mpw; have := h.xw; omega)) (fun k hk => heap_setCell_other _ _ _ _ (fun e => by have e' : k = xp := e; have := h.old k hk; have := h.xw; omega)), hj, by rw [hl]; exact h.nums.keep fun g' o' e => by cases e; exact heap_setCell_other _ _ _ _ h.gx, fun j v hv => (World.cell?_of_block (heap_setCell_other _ _ _ _ h.nx)).trans (h.desk j v hv), h.bel.setCell (p := ⟨xp, i, none⟩) h.xw _, h.xw, h.nx, h.gw, h.gx, by rw [hl]; exact h.cap, h.old, h.mpw, h.nw⟩
theorem RN.rj {w wr : World} {N xp mp g o cap m C : Nat} {qs : Nat → Qh} {s : SV} {d : KDesk} {J : JV} (h : RN w N xp mp g o cap qs s m d J wr) (hJ : JOk s C J) : RJ wr mp xp (some ⟨g, o, none⟩) cap qs s m C J 2 :=
  ⟨h.shelf, h.job, h.nums, fun g' o' e hf => by
    cases e
    rcases hf with hf | hf
    · have := h.old g hf; have := h.gw; omega
    · exact h.gx hf, hJ, h.cap⟩
theorem RN.cells {w wr : World} {N xp mp g o cap m : Nat} {qs : Nat → Qh} {s : SV} {d : KDesk} {J : JV} (h : RN w N xp mp g o cap qs s m d J wr) : wr.cell? ⟨N, 0, none⟩ = some (.int .i64 d.root) ∧ wr.cell? ⟨N, 1, none⟩ = some (.int .i64 d.kind) ∧ wr.cell? ⟨N, 2, none⟩ = some (.int .i64 d.file) ∧ wr.cell? ⟨N, 3, none⟩ = some (.int .i64 d.rate) ∧ wr.cell? ⟨N, 4, none⟩ = some (.int .i64 d.burst) :=
  ⟨h.desk 0 _ rfl, h.desk 1 _ rfl, h.desk 2 _ rfl, h.desk 3 _ rfl, h.desk 4 _ rfl⟩

theorem IsRshelf.heads {w : World} {sp m : Nat} {xs : Nat → Qh} {s : SV} (h : IsRshelf w sp xs s m) {k : Nat} {v : IV} (hf : s.file (k : Int) = some v) : w.cell? ⟨sp, k, none⟩ = some (.pointer (some ⟨(xs k).p, 0, none⟩)) ∧ w.cell? ⟨(xs k).p, 1, none⟩ = some (.int .i64 v.h.c) ∧ w.cell? ⟨(xs k).p, 3, none⟩ = some (.int .i64 v.h.b) := by
  have h1 := h.cellF hf
  obtain ⟨h2, _⟩ := h.imgF hf
  rw [show ((k : Int)).toNat = k from rfl] at h1 h2
  exact ⟨h1, h2.cells.2.1, h2.cells.2.2.2.1⟩

/- What is handed back. -/
def NewPost (w : World) (mp m : Nat) (qs : Nat → Qh) (s : SV) (d : KDesk) (e : Ending) (w' : World) : Prop :=
  Below w.heap.size w w' ∧ ((newF s d ≠ 0 ∧ e = .returned (.tuple #[.pointer none, .int .i64 (newF s d)])) ∨ (newF s d = 0 ∧ ∃ (xp cap : Nat) (a : Option Addr), e = .returned (.tuple #[.pointer (some ⟨xp, 0, none⟩), .int .i64 0]) ∧ w.heap.size ≤ xp ∧ (∀ g o, a = some ⟨g, o, none⟩ → w.heap.size ≤ g) ∧ ∀ C, JOk s C (newJ s d) → RJ w' mp xp a cap qs s m C (newJ s d) 2))

theorem NewPost.bad {w w' : World} {mp m : Nat} {qs : Nat → Qh} {s : SV} {d : KDesk} {f : Int} (hb : Below w.heap.size w w') (hf : newF s d = f) (h0 : f ≠ 0) : NewPost w mp m qs s d (.returned (.tuple #[.pointer none, .int .i64 f])) w' := ⟨hb, .inl ⟨by rw [hf]; exact h0, by rw [hf]⟩⟩
theorem NewPost.good {w wr : World} {N xp mp g o cap m : Nat} {qs : Nat → Qh} {s : SV} {d : KDesk} (hf : newF s d = 0) (h : RN w N xp mp g o cap qs s m d (newJ s d) wr) : NewPost w mp m qs s d (.returned (.tuple #[.pointer (some ⟨xp, 0, none⟩), .int .i64 0])) wr :=
  ⟨h.bel, .inr ⟨hf, xp, cap, some ⟨g, o, none⟩, rfl, h.xw, fun g' o' e => by cases e; exact h.gw, fun C hC => h.rj hC⟩⟩

/- The first so many clusters are told. -/
theorem RN.want {w wr : World} {N xp mp g o cap m k : Nat} {qs : Nat → Qh} {s : SV} {d : KDesk} {J : JV} (h : RN w N xp mp g o cap qs s m d (J.put (wantTo s J k)) wr) (hk : k < J.n) (hn : J.n ≤ 64) : RN w N xp mp g o cap qs s m d (J.put (wantTo s J (k + 1))) (wr.setCell ⟨xp, 9 + k, none⟩ (.bool (J.wantB s (k : Int)))) := by
  refine h.put ?_ rfl
  refine h.job.setBit (i := k) (by omega) fun q hq => ?_
  show (S4.putV J.n (wantTo s J k) (k : Int) (J.wantB s (k : Int))).testBit q = _
  rw [S4.putV_bit]
  have hm : S4.mayB J.n (k : Int) = true := S4.may_of hk
  by_cases e : q = k
  · rw [if_pos e, if_pos ⟨hm, by omega⟩]
  · rw [if_neg e, if_neg (fun q => e (by have := q.2; omega))]; rfl

set_option maxRecDepth 100000 in
set_option maxHeartbeats 16000000 in
theorem rnew_rest {mp m : Nat} {qs : Nat → Qh} {s : SV} (d : KDesk) (w : World) (h : IsRshelf w mp qs s m) (hw0 : (s.walk d.root).2 = 0) (hne : (s.walk d.root).1 ≠ []) (hrt : S4.inB d.rate 1000 = true) (hbu : S4.inB d.burst 1000 = true) :
    Calls Tryz.prog 17 #[.pointer (some ⟨mp, 0, none⟩), .agg #[.int .i64 d.root, .int .i64 d.kind, .int .i64 d.file, .int .i64 d.rate, .int .i64 d.burst]] w (NewPost w mp m qs s d) := by
  have HB0 : Hid (Below w.heap.size w (w.alloc (deskC d))) := (Below.refl _ _).alloc (Nat.le_refl _) _
  have HDK := toHid (desk_cells d w)
  have HDR := toHid (desk_range d w)
  have HI : Hid ((Tryz.prog.info? 47).map (·.size) = some ([.int .i64 d.root, .int .i64 d.kind, .int .i64 d.file, .int .i64 d.rate, .int .i64 d.burst] : List Value).length) := size_desk
  have HWK := toHid (rwalk_any d.root (w.alloc (deskC d)) (h.below HB0.out))
  rw [hw0] at HWK
  obtain ⟨hg, hl5, _, _⟩ := s.walk_good d.root
  have hnd := Linked.nodup _ _ (SV.walk_linked hw0)
  have HNF : Hid (newF s d = chkJ s (s.walk d.root).1 d) := by
    unfold Hid newF
    rw [if_neg (by rw [hw0]; simp), if_neg hne, hrt, hbu, if_neg (by decide)]
  have HLA := toHid (lastAt_is (s.walk d.root).1 d.file hnd)
  have HOK : Hid (newF s d = 0 → NewOk s d m) := newF_ok h.ok
  obtain ⟨r, hl⟩ := SV.walk_head hw0 hne
  obtain ⟨v, hv, hvc⟩ := hg d.root (by rw [hl]; exact List.mem_cons_self)
  obtain ⟨r0, r5, _⟩ := SV.file_of hv
  have hb := HV.of_ok (h.ok _ _ (SV.file_of hv).2.2).h
  have hclu := hg.clusters hne
  have HNN : Hid ((newJ0 s d).n = v.h.c.toNat) := by
    unfold Hid
    show (s.clusters (s.walk d.root).1).toNat = _
    omega
  have hnn : v.h.c = ((newJ0 s d).n : Int) := by rw [HNN.out]; omega
  have hn64 : (newJ0 s d).n ≤ 64 := by rw [HNN.out]; omega
  obtain ⟨rk, hrk⟩ : ∃ rk : Nat, d.root = (rk : Int) := ⟨d.root.toNat, by omega⟩
  have HHD : Hid (∀ W : World, Below w.heap.size w W → W.cell? ⟨mp, rk, none⟩ = some (.pointer (some ⟨(qs rk).p, 0, none⟩)) ∧ W.cell? ⟨(qs rk).p, 1, none⟩ = some (.int .i64 ((newJ0 s d).n : Int))) := fun W hb' => by
    have hv' := hv
    rw [hrk] at hv'
    obtain ⟨e1, e2, _⟩ := (h.below hb').heads hv'
    rw [hnn] at e2
    exact ⟨e1, e2⟩
  have rk0 : (0 : Int) ≤ (rk : Int) := by omega
  have rk5 : (rk : Int) < 5 := by omega
  have HFX : Hid (∀ k : Nat, ∀ u, s.file (k : Int) = some u → ∀ W : World, IsRshelf W mp qs s m → W.cell? ⟨mp, k, none⟩ = some (.pointer (some ⟨(qs k).p, 0, none⟩)) ∧ W.cell? ⟨(qs k).p, 1, none⟩ = some (.int .i64 u.h.c) ∧ W.cell? ⟨(qs k).p, 3, none⟩ = some (.int .i64 u.h.b)) := fun k u hu W hW => hW.heads hu
  have HFN : Hid (∀ k : Nat, k < 5 → s.file (k : Int) = none → ∀ W : World, IsRshelf W mp qs s m → W.cell? ⟨mp, k, none⟩ = some (.pointer none)) := fun k hk hn W hW => by
    have := hW.cell hk
    rw [SV.file_at hk] at hn
    rw [hn] at this; exact this
  have HOLD : Hid (∀ k, fpQ qs s k → k < w.heap.size) := fun k hk => h.fpLt hk
  have HMP : Hid (mp < w.heap.size) := lt_of_some h.blk
  have HSH : Hid (∀ W : World, Below w.heap.size w W → IsRshelf W mp qs s m) := fun W hb => h.below hb
  have hlen0 : 0 < (s.walk d.root).1.length := List.length_pos_iff.2 hne
  have hlz : (((s.walk d.root).1.length : Int) == 0) = false := by simp; omega
  have hr' : 0 ≤ d.rate ∧ d.rate ≤ 1000 := by unfold S4.inB at hrt; simpa using hrt
  have hb' : 0 ≤ d.burst ∧ d.burst ≤ 1000 := by unfold S4.inB at hbu; simpa using hbu
  have g1 : decide (d.rate < 0) = false := decide_eq_false (by omega)
  have g2 : decide (1000 < d.rate) = false := decide_eq_false (by omega)
  have g3 : decide (d.burst < 0) = false := decide_eq_false (by omega)
  have g4 : decide (1000 < d.burst) = false := decide_eq_false (by omega)
  have HNEG : Hid ((-1 : Int) ∉ (s.walk d.root).1) := fun hm => by
    obtain ⟨u, hu, _⟩ := hg _ hm
    have := (SV.file_of hu).1
    omega
  have HJL : Hid ((newJ0 s d).l = (s.walk d.root).1) := rfl
  have HCL : Hid (s.clusters (s.walk d.root).1 = ((newJ0 s d).n : Int)) := by unfold Hid; omega
  have HLIT : Hid (∀ (W : World) (a : Option Addr) (cap : Nat), IsRjob (W.alloc (.cells (rjobL mp d.root d.kind d.file d.rate d.burst a (s.walk d.root).1.length cap) 121)) W.heap.size mp a cap { newJ0 s d with deep := 0, n := 0 } 2) := fun W a cap => rjob_lit (J := { newJ0 s d with deep := 0, n := 0 }) W rfl rfl rfl rfl rfl
  have HDP : Hid ((newJ0 s d).deep = deepJ (s.walk d.root).1 d) := rfl
  have HJ7 : Hid (∀ dp : Nat, dp = (newJ0 s d).deep → ({ { { newJ0 s d with deep := 0, n := 0 } with n := (newJ0 s d).n } with deep := dp } : JV) = newJ0 s d) := fun dp e => by subst e; rfl
  have HJ8 : Hid ((0 : Nat) = (newJ0 s d).deep → ({ { newJ0 s d with deep := 0, n := 0 } with n := (newJ0 s d).n } : JV) = newJ0 s d) := fun e => by
    have : (newJ0 s d).deep = 0 := e.symm
    show (⟨(newJ0 s d).rt, (newJ0 s d).kind, (newJ0 s d).file, (newJ0 s d).rate, (newJ0 s d).burst, (newJ0 s d).l, 0, (newJ0 s d).n, (newJ0 s d).x, (newJ0 s d).last, (newJ0 s d).stage, (newJ0 s d).lv⟩ : JV) = _
    conv => lhs; rw [← this]
  have HNJ : Hid (newJ s d = (newJ0 s d).put (wantTo s (newJ0 s d) (newJ0 s d).n)) := rfl
  have HPT0 : Hid (newJ0 s d = (newJ0 s d).put (wantTo s (newJ0 s d) 0)) := rfl
  unfold deskC at HB0 HDK HDR HWK
  have HDD : Hid (d.root = (rk : Int)) := hrk
  clear h hg hv hvc hl hb hclu hnn HNN hw0 hrt hbu r0 r5
  generalize hj0 : newJ0 s d = J0 at HHD hn64 HJL HCL HLIT HDP HJ7 HJ8 HNJ HPT0
  generalize hll : (s.walk d.root).1 = l at HWK hl5 hnd hne HNF HLA HNEG HJL HCL HLIT HDP hlen0 hlz
  rw [hrk] at HWK HI HDK HB0 HDR ⊢
  clear hll hrk
  generalize (qs rk).p = ip at HHD
  have hz := zero_job w
  obtain ⟨d0, d1, d2, d3, d4⟩ := HDK.out _ (Below.refl _ _)
  go_enter Tryz.func17, Tryz.ntmps17
  go_wp2_with fail
  refine HWK.out.mono ?_
  rintro e w1 ⟨a, cap, rfl, hn1, ha1, hb1⟩
  have HB1 := toHid (HB0.out.trans (hb1.mono HB0.out.size))
  have HBD1 := toHid hb1
  obtain ⟨g, o, rfl, hc0⟩ := hn1 0 hlen0
  have HN1 := toHid hn1
  obtain ⟨hag, hcap⟩ := ha1 g o rfl
  have hgw : w.heap.size ≤ g := Nat.le_trans HB0.out.size hag
  have hgl : g < w1.heap.size := World.block_lt_of_cell? _ _ hc0
  obtain ⟨q0, q1, q2, q3, q4⟩ := HDK.out _ hb1
  have HR1 := toHid (HDR.out _ hb1)
  have hNl : w.heap.size < w1.heap.size := World.block_lt_of_cell? _ _ q0
  clear hn1 ha1 hb1 HWK hag d0 d1 d2 d3 d4 hc0 hz
  have hz := zero_job w1
  have HL2 := toHid (HLIT.out w1 (some ⟨g, o, none⟩) cap)
  rw [HDD.out] at HL2
  have HA2 : Hid (Below w1.heap.size w1 (w1.alloc (.cells (rjobL mp (rk : Int) d.kind d.file d.rate d.burst (some ⟨g, o, none⟩) l.length cap) 121))) := (Below.refl _ _).alloc (Nat.le_refl _) _
  unfold rjobL at HL2 HA2
  go_wp2_with (refine wpList_load_mid (by rfl) 47 (.tmp 3) (by rfl) w.heap.size 0 (by rfl) [.int .i64 (rk : Int), .int .i64 d.kind, .int .i64 d.file, .int .i64 d.rate, .int .i64 d.burst] _ HR1.out Tryz.underlying47 rfl HI.out ?_)
  generalize w1.alloc (.cells ((.pointer (some ⟨mp, 0, none⟩) :: .int .i64 (rk : Int) :: .int .i64 d.kind :: .int .i64 d.file :: .int .i64 d.rate :: .int .i64 d.burst :: .slice (some ⟨g, o, none⟩) l.length cap :: .int .i64 0 :: .int .i64 0 :: Value.bool false :: Value.bool false :: Value.bool false :: Value.bool false :: Value.bool false :: Value.bool false :: Value.bool false :: Value.bool false :: Value.bool false :: Value.bool false :: Value.bool false :: Value.bool false :: Value.bool false :: Value.bool false :: Value.bool false :: Value.bool false :: Value.bool false :: Value.bool false :: Value.bool false :: Value.bool false :: Value.bool false :: Value.bool false :: Value.bool false :: Value.bool false :: Value.bool false :: Value.bool false :: Value.bool false :: Value.bool false :: Value.bool false :: Value.bool false :: Value.bool false :: Value.bool false :: Value.bool false :: Value.bool false :: Value.bool false :: Value.bool false :: Value.bool false :: Value.bool false :: Value.bool false :: Value.bool false :: Value.bool false :: Value.bool false :: Value.bool false :: Value.bool false :: Value.bool false :: Value.bool false :: Value.bool false :: Value.bool false :: Value.bool false :: Value.bool false :: Value.bool false :: Value.bool false :: Value.bool false :: Value.bool false :: Value.bool false :: Value.bool false :: Value.bool false :: Value.bool false :: Value.bool false :: Value.bool false :: Value.bool false :: Value.bool false :: Value.bool false :: Value.bool false :: .int .i64 (-1) :: .int .i64 2 :: .int .i64 d.rate :: .int .i64 d.burst :: .int .i64 d.burst :: [] : List Value).toArray) 121) = W2 at HL2 HA2 ⊢
  have HRN2 : Hid (RN w w.heap.size w1.heap.size mp g o cap qs s m d { J0 with deep := 0, n := 0 } W2) := ⟨HSH.out _ (HB1.out.trans (HA2.out.mono HB1.out.size)), HL2.out, (by show Nums W2 _ J0.l; rw [HJL.out]; exact HN1.out.below HA2.out), (by rw [HDD.out]; exact HDR.out _ (HBD1.out.trans (HA2.out.mono HBD1.out.size))), HB1.out.trans (HA2.out.mono HB1.out.size), HB1.out.size, by omega, hgw, by omega, by show J0.l.length ≤ cap; rw [HJL.out]; exact hcap, HOLD.out, HMP.out, Nat.le_refl _⟩
  clear HL2 HA2 q0 q1 q2 q3 q4 hz HN1 HR1 HBD1 HB1 HDR HDK HB0 HLIT HSH
  generalize hxp : w1.heap.size = xp at HRN2 hgl hNl ⊢
  have HC8 : Hid (W2.cell? ⟨xp, 8, none⟩ = some (.int .i64 0)) := HRN2.out.job.cell (i := 8) (by omega)
  have c8 := HC8.out
  have f8 := HRN2.out.job.thaw 8
  obtain ⟨n0, _⟩ := HRN2.out.cells
  rw [HDD.out] at n0
  obtain ⟨n1, n2⟩ := HHD.out W2 HRN2.out.bel
  have HRN3 : Hid (RN w w.heap.size xp mp g o cap qs s m d { { J0 with deep := 0, n := 0 } with n := J0.n } (W2.setCell ⟨xp, 8, none⟩ (.int .i64 (J0.n : Int)))) := HRN2.out.put (HRN2.out.job.set8n J0.n) rfl
  clear HRN2 HC8 hxp
  go_quiet (fail)
  go_wp2
  go_loopw [10, 11] (fun u i wr => ∃ k : Nat, k ≤ l.length ∧ u = .int .i64 (lastAt l d.file k) ∧ i = .int .i64 (k : Int) ∧ RN w w.heap.size xp mp g o cap qs s m d { { J0 with deep := 0, n := 0 } with n := J0.n } wr) (fun _ i _ => l.length - (intOf i).toNat)
  case atStart => exact ⟨0, Nat.zero_le _, rfl, rfl, by first | exact HRN3.out | exact HRN3.out.drewN _ | exact HRN3.out.drew⟩
  case round =>
    clear HRN3 c8 f8 n0 n1 n2
    obtain ⟨k, hk, rfl, rfl, hr⟩ := hrel
    have HR := toHid hr
    obtain ⟨n0, n1, n2, n3, n4⟩ := hr.cells
    rw [HDD.out] at n0
    by_cases hlt : k < l.length
    · have hnk := hr.nums k (by show k < J0.l.length; rw [HJL.out]; exact hlt)
      obtain ⟨g', o', ee, hcn⟩ := hnk
      cases ee
      have hcn' : wr.cell? ⟨g, o + k, none⟩ = some (.int .i64 (l.getD k 0)) := by rw [← HJL.out]; exact hcn
      have HLN : Hid (lastAt l d.file (k + 1) = if l.getD k 0 = d.file then (k : Int) else lastAt l d.file k) := rfl
      clear hr hcn
      have k0 : (0 : Int) ≤ (k : Int) := by omega
      have k1 : (k : Int) < (l.length : Int) := by omega
      have k2 : decide ((k : Int) < (l.length : Int)) = true := decide_eq_true k1
      generalize lastAt l d.file k = la at HLN
      by_cases he : l.getD k 0 = d.file
      · have ge : (l.getD k 0 == d.file) = true := by simpa using he
        have HLE : Hid (lastAt l d.file (k + 1) = (k : Int)) := by unfold Hid; rw [HLN.out, if_pos he]
        clear he HLN
        generalize l.getD k 0 = nk at hcn' ge
        go_wp2
        go_region
        go_wp2
        go_roundw
        case rel =>
          have fin : ∃ k1 : Nat, k1 ≤ l.length ∧ Value.int .i64 (k : Int) = .int .i64 (lastAt l d.file k1) ∧ Value.int .i64 ((k : Int) + 1) = .int .i64 (k1 : Int) ∧ RN w w.heap.size xp mp g o cap qs s m d { { J0 with deep := 0, n := 0 } with n := J0.n } wr.drew := ⟨k + 1, by omega, by rw [HLE.out], by go_num, HR.out.drew⟩
          first | exact fin | ((repeat apply Exists.intro); exact ⟨fin, rfl⟩)
        case measure => simp [intOf]; omega
      · have ge : (l.getD k 0 == d.file) = false := by simpa using he
        have HLE : Hid (lastAt l d.file (k + 1) = la) := by unfold Hid; rw [HLN.out, if_neg he]
        clear he HLN
        generalize l.getD k 0 = nk at hcn' ge
        go_wp2
        go_region
        go_wp2
        go_roundw
        case rel =>
          have fin : ∃ k1 : Nat, k1 ≤ l.length ∧ Value.int .i64 la = .int .i64 (lastAt l d.file k1) ∧ Value.int .i64 ((k : Int) + 1) = .int .i64 (k1 : Int) ∧ RN w w.heap.size xp mp g o cap qs s m d { { J0 with deep := 0, n := 0 } with n := J0.n } wr.drew := ⟨k + 1, by omega, by rw [HLE.out], by go_num, HR.out.drew⟩
          first | exact fin | ((repeat apply Exists.intro); exact ⟨fin, rfl⟩)
        case measure => simp [intOf]; omega
    · have hke : k = l.length := by omega
      subst hke
      have k2 : decide ((l.length : Int) < (l.length : Int)) = false := decide_eq_false (by omega)
      rw [HLA.out]
      have hix := idx_cases l d.file hnd
      have hdc := drop_contains (l := l) (f := d.file) hnd
      have hcx := contains_idx (l := l) (f := d.file)
      have HBE := toHid hr.bel
      have f7 := hr.job.thaw 7
      have c7 : wr.cell? ⟨xp, 7, none⟩ = some (.int .i64 0) := hr.job.cell (i := 7) (by omega)
      have HSW := toHid hr.shelf
      clear hr hnd HLA
      generalize hixv : Lib.idxOf l d.file = ix at hix hdc hcx
      have hxi : -1 ≤ ix ∧ ix < (l.length : Int) := by
        rcases hix with ⟨e, _⟩ | ⟨q, e, hq, _⟩
        · omega
        · omega
      by_cases h1 : d.kind = 1
      · have gk : (d.kind == 1) = true := by simpa using h1
        have HCK : Hid (newF s d = targetF s l d.file) := by unfold Hid; rw [HNF.out]; unfold chkJ; rw [if_pos h1]
        have HD0 : Hid ((0 : Nat) = J0.deep) := by unfold Hid; rw [HDP.out]; unfold deepJ; rw [if_pos h1]
        by_cases hf0 : d.file < 0
        · have ga : decide (d.file < 0) = true := decide_eq_true hf0
          have HN4 : Hid (newF s d = 4) := by
            unfold Hid; rw [HCK.out]; unfold targetF
            have : s.file d.file = none := by unfold SV.file; rw [if_neg (by omega)]
            rw [this]
          go_wp2
          go_quiet (fail)
          go_wp2
          go_ret2
          exact NewPost.bad (below_drewN HBE.out _) HN4.out (by decide)
        · have ga : decide (d.file < 0) = false := decide_eq_false hf0
          by_cases hf5 : 5 ≤ d.file
          · have gb : decide (5 ≤ d.file) = true := decide_eq_true hf5
            have HN4 : Hid (newF s d = 4) := by
              unfold Hid; rw [HCK.out]; unfold targetF
              have : s.file d.file = none := by unfold SV.file; rw [if_neg (by omega)]
              rw [this]
            go_wp2
            go_quiet (fail)
            go_wp2
            go_ret2
            exact NewPost.bad (below_drewN HBE.out _) HN4.out (by decide)
          · have gb : decide (5 ≤ d.file) = false := decide_eq_false hf5
            obtain ⟨fk, hfk⟩ : ∃ fk : Nat, d.file = (fk : Int) := ⟨d.file.toNat, by omega⟩
            have fk0 : (0 : Int) ≤ (fk : Int) := by omega
            have fk5 : (fk : Int) < 5 := by omega
            rw [hfk] at n2 ga gb
            cases hfile : s.file d.file with
            | none =>
              have HN4 : Hid (newF s d = 4) := by unfold Hid; rw [HCK.out]; unfold targetF; rw [hfile]
              rw [hfk] at hfile
              have nf := HFN.out fk (by omega) hfile wr HSW.out
              clear hfile
              go_wp2
              go_quiet (fail)
              go_wp2
              go_ret2
              exact NewPost.bad (below_drewN HBE.out _) HN4.out (by decide)
            | some u =>
              have HTF : Hid (newF s d = if l.contains d.file = true ∨ u.h.b ≠ -1 ∨ u.h.c ≠ s.clusters l then 2 else 0) := by unfold Hid; rw [HCK.out]; unfold targetF; rw [hfile]
              rw [HCL.out] at HTF
              rw [hfk] at hfile
              obtain ⟨u1, u2, u3⟩ := HFX.out fk u hfile wr HSW.out
              clear hfile
              generalize (qs fk).p = ip2 at u1 u2 u3
              generalize u.h.c = uc at u2 HTF
              generalize u.h.b = ub at u3 HTF
              by_cases hx0 : 0 ≤ ix
              · have gx : decide (0 ≤ ix) = true := decide_eq_true hx0
                have HN2 : Hid (newF s d = 2) := by unfold Hid; rw [HTF.out, if_pos (.inl (hcx.2 hx0))]
                go_wp2
                go_quiet (fail)
                go_wp2
                go_quiet (fail)
                go_wp2
                go_ret2
                exact NewPost.bad (below_drewN (below_drewN HBE.out _) _) HN2.out (by decide)
              · have gx : decide (0 ≤ ix) = false := decide_eq_false hx0
                by_cases hub : ub = -1
                · have gub : (ub != -1) = false := by simpa using hub
                  by_cases huc : uc = (J0.n : Int)
                  · have guc : (uc != (J0.n : Int)) = false := by simpa using huc
                    have HN0 : Hid (newF s d = 0) := by unfold Hid; rw [HTF.out, if_neg (by rintro (e | e | e); exact hx0 (hcx.1 e); exact e hub; exact e huc)]
                    have HRX : Hid (RN w w.heap.size xp mp g o cap qs s m d J0 wr) := by have := HR.out; rw [HJ8.out HD0.out] at this; exact this
                    go_wp2
                    go_quiet (fail)
                    go_wp2
                    go_quiet (fail)
                    go_wp2
                    go_loopw [12] (fun i wr => ∃ k : Nat, k ≤ J0.n ∧ i = .int .i64 (k : Int) ∧ RN w w.heap.size xp mp g o cap qs s m d (J0.put (wantTo s J0 k)) wr) (fun i _ => J0.n - (intOf i).toNat)
                    case atStart => exact ⟨0, Nat.zero_le _, rfl, by rw [← HPT0.out]; first | exact HRX.out | exact HRX.out.drewN _ | exact (HRX.out.drewN _).drewN _ | exact HRX.out.drew⟩
                    case round =>
                      obtain ⟨k, hk, rfl, hq⟩ := hrel
                      obtain ⟨C, hJ, _, _⟩ := (HOK.out HN0.out).jok
                      rw [hj0] at hJ
                      have HQ := toHid hq
                      by_cases hlt : k < J0.n
                      · have HWN : Hid (∀ W : World, Below wr.heap.size wr W → Calls Tryz.prog 52 #[.pointer (some ⟨xp, 0, none⟩), .int .i64 (k : Int)] W fun e w' => e = .returned (.bool (J0.wantB s (k : Int))) ∧ Below W.heap.size W w') := fun W hb => rwants_any (j := J0.put (wantTo s J0 k)) (k : Int) W ((hq.below hb).rj (hJ.newX k))
                        have HNX : Hid (∀ W : World, Below wr.heap.size wr W → RN w w.heap.size xp mp g o cap qs s m d (J0.put (wantTo s J0 (k + 1))) (W.setCell ⟨xp, 9 + k, none⟩ (.bool (J0.wantB s (k : Int)))) ∧ W.cell? ⟨xp, 9 + k, none⟩ = some (.bool ((wantTo s J0 k).testBit k)) ∧ W.frozen? ⟨xp, 9 + k, none⟩ = false) := fun W hb => ⟨(hq.below hb).want hlt hn64, by rw [(hq.below hb).job.cell (i := 9 + k) (by omega), rjC_bit (by omega)]; rfl, (hq.below hb).job.thaw _⟩
                        have k0 : (0 : Int) ≤ (k : Int) := by omega
                        have k64 : (k : Int) < 64 := by omega
                        have k1 : decide ((k : Int) < (J0.n : Int)) = true := decide_eq_true (by omega)
                        have HBQ : Hid (Below wr.heap.size wr wr.drew) := (Below.refl _ _).drew
                        clear hq hJ
                        generalize J0.wantB s (k : Int) = wb at HWN HNX
                        generalize (wantTo s J0 k).testBit k = ob at HNX
                        go_wp2
                        go_region_held3 (fun W => True)
                          (first | exact trivial)
                          (first
                            | (go_at_call 52; refine (HWN.out _ HBQ.out).mono ?_; rintro e w5 ⟨rfl, hb5⟩; have HB5 := toHid (HBQ.out.trans (hb5.mono HBQ.out.size)); have hcc := HNX.out _ HB5.out; have cc := hcc.2.1; have ff := hcc.2.2; have HRK := toHid hcc.1; clear hcc hb5))
                        clear HWN HNX HQ cc ff
                        go_wp2
                        go_roundw
                        case rel =>
                          have fin : ∃ k1 : Nat, k1 ≤ J0.n ∧ Value.int .i64 ((k : Int) + 1) = .int .i64 (k1 : Int) ∧ RN w w.heap.size xp mp g o cap qs s m d (J0.put (wantTo s J0 k1)) (w5.setCell ⟨xp, 9 + k, none⟩ (.bool wb)) := ⟨k + 1, by omega, by go_num, HRK.out⟩
                          first | exact fin | ((repeat apply Exists.intro); exact ⟨fin, rfl⟩)
                        case measure => simp [intOf]; omega
                      · have hke : k = J0.n := by omega
                        have k1 : decide ((k : Int) < (J0.n : Int)) = false := decide_eq_false (by omega)
                        have HFI : Hid (RN w w.heap.size xp mp g o cap qs s m d (newJ s d) wr) := by unfold Hid; rw [HNJ.out, ← hke]; exact HQ.out
                        clear hq HQ hJ
                        go_wp2
                        go_ret2
                        exact NewPost.good HN0.out HFI.out
                  · have guc : (uc != (J0.n : Int)) = true := by simpa using huc
                    have HN2 : Hid (newF s d = 2) := by unfold Hid; rw [HTF.out, if_pos (.inr (.inr huc))]
                    go_wp2
                    go_quiet (fail)
                    go_wp2
                    go_quiet (fail)
                    go_wp2
                    go_ret2
                    exact NewPost.bad (below_drewN (below_drewN HBE.out _) _) HN2.out (by decide)
                · have gub : (ub != -1) = true := by simpa using hub
                  have HN2 : Hid (newF s d = 2) := by unfold Hid; rw [HTF.out, if_pos (.inr (.inl hub))]
                  go_wp2
                  go_quiet (fail)
                  go_wp2
                  go_quiet (fail)
                  go_wp2
                  go_ret2
                  exact NewPost.bad (below_drewN (below_drewN HBE.out _) _) HN2.out (by decide)
      · have gk : (d.kind == 1) = false := by simpa using h1
        by_cases h23 : d.kind = 2 ∨ d.kind = 3
        · have HCK : Hid (newF s d = if d.kind = 2 ∧ d.file = -1 ∨ (l.drop 1).contains d.file = true then 0 else 4) := by unfold Hid; rw [HNF.out]; unfold chkJ; rw [if_neg h1, if_pos h23]
          have HDQ : Hid (J0.deep = if ix = -1 then l.length else ix.toNat) := by unfold Hid; rw [HDP.out]; unfold deepJ; rw [if_neg h1, hixv]
          by_cases hm1 : d.kind = 2 ∧ d.file = -1
          · have ga : (d.kind == 2) = true := by simpa using hm1.1
            have gb : (d.file == -1) = true := by simpa using hm1.2
            have hixm : ix = -1 := by
              rcases hix with ⟨e, _⟩ | ⟨q, e, hq, hd⟩
              · exact e
              · exfalso
                have hmem : d.file ∈ l := by
                  rw [← hd, List.getD_eq_getElem?_getD, List.getElem?_eq_getElem hq]; exact List.getElem_mem hq
                rw [hm1.2] at hmem
                exact HNEG.out hmem
            have HN0 : Hid (newF s d = 0) := by unfold Hid; rw [HCK.out, if_pos (.inl hm1)]
            have gl : decide ((l.length : Int) < 1) = false := decide_eq_false (by omega)
            have HRX : Hid (RN w w.heap.size xp mp g o cap qs s m d J0 (wr.setCell ⟨xp, 7, none⟩ (.int .i64 (l.length : Int)))) := by
              have := HR.out.put (HR.out.job.set7d l.length) rfl
              rw [HJ7.out l.length (by rw [HDQ.out, if_pos hixm])] at this
              exact this
            go_wp2
            go_loopw [12] (fun i wr => ∃ k : Nat, k ≤ J0.n ∧ i = .int .i64 (k : Int) ∧ RN w w.heap.size xp mp g o cap qs s m d (J0.put (wantTo s J0 k)) wr) (fun i _ => J0.n - (intOf i).toNat)
            case atStart => exact ⟨0, Nat.zero_le _, rfl, by rw [← HPT0.out]; first | exact HRX.out | exact HRX.out.drewN _ | exact (HRX.out.drewN _).drewN _ | exact HRX.out.drew⟩
            case round =>
              obtain ⟨k, hk, rfl, hq⟩ := hrel
              obtain ⟨C, hJ, _, _⟩ := (HOK.out HN0.out).jok
              rw [hj0] at hJ
              have HQ := toHid hq
              by_cases hlt : k < J0.n
              · have HWN : Hid (∀ W : World, Below wr.heap.size wr W → Calls Tryz.prog 52 #[.pointer (some ⟨xp, 0, none⟩), .int .i64 (k : Int)] W fun e w' => e = .returned (.bool (J0.wantB s (k : Int))) ∧ Below W.heap.size W w') := fun W hb => rwants_any (j := J0.put (wantTo s J0 k)) (k : Int) W ((hq.below hb).rj (hJ.newX k))
                have HNX : Hid (∀ W : World, Below wr.heap.size wr W → RN w w.heap.size xp mp g o cap qs s m d (J0.put (wantTo s J0 (k + 1))) (W.setCell ⟨xp, 9 + k, none⟩ (.bool (J0.wantB s (k : Int)))) ∧ W.cell? ⟨xp, 9 + k, none⟩ = some (.bool ((wantTo s J0 k).testBit k)) ∧ W.frozen? ⟨xp, 9 + k, none⟩ = false) := fun W hb => ⟨(hq.below hb).want hlt hn64, by rw [(hq.below hb).job.cell (i := 9 + k) (by omega), rjC_bit (by omega)]; rfl, (hq.below hb).job.thaw _⟩
                have k0 : (0 : Int) ≤ (k : Int) := by omega
                have k64 : (k : Int) < 64 := by omega
                have k1 : decide ((k : Int) < (J0.n : Int)) = true := decide_eq_true (by omega)
                have HBQ : Hid (Below wr.heap.size wr wr.drew) := (Below.refl _ _).drew
                clear hq hJ
                generalize J0.wantB s (k : Int) = wb at HWN HNX
                generalize (wantTo s J0 k).testBit k = ob at HNX
                go_wp2
                go_region_held3 (fun W => True)
                  (first | exact trivial)
                  (first
                    | (go_at_call 52; refine (HWN.out _ HBQ.out).mono ?_; rintro e w5 ⟨rfl, hb5⟩; have HB5 := toHid (HBQ.out.trans (hb5.mono HBQ.out.size)); have hcc := HNX.out _ HB5.out; have cc := hcc.2.1; have ff := hcc.2.2; have HRK := toHid hcc.1; clear hcc hb5))
                clear HWN HNX HQ cc ff
                go_wp2
                go_roundw
                case rel =>
                  have fin : ∃ k1 : Nat, k1 ≤ J0.n ∧ Value.int .i64 ((k : Int) + 1) = .int .i64 (k1 : Int) ∧ RN w w.heap.size xp mp g o cap qs s m d (J0.put (wantTo s J0 k1)) (w5.setCell ⟨xp, 9 + k, none⟩ (.bool wb)) := ⟨k + 1, by omega, by go_num, HRK.out⟩
                  first | exact fin | ((repeat apply Exists.intro); exact ⟨fin, rfl⟩)
                case measure => simp [intOf]; omega
              · have hke : k = J0.n := by omega
                have k1 : decide ((k : Int) < (J0.n : Int)) = false := decide_eq_false (by omega)
                have HFI : Hid (RN w w.heap.size xp mp g o cap qs s m d (newJ s d) wr) := by unfold Hid; rw [HNJ.out, ← hke]; exact HQ.out
                clear hq HQ hJ
                go_wp2
                go_ret2
                exact NewPost.good HN0.out HFI.out
          · have HIF : Hid (newF s d = if 1 ≤ ix then 0 else 4) := by
              unfold Hid; rw [HCK.out]
              by_cases e : 1 ≤ ix
              · rw [if_pos (.inr (hdc.2 e)), if_pos e]
              · rw [if_neg (by rintro (x | x); exact hm1 x; exact e (hdc.1 x)), if_neg e]
            by_cases hx1 : 1 ≤ ix
            · have gl : decide (ix < 1) = false := decide_eq_false (by omega)
              have HN0 : Hid (newF s d = 0) := by unfold Hid; rw [HIF.out, if_pos hx1]
              obtain ⟨xk, hxk⟩ : ∃ xk : Nat, ix = (xk : Int) := ⟨ix.toNat, by omega⟩
              have HRX : Hid (RN w w.heap.size xp mp g o cap qs s m d J0 (wr.setCell ⟨xp, 7, none⟩ (.int .i64 ix))) := by
                have := HR.out.put (HR.out.job.set7d xk) rfl
                rw [HJ7.out xk (by rw [HDQ.out, if_neg (by omega)]; omega), ← hxk] at this
                exact this
              clear hxk
              by_cases h2 : d.kind = 2
              · have ga : (d.kind == 2) = true := by simpa using h2
                have gb : (d.file == -1) = false := by
                  have : d.file ≠ -1 := fun e => hm1 ⟨h2, e⟩
                  simpa using this
                go_wp2
                go_loopw [12] (fun i wr => ∃ k : Nat, k ≤ J0.n ∧ i = .int .i64 (k : Int) ∧ RN w w.heap.size xp mp g o cap qs s m d (J0.put (wantTo s J0 k)) wr) (fun i _ => J0.n - (intOf i).toNat)
                case atStart => exact ⟨0, Nat.zero_le _, rfl, by rw [← HPT0.out]; first | exact HRX.out | exact HRX.out.drewN _ | exact (HRX.out.drewN _).drewN _ | exact HRX.out.drew⟩
                case round =>
                  obtain ⟨k, hk, rfl, hq⟩ := hrel
                  obtain ⟨C, hJ, _, _⟩ := (HOK.out HN0.out).jok
                  rw [hj0] at hJ
                  have HQ := toHid hq
                  by_cases hlt : k < J0.n
                  · have HWN : Hid (∀ W : World, Below wr.heap.size wr W → Calls Tryz.prog 52 #[.pointer (some ⟨xp, 0, none⟩), .int .i64 (k : Int)] W fun e w' => e = .returned (.bool (J0.wantB s (k : Int))) ∧ Below W.heap.size W w') := fun W hb => rwants_any (j := J0.put (wantTo s J0 k)) (k : Int) W ((hq.below hb).rj (hJ.newX k))
                    have HNX : Hid (∀ W : World, Below wr.heap.size wr W → RN w w.heap.size xp mp g o cap qs s m d (J0.put (wantTo s J0 (k + 1))) (W.setCell ⟨xp, 9 + k, none⟩ (.bool (J0.wantB s (k : Int)))) ∧ W.cell? ⟨xp, 9 + k, none⟩ = some (.bool ((wantTo s J0 k).testBit k)) ∧ W.frozen? ⟨xp, 9 + k, none⟩ = false) := fun W hb => ⟨(hq.below hb).want hlt hn64, by rw [(hq.below hb).job.cell (i := 9 + k) (by omega), rjC_bit (by omega)]; rfl, (hq.below hb).job.thaw _⟩
                    have k0 : (0 : Int) ≤ (k : Int) := by omega
                    have k64 : (k : Int) < 64 := by omega
                    have k1 : decide ((k : Int) < (J0.n : Int)) = true := decide_eq_true (by omega)
                    have HBQ : Hid (Below wr.heap.size wr wr.drew) := (Below.refl _ _).drew
                    clear hq hJ
                    generalize J0.wantB s (k : Int) = wb at HWN HNX
                    generalize (wantTo s J0 k).testBit k = ob at HNX
                    go_wp2
                    go_region_held3 (fun W => True)
                      (first | exact trivial)
                      (first
                        | (go_at_call 52; refine (HWN.out _ HBQ.out).mono ?_; rintro e w5 ⟨rfl, hb5⟩; have HB5 := toHid (HBQ.out.trans (hb5.mono HBQ.out.size)); have hcc := HNX.out _ HB5.out; have cc := hcc.2.1; have ff := hcc.2.2; have HRK := toHid hcc.1; clear hcc hb5))
                    clear HWN HNX HQ cc ff
                    go_wp2
                    go_roundw
                    case rel =>
                      have fin : ∃ k1 : Nat, k1 ≤ J0.n ∧ Value.int .i64 ((k : Int) + 1) = .int .i64 (k1 : Int) ∧ RN w w.heap.size xp mp g o cap qs s m d (J0.put (wantTo s J0 k1)) (w5.setCell ⟨xp, 9 + k, none⟩ (.bool wb)) := ⟨k + 1, by omega, by go_num, HRK.out⟩
                      first | exact fin | ((repeat apply Exists.intro); exact ⟨fin, rfl⟩)
                    case measure => simp [intOf]; omega
                  · have hke : k = J0.n := by omega
                    have k1 : decide ((k : Int) < (J0.n : Int)) = false := decide_eq_false (by omega)
                    have HFI : Hid (RN w w.heap.size xp mp g o cap qs s m d (newJ s d) wr) := by unfold Hid; rw [HNJ.out, ← hke]; exact HQ.out
                    clear hq HQ hJ
                    go_wp2
                    go_ret2
                    exact NewPost.good HN0.out HFI.out
              · have ga : (d.kind == 2) = false := by simpa using h2
                have gc : (d.kind == 3) = true := by have : d.kind = 3 := by omega
                                                     simpa using this
                go_wp2
                go_loopw [12] (fun i wr => ∃ k : Nat, k ≤ J0.n ∧ i = .int .i64 (k : Int) ∧ RN w w.heap.size xp mp g o cap qs s m d (J0.put (wantTo s J0 k)) wr) (fun i _ => J0.n - (intOf i).toNat)
                case atStart => exact ⟨0, Nat.zero_le _, rfl, by rw [← HPT0.out]; first | exact HRX.out | exact HRX.out.drewN _ | exact (HRX.out.drewN _).drewN _ | exact HRX.out.drew⟩
                case round =>
                  obtain ⟨k, hk, rfl, hq⟩ := hrel
                  obtain ⟨C, hJ, _, _⟩ := (HOK.out HN0.out).jok
                  rw [hj0] at hJ
                  have HQ := toHid hq
                  by_cases hlt : k < J0.n
                  · have HWN : Hid (∀ W : World, Below wr.heap.size wr W → Calls Tryz.prog 52 #[.pointer (some ⟨xp, 0, none⟩), .int .i64 (k : Int)] W fun e w' => e = .returned (.bool (J0.wantB s (k : Int))) ∧ Below W.heap.size W w') := fun W hb => rwants_any (j := J0.put (wantTo s J0 k)) (k : Int) W ((hq.below hb).rj (hJ.newX k))
                    have HNX : Hid (∀ W : World, Below wr.heap.size wr W → RN w w.heap.size xp mp g o cap qs s m d (J0.put (wantTo s J0 (k + 1))) (W.setCell ⟨xp, 9 + k, none⟩ (.bool (J0.wantB s (k : Int)))) ∧ W.cell? ⟨xp, 9 + k, none⟩ = some (.bool ((wantTo s J0 k).testBit k)) ∧ W.frozen? ⟨xp, 9 + k, none⟩ = false) := fun W hb => ⟨(hq.below hb).want hlt hn64, by rw [(hq.below hb).job.cell (i := 9 + k) (by omega), rjC_bit (by omega)]; rfl, (hq.below hb).job.thaw _⟩
                    have k0 : (0 : Int) ≤ (k : Int) := by omega
                    have k64 : (k : Int) < 64 := by omega
                    have k1 : decide ((k : Int) < (J0.n : Int)) = true := decide_eq_true (by omega)
                    have HBQ : Hid (Below wr.heap.size wr wr.drew) := (Below.refl _ _).drew
                    clear hq hJ
                    generalize J0.wantB s (k : Int) = wb at HWN HNX
                    generalize (wantTo s J0 k).testBit k = ob at HNX
                    go_wp2
                    go_region_held3 (fun W => True)
                      (first | exact trivial)
                      (first
                        | (go_at_call 52; refine (HWN.out _ HBQ.out).mono ?_; rintro e w5 ⟨rfl, hb5⟩; have HB5 := toHid (HBQ.out.trans (hb5.mono HBQ.out.size)); have hcc := HNX.out _ HB5.out; have cc := hcc.2.1; have ff := hcc.2.2; have HRK := toHid hcc.1; clear hcc hb5))
                    clear HWN HNX HQ cc ff
                    go_wp2
                    go_roundw
                    case rel =>
                      have fin : ∃ k1 : Nat, k1 ≤ J0.n ∧ Value.int .i64 ((k : Int) + 1) = .int .i64 (k1 : Int) ∧ RN w w.heap.size xp mp g o cap qs s m d (J0.put (wantTo s J0 k1)) (w5.setCell ⟨xp, 9 + k, none⟩ (.bool wb)) := ⟨k + 1, by omega, by go_num, HRK.out⟩
                      first | exact fin | ((repeat apply Exists.intro); exact ⟨fin, rfl⟩)
                    case measure => simp [intOf]; omega
                  · have hke : k = J0.n := by omega
                    have k1 : decide ((k : Int) < (J0.n : Int)) = false := decide_eq_false (by omega)
                    have HFI : Hid (RN w w.heap.size xp mp g o cap qs s m d (newJ s d) wr) := by unfold Hid; rw [HNJ.out, ← hke]; exact HQ.out
                    clear hq HQ hJ
                    go_wp2
                    go_ret2
                    exact NewPost.good HN0.out HFI.out
            · have gl : decide (ix < 1) = true := decide_eq_true (by omega)
              have HN4 : Hid (newF s d = 4) := by unfold Hid; rw [HIF.out, if_neg hx1]
              by_cases h2 : d.kind = 2
              · have ga : (d.kind == 2) = true := by simpa using h2
                have gb : (d.file == -1) = false := by
                  have : d.file ≠ -1 := fun e => hm1 ⟨h2, e⟩
                  simpa using this
                go_wp2
                go_ret2
                exact NewPost.bad HBE.out HN4.out (by decide)
              · have ga : (d.kind == 2) = false := by simpa using h2
                have gc : (d.kind == 3) = true := by have : d.kind = 3 := by omega
                                                     simpa using this
                go_wp2
                go_ret2
                exact NewPost.bad HBE.out HN4.out (by decide)
        · have ga : (d.kind == 2) = false := by simp; omega
          have gb : (d.kind == 3) = false := by simp; omega
          have HN1 : Hid (newF s d = 1) := by unfold Hid; rw [HNF.out]; unfold chkJ; rw [if_neg h1, if_neg h23]
          go_wp2
          go_ret2
          exact NewPost.bad HBE.out HN1.out (by decide)
end Go.Proofs.YtjegaljdindfaabGreatDoor
