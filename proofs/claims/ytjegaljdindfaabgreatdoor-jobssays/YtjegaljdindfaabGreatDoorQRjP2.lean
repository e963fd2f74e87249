/-
Two shelves, and a list of files over both; a step that both take.
How a job of the document's answer is settled.
-/
import Derived.Test.YtjegaljdindfaabGreatDoorQLawLaid0
import Derived.Test.YtjegaljdindfaabGreatDoorQActs4
import Derived.Test.YtjegaljdindfaabGreatDoorQRchWalk
import Derived.Test.YtjegaljdindfaabGreatDoorQJobP5
import Derived.Test.YtjegaljdindfaabGreatDoorQRjP1
import Derived.Test.YtjegaljdindfaabGreatDoorQJobP3
import Derived.Test.YtjegaljdindfaabGreatDoorQRchRead
namespace Go.Proofs.YtjegaljdindfaabGreatDoor
open Go.RowKit Go.Maps

structure Yoke (B : Nat) (w0 w : World) (sp mp : Nat) (xs : Nat → Ih) (qs : Nat → Qh) (s : SV) (m : Nat) (a : Option Addr) (l : List Int) (C : Nat) : Prop where
  lay : Lay B w0 w sp mp xs qs s m
  nums : Nums w a l
  apS : Apart a (fpS xs s)
  apQ : Apart a (fpQ qs s)
  lt : ∀ g o, a = some ⟨g, o, none⟩ → g < w.heap.size
  good : s.good (C : Int) l
  len : l.length ≤ 100
  cc : C ≤ 40

theorem Yoke.below {B m C : Nat} {w0 w w' : World} {sp mp : Nat} {xs : Nat → Ih} {qs : Nat → Qh} {s : SV} {a : Option Addr} {l : List Int} (h : Yoke B w0 w sp mp xs qs s m a l C) (hb : Below w.heap.size w w') : Yoke B w0 w' sp mp xs qs s m a l C :=
  ⟨h.lay.below hb, h.nums.below hb, h.apS, h.apQ, fun g o e => Nat.lt_of_lt_of_le (h.lt g o e) hb.size, h.good, h.len, h.cc⟩

theorem Yoke.more {B m m' C : Nat} {w0 w : World} {sp mp : Nat} {xs : Nat → Ih} {qs : Nat → Qh} {s : SV} {a : Option Addr} {l : List Int} (h : Yoke B w0 w sp mp xs qs s m a l C) (hm : m ≤ m') : Yoke B w0 w sp mp xs qs s m' a l C :=
  ⟨h.lay.more hm, h.nums, h.apS, h.apQ, h.lt, h.good, h.len, h.cc⟩

def Yoked (B : Nat) (w0 : World) (sp mp m : Nat) (a : Option Addr) (l : List Int) (C : Nat) (w : World) : Prop := ∃ xs qs s, Yoke B w0 w sp mp xs qs s m a l C

theorem yoke_step {B m m' C : Nat} {w0 w : World} {sp mp : Nat} {xs : Nat → Ih} {qs : Nat → Qh} {s : SV} {a : Option Addr} {l : List Int} {R : SV × Int} {fp fr : Nat} {ap ar : Array Value} (h : Yoke B w0 w sp mp xs qs s m a l C) (hR : R.1.good (C : Int) l) (x : ActV)
    (HP : ∀ W : World, IsShelf W sp xs s m → Nums W a l → Calls Tryz.prog fp ap W (SDid W sp xs s m' R))
    (HR : ∀ W : World, IsRshelf W mp qs s m → Nums W a l → Calls Tryz.prog fr ar W (RDid W mp qs s m' R)) :
    ∀ W' : World, Below (w.alloc (actBox x)).heap.size (w.alloc (actBox x)) W' → Calls Tryz.prog fp ap W' fun e w1 => e = .returned (erV R.2) ∧ ActAt w1 w.heap.size x ∧
      ∀ W'' : World, Below w1.heap.size w1 W'' → Calls Tryz.prog fr ar W'' fun e w2 => e = .returned (.int .i64 R.2) ∧ ActAt w2 w.heap.size x ∧
        ∀ W3 : World, Below w2.heap.size w2 W3 → Yoked B w0 sp mp m' a l C W3 := by
  intro W' hS
  have hba : Below w.heap.size w (w.alloc (actBox x)) := (Below.refl _ _).alloc (Nat.le_refl _) _
  have hbw : Below w.heap.size w W' := hba.trans (hS.mono hba.size)
  have p1 := h.below hbw
  have hlt : w.heap.size < (w.alloc (actBox x)).heap.size := by simp
  have hblk : W'.heap[w.heap.size]? = some (actBox x) := by rw [hS.block _ hlt]; exact heap_alloc_new w _
  have hlt1 : w.heap.size < W'.heap.size := Nat.lt_of_lt_of_le hlt hS.size
  refine (HP W' p1.lay.prog p1.nums).mono ?_
  rintro e w1 ⟨xs', rfl, hi1, hm1⟩
  have hnS : ¬ fpS xs s w.heap.size := fun hf => absurd (h.lay.prog.fpLt hf) (Nat.lt_irrefl _)
  have hnQ : ¬ fpQ qs s w.heap.size := fun hf => absurd (h.lay.ref.fpLt hf) (Nat.lt_irrefl _)
  have a1 : ActAt w1 w.heap.size x := ⟨by rw [hm1.block hlt1 hnS]; exact hblk⟩
  refine ⟨rfl, a1, fun W'' hS2 => ?_⟩
  have hmid := (p1.lay.prog_acts hi1 hm1).below hS2
  have hn2 : Nums W'' a l := (p1.nums.moved hm1 p1.apS).below hS2
  have hlt2 : w.heap.size < W''.heap.size := Nat.lt_of_lt_of_le hlt1 (Nat.le_trans hm1.size hS2.size)
  refine (HR W'' hmid.ref hn2).mono ?_
  rintro e w2 ⟨qs', rfl, hr2, hm2⟩
  have hblk2 : W''.heap[w.heap.size]? = some (actBox x) := by rw [hS2.block _ (Nat.lt_of_lt_of_le hlt1 hm1.size)]; exact a1.blk
  refine ⟨rfl, ⟨by rw [hm2.block hlt2 hnQ]; exact hblk2⟩, fun W3 hS3 => ?_⟩
  have hl3 := (hmid.ref_acts hr2 hm2).below hS3
  refine ⟨xs', qs', R.1, hl3, (hn2.moved hm2 h.apQ).below hS3, fun g o e => hm1.out (p1.lt g o e) (h.apS g o e), fun g o e => hm2.out (Nat.lt_of_lt_of_le (p1.lt g o e) (Nat.le_trans hm1.size hS2.size)) (h.apQ g o e), fun g o e => ?_, hR, h.len, h.cc⟩
  exact Nat.lt_of_lt_of_le (p1.lt g o e) (Nat.le_trans hm1.size (Nat.le_trans hS2.size (Nat.le_trans hm2.size hS3.size)))

/- No fault is below 0. -/
theorem chkF_zero (s : SV) (l : List Int) (fr n : Int) : 0 ≤ s.chkF l fr n := by
  by_cases h : s.chkF l fr n = 0
  · rw [h]; exact Int.le_refl _
  · exact Int.le_of_lt (chkF_pos h)

theorem goPts_pos {op : SV → Pt → SV × Int} (hop : ∀ (s : SV) p, 0 ≤ (op s p).2) : ∀ (P : List Pt) (s : SV), 0 ≤ (goPts op s P).2 := by
  intro P
  induction P with
  | nil => intro s; exact Int.le_refl _
  | cons p r ih =>
    intro s
    rw [goPts_cons]
    split
    · exact ih _
    · exact hop _ _

theorem SV.put_pos (s : SV) (l : List Int) (fr : Int) (t : ByteArray) : 0 ≤ (s.put l fr t).2 := by
  unfold SV.put
  split
  · split
    · exact goPts_pos (fun s p => lay_pos _ _ _ _ _) _ _
    · exact chkF_zero _ _ _ _
  · show (0 : Int) ≤ 1
    decide

theorem SV.wipe_pos (s : SV) (l : List Int) (fr n : Int) : 0 ≤ (s.wipe l fr n).2 := by
  unfold SV.wipe
  split
  · exact goPts_pos (fun s p => wipePt_pos _ _ _) _ _
  · exact chkF_zero _ _ _ _

theorem SV.move_pos (s : SV) (n c : Int) (t : ByteArray) : 0 ≤ (s.move n c t).2 := by
  unfold SV.move
  split
  · show (0 : Int) ≤ 4
    decide
  · split
    · exact clearF_pos _ _
    · split
      · exact writeF_pos _ _ _ _
      · exact fillF_pos _ _ _

theorem SV.read_pos (s : SV) (l : List Int) (c : Int) : 0 ≤ (s.read l c).2 := by
  unfold SV.read
  split
  · show (0 : Int) ≤ 4
    decide
  · split
    · split
      · exact Int.le_refl _
      · show 0 ≤ IV.readF _ _
        unfold IV.readF
        split <;> (try split) <;> (try split) <;> decide
    · show (0 : Int) ≤ 1
      decide
end Go.Proofs.YtjegaljdindfaabGreatDoor

namespace Go.Proofs.YtjegaljdindfaabGreatDoor
open Go.RowKit Go.Maps
attribute [local go_sem ↓] Go.wp_at_zero Go.wp_at_succ

theorem DDid.more {w w' : World} {mp xp cap m m' C : Nat} {a : Option Addr} {qs : Nat → Qh} {s z : SV} {j : JV} (h : DDid mp xp a cap qs s z m C j w w') (hm : m ≤ m') : DDid mp xp a cap qs s z m' C j w w' := by
  obtain ⟨qs', h1, h2⟩ := h
  exact ⟨qs', h1.more hm, h2⟩

/- An act of the shelf, told of the whole job. -/
theorem RJ.rdid {w w1 w' : World} {mp xp cap m m' C : Nat} {a : Option Addr} {qs : Nat → Qh} {s : SV} {j : JV} {is : Int} {R : SV × Int} {e : Ending} (h : RJ w mp xp a cap qs s m C j is) (hb : Below w.heap.size w w1) (hd : RDid w1 mp qs s m' R e w') (hz : s.alike R.1) : e = .returned (.int .i64 R.2) ∧ ∃ qs', RJ w' mp xp a cap qs' R.1 m' C j is ∧ Moved (fpR qs s xp) w (fpR qs' R.1 xp) w' := by
  obtain ⟨qs', h1, h2, h3⟩ := hd
  obtain ⟨h4, h5⟩ := (h.below hb).acted h2 h3 hz
  exact ⟨h1, qs', h4, (Moved.of_below hb).trans h5⟩

theorem RJ.reads {w : World} {mp xp cap m C : Nat} {a : Option Addr} {qs : Nat → Qh} {s : SV} {j : JV} {is : Int} (h : RJ w mp xp a cap qs s m C j is) : ∃ (g o n : Nat) (r : List Int) (v : IV), a = some ⟨g, o, none⟩ ∧ j.l = (n : Int) :: r ∧ s.file (n : Int) = some v ∧ n < 5 ∧
    ∀ W : World, Below w.heap.size w W → W.cell? ⟨xp, 0, none⟩ = some (.pointer (some ⟨mp, 0, none⟩)) ∧ W.cell? ⟨xp, 2, none⟩ = some (.int .i64 j.kind) ∧ W.cell? ⟨xp, 3, none⟩ = some (.int .i64 j.file) ∧ W.cell? ⟨xp, 6, none⟩ = some (.slice a j.l.length cap) ∧ W.cell? ⟨g, o, none⟩ = some (.int .i64 (n : Int)) ∧ W.cell? ⟨mp, n, none⟩ = some (.pointer (some ⟨(qs n).p, 0, none⟩)) := by
  obtain ⟨n, r, v, h1, h2, h3⟩ := h.ok.root
  obtain ⟨n0, n5, _⟩ := SV.file_of h2
  obtain ⟨k, rfl⟩ : ∃ k : Nat, n = (k : Int) := ⟨n.toNat, by omega⟩
  obtain ⟨g, o, e1, e2⟩ := h.nums 0 (by rw [h1]; simp)
  refine ⟨g, o, k, r, v, e1, h1, h2, by omega, fun W hb => ?_⟩
  obtain ⟨c0, c2, c3, c6, _⟩ := (h.below hb).job.cells
  have hc := (h.below hb).shelf.cellF h2
  rw [h1, Nat.add_zero] at e2
  exact ⟨c0, c2, c3, c6, (hb.cell (p := ⟨g, o, none⟩) (World.block_lt_of_cell? _ _ e2)).trans e2, hc⟩

/- How far the files are flushed. -/
structure Rl (w : World) (mp xp : Nat) (a : Option Addr) (cap : Nat) (qs : Nat → Qh) (s : SV) (m C : Nat) (j : JV) (is : Int) (b : Option Addr) (l : List Int) (z : SV) (wr : World) (ys : Nat → Qh) : Prop where
  p : RJ wr mp xp a cap ys z m C j is
  m : Moved (fpR qs s xp) w (fpR ys z xp) wr
  n : Nums wr b l
  ap : Apart b (fpR ys z xp)

set_option maxRecDepth 100000 in
set_option maxHeartbeats 4000000 in
theorem rsettle_any {xp mp cap m C : Nat} {a : Option Addr} {qs : Nat → Qh} {s : SV} {j : JV} (w : World) (h : RJ w mp xp a cap qs s m C j j.state) (hm : m + 10 < 1000000000) :
    Calls Tryz.prog 60 #[.pointer (some ⟨xp, 0, none⟩)] w fun e w' => e = .returned (.int .i64 (settleF s j)) ∧ DDid mp xp a cap qs s (settleS s j) (m + 10) C (settleJ s j) w w' := by
  have HP := toHid h
  obtain ⟨c0, c2, c3, c6, c7, c73, c74, f73, f74⟩ := h.job.cells
  have HD0 : Hid (DDid mp xp a cap qs s s (m + 10) C j w w) := (DDid.below h (Below.refl _ _)).more (by omega)
  have HBD : Hid (Below w.heap.size w w.drew) := (Below.refl _ _).drew
  unfold settleF settleS settleJ
  by_cases h3 : j.state = 3
  · rw [h3] at c74
    by_cases h2 : j.kind = 2
    · rw [if_pos h3, if_pos h3, if_pos h2, if_pos h2]
      obtain ⟨g, o, n, r, v, ha, hl, hv, hn5, hre⟩ := h.reads
      have hhd : j.l.headD 0 = (n : Int) := by rw [hl]; rfl
      rw [hhd]
      have hln : 0 < j.l.length := by rw [hl]; simp
      have hlen : (0 : Int) < (j.l.length : Int) := by omega
      have HLK : Hid (∀ W : World, Below w.heap.size w W → Calls Tryz.prog 129 #[.pointer (some ⟨(qs n).p, 0, none⟩), .int .i64 j.file] W fun e w' => e = .returned (.int .i64 (linkS s (n : Int) j.file).2) ∧ ∃ qs', RJ w' mp xp a cap qs' (linkS s (n : Int) j.file).1 (m + 10) C j j.state ∧ Moved (fpR qs s xp) w (fpR qs' (linkS s (n : Int) j.file).1 xp) w') := fun W hb =>
        (rlink_s (n := (n : Int)) j.file W (h.shelf.below hb) hv hm).mono fun e w' hd => h.rdid hb hd (SV.alike.link _ _ _)
      have hR0 : 0 ≤ (linkS s (n : Int) j.file).2 := by
        unfold linkS; rw [hv]
        show 0 ≤ IV.linkF _ _
        unfold IV.linkF DV.putF
        split <;> (try split) <;> decide
      obtain ⟨q0, q2, q3, q6, qg, qm⟩ := hre w.drew HBD.out
      have HRE := toHid hre
      have HKR : Hid (∀ (w1 : World) (qs1 : Nat → Qh), RJ w1 mp xp a cap qs1 (linkS s (n : Int) j.file).1 (m + 10) C j j.state → Moved (fpR qs s xp) w (fpR qs1 (linkS s (n : Int) j.file).1 xp) w1 → w1.cell? ⟨xp, 0, none⟩ = some (.pointer (some ⟨mp, 0, none⟩)) ∧ w1.cell? ⟨xp, 3, none⟩ = some (.int .i64 j.file) ∧ w1.cell? ⟨xp, 6, none⟩ = some (.slice a j.l.length cap) ∧ w1.cell? ⟨g, o, none⟩ = some (.int .i64 (n : Int)) ∧ w1.cell? ⟨mp, n, none⟩ = some (.pointer (some ⟨(qs n).p, 0, none⟩))) := fun w1 qs1 hr hm => by
        obtain ⟨k0, k2, k3, k6, _⟩ := hr.job.cells
        obtain ⟨_, _, _, _, kg, km⟩ := hre w (Below.refl _ _)
        exact ⟨k0, k3, k6, (hm.cell (p := ⟨g, o, none⟩) (World.block_lt_of_cell? _ _ kg) (h.ap g o ha)).trans kg, (hm.cell (p := ⟨mp, n, none⟩) (lt_of_some h.shelf.blk) h.not.2).trans km⟩
      subst ha
      clear h hre hl hv hhd c0 c3 c6 c7 c73 f73
      generalize hRR : linkS s (n : Int) j.file = R at HLK hR0 HKR ⊢
      generalize (qs n).p = ip at HLK qm HRE HKR
      generalize j.l.length = ln at q6 HRE hln hlen HKR
      generalize j.file = fl at q3 HLK HRE HKR
      have n0 : (0 : Int) ≤ (n : Int) := by omega
      have n5 : (n : Int) < 5 := by omega
      have gk : (j.kind == 2) = true := by simpa using h2
      by_cases hf : R.2 = 0
      · rw [if_neg (fun e => e.2.2 hf)]
        rw [hf] at HLK
        rw [hf]
        clear hR0
        go_enter Tryz.func60, Tryz.ntmps60
        go_wp2
        go_region_held3 (fun W => W.cell? ⟨xp, 0, none⟩ = some (.pointer (some ⟨mp, 0, none⟩)) ∧ W.cell? ⟨xp, 3, none⟩ = some (.int .i64 fl) ∧ W.cell? ⟨xp, 6, none⟩ = some (.slice (some ⟨g, o, none⟩) ln cap) ∧ W.cell? ⟨g, o, none⟩ = some (.int .i64 (n : Int)) ∧ W.cell? ⟨mp, n, none⟩ = some (.pointer (some ⟨ip, 0, none⟩)))
          (first | (exact ⟨q0, q3, q6, qg, qm⟩) | assumption)
          (first
            | (go_at_call 129; refine (HLK.out _ HBD.out).mono ?_; rintro e w1 ⟨rfl, qs1, hr1, hm1⟩; have hS1 : w1.cell? ⟨xp, 0, none⟩ = some (.pointer (some ⟨mp, 0, none⟩)) ∧ w1.cell? ⟨xp, 3, none⟩ = some (.int .i64 fl) ∧ w1.cell? ⟨xp, 6, none⟩ = some (.slice (some ⟨g, o, none⟩) ln cap) ∧ w1.cell? ⟨g, o, none⟩ = some (.int .i64 (n : Int)) ∧ w1.cell? ⟨mp, n, none⟩ = some (.pointer (some ⟨ip, 0, none⟩)) := HKR.out _ _ hr1 hm1))
        have HD : Hid (DDid mp xp (some ⟨g, o, none⟩) cap qs s R.1 (m + 10) C j w w1) := ⟨qs1, hr1, hm1⟩
        clear hr1 hm1 hS1
        go_wp2
        go_ret
        exact ⟨rfl, HD.out⟩
      · rw [if_pos ⟨h3, h2, hf⟩]
        have gf : decide (0 < R.2) = true := decide_eq_true (by omega)
        go_enter Tryz.func60, Tryz.ntmps60
        go_wp2
        go_region_held3 (fun W => W.cell? ⟨xp, 0, none⟩ = some (.pointer (some ⟨mp, 0, none⟩)) ∧ W.cell? ⟨xp, 3, none⟩ = some (.int .i64 fl) ∧ W.cell? ⟨xp, 6, none⟩ = some (.slice (some ⟨g, o, none⟩) ln cap) ∧ W.cell? ⟨g, o, none⟩ = some (.int .i64 (n : Int)) ∧ W.cell? ⟨mp, n, none⟩ = some (.pointer (some ⟨ip, 0, none⟩)))
          (first | (exact ⟨q0, q3, q6, qg, qm⟩) | assumption)
          (first
            | (go_at_call 129; refine (HLK.out _ HBD.out).mono ?_; rintro e w1 ⟨rfl, qs1, hr1, hm1⟩; have hS1 : w1.cell? ⟨xp, 0, none⟩ = some (.pointer (some ⟨mp, 0, none⟩)) ∧ w1.cell? ⟨xp, 3, none⟩ = some (.int .i64 fl) ∧ w1.cell? ⟨xp, 6, none⟩ = some (.slice (some ⟨g, o, none⟩) ln cap) ∧ w1.cell? ⟨g, o, none⟩ = some (.int .i64 (n : Int)) ∧ w1.cell? ⟨mp, n, none⟩ = some (.pointer (some ⟨ip, 0, none⟩)) := HKR.out _ _ hr1 hm1))
        have HD : Hid (DDid mp xp (some ⟨g, o, none⟩) cap qs s R.1 (m + 10) C (j.at 5) w (w1.setCell ⟨xp, 74, none⟩ (.int .i64 5))) := by
          obtain ⟨p2, m2⟩ := hr1.set74 5
          refine ⟨qs1, ?_, hm1.trans m2⟩
          rw [j.at_state (by decide)]
          exact p2.staged (.inr (.inr (.inr rfl)))
        obtain ⟨_, _, _, _, _, _, d74, _, d75⟩ := hr1.job.cells
        clear hr1 hm1 hS1
        go_wp2
        go_ret
        exact ⟨rfl, HD.out⟩
    · rw [if_pos h3, if_pos h3, if_neg h2, if_neg h2, if_neg (fun e => h2 e.2.1)]
      have gk : (j.kind == 2) = false := by simpa using h2
      have HWK := toHid (rwalk_any j.file w.drew (h.shelf.below HBD.out))
      have HC : Hid (∀ W : World, Below w.heap.size w W → W.cell? ⟨xp, 0, none⟩ = some (.pointer (some ⟨mp, 0, none⟩)) ∧ W.cell? ⟨xp, 3, none⟩ = some (.int .i64 j.file)) := fun W hb => by
        obtain ⟨c0, c2, c3, _⟩ := (h.below hb).job.cells
        exact ⟨c0, c3⟩
      obtain ⟨hg, hl5, hf0, _⟩ := s.walk_good j.file
      have HG := toHid hg
      have d0 : w.drew.cell? ⟨xp, 0, none⟩ = some (.pointer (some ⟨mp, 0, none⟩)) := c0
      have d3 : w.drew.cell? ⟨xp, 3, none⟩ = some (.int .i64 j.file) := c3
      generalize s.rootC j.file = rc at HG
      generalize s.walk j.file = R at HWK HG hl5 hf0 ⊢
      obtain ⟨l, f⟩ := R
      simp only at HWK HG hl5 hf0 ⊢
      obtain ⟨F, hF⟩ := fls s l
      have HFS := toHid hF
      rw [← hF.all]
      clear hF h hg h2 c6 c7 c73 f73
      generalize j.file = fl at c3 d3 HC HWK
      generalize j.kind = kd at c2 gk
      generalize hln : l.length = ln at HWK hl5 ⊢
      go_enter Tryz.func60, Tryz.ntmps60
      go_wp2
      go_region_held3 (fun W => W.cell? ⟨xp, 0, none⟩ = some (.pointer (some ⟨mp, 0, none⟩)) ∧ W.cell? ⟨xp, 3, none⟩ = some (.int .i64 fl))
        (first | (exact ⟨d0, d3⟩) | assumption)
        (first
          | (go_at_call 10; refine HWK.out.mono ?_; rintro e w1 ⟨b, bc, rfl, hn1, ha1, hb1⟩; have HB1 := toHid (HBD.out.trans (hb1.mono HBD.out.size)); have hS1 := HC.out _ HB1.out))
      have HF0 : Hid (Rl w mp xp a cap qs s m C j j.state b l (F 0) w1 qs) := by
        unfold Hid
        rw [HFS.out.zero]
        exact ⟨HP.out.below HB1.out, Moved.of_below HB1.out, hn1, fun g o e hf => by
          have h1 := HP.out.fpLt hf
          have h2 := (ha1 g o e).1
          have h3 : w.heap.size ≤ g := h2
          omega⟩
      clear hn1 ha1 hb1 hS1 HWK d0 d3 HP HC HB1 HBD c0 c3 c2 c74 f74 HD0
      go_wp2
      go_loopw [6] (fun i wr => ∃ (k : Nat) (ys : Nat → Qh), k ≤ ln ∧ i = .int .i64 (k : Int) ∧ Rl w mp xp a cap qs s m C j j.state b l (F k) wr ys) (fun i _ => ln - (intOf i).toNat)
      case atStart => exact ⟨0, qs, Nat.zero_le _, rfl, HF0.out⟩
      case round =>
        clear HF0
        obtain ⟨k, ys, hk, rfl, hF⟩ := hrel
        have HF := toHid hF
        by_cases hlt : k < ln
        · have hkl : k < l.length := by omega
          obtain ⟨g, o, hb, hcn⟩ := hF.n k hkl
          subst hb
          obtain ⟨v0, hv0, _⟩ := HG.out (l.getD k 0) (by rw [List.getD_eq_getElem?_getD, List.getElem?_eq_getElem hkl]; exact List.getElem_mem hkl)
          obtain ⟨v, hv, _⟩ := (HFS.out.alike k).head _ _ hv0
          have hcell := hF.p.shelf.cellF hv
          obtain ⟨n0, n5, _⟩ := SV.file_of hv
          have HFL : Hid (∀ W : World, Below wr.heap.size wr W → Calls Tryz.prog 93 #[.pointer (some ⟨(ys (l.getD k 0).toNat).p, 0, none⟩)] W fun e w' => e = .returned (.tuple #[]) ∧ ∃ zs, IsRshelf w' mp zs ((F k).flush1 (l.getD k 0)) m ∧ Moved (fpQ ys (F k)) W (fpQ zs ((F k).flush1 (l.getD k 0))) w') := fun W hb => rflush_s W (hF.p.shelf.below hb) hv
          have HNX : Hid (F (k + 1) = (F k).flush1 (l.getD k 0)) := HFS.out.next k hkl
          obtain ⟨e0, _⟩ := hF.p.job.cells
          have HAL : Hid ((F k).alike ((F k).flush1 (l.getD k 0))) := SV.alike.flush1 _ _
          generalize l.getD k 0 = n at hcn hcell HFL HNX n0 n5 HAL
          obtain ⟨nk, rfl⟩ : ∃ nk : Nat, n = (nk : Int) := ⟨n.toNat, by omega⟩
          have hnk : ((nk : Int)).toNat = nk := by omega
          rw [hnk] at hcell HFL
          generalize (ys nk).p = ip at hcell HFL
          have k0 : (0 : Int) ≤ (k : Int) := by omega
          have k1 : (k : Int) < (ln : Int) := by omega
          have k2 : decide ((k : Int) < (ln : Int)) = true := decide_eq_true k1
          have k3 : (nk : Int) < 5 := by omega
          have HBW : Hid (Below wr.heap.size wr wr.drew) := (Below.refl _ _).drew
          have d0 : wr.drew.cell? ⟨xp, 0, none⟩ = some (.pointer (some ⟨mp, 0, none⟩)) := e0
          have dn : wr.drew.cell? ⟨g, o + k, none⟩ = some (.int .i64 (nk : Int)) := hcn
          have dm : wr.drew.cell? ⟨mp, nk, none⟩ = some (.pointer (some ⟨ip, 0, none⟩)) := hcell
          have HNW : Hid (∀ (W w2 : World) (zs : Nat → Qh), Below wr.heap.size wr W → IsRshelf w2 mp zs ((F k).flush1 (nk : Int)) m → Moved (fpQ ys (F k)) W (fpQ zs ((F k).flush1 (nk : Int))) w2 → Rl w mp xp a cap qs s m C j j.state (some ⟨g, o, none⟩) l (F (k + 1)) w2 zs ∧ w2.cell? ⟨xp, 0, none⟩ = some (.pointer (some ⟨mp, 0, none⟩)) ∧ w2.cell? ⟨g, o + k, none⟩ = some (.int .i64 (nk : Int)) ∧ w2.cell? ⟨mp, nk, none⟩ = some (.pointer (some ⟨ip, 0, none⟩))) := fun W w2 zs hbw h1 h2 => by
            obtain ⟨h3, h4⟩ := (HF.out.p.below hbw).acted h1 h2 HAL.out
            have hne : l ≠ [] := by intro e; subst e; simp at hln; omega
            have hM := (Moved.of_below (S := fpR ys (F k) xp) hbw).trans h4
            exact ⟨⟨by rw [HNX.out]; exact h3, by rw [HNX.out]; exact HF.out.m.trans hM, HF.out.n.moved hM HF.out.ap, by rw [HNX.out]; exact HF.out.ap.moved HF.out.n hne hM⟩, h3.job.cells.1, (hM.cell (p := ⟨g, o + k, none⟩) (World.block_lt_of_cell? _ _ hcn) (HF.out.ap g o rfl)).trans hcn, (hM.cell (p := ⟨mp, nk, none⟩) (lt_of_some HF.out.p.shelf.blk) HF.out.p.not.2).trans hcell⟩
          clear hF hv hv0 hkl hcell hcn
          go_wp2
          go_region_held3 (fun W => W.cell? ⟨xp, 0, none⟩ = some (.pointer (some ⟨mp, 0, none⟩)) ∧ W.cell? ⟨g, o + k, none⟩ = some (.int .i64 (nk : Int)) ∧ W.cell? ⟨mp, nk, none⟩ = some (.pointer (some ⟨ip, 0, none⟩)))
            (first | (exact ⟨d0, dn, dm⟩) | assumption)
            (first
              | (go_at_call 93; refine (HFL.out _ HBW.out).mono ?_; rintro e w2 ⟨rfl, zs, h1, h2⟩; have hNN := HNW.out _ _ _ HBW.out h1 h2; have hS2 := hNN.2; have HN2 := toHid hNN.1; clear hNN h1 h2))
          clear hS2
          clear HFL HNX HAL HF HNW
          go_wp2
          go_roundw
          case rel =>
            have fin : ∃ (k1 : Nat) (ys : Nat → Qh), k1 ≤ ln ∧ Value.int .i64 ((k : Int) + 1) = .int .i64 (k1 : Int) ∧ Rl w mp xp a cap qs s m C j j.state (some ⟨g, o, none⟩) l (F k1) w2 ys := ⟨k + 1, zs, by omega, by go_num, HN2.out⟩
            first | exact fin | ((repeat apply Exists.intro); exact ⟨fin, rfl⟩)
          case measure => simp [intOf]; omega
        · have hke : k = l.length := by omega
          have HD : Hid (DDid mp xp a cap qs s (F ln) (m + 10) C j w wr) := by
            have h1 := hF.p
            have h2 := hF.m
            rw [hke, hln] at h1 h2
            exact ⟨ys, h1.more (by omega), h2⟩
          have k2 : decide ((k : Int) < (ln : Int)) = false := decide_eq_false (by omega)
          clear hF HF
          go_wp2
          go_ret
          exact ⟨rfl, HD.out⟩
  · have g3 : (j.state != 3) = true := by simpa using h3
    rw [if_neg h3, if_neg h3, if_neg (fun e => h3 e.1)]
    clear h h3 HP
    generalize j.state = st at c74 g3
    go_enter Tryz.func60, Tryz.ntmps60
    go_wp2
    go_ret
    exact ⟨rfl, HD0.out⟩
end Go.Proofs.YtjegaljdindfaabGreatDoor
