/-
An act's own box, and worlds that part in what they drew alone.
Two shelves, and a list of files over both; a step that both take.
Put and Wipe of a range (G3).
-/
import Derived.Test.YtjegaljdindfaabGreatDoorQRefWalks
import Derived.Test.YtjegaljdindfaabGreatDoorQLawCluster
import Derived.Test.YtjegaljdindfaabGreatDoorQChainLaws
import Derived.Test.YtjegaljdindfaabGreatDoorQRchPut2
import Derived.Test.YtjegaljdindfaabGreatDoorQChainPut
namespace Go.Proofs.YtjegaljdindfaabGreatDoor
open Go.RowKit Go.Maps

/- Two worlds that part in what they drew alone. -/
structure Alike (a b : World) : Prop where
  heap : b.heap = a.heap
  os : b.os = a.os
  tape : b.tape = a.tape
  output : b.output = a.output

theorem Alike.below {a b : World} (h : Alike a b) : Below a.heap.size a b := Kept.below (S := fun _ => False) ⟨h.os, h.tape, h.output, by rw [h.heap]; exact Nat.le_refl _, fun k _ _ => by rw [h.heap]⟩ (Nat.le_refl _) (fun _ => False.elim)

def actBox (a : ActV) : Obj := .cells #[.string a.kind, .int .i64 a.a, .int .i64 a.b, .int .i64 a.c, .int .i64 a.d, .string a.s, .slice a.ka a.kl a.kc] 43 (0, 0)

structure ActAt (w : World) (N : Nat) (a : ActV) : Prop where
  blk : w.heap[N]? = some (actBox a)

theorem ActAt.cells {w : World} {N : Nat} {a : ActV} (h : ActAt w N a) : w.cell? ⟨N, 1, none⟩ = some (.int .i64 a.a) ∧ w.cell? ⟨N, 2, none⟩ = some (.int .i64 a.b) ∧ w.cell? ⟨N, 5, none⟩ = some (.string a.s) := by
  refine ⟨?_, ?_, ?_⟩ <;> (rw [cell_of_row _ _ _ _ _ _ h.blk]; rfl)
theorem Alike.after {c a b : World} (h : Below c.heap.size c a) (hA : Alike a b) : Below c.heap.size c b := h.trans (hA.below.mono h.size)
theorem Alike.then_ {a b c : World} (h : Below b.heap.size b c) (hA : Alike a b) : Below a.heap.size a c := hA.below.trans (h.mono hA.below.size)
theorem Alike.far {c a b d : World} (h : Below c.heap.size c a) (h2 : Below b.heap.size b d) (hA : Alike a b) : Below c.heap.size c d := (Alike.after h hA).trans (h2.mono (Alike.after h hA).size)
end Go.Proofs.YtjegaljdindfaabGreatDoor

namespace Go.Proofs.YtjegaljdindfaabGreatDoor
open Go.RowKit Go.Maps

structure Yoke (B : Nat) (w0 w : World) (sp mp : Nat) (xs : Nat → Ih) (qs : Nat → Qh) (s : SV) (m : Nat) (a : Option Addr) (l : List Int) (C : Nat) : Prop where
  lay : Lay B w0 w sp mp xs qs s m
  nums : Nums w a l
  apS : Apart a (fpS xs s)
  apQ : Apart a (fpQ qs s)
  lt : ∀ g o, a = some ⟨g, o, none⟩ → g < w.heap.size
  good : s.good (C : Int) l
  len : l.length ≤ 100
  cc : C ≤ 40

theorem Yoke.below {B m C : Nat} {w0 w w' : World} {sp mp : Nat} {xs : Nat → Ih} {qs : Nat → Qh} {s : SV} {a : Option Addr} {l : List Int} (h : Yoke B w0 w sp mp xs qs s m a l C) (hb : Below w.heap.size w w') : Yoke B w0 w' sp mp xs qs s m a l C :=
  ⟨h.lay.below hb, h.nums.below hb, h.apS, h.apQ, fun g o e => Nat.lt_of_lt_of_le (h.lt g o e) hb.size, h.good, h.len, h.cc⟩

theorem Yoke.more {B m m' C : Nat} {w0 w : World} {sp mp : Nat} {xs : Nat → Ih} {qs : Nat → Qh} {s : SV} {a : Option Addr} {l : List Int} (h : Yoke B w0 w sp mp xs qs s m a l C) (hm : m ≤ m') : Yoke B w0 w sp mp xs qs s m' a l C :=
  ⟨h.lay.more hm, h.nums, h.apS, h.apQ, h.lt, h.good, h.len, h.cc⟩

def Yoked (B : Nat) (w0 : World) (sp mp m : Nat) (a : Option Addr) (l : List Int) (C : Nat) (w : World) : Prop := ∃ xs qs s, Yoke B w0 w sp mp xs qs s m a l C

theorem yoke_step {B m m' C : Nat} {w0 w : World} {sp mp : Nat} {xs : Nat → Ih} {qs : Nat → Qh} {s : SV} {a : Option Addr} {l : List Int} {R : SV × Int} {fp fr : Nat} {ap ar : Array Value} (h : Yoke B w0 w sp mp xs qs s m a l C) (hR : R.1.good (C : Int) l) (x : ActV)
    (HP : ∀ W : World, IsShelf W sp xs s m → Nums W a l → Calls Tryz.prog fp ap W (SDid W sp xs s m' R))
    (HR : ∀ W : World, IsRshelf W mp qs s m → Nums W a l → Calls Tryz.prog fr ar W (RDid W mp qs s m' R)) :
    ∀ W' : World, Below (w.alloc (actBox x)).heap.size (w.alloc (actBox x)) W' → Calls Tryz.prog fp ap W' fun e w1 => e = .returned (erV R.2) ∧ ActAt w1 w.heap.size x ∧
      ∀ W'' : World, Below w1.heap.size w1 W'' → Calls Tryz.prog fr ar W'' fun e w2 => e = .returned (.int .i64 R.2) ∧ ActAt w2 w.heap.size x ∧
        ∀ W3 : World, Below w2.heap.size w2 W3 → Yoked B w0 sp mp m' a l C W3 := by
  intro W' hS
  have hba : Below w.heap.size w (w.alloc (actBox x)) := (Below.refl _ _).alloc (Nat.le_refl _) _
  have hbw : Below w.heap.size w W' := hba.trans (hS.mono hba.size)
  have p1 := h.below hbw
  have hlt : w.heap.size < (w.alloc (actBox x)).heap.size := by simp
  have hblk : W'.heap[w.heap.size]? = some (actBox x) := by rw [hS.block _ hlt]; exact heap_alloc_new w _
  have hlt1 : w.heap.size < W'.heap.size := Nat.lt_of_lt_of_le hlt hS.size
  refine (HP W' p1.lay.prog p1.nums).mono ?_
  rintro e w1 ⟨xs', rfl, hi1, hm1⟩
  have hnS : ¬ fpS xs s w.heap.size := fun hf => absurd (h.lay.prog.fpLt hf) (Nat.lt_irrefl _)
  have hnQ : ¬ fpQ qs s w.heap.size := fun hf => absurd (h.lay.ref.fpLt hf) (Nat.lt_irrefl _)
  have a1 : ActAt w1 w.heap.size x := ⟨by rw [hm1.block hlt1 hnS]; exact hblk⟩
  refine ⟨rfl, a1, fun W'' hS2 => ?_⟩
  have hmid := (p1.lay.prog_acts hi1 hm1).below hS2
  have hn2 : Nums W'' a l := (p1.nums.moved hm1 p1.apS).below hS2
  have hlt2 : w.heap.size < W''.heap.size := Nat.lt_of_lt_of_le hlt1 (Nat.le_trans hm1.size hS2.size)
  refine (HR W'' hmid.ref hn2).mono ?_
  rintro e w2 ⟨qs', rfl, hr2, hm2⟩
  have hblk2 : W''.heap[w.heap.size]? = some (actBox x) := by rw [hS2.block _ (Nat.lt_of_lt_of_le hlt1 hm1.size)]; exact a1.blk
  refine ⟨rfl, ⟨by rw [hm2.block hlt2 hnQ]; exact hblk2⟩, fun W3 hS3 => ?_⟩
  have hl3 := (hmid.ref_acts hr2 hm2).below hS3
  refine ⟨xs', qs', R.1, hl3, (hn2.moved hm2 h.apQ).below hS3, fun g o e => hm1.out (p1.lt g o e) (h.apS g o e), fun g o e => hm2.out (Nat.lt_of_lt_of_le (p1.lt g o e) (Nat.le_trans hm1.size hS2.size)) (h.apQ g o e), fun g o e => ?_, hR, h.len, h.cc⟩
  exact Nat.lt_of_lt_of_le (p1.lt g o e) (Nat.le_trans hm1.size (Nat.le_trans hS2.size (Nat.le_trans hm2.size hS3.size)))

/- No fault is below 0. -/
theorem chkF_zero (s : SV) (l : List Int) (fr n : Int) : 0 ≤ s.chkF l fr n := by
  by_cases h : s.chkF l fr n = 0
  · rw [h]; exact Int.le_refl _
  · exact Int.le_of_lt (chkF_pos h)

theorem goPts_pos {op : SV → Pt → SV × Int} (hop : ∀ (s : SV) p, 0 ≤ (op s p).2) : ∀ (P : List Pt) (s : SV), 0 ≤ (goPts op s P).2 := by
  intro P
  induction P with
  | nil => intro s; exact Int.le_refl _
  | cons p r ih =>
    intro s
    rw [goPts_cons]
    split
    · exact ih _
    · exact hop _ _

theorem SV.put_pos (s : SV) (l : List Int) (fr : Int) (t : ByteArray) : 0 ≤ (s.put l fr t).2 := by
  unfold SV.put
  split
  · split
    · exact goPts_pos (fun s p => lay_pos _ _ _ _ _) _ _
    · exact chkF_zero _ _ _ _
  · show (0 : Int) ≤ 1
    decide

theorem SV.wipe_pos (s : SV) (l : List Int) (fr n : Int) : 0 ≤ (s.wipe l fr n).2 := by
  unfold SV.wipe
  split
  · exact goPts_pos (fun s p => wipePt_pos _ _ _) _ _
  · exact chkF_zero _ _ _ _

theorem SV.move_pos (s : SV) (n c : Int) (t : ByteArray) : 0 ≤ (s.move n c t).2 := by
  unfold SV.move
  split
  · show (0 : Int) ≤ 4
    decide
  · split
    · exact clearF_pos _ _
    · split
      · exact writeF_pos _ _ _ _
      · exact fillF_pos _ _ _

theorem SV.read_pos (s : SV) (l : List Int) (c : Int) : 0 ≤ (s.read l c).2 := by
  unfold SV.read
  split
  · show (0 : Int) ≤ 4
    decide
  · split
    · split
      · exact Int.le_refl _
      · show 0 ≤ IV.readF _ _
        unfold IV.readF
        split <;> (try split) <;> (try split) <;> decide
    · show (0 : Int) ≤ 1
      decide
end Go.Proofs.YtjegaljdindfaabGreatDoor

namespace Go.Proofs.YtjegaljdindfaabGreatDoor
open Go.RowKit Go.Maps
attribute [local go_sem ↓] Go.wp_at_zero Go.wp_at_succ

theorem ptsV_at (l : List Pt) (i : Nat) (h : i < l.length) : (ptsV l)[i * 4]? = some (.int .i64 (l[i].c : Int)) ∧ (ptsV l)[i * 4 + 1]? = some (.int .i64 (l[i].f : Int)) ∧ (ptsV l)[i * 4 + 2]? = some (.int .i64 (l[i].n : Int)) ∧ (ptsV l)[i * 4 + 3]? = some (.int .i64 (l[i].a : Int)) := by
  induction l generalizing i with
  | nil => cases h
  | cons p l ih =>
    have e : ptsV (p :: l) = .int .i64 (p.c : Int) :: .int .i64 (p.f : Int) :: .int .i64 (p.n : Int) :: .int .i64 (p.a : Int) :: ptsV l := rfl
    rw [e]
    cases i with
    | zero => exact ⟨rfl, rfl, rfl, rfl⟩
    | succ i =>
      have := ih i (by simpa using h)
      rw [show (i + 1) * 4 = i * 4 + 1 + 1 + 1 + 1 by omega]
      simpa using this

/- The parts of a range, as they lie. -/
structure PtsAt (w : World) (g cap : Nat) (P : List Pt) : Prop where
  own : w.ownsRow 0 156 4 (.slice (some ⟨g, 0, none⟩) P.length cap) P.length (ptsV P)

theorem PtsAt.cells {w : World} {g cap : Nat} {P : List Pt} (h : PtsAt w g cap P) {i : Nat} (hi : i < P.length) :
    w.cell? ⟨g, i * 4, none⟩ = some (.int .i64 (P[i].c : Int)) ∧ w.cell? ⟨g, i * 4 + 1, none⟩ = some (.int .i64 (P[i].f : Int)) ∧ w.cell? ⟨g, i * 4 + 2, none⟩ = some (.int .i64 (P[i].n : Int)) ∧ w.cell? ⟨g, i * 4 + 3, none⟩ = some (.int .i64 (P[i].a : Int)) := by
  obtain ⟨h0, h1, h2, h3⟩ := ptsV_at P i hi
  refine ⟨?_, ?_, ?_, ?_⟩
  · rw [h.own.cellAt (i * 4) (by omega)]; exact h0
  · rw [h.own.cellAt (i * 4 + 1) (by omega)]; exact h1
  · rw [h.own.cellAt (i * 4 + 2) (by omega)]; exact h2
  · rw [h.own.cellAt (i * 4 + 3) (by omega)]; exact h3

theorem pts_form {w : World} {B n cap : Nat} {a : Option Addr} {P : List Pt} (ho : w.ownsRow B 156 4 (.slice a n cap) n (ptsV P)) (hn : P.length = n) (h0 : 0 < n) : ∃ g, a = some ⟨g, 0, none⟩ ∧ B ≤ g ∧ g < w.heap.size ∧ PtsAt w g cap P := by
  obtain ⟨g, c2, hv, hb, hg⟩ := ho.form h0
  injection hv with e1 e2 e3
  subst e1
  subst hn
  exact ⟨g, rfl, hb, hg, ⟨ownsRow_base ho (Nat.zero_le _)⟩⟩

structure PutAt (w1 : World) (sp : Nat) (xs : Nat → Ih) (s : SV) (m : Nat) (C : Int) (l : List Int) (op : SV → Pt → SV × Int) (P : List Pt) (R : SV × Int) (i : Nat) (ys : Nat → Ih) (z : SV) (wr : World) : Prop where
  shelf : IsShelf wr sp ys z (m + 10 * i)
  good : z.good C l
  go : goPts op z (P.drop i) = R
  moved : Moved (fpS xs s) w1 (fpS ys z) wr

/- One part more. -/
theorem PutAt.step {w1 wr W w2 : World} {sp m i : Nat} {xs ys : Nat → Ih} {s z : SV} {C : Int} {l : List Int} {op : SV → Pt → SV × Int} {P : List Pt} {R : SV × Int} {e : Ending} (h : PutAt w1 sp xs s m C l op P R i ys z wr) (hb : Below wr.heap.size wr W) (hi : i < P.length) (hop : ∀ (s : SV) p, s.good C l → (op s p).1.good C l) (hd : SDid W sp ys z (m + 10 * i + 10) (op z P[i]) e w2) (h0 : (op z P[i]).2 = 0) :
    ∃ ys' z', PutAt w1 sp xs s m C l op P R (i + 1) ys' z' w2 := by
  obtain ⟨ys', h1, h2, h3⟩ := hd
  refine ⟨ys', (op z P[i]).1, ⟨by rw [show m + 10 * (i + 1) = m + 10 * i + 10 by omega]; exact h2, hop _ _ h.good, ?_, h.moved.trans ((Moved.of_below hb).trans h3)⟩⟩
  have := h.go
  rw [drop_pt hi, goPts_cons, if_pos h0] at this
  exact this

theorem PutAt.stop {w1 wr W w2 : World} {sp m i M : Nat} {xs ys : Nat → Ih} {s z : SV} {C : Int} {l : List Int} {op : SV → Pt → SV × Int} {P : List Pt} {R : SV × Int} {e : Ending} (h : PutAt w1 sp xs s m C l op P R i ys z wr) (hb : Below wr.heap.size wr W) (hi : i < P.length) (hM : m + 10 * i + 10 ≤ M) (hd : SDid W sp ys z (m + 10 * i + 10) (op z P[i]) e w2) (h0 : (op z P[i]).2 ≠ 0) :
    R = op z P[i] ∧ SDid w1 sp xs s M R e w2 := by
  have hR : R = op z P[i] := by
    have := h.go
    rw [drop_pt hi, goPts_cons, if_neg h0] at this
    exact this.symm
  obtain ⟨ys', h1, h2, h3⟩ := hd
  rw [hR]
  exact ⟨rfl, ys', h1, h2.more hM, h.moved.trans ((Moved.of_below hb).trans h3)⟩

theorem PutAt.fin {w1 wr : World} {sp m M : Nat} {xs ys : Nat → Ih} {s z : SV} {C : Int} {l : List Int} {op : SV → Pt → SV × Int} {P : List Pt} {R : SV × Int} {i : Nat} (h : PutAt w1 sp xs s m C l op P R i ys z wr) (hi : i = P.length) (hM : m + 10 * i ≤ M) : SDid w1 sp xs s M R (.returned .nilIface) wr := by
  have hR := h.go
  rw [hi, List.drop_length] at hR
  have hR' : R = (z, 0) := hR.symm
  rw [hR', ← erV_0]
  exact ⟨ys, rfl, h.shelf.more hM, h.moved⟩

set_option maxRecDepth 100000 in
set_option maxHeartbeats 2000000 in
theorem cwipe_any {sp m cap C : Nat} {xs : Nat → Ih} {s : SV} {a : Option Addr} (l : List Int) (fr n : Int) (w : World) (h : IsShelf w sp xs s m) (hl : Nums w a l) (hg : s.good (C : Int) l) (h5 : l.length ≤ 100) (hC : C ≤ 40) (ha : Apart a (fpS xs s)) (hm : m + 3000 < 1000000000) (hfr : -9223372036854775808 ≤ fr ∧ fr ≤ 9223372036854775807) :
    Calls Tryz.prog 37 #[.pointer (some ⟨sp, 0, none⟩), .slice a l.length cap, .int .i64 fr, .int .i64 n] w (SDid w sp xs s (m + 2000) (s.wipe l fr n)) := by
  have HCK := toHid (check_any (cap := cap) l fr n w h hl hg (by omega) hfr)
  by_cases hF : s.chkF l fr n = 0
  · obtain ⟨h0, n0, n1, n2⟩ := SV.chk_ok hg hF
    obtain ⟨f, rfl⟩ : ∃ f : Nat, fr = (f : Int) := ⟨fr.toNat, by omega⟩
    obtain ⟨k, rfl⟩ : ∃ k : Nat, n = (k : Int) := ⟨n.toNat, by omega⟩
    have HR : Hid (s.wipe l (f : Int) (k : Int) = goPts (SV.wipePt l) s (ptsFrom f k 0)) := by unfold Hid SV.wipe; rw [if_pos hF]; rfl
    rw [hF, erV_0] at HCK
    have HPA := toHid (fun W => parts_any f k W (by omega))
    have HFI : Hid (∀ p ∈ ptsFrom f k 0, p.fits f k C) := ptsFrom_fits (by omega) k 0 (by omega)
    have hPL := ptsFrom_len f k k 0 (by omega)
    generalize ptsFrom f k 0 = P at HR HPA HFI hPL
    generalize s.wipe l (f : Int) (k : Int) = R at HR ⊢
    have HOP : Hid (∀ (s : SV) p, s.good (C : Int) l → (SV.wipePt l s p).1.good (C : Int) l) := fun s p hg => hg.wipePt l p
    have HWP : Hid (∀ (W w1 wr : World) (ys : Nat → Ih) (z : SV) (i : Nat) (hi : i < P.length), Below w.heap.size w w1 → PutAt w1 sp xs s m (C : Int) l (SV.wipePt l) P R i ys z wr → Below wr.heap.size wr W →
        Calls Tryz.prog 100 #[.pointer (some ⟨sp, 0, none⟩), .slice a l.length cap, .agg #[.int .i64 (P[i].c : Int), .int .i64 (P[i].f : Int), .int .i64 (P[i].n : Int), .int .i64 (P[i].a : Int)]] W (SDid W sp ys z (m + 10 * i + 10) (SV.wipePt l z P[i]))) := fun W w1 wr ys z i hi hb1 hp hb => by
      have hfi := HFI.out P[i] (List.getElem_mem hi)
      have hnu : Nums W a l := ((hl.below hb1).moved hp.moved (fun g o e => ha g o e)).below hb
      cases l with
      | nil => exact absurd rfl h0
      | cons x r => exact wipePart_any x r P[i].c P[i].f P[i].n P[i].a W (hp.shelf.below hb) hnu hp.good h5 (by omega) hfi.n4 (by have := hfi.c; omega)
    have HST : Hid (∀ w1 : World, Below w.heap.size w w1 → PutAt w1 sp xs s m (C : Int) l (SV.wipePt l) P R 0 xs s w1) := fun w1 hb => ⟨h.below hb, hg, HR.out.symm, Moved.refl _ _⟩
    have HKP : Hid (∀ k, w.heap.size ≤ k → ¬ fpS xs s k) := fun k hk hs => by have := h.fpLt hs; omega
    have HFR : Hid (∀ (w1 w' : World) (R : SV × Int) (e : Ending), Below w.heap.size w w1 → SDid w1 sp xs s (m + 2000) R e w' → SDid w sp xs s (m + 2000) R e w') := fun w1 w' R e hb hd => hd.from hb
    generalize hq : l.length = q at HCK HWP ⊢
    clear h hl hg ha hF hq HFI
    go_enter Tryz.func37, Tryz.ntmps37
    go_wp2_with fail
    refine HCK.out.mono ?_
    rintro e wA ⟨rfl, hbA⟩
    have HBA := toHid hbA
    clear hbA HCK
    go_wp2_with fail
    refine (HPA.out wA).mono ?_
    rintro e w1 ⟨pa, pcap, rfl, hpo, hb1⟩
    have HB1 := toHid (HBA.out.trans (hb1.mono HBA.out.size))
    have HPO : Hid (w1.ownsRow w.heap.size 156 4 (.slice pa P.length pcap) P.length (ptsV P)) := ownsRow_base hpo HBA.out.size
    have HS1 := toHid (HST.out w1 HB1.out)
    clear hpo hb1 HPA HST
    have HRN : Hid ((P.length : Int) ≤ 1000) := by unfold Hid; omega
    generalize hPn : P.length = N at hPL HRN HPO ⊢
    have HPN := toHid hPn
    clear hPn
    go_wp2
    go_loopw [25] (fun i wr => ∃ (k : Nat) (ys : Nat → Ih) (z : SV), k ≤ N ∧ i = .int .i64 (k : Int) ∧ PutAt w1 sp xs s m (C : Int) l (SV.wipePt l) P R k ys z wr) (fun i _ => N - (intOf i).toNat)
    case atStart => exact ⟨0, xs, s, Nat.zero_le _, rfl, HS1.out⟩
    case round =>
      obtain ⟨i, ys, z, hiN, rfl, hp⟩ := hrel
      by_cases hlt : i < N
      · have hi : i < P.length := by rw [HPN.out]; exact hlt
        obtain ⟨g, rfl, hgB, hgl, hpt⟩ := pts_form HPO.out HPN.out (by omega)
        have hgk : wr.heap[g]? = w1.heap[g]? := hp.moved.block hgl (HKP.out g hgB)
        have hpw : PtsAt wr g pcap P := ⟨ownsRow_keep hpt.own fun r e => by
          have : g = r := by simpa [Value.ownBlock] using e
          subst this; exact hgk⟩
        obtain ⟨c0, c1, c2, c3⟩ := hpw.cells hi
        have HWI := toHid (fun W hb => HWP.out W w1 wr ys z i hi HB1.out hp hb)
        have HP := toHid hp
        have HII := toHid hi
        have HGO : Hid (∀ W e w2, Below wr.heap.size wr W → SDid W sp ys z (m + 10 * i + 10) (SV.wipePt l z P[i]) e w2 → (SV.wipePt l z P[i]).2 = 0 → ∃ ys' z', PutAt w1 sp xs s m (C : Int) l (SV.wipePt l) P R (i + 1) ys' z' w2) := fun W e w2 hb hd h0 => hp.step hb hi HOP.out hd h0
        have HSP : Hid (∀ W e w2, Below wr.heap.size wr W → SDid W sp ys z (m + 10 * i + 10) (SV.wipePt l z P[i]) e w2 → (SV.wipePt l z P[i]).2 ≠ 0 → R = SV.wipePt l z P[i] ∧ SDid w1 sp xs s (m + 2000) R e w2) := fun W e w2 hb hd h0 => hp.stop hb hi (by omega) hd h0
        have hgw : g < wr.heap.size := Nat.lt_of_lt_of_le hgl hp.moved.size
        clear hpw hpt hgk hp HWP
        generalize hpi : P[i] = p at c0 c1 c2 c3 HWI HGO HSP
        clear hpi hi
        generalize SV.wipePt l z p = Z at HWI HGO HSP
        obtain ⟨pc, pf, pn, pp⟩ := p
        simp only at c0 c1 c2 c3 HWI
        have k0 : (0 : Int) ≤ (i : Int) := by omega
        have k1 : (i : Int) < (N : Int) := by omega
        have k2 : ((i : Int)).toNat = i := by omega
        have HBN : Hid (Below wr.heap.size wr (wr.alloc (.cells #[.int .i64 (pc : Int), .int .i64 (pf : Int), .int .i64 (pn : Int), .int .i64 (pp : Int)] 156))) := (Below.refl _ _).alloc (Nat.le_refl _) _
        go_wp2_with fail
        refine (HWI.out _ HBN.out).mono ?_
        rintro e w2 hd
        have hd2 := hd
        obtain ⟨ys', rfl, _, _⟩ := hd2
        by_cases hz : Z.2 = 0
        · obtain ⟨ys2, z2, hp2⟩ := HGO.out _ _ _ HBN.out hd hz
          have HP2 := toHid hp2
          rw [hz, erV_0]
          clear hd hp2 hz
          go_wp2
          go_roundw
          case rel =>
            have fin : ∃ (k1 : Nat) (y1 : Nat → Ih) (z1 : SV), k1 ≤ N ∧ Value.int .i64 ((i : Int) + 1) = .int .i64 (k1 : Int) ∧ PutAt w1 sp xs s m (C : Int) l (SV.wipePt l) P R k1 y1 z1 w2 := ⟨i + 1, ys2, z2, by omega, by go_num, HP2.out⟩
            first | exact fin | ((repeat apply Exists.intro); exact ⟨fin, rfl⟩)
          case measure => simp [intOf]; omega
        · obtain ⟨hRZ, hsd⟩ := HSP.out _ _ _ HBN.out hd hz
          have HSD := toHid (HFR.out _ _ _ _ HB1.out hsd)
          have HE := toHid (erV_some hz)
          rw [erV_some hz] at HSD ⊢
          clear hd hsd hz
          go_wp2
          go_ret
          exact HSD.out
      · have hie : i = N := by omega
        have HD := toHid (HFR.out _ _ _ _ HB1.out (hp.fin (hie.trans HPN.out.symm) (M := m + 2000) (by omega)))
        subst hie
        clear hp
        go_wp2
        go_ret
        exact HD.out
  · have HR : Hid (s.wipe l fr n = (s, s.chkF l fr n)) := by unfold Hid SV.wipe; rw [if_neg hF]
    have HSM : Hid (∀ W : World, Below w.heap.size w W → SDid w sp xs s (m + 2000) (s, s.chkF l fr n) (.returned (erV (s.chkF l fr n))) W) := fun W hb => SDid.same (h.more (by omega)) hb
    rw [HR.out]
    rw [erV_some hF] at HCK HSM
    generalize s.chkF l fr n = F at HCK HSM hF ⊢
    generalize l.length = q at HCK ⊢
    clear h hl hg ha HR hF
    go_enter Tryz.func37, Tryz.ntmps37
    go_wp2_with fail
    refine HCK.out.mono ?_
    rintro e wA ⟨rfl, hbA⟩
    have HD := toHid (HSM.out _ hbA)
    clear hbA HCK HSM
    go_wp2
    go_ret
    exact HD.out
end Go.Proofs.YtjegaljdindfaabGreatDoor
