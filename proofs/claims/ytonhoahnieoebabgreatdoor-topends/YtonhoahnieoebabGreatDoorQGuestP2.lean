/-
What a guest does: a sector of a text; what it sees is so.
A yard and its guest side by side.
What a guest does: what it wrote; what is flushed.
-/
import Derived.Test.YtonhoahnieoebabGreatDoorQGuestMem
import Derived.Test.YtonhoahnieoebabGreatDoorQTopShown
import Derived.Test.YtonhoahnieoebabGreatDoorQYardP5
namespace Go.Proofs.YtonhoahnieoebabGreatDoor
open Go.RowKit Go.Maps
attribute [local go_sem ↓] Go.wp_at_zero Go.wp_at_succ

def GDid (gp : Nat) (G : Gh) (n : Nat) (g' : GV) (w w' : World) : Prop := ∃ G' : Gh, IsG w' gp G' n g' ∧ Moved (fpG gp G n) w (fpG gp G' n) w'

theorem extract_bytes (s : ByteArray) (k : Nat) : s.extract (16 * k) (16 * k + 16) = bytesOf (chunk s k) := by
  have h := extract_chunk s k
  rw [show k * 16 = 16 * k by omega, show (k + 1) * 16 = 16 * k + 16 by omega] at h
  rw [← bytesOf_data (s.extract (16 * k) (16 * k + 16)), h]

set_option maxRecDepth 100000 in
set_option maxHeartbeats 1000000 in
theorem sector_any (s : ByteArray) (k : Nat) (w : World) (hk : 16 * k + 16 ≤ s.size) (hs : s.size ≤ 100000) :
    Calls Tryz.prog 144 #[.string s, .int .i64 (k : Int)] w fun e w' => e = .returned (.string (bytesOf (chunk s k))) ∧ w' = w := by
  have HX : Hid (s.extract (16 * k) (16 * k + 16) = bytesOf (chunk s k)) := extract_bytes s k
  generalize bytesOf (chunk s k) = T at HX ⊢
  have k2 : 16 * (k : Int) + 16 ≤ (s.size : Int) := by omega
  have k3 : (0 : Int) ≤ 16 * (k : Int) := by omega
  have k4 : (0 : Int) ≤ 16 * (k : Int) + 16 := by omega
  have k5 : (16 * (k : Int)).toNat = 16 * k := by omega
  have k6 : (16 * (k : Int) + 16).toNat = 16 * k + 16 := by omega
  have k7 : IntKind.i64.wrap (16 * (k : Int)) = 16 * (k : Int) := IntWalk.i64_in _ (by omega)
  have k9 : IntKind.i64.wrap (16 * (k : Int) + 16) = 16 * (k : Int) + 16 := IntWalk.i64_in _ (by omega)
  have k11 : 16 * (k : Int) ≤ 16 * (k : Int) + 16 := by omega
  go_enter Tryz.func144, Tryz.ntmps144
  go_wp2
  go_ret
  exact ⟨by rw [← HX.out]; rfl, rfl⟩

def seenTo (s : ByteArray) (now : Nat → Rw) (k : Nat) : Nat → Rw := fun i => if i < k then [chunk s i] else now i
theorem seenTo_succ (s : ByteArray) (now : Nat → Rw) (k : Nat) : setR (seenTo s now k) k [chunk s k] = seenTo s now (k + 1) := by
  funext i
  unfold setR seenTo
  by_cases e : i = k
  · rw [if_pos e, if_pos (by omega), e]
  · rw [if_neg e]
    by_cases h : i < k
    · rw [if_pos h, if_pos (by omega)]
    · rw [if_neg h, if_neg (by omega)]

set_option maxRecDepth 100000 in
set_option maxHeartbeats 1000000 in
theorem sees_any {gp n : Nat} {G : Gh} {g : GV} (s : ByteArray) (w : World) (h : IsG w gp G n g) (hn : n ≤ 1000) (hs : s.size = 16 * n) (hin : ∀ k, k < n → chunk s k ∈ g.now k) (hlen : ∀ k, k < n → (g.now k).length ≤ 1000) :
    Calls Tryz.prog 45 #[.pointer (some ⟨gp, 0, none⟩), .string s] w fun e w' => e = .returned (.bool true) ∧ GDid gp G n { g with now := seenTo s g.now n } w w' := by
  have HST : Hid (GDid gp G n { g with now := seenTo s g.now 0 } w w) := ⟨G, by
    have : seenTo s g.now 0 = g.now := by funext i; unfold seenTo; rw [if_neg (by omega)]
    rw [this]; exact h, Moved.refl _ _⟩
  have HSH : Hid (∀ (k : Nat) (W : World), GDid gp G n { g with now := seenTo s g.now k } w W → ∃ a cap, W.cell? ⟨gp, 0, none⟩ = some (.slice a n cap)) := fun k W ⟨G1, h1, _⟩ => by
    obtain ⟨a, cap, e⟩ := ownsRow_shape h1.now.own
    exact ⟨a, cap, by rw [h1.cells.1, e]⟩
  have HRD : Hid (∀ (k : Nat) (W : World), k < n → GDid gp G n { g with now := seenTo s g.now k } w W → ∃ (b cap : Nat) (v : Value), W.cell? ⟨gp, 0, none⟩ = some (.slice (some ⟨b, 0, none⟩) n cap) ∧ W.cell? ⟨b, k, none⟩ = some v ∧ b < W.heap.size ∧ W.frozen? ⟨b, k, none⟩ = false ∧
      (Calls Tryz.prog 145 #[v, .string (bytesOf (chunk s k))] W fun e w' => e = .returned (.bool true) ∧ w' = W) ∧
      (gp < W.heap.size) ∧ GDid gp G n { g with now := seenTo s g.now (k + 1) } w ((W.setCell ⟨b, k, none⟩ (.slice (some ⟨W.heap.size, 0, none⟩) 1 1)).alloc (.cells #[.string (bytesOf (chunk s k))] 9))) := fun k W hk ⟨G1, h1, h2⟩ => by
    obtain ⟨b, cap, e1, e2, e3⟩ := h1.now.cell hk
    have hrow := h1.now.row k hk
    have er : seenTo s g.now k k = g.now k := by unfold seenTo; rw [if_neg (by omega)]
    rw [show ({ g with now := seenTo s g.now k } : GV).now k = g.now k from er] at hrow
    obtain ⟨h3, h4⟩ := h1.oneNow hk e1 (chunk s k)
    have hbl : b < W.heap.size := h1.now.lt (.inl (by rw [e1]; rfl))
    rw [World.setCell_alloc_past _ _ _ _ hbl] at h3 h4
    refine ⟨b, cap, G1.rn k, by rw [h1.cells.1, e1], e2, hbl, e3, worth_has (chunk s k) W hrow (hin k hk) (hlen k hk), lt_of_some h1.blk, _, ?_, h2.trans h4⟩
    rw [← seenTo_succ]; exact h3
  have HSE : Hid (∀ (k : Nat) (W : World), k < n → Calls Tryz.prog 144 #[.string s, .int .i64 (k : Int)] W fun e w' => e = .returned (.string (bytesOf (chunk s k))) ∧ w' = W) := fun k W hk => sector_any s k W (by omega) (by omega)
  obtain ⟨a0, cap0, c0⟩ := HSH.out 0 w HST.out
  clear h hin hlen
  have g1 : ((s.size : Int) != 16 * (n : Int)) = false := by simp; omega
  have k1 : IntKind.i64.wrap (16 * (n : Int)) = 16 * (n : Int) := IntWalk.i64_in _ (by omega)
  go_enter Tryz.func45, Tryz.ntmps45
  go_wp2
  go_loopw [5] (fun i wr => ∃ k : Nat, k ≤ n ∧ i = .int .i64 (k : Int) ∧ GDid gp G n { g with now := seenTo s g.now k } w wr) (fun i _ => n - (intOf i).toNat)
  case atStart => exact ⟨0, Nat.zero_le _, rfl, HST.out⟩
  case round =>
    obtain ⟨k, hk, rfl, hd⟩ := hrel
    by_cases hlt : k < n
    · obtain ⟨b, cap, v, q0, q1, q2, q3, hh, q5, hx⟩ := HRD.out k wr hlt hd
      have HH := toHid hh
      have HX := toHid hx
      have HS := toHid (HSE.out k wr hlt)
      clear hh hx hd c0
      generalize bytesOf (chunk s k) = T at HH HX HS
      have k0 : (0 : Int) ≤ (k : Int) := by omega
      have kn : (k : Int) < (n : Int) := by omega
      have k2 : ((k : Int)).toNat = k := by omega
      go_wp2_with fail
      refine HS.out.mono ?_
      rintro e w' ⟨rfl, hw⟩
      have hw' := hw.symm
      subst hw'
      clear hw HS
      go_wp2_with fail
      refine HH.out.mono ?_
      rintro e w' ⟨rfl, hw⟩
      have hw' := hw.symm
      subst hw'
      clear hw HH
      go_wp2
      refine ⟨⟨k + 1, by omega, by simp, HX.out⟩, ?_⟩
      simp only [intOf]
      omega
    · have hkn : k = n := by omega
      obtain ⟨a, cap, q0⟩ := HSH.out k wr hd
      have kn : ¬ (k : Int) < (n : Int) := by omega
      rw [hkn] at hd
      have HD := toHid hd
      clear hd
      go_wp2
      go_ret
      exact ⟨rfl, HD.out⟩
end Go.Proofs.YtonhoahnieoebabGreatDoor

namespace Go.Proofs.YtonhoahnieoebabGreatDoor
open Go.RowKit Go.Maps

structure YGd (B : Nat) (w0 w : World) (yp : Nat) (Y : Yh) (y : YV) (gp : Nat) (G : Gh) (n : Nat) (g : GV) : Prop where
  yard : IsYard w yp Y y
  guest : IsG w gp G n g
  apart : ∀ k, fpY yp Y y k → ¬ fpG gp G n k
  job : Apart Y.jb.a (fpG gp G n)
  jobL : ∀ q o, Y.jb.a = some ⟨q, o, none⟩ → q < w.heap.size
  bY : ∀ k, fpY yp Y y k → B ≤ k
  bG : ∀ k, fpG gp G n k → B ≤ k
  bel : Below B w0 w
  size : B ≤ w0.heap.size

theorem YGd.sizes {B : Nat} {w0 w : World} {yp gp n : Nat} {Y : Yh} {y : YV} {G : Gh} {g : GV} (h : YGd B w0 w yp Y y gp G n g) : B ≤ w.heap.size := Nat.le_trans h.size h.bel.size
theorem YGd.below {B : Nat} {w0 w w' : World} {yp gp n : Nat} {Y : Yh} {y : YV} {G : Gh} {g : GV} (h : YGd B w0 w yp Y y gp G n g) (hb : Below w.heap.size w w') : YGd B w0 w' yp Y y gp G n g :=
  ⟨h.yard.below hb, h.guest.below hb, h.apart, h.job, fun q o e => Nat.lt_of_lt_of_le (h.jobL q o e) hb.size, h.bY, h.bG, h.bel.trans (hb.mono h.sizes), h.size⟩
theorem YGd.yard_acts {B : Nat} {w0 w w' : World} {yp gp n : Nat} {Y : Yh} {y y' : YV} {G : Gh} {g : GV} (h : YGd B w0 w yp Y y gp G n g) (hd : YDid yp Y y y' w w') : ∃ Y', YGd B w0 w' yp Y' y' gp G n g := by
  obtain ⟨Y', h1, h2, h3⟩ := hd
  refine ⟨Y', h2, h.guest.beside h3 (fun k hk e => h.apart k e hk), fun k hk hg => ?_, fun q o e hg => ?_, fun q o e => ?_, fun k hk => ?_, h.bG, h.bel.trans (h3.below h.sizes h.bY), h.size⟩
  · rcases h3.new k hk with e | e
    · exact h.apart k e hg
    · have := h.guest.lt hg; omega
  · rcases h1 with e1 | e1
    · exact h.job q o (by rw [← e1]; exact e) hg
    · have := h.guest.lt hg; have := (e1 q o e).1; omega
  · rcases h1 with e1 | e1
    · exact Nat.lt_of_lt_of_le (h.jobL q o (by rw [← e1]; exact e)) h3.size
    · exact (e1 q o e).2
  · rcases h3.new k hk with e | e
    · exact h.bY k e
    · exact Nat.le_trans h.sizes e
theorem YGd.guest_acts {B : Nat} {w0 w w' : World} {yp gp n : Nat} {Y : Yh} {y : YV} {G : Gh} {g g' : GV} (h : YGd B w0 w yp Y y gp G n g) (hd : GDid gp G n g' w w') : ∃ G', YGd B w0 w' yp Y y gp G' n g' := by
  obtain ⟨G', h2, h3⟩ := hd
  refine ⟨G', h.yard.beside h3 (fun k hk e => h.apart k hk e) h.job, h2, fun k hk hg => ?_, fun q o e hg => ?_, fun q o e => Nat.lt_of_lt_of_le (h.jobL q o e) h3.size, h.bY, fun k hk => ?_, h.bel.trans (h3.below h.sizes h.bG), h.size⟩
  · rcases h3.new k hg with e | e
    · exact h.apart k hk e
    · have := h.yard.fp_lt hk; omega
  · rcases h3.new q hg with e2 | e2
    · exact h.job q o e e2
    · have := h.jobL q o e; omega
  · rcases h3.new k hk with e | e
    · exact h.bG k e
    · exact Nat.le_trans h.sizes e
end Go.Proofs.YtonhoahnieoebabGreatDoor

namespace Go.Proofs.YtonhoahnieoebabGreatDoor
open Go.RowKit Go.Maps
attribute [local go_sem ↓] Go.wp_at_zero Go.wp_at_succ

theorem info_strG : (Tryz.prog.info? 9).map (fun i => (i.zero, i.size, i.bytes)) = some (some (.string ⟨#[]⟩), 1, 16) := by kernel_rfl

/- A row has grown, or was copied. -/
theorem IsG.grownNow {w w1 w2 : World} {gp : Nat} {G : Gh} {n : Nat} {g : GV} (h : IsG w gp G n g) {i b cap : Nat} (hi : i < n) (hv : G.vn = .slice (some ⟨b, 0, none⟩) n cap) (hb : Below w.heap.size w w1) {r : Option Nat} (hg : w1.grownBy w2 r) (hr : ∀ k, r = some k → (G.rn i).ownBlock = some k) {u : Value} {l : Rw} (ho : w2.ownsRow 0 9 1 u l.length (flS l)) (hu : ∀ k, u.ownBlock = some k → (G.rn i).ownBlock = some k ∨ w.heap.size ≤ k) :
    (w2.cell? ⟨b, i, none⟩ = some (G.rn i) ∧ w2.frozen? ⟨b, i, none⟩ = false) ∧ IsG (w2.setCell ⟨b, i, none⟩ u) gp { G with rn := setV G.rn i u } n { g with now := setR g.now i l } ∧ Moved (fpG gp G n) w (fpG gp { G with rn := setV G.rn i u } n) (w2.setCell ⟨b, i, none⟩ u) := by
  have hk : Kept (fun k => (G.rn i).ownBlock = some k) w w2 := Kept.grown (Below.kept hb) hg fun k e => .inl (hr k e)
  have hbb : G.vn.ownBlock = some b := by rw [hv]; rfl
  have hblk := hk.block b (h.now.lt (.inl hbb)) (fun e => h.now.rowNot hi e hbb)
  obtain ⟨b', cap', e1, e2, e3⟩ := h.now.cell hi
  rw [hv] at e1
  cases e1
  exact ⟨⟨(World.cell?_of_block hblk).trans e2, (World.frozen?_of_block hblk).trans e3⟩, h.setNow hi hv hk ho hu⟩
theorem IsG.grownCr {w w1 w2 : World} {gp : Nat} {G : Gh} {n : Nat} {g : GV} (h : IsG w gp G n g) {i b cap : Nat} (hi : i < n) (hv : G.vc = .slice (some ⟨b, 0, none⟩) n cap) (hb : Below w.heap.size w w1) {r : Option Nat} (hg : w1.grownBy w2 r) (hr : ∀ k, r = some k → (G.rc i).ownBlock = some k) {u : Value} {l : Rw} (ho : w2.ownsRow 0 9 1 u l.length (flS l)) (hu : ∀ k, u.ownBlock = some k → (G.rc i).ownBlock = some k ∨ w.heap.size ≤ k) :
    (w2.cell? ⟨b, i, none⟩ = some (G.rc i) ∧ w2.frozen? ⟨b, i, none⟩ = false) ∧ IsG (w2.setCell ⟨b, i, none⟩ u) gp { G with rc := setV G.rc i u } n { g with cr := setR g.cr i l } ∧ Moved (fpG gp G n) w (fpG gp { G with rc := setV G.rc i u } n) (w2.setCell ⟨b, i, none⟩ u) := by
  have hk : Kept (fun k => (G.rc i).ownBlock = some k) w w2 := Kept.grown (Below.kept hb) hg fun k e => .inl (hr k e)
  have hbb : G.vc.ownBlock = some b := by rw [hv]; rfl
  have hblk := hk.block b (h.cr.lt (.inl hbb)) (fun e => h.cr.rowNot hi e hbb)
  obtain ⟨b', cap', e1, e2, e3⟩ := h.cr.cell hi
  rw [hv] at e1
  cases e1
  exact ⟨⟨(World.cell?_of_block hblk).trans e2, (World.frozen?_of_block hblk).trans e3⟩, h.setCr hi hv hk ho hu⟩

def flushTo (g : GV) (k : Nat) : GV := { g with cr := fun i => if i < k then g.now i else g.cr i }
theorem flushTo_cr (g : GV) (k : Nat) : setR (flushTo g k).cr k (g.now k) = (flushTo g (k + 1)).cr := by
  funext i
  show (if i = k then g.now k else (if i < k then g.now i else g.cr i)) = (if i < k + 1 then g.now i else g.cr i)
  by_cases e : i = k
  · rw [if_pos e, if_pos (by omega), e]
  · rw [if_neg e]
    by_cases h : i < k
    · rw [if_pos h, if_pos (by omega)]
    · rw [if_neg h, if_neg (by omega)]
theorem flushTo_succ (g : GV) (k : Nat) : ({ flushTo g k with cr := setR (flushTo g k).cr k (g.now k) } : GV) = flushTo g (k + 1) := by
  rw [flushTo_cr]; rfl

set_option maxRecDepth 100000 in
set_option maxHeartbeats 1000000 in
theorem flushed_any {gp n : Nat} {G : Gh} {g : GV} (w : World) (h : IsG w gp G n g) (hn : n ≤ 1000) (hne : ∀ k, k < n → g.now k ≠ []) (hlen : ∀ k, k < n → (g.now k).length ≤ 1000) :
    Calls Tryz.prog 142 #[.pointer (some ⟨gp, 0, none⟩)] w fun e w' => e = .returned (.tuple #[]) ∧ GDid gp G n (flushTo g n) w w' := by
  obtain ⟨i2, hi2, hy0, hy1, hy2⟩ := info_parts info_strG
  have HST : Hid (GDid gp G n (flushTo g 0) w w) := ⟨G, by
    have : flushTo g 0 = g := by
      unfold flushTo
      have : (fun i => if i < 0 then g.now i else g.cr i) = g.cr := by funext i; rw [if_neg (by omega)]
      rw [this]
    rw [this]; exact h, Moved.refl _ _⟩
  have HSH : Hid (∀ (k : Nat) (W : World), GDid gp G n (flushTo g k) w W → ∃ a cap, W.cell? ⟨gp, 0, none⟩ = some (.slice a n cap)) := fun k W ⟨G1, h1, _⟩ => by
    obtain ⟨a, cap, e⟩ := ownsRow_shape h1.now.own
    exact ⟨a, cap, by rw [h1.cells.1, e]⟩
  have HRD : Hid (∀ (k : Nat) (W : World), k < n → GDid gp G n (flushTo g k) w W → ∃ (bn cn bc cc rb rc : Nat) (v : Value), W.cell? ⟨gp, 0, none⟩ = some (.slice (some ⟨bn, 0, none⟩) n cn) ∧ W.cell? ⟨gp, 1, none⟩ = some (.slice (some ⟨bc, 0, none⟩) n cc) ∧ W.cell? ⟨bn, k, none⟩ = some (.slice (some ⟨rb, 0, none⟩) (g.now k).length rc) ∧
      (∀ j u, (flS (g.now k))[j]? = some u → W.cell? ((⟨rb, 0, none⟩ : Addr).add j) = some u) ∧
      ∀ (w1 w2 : World) (g' cap' : Nat), Below W.heap.size W w1 → w1.grownBy w2 none → w2.ownsRow 0 9 1 (.slice (some ⟨g', 0, none⟩) (g.now k).length cap') (g.now k).length (flS (g.now k)) → W.heap.size ≤ g' →
        (∃ v, w2.cell? ⟨bc, k, none⟩ = some v) ∧ w2.frozen? ⟨bc, k, none⟩ = false ∧ w2.cell? ⟨gp, 0, none⟩ = some (.slice (some ⟨bn, 0, none⟩) n cn) ∧ w2.cell? ⟨gp, 1, none⟩ = some (.slice (some ⟨bc, 0, none⟩) n cc) ∧ GDid gp G n (flushTo g (k + 1)) w (w2.setCell ⟨bc, k, none⟩ (.slice (some ⟨g', 0, none⟩) (g.now k).length cap'))) := fun k W hk ⟨G1, h1, h2⟩ => by
    obtain ⟨bn, cn, e1, e2, e3⟩ := h1.now.cell hk
    obtain ⟨bc, cc, f1, f2, f3⟩ := h1.cr.cell hk
    have hrow := h1.now.row k hk
    rw [show (flushTo g k).now k = g.now k from rfl] at hrow
    obtain ⟨rb, rc, q1, _, _⟩ := hrow.form (by have := hne k hk; have := List.length_pos_iff.2 this; omega)
    rw [q1] at e2
    refine ⟨bn, cn, bc, cc, rb, rc, .nilIface, by rw [h1.cells.1, e1], by rw [h1.cells.2, f1], e2, fun j u hj => hrow.cells (g := rb) (by rw [q1]; rfl) j u hj, fun w1 w2 g' cap' hb hg ho hg' => ?_⟩
    obtain ⟨⟨a1, a2⟩, a3, a4⟩ := h1.grownCr hk f1 hb hg (fun k e => by cases e) ho (fun b e => .inr (by
      have : g' = b := by simpa [Value.ownBlock] using e
      omega))
    have hgb : w2.heap[gp]? = W.heap[gp]? := (hg.block gp (Nat.lt_of_lt_of_le (lt_of_some h1.blk) hb.size) (fun e => by cases e)).trans (hb.block gp (lt_of_some h1.blk))
    refine ⟨⟨_, a1⟩, a2, by rw [World.cell?_of_block hgb, h1.cells.1, e1], by rw [World.cell?_of_block hgb, h1.cells.2, f1], _, ?_, h2.trans a4⟩
    rw [← flushTo_succ]; exact a3
  have HLN : Hid (∀ k, k < n → 0 < (g.now k).length ∧ (g.now k).length ≤ 1000) := fun k hk => ⟨List.length_pos_iff.2 (hne k hk), hlen k hk⟩
  clear h hne hlen
  go_enter Tryz.func142, Tryz.ntmps142
  go_wp2
  go_loopw [2] (fun i wr => ∃ k : Nat, k ≤ n ∧ i = .int .i64 (k : Int) ∧ GDid gp G n (flushTo g k) w wr) (fun i _ => n - (intOf i).toNat)
  case atStart => exact ⟨0, Nat.zero_le _, rfl, HST.out⟩
  case round =>
    obtain ⟨k, hk, rfl, hd⟩ := hrel
    by_cases hlt : k < n
    · obtain ⟨bn, cn, bc, cc, rb, rc, _, q0, q1, q2, hnw, hfin⟩ := HRD.out k wr hlt hd
      obtain ⟨l0, l1⟩ := HLN.out k hlt
      have HNW := toHid hnw
      have HFI := toHid hfin
      clear hnw hfin hd HRD HSH HLN
      have HFL : Hid ((flS (g.now k)).length = (g.now k).length * 1) := by unfold Hid; rw [flS_len]; omega
      have HON := toHid (flS_one (g.now k))
      generalize flS (g.now k) = fl at HNW HFI HFL HON
      generalize (g.now k).length = m at q2 HFI HFL l0 l1
      have k0 : (0 : Int) ≤ (k : Int) := by omega
      have kn : (k : Int) < (n : Int) := by omega
      have k2 : ((k : Int)).toNat = k := by omega
      have k3 : IntKind.i64.wrap ((k : Int) + 1) = (k : Int) + 1 := IntWalk.i64_in _ (by omega)
      have HMX : Hid (0 + m ≤ maxLen) := by unfold Hid maxLen; omega
      have HBD : Hid (Below wr.heap.size wr wr.drew) := (Below.refl _ _).drew
      go_wp2
      go_region_law (refine step_append_lies _ (by rfl) _ _ 202 (by rfl) 0 9 i2 (.string ⟨#[]⟩) 1 16 Tryz.underlying202 hi2 hy0 hy1 hy2 rfl (by decide) (.slice none 0 0) 0 [] (by rfl) (World.ownsRow_nil _ _ _ _) ⟨rb, 0, none⟩ m rc fl (by rfl) HFL.out HNW.out HON.out l0 HMX.out (by omega) (Nat.zero_le _) wr.heap.size (by rfl) ?_; intro g' cap' w2 hown hgrow hat hlt2; rw [Nat.zero_add, List.nil_append] at hown; obtain ⟨⟨v, p0⟩, p1, p2, p3, hx⟩ := HFI.out _ w2 g' cap' HBD.out hgrow hown (by rcases hat with e | e; cases e; omega); have HX := toHid hx; clear hx hown hgrow hat hlt2)
      all_goals
        go_wp2
        refine ⟨⟨k + 1, by omega, by simp, ?_⟩, ?_⟩
        · first | exact HX.out | (rw [Nat.zero_add]; exact HX.out)
        · simp only [intOf]
          omega
    · have hkn : k = n := by omega
      obtain ⟨a, cap, q0⟩ := HSH.out k wr hd
      have kn : ¬ (k : Int) < (n : Int) := by omega
      rw [hkn] at hd
      have HD := toHid hd
      clear hd
      go_wp2
      go_end0
      exact ⟨rfl, HD.out⟩
end Go.Proofs.YtonhoahnieoebabGreatDoor
