/-
Crash and Copy of a device: another device, as power that fails leaves it; the same one, apart.
-/
import Derived.Test.YtncjnjlakhohgaaQDevFlush
namespace Go.Proofs.Ytncjnjlakhohgaa
open Go.RowKit
attribute [local go_sem ↓] Go.wp_at_zero Go.wp_at_succ

theorem setCells_setRow (w : World) (g o : Nat) (vs : List Value) (cur : Array Value) (t : TypeId) (hg : w.heap[g]? = some (.cells cur t (0, 0))) (hfit : o + vs.length ≤ cur.size) (h1 : ∀ v ∈ vs, v.oneCell' = true) :
    w.setCells g o vs = w.setRow g (cur.toList.take o ++ vs ++ cur.toList.drop (o + vs.length)).toArray := by
  have a := run_storeCells_at (P := Try.prog) g o t vs 0 cur w hg (by omega) h1
  have b := run_storeCells_cells (P := Try.prog) g o vs 0 w (fun j hj => by rw [Nat.add_zero, cell_of_row _ _ _ _ _ _ hg]; simp; omega) (fun j _ => frozen_of_row _ _ _ _ _ hg) h1
  rw [a] at b
  simp only [Nat.add_zero] at b
  injection b with _ b
  exact b.symm

theorem secsV_set (l : List (List UInt8)) (i : Nat) (s : List UInt8) (hl : ∀ x ∈ l, x.length = 16) (hi : i < l.length) :
    secsV (l.set i s) = (secsV l).take (i * 16) ++ secV s ++ (secsV l).drop (i * 16 + 16) := by
  induction l generalizing i with
  | nil => simp at hi
  | cons x l ih =>
    have hx := hl x (by simp)
    have hxl : (secV x).length = 16 := by rw [secV_len, hx]
    have e : ∀ y : List UInt8, ∀ r, secsV (y :: r) = secV y ++ secsV r := fun y r => by simp [secsV]
    cases i with
    | zero =>
      rw [List.set_cons_zero, e, e]
      simp only [Nat.zero_mul, Nat.zero_add, List.take_zero, List.nil_append]
      rw [show (16 : Nat) = (secV x).length by omega, List.drop_left]
    | succ i =>
      have h2 := ih i (fun y hy => hl y (by simp [hy])) (by simpa using hi)
      rw [List.set_cons_succ, e, e, h2]
      rw [show (i + 1) * 16 = (secV x).length + i * 16 by omega, show (secV x).length + i * 16 + 16 = (secV x).length + (i * 16 + 16) by omega]
      rw [List.take_append, List.drop_append]
      rw [List.take_of_length_le (show (secV x).length ≤ (secV x).length + i * 16 by omega), List.drop_of_length_le (show (secV x).length ≤ (secV x).length + (i * 16 + 16) by omega)]
      simp [List.append_assoc]

/- One sector of a row that is owned is set. -/
theorem ownsRow_setSec {w : World} {B g n cap : Nat} {l : List (List UInt8)} (ho : w.ownsRow B 115 16 (.slice (some ⟨g, 0, none⟩) n cap) n (secsV l)) (hn : l.length = n) (hl : ∀ x ∈ l, x.length = 16) (i : Nat) (s : List UInt8) (hs : s.length = 16) (hi : i < n) :
    (w.setCells g (i * 16) (secV s)).ownsRow B 115 16 (.slice (some ⟨g, 0, none⟩) n cap) n (secsV (l.set i s)) := by
  subst hn
  obtain ⟨hB, cur, hh, h1, h2, h3, h4⟩ := ownsRow_block ho
  have hsl : (secV s).length = 16 := by rw [secV_len, hs]
  have hsz : cur.toList.length = cap * 16 := by simpa using h3
  rw [setCells_setRow w g (i * 16) (secV s) cur _ hh (by omega) (secV_one _)]
  have hset : ∀ x ∈ l.set i s, x.length = 16 := fun x hx => by
    rcases List.mem_or_eq_of_mem_set hx with h | h
    · exact hl x h
    · rw [h]; exact hs
  refine ⟨by rw [secsV_len _ hset, List.length_set], .inr ⟨g, cap, _, rfl, hB, setRow_heap w g cur _ _ _ hh, h1, h2, ?_, ?_⟩⟩
  · simp [hsl]; omega
  · rw [secsV_set l i s hl hi, hsl, ← h4]
    show (cur.toList.take (i * 16) ++ secV s ++ cur.toList.drop (i * 16 + 16)).take (l.length * 16) = _
    rw [List.take_append, List.take_append, List.take_take, List.take_take, List.drop_take]
    simp only [List.length_append, List.length_take, hsl, hsz]
    rw [show min (i * 16) (cap * 16) = i * 16 by omega, show min (l.length * 16) (i * 16) = i * 16 by omega, List.take_of_length_le (show (secV s).length ≤ l.length * 16 - i * 16 by omega), show l.length * 16 - (i * 16 + 16) = l.length * 16 - (i * 16 + 16) from rfl]
    rw [show min (i * 16) (l.length * 16) = i * 16 by omega]

theorem take_drop_wrs (l : List (Nat × List UInt8)) (i : Nat) (h : ∀ x ∈ l, x.2.length = 16) (hi : i < l.length) : ((wrsV l).drop (i * 17)).take 17 = wrV (l.getD i (0, [])) := by
  induction l generalizing i with
  | nil => simp at hi
  | cons s l ih =>
    have hs := h s (by simp)
    have hsl : (wrV s).length = 17 := by rw [wrV_len, hs]
    have e : wrsV (s :: l) = wrV s ++ wrsV l := by simp [wrsV]
    rw [e]
    cases i with
    | zero => simp [List.take_append_of_le_length (show 17 ≤ (wrV s).length by omega), List.take_of_length_le (show (wrV s).length ≤ 17 by omega)]
    | succ i =>
      have h2 := ih i (fun x hx => h x (by simp [hx])) (by simpa using hi)
      rw [show (i + 1) * 17 = (wrV s).length + i * 17 by omega, List.drop_append]
      simp only [Nat.add_sub_cancel_left, List.getD_cons_succ]
      rw [List.drop_of_length_le (by omega), List.nil_append]
      exact h2

theorem wr_range {w : World} {B g cap : Nat} {l : List (Nat × List UInt8)} (ho : w.ownsRow B 123 17 (.slice (some ⟨g, 0, none⟩) l.length cap) l.length (wrsV l)) (hl : ∀ x ∈ l, x.2.length = 16) (i : Nat) (hi : i < l.length) :
    w.rangeAt g (i * 17) (wrV (l.getD i (0, []))) := by
  intro j v hv
  rw [← take_drop_wrs l i hl hi] at hv
  rcases Nat.lt_or_ge j 17 with h | h
  · rw [ho.cellAt (i * 17 + j) (by omega)]
    rw [List.getElem?_take_of_lt h, List.getElem?_drop] at hv; exact hv
  · rw [List.getElem?_eq_none (by simp; omega)] at hv; cases hv

/- What is left of the pending writes, the first k of them looked at. -/
def keepTo (pend : List (Nat × List UInt8)) (ks : List Bool) (l : List (List UInt8)) : Nat → List (List UInt8)
  | 0 => l
  | k + 1 => if ks.getD k false then (keepTo pend ks l k).set (pend.getD k (0, [])).1 (pend.getD k (0, [])).2 else keepTo pend ks l k

theorem keepTo_no {pend : List (Nat × List UInt8)} {ks : List Bool} {l : List (List UInt8)} {k : Nat} (e : ks.getD k false = false) : keepTo pend ks l (k + 1) = keepTo pend ks l k := by
  show (if ks.getD k false then _ else _) = _
  rw [e]; rfl

theorem keepTo_yes {pend : List (Nat × List UInt8)} {ks : List Bool} {l : List (List UInt8)} {k : Nat} (e : ks.getD k false = true) : keepTo pend ks l (k + 1) = (keepTo pend ks l k).set (pend.getD k (0, [])).1 (pend.getD k (0, [])).2 := by
  show (if ks.getD k false then _ else _) = _
  rw [e]; rfl

theorem keepTo_len (pend : List (Nat × List UInt8)) (ks : List Bool) (l : List (List UInt8)) (k : Nat) : (keepTo pend ks l k).length = l.length := by
  induction k with
  | zero => rfl
  | succ k ih => unfold keepTo; split <;> simp [ih]

theorem keepTo_16 (pend : List (Nat × List UInt8)) (ks : List Bool) (l : List (List UInt8)) (k : Nat) (hk : k ≤ pend.length) (hl : ∀ s ∈ l, s.length = 16) (hp : ∀ x ∈ pend, x.2.length = 16) : ∀ s ∈ keepTo pend ks l k, s.length = 16 := by
  induction k with
  | zero => exact hl
  | succ k ih =>
    have h2 := ih (by omega)
    unfold keepTo
    split
    · intro s hs
      rcases List.mem_or_eq_of_mem_set hs with h | h
      · exact h2 s h
      · rw [h, List.getD_eq_getElem?_getD, List.getElem?_eq_getElem (show k < pend.length by omega)]
        exact hp _ (List.getElem_mem _)
    · exact h2

/- A list of bools that lies in memory. -/
def Bools (w : World) (ka : Option Addr) (kl : Nat) (ks : List Bool) : Prop :=
  ks.length = kl ∧ ∀ j, j < kl → ∃ b off, ka = some ⟨b, off, none⟩ ∧ w.cell? ⟨b, off + j, none⟩ = some (.bool (ks.getD j false))

theorem Bools.below {w w' : World} {la : Option Addr} {len : Nat} {ls : List Bool} (h : Bools w la len ls) (hb : Below w.heap.size w w') : Bools w' la len ls := by
  refine ⟨h.1, fun k hk => ?_⟩
  obtain ⟨b, off, e, hc⟩ := h.2 k hk
  exact ⟨b, off, e, by rw [hb.cell (World.block_lt_of_cell? w _ hc)]; exact hc⟩

theorem size_wr : (Try.prog.info? 123).map (·.size) = some 17 := by kernel_rfl

theorem wrV_range {w : World} {b : Nat} {x : Nat × List UInt8} (h : w.rangeAt b 0 (wrV x)) : w.cell? ⟨b, 0, none⟩ = some (.int .i64 (x.1 : Int)) ∧ w.rangeAt b 1 (secV x.2) := by
  refine ⟨by simpa using h 0 (.int .i64 (x.1 : Int)) rfl, fun j v hv => ?_⟩
  have := h (j + 1) v (by simpa [wrV] using hv)
  rw [show 1 + j = 0 + (j + 1) by omega]; exact this

set_option maxRecDepth 100000 in
set_option maxHeartbeats 1000000 in
theorem crash_any {B : Nat} {h : Hd} {d : DV} (ka : Option Addr) (kl kc : Nat) (ks : List Bool) (w : World) (hd : IsDev B w h d) (hK : Bools w ka kl ks) (hkl : kl ≤ maxLen) :
    Calls Try.prog 32 #[.pointer (some ⟨h.p, 0, none⟩), .slice ka kl kc] w fun e w' =>
      ∃ h' : Hd, e = .returned (.pointer (some ⟨h'.p, 0, none⟩)) ∧ IsDev w.heap.size w' h' (DV.made (keepTo d.pend ks d.fl d.pend.length) d.wr) ∧ Below w.heap.size w w' := by
  obtain ⟨c0, c1, c2, c3, c4, fz⟩ := hd.cells
  unfold maxLen at hkl
  have hpl : h.p < w.heap.size := (hd.lt _ (.inl rfl)).2
  have HD : Hid (IsDev B w h d) := hd
  have HK : Hid (Bools w ka kl ks) := hK
  have h200 := hd.ok.n2
  have h1 := hd.ok.n1
  have hpw := hd.ok.few
  have hpw2 := hd.ok.few2
  obtain ⟨va, vc, hv2⟩ := hd.v2
  rw [hv2] at c2
  have HV : Hid (h.v2 = .slice va d.pend.length vc) := hv2
  clear hd hK fz c1 c4 hv2
  go_enter Try.func32, Try.ntmps32
  go_wp2_with fail
  refine (cloneSec_any d.fl w h1 h200 HD.out.ok.l1 HD.out.of).mono ?_
  rintro e w1 ⟨gl, cl, rfl, ho1, hb1⟩
  have c2' : w1.cell? ⟨h.p, 2, none⟩ = some (.slice va d.pend.length vc) := by rw [hb1.cell hpl]; exact c2
  have HO1 : Hid (w1.ownsRow w.heap.size 115 16 (.slice (some ⟨gl, 0, none⟩) d.fl.length cl) d.fl.length (secsV d.fl)) := ho1
  have HB1 : Hid (Below w.heap.size w w1) := hb1
  clear ho1 hb1
  go_wp2
  go_loopw [18] (fun i wr => ∃ k : Nat, k ≤ d.pend.length ∧ i = .int .i64 k ∧ wr.ownsRow w.heap.size 115 16 (.slice (some ⟨gl, 0, none⟩) d.fl.length cl) d.fl.length (secsV (keepTo d.pend ks d.fl k)) ∧ Below w.heap.size w wr) (fun i _ => d.pend.length - (intOf i).toNat)
  case atStart => exact ⟨0, Nat.zero_le _, rfl, HO1.out, HB1.out⟩
  case round =>
    obtain ⟨k, hk, rfl, how, hbel⟩ := hrel
    clear c2'
    by_cases hlt : k < d.pend.length
    · obtain ⟨gp, cp, hvv, _, hgpl⟩ := HD.out.op.form (by omega)
      rw [HV.out] at hvv
      cases hvv
      have hopw := HD.out.op
      rw [HV.out] at hopw
      have hl3 : ∀ x ∈ d.pend, x.2.length = 16 := fun x hx => (HD.out.ok.l3 x hx).2
      have hr0 := wr_range hopw hl3 k hlt
      have hxm : d.pend.getD k (0, []) ∈ d.pend := by
        rw [List.getD_eq_getElem?_getD, List.getElem?_eq_getElem hlt]; exact List.getElem_mem _
      have hx1 := (HD.out.ok.l3 _ hxm).1
      have hx2 := (HD.out.ok.l3 _ hxm).2
      have HR : Hid (wr.rangeAt gp (k * 17) (wrV (d.pend.getD k (0, [])))) := fun j v hv => by
        rw [hbel.cell (p := ⟨gp, k * 17 + j, none⟩) hgpl]; exact hr0 j v hv
      have h16 := keepTo_16 d.pend ks d.fl k hk HD.out.ok.l1 hl3
      have hkl2 := keepTo_len d.pend ks d.fl k
      have HST : Hid (ks.getD k false = true → keepTo d.pend ks d.fl (k + 1) = (keepTo d.pend ks d.fl k).set (d.pend.getD k (0, [])).1 (d.pend.getD k (0, [])).2) := fun e => keepTo_yes e
      have HSF : Hid (ks.getD k false = false → keepTo d.pend ks d.fl (k + 1) = keepTo d.pend ks d.fl k) := fun e => keepTo_no e
      have HKB := HK.out.below (HB1.out.trans (Below.refl _ _))
      clear hopw hr0 hxm hl3 HKB
      generalize d.pend.getD k (0, []) = x at HR hx1 hx2 HST
      generalize keepTo d.pend ks d.fl k = lk at how h16 hkl2 HST HSF
      have HL16 : Hid (∀ s ∈ lk, s.length = 16) := h16
      have HOW : Hid (wr.ownsRow w.heap.size 115 16 (.slice (some ⟨gl, 0, none⟩) d.fl.length cl) d.fl.length (secsV lk)) := how
      have hwl : (wrV x).length = 17 := by rw [wrV_len, hx2]
      have hone : ∀ u ∈ wrV x, u.oneCell' = true := fun u hu => wrsV_one [x] u (by simpa [wrsV] using hu)
      have hone2 := secV_one x.2
      have hsl : (secV x.2).length = 16 := by rw [secV_len, hx2]
      have HI : Hid ((Try.prog.info? 123).map (·.size) = some (wrV x).length) := by unfold Hid; rw [hwl]; exact size_wr
      have HI2 : Hid ((Try.prog.info? 123).map (·.size) = some (wrV x).toArray.size) := by unfold Hid; rw [List.size_toArray]; exact HI.out
      have HA : Hid ((wrV x).toArray.all (·.oneCell') = true) := all_oneCell_toArray hone
      have HTH : Hid ((wr.alloc (.cells #[.int .i64 0, .int .u8 0, .int .u8 0, .int .u8 0, .int .u8 0, .int .u8 0, .int .u8 0, .int .u8 0, .int .u8 0, .int .u8 0, .int .u8 0, .int .u8 0, .int .u8 0, .int .u8 0, .int .u8 0, .int .u8 0, .int .u8 0] 123)).there wr.heap.size 0 (wrV x).toArray.size) := there_new wr _ _ _ (by simp [hwl])
      have hR3 : ((wr.alloc (.cells #[.int .i64 0, .int .u8 0, .int .u8 0, .int .u8 0, .int .u8 0, .int .u8 0, .int .u8 0, .int .u8 0, .int .u8 0, .int .u8 0, .int .u8 0, .int .u8 0, .int .u8 0, .int .u8 0, .int .u8 0, .int .u8 0, .int .u8 0] 123)).setCells wr.heap.size 0 (wrV x)).rangeAt wr.heap.size 0 (wrV x) := World.rangeAt_setCells_same _ _ _ _ (there_new wr _ _ _ (by simp [hwl]))
      obtain ⟨hN0, hN1⟩ := wrV_range hR3
      have HN1 : Hid (((wr.alloc (.cells #[.int .i64 0, .int .u8 0, .int .u8 0, .int .u8 0, .int .u8 0, .int .u8 0, .int .u8 0, .int .u8 0, .int .u8 0, .int .u8 0, .int .u8 0, .int .u8 0, .int .u8 0, .int .u8 0, .int .u8 0, .int .u8 0, .int .u8 0] 123)).setCells wr.heap.size 0 (wrV x)).rangeAt wr.heap.size 1 (secV x.2)) := hN1
      have HJ : Hid ((Try.prog.info? 115).map (·.size) = some (secV x.2).length) := by unfold Hid; rw [hsl]; exact size_sec
      have HJ2 : Hid ((Try.prog.info? 115).map (·.size) = some (secV x.2).toArray.size) := by unfold Hid; rw [List.size_toArray]; exact HJ.out
      have HA2 : Hid ((secV x.2).toArray.all (·.oneCell') = true) := all_oneCell_toArray hone2
      obtain ⟨hBl, curl, hhl, hl1, _, hl3, _⟩ := ownsRow_block HOW.out
      have hgl : gl < wr.heap.size := lt_of_some hhl
      have hbs := hbel.size
      have HOW3 : Hid (((wr.alloc (.cells #[.int .i64 0, .int .u8 0, .int .u8 0, .int .u8 0, .int .u8 0, .int .u8 0, .int .u8 0, .int .u8 0, .int .u8 0, .int .u8 0, .int .u8 0, .int .u8 0, .int .u8 0, .int .u8 0, .int .u8 0, .int .u8 0, .int .u8 0] 123)).setCells wr.heap.size 0 (wrV x)).ownsRow w.heap.size 115 16 (.slice (some ⟨gl, 0, none⟩) d.fl.length cl) d.fl.length (secsV lk)) := ownsRow_keep HOW.out (fun q e => by
        have : gl = q := by simpa [Value.ownBlock] using e
        subst this
        rw [heap_setCells_other _ _ (by omega), Below.heap_alloc _ _ _ hgl])
      have HTH2 : Hid (((wr.alloc (.cells #[.int .i64 0, .int .u8 0, .int .u8 0, .int .u8 0, .int .u8 0, .int .u8 0, .int .u8 0, .int .u8 0, .int .u8 0, .int .u8 0, .int .u8 0, .int .u8 0, .int .u8 0, .int .u8 0, .int .u8 0, .int .u8 0, .int .u8 0] 123)).setCells wr.heap.size 0 (wrV x)).there gl (x.1 * 16) (secV x.2).toArray.size) := by
        intro j hj
        obtain ⟨_, cur4, hh4, h41, _, h43, _⟩ := ownsRow_block HOW3.out
        have hj' : j < 16 := by simpa [hsl] using hj
        rw [cell_of_row _ _ _ _ _ _ hh4, frozen_of_row _ _ _ _ _ hh4]
        exact ⟨by simp; omega, rfl⟩
      have HB3 : Hid (Below w.heap.size w ((wr.alloc (.cells #[.int .i64 0, .int .u8 0, .int .u8 0, .int .u8 0, .int .u8 0, .int .u8 0, .int .u8 0, .int .u8 0, .int .u8 0, .int .u8 0, .int .u8 0, .int .u8 0, .int .u8 0, .int .u8 0, .int .u8 0, .int .u8 0, .int .u8 0] 123)).setCells wr.heap.size 0 (wrV x))) := Below.setCells (hbel.alloc hbs _) hbs 0 _
      have HB4 : Hid (Below w.heap.size w (((wr.alloc (.cells #[.int .i64 0, .int .u8 0, .int .u8 0, .int .u8 0, .int .u8 0, .int .u8 0, .int .u8 0, .int .u8 0, .int .u8 0, .int .u8 0, .int .u8 0, .int .u8 0, .int .u8 0, .int .u8 0, .int .u8 0, .int .u8 0, .int .u8 0] 123)).setCells wr.heap.size 0 (wrV x)).setCells gl (x.1 * 16) (secV x.2))) := Below.setCells HB3.out hBl _ _
      have HOW4 : Hid ((((wr.alloc (.cells #[.int .i64 0, .int .u8 0, .int .u8 0, .int .u8 0, .int .u8 0, .int .u8 0, .int .u8 0, .int .u8 0, .int .u8 0, .int .u8 0, .int .u8 0, .int .u8 0, .int .u8 0, .int .u8 0, .int .u8 0, .int .u8 0, .int .u8 0] 123)).setCells wr.heap.size 0 (wrV x)).setCells gl (x.1 * 16) (secV x.2)).ownsRow w.heap.size 115 16 (.slice (some ⟨gl, 0, none⟩) d.fl.length cl) d.fl.length (secsV (lk.set x.1 x.2))) := ownsRow_setSec HOW3.out hkl2 HL16.out x.1 x.2 hx2 hx1
      have HKW : Hid (Bools ((wr.alloc (.cells #[.int .i64 0, .int .u8 0, .int .u8 0, .int .u8 0, .int .u8 0, .int .u8 0, .int .u8 0, .int .u8 0, .int .u8 0, .int .u8 0, .int .u8 0, .int .u8 0, .int .u8 0, .int .u8 0, .int .u8 0, .int .u8 0, .int .u8 0] 123)).setCells wr.heap.size 0 (wrV x)) ka kl ks) := HK.out.below HB3.out
      clear how hbel hR3 hN1 hhl h16 hkl2 hone
      by_cases hkk : k < kl
      · obtain ⟨kb, ko, rfl, hkcell⟩ := HKW.out.2 k hkk
        cases hbk : ks.getD k false with
        | true =>
          rw [hbk] at hkcell
          have HX : Hid (keepTo d.pend ks d.fl (k + 1) = lk.set x.1 x.2) := HST.out hbk
          clear HST HSF hbk
          go_wp2_with (first
            | (refine wpList_load_mid (by rfl) 123 (.tmp 21) (by rfl) gp (k * 17) (by rfl) (wrV x) _ HR.out Try.underlying123 rfl HI.out ?_)
            | (refine wpList_store_mid (by rfl) 123 (.tmp 7) (.tmp 22) (by rfl) wr.heap.size 0 (wrV x).toArray (by rfl) (by rfl) HTH.out HI2.out HA.out ?_)
            | (refine wpList_load_mid (by rfl) 115 (.tmp 36) (by rfl) wr.heap.size 1 (by rfl) (secV x.2) _ HN1.out Try.underlying115 rfl HJ.out ?_)
            | (refine wpList_store_mid (by rfl) 115 (.tmp 38) (.tmp 37) (by rfl) gl (x.1 * 16) (secV x.2).toArray (by rfl) (by rfl) HTH2.out HJ2.out HA2.out ?_))
          refine ⟨⟨k + 1, by omega, by go_num, ?_, HB4.out⟩, by simp [intOf]; omega⟩
          rw [HX.out]; exact HOW4.out
        | false =>
          rw [hbk] at hkcell
          have HX : Hid (keepTo d.pend ks d.fl (k + 1) = lk) := HSF.out hbk
          clear HST HSF hbk
          go_wp2_with (first
            | (refine wpList_load_mid (by rfl) 123 (.tmp 21) (by rfl) gp (k * 17) (by rfl) (wrV x) _ HR.out Try.underlying123 rfl HI.out ?_)
            | (refine wpList_store_mid (by rfl) 123 (.tmp 7) (.tmp 22) (by rfl) wr.heap.size 0 (wrV x).toArray (by rfl) (by rfl) HTH.out HI2.out HA.out ?_))
          refine ⟨⟨k + 1, by omega, by go_num, ?_, HB3.out⟩, by simp [intOf]; omega⟩
          rw [HX.out]; exact HOW3.out
      · have hbk : ks.getD k false = false := by
          rw [List.getD_eq_getElem?_getD, List.getElem?_eq_none (by rw [HKW.out.1]; omega)]; rfl
        have HX : Hid (keepTo d.pend ks d.fl (k + 1) = lk) := HSF.out hbk
        have hdk : decide ((k : Int) < kl) = false := by simp; omega
        clear HST HSF hbk
        go_wp2_with (first
            | (refine wpList_load_mid (by rfl) 123 (.tmp 21) (by rfl) gp (k * 17) (by rfl) (wrV x) _ HR.out Try.underlying123 rfl HI.out ?_)
            | (refine wpList_store_mid (by rfl) 123 (.tmp 7) (.tmp 22) (by rfl) wr.heap.size 0 (wrV x).toArray (by rfl) (by rfl) HTH.out HI2.out HA.out ?_))
        refine ⟨⟨k + 1, by omega, by go_num, ?_, HB3.out⟩, by simp [intOf]; omega⟩
        rw [HX.out]; exact HOW3.out
    · have hkn : k = d.pend.length := by omega
      subst hkn
      have c3' : wr.cell? ⟨h.p, 3, none⟩ = some (.int .i64 (d.wr : Int)) := by rw [hbel.cell hpl]; exact c3
      have hl3 : ∀ x ∈ d.pend, x.2.length = 16 := fun x hx => (HD.out.ok.l3 x hx).2
      have h16 := keepTo_16 d.pend ks d.fl d.pend.length (Nat.le_refl _) HD.out.ok.l1 hl3
      have hkl2 := keepTo_len d.pend ks d.fl d.pend.length
      have hmd := made_any (g := gl) (cap := cl) (keepTo d.pend ks d.fl d.pend.length) d.wr wr (by omega) (by omega) h16 hpw2 (by rw [hkl2]; exact how) hbel.size
      rw [hkl2] at hmd
      have HM : Hid (Calls Try.prog 67 #[.slice (some ⟨gl, 0, none⟩) d.fl.length cl, .int .i64 (d.wr : Int)] wr fun e w' =>
        ∃ h : Hd, e = .returned (.pointer (some ⟨h.p, 0, none⟩)) ∧ IsDev w.heap.size w' h (DV.made (keepTo d.pend ks d.fl d.pend.length) d.wr) ∧ Below wr.heap.size wr w' ∧ h.bf = gl ∧ wr.heap.size ≤ h.p ∧ wr.heap.size ≤ h.bs ∧ h.v2 = .slice none 0 0) := hmd
      have HBL : Hid (Below w.heap.size w wr) := hbel
      clear hmd how h16 hkl2 hl3 hbel
      go_wp2_with fail
      refine HM.out.mono ?_
      rintro e w5 ⟨h', rfl, hd5, hb5, _⟩
      have HD5 : Hid (IsDev w.heap.size w5 h' (DV.made (keepTo d.pend ks d.fl d.pend.length) d.wr)) := hd5
      clear hd5 HM
      go_wp2
      go_ret
      exact ⟨h', rfl, HD5.out, HBL.out.trans (hb5.mono HBL.out.size)⟩
end Go.Proofs.Ytncjnjlakhohgaa
