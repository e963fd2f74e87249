/-
What TopDev holds at each of its loops, and what each of its steps does to that.
-/
import Derived.Test.YtmallmchibdkgaaTopDefs
namespace Go.Proofs.Ytmallmchibdkgaa
open Go.RowKit

/- Ahead of the loop over the acts. -/
def Left1 (w : World) (n k m : Nat) (h : Hd) (wx : World) : Prop :=
  ∃ r : Mh, IsMay w.heap.size wx m r k (fun _ => [noughts]) ∧ IsDev w.heap.size wx h (DV.made (List.replicate n noughts) 0) ∧ Below w.heap.size w wx

theorem left1_start {w w1 : World} {n : Nat} {h : Hd} {cur : Array Value} (hd : IsDev w.heap.size w1 h (DV.made (List.replicate n noughts) 0)) (hb : Below w.heap.size w w1) (hc : cur.size = 20) :
    Left1 w n 0 w1.heap.size h (w1.alloc (.cells cur 64)) :=
  ⟨⟨fun _ => 0, fun _ => 0, fun _ => 0⟩, ⟨hb.size, by omega, ⟨cur, heap_alloc_new w1 _, hc, fun k hk => by omega⟩, fun k hk => by omega, fun i j hi => by omega⟩, hd.keep (fun k hk => Below.heap_alloc w1 _ k (hd.lt k hk).2), hb.trans (((Below.refl _ _).alloc (Nat.le_refl _) _).mono hb.size)⟩

theorem left1_next {w wr w2 : World} {n k m : Nat} {h : Hd} (hl : Left1 w n k m h wr) (hk : k < n) (hn : n ≤ 20) (hb2 : Below wr.heap.size wr w2) :
    ((∃ v, (w2.alloc (.cells #[.string (bytesOf noughts)] 9)).cell? ⟨m, k, none⟩ = some v) ∧ (w2.alloc (.cells #[.string (bytesOf noughts)] 9)).frozen? ⟨m, k, none⟩ = false) ∧
    Left1 w n (k + 1) m h ((w2.alloc (.cells #[.string (bytesOf noughts)] 9)).setCell ⟨m, k, none⟩ (.slice (some ⟨w2.heap.size, 0, none⟩) 1 1)) := by
  obtain ⟨r, hm, hd, hb⟩ := hl
  have hbx : Below wr.heap.size wr (w2.alloc (.cells #[.string (bytesOf noughts)] 9)) := hb2.trans (((Below.refl _ _).alloc (Nat.le_refl _) _).mono hb2.size)
  have hnb := heap_alloc_new w2 (.cells #[.string (bytesOf noughts)] 9)
  generalize w2.alloc (.cells #[.string (bytesOf noughts)] 9) = w3 at hbx hnb
  have hm3 := hm.below hbx
  refine ⟨hm3.spare k (by omega), r.put k w2.heap.size 0 1, (hm3.put k (k + 1) ⟨by omega, by omega⟩ (fun j hj e => by omega) rfl (fun _ _ _ => rfl) w2.heap.size 0 1 [noughts] (Nat.le_trans hb.size hb2.size) (fun j hj e => ?_) ⟨_, hnb, by simp, by simp, fun j hj => ?_⟩).rows (fun j hj => by split <;> rfl), (hd.keep (fun j hj => hbx.block j (hd.lt j hj).2)).keep (fun j hj => heap_setCell_other _ _ _ _ (fun e => ?_)), ?_⟩
  · have := (hm.lt (r.g j) (.inr ⟨j, hj, rfl⟩)).2
    have := hb2.size
    omega
  · have hj0 : j = 0 := by simpa using hj
    subst hj0
    rfl
  · exact apart_may hd hm j hj (.inl e)
  · have hb3 : Below w.heap.size w w3 := hb.trans (hbx.mono hb.size)
    exact hb3.trans (((Kept.refl (fun k => k = m) w3).setCell (.inl rfl) _).below (B := w.heap.size) hb3.size (fun k e => by rw [e]; exact hm.mB))

/- At each act. -/
def Left2 (w : World) (n k m p : Nat) (wx : World) : Prop :=
  ∃ (h : Hd) (d : DV) (r : Mh), h.p = p ∧ IsDev w.heap.size wx h d ∧ IsMay w.heap.size wx m r n (rowOf d) ∧ d.sn ∧ d.wr ≤ k ∧ d.fl.length = n ∧ Below w.heap.size w wx

theorem left2_start {w wr : World} {n m : Nat} {h : Hd} (hl : Left1 w n n m h wr) : Left2 w n 0 m h.p wr := by
  obtain ⟨r, hm, hd, hb⟩ := hl
  refine ⟨h, _, r, rfl, hd, hm.rows (fun j hj => ?_), made_sn _ _, Nat.le_refl _, by simp [DV.made], hb⟩
  rw [rowOf_made]
  simp [List.getD, hj]

theorem Left2.below {w wr W : World} {n k m p : Nat} (hl : Left2 w n k m p wr) (hb : Below wr.heap.size wr W) : Left2 w n k m p W := by
  obtain ⟨h, d, r, hp, hd, hm, hsn, hwr, hfl, hbel⟩ := hl
  exact ⟨h, d, r, hp, hd.keep (fun j hj => hb.block j (hd.lt j hj).2), hm.below hb, hsn, hwr, hfl, hbel.trans (hb.mono hbel.size)⟩

theorem Left2.bel {w wr : World} {n k m p : Nat} (hl : Left2 w n k m p wr) : Below w.heap.size w wr := by
  obtain ⟨h, d, r, hp, hd, hm, hsn, hwr, hfl, hbel⟩ := hl
  exact hbel

/- The act in a block of its own. -/
structure Box (W : World) (N : Nat) (x : ActV) : Prop where
  blk : W.heap[N]? = some (.cells x.cells.toArray 47 (0, 0))

theorem Box.cells {W : World} {N : Nat} {x : ActV} (h : Box W N x) : W.cell? ⟨N, 0, none⟩ = some (.string x.kind) ∧ W.cell? ⟨N, 1, none⟩ = some (.int .i64 x.a) ∧ W.cell? ⟨N, 5, none⟩ = some (.string x.s) := by
  refine ⟨?_, ?_, ?_⟩ <;> (rw [cell_of_row _ _ _ _ _ _ h.blk]; rfl)

theorem Box.keep {W W' : World} {N : Nat} {x : ActV} (h : Box W N x) (hk : W'.heap[N]? = W.heap[N]?) : Box W' N x := ⟨hk.trans h.blk⟩

theorem left2_box {w wr : World} {n k m p : Nat} (hl : Left2 w n k m p wr) (x : ActV) :
    Left2 w n k m p (wr.alloc (.cells x.cells.toArray 47)) ∧ Box (wr.alloc (.cells x.cells.toArray 47)) wr.heap.size x :=
  ⟨hl.below ((Below.refl _ _).alloc (Nat.le_refl _) _), ⟨heap_alloc_new wr _⟩⟩

theorem box_dev {B : Nat} {W : World} {h : Hd} {d : DV} {N : Nat} {x : ActV} (hd : IsDev B W h d) (hb : Box W N x) : ¬ h.fp N := fun hf => by
  obtain ⟨c1, t1, e1, p1⟩ := hd.kinds N hf
  rw [hb.blk] at e1
  simp only [Option.some.injEq, Obj.cells.injEq] at e1
  obtain ⟨_, rfl, _⟩ := e1
  rcases p1 with p1 | p1 | p1 <;> cases p1

theorem box_may {B : Nat} {W : World} {m : Nat} {r : Mh} {n : Nat} {rows : Nat → List (List UInt8)} {N : Nat} {x : ActV} (hm : IsMay B W m r n rows) (hb : Box W N x) : ¬ mayFp m r n N := fun hf => by
  obtain ⟨c1, t1, e1, p1⟩ := hm.kinds N hf
  rw [hb.blk] at e1
  simp only [Option.some.injEq, Obj.cells.injEq] at e1
  obtain ⟨_, rfl, _⟩ := e1
  rcases p1 with p1 | p1 <;> cases p1

/- A write that went well: its text onto its sector's row. -/
def LeftW (w : World) (n k m p N i : Nat) (x : ActV) (W : World) : Prop :=
  ∃ (g o l c g' o' c' : Nat) (w' : World), Box W N x ∧ Box (W.alloc (.cells #[.string x.s] 9)) N x ∧ Box w' N x ∧
    W.cell? ⟨m, i, none⟩ = some (.slice (some ⟨g, o, none⟩) l c) ∧ (W.alloc (.cells #[.string x.s] 9)).cell? ⟨m, i, none⟩ = some (.slice (some ⟨g, o, none⟩) l c) ∧
    (Builtin.append_ #[22, 22] 22 #[.slice (some ⟨g, o, none⟩) l c, .slice (some ⟨W.heap.size, 0, none⟩) 1 1]).run Try.prog (W.alloc (.cells #[.string x.s] 9)).drew = .ok (.slice (some ⟨g', o', none⟩) (l + 1) c') w' ∧
    (∃ v, w'.cell? ⟨m, i, none⟩ = some v) ∧ w'.frozen? ⟨m, i, none⟩ = false ∧ Left2 w n (k + 1) m p (w'.setCell ⟨m, i, none⟩ (.slice (some ⟨g', o', none⟩) (l + 1) c'))

theorem Kept.cell_box {S : Nat → Prop} {a b : World} (h : Kept S a b) {N : Nat} {x : ActV} (hb : Box a N x) (hS : ¬ S N) : Box b N x := hb.keep (h.block N (lt_of_some hb.blk) hS)

theorem left2_write {w W : World} {n k m p N : Nat} {x : ActV} (hl : Left2 w n k m p W) (hk : k ≤ 900) (hN : Box W N x) :
    Calls Try.prog 24 #[.pointer (some ⟨p, 0, none⟩), .int .i64 x.a, .string x.s] W fun e w' =>
      (∃ f : Int, f ≠ 0 ∧ e = .returned (.iface 102 (.int .i64 f)) ∧ Box w' N x ∧ Left2 w n (k + 1) m p w') ∨
      (e = .returned .nilIface ∧ x.a = (x.a.toNat : Int) ∧ x.a.toNat < n ∧ LeftW w n k m p N x.a.toNat x w') := by
  obtain ⟨h, d, r, rfl, hd, hm, hsn, hwr, hfl, hbel⟩ := hl
  refine (write_all x.a x.s W hd hbel.size (by omega)).mono ?_
  rintro e w' ⟨v, rfl, hd', hkp, hv⟩
  have hbel' : Below w.heap.size w w' := hbel.trans (hkp.below hbel.size (fun j hj => (hd.lt j hj).1))
  have hm' := hm.kept hkp (fun j hj hs => apart_may hd hm j hs hj)
  have hN' := hkp.cell_box hN (box_dev hd hN)
  unfold DV.doWrite at hd' ⊢
  by_cases h1 : d.has x.a = false ∨ x.s.size ≠ 16
  · rw [if_pos h1] at hd' ⊢
    exact .inl ⟨1, by decide, rfl, hN', ⟨{ h with v2 := v }, d, r, rfl, hd', hm', hsn, by omega, hfl, hbel'⟩⟩
  · rw [if_neg h1] at hd' ⊢
    by_cases h4 : d.fail = 0
    · rw [if_pos h4] at hd' ⊢
      exact .inl ⟨7, by decide, rfl, hN', ⟨{ h with v2 := v }, d.failing (-1), r, rfl, hd', hm', failing_sn hsn _, (by show d.wr ≤ _; omega), hfl, hbel'⟩⟩
    · rw [if_neg h4] at hd' ⊢
      have h2 : ¬ (d.has x.a = false) := fun e => h1 (.inl e)
      obtain ⟨e1, e2⟩ := has_nat h2
      rw [hfl] at e2
      have hrl : (rowOf d x.a.toNat).length ≤ 1000 := by
        have := rowOf_len d x.a.toNat
        have := hd.ok.few
        omega
      refine .inr ⟨rfl, e1, e2, ?_⟩
      obtain ⟨g', o', c', w2, hrun, ⟨hc, hfz⟩, ⟨r', hm2⟩, hk2⟩ := may_append hm' x.a.toNat e2 x.s hbel'.size hrl
      have hup : Below w'.heap.size w' (w'.alloc (.cells #[.string x.s] 9)) := (Below.refl _ _).alloc (Nat.le_refl _) _
      have hcell := (hm'.cell x.a.toNat e2).1
      have hNf := hk2.cell_box hN' (box_may hm' hN')
      have hmN : N ≠ m := fun e => box_may hm' hN' (.inl e)
      refine ⟨_, _, _, _, g', o', c', w2, hN', hN'.keep (hup.block N (lt_of_some hN'.blk)), hNf.keep (heap_setCell_other _ _ _ _ hmN).symm, hcell, ((hm'.below hup).cell x.a.toNat e2).1, hrun, hc, hfz, ?_⟩
      refine ⟨{ h with v2 := v }, d.ticked.wrote x.a.toNat x.s.data.toList, r', rfl, hd'.kept hk2 (apart_may hd' hm'), hm2.rows (fun j hj => ?_), wrote_sn (ticked_sn hsn) _ _, ?_, ?_, hbel'.trans (hk2.below hbel'.size (fun j hj => (hm'.lt j hj).1))⟩
      · rw [rowOf_wrote, rowOf_ticked, rowOf_ticked]
      · show d.ticked.wr + 1 ≤ _
        rw [DV.ticked_wr]; omega
      · show d.ticked.fl.length = _
        rw [DV.ticked_fl]; exact hfl

/- Behind a flush: the rows are cut, one by one. -/
def Left3 (w : World) (n k m p q : Nat) (wx : World) : Prop :=
  ∃ (h : Hd) (d : DV) (r : Mh), h.p = p ∧ IsDev w.heap.size wx h d.flushed ∧ IsMay w.heap.size wx m r n (fun i => if i < q then [d.seen.getD i []] else rowOf d i) ∧ d.sn ∧ d.wr ≤ k ∧ d.pend.length ≤ d.wr ∧ d.fl.length = n ∧ d.seen.length = n ∧ Below w.heap.size w wx

theorem left2_flush {w W : World} {n k m p : Nat} (hl : Left2 w n k m p W) :
    Calls Try.prog 28 #[.pointer (some ⟨p, 0, none⟩)] W fun e w' => e = .returned (.tuple #[]) ∧ Left3 w n k m p 0 w' := by
  obtain ⟨h, d, r, rfl, hd, hm, hsn, hwr, hfl, hbel⟩ := hl
  refine (flush_any W hd).mono ?_
  rintro e w' ⟨rfl, hd', hkp⟩
  have hS : ∀ j, (j = h.p ∨ j = h.bf) → h.fp j := fun j e => by rcases e with rfl | rfl; exact .inl rfl; exact .inr (.inl rfl)
  exact ⟨rfl, { h with v2 := .slice none 0 0 }, d, r, rfl, hd', (hm.kept hkp (fun j hj hs => apart_may hd hm j (hS j hs) hj)).rows (fun j hj => by rw [if_neg (Nat.not_lt_zero j)]), hsn, hwr, hd.ok.few, hfl, hd.ok.same.trans hfl, hbel.trans (hkp.below hbel.size (fun j hj => (hd.lt j (hS j hj)).1))⟩

theorem left3_next {w W : World} {n k m p q : Nat} (hl : Left3 w n k m p q W) (hq : q < n) (hk : k ≤ 900) :
    ∃ g o l c : Nat, l ≤ 1000 ∧ l < c ∧ W.cell? ⟨m, q, none⟩ = some (.slice (some ⟨g, o, none⟩) (l + 1) c) ∧ W.frozen? ⟨m, q, none⟩ = false ∧ Left3 w n k m p (q + 1) (W.setCell ⟨m, q, none⟩ (.slice (some ⟨g, o + l, none⟩) 1 (c - l))) := by
  obtain ⟨h, d, r, hp, hd, hm, hsn, hwr, hfew, hfl, hsl, hbel⟩ := hl
  have hcell := hm.cell q hq
  have hlen := rowOf_len d q
  have hpos := rowOf_pos d q
  obtain ⟨hc, hcut⟩ := hm.cut q hq (by simpa using hpos)
  simp only [Nat.lt_irrefl, if_false] at hcell hc hcut
  rw [rowOf_last hsn q (by omega)] at hcut
  have hl1 : (rowOf d q).length = (rowOf d q).length - 1 + 1 := by omega
  refine ⟨r.g q, r.o q, (rowOf d q).length - 1, r.c q, by omega, by omega, by rw [← hl1]; exact hcell.1, hcell.2, ⟨h, d, _, hp, hd.keep (fun j hj => heap_setCell_other _ _ _ _ (fun e => apart_may hd hm j hj (.inl e))), hcut.rows (fun j hj => ?_), hsn, hwr, hfew, hfl, hsl, ?_⟩⟩
  · by_cases e : j = q
    · subst e
      rw [if_pos (by omega), if_pos rfl]
    · rw [if_neg e]
      by_cases e2 : j < q
      · rw [if_pos e2, if_pos (by omega)]
      · rw [if_neg e2, if_neg (by omega)]
  · exact hbel.trans (((Kept.refl (fun k => k = m) W).setCell (.inl rfl) _).below (B := w.heap.size) hbel.size (fun k e => by rw [e]; exact hm.mB))

theorem left3_end {w W : World} {n k m p : Nat} (hl : Left3 w n k m p n W) : Left2 w n (k + 1) m p W := by
  obtain ⟨h, d, r, hp, hd, hm, hsn, hwr, hfew, hfl, hsl, hbel⟩ := hl
  exact ⟨h, d.flushed, r, hp, hd, hm.rows (fun j hj => by rw [if_pos hj, rowOf_flushed]), flushed_sn d, (by show d.wr ≤ _; omega), hsl, hbel⟩
end Go.Proofs.Ytmallmchibdkgaa
