/-
A job in memory: the program's (its own block, its set, its bucket, its list, its shelf), and what turns of it.
What the small calls on a job of the program give: what is above its file, what it wants, its state, whether it goes.
-/
import Derived.Test.YtjegaljdindfaabGreatDoorQJobNew
import Derived.Test.YtjegaljdindfaabGreatDoorQRjSet
import Derived.Test.YtjegaljdindfaabGreatDoorQLawLaid0
import Derived.Test.YtjegaljdindfaabGreatDoorQChainRead
import Derived.Test.YtjegaljdindfaabGreatDoorQShelf
namespace Go.Proofs.YtjegaljdindfaabGreatDoor
open Go.RowKit Go.Maps

theorem Kept.of4 {S : Nat → Prop} {w w' : World} (h : S4.Kept S w w') : Kept S w w' := ⟨h.os, h.tape, h.output, h.size, h.block⟩

structure IsJob (w : World) (jp sp lp bp : Nat) (a : Option Addr) (cap : Nat) (j : JV) : Prop where
  blk : w.heap[jp]? = some (.cells #[.pointer (some ⟨sp, 0, none⟩), .slice a j.l.length cap, .int .i64 j.kind, .int .i64 j.file, .int .i64 j.stage, .pointer (some ⟨lp, 0, none⟩), .pointer (some ⟨bp, 0, none⟩), .int .i64 j.last] 112 (0, 0))
  set : S4.IsSet w lp j.n j.x
  bkt : S4.Three 179 w bp j.rate j.burst j.lv

theorem IsJob.cells {w : World} {jp sp lp bp cap : Nat} {a : Option Addr} {j : JV} (h : IsJob w jp sp lp bp a cap j) :
    w.cell? ⟨jp, 0, none⟩ = some (.pointer (some ⟨sp, 0, none⟩)) ∧ w.cell? ⟨jp, 1, none⟩ = some (.slice a j.l.length cap) ∧ w.cell? ⟨jp, 2, none⟩ = some (.int .i64 j.kind) ∧ w.cell? ⟨jp, 3, none⟩ = some (.int .i64 j.file) ∧ w.cell? ⟨jp, 4, none⟩ = some (.int .i64 j.stage) ∧ w.cell? ⟨jp, 5, none⟩ = some (.pointer (some ⟨lp, 0, none⟩)) ∧ w.cell? ⟨jp, 6, none⟩ = some (.pointer (some ⟨bp, 0, none⟩)) ∧ w.cell? ⟨jp, 7, none⟩ = some (.int .i64 j.last) ∧ w.frozen? ⟨jp, 4, none⟩ = false ∧ w.frozen? ⟨jp, 7, none⟩ = false := by
  have h' := h.blk
  refine ⟨?_, ?_, ?_, ?_, ?_, ?_, ?_, ?_, ?_, ?_⟩ <;> simp [World.cell?, World.frozen?, h']

theorem IsJob.ne {w : World} {jp sp lp bp cap : Nat} {a : Option Addr} {j : JV} (h : IsJob w jp sp lp bp a cap j) : jp ≠ lp ∧ jp ≠ bp ∧ lp ≠ bp := by
  have h1 : w.heap[jp]? = _ := h.blk
  have h2 : w.heap[lp]? = _ := h.set
  have h3 : w.heap[bp]? = _ := h.bkt
  refine ⟨fun e => ?_, fun e => ?_, fun e => ?_⟩
  · rw [e, h2] at h1; simp at h1
  · rw [e, h3] at h1; simp at h1
  · rw [e, h3] at h2; simp at h2

theorem IsJob.lts {w : World} {jp sp lp bp cap : Nat} {a : Option Addr} {j : JV} (h : IsJob w jp sp lp bp a cap j) : jp < w.heap.size ∧ lp < w.heap.size ∧ bp < w.heap.size := ⟨lt_of_some h.blk, lt_of_some h.set, lt_of_some h.bkt⟩

theorem IsJob.keep {w w' : World} {jp sp lp bp cap : Nat} {a : Option Addr} {j : JV} (h : IsJob w jp sp lp bp a cap j) (h1 : w'.heap[jp]? = w.heap[jp]?) (h2 : w'.heap[lp]? = w.heap[lp]?) (h3 : w'.heap[bp]? = w.heap[bp]?) : IsJob w' jp sp lp bp a cap j := ⟨h1.trans h.blk, h2.trans h.set, h3.trans h.bkt⟩

/- What a job's calls turn, in the program. -/
def fpP (xs : Nat → Ih) (s : SV) (jp lp bp : Nat) (k : Nat) : Prop := fpS xs s k ∨ k = jp ∨ k = lp ∨ k = bp

structure PJ (w : World) (sp jp lp bp : Nat) (a : Option Addr) (cap : Nat) (xs : Nat → Ih) (s : SV) (m C : Nat) (j : JV) : Prop where
  shelf : IsShelf w sp xs s m
  job : IsJob w jp sp lp bp a cap j
  nums : Nums w a j.l
  ap : Apart a (fpP xs s jp lp bp)
  ok : JOk s C j
  cap : j.l.length ≤ cap

theorem PJ.fpLt {w : World} {sp jp lp bp cap m C : Nat} {a : Option Addr} {xs : Nat → Ih} {s : SV} {j : JV} (h : PJ w sp jp lp bp a cap xs s m C j) {k : Nat} (hk : fpP xs s jp lp bp k) : k < w.heap.size := by
  obtain ⟨l1, l2, l3⟩ := h.job.lts
  rcases hk with hk | rfl | rfl | rfl
  · exact h.shelf.fpLt hk
  · exact l1
  · exact l2
  · exact l3

theorem PJ.not {w : World} {sp jp lp bp cap m C : Nat} {a : Option Addr} {xs : Nat → Ih} {s : SV} {j : JV} (h : PJ w sp jp lp bp a cap xs s m C j) : ¬ fpS xs s jp ∧ ¬ fpS xs s lp ∧ ¬ fpS xs s bp ∧ ¬ fpP xs s jp lp bp sp :=
  ⟨h.shelf.notFp h.job.blk (by decide), h.shelf.notFp h.job.set (by decide), h.shelf.notFp h.job.bkt (by decide), by
    have h0 := h.shelf.blk
    have h1 := h.job.blk
    have h2 : w.heap[lp]? = _ := h.job.set
    have h3 : w.heap[bp]? = _ := h.job.bkt
    rintro (e | e | e | e)
    · exact h.shelf.notSp e
    · rw [e, h1] at h0; simp at h0
    · rw [e, h2] at h0; simp at h0
    · rw [e, h3] at h0; simp at h0⟩

/- While other blocks turn. -/
theorem PJ.beside {S S' : Nat → Prop} {w w' : World} {sp jp lp bp cap m C : Nat} {a : Option Addr} {xs : Nat → Ih} {s : SV} {j : JV} (h : PJ w sp jp lp bp a cap xs s m C j) (hm : Moved S w S' w') (hp : ¬ S sp) (hs : ∀ k, fpP xs s jp lp bp k → ¬ S k) (ha : Apart a S) : PJ w' sp jp lp bp a cap xs s m C j := by
  obtain ⟨l1, l2, l3⟩ := h.job.lts
  exact ⟨h.shelf.beside hm hp (fun k hk => hs k (.inl hk)), h.job.keep (hm.block l1 (hs _ (.inr (.inl rfl)))) (hm.block l2 (hs _ (.inr (.inr (.inl rfl))))) (hm.block l3 (hs _ (.inr (.inr (.inr rfl))))), h.nums.moved hm ha, h.ap, h.ok, h.cap⟩

theorem PJ.below {w w' : World} {sp jp lp bp cap m C : Nat} {a : Option Addr} {xs : Nat → Ih} {s : SV} {j : JV} (h : PJ w sp jp lp bp a cap xs s m C j) (hb : Below w.heap.size w w') : PJ w' sp jp lp bp a cap xs s m C j :=
  h.beside (Moved.of_below (S := fun _ => False) hb) (fun e => e) (fun _ _ e => e) (fun _ _ _ e => e)

theorem PJ.more {w : World} {sp jp lp bp cap m m' C : Nat} {a : Option Addr} {xs : Nat → Ih} {s : SV} {j : JV} (h : PJ w sp jp lp bp a cap xs s m C j) (hm : m ≤ m') : PJ w sp jp lp bp a cap xs s m' C j :=
  ⟨h.shelf.more hm, h.job, h.nums, h.ap, h.ok, h.cap⟩

theorem Moved.cell_ {S : Nat → Prop} {w : World} {p : Addr} (v : Value) (h : S p.block) : Moved S w S (w.setCell p v) :=
  ⟨Kept.setCell (Kept.refl S w) (.inl h) v, fun _ h => .inl h⟩

/- The shelf acts. -/
theorem PJ.acted {w w' : World} {sp jp lp bp cap m m' C : Nat} {a : Option Addr} {xs xs' : Nat → Ih} {s z : SV} {j : JV} (h : PJ w sp jp lp bp a cap xs s m C j) (h1 : IsShelf w' sp xs' z m') (hm : Moved (fpS xs s) w (fpS xs' z) w') (hz : s.alike z) :
    PJ w' sp jp lp bp a cap xs' z m' C j ∧ Moved (fpP xs s jp lp bp) w (fpP xs' z jp lp bp) w' := by
  obtain ⟨n1, n2, n3, _⟩ := h.not
  obtain ⟨l1, l2, l3⟩ := h.job.lts
  have hM : Moved (fpP xs s jp lp bp) w (fpP xs' z jp lp bp) w' := ⟨hm.kept.mono fun k _ hk => .inl hk, fun k hk => by
    rcases hk with hk | hk
    · rcases hm.new k hk with h2 | h2
      · exact .inl (.inl h2)
      · exact .inr h2
    · exact .inl (.inr hk)⟩
  exact ⟨⟨h1, h.job.keep (hm.block l1 n1) (hm.block l2 n2) (hm.block l3 n3), h.nums.moved hm (fun g o e hf => h.ap g o e (.inl hf)), h.ap.moved h.nums h.ok.ne hM, h.ok.over hz, h.cap⟩, hM⟩

/- Its own blocks turn. -/
theorem PJ.own {w w' : World} {sp jp lp bp cap m C : Nat} {a : Option Addr} {xs : Nat → Ih} {s : SV} {j j' : JV} (h : PJ w sp jp lp bp a cap xs s m C j) (hk : Kept (fun k => k = jp ∨ k = lp ∨ k = bp) w w') (hj : IsJob w' jp sp lp bp a cap j') (hl : j'.l = j.l) (hok : JOk s C j') :
    PJ w' sp jp lp bp a cap xs s m C j' ∧ Moved (fpP xs s jp lp bp) w (fpP xs s jp lp bp) w' := by
  obtain ⟨n1, n2, n3, n4⟩ := h.not
  have hM : Moved (fpP xs s jp lp bp) w (fpP xs s jp lp bp) w' := ⟨hk.mono fun k _ hk => .inr hk, fun k hk => .inl hk⟩
  refine ⟨⟨h.shelf.keep (hM.block (lt_of_some h.shelf.blk) n4) (fun k hf => hk.block k (h.shelf.fpLt hf) (fun e => ?_)), hj, by rw [hl]; exact h.nums.moved hM h.ap, h.ap, hok, by rw [hl]; exact h.cap⟩, hM⟩
  rcases e with rfl | rfl | rfl
  · exact n1 hf
  · exact n2 hf
  · exact n3 hf

theorem IsJob.set4 {w : World} {jp sp lp bp cap : Nat} {a : Option Addr} {j : JV} (h : IsJob w jp sp lp bp a cap j) (st : Int) : IsJob (w.setCell ⟨jp, 4, none⟩ (.int .i64 st)) jp sp lp bp a cap (j.at st) := by
  obtain ⟨n1, n2, n3⟩ := h.ne
  exact ⟨by rw [heap_setCell_same w jp 4 _ _ _ h.blk]; rfl, (heap_setCell_other w ⟨jp, 4, none⟩ lp _ (Ne.symm n1)).trans h.set, (heap_setCell_other w ⟨jp, 4, none⟩ bp _ (Ne.symm n2)).trans h.bkt⟩

theorem PJ.set4 {w : World} {sp jp lp bp cap m C : Nat} {a : Option Addr} {xs : Nat → Ih} {s : SV} {j : JV} (h : PJ w sp jp lp bp a cap xs s m C j) {st : Int} (hs : st = 1 ∨ st = 2 ∨ st = 4 ∨ st = 5) :
    PJ (w.setCell ⟨jp, 4, none⟩ (.int .i64 st)) sp jp lp bp a cap xs s m C (j.at st) ∧ Moved (fpP xs s jp lp bp) w (fpP xs s jp lp bp) (w.setCell ⟨jp, 4, none⟩ (.int .i64 st)) :=
  h.own (Kept.setCell (Kept.refl _ w) (.inl (.inl rfl)) _) (h.job.set4 st) rfl (h.ok.at hs)

theorem PJ.putS {w w' : World} {sp jp lp bp cap m C : Nat} {a : Option Addr} {xs : Nat → Ih} {s : SV} {j : JV} (h : PJ w sp jp lp bp a cap xs s m C j) {c : Int} {b : Bool} (h1 : S4.IsSet w' lp j.n (S4.putV j.n j.x c b)) (hk : S4.Kept (fun k => k = lp) w w') :
    PJ w' sp jp lp bp a cap xs s m C (j.put (S4.putV j.n j.x c b)) ∧ Moved (fpP xs s jp lp bp) w (fpP xs s jp lp bp) w' := by
  obtain ⟨n1, n2, n3⟩ := h.job.ne
  obtain ⟨l1, l2, l3⟩ := h.job.lts
  exact h.own ((Kept.of4 hk).mono fun k _ e => .inr (.inl e)) ⟨(hk.block jp l1 n1).trans h.job.blk, h1, (hk.block bp l3 (Ne.symm n3)).trans h.job.bkt⟩ rfl (h.ok.put c b)

theorem PJ.putL {w w' : World} {sp jp lp bp cap m C : Nat} {a : Option Addr} {xs : Nat → Ih} {s : SV} {j : JV} (h : PJ w sp jp lp bp a cap xs s m C j) {lv : Int} (h1 : S4.Three 179 w' bp j.rate j.burst lv) (hk : S4.Kept (fun k => k = bp) w w') (hl : 0 ≤ lv ∧ lv ≤ j.burst) :
    PJ w' sp jp lp bp a cap xs s m C { j with lv := lv } ∧ Moved (fpP xs s jp lp bp) w (fpP xs s jp lp bp) w' := by
  obtain ⟨n1, n2, n3⟩ := h.job.ne
  obtain ⟨l1, l2, l3⟩ := h.job.lts
  exact h.own ((Kept.of4 hk).mono fun k _ e => .inr (.inr e)) ⟨(hk.block jp l1 n2).trans h.job.blk, (hk.block lp l2 n3).trans h.job.set, h1⟩ rfl { h.ok with lv := ⟨hl.1, hl.2, h.ok.lv.2.2⟩ }

theorem IsJob.set7 {w : World} {jp sp lp bp cap : Nat} {a : Option Addr} {j : JV} (h : IsJob w jp sp lp bp a cap j) (c : Int) : IsJob (w.setCell ⟨jp, 7, none⟩ (.int .i64 c)) jp sp lp bp a cap { j with last := c } := by
  obtain ⟨n1, n2, n3⟩ := h.ne
  exact ⟨by rw [heap_setCell_same w jp 7 _ _ _ h.blk]; rfl, (heap_setCell_other w ⟨jp, 7, none⟩ lp _ (Ne.symm n1)).trans h.set, (heap_setCell_other w ⟨jp, 7, none⟩ bp _ (Ne.symm n2)).trans h.bkt⟩

theorem PJ.set7 {w : World} {sp jp lp bp cap m C : Nat} {a : Option Addr} {xs : Nat → Ih} {s : SV} {j : JV} (h : PJ w sp jp lp bp a cap xs s m C j) {c : Int} (hs : -1 ≤ c ∧ c < 64) :
    PJ (w.setCell ⟨jp, 7, none⟩ (.int .i64 c)) sp jp lp bp a cap xs s m C { j with last := c } ∧ Moved (fpP xs s jp lp bp) w (fpP xs s jp lp bp) (w.setCell ⟨jp, 7, none⟩ (.int .i64 c)) :=
  h.own (Kept.setCell (Kept.refl _ w) (.inl (.inl rfl)) _) (h.job.set7 c) rfl { h.ok with last := hs }

/- What a call leaves. -/
def PDid (sp jp lp bp : Nat) (a : Option Addr) (cap : Nat) (xs : Nat → Ih) (s z : SV) (m C : Nat) (j : JV) (w w' : World) : Prop := ∃ xs', PJ w' sp jp lp bp a cap xs' z m C j ∧ Moved (fpP xs s jp lp bp) w (fpP xs' z jp lp bp) w'

theorem PDid.refl {w : World} {sp jp lp bp cap m C : Nat} {a : Option Addr} {xs : Nat → Ih} {s : SV} {j : JV} (h : PJ w sp jp lp bp a cap xs s m C j) : PDid sp jp lp bp a cap xs s s m C j w w := ⟨xs, h, Moved.refl _ _⟩
theorem PDid.below {w w' : World} {sp jp lp bp cap m C : Nat} {a : Option Addr} {xs : Nat → Ih} {s : SV} {j : JV} (h : PJ w sp jp lp bp a cap xs s m C j) (hb : Below w.heap.size w w') : PDid sp jp lp bp a cap xs s s m C j w w' := ⟨xs, h.below hb, Moved.of_below hb⟩
theorem PDid.after {w w1 w' : World} {sp jp lp bp cap m C : Nat} {a : Option Addr} {xs xs1 : Nat → Ih} {s s1 z : SV} {j : JV} (hm : Moved (fpP xs s jp lp bp) w (fpP xs1 s1 jp lp bp) w1) (h : PDid sp jp lp bp a cap xs1 s1 z m C j w1 w') : PDid sp jp lp bp a cap xs s z m C j w w' := by
  obtain ⟨xs', h1, h2⟩ := h
  exact ⟨xs', h1, hm.trans h2⟩
end Go.Proofs.YtjegaljdindfaabGreatDoor

namespace Go.Proofs.YtjegaljdindfaabGreatDoor
open Go.RowKit Go.Maps
attribute [local go_sem ↓] Go.wp_at_zero Go.wp_at_succ

/- The cells that a job's calls read ahead of its set. -/
structure JHd (w : World) (jp sp : Nat) (a : Option Addr) (cap : Nat) (j : JV) : Prop where
  c0 : w.cell? ⟨jp, 0, none⟩ = some (.pointer (some ⟨sp, 0, none⟩))
  c1 : w.cell? ⟨jp, 1, none⟩ = some (.slice a j.l.length cap)
  c2 : w.cell? ⟨jp, 2, none⟩ = some (.int .i64 j.kind)
  c3 : w.cell? ⟨jp, 3, none⟩ = some (.int .i64 j.file)
  cap : j.l.length ≤ cap

theorem IsJob.hd {w : World} {jp sp lp bp cap : Nat} {a : Option Addr} {j : JV} (h : IsJob w jp sp lp bp a cap j) (hc : j.l.length ≤ cap) : JHd w jp sp a cap j := by
  obtain ⟨c0, c1, c2, c3, _⟩ := h.cells
  exact ⟨c0, c1, c2, c3, hc⟩
theorem JHd.below {w w' : World} {jp sp cap : Nat} {a : Option Addr} {j : JV} (h : JHd w jp sp a cap j) (hb : Below w.heap.size w w') : JHd w' jp sp a cap j := by
  have hl := World.block_lt_of_cell? _ _ h.c0
  exact ⟨(hb.cell (p := ⟨jp, 0, none⟩) hl).trans h.c0, (hb.cell (p := ⟨jp, 1, none⟩) hl).trans h.c1, (hb.cell (p := ⟨jp, 2, none⟩) hl).trans h.c2, (hb.cell (p := ⟨jp, 3, none⟩) hl).trans h.c3, h.cap⟩

theorem Nums.take {w : World} {a : Option Addr} {l : List Int} (h : Nums w a l) (d : Nat) : Nums w a (l.take d) := fun k hk => by
  have h1 : k < d ∧ k < l.length := by rw [List.length_take] at hk; omega
  obtain ⟨g, o, e1, e2⟩ := h k h1.2
  refine ⟨g, o, e1, ?_⟩
  rw [e2]
  congr 2
  rw [List.getD_eq_getElem?_getD, List.getD_eq_getElem?_getD, List.getElem?_take_of_lt h1.1]

theorem index_any {g o n cap : Nat} (l : List Int) (x : Int) (w : World) (h : Nums w (some ⟨g, o, none⟩) l) (hn : l.length = n) (h5 : n ≤ 100) :
    Calls Tryz.prog 160 #[.slice (some ⟨g, o, none⟩) n cap, .int .i64 x] w fun e w' => e = .returned (.int .i64 (Lib.idxOf l x)) ∧ w' = w := by
  subst hn
  have := Tryz.slices_Index_int g o l.length cap l x w (Nat.le_refl _) (by omega) (fun j hj => by
    obtain ⟨g', o', e1, e2⟩ := h j hj
    cases e1
    exact e2)
  rw [List.take_length] at this
  exact this

theorem contains_any {g o n cap : Nat} (l : List Int) (x : Int) (w : World) (h : Nums w (some ⟨g, o, none⟩) l) (hn : l.length = n) (h5 : n ≤ 100) :
    Calls Tryz.prog 120 #[.slice (some ⟨g, o, none⟩) n cap, .int .i64 x] w fun e w' => e = .returned (.bool (l.contains x)) ∧ w' = w := by
  subst hn
  have := Tryz.slices_Contains_int g o l.length cap l x w (Nat.le_refl _) (by omega) (fun j hj => by
    obtain ⟨g', o', e1, e2⟩ := h j hj
    cases e1
    exact e2)
  rw [List.take_length] at this
  exact this

set_option maxRecDepth 100000 in
set_option maxHeartbeats 1000000 in
theorem above_any {jp sp cap C : Nat} {a : Option Addr} {s : SV} {j : JV} (w : World) (hd : JHd w jp sp a cap j) (hn : Nums w a j.l) (ok : JOk s C j) (hk : j.kind ≠ 1) :
    Calls Tryz.prog 157 #[.pointer (some ⟨jp, 0, none⟩)] w fun e w' => e = .returned (.slice a j.above.length cap) ∧ Below w.heap.size w w' := by
  obtain ⟨c0, c1, c2, c3, hcap⟩ := hd
  obtain ⟨g, o, rfl, _⟩ := hn 0 (by have := ok.ne; exact List.length_pos_iff.2 this)
  have HIX : Hid (∀ W : World, Below w.heap.size w W → Calls Tryz.prog 160 #[.slice (some ⟨g, o, none⟩) j.l.length cap, .int .i64 j.file] W fun e w' => e = .returned (.int .i64 (Lib.idxOf j.l j.file)) ∧ w' = W) := fun W hb => index_any j.l j.file W (hn.below hb) rfl (by have := ok.len; omega)
  have hl5 := ok.len
  have hab : j.above.length = j.deep := by unfold JV.above; rw [List.length_take]; have := ok.deep; omega
  have hix := ok.idx hk
  rw [hab]
  have HBD : Hid (Below w.heap.size w w.drew) := (Below.refl _ _).drew
  have d1 : w.drew.cell? ⟨jp, 1, none⟩ = some (.slice (some ⟨g, o, none⟩) j.l.length cap) := c1
  have d3 : w.drew.cell? ⟨jp, 3, none⟩ = some (.int .i64 j.file) := c3
  generalize j.file = fl at HIX c3 d3 hix
  generalize Lib.idxOf j.l fl = ix at HIX hix
  generalize j.l.length = n at HIX c1 d1 hl5 hix hcap
  generalize j.deep = dp at hix ⊢
  clear ok hk hab c0 c2 hn
  rcases hix with ⟨h1, h2⟩ | ⟨h1, h2⟩
  · subst h1
    have q0 : (0 : Int) ≤ (dp : Int) := by omega
    have q1 : (dp : Int) ≤ (n : Int) := by omega
    have q3 : dp ≤ cap := by omega
    have q2 : decide ((0 : Int) ≤ (dp : Int)) = true := decide_eq_true q0
    go_enter Tryz.func157, Tryz.ntmps157
    go_wp2
    go_region_held3 (fun W => W.cell? ⟨jp, 1, none⟩ = some (.slice (some ⟨g, o, none⟩) n cap) ∧ W.cell? ⟨jp, 3, none⟩ = some (.int .i64 fl))
      (first | (exact ⟨d1, d3⟩) | assumption)
      (first
        | (go_at_call 160; refine (HIX.out _ HBD.out).mono ?_; rintro e w' ⟨rfl, rfl⟩))
    go_wp2
    go_ret
    exact ⟨rfl, HBD.out⟩
  · subst h1
    subst h2
    have q2 : decide ((0 : Int) ≤ -1) = false := by decide
    go_enter Tryz.func157, Tryz.ntmps157
    go_wp2
    go_region_held3 (fun W => W.cell? ⟨jp, 1, none⟩ = some (.slice (some ⟨g, o, none⟩) dp cap) ∧ W.cell? ⟨jp, 3, none⟩ = some (.int .i64 fl))
      (first | (exact ⟨d1, d3⟩) | assumption)
      (first
        | (go_at_call 160; refine (HIX.out _ HBD.out).mono ?_; rintro e w' ⟨rfl, rfl⟩))
    go_wp2
    go_ret
    exact ⟨rfl, HBD.out⟩

set_option maxRecDepth 100000 in
set_option maxHeartbeats 1000000 in
theorem wants_any {jp sp cap C m : Nat} {a : Option Addr} {xs : Nat → Ih} {s : SV} {j : JV} (c : Int) (w : World) (hd : JHd w jp sp a cap j) (hs : IsShelf w sp xs s m) (hn : Nums w a j.l) (ok : JOk s C j) :
    Calls Tryz.prog 115 #[.pointer (some ⟨jp, 0, none⟩), .int .i64 c] w fun e w' => e = .returned (.bool (j.wantB s c)) ∧ Below w.heap.size w w' := by
  have HAB : Hid (j.kind ≠ 1 → ∀ W : World, Below w.heap.size w W → Calls Tryz.prog 157 #[.pointer (some ⟨jp, 0, none⟩)] W fun e w' => e = .returned (.slice a j.above.length cap) ∧ Below W.heap.size W w') := fun hk W hb => above_any W (hd.below hb) (hn.below hb) ok hk
  have HFD : Hid (∀ W : World, Below w.heap.size w W → Calls Tryz.prog 44 #[.pointer (some ⟨sp, 0, none⟩), .slice a j.above.length cap, .int .i64 c] W fun e w' => e = .returned (.int .i64 (s.found j.above c)) ∧ Below W.heap.size W w') := fun W hb => found_any j.above c W (hs.below hb) ((hn.below hb).take _) (by
    show (j.l.take j.deep).length ≤ 100
    rw [List.length_take]; have := ok.len; omega)
  have hkd := ok.kind
  obtain ⟨c0, c1, c2, c3, hcap⟩ := hd
  have hjl := World.block_lt_of_cell? _ _ c0
  have d0 : w.drew.cell? ⟨jp, 0, none⟩ = some (.pointer (some ⟨sp, 0, none⟩)) := c0
  have HBD : Hid (Below w.heap.size w w.drew) := (Below.refl _ _).drew
  have HC0 : Hid (∀ W : World, Below w.heap.size w W → W.cell? ⟨jp, 0, none⟩ = some (.pointer (some ⟨sp, 0, none⟩))) := fun W hb => (hb.cell (p := ⟨jp, 0, none⟩) hjl).trans c0
  clear hs hn ok c1 c3 hcap
  unfold JV.wantB
  generalize j.above.length = al at HAB HFD
  generalize s.found j.above c = fo at HFD ⊢
  generalize j.kind = kd at HAB hkd c2 ⊢
  rcases hkd with rfl | rfl | rfl
  · clear HAB HFD
    go_enter Tryz.func115, Tryz.ntmps115
    go_wp2
    go_ret
    exact ⟨rfl, Below.refl _ _⟩
  · have HA := toHid (HAB.out (by decide))
    clear HAB
    go_enter Tryz.func115, Tryz.ntmps115
    go_wp2
    go_region_held3 (fun W => W.cell? ⟨jp, 0, none⟩ = some (.pointer (some ⟨sp, 0, none⟩)))
      (first | (exact d0) | assumption)
      (first
        | (go_at_call 157; refine (HA.out _ HBD.out).mono ?_; rintro e w1 ⟨rfl, hb1⟩; have HB1 := toHid (HBD.out.trans (hb1.mono HBD.out.size)); have e1 := HC0.out _ HB1.out; clear hb1)
        | (go_at_call 44; refine (HFD.out _ HB1.out).mono ?_; rintro e w2 ⟨rfl, hb2⟩; have HB2 := toHid (HB1.out.trans (hb2.mono HB1.out.size)); have e2 := HC0.out _ HB2.out; clear hb2))
    go_wp2
    go_ret
    exact ⟨rfl, HB2.out⟩
  · have HA := toHid (HAB.out (by decide))
    clear HAB
    go_enter Tryz.func115, Tryz.ntmps115
    go_wp2
    go_region_held3 (fun W => W.cell? ⟨jp, 0, none⟩ = some (.pointer (some ⟨sp, 0, none⟩)))
      (first | (exact d0) | assumption)
      (first
        | (go_at_call 157; refine (HA.out _ HBD.out).mono ?_; rintro e w1 ⟨rfl, hb1⟩; have HB1 := toHid (HBD.out.trans (hb1.mono HBD.out.size)); have e1 := HC0.out _ HB1.out; clear hb1)
        | (go_at_call 44; refine (HFD.out _ HB1.out).mono ?_; rintro e w2 ⟨rfl, hb2⟩; have HB2 := toHid (HB1.out.trans (hb2.mono HB1.out.size)); have e2 := HC0.out _ HB2.out; clear hb2))
    go_wp2
    go_ret
    exact ⟨rfl, HB2.out⟩

set_option maxRecDepth 100000 in
set_option maxHeartbeats 1000000 in
theorem goes_any {jp sp lp bp cap : Nat} {a : Option Addr} {j : JV} (w : World) (h : IsJob w jp sp lp bp a cap j) :
    Calls Tryz.prog 21 #[.pointer (some ⟨jp, 0, none⟩)] w fun e w' => e = .returned (.bool (decide (j.stage < 4))) ∧ w' = w := by
  obtain ⟨c0, c1, c2, c3, c4, c5, c6, c7, f4, f7⟩ := h.cells
  clear h
  go_enter Tryz.func21, Tryz.ntmps21
  go_wp2
  go_ret
  exact ⟨rfl, rfl⟩

set_option maxRecDepth 100000 in
set_option maxHeartbeats 1000000 in
theorem state_any {jp sp lp bp cap : Nat} {a : Option Addr} {j : JV} (w : World) (h : IsJob w jp sp lp bp a cap j) (hok : S4.SetOk j.n j.x) :
    Calls Tryz.prog 62 #[.pointer (some ⟨jp, 0, none⟩)] w fun e w' => e = .returned (.int .i64 j.state) ∧ w' = w := by
  obtain ⟨c0, c1, c2, c3, c4, c5, c6, c7, f4, f7⟩ := h.cells
  have HCT := toHid (S4.scount_any w h.set hok)
  clear h hok c0 c1 c2 c3 c6 c7 f4 f7
  unfold JV.state
  generalize S4.cnt j.x 64 = ct at HCT ⊢
  generalize j.stage = st at c4 ⊢
  by_cases h1 : st = 1
  · subst h1
    have g1 : ((1 : Int) == 1) = true := rfl
    by_cases h0 : ct = 0
    · subst h0
      have g2 : (((0 : Nat) : Int) == 0) = true := rfl
      rw [if_pos ⟨rfl, rfl⟩]
      go_enter Tryz.func62, Tryz.ntmps62
      go_wp2_with fail
      refine HCT.out.mono ?_
      rintro e w' ⟨rfl, hw⟩
      have hw' := hw.symm
      subst hw'
      clear hw
      go_wp2
      go_ret
      exact ⟨rfl, rfl⟩
    · have g2 : ((ct : Int) == 0) = false := by simp; omega
      rw [if_neg (fun e => h0 e.2)]
      go_enter Tryz.func62, Tryz.ntmps62
      go_wp2_with fail
      refine HCT.out.mono ?_
      rintro e w' ⟨rfl, hw⟩
      have hw' := hw.symm
      subst hw'
      clear hw
      go_wp2
      go_ret
      exact ⟨rfl, rfl⟩
  · have g1 : (st == 1) = false := by simpa using h1
    rw [if_neg (fun e => h1 e.1)]
    clear HCT
    go_enter Tryz.func62, Tryz.ntmps62
    go_wp2
    go_ret
    exact ⟨rfl, rfl⟩

set_option maxRecDepth 100000 in
set_option maxHeartbeats 1000000 in
theorem status_any {jp sp lp bp cap : Nat} {a : Option Addr} {j : JV} (w : World) (h : IsJob w jp sp lp bp a cap j) (hok : S4.SetOk j.n j.x) :
    Calls Tryz.prog 19 #[.pointer (some ⟨jp, 0, none⟩)] w fun e w' => e = .returned (.agg #[.int .i64 j.kind, .int .i64 j.file, .int .i64 j.state, .int .i64 (S4.cnt j.x 64 : Nat)]) ∧ Below w.heap.size w w' := by
  have HST : Hid (∀ W : World, Below w.heap.size w W → Calls Tryz.prog 62 #[.pointer (some ⟨jp, 0, none⟩)] W fun e w' => e = .returned (.int .i64 j.state) ∧ w' = W) := fun W hb => by
    obtain ⟨l1, l2, l3⟩ := h.lts
    exact state_any W (h.keep (hb.block _ l1) (hb.block _ l2) (hb.block _ l3)) hok
  have HCT : Hid (∀ W : World, Below w.heap.size w W → Calls Tryz.prog 63 #[.pointer (some ⟨lp, 0, none⟩)] W fun e w' => e = .returned (.int .i64 (S4.cnt j.x 64 : Nat)) ∧ w' = W) := fun W hb => S4.scount_any W (h.set.below hb) hok
  obtain ⟨c0, c1, c2, c3, c4, c5, c6, c7, f4, f7⟩ := h.cells
  have hjl := h.lts.1
  clear h hok c0 c1 c4 c6 c7 f4 f7
  generalize S4.cnt j.x 64 = ct at HCT ⊢
  generalize j.state = st at HST ⊢
  generalize j.kind = kd at c2 ⊢
  generalize j.file = fl at c3 ⊢
  have HW1 : Hid (Below w.heap.size w (w.alloc (.cells #[.int .i64 0, .int .i64 0, .int .i64 0, .int .i64 0] 56)).drew) := ((Below.refl _ _).alloc (Nat.le_refl _) _).drew
  have e2 : (w.alloc (.cells #[.int .i64 0, .int .i64 0, .int .i64 0, .int .i64 0] 56)).drew.cell? ⟨jp, 2, none⟩ = some (.int .i64 kd) := (HW1.out.cell (p := ⟨jp, 2, none⟩) hjl).trans c2
  have e3 : (w.alloc (.cells #[.int .i64 0, .int .i64 0, .int .i64 0, .int .i64 0] 56)).drew.cell? ⟨jp, 3, none⟩ = some (.int .i64 fl) := (HW1.out.cell (p := ⟨jp, 3, none⟩) hjl).trans c3
  have e5 : (w.alloc (.cells #[.int .i64 0, .int .i64 0, .int .i64 0, .int .i64 0] 56)).drew.cell? ⟨jp, 5, none⟩ = some (.pointer (some ⟨lp, 0, none⟩)) := (HW1.out.cell (p := ⟨jp, 5, none⟩) hjl).trans c5
  have HK : Hid ((w.alloc (.cells #[.int .i64 kd, .int .i64 fl, .int .i64 st, .int .i64 (ct : Int)] 56)).drew.cell? ⟨jp, 2, none⟩ = some (.int .i64 kd) ∧ (w.alloc (.cells #[.int .i64 kd, .int .i64 fl, .int .i64 st, .int .i64 (ct : Int)] 56)).drew.cell? ⟨jp, 3, none⟩ = some (.int .i64 fl) ∧ (w.alloc (.cells #[.int .i64 kd, .int .i64 fl, .int .i64 st, .int .i64 (ct : Int)] 56)).drew.cell? ⟨jp, 5, none⟩ = some (.pointer (some ⟨lp, 0, none⟩))) := by
    have hb : Below w.heap.size w (w.alloc (.cells #[.int .i64 kd, .int .i64 fl, .int .i64 st, .int .i64 (ct : Int)] 56)).drew := ((Below.refl _ _).alloc (Nat.le_refl _) _).drew
    exact ⟨(hb.cell (p := ⟨jp, 2, none⟩) hjl).trans c2, (hb.cell (p := ⟨jp, 3, none⟩) hjl).trans c3, (hb.cell (p := ⟨jp, 5, none⟩) hjl).trans c5⟩
  have HS1 := toHid (HST.out _ HW1.out)
  have HC1 := toHid (HCT.out _ HW1.out)
  clear HST HCT c2 c3 c5
  go_enter Tryz.func19, Tryz.ntmps19
  go_wp2_with fail
  go_region_held3 (fun W => W.cell? ⟨jp, 2, none⟩ = some (.int .i64 kd) ∧ W.cell? ⟨jp, 3, none⟩ = some (.int .i64 fl) ∧ W.cell? ⟨jp, 5, none⟩ = some (.pointer (some ⟨lp, 0, none⟩)))
    (first | (exact ⟨e2, e3, e5⟩) | (exact HK.out) | assumption)
    (first
      | (go_at_call 62; refine HS1.out.mono ?_; rintro e w' ⟨rfl, rfl⟩)
      | (go_at_call 63; refine HC1.out.mono ?_; rintro e w' ⟨rfl, rfl⟩))
  go_wp2
  exact bodyPost_ret (v := .agg #[.int .i64 kd, .int .i64 fl, .int .i64 st, .int .i64 (ct : Int)]) (by simp [results, Tryz.results19, go_sem]) rfl ⟨rfl, (by first | exact ((Below.refl _ _).alloc (Nat.le_refl _) _).drew | exact ((Below.refl _ _).alloc (Nat.le_refl _) _))⟩
end Go.Proofs.YtjegaljdindfaabGreatDoor
