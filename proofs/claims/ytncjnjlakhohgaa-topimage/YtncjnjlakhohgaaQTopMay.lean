/-
How the texts that each sector may be lie in memory (TopImage): an array of rows, each row a block of its own; how a row is set and grows; that the image stays.
-/
import Derived.Test.YtncjnjlakhohgaaQImgGets
import Derived.Test.YtncjnjlakhohgaaQRefNew
import Derived.Deep.AppendLies
namespace Go.Proofs.Ytncjnjlakhohgaa
open Go.RowKit Go.Maps

def KW (w : World) (k : Nat) : Prop := ∃ cur t, w.heap[k]? = some (.cells cur t (0, 0)) ∧ (t = 9 ∨ t = 104)
def SW (B : Nat) (w : World) (k : Nat) : Prop := B ≤ k ∧ KW w k
def KeptW (B : Nat) (w w' : World) : Prop := Kept (SW B w) w w'

theorem KeptW.box {B : Nat} {w w' : World} (h : KeptW B w w') {k : Nat} {cur : Array Value} {t : TypeId} (hb : w.heap[k]? = some (.cells cur t (0, 0))) (ht : ¬ (t = 9 ∨ t = 104)) : w'.heap[k]? = some (.cells cur t (0, 0)) := by
  rw [h.block k (lt_of_some hb) (fun s => ?_)]
  · exact hb
  · obtain ⟨c2, t2, e1, p⟩ := s.2
    rw [hb] at e1
    cases e1
    exact ht p

theorem KeptW.below {B : Nat} {w w' : World} (h : KeptW B w w') (hB : B ≤ w.heap.size) : Below B w w' := Kept.below h hB fun _ hk => hk.1

theorem IsImg.keptW {B B' : Nat} {w w' : World} {x : Ih} {v : IV} (h : IsImg B w x v) (hk : KeptW B' w w') : IsImg B w' x v := by
  obtain ⟨_, cur, hh⟩ := h.tb
  obtain ⟨es, c, hm⟩ := ownsMap_is h.map
  refine h.keep ?_ ?_ ?_ fun k hf => ?_
  · rw [hk.box h.blk (by decide)]; exact h.blk.symm
  · refine hk.block _ (lt_of_some hm) fun s => ?_
    obtain ⟨c2, t2, e1, p⟩ := s.2
    rw [hm] at e1; cases e1
  · rw [hk.box hh (by decide)]; exact hh.symm
  · obtain ⟨c2, t, e1, p⟩ := h.dev.kinds k hf
    rw [hk.box e1 (by rcases p with rfl | rfl | rfl <;> decide)]; exact e1.symm

structure IsW (B : Nat) (w : World) (m : Nat) (vs : Nat → Value) (n : Nat) (rows : Nat → List (List UInt8)) : Prop where
  mB : B ≤ m
  n48 : n ≤ 48
  blk : ∃ cur : Array Value, w.heap[m]? = some (.cells cur 104 (0, 0)) ∧ cur.size = 48 ∧ ∀ k, k < n → cur[k]? = some (vs k)
  row : ∀ k, k < n → w.ownsRow B 9 1 (vs k) (rows k).length (flS (rows k))
  inj : ∀ i j, i < n → j < n → i ≠ j → ∀ b, (vs i).ownBlock = some b → (vs j).ownBlock ≠ some b

theorem IsW.keep {B : Nat} {w w' : World} {m : Nat} {vs : Nat → Value} {n : Nat} {rows : Nat → List (List UInt8)} (h : IsW B w m vs n rows) (hm : w'.heap[m]? = w.heap[m]?) (hr : ∀ j, j < n → ∀ k, (vs j).ownBlock = some k → w'.heap[k]? = w.heap[k]?) : IsW B w' m vs n rows := by
  obtain ⟨cur, h1, h2⟩ := h.blk
  exact ⟨h.mB, h.n48, ⟨cur, by rw [hm]; exact h1, h2⟩, fun k hk => ownsRow_keep (h.row k hk) (fun b e => hr k hk b e), h.inj⟩

theorem IsW.lt {B : Nat} {w : World} {m : Nat} {vs : Nat → Value} {n : Nat} {rows : Nat → List (List UInt8)} (h : IsW B w m vs n rows) : m < w.heap.size ∧ ∀ j, j < n → ∀ k, (vs j).ownBlock = some k → B ≤ k ∧ k < w.heap.size := by
  obtain ⟨cur, h1, _⟩ := h.blk
  refine ⟨lt_of_some h1, fun j hj k e => ?_⟩
  exact (h.row j hj).lt k e

theorem IsW.below {B : Nat} {w w' : World} {m : Nat} {vs : Nat → Value} {n : Nat} {rows : Nat → List (List UInt8)} (h : IsW B w m vs n rows) (hb : Below w.heap.size w w') : IsW B w' m vs n rows :=
  h.keep (hb.block _ h.lt.1) fun j hj k e => hb.block _ (h.lt.2 j hj k e).2

theorem IsW.keptP {B B' tb : Nat} {w w' : World} {m : Nat} {vs : Nat → Value} {n : Nat} {rows : Nat → List (List UInt8)} (h : IsW B w m vs n rows) (hk : KeptP B' tb w w') (ht : ∃ cur, w.heap[tb]? = some (.cells cur 78 (0, 0))) : IsW B w' m vs n rows := by
  obtain ⟨ct, ht⟩ := ht
  obtain ⟨cur, h1, _⟩ := h.blk
  refine h.keep ?_ fun j hj k e => ?_
  · rw [hk.box h1 (by decide) (fun e => by rw [e, ht] at h1; cases h1)]; exact h1.symm
  · obtain ⟨c2, h2⟩ := ownsRow_kind (h.row j hj) k e
    rw [hk.box h2 (by decide) (fun e => by rw [e, ht] at h2; cases h2)]; exact h2.symm

theorem IsW.cell {B : Nat} {w : World} {m : Nat} {vs : Nat → Value} {n : Nat} {rows : Nat → List (List UInt8)} (h : IsW B w m vs n rows) {k : Nat} (hk : k < n) : w.cell? ⟨m, k, none⟩ = some (vs k) := by
  obtain ⟨cur, h1, h2, h3⟩ := h.blk
  rw [cell_of_row w m k _ _ _ h1]; exact h3 k hk

theorem IsW.spare {B : Nat} {w : World} {m : Nat} {vs : Nat → Value} {n : Nat} {rows : Nat → List (List UInt8)} (h : IsW B w m vs n rows) {k : Nat} (hk : k < 48) : (∃ v, w.cell? ⟨m, k, none⟩ = some v) ∧ w.frozen? ⟨m, k, none⟩ = false := by
  obtain ⟨cur, h1, h2, h3⟩ := h.blk
  refine ⟨⟨cur[k]'(by omega), ?_⟩, frozen_of_row w m k _ _ h1⟩
  rw [cell_of_row w m k _ _ _ h1]
  exact Array.getElem?_eq_getElem (by omega)

def putV (vs : Nat → Value) (k : Nat) (v : Value) : Nat → Value := fun j => if j = k then v else vs j
def putR (rows : Nat → List (List UInt8)) (k : Nat) (l : List (List UInt8)) : Nat → List (List UInt8) := fun j => if j = k then l else rows j

/- A row is set: the rows but it are as they were in w0, whose blocks other than its own have stayed. -/
theorem IsW.put {B : Nat} {w0 w : World} {m : Nat} {vs : Nat → Value} {n : Nat} {rows : Nat → List (List UInt8)} (h : IsW B w0 m vs n rows) {k n' : Nat} (hn : n' ≤ 48) (hk : k < n') (hj : ∀ j, j < n' → j ≠ k → j < n)
    (hm : w.heap[m]? = w0.heap[m]?) (hr : ∀ j, j < n → j ≠ k → ∀ b, (vs j).ownBlock = some b → w.heap[b]? = w0.heap[b]?) {v : Value} {l : List (List UInt8)} (ho : w.ownsRow B 9 1 v l.length (flS l))
    (hne : ∀ j, j < n → j ≠ k → ∀ b, (vs j).ownBlock = some b → v.ownBlock ≠ some b) : IsW B (w.setCell ⟨m, k, none⟩ v) m (putV vs k v) n' (putR rows k l) := by
  obtain ⟨cur, h1, h2, h3⟩ := h.blk
  have h1w : w.heap[m]? = some (.cells cur 104 (0, 0)) := by rw [hm]; exact h1
  have hmo : ∀ b c2, w.heap[b]? = some (.cells c2 9 (0, 0)) → b ≠ m := fun b c2 hb e => by rw [e, h1w] at hb; cases hb
  refine ⟨h.mB, hn, ⟨cur.setIfInBounds k v, heap_setCell_same w m k _ _ v h1w, by simpa using h2, fun j hj2 => ?_⟩, fun j hj2 => ?_, fun i j hi hj2 hij b e => ?_⟩
  · unfold putV
    by_cases e : j = k
    · subst e
      rw [if_pos rfl, Array.getElem?_setIfInBounds_self_of_lt (by omega)]
    · rw [if_neg e, Array.getElem?_setIfInBounds_ne (fun e2 => e e2.symm)]; exact h3 j (hj j hj2 e)
  · unfold putV putR
    by_cases e : j = k
    · rw [if_pos e, if_pos e]
      refine ownsRow_keep ho fun b hb => ?_
      obtain ⟨c2, hc2⟩ := ownsRow_kind ho b hb
      exact heap_setCell_other _ _ _ _ (hmo b c2 hc2)
    · rw [if_neg e, if_neg e]
      have hjn := hj j hj2 e
      have hrow := ownsRow_keep (w' := w) (h.row j hjn) (fun b hb => hr j hjn e b hb)
      refine ownsRow_keep hrow fun b hb => ?_
      obtain ⟨c2, hc2⟩ := ownsRow_kind hrow b hb
      exact heap_setCell_other _ _ _ _ (hmo b c2 hc2)
  · unfold putV at e ⊢
    by_cases ei : i = k
    · rw [if_pos ei] at e
      by_cases ej : j = k
      · omega
      · rw [if_neg ej]
        exact fun e2 => hne j (hj j hj2 ej) ej b e2 e
    · rw [if_neg ei] at e
      by_cases ej : j = k
      · rw [if_pos ej]
        exact hne i (hj i hi ei) ei b e
      · rw [if_neg ej]
        exact h.inj i j (hj i hi ei) (hj j hj2 ej) hij b e

/- One text in a row of its own. -/
theorem IsW.one {B : Nat} {w : World} {m : Nat} {vs : Nat → Value} {n : Nat} {rows : Nat → List (List UInt8)} (h : IsW B w m vs n rows) {k n' : Nat} (hn : n' ≤ 48) (hk : k < n') (hj : ∀ j, j < n' → j ≠ k → j < n) (hB : B ≤ w.heap.size) (s : List UInt8) :
    IsW B ((w.alloc (.cells #[.string (bytesOf s)] 9)).setCell ⟨m, k, none⟩ (.slice (some ⟨w.heap.size, 0, none⟩) 1 1)) m (putV vs k (.slice (some ⟨w.heap.size, 0, none⟩) 1 1)) n' (putR rows k [s]) ∧
    KeptW B w ((w.alloc (.cells #[.string (bytesOf s)] 9)).setCell ⟨m, k, none⟩ (.slice (some ⟨w.heap.size, 0, none⟩) 1 1)) := by
  obtain ⟨cur, h1, _⟩ := h.blk
  have hal : ∀ b, b < w.heap.size → (w.alloc (.cells #[.string (bytesOf s)] 9)).heap[b]? = w.heap[b]? := fun b hb => Below.heap_alloc w _ b hb
  have ho : (w.alloc (.cells #[.string (bytesOf s)] 9)).ownsRow B 9 1 (.slice (some ⟨w.heap.size, 0, none⟩) 1 1) [s].length (flS [s]) :=
    ⟨rfl, .inr ⟨w.heap.size, 1, #[.string (bytesOf s)], rfl, hB, heap_alloc_new w _, Nat.le_refl _, by unfold maxLen; decide, rfl, rfl⟩⟩
  refine ⟨h.put hn hk hj (hal _ h.lt.1) (fun j hj2 _ b e => hal _ (h.lt.2 j hj2 b e).2) ho (fun j hj2 _ b e e2 => ?_), ?_⟩
  · have hb := (h.lt.2 j hj2 b e).2
    have : w.heap.size = b := by simpa [Value.ownBlock] using e2
    omega
  · exact ((Kept.refl (SW B w) w).alloc _).setCell (p := ⟨m, k, none⟩) (.inl ⟨h.mB, cur, _, h1, .inr rfl⟩) _

theorem info_strW : (Try.prog.info? 9).map (fun i => (i.zero, i.size, i.bytes)) = some (some (.string ⟨#[]⟩), 1, 16) := by kernel_rfl

theorem cell_one_newW (w : World) (v : Value) (t : TypeId) : ∀ j u, [v][j]? = some u → (w.alloc (.cells #[v] t)).cell? ((⟨w.heap.size, 0, none⟩ : Addr).add j) = some u := by
  intro j u hj
  cases j with
  | zero =>
    have hu : v = u := by simpa using hj
    subst hu
    show (w.alloc (.cells #[v] t)).cell? ⟨w.heap.size, 0, none⟩ = _
    rw [cell_of_row _ _ _ _ _ _ (heap_alloc_new w _)]; rfl
  | succ j => simp at hj

/- One text more. -/
theorem IsW.more {B : Nat} {w : World} {m : Nat} {vs : Nat → Value} {n : Nat} {rows : Nat → List (List UInt8)} (h : IsW B w m vs n rows) {k : Nat} (hk : k < n) (hB : B ≤ w.heap.size) (hl : (rows k).length ≤ 1000) (s : List UInt8) :
    ∃ g' n' cap' w', (Builtin.append_ #[103, 103] 103 #[vs k, .slice (some ⟨w.heap.size, 0, none⟩) 1 1]).run Try.prog (w.alloc (.cells #[.string (bytesOf s)] 9)) = .ok (.slice (some ⟨g', 0, none⟩) n' cap') w' ∧
      (∃ v, w'.cell? ⟨m, k, none⟩ = some v) ∧ w'.frozen? ⟨m, k, none⟩ = false ∧
      IsW B (w'.setCell ⟨m, k, none⟩ (.slice (some ⟨g', 0, none⟩) n' cap')) m (putV vs k (.slice (some ⟨g', 0, none⟩) n' cap')) n (putR rows k (rows k ++ [s])) ∧ KeptW B w (w'.setCell ⟨m, k, none⟩ (.slice (some ⟨g', 0, none⟩) n' cap')) := by
  obtain ⟨i0, hi, hz0, hz1, hz2⟩ := info_parts info_strW
  obtain ⟨cur, h1, _⟩ := h.blk
  have hba : Below w.heap.size w (w.alloc (.cells #[.string (bytesOf s)] 9)) := (Below.refl _ _).alloc (Nat.le_refl _) _
  have ha := h.below hba
  obtain ⟨g', cap', w', hr, ho, hg, hat, _⟩ := run_append_lies (P := Try.prog) (w.alloc (.cells #[.string (bytesOf s)] 9)) 103 103 B 9 i0 (.string ⟨#[]⟩) 1 16 Try.underlying103 hi hz0 hz1 hz2 rfl (by decide) (vs k) (rows k).length (flS (rows k)) (ha.row k hk) ⟨w.heap.size, 0, none⟩ 1 1 [.string (bytesOf s)] rfl (cell_one_newW _ _ _) (fun u hu => by simp at hu; subst hu; rfl) (by decide) (by unfold maxLen; omega) (by omega) (Nat.le_trans hB hba.size) _ rfl
  have hkw : KeptW B w w' := by
    refine Kept.grown (S := SW B w) ((Kept.refl (SW B w) w).alloc _) hg fun b e => ?_
    obtain ⟨c2, h2⟩ := ownsRow_kind (h.row k hk) b e
    exact .inl ⟨(h.lt.2 k hk b e).1, c2, _, h2, .inl rfl⟩
  have hmne : ∀ b, (vs k).ownBlock = some b → b ≠ m := fun b e e2 => by
    obtain ⟨c2, h2⟩ := ownsRow_kind (h.row k hk) b e
    rw [e2, h1] at h2; cases h2
  have hmw : w'.heap[m]? = w.heap[m]? := (hg.block m (Nat.lt_of_lt_of_le h.lt.1 hba.size) (fun e => hmne m e.symm rfl)).trans (hba.block _ h.lt.1)
  have hrw : ∀ j, j < n → j ≠ k → ∀ b, (vs j).ownBlock = some b → w'.heap[b]? = w.heap[b]? := fun j hj hjk b e =>
    (hg.block b (Nat.lt_of_lt_of_le (h.lt.2 j hj b e).2 hba.size) (fun e2 => h.inj j k hj hk hjk b e e2.symm)).trans (hba.block _ (h.lt.2 j hj b e).2)
  have ho2 : w'.ownsRow B 9 1 (.slice (some ⟨g', 0, none⟩) ((rows k).length + 1) cap') (rows k ++ [s]).length (flS (rows k ++ [s])) := by
    have : flS (rows k ++ [s]) = flS (rows k) ++ [.string (bytesOf s)] := by simp [flS]
    rw [this, List.length_append]; exact ho
  have h1w : w'.heap[m]? = some (.cells cur 104 (0, 0)) := by rw [hmw]; exact h1
  refine ⟨_, _, _, w', hr, ?_, frozen_of_row w' m k _ _ h1w, h.put h.n48 hk (fun j hj _ => hj) hmw hrw ho2 (fun j hj hjk b e e2 => ?_), hkw.setCell (p := ⟨m, k, none⟩) (.inl ⟨h.mB, cur, _, h1, .inr rfl⟩) _⟩
  · obtain ⟨cur2, g1, g2, g3⟩ := h.blk
    rw [cell_of_row w' m k _ _ _ (by rw [hmw]; exact g1)]
    exact ⟨_, g3 k hk⟩
  · have e3 : g' = b := by simpa [Value.ownBlock] using e2
    subst e3
    rcases hat with h5 | h5
    · exact h.inj j k hj hk hjk _ e h5
    · have h6 := (h.lt.2 j hj _ e).2
      have h7 := hba.size
      omega
end Go.Proofs.Ytncjnjlakhohgaa
