/-
What TopDev keeps beside the device: for each sector a row of texts: what was flushed of it, then the writes that are pending for it. How the rows lie in memory.
-/
import Derived.Test.YtmallmchibdkgaaDevSaysF
import Derived.Deep.AppendSrc
namespace Go.Proofs.Ytmallmchibdkgaa
open Go.RowKit

/- The row of a sector, as the document has it. -/
def rowOf (d : DV) (j : Nat) : List (List UInt8) := d.fl.getD j [] :: (d.pend.filter fun x => x.1 == j).map (·.2)

theorem rowOf_made (l : List (List UInt8)) (wr j : Nat) : rowOf (DV.made l wr) j = [l.getD j []] := rfl
theorem rowOf_failing (d : DV) (f : Int) (j : Nat) : rowOf (d.failing f) j = rowOf d j := rfl
theorem rowOf_ticked (d : DV) (j : Nat) : rowOf d.ticked j = rowOf d j := by unfold DV.ticked; split <;> rfl
theorem rowOf_flushed (d : DV) (j : Nat) : rowOf d.flushed j = [d.seen.getD j []] := rfl
theorem rowOf_wrote (d : DV) (i : Nat) (s : List UInt8) (j : Nat) : rowOf (d.wrote i s) j = if j = i then rowOf d i ++ [s] else rowOf d j := by
  unfold rowOf DV.wrote
  by_cases e : j = i
  · subst e; simp [List.filter_append]
  · rw [if_neg e]
    have : (i == j) = false := beq_eq_false_iff_ne.2 (Ne.symm e)
    simp [List.filter_append, this]
theorem rowOf_pos (d : DV) (j : Nat) : 0 < (rowOf d j).length := Nat.succ_pos _
theorem rowOf_len (d : DV) (j : Nat) : (rowOf d j).length ≤ d.pend.length + 1 := by
  unfold rowOf
  simp only [List.length_cons, List.length_map]
  have := List.length_filter_le (fun x : Nat × List UInt8 => x.1 == j) d.pend
  omega

theorem take_get (l : List (Nat × List UInt8)) (k : Nat) (hk : k < l.length) : l.take (k + 1) = l.take k ++ [l.getD k (0, [])] := by
  rw [List.take_add_one, List.getElem?_eq_getElem hk]
  simp [List.getD, List.getElem?_eq_getElem hk]

/- The last of the row is what is seen. -/
theorem rowOf_last_to (d : DV) (j : Nat) (k : Nat) (hk : k ≤ d.pend.length) :
    (d.fl.getD j [] :: ((d.pend.take k).filter fun x => x.1 == j).map (·.2)).getLastD [] = lastTo d j k := by
  induction k with
  | zero => rfl
  | succ k ih =>
    have h2 := ih (by omega)
    rw [take_get _ _ (by omega), List.filter_append, List.map_append]
    by_cases e : (d.pend.getD k (0, [])).1 = j
    · rw [lastTo_yes e]
      have : ((d.pend.getD k (0, [])).1 == j) = true := beq_iff_eq.2 e
      simp only [List.filter_cons, this, if_true, List.filter_nil, List.map_cons, List.map_nil]
      rw [← List.cons_append, List.getLastD_concat]
    · rw [lastTo_no e, ← h2]
      have : ((d.pend.getD k (0, [])).1 == j) = false := beq_eq_false_iff_ne.2 e
      simp only [List.filter_cons, this, if_neg Bool.false_ne_true, List.filter_nil, List.map_nil, List.append_nil]

theorem rowOf_last {d : DV} (hs : d.sn) (j : Nat) (hj : j < d.fl.length) : (rowOf d j).getD ((rowOf d j).length - 1) [] = d.seen.getD j [] := by
  rw [seen_last hs j hj, ← rowOf_last_to d j d.pend.length (Nat.le_refl _), List.take_length]
  show (rowOf d j).getD ((rowOf d j).length - 1) [] = (rowOf d j).getLastD []
  rw [List.getLastD_eq_getLast?, List.getLast?_eq_getElem?, List.getD_eq_getElem?_getD]

/- What a crash leaves of a sector is in its row. -/
theorem rowOf_keep_to (d : DV) (ks : List Bool) (j : Nat) (hj : j < d.fl.length) (k : Nat) (hk : k ≤ d.pend.length) : (keepTo d.pend ks d.fl k).getD j [] ∈ rowOf d j := by
  induction k with
  | zero => exact List.mem_cons_self ..
  | succ k ih =>
    have h2 := ih (by omega)
    by_cases e : ks.getD k false = true
    · rw [keepTo_yes e]
      by_cases e2 : (d.pend.getD k (0, [])).1 = j
      · rw [e2, List.getD_eq_getElem?_getD, List.getElem?_set_self (by rw [keepTo_len]; exact hj)]
        refine List.mem_cons_of_mem _ (List.mem_map.2 ⟨d.pend.getD k (0, []), List.mem_filter.2 ⟨?_, beq_iff_eq.2 e2⟩, rfl⟩)
        rw [List.getD_eq_getElem?_getD, List.getElem?_eq_getElem (show k < d.pend.length by omega)]
        exact List.getElem_mem _
      · rw [List.getD_eq_getElem?_getD, List.getElem?_set_ne e2, ← List.getD_eq_getElem?_getD]
        exact h2
    · rw [keepTo_no (by simpa using e)]; exact h2

theorem rowOf_keep (d : DV) (ks : List Bool) (j : Nat) (hj : j < d.fl.length) : ∃ i, i < (rowOf d j).length ∧ (rowOf d j).getD i [] = (keepTo d.pend ks d.fl d.pend.length).getD j [] := by
  obtain ⟨i, hi, e⟩ := List.getElem_of_mem (rowOf_keep_to d ks j hj _ (Nat.le_refl _))
  exact ⟨i, hi, by rw [List.getD_eq_getElem?_getD, List.getElem?_eq_getElem hi, Option.getD_some, e]⟩

theorem keepTo_nil (pend : List (Nat × List UInt8)) (l : List (List UInt8)) (k : Nat) : keepTo pend [] l k = l := by
  induction k with
  | zero => rfl
  | succ k ih => rw [keepTo_no (by simp), ih]

/- How the rows lie. -/
structure Mh where
  g : Nat → Nat
  o : Nat → Nat
  c : Nat → Nat

def Mh.put (r : Mh) (k g o c : Nat) : Mh := ⟨fun j => if j = k then g else r.g j, fun j => if j = k then o else r.o j, fun j => if j = k then c else r.c j⟩

def MayRow (w : World) (g o c : Nat) (l : List (List UInt8)) : Prop :=
  ∃ cur : Array Value, w.heap[g]? = some (.cells cur 9 (0, 0)) ∧ o + c ≤ cur.size ∧ l.length ≤ c ∧ ∀ j, j < l.length → cur[o + j]? = some (.string (bytesOf (l.getD j [])))

structure IsMay (B : Nat) (w : World) (m : Nat) (r : Mh) (n : Nat) (rows : Nat → List (List UInt8)) : Prop where
  mB : B ≤ m
  n20 : n ≤ 20
  blk : ∃ cur : Array Value, w.heap[m]? = some (.cells cur 64 (0, 0)) ∧ cur.size = 20 ∧ ∀ k, k < n → cur[k]? = some (.slice (some ⟨r.g k, r.o k, none⟩) (rows k).length (r.c k))
  row : ∀ k, k < n → B ≤ r.g k ∧ MayRow w (r.g k) (r.o k) (r.c k) (rows k)
  inj : ∀ i j, i < n → j < n → i ≠ j → r.g i ≠ r.g j

def mayFp (m : Nat) (r : Mh) (n : Nat) (k : Nat) : Prop := k = m ∨ ∃ j, j < n ∧ k = r.g j

theorem MayRow.keep {w w' : World} {g o c : Nat} {l : List (List UInt8)} (h : MayRow w g o c l) (hk : w'.heap[g]? = w.heap[g]?) : MayRow w' g o c l := by
  obtain ⟨cur, h1, h2⟩ := h
  exact ⟨cur, by rw [hk]; exact h1, h2⟩

theorem IsMay.keep {B : Nat} {w w' : World} {m : Nat} {r : Mh} {n : Nat} {rows : Nat → List (List UInt8)} (h : IsMay B w m r n rows) (hk : ∀ k, mayFp m r n k → w'.heap[k]? = w.heap[k]?) : IsMay B w' m r n rows := by
  obtain ⟨cur, h1, h2⟩ := h.blk
  exact ⟨h.mB, h.n20, ⟨cur, by rw [hk m (.inl rfl)]; exact h1, h2⟩, fun k hkn => ⟨(h.row k hkn).1, (h.row k hkn).2.keep (hk _ (.inr ⟨k, hkn, rfl⟩))⟩, h.inj⟩

theorem IsMay.kinds {B : Nat} {w : World} {m : Nat} {r : Mh} {n : Nat} {rows : Nat → List (List UInt8)} (h : IsMay B w m r n rows) (k : Nat) (hk : mayFp m r n k) :
    ∃ cur t, w.heap[k]? = some (.cells cur t (0, 0)) ∧ (t = 64 ∨ t = 9) := by
  rcases hk with rfl | ⟨j, hj, rfl⟩
  · obtain ⟨cur, h1, _⟩ := h.blk; exact ⟨cur, _, h1, .inl rfl⟩
  · obtain ⟨_, cur, h1, _⟩ := h.row j hj; exact ⟨cur, _, h1, .inr rfl⟩

theorem IsMay.lt {B : Nat} {w : World} {m : Nat} {r : Mh} {n : Nat} {rows : Nat → List (List UInt8)} (h : IsMay B w m r n rows) (k : Nat) (hk : mayFp m r n k) : B ≤ k ∧ k < w.heap.size := by
  obtain ⟨cur, t, h1, _⟩ := h.kinds k hk
  refine ⟨?_, lt_of_some h1⟩
  rcases hk with rfl | ⟨j, hj, rfl⟩
  · exact h.mB
  · exact (h.row j hj).1

theorem IsMay.kept {B : Nat} {w w' : World} {m : Nat} {r : Mh} {n : Nat} {rows : Nat → List (List UInt8)} {S : Nat → Prop} (h : IsMay B w m r n rows) (hk : Kept S w w') (hs : ∀ k, mayFp m r n k → ¬ S k) : IsMay B w' m r n rows :=
  h.keep fun k hf => hk.block k (h.lt k hf).2 (hs k hf)

theorem IsMay.below {B : Nat} {w w' : World} {m : Nat} {r : Mh} {n : Nat} {rows : Nat → List (List UInt8)} (h : IsMay B w m r n rows) (hk : Below w.heap.size w w') : IsMay B w' m r n rows :=
  h.keep fun k hf => hk.block k (h.lt k hf).2

theorem IsMay.rows {B : Nat} {w : World} {m : Nat} {r : Mh} {n : Nat} {rows rows' : Nat → List (List UInt8)} (h : IsMay B w m r n rows) (he : ∀ k, k < n → rows' k = rows k) : IsMay B w m r n rows' := by
  obtain ⟨cur, h1, h2, h3⟩ := h.blk
  exact ⟨h.mB, h.n20, ⟨cur, h1, h2, fun k hk => by rw [he k hk]; exact h3 k hk⟩, fun k hk => by rw [he k hk]; exact h.row k hk, h.inj⟩

/- A device and the rows never share a block. -/
theorem apart_may {B B' : Nat} {w : World} {h : Hd} {d : DV} {m : Nat} {r : Mh} {n : Nat} {rows : Nat → List (List UInt8)} (hd : IsDev B w h d) (hm : IsMay B' w m r n rows) : ∀ k, h.fp k → ¬ mayFp m r n k := by
  intro k h1 h2
  obtain ⟨c1, t1, e1, p1⟩ := hd.kinds k h1
  obtain ⟨c2, t2, e2, p2⟩ := hm.kinds k h2
  rw [e1] at e2
  simp only [Option.some.injEq, Obj.cells.injEq] at e2
  obtain ⟨_, rfl, _⟩ := e2
  rcases p1 with rfl | rfl | rfl <;> rcases p2 with p2 | p2 <;> cases p2

theorem IsMay.cell {B : Nat} {w : World} {m : Nat} {r : Mh} {n : Nat} {rows : Nat → List (List UInt8)} (h : IsMay B w m r n rows) (k : Nat) (hk : k < n) :
    w.cell? ⟨m, k, none⟩ = some (.slice (some ⟨r.g k, r.o k, none⟩) (rows k).length (r.c k)) ∧ w.frozen? ⟨m, k, none⟩ = false := by
  obtain ⟨cur, h1, h2, h3⟩ := h.blk
  exact ⟨by rw [cell_of_row w m k _ _ _ h1]; exact h3 k hk, frozen_of_row w m k _ _ h1⟩

theorem IsMay.spare {B : Nat} {w : World} {m : Nat} {r : Mh} {n : Nat} {rows : Nat → List (List UInt8)} (h : IsMay B w m r n rows) (k : Nat) (hk : k < 20) :
    (∃ v, w.cell? ⟨m, k, none⟩ = some v) ∧ w.frozen? ⟨m, k, none⟩ = false := by
  obtain ⟨cur, h1, h2, h3⟩ := h.blk
  exact ⟨⟨cur[k]'(by omega), by rw [cell_of_row w m k _ _ _ h1, Array.getElem?_eq_getElem (by omega)]⟩, frozen_of_row w m k _ _ h1⟩

theorem IsMay.elem {B : Nat} {w : World} {m : Nat} {r : Mh} {n : Nat} {rows : Nat → List (List UInt8)} (h : IsMay B w m r n rows) (k : Nat) (hk : k < n) (j : Nat) (hj : j < (rows k).length) :
    w.cell? ⟨r.g k, r.o k + j, none⟩ = some (.string (bytesOf ((rows k).getD j []))) := by
  obtain ⟨_, cur, h1, h2, h3, h4⟩ := h.row k hk
  rw [cell_of_row w _ _ _ _ _ h1]; exact h4 j hj

/- One row is put. -/
theorem IsMay.put {B : Nat} {w w1 : World} {m : Nat} {r : Mh} {n : Nat} {rows : Nat → List (List UInt8)} (h : IsMay B w m r n rows) (k n' : Nat) (hk : k < n' ∧ n' ≤ 20) (hn2 : ∀ j, j < n' → j ≠ k → j < n)
    (hm : w1.heap[m]? = w.heap[m]?) (hrow : ∀ j, j < n → j ≠ k → w1.heap[r.g j]? = w.heap[r.g j]?) (g o c : Nat) (l : List (List UInt8)) (hg : B ≤ g) (hnew : ∀ j, j < n → j ≠ k → r.g j ≠ g) (hr : MayRow w1 g o c l) :
    IsMay B (w1.setCell ⟨m, k, none⟩ (.slice (some ⟨g, o, none⟩) l.length c)) m (r.put k g o c) n' (fun j => if j = k then l else rows j) := by
  obtain ⟨cur, h1, h2, h3⟩ := h.blk
  have hm1 : w1.heap[m]? = some (.cells cur 64 (0, 0)) := hm.trans h1
  have other : ∀ x, (∃ cs, w1.heap[x]? = some (.cells cs 9 (0, 0))) → x ≠ m := fun x ⟨cs, e⟩ q => by
    rw [q, hm1] at e; cases e
  refine ⟨h.mB, hk.2, ⟨cur.setIfInBounds k (.slice (some ⟨g, o, none⟩) l.length c), heap_setCell_same _ _ _ _ _ _ hm1, by simpa using h2, fun j hj => ?_⟩, fun j hj => ?_, fun i j hi hj hij => ?_⟩
  · by_cases e : j = k
    · subst e
      rw [Array.getElem?_setIfInBounds_self_of_lt (by omega)]
      simp [Mh.put]
    · rw [Array.getElem?_setIfInBounds_ne (Ne.symm e), h3 j (hn2 j hj e)]
      simp [Mh.put, e]
  · by_cases e : j = k
    · subst e
      simp only [Mh.put, if_true]
      refine ⟨hg, hr.keep (heap_setCell_other _ _ _ _ (other g ?_))⟩
      obtain ⟨cs, q, _⟩ := hr; exact ⟨cs, q⟩
    · simp only [Mh.put, if_neg e]
      obtain ⟨p1, cs, q, p2⟩ := h.row j (hn2 j hj e)
      have q1 := (hrow j (hn2 j hj e) e).trans q
      refine ⟨p1, cs, ?_, p2⟩
      rw [heap_setCell_other _ _ _ _ (other (r.g j) ⟨cs, q1⟩)]; exact q1
  · by_cases e1 : i = k
    · by_cases e2 : j = k
      · exact absurd (e1.trans e2.symm) hij
      · simp only [Mh.put, e1, if_true, if_neg e2]
        exact Ne.symm (hnew j (hn2 j hj e2) e2)
    · by_cases e2 : j = k
      · simp only [Mh.put, e2, if_true, if_neg e1]
        exact hnew i (hn2 i hi e1) e1
      · simp only [Mh.put, if_neg e1, if_neg e2]
        exact h.inj i j (hn2 i hi e1) (hn2 j hj e2) hij

/- One row is cut to its last. -/
theorem IsMay.cut {B : Nat} {w : World} {m : Nat} {r : Mh} {n : Nat} {rows : Nat → List (List UInt8)} (h : IsMay B w m r n rows) (k : Nat) (hk : k < n) (hp : 0 < (rows k).length) :
    (rows k).length ≤ r.c k ∧
    IsMay B (w.setCell ⟨m, k, none⟩ (.slice (some ⟨r.g k, r.o k + ((rows k).length - 1), none⟩) 1 (r.c k - ((rows k).length - 1)))) m (r.put k (r.g k) (r.o k + ((rows k).length - 1)) (r.c k - ((rows k).length - 1))) n
      (fun j => if j = k then [(rows k).getD ((rows k).length - 1) []] else rows j) := by
  obtain ⟨hb, cur, h1, h2, h3, h4⟩ := h.row k hk
  have hn := h.n20
  refine ⟨h3, h.put k n ⟨hk, hn⟩ (fun j hj _ => hj) rfl (fun _ _ _ => rfl) (r.g k) (r.o k + ((rows k).length - 1)) (r.c k - ((rows k).length - 1)) [(rows k).getD ((rows k).length - 1) []] hb (fun j hj e => h.inj j k hj hk e) ⟨cur, h1, by omega, by simp; omega, fun j hj => ?_⟩⟩
  have hj0 : j = 0 := by simpa using hj
  subst hj0
  exact h4 _ (by omega)



/- One text is appended to a row. -/
theorem may_append {B : Nat} {w : World} {m : Nat} {r : Mh} {n : Nat} {rows : Nat → List (List UInt8)} (h : IsMay B w m r n rows) (k : Nat) (hk : k < n) (s : ByteArray) (hB : B ≤ w.heap.size) (hl : (rows k).length ≤ 1000) :
    ∃ (g o c : Nat) (w' : World), (Builtin.append_ #[22, 22] 22 #[.slice (some ⟨r.g k, r.o k, none⟩) (rows k).length (r.c k), .slice (some ⟨w.heap.size, 0, none⟩) 1 1]).run Try.prog (w.alloc (.cells #[.string s] 9)).drew = .ok (.slice (some ⟨g, o, none⟩) ((rows k).length + 1) c) w' ∧
      ((∃ v, w'.cell? ⟨m, k, none⟩ = some v) ∧ w'.frozen? ⟨m, k, none⟩ = false) ∧
      (∃ r', IsMay B (w'.setCell ⟨m, k, none⟩ (.slice (some ⟨g, o, none⟩) ((rows k).length + 1) c)) m r' n (fun j => if j = k then rows k ++ [s.data.toList] else rows j)) ∧
      Kept (mayFp m r n) w (w'.setCell ⟨m, k, none⟩ (.slice (some ⟨g, o, none⟩) ((rows k).length + 1) c)) := by
  obtain ⟨i0, hi, hz0, hz1, hz2⟩ := info_parts info_str
  obtain ⟨hb, cur, h1, h2, h3, h4⟩ := h.row k hk
  obtain ⟨mc, m1, m2, m3⟩ := h.blk
  have hn := h.n20
  have hml : m < w.heap.size := lt_of_some m1
  have hgl : r.g k < w.heap.size := lt_of_some h1
  have hgm : r.g k ≠ m := fun e => by rw [e, m1] at h1; cases h1
  have hup : ∀ x, x < w.heap.size → ((w.alloc (.cells #[.string s] 9)).drew).heap[x]? = w.heap[x]? := fun x hx => Below.heap_alloc w _ x hx
  have hnb : ((w.alloc (.cells #[.string s] 9)).drew).heap[w.heap.size]? = some (.cells #[.string s] 9 (0, 0)) := heap_alloc_new w _
  have hsrc : Src Try.prog i0.size 22 (.slice (some ⟨w.heap.size, 0, none⟩) 1 1) 1 [.string s] ((w.alloc (.cells #[.string s] 9)).drew) :=
    Src.ofSlice _ Try.underlying22 ⟨w.heap.size, 0, none⟩ 1 1 [.string s] (by rw [hz1]; rfl) (World.news_of_block hnb) (fun u hu => by
      rw [List.mem_singleton] at hu; subst hu; rfl)
  have hsz : ((w.alloc (.cells #[.string s] 9)).drew).heap.size = w.heap.size + 1 := by simp
  have hbs : bytesOf s.data.toList = s := bytesOf_data s
  have hK0 : Kept (mayFp m r n) w ((w.alloc (.cells #[.string s] 9)).drew) := ((Kept.refl _ w).alloc _).drew
  generalize (w.alloc (.cells #[.string s] 9)).drew = w1 at hup hnb hsrc hsz hK0 ⊢
  have hll : (rows k ++ [s.data.toList]).length = (rows k).length + 1 := by simp
  by_cases hroom : (rows k).length + 1 ≤ r.c k
  · have hg1 : w1.heap[r.g k]? = some (.cells cur 9 (0, 0)) := (hup _ hgl).trans h1
    have hrun := run_append_room_src (P := Try.prog) w1 22 22 22 9 i0 Try.underlying22 hi (r.g k) (r.o k) (rows k).length (r.c k) (.slice (some ⟨w.heap.size, 0, none⟩) 1 1) 1 [.string s] hsrc hroom
      (fun j hj => by
        have hj0 : j = 0 := by simpa using hj
        subst hj0
        rw [cell_of_row w1 _ _ _ _ _ hg1, hz1, Array.getElem?_eq_getElem (by omega)]; rfl) (fun j _ => frozen_of_row w1 _ _ _ _ hg1)
    rw [hz1] at hrun
    have hset : w1.setCells (r.g k) (r.o k + (rows k).length * 1) [.string s] = w1.setCell ⟨r.g k, r.o k + (rows k).length, none⟩ (.string s) := by rw [Nat.mul_one]; rfl
    rw [hset] at hrun
    have hm2 : (w1.setCell ⟨r.g k, r.o k + (rows k).length, none⟩ (.string s)).heap[m]? = w.heap[m]? := by
      rw [heap_setCell_other _ _ _ _ (Ne.symm hgm), hup _ hml]
    refine ⟨r.g k, r.o k, r.c k, _, hrun, ⟨⟨mc[k]'(by omega), ?_⟩, frozen_of_row _ _ _ _ _ (hm2.trans m1)⟩, ⟨r.put k (r.g k) (r.o k) (r.c k), ?_⟩, ?_⟩
    · rw [cell_of_row _ m k _ _ _ (hm2.trans m1), Array.getElem?_eq_getElem (by omega)]
    · rw [← hll]
      refine h.put k n ⟨hk, hn⟩ (fun j hj _ => hj) hm2 (fun j hj e => ?_) _ _ _ _ hb (fun j hj e => h.inj j k hj hk e) ⟨_, heap_setCell_same _ _ _ _ _ _ hg1, by simpa using h2, by rw [hll]; exact hroom, fun j hj => ?_⟩
      · obtain ⟨_, cj, q, _⟩ := h.row j hj
        rw [heap_setCell_other _ _ _ _ (h.inj j k hj hk e), hup _ (lt_of_some q)]
      · rw [hll] at hj
        by_cases e : j = (rows k).length
        · subst e
          rw [Array.getElem?_setIfInBounds_self_of_lt (by omega)]
          simp [List.getD, hbs]
        · rw [Array.getElem?_setIfInBounds_ne (by omega), h4 j (by omega)]
          simp only [List.getD_eq_getElem?_getD, List.getElem?_append_left (show j < (rows k).length by omega)]
    · exact (hK0.setCell (.inl (.inr ⟨k, hk, rfl⟩)) _).setCell (.inl (.inl rfl)) _
  · have hce : r.c k = (rows k).length := by omega
    have hg1 : w1.heap[r.g k]? = some (.cells cur 9 (0, 0)) := (hup _ hgl).trans h1
    have hold : (Builtin.firstCells i0.size (rows k).length (.slice (some ⟨r.g k, r.o k, none⟩) (rows k).length (r.c k))).run Try.prog w1.drew = .ok ((rows k).map fun x => Value.string (bytesOf x)).toArray w1.drew := by
      refine run_firstCells_some w1.drew i0.size (rows k).length ⟨r.g k, r.o k, none⟩ (rows k).length (r.c k) _ (by simp [hz1]) (fun j u hj => ?_)
      have hjl : j < (rows k).length := by
        rcases Nat.lt_or_ge j (rows k).length with q | q
        · exact q
        · simp [List.getElem?_eq_none (show ((rows k).map fun x => Value.string (bytesOf x)).length ≤ j by simpa using q)] at hj
      have hadd : (⟨r.g k, r.o k, none⟩ : Addr).add j = ⟨r.g k, r.o k + j, none⟩ := Go.WideShapes.add_plain _ _ _
      rw [hadd]
      show w1.cell? _ = _
      rw [cell_of_row w1 _ _ _ _ _ hg1, h4 j hjl]
      simp [List.getElem?_eq_getElem hjl] at hj
      subst hj
      simp [List.getD, List.getElem?_eq_getElem hjl]
    have hrun := run_append_grow_src (P := Try.prog) w1 22 22 22 9 i0 (.string ⟨#[]⟩) Try.underlying22 hi hz0 (some ⟨r.g k, r.o k, none⟩) (rows k).length (r.c k) ((rows k).map fun x => Value.string (bytesOf x)) hold (.slice (some ⟨w.heap.size, 0, none⟩) 1 1) 1 [.string s] hsrc (by omega) (by omega) (by
      rw [hz2]; exact growslice_fits (by omega) (by omega))
    have hcap := grownCap_ge w1 ((rows k).length + 1) (r.c k) 9
    generalize grownCap w1 ((rows k).length + 1) (r.c k) 9 = cap at hrun hcap
    have hm2 : ∀ O : Obj, ∀ x, x < w.heap.size → (w1.drew.alloc O).heap[x]? = w.heap[x]? := fun O x hx => by
      rw [Below.heap_alloc w1.drew O x (by show x < w1.heap.size; omega)]; exact hup x hx
    refine ⟨w1.heap.size, 0, cap, _, hrun, ⟨⟨mc[k]'(by omega), ?_⟩, frozen_of_row _ _ _ _ _ ((hm2 _ m hml).trans m1)⟩, ⟨r.put k w1.heap.size 0 cap, ?_⟩, ?_⟩
    · rw [cell_of_row _ m k _ _ _ ((hm2 _ m hml).trans m1), Array.getElem?_eq_getElem (by omega)]
    · rw [← hll]
      refine h.put k n ⟨hk, hn⟩ (fun j hj _ => hj) (hm2 _ m hml) (fun j hj e => ?_) _ _ _ _ (by omega) (fun j hj e => ?_) ⟨_, heap_alloc_new w1.drew _, ?_, by rw [hll]; exact hcap, fun j hj => ?_⟩
      · obtain ⟨_, cj, q, _⟩ := h.row j hj
        exact hm2 _ _ (lt_of_some q)
      · obtain ⟨_, cj, q, _⟩ := h.row j hj
        have := lt_of_some q
        omega
      · have hzc : (Builtin.zeroCells (Value.string ⟨#[]⟩).cells (cap - ((rows k).length + 1))).size = cap - ((rows k).length + 1) := by
          simp [Builtin.zeroCells, Value.cells]
        rw [Array.size_append, hll, hzc]
        simp
        omega
      · rw [hll] at hj
        rw [Nat.zero_add, Array.getElem?_append_left (by simp; omega), List.getElem?_toArray]
        by_cases e : j = (rows k).length
        · subst e
          rw [List.getElem?_append_right (by simp)]
          simp [List.getD, hbs]
        · rw [List.getElem?_append_left (by simp; omega)]
          have hjl : j < (rows k).length := by omega
          simp [List.getElem?_map, List.getD_eq_getElem?_getD, List.getElem?_append_left hjl, List.getElem?_eq_getElem hjl]
    · exact (hK0.drew.alloc _).setCell (.inl (.inl rfl)) _
end Go.Proofs.Ytmallmchibdkgaa
