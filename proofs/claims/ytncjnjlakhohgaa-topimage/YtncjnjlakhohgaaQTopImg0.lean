/-
TopImage: what holds at its loops, and what each of its steps does to that.
-/
import Derived.Test.YtncjnjlakhohgaaQTopShown
import Derived.Test.YtncjnjlakhohgaaQTopMay
import Derived.Test.YtncjnjlakhohgaaQImgFill
import Derived.Test.YtncjnjlakhohgaaQImgCreate2
import Derived.Test.YtncjnjlakhohgaaQImgOpen2
import Derived.Test.YtncjnjlakhohgaaQActs
namespace Go.Proofs.Ytncjnjlakhohgaa
open Go.RowKit Go.Maps
attribute [local go_sem ↓] Go.wp_at_zero Go.wp_at_succ

def shN (V : IV) (may : Nat → List (List UInt8)) (fl : Bool) : Nat → List (List UInt8) := fun j => if fl then [V.sh j] else may j ++ [V.sh j]
def mixM (may mayN : Nat → List (List UInt8)) (k : Nat) : Nat → List (List UInt8) := fun j => if j < k then mayN j else may j

structure Aft (V V' : IV) (m : Nat) (may : Nat → List (List UInt8)) (fl : Bool) : Prop where
  ok : V'.ok (m + 10)
  safe : ∃ U, Safe V' U
  nf : V'.d.fail = -1
  len : V'.t.length = V.t.length
  told : Told V' (shN V' may fl)

theorem shN_more (V : IV) (may : Nat → List (List UInt8)) : ∀ k s, s ∈ may k → s ∈ shN V may false k := fun _ _ h => List.mem_append_left _ h
theorem shN_now (V : IV) (may : Nat → List (List UInt8)) (fl : Bool) (k : Nat) : V.sh k ∈ shN V may fl k := by
  unfold shN
  cases fl with
  | true => exact List.mem_singleton.2 rfl
  | false => exact List.mem_append_right _ (List.mem_singleton.2 rfl)

theorem set_facts {v : IV} (h : v.d.fail = -1) (c : Nat) (e : Int × Int) : (v.set c e).d.fail = -1 ∧ (v.set c e).t.length = v.t.length := by
  unfold IV.set
  rw [if_pos (putF_nf h)]
  exact ⟨put_nf h _ _, List.length_set⟩

theorem aft_none {V : IV} {U : List (Int × Int)} {m : Nat} {may : Nat → List (List UInt8)} (hok : V.ok m) (hs : Safe V U) (hnf : V.d.fail = -1) (ht : Told V may) : Aft V V m may false :=
  ⟨hok.more (by omega), ⟨U, hs⟩, hnf, rfl, ht.mono (shN_more V may)⟩

theorem aft_write {V : IV} {U : List (Int × Int)} {m : Nat} {may : Nat → List (List UInt8)} (hok : V.ok m) (hm : m + 10 < 1000000000) (hs : Safe V U) (hnf : V.d.fail = -1) (ht : Told V may) (c fr : Int) (s : ByteArray) : Aft V (V.write c fr s) m may false := by
  refine ⟨hok.write c fr s (by omega), ⟨U, hs.write hok c fr s⟩, ?_, ?_, ht.write hs hok hm c fr s (shN_more _ may) (fun k _ => shN_now _ may false k)⟩
  · unfold IV.write IV.writeD
    split
    · exact (puts_nf hnf _ _ _).1
    · exact hnf
  · unfold IV.write; split <;> rfl

theorem aft_clear {V : IV} {U : List (Int × Int)} {m : Nat} {may : Nat → List (List UInt8)} (hok : V.ok m) (hm : m + 10 < 1000000000) (hs : Safe V U) (hnf : V.d.fail = -1) (ht : Told V may) (c : Int) : Aft V (V.clear c) m may false := by
  refine ⟨hok.clear c (by omega), ⟨U, hs.clear hok c⟩, ?_, ?_, ht.clear hs hok hm hnf c (shN_more _ may) (fun k _ => shN_now _ may false k)⟩
  · unfold IV.clear
    split
    · exact (set_facts hnf _ _).1
    · exact hnf
  · unfold IV.clear
    split
    · exact (set_facts hnf _ _).2
    · rfl

theorem aft_fill {V : IV} {U : List (Int × Int)} {m : Nat} {may : Nat → List (List UInt8)} (hok : V.ok m) (hm : m + 10 < 1000000000) (hs : Safe V U) (hnf : V.d.fail = -1) (ht : Told V may) (c : Int) (s : ByteArray) : Aft V (V.fill c s) m may false := by
  have hx : (V.fill c s).d.fail = -1 ∧ (V.fill c s).t.length = V.t.length := by
    unfold IV.fill
    split
    · split
      · exact ⟨hnf, rfl⟩
      · cases V.freeL with
        | nil => exact ⟨hnf, rfl⟩
        | cons q tl =>
          show (if (V.fillD q s).2 = 0 then (V.fillV q s).set c.toNat (2, (q : Int)) else { V with d := (V.fillD q s).1 }).d.fail = -1 ∧ (if (V.fillD q s).2 = 0 then (V.fillV q s).set c.toNat (2, (q : Int)) else { V with d := (V.fillD q s).1 }).t.length = V.t.length
          have hz : (V.fillD q s).2 = 0 := (puts_nf hnf _ _ _).2
          rw [if_pos hz]
          exact set_facts (v := V.fillV q s) (puts_nf hnf _ _ _).1 _ _
    · exact ⟨hnf, rfl⟩
  exact ⟨hok.fill c s (by omega), hs.fill hok (by omega) c s, hx.1, hx.2, ht.fill hs hok hm hnf c s (shN_more _ may) (fun k _ => shN_now _ may false k)⟩

theorem aft_flush {V : IV} {U : List (Int × Int)} {m : Nat} {may : Nat → List (List UInt8)} (hok : V.ok m) (hs : Safe V U) (hnf : V.d.fail = -1) (ht : Told V may) : Aft V V.flush m may true :=
  ⟨hok.flush.more (by omega), ⟨_, hs.flush hok.d.sn⟩, hnf, rfl, ht.flush hs hok (fun k _ => shN_now V.flush may true k)⟩

/- Behind an act, the rows being told. -/
def actRow (y : ActV) : Obj := .cells y.cells.toArray 47 (0, 0)

def Acted (w : World) (m n N : Nat) (y : ActV) (p hp : Nat) (V : IV) (may : Nat → List (List UInt8)) (wx : World) : Prop :=
  ∃ (x : Ih) (vs : Nat → Value), x.p = p ∧ x.h.p = hp ∧ IsImg w.heap.size wx x V ∧ IsW w.heap.size wx m vs n may ∧ wx.heap[N]? = some (actRow y) ∧ Below w.heap.size w wx

theorem Acted.below {w W W' : World} {m n N : Nat} {y : ActV} {p hp : Nat} {V : IV} {may : Nat → List (List UInt8)} (h : Acted w m n N y p hp V may W) (hb : Below W.heap.size W W') : Acted w m n N y p hp V may W' := by
  obtain ⟨x, vs, h1, h2, h3, h4, h5, h6⟩ := h
  exact ⟨x, vs, h1, h2, h3.below hb, h4.below hb, by rw [hb.block _ (lt_of_some h5)]; exact h5, h6.trans (hb.mono h6.size)⟩

theorem Acted.cell {w W : World} {m n N : Nat} {y : ActV} {p hp : Nat} {V : IV} {may : Nat → List (List UInt8)} (h : Acted w m n N y p hp V may W) : W.cell? ⟨N, 0, none⟩ = some (.string y.kind) := by
  obtain ⟨x, vs, h1, h2, h3, h4, h5, h6⟩ := h
  rw [cell_of_row _ _ _ _ _ _ h5]; rfl

theorem IsW.rows {B : Nat} {w : World} {m : Nat} {vs : Nat → Value} {n : Nat} {rows rows' : Nat → List (List UInt8)} (h : IsW B w m vs n rows) (he : ∀ k, k < n → rows' k = rows k) : IsW B w m vs n rows' :=
  ⟨h.mB, h.n48, h.blk, fun k hk => by rw [he k hk]; exact h.row k hk, h.inj⟩

theorem mix_put (may mayN : Nat → List (List UInt8)) (k : Nat) : ∀ j, mixM may mayN (k + 1) j = putR (mixM may mayN k) k (mayN k) j := fun j => by
  unfold mixM putR
  by_cases h : j = k
  · subst h; rw [if_pos (by omega), if_pos rfl]
  · rw [if_neg h]
    by_cases h2 : j < k
    · rw [if_pos (by omega)]; exact (if_pos h2).symm
    · rw [if_neg (by omega)]; exact (if_neg h2).symm

theorem Acted.shown {w W : World} {m n N : Nat} {y : ActV} {p hp mm : Nat} {V : IV} {may : Nat → List (List UInt8)} (h : Acted w m n N y p hp V may W) (hok : V.ok mm) {k : Nat} (hk : k < 4 * V.t.length) (hk2 : k < 1000) :
    Calls Try.prog 62 #[.pointer (some ⟨p, 0, none⟩), .int .i64 (k : Int)] W fun e w' => e = .returned (.string (bytesOf (V.sh k))) ∧ Acted w m n N y p hp V may w' := by
  have h0 := h
  obtain ⟨x, vs, rfl, h2, h3, h4, h5, h6⟩ := h
  exact (shown_any k W h3 hok hk hk2).mono fun e w' ⟨e1, e2⟩ => ⟨e1, h0.below e2⟩

/- Its row told anew. -/
theorem Acted.one {w W : World} {m n N : Nat} {y : ActV} {p hp : Nat} {V : IV} {may mayN : Nat → List (List UInt8)} {k : Nat} (h : Acted w m n N y p hp V (mixM may mayN k) W) (hk : k < n) (s : List UInt8) (hs : mayN k = [s]) :
    ((∃ v, (W.alloc (.cells #[.string (bytesOf s)] 9)).cell? ⟨m, k, none⟩ = some v) ∧ (W.alloc (.cells #[.string (bytesOf s)] 9)).frozen? ⟨m, k, none⟩ = false) ∧
    Acted w m n N y p hp V (mixM may mayN (k + 1)) ((W.alloc (.cells #[.string (bytesOf s)] 9)).setCell ⟨m, k, none⟩ (.slice (some ⟨W.heap.size, 0, none⟩) 1 1)) := by
  obtain ⟨x, vs, h1, h2, h3, h4, h5, h6⟩ := h
  have hba : Below W.heap.size W (W.alloc (.cells #[.string (bytesOf s)] 9)) := (Below.refl _ _).alloc (Nat.le_refl _) _
  have hn := h4.n48
  obtain ⟨g1, g2⟩ := h4.one hn hk (fun j hj _ => hj) h6.size s
  exact ⟨(h4.below hba).spare (by omega), x, _, h1, h2, h3.keptW g2, g1.rows (fun j _ => by rw [mix_put, hs]), g2.box h5 (by decide), h6.trans (g2.below h6.size)⟩

/- One more in its row. -/
theorem Acted.more {w W : World} {m n N : Nat} {y : ActV} {p hp : Nat} {V : IV} {may mayN : Nat → List (List UInt8)} {k : Nat} (h : Acted w m n N y p hp V (mixM may mayN k) W) (hk : k < n) (s : List UInt8) (hs : mayN k = may k ++ [s]) (hl : (may k).length ≤ 1000) :
    ∃ v0 g' n' cap' w', W.cell? ⟨m, k, none⟩ = some v0 ∧ (Builtin.append_ #[103, 103] 103 #[v0, .slice (some ⟨W.heap.size, 0, none⟩) 1 1]).run Try.prog (W.alloc (.cells #[.string (bytesOf s)] 9)) = .ok (.slice (some ⟨g', 0, none⟩) n' cap') w' ∧
      (∃ v, w'.cell? ⟨m, k, none⟩ = some v) ∧ w'.frozen? ⟨m, k, none⟩ = false ∧ Acted w m n N y p hp V (mixM may mayN (k + 1)) (w'.setCell ⟨m, k, none⟩ (.slice (some ⟨g', 0, none⟩) n' cap')) := by
  obtain ⟨x, vs, h1, h2, h3, h4, h5, h6⟩ := h
  have e0 : mixM may mayN k k = may k := by unfold mixM; rw [if_neg (by omega)]
  obtain ⟨g', n', cap', w', hr, hc, hf, g1, g2⟩ := h4.more hk h6.size (by rw [e0]; exact hl) s
  exact ⟨vs k, g', n', cap', w', h4.cell hk, hr, hc, hf, x, _, h1, h2, h3.keptW g2, g1.rows (fun j _ => by rw [mix_put, hs, e0]), g2.box h5 (by decide), h6.trans (g2.below h6.size)⟩

/- At each act. -/
def Stage (w : World) (m n p hp i : Nat) (wr : World) : Prop :=
  ∃ (x : Ih) (vs : Nat → Value) (V : IV) (U : List (Int × Int)) (may : Nat → List (List UInt8)), x.p = p ∧ x.h.p = hp ∧ IsImg w.heap.size wr x V ∧ V.ok (i * 10 + 20) ∧ Safe V U ∧ Told V may ∧ V.d.fail = -1 ∧ 4 * V.t.length = n ∧
    IsW w.heap.size wr m vs n may ∧ (∀ j, j < n → (may j).length ≤ i + 1) ∧ Below w.heap.size w wr

theorem Acted.stage {w W : World} {m n N i : Nat} {y : ActV} {p hp : Nat} {V V' : IV} {may : Nat → List (List UInt8)} {fl : Bool} (h : Acted w m n N y p hp V' (mixM may (shN V' may fl) n) W) (ha : Aft V V' (i * 10 + 20) may fl) (hn : 4 * V.t.length = n) (hl : ∀ j, j < n → (may j).length ≤ i + 1) : Stage w m n p hp (i + 1) W := by
  obtain ⟨x, vs, h1, h2, h3, h4, h5, h6⟩ := h
  obtain ⟨U, hU⟩ := ha.safe
  refine ⟨x, vs, V', U, shN V' may fl, h1, h2, h3, by rw [show (i + 1) * 10 + 20 = i * 10 + 20 + 10 by omega]; exact ha.ok, hU, ha.told, ha.nf, by rw [ha.len]; exact hn, h4.rows (fun j hj => by unfold mixM; rw [if_pos hj]), fun j hj => ?_, h6⟩
  have := hl j hj
  unfold shN
  cases fl with
  | true => simp
  | false => simp; omega

/- The act's own block, laid; the act done. -/
theorem acted_did {w W W' : World} {m n N : Nat} {y : ActV} {x : Ih} {vs : Nat → Value} {V V' : IV} {may mayN : Nat → List (List UInt8)} {f : Int} {e : Ending} (hi : IsImg w.heap.size W x V) (hw : IsW w.heap.size W m vs n may) (hN : W.heap[N]? = some (actRow y)) (hb : Below w.heap.size w W) (hd : Did w.heap.size W x V' f e W') :
    Acted w m n N y x.p x.h.p V' (mixM may mayN 0) W' := by
  obtain ⟨z, _, h2, h3, h4⟩ := hd
  obtain ⟨_, cur, hh⟩ := hi.tb
  refine ⟨{ x with h := z }, vs, rfl, h2, h3, (hw.keptP h4 ⟨cur, hh⟩).rows (fun j _ => by unfold mixM; rw [if_neg (by omega)]), h4.box hN (by decide) (fun e => ?_), hb.trans (h4.below hb.size)⟩
  rw [e, hh] at hN
  cases hN

theorem acted_none {w W : World} {m n N : Nat} {y : ActV} {x : Ih} {vs : Nat → Value} {V : IV} {may mayN : Nat → List (List UInt8)} (hi : IsImg w.heap.size W x V) (hw : IsW w.heap.size W m vs n may) (hN : W.heap[N]? = some (actRow y)) (hb : Below w.heap.size w W) : Acted w m n N y x.p x.h.p V (mixM may mayN 0) W :=
  ⟨x, vs, rfl, rfl, hi, hw.rows (fun j _ => by unfold mixM; rw [if_neg (by omega)]), hN, hb⟩

theorem crash_fineT {d : DV} {m : Nat} (hd : d.fine d.fl.length m) (ks : List Bool) : (DV.made (keepTo d.pend ks d.fl d.pend.length) d.wr).fine (DV.made (keepTo d.pend ks d.fl d.pend.length) d.wr).fl.length m :=
  ⟨DV.made_ok (by rw [keepTo_len]; exact hd.ok.n1) (by rw [keepTo_len]; exact hd.ok.n2) (keepTo_16 _ _ _ _ (Nat.le_refl _) hd.ok.l1 (fun x hx => (hd.ok.l3 x hx).2)) hd.ok.few2, made_sn _ _, rfl, hd.wr⟩

theorem rowsP_nf {d : DV} (h : d.fail = -1) (t : List (Int × Int)) : ∀ k, (d.rowsP t k).1.fail = -1 ∧ (d.rowsP t k).2 = 0 := by
  intro k
  induction k with
  | zero => exact ⟨h, rfl⟩
  | succ k ih =>
    rw [DV.rowsP_yes ih.2]
    exact ⟨put_nf ih.1 _ _, putF_nf ih.1⟩

theorem crF_nf {d : DV} {h : HV} (hk : h.ok = true) (hn : needN h ≤ d.fl.length) (hf : d.fail = -1) : crF d h = 0 ∧ (crV d h).d.fail = -1 := by
  have h1 := rowsP_nf hf (crT h) (rowsN h.c.toNat)
  have hz : (crV0 d h).flush.d.putF = 0 := putF_nf (show (crV0 d h).flush.d.fail = -1 from h1.1)
  refine ⟨?_, ?_⟩
  · unfold crF
    rw [if_pos hk, if_neg (by omega)]
    have : (crD d h).2 = 0 := h1.2
    rw [if_pos this]; exact hz
  · unfold crV IV.headV
    rw [if_pos hz]
    exact put_nf (show (crV0 d h).flush.d.fail = -1 from h1.1) _ _
end Go.Proofs.Ytncjnjlakhohgaa
