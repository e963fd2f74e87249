/-
Whatever the text, the place, the bits that are turned and the text behind: TopSum answers true (A1); its arguments stay. No condition.
-/
import Derived.Test.YtlfecjgmmhbanaaRows
import Derived.Test.YtlfecjgmmhbanaaQSumWalks
import Derived.WalkKit
import Derived.WalkSpells
import Derived.ProofKit
import Derived.OpenShut
import Derived.ShutString
import Derived.Lib.ConvBytes
import Derived.BigRegion
namespace Go.Proofs.Ytlfecjgmmhbanaa.topSum
open Go.ChangeShapes Go.WideShapes Go.ChangeAt Go.RowKit
open Go.ChangeMaps (open_string shut_string)

/- A row of bytes in a block of the call's own. -/
def RowB (B : Nat) (bs : List UInt8) (w : World) : Prop :=
  (∀ j, j < bs.length → w.cell? ⟨B, j, none⟩ = some (.int .u8 ((bs.getD j 0).toNat : Int))) ∧ ∀ j, j < bs.length → w.frozen? ⟨B, j, none⟩ = false

theorem conv (w : World) (t : ByteArray) : ∃ w1 cap, (convert 9 62 (.string t)).run Try.prog w = .ok (.slice (some ⟨w.heap.size, 0, none⟩) t.size cap) w1 ∧ w1.heap.size = w.heap.size + 1 ∧ Below w.heap.size w w1 ∧ RowB w.heap.size t.data.toList w1 := by
  refine ⟨_, _, Lib.run_convert_string_bytes w 9 62 5 t Try.underlying9 Try.underlying62 Try.underlying5, Lib.bytesWorld_size _ _ _, ⟨rfl, rfl, rfl, by rw [Lib.bytesWorld_size]; omega, fun k hk => Lib.bytesWorld_at_old _ _ _ k hk⟩, fun j hj => Lib.bytesWorld_cell _ _ _ j (by simpa using hj), fun j hj => ?_⟩
  have hj' : j < t.size := by simpa using hj
  have : j < (Lib.bytesCells w 5 t).size := by simp [Lib.bytesCells]; omega
  simp [World.frozen?, Lib.bytesWorld_at_new]
  omega

set_option maxRecDepth 100000 in
theorem back (w : World) (B cap : Nat) (bs : List UInt8) (h : RowB B bs w) : (convert 62 9 (.slice (some ⟨B, 0, none⟩) bs.length cap)).run Try.prog w = .ok (.string ⟨bs.toArray⟩) w := by
  have := run_convert_bytes_arg (P := Try.prog) w 62 5 Try.underlying62 Try.underlying5 B 0 bs.length cap (bs.map fun b => (b.toNat : Int)) (by simp) (fun i hi => by
    rw [Nat.zero_add, h.1 i hi]
    simp [List.getD, List.getElem?_eq_getElem hi]) 9 Try.underlying9
  rw [this]
  congr 2
  simp only [strOfNums, List.map_map]
  congr 2
  have e : ((fun n : Int => UInt8.ofNat n.toNat) ∘ fun b : UInt8 => (b.toNat : Int)) = id := by
    funext b; simp
  rw [e, List.map_id]

theorem bit_yes (x k : Nat) (hx : x < 4294967296) (h : x / 2 ^ k % 2 = 1) : (bits .and .u32 ((x : Int) / 2 ^ k) 1 == 1) = true := by
  have e : (x : Int) / 2 ^ k = ((x / 2 ^ k : Nat) : Int) := by simp
  have hq : x / 2 ^ k ≤ x := Nat.div_le_self _ _
  have := u32_and_nat (x / 2 ^ k) 1 (by omega) (by omega)
  rw [nat_mask1, h] at this
  rw [e]; exact beq_iff_eq.2 this

theorem bit_no (x k : Nat) (hx : x < 4294967296) (h : ¬ x / 2 ^ k % 2 = 1) : (bits .and .u32 ((x : Int) / 2 ^ k) 1 == 1) = false := by
  have e : (x : Int) / 2 ^ k = ((x / 2 ^ k : Nat) : Int) := by simp
  have hq : x / 2 ^ k ≤ x := Nat.div_le_self _ _
  have := u32_and_nat (x / 2 ^ k) 1 (by omega) (by omega)
  rw [nat_mask1, show x / 2 ^ k % 2 = 0 by omega] at this
  rw [e]; exact beq_eq_false_iff_ne.2 (by rw [show (1 : Int) = ((1 : Nat) : Int) from rfl, this]; decide)

theorem xor_byte (c : UInt8) (j : Nat) (hj : j < 8) : ∃ v : UInt8, bits .xor .u8 (c.toNat : Int) (2 ^ j % 256) = (v.toNat : Int) ∧ v.toNat = c.toNat ^^^ 2 ^ j := by
  have hc := c.toNat_lt
  have hp : 2 ^ j < 2 ^ 8 := Nat.pow_lt_pow_right (by omega) hj
  have hx : c.toNat ^^^ 2 ^ j < 256 := Nat.xor_lt_two_pow (n := 8) (by omega) (by omega)
  have e : ((2 : Int) ^ j % 256) = ((2 ^ j : Nat) : Int) := by
    have : (2 : Int) ^ j = ((2 ^ j : Nat) : Int) := by simp
    rw [this]
    generalize 2 ^ j = q at hp
    omega
  refine ⟨UInt8.ofNat (c.toNat ^^^ 2 ^ j), ?_, ?_⟩
  · rw [e, u8_xor_nat _ _ (by omega) (by omega), UInt8.toNat_ofNat', Nat.mod_eq_of_lt hx]
  · rw [UInt8.toNat_ofNat', Nat.mod_eq_of_lt hx]

theorem rowB_set {B : Nat} {bs : List UInt8} {w : World} (h : RowB B bs w) (p : Nat) (hp : p < bs.length) (v : UInt8) : RowB B (bs.set p v) (w.setCell ⟨B, p, none⟩ (.int .u8 (v.toNat : Int))) := by
  refine ⟨fun j hj => ?_, fun j hj => ?_⟩
  · have hj' : j < bs.length := by simpa using hj
    by_cases e : j = p
    · subst e
      rw [World.cell?_setCell_same _ _ _ (h.1 j hj')]
      simp [List.getD, hj']
    · rw [World.cell?_setCell_other _ _ _ _ (by intro h0; exact e (congrArg Addr.off h0).symm), h.1 j hj']
      simp [List.getD, Ne.symm e]
  · have hj' : j < bs.length := by simpa using hj
    rw [World.frozen?_setCell]; exact h.2 j hj'

set_option maxRecDepth 100000 in
set_option maxHeartbeats 1000000 in
theorem walkMain (t : ByteArray) (at_ : Int) (turn : Nat) (more : ByteArray) (w : World) (h1 : 0 < t.size) (h2 : t.size ≤ 500) (h3 : more.size ≤ 500) (h4 : 0 ≤ at_) (h5 : turn < 4294967296) (h6 : at_ ≤ 9223372036854775807) :
    Calls Try.prog 5 #[.string t, .int .i64 at_, .int .u32 turn, .string more] w fun e w' => e = .returned (.bool true) ∧ Below w.heap.size w w' := by
  have g1 : (((t.size : Nat) : Int) == 0) = false := beq_eq_false_iff_ne.2 (by omega)
  have g2 : decide (500 < (t.size : Int)) = false := by simp; omega
  have g3 : decide (500 < (more.size : Int)) = false := by simp; omega
  have g4 : decide (at_ < 0) = false := by simp; omega
  obtain ⟨a, ha, ha'⟩ : ∃ a : Nat, at_ % (8 * (t.size : Int)) = a ∧ a < 8 * t.size := by
    have e1 : 0 ≤ at_ % (8 * (t.size : Int)) := Int.emod_nonneg _ (by omega)
    have e2 : at_ % (8 * (t.size : Int)) < 8 * (t.size : Int) := Int.emod_lt_of_pos _ (by omega)
    exact ⟨(at_ % (8 * (t.size : Int))).toNat, by omega, by omega⟩
  obtain ⟨w1, cap, hcv, hsz, hbel, hrow⟩ := conv w t
  have hz : ∃ N, N = w.heap.size := ⟨_, rfl⟩
  have HR : Hid (RowB w.heap.size t.data.toList w1) := hrow
  have HB : Hid (Below w.heap.size w w1) := hbel
  have HZ : Hid (w1.heap.size = w.heap.size + 1) := hsz
  clear hrow hbel hsz hz
  go_enter Try.func5, Try.ntmps5
  go_wp2
  rw [ha]
  clear ha
  go_loopw [10] (fun i wr => ∃ (k : Nat) (bs : List UInt8), k ≤ 32 ∧ a + k ≤ 8 * t.size ∧ i = .int .i64 k ∧ bs.length = t.size ∧ Crc.num bs = Crc.num t.data.toList ^^^ (2 ^ a * (turn % 2 ^ k)) ∧ RowB w.heap.size bs wr ∧ Below w.heap.size w wr ∧ wr.heap.size = w.heap.size + 1) (fun i _ => 32 - (intOf i).toNat)
  case atStart => exact ⟨0, t.data.toList, by omega, by omega, rfl, by simp, by simp [Nat.mod_one], HR.out, HB.out, HZ.out⟩
  case round =>
    obtain ⟨k, bs, hk, hak, rfl, hlen, hnum, hrow, hbel, hsz⟩ := hrel
    by_cases hlt : k < 32 ∧ a + k < 8 * t.size
    · obtain ⟨hlt1, hlt2⟩ := hlt
      by_cases hbit : turn / 2 ^ k % 2 = 1
      · have hb := bit_yes turn k h5 hbit
        have hp : (a + k) / 8 < bs.length := by omega
        have hcell := hrow.1 _ hp
        have hfrz := hrow.2 _ hp
        have HR : Hid (RowB w.heap.size bs wr) := hrow
        have HN : Hid (Crc.num bs = Crc.num t.data.toList ^^^ (2 ^ a * (turn % 2 ^ k))) := hnum
        have HL : Hid (bs.length = t.size) := hlen
        obtain ⟨v, hv, hv2⟩ := xor_byte (bs[(a + k) / 8]'hp) ((a + k) % 8) (by omega)
        have HV : Hid (Crc.num (bs.set ((a + k) / 8) v) = Crc.num bs ^^^ 2 ^ (a + k)) := Crc.num_flip bs (a + k) v (by omega) hv2
        have HT : Hid (turn / 2 ^ k % 2 = 1) := hbit
        clear hrow hnum hlen hbit hv2
        go_wp2
        go_region
        go_wp2
        go_roundw
        case rel =>
          have fin : ∃ (k1 : Nat) (bs1 : List UInt8), k1 ≤ 32 ∧ a + k1 ≤ 8 * t.size ∧ Value.int .i64 ((k : Int) + 1) = .int .i64 k1 ∧ bs1.length = t.size ∧ Crc.num bs1 = Crc.num t.data.toList ^^^ (2 ^ a * (turn % 2 ^ k1)) ∧ RowB w.heap.size bs1 (wr.setCell ⟨w.heap.size, (a + k) / 8, none⟩ (.int .u8 (v.toNat : Int))).drew ∧ Below w.heap.size w (wr.setCell ⟨w.heap.size, (a + k) / 8, none⟩ (.int .u8 (v.toNat : Int))).drew ∧ (wr.setCell ⟨w.heap.size, (a + k) / 8, none⟩ (.int .u8 (v.toNat : Int))).drew.heap.size = w.heap.size + 1 :=
            ⟨k + 1, bs.set ((a + k) / 8) v, by omega, by omega, by go_num, by rw [List.length_set]; exact HL.out, by rw [HV.out, HN.out]; exact Crc.flip_step _ _ _ _ HT.out, rowB_set HR.out _ hp v, (hbel.setCell (Nat.le_refl _) _).drew, by simp [World.setCell, hsz]⟩
          first | exact fin | ((repeat apply Exists.intro); exact ⟨fin, rfl⟩)
        case measure => simp [intOf]; omega
      · have hb := bit_no turn k h5 hbit
        have HN : Hid (Crc.num bs = Crc.num t.data.toList ^^^ (2 ^ a * (turn % 2 ^ (k + 1)))) := by rw [Crc.mod_bit0 _ _ hbit]; exact hnum
        go_wp2
        go_roundw
        case rel =>
          have fin : ∃ (k1 : Nat) (bs1 : List UInt8), k1 ≤ 32 ∧ a + k1 ≤ 8 * t.size ∧ Value.int .i64 ((k : Int) + 1) = .int .i64 k1 ∧ bs1.length = t.size ∧ Crc.num bs1 = Crc.num t.data.toList ^^^ (2 ^ a * (turn % 2 ^ k1)) ∧ RowB w.heap.size bs1 wr ∧ Below w.heap.size w wr ∧ wr.heap.size = w.heap.size + 1 :=
            ⟨k + 1, bs, by omega, by omega, by go_num, hlen, HN.out, hrow, hbel, hsz⟩
          first | exact fin | ((repeat apply Exists.intro); exact ⟨fin, rfl⟩)
        case measure => simp [intOf]; omega
    · have hfin : (bs = t.data.toList ↔ Crc.total bs = Crc.total t.data.toList) :=
        Crc.turned t.data.toList bs a (turn % 2 ^ k) (by simpa using hlen) (by simp; omega) (Nat.lt_of_le_of_lt (Nat.mod_le _ _) h5) hnum
      have hback := back wr w.heap.size cap bs hrow
      rw [hlen] at hback
      have HF : Hid (bs = t.data.toList ↔ Crc.total bs = Crc.total t.data.toList) := hfin
      clear hfin hnum hrow
      have m1 : (ByteArray.mk bs.toArray).size ≤ maxLen := by unfold maxLen; show bs.toArray.size ≤ _; simp; omega
      have m2 : t.size ≤ maxLen := by unfold maxLen; omega
      have m3 : more.size ≤ maxLen := by unfold maxLen; omega
      have hcmp : (bs == t.toList) = ((Crc.total bs : Int) == (Crc.total t.data.toList : Int)) := by
        rw [ByteArray.toList_eq, Bool.eq_iff_iff, beq_iff_eq, beq_iff_eq, HF.out]
        omega
      have hmor : (((Crc.more (Crc.total t.data.toList) more.data.toList : Nat) : Int) == ((Crc.total (t.data.toList ++ more.data.toList) : Nat) : Int)) = true := by
        rw [Crc.more_total]; exact beq_self_eq_true _
      have hlt0 := Crc.total_lt t.data.toList
      have hdec : (k < 32 ∧ decide ((a : Int) + k < 8 * t.size) = false) ∨ decide ((k : Int) < 32) = false := by
        by_cases hk32 : k < 32
        · exact .inl ⟨hk32, by simp; omega⟩
        · exact .inr (by simp; omega)
      rcases hdec with ⟨hk32, hd2⟩ | hd2
      all_goals
        go_wp2_with fail
        refine (of_one ⟨bs.toArray⟩ _ 1 _ m1 ?_).mono ?_
        · rw [← hsz]; simp [go_sem]
        rintro e w' ⟨rfl, rfl⟩
        go_wp2_with fail
        refine (of_one t _ 1 _ m2 ?_).mono ?_
        · rw [← hsz]; simp [go_sem]
        rintro e w' ⟨rfl, rfl⟩
        go_wp2_with fail
        refine (of_one t _ 1 _ m2 ?_).mono ?_
        · rw [← hsz]; simp [go_sem]
        rintro e w' ⟨rfl, rfl⟩
        go_wp2_with fail
        refine (more_any _ _ _ hlt0 m3).mono ?_
        rintro e w' ⟨rfl, rfl⟩
        go_wp2_with fail
        refine (of_two t more _ 2 _ m2 m3 ?_ ?_).mono ?_
        · rw [← hsz]; simp [go_sem]
        · rw [← hsz]; simp [go_sem]
        rintro e w' ⟨rfl, rfl⟩
        go_wp2
        go_ret
        exact ⟨rfl, (((hbel.alloc (by omega) _).alloc (by simp; omega) _).alloc (by simp; omega) _).alloc (by simp; omega) _⟩

set_option maxRecDepth 100000 in
set_option maxHeartbeats 400000 in
theorem walkNone (t : ByteArray) (at_ : Int) (turn : Nat) (more : ByteArray) (w : World) (h0 : t.size ≤ maxLen) (h : t.size = 0 ∨ 500 < t.size ∨ 500 < more.size ∨ at_ < 0) :
    Calls Try.prog 5 #[.string t, .int .i64 at_, .int .u32 turn, .string more] w fun e w' => e = .returned (.bool true) ∧ Below w.heap.size w w' := by
  unfold maxLen at h0
  by_cases e1 : t.size = 0
  · have g1 : (((t.size : Nat) : Int) == 0) = true := beq_iff_eq.2 (by omega)
    go_enter Try.func5, Try.ntmps5
    go_wp2
    go_ret
    exact ⟨rfl, Below.refl _ _⟩
  · have g1 : (((t.size : Nat) : Int) == 0) = false := beq_eq_false_iff_ne.2 (by omega)
    by_cases e2 : 500 < t.size
    · have g2 : decide (500 < (t.size : Int)) = true := by simp; omega
      go_enter Try.func5, Try.ntmps5
      go_wp2
      go_ret
      exact ⟨rfl, Below.refl _ _⟩
    · have g2 : decide (500 < (t.size : Int)) = false := by simp; omega
      by_cases e3 : 500 < more.size
      · have g3 : decide (500 < (more.size : Int)) = true := by simp; omega
        go_enter Try.func5, Try.ntmps5
        go_wp2
        go_ret
        exact ⟨rfl, Below.refl _ _⟩
      · have g3 : decide (500 < (more.size : Int)) = false := by simp; omega
        have g4 : decide (at_ < 0) = true := by simp; omega
        go_enter Try.func5, Try.ntmps5
        go_wp2
        go_ret
        exact ⟨rfl, Below.refl _ _⟩

theorem walk (a0 : ByteArray) (a1 : Int) (a2 : Int) (a3 : ByteArray) (w0 : a0.size ≤ maxLen) (w1 : (Lit.int .i64 a1).wf = true) (w2 : (Lit.int .u32 a2).wf = true) (w : World) :
    Calls Try.prog 5 #[.string a0, .int .i64 a1, .int .u32 a2, .string a3] w fun e w' => e = .returned (.bool true) ∧ Below w.heap.size w w' := by
  have b1 := bounds_i64 w1
  have b2 := bounds_u32 w2
  obtain ⟨n, rfl⟩ := Int.eq_ofNat_of_zero_le b2.1
  by_cases h : a0.size = 0 ∨ 500 < a0.size ∨ 500 < a3.size ∨ a1 < 0
  · exact walkNone a0 a1 n a3 w w0 h
  · exact walkMain a0 a1 n a3 w (by omega) (by omega) (by omega) (by omega) (by omega) (by omega)

theorem own : ownKnob Try.prog.godebug = none := by kernel_rfl

set_option maxRecDepth 100000 in
theorem lifted (os : Os) (started : os.Started) (H : Type) (enc : TypeId × Value → H) :
    ReturnsInHanded {} Try.checked os 5 .any (Rows.topSumSpec.pre6 enc Try.prog Try.f5 Rows.topSumRow.domain false) (Rows.topSumSpec.post enc Try.prog Try.f5 false true false false) := by
  refine returnsInHanded_of_change (C := Try.checked) own started (by kernel_rfl) Try.func5
    (ChangeSpec.witness6 (enc := enc) (C := Try.checked) false ⟨#[], #[.string ByteArray.empty, .int .i64 0, .int .u32 0, .string ByteArray.empty], []⟩ 8 (by kernel_rfl) (by kernel_rfl) (by kernel_rfl) (by kernel_rfl)) ?_
  intro W base args ds gs before hval0 hW hcnd _
  have hval : ∀ (j : Nat) t v, Try.f5.params[j]? = some t → args[j]? = some v → Value.okWide Try.prog W .any base t v := hval0
  have hW' := hW
  obtain ⟨p, q, hA0, hV, rfl, hfz, hnd⟩ := hW
  have hA : DataW.TrodAll enc Try.prog W 0 (fun _ => true) true Try.f5.params.toList args.toList ds p := hA0
  rw [Try.params5] at hA hval
  obtain ⟨v0, vs0, d0, ds0, p0, q0, hargs, rfl, rfl, h0, r0⟩ := trodAll_cons hA
  obtain ⟨v1, vs1, d1, ds1, p1, q1, rfl, rfl, rfl, h1, r1⟩ := trodAll_cons r0
  obtain ⟨v2, vs2, d2, ds2, p2, q2, rfl, rfl, rfl, h2, r2⟩ := trodAll_cons r1
  obtain ⟨v3, vs3, d3, ds3, p3, q3, rfl, rfl, rfl, h3, r3⟩ := trodAll_cons r2
  obtain ⟨rfl, rfl, rfl⟩ := trodAll_nil r3
  obtain rfl : args = #[v0, v1, v2, v3] := by cases args; simp_all
  obtain ⟨rfl, rfl⟩ := trodVars_none hV
  obtain ⟨a0, rfl, rfl, rfl, w0⟩ := open_string Try.underlying9 (hval 0 9 v0 rfl rfl) h0
  obtain ⟨a1, rfl, rfl, rfl, w1⟩ := open_int Try.underlying3 (hval 1 3 v1 rfl rfl) h1
  obtain ⟨a2, rfl, rfl, rfl, w2⟩ := open_int Try.underlying25 (hval 2 25 v2 rfl rfl) h2
  obtain ⟨a3, rfl, rfl, rfl, w3⟩ := open_string Try.underlying9 (hval 3 9 v3 rfl rfl) h3
  clear hA0 hval0
  simp only [List.append_nil] at hW'
  refine (walk a0 a1 a2 a3 w0 w1 w2 W).mono fun e W' ⟨he, bel⟩ => ?_
  subst he
  exact ⟨_, rfl, _, _, _, [], [], [], hW', trodAll_mk1 (shut_bool Try.underlying4 _), (trodAll_cons_mk (shut_string Try.underlying9 w0) (trodAll_cons_mk (shut_int Try.underlying3 w1) (trodAll_cons_mk (shut_int Try.underlying25 w2) (trodAll_cons_mk (shut_string Try.underlying9 w3) trodAll_mk0)))), rfl, bel.frame _, fun h => by cases h⟩

theorem over : Rows.topSumRow.holds Try.pinned (OpenSpec.ofChange Rows.topSumSpec) :=
  OpenClaim.holds_of_wide 5 Try.f5 rfl rfl rfl rfl rfl rfl rfl ⟨rfl, rfl, rfl, rfl, rfl⟩ rfl rfl rfl rfl rfl (by kernel_rfl) Try.func5 (by kernel_rfl)
    (of_decide_eq_true (by kernel_rfl)) (by unfold Func.isWrapper; first | (rw [if_pos (by decide +kernel)]; kernel_rfl) | (rw [if_neg (by decide +kernel)]; exact ⟨rfl, rfl⟩))
    (fun os started H enc _ => lifted os started H enc)
end Go.Proofs.Ytlfecjgmmhbanaa.topSum

namespace Go.Proofs.Ytlfecjgmmhbanaa
theorem topSum_holds : Rows.TopSumSaid := topSum.over
#print axioms topSum_holds
end Go.Proofs.Ytlfecjgmmhbanaa
