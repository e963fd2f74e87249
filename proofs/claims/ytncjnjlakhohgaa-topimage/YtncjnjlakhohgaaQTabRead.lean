/-
The rows of a table that is being read (C2), in the program: what readRow and ReadTable give.
-/
import Derived.Test.YtncjnjlakhohgaaQTabTake
namespace Go.Proofs.Ytncjnjlakhohgaa
open Go.RowKit
attribute [local go_sem ↓] Go.wp_at_zero Go.wp_at_succ

theorem IsTab.drewN {B N : Nat} {w : World} {h : HV} {v : Value} {acc : List (Int × Int)} {tk : List Bool} (ht : IsTab B w N h v acc tk) (n : Nat) : IsTab B (w.drewN n) N h v acc tk := ht.below (below_drewN (Below.refl _ _) n)

set_option maxRecDepth 100000 in
set_option maxHeartbeats 400000 in
theorem readRow_short {N : Nat} (s : ByteArray) (w : World) (hs : s.size ≠ 16) :
    Calls Try.prog 82 #[.pointer (some ⟨N, 0, none⟩), .string s] w fun e w' => e = .returned (.iface 112 (.int .i64 1)) ∧ w' = w := by
  have g1 : ((s.size : Int) != 16) = true := by simp; omega
  clear hs
  go_enter Try.func82, Try.ntmps82
  go_wp2
  go_ret
  exact ⟨rfl, rfl⟩

/- What readRow gives of a sector's bytes. -/
def rowErr (h : HV) (acc : List (Int × Int)) (s : ByteArray) : Value := if (rowSt h acc s 8).isSome then .nilIface else .iface 112 (.int .i64 2)

set_option maxRecDepth 100000 in
set_option maxHeartbeats 1000000 in
theorem readRow_any {B N : Nat} {h : HV} {v : Value} {acc : List (Int × Int)} (s : ByteArray) (w : World) (hs : s.size = 16) (ht : IsTab B w N h v acc (tkOf acc)) (hok : h.ok = true) (hl : (acc.length : Int) ≤ h.c) :
    Calls Try.prog 82 #[.pointer (some ⟨N, 0, none⟩), .string s] w fun e w' =>
      ∃ v', e = .returned (rowErr h acc s) ∧ (∀ acc', rowSt h acc s 8 = some acc' → IsTab B w' N h v' acc' (tkOf acc')) ∧ Below B w w' := by
  have g1 : ((s.size : Int) != 16) = false := by simp; omega
  have HS := toHid hs
  have HT := toHid ht
  clear hs ht
  go_enter Try.func82, Try.ntmps82
  go_wp2
  clear g1
  go_loopw [11] (fun i wr => ∃ (k : Nat) (a : List (Int × Int)) (v1 : Value), k ≤ 8 ∧ i = .int .i64 k ∧ rowSt h acc s k = some a ∧ IsTab B wr N h v1 a (tkOf a) ∧ Below B w wr) (fun i _ => 8 - (intOf i).toNat)
  case atStart => exact ⟨0, acc, v, Nat.zero_le _, rfl, rfl, HT.out, Below.refl _ _⟩
  case round =>
    obtain ⟨k, a, v1, hk, rfl, hst, htr, hbel⟩ := hrel
    have hal := rowSt_len hl k a hst
    have hB : B ≤ wr.heap.size := by have := htr.pB; have := lt_some htr.blk; omega
    by_cases hlt : k < 8
    · have hst2 := rowSt_some hst
      have i0 : k * 2 < s.size := by rw [HS.out]; omega
      have i1 : k * 2 + 1 < s.size := by rw [HS.out]; omega
      have x0 := bAt_eq s (k * 2) i0
      have x1 := bAt_eq s (k * 2 + 1) i1
      have HST : Hid (rowSt h acc s (k + 1) = stepT h a (bAt s (k * 2), bAt s (k * 2 + 1))) := hst2
      obtain ⟨l0, u0⟩ := bAt_bd s (k * 2)
      obtain ⟨l1, u1⟩ := bAt_bd s (k * 2 + 1)
      generalize bAt s (k * 2) = y0 at x0 HST l0 u0
      generalize bAt s (k * 2 + 1) = y1 at x1 HST l1 u1
      have j0 : (k : Int) * 2 < (s.size : Int) := by omega
      have j1 : (k : Int) * 2 + 1 < (s.size : Int) := by omega
      have j2 : (0 : Int) ≤ (k : Int) * 2 + 1 := by omega
      have j4 : (0 : Int) ≤ (k : Int) * 2 := by omega
      have j5 : ((k : Int) * 2).toNat = k * 2 := by omega
      have j3 : ((k : Int) * 2 + 1).toNat = k * 2 + 1 := by omega
      have HBL := toHid hbel
      have ht1 := htr.below (((Below.refl wr.heap.size wr).alloc (Nat.le_refl _) (.cells #[.int .i64 y0, .int .i64 y1] 78)).drew)
      have HTK := toHid (take_any y0 y1 (wr.alloc (.cells #[.int .i64 y0, .int .i64 y1] 78)).drew ht1 hok hal)
      clear hst hst2 htr hbel ht1
      cases hx : stepT h a (y0, y1) with
      | none =>
        have HN : Hid (rowErr h acc s = .iface 112 (.int .i64 2) ∧ rowSt h acc s 8 = none) := by
          have e1 : rowSt h acc s (k + 1) = none := HST.out.trans hx
          have e2 := rowSt_none e1 8 (by omega)
          exact ⟨by unfold rowErr; rw [e2]; rfl, e2⟩
        rw [hx] at HTK
        clear hx HST
        go_wp2
        go_region
        go_wp2_with fail
        refine HTK.out.mono ?_
        rintro e w2 ⟨v2, rfl, _, hb2⟩
        go_wp2
        go_ret
        exact ⟨v2, by rw [HN.out.1]; rfl, fun acc' e => (by rw [HN.out.2] at e; cases e), (((HBL.out.alloc hB _).drew).trans hb2)⟩
      | some a2 =>
        have HN : Hid (rowSt h acc s (k + 1) = some a2) := HST.out.trans hx
        rw [hx] at HTK
        clear hx HST
        go_wp2
        go_region
        go_wp2_with fail
        refine HTK.out.mono ?_
        rintro e w2 ⟨v2, rfl, ht2, hb2⟩
        have HT2 := toHid (ht2 a2 rfl)
        clear ht2
        go_wp2
        go_roundw
        case rel =>
          have fin : ∃ (k1 : Nat) (a1 : List (Int × Int)) (v3 : Value), k1 ≤ 8 ∧ Value.int .i64 ((k : Int) + 1) = .int .i64 k1 ∧ rowSt h acc s k1 = some a1 ∧ IsTab B w2 N h v3 a1 (tkOf a1) ∧ Below B w w2 :=
            ⟨k + 1, a2, v2, by omega, by go_num, HN.out, HT2.out, (((HBL.out.alloc hB _).drew).trans hb2)⟩
          first | exact fin | ((repeat apply Exists.intro); exact ⟨fin, rfl⟩)
        case measure => simp [intOf]; omega
    · have hk8 : k = 8 := by omega
      subst hk8
      have HE : Hid (rowErr h acc s = .nilIface) := by unfold Hid rowErr; rw [hst]; rfl
      have HTR := toHid htr
      have HST := toHid hst
      have HBL := toHid hbel
      clear htr hst hbel
      go_wp2
      go_ret
      exact ⟨v1, by rw [HE.out]; rfl, fun acc' e => (by rw [HST.out] at e; cases e; exact HTR.out), HBL.out⟩
end Go.Proofs.Ytncjnjlakhohgaa
