/-
Desks (C3): what may be, in the program and in the document's answer.
-/
import Derived.Test.YtmallmchibdkgaaShapeHead3
namespace Go.Proofs.Ytmallmchibdkgaa
open Go.RowKit
attribute [local go_sem ↓] Go.wp_at_zero Go.wp_at_succ

theorem ne_b {a b : Int} (h : a ≠ b) : (a == b) = false ∧ (a != b) = true := by simp [h]
theorem eq_b {a b : Int} (h : a = b) : (a == b) = true ∧ (a != b) = false := by simp [h]
theorem lt_t {a b : Int} (h : a < b) : decide (a < b) = true := decide_eq_true h
theorem lt_f {a b : Int} (h : b ≤ a) : decide (a < b) = false := decide_eq_false (by omega)

theorem KV.fault1 {d : KV} (h : ¬ (0 ≤ d.r ∧ d.r ≤ 4 ∧ 0 ≤ d.k ∧ d.k ≤ 3 ∧ -1 ≤ d.f ∧ d.f ≤ 4 ∧ 0 ≤ d.a ∧ d.a ≤ 1000 ∧ 0 ≤ d.u ∧ d.u ≤ 1000)) : d.fault = 1 := by
  unfold KV.fault KV.bound
  rw [if_neg (fun e => h (of_decide_eq_true e))]

theorem KV.fault2 {d : KV} (h : 0 ≤ d.r ∧ d.r ≤ 4 ∧ 0 ≤ d.k ∧ d.k ≤ 3 ∧ -1 ≤ d.f ∧ d.f ≤ 4 ∧ 0 ≤ d.a ∧ d.a ≤ 1000 ∧ 0 ≤ d.u ∧ d.u ≤ 1000)
    (hm : ¬ ((d.k = 0 ∧ d.f = -1 ∧ d.a = 0 ∧ d.u = 0) ∨ (d.k ≠ 0 ∧ d.f ≠ d.r ∧ (d.f ≠ -1 ∨ d.k = 2)))) : d.fault = 2 := by
  unfold KV.fault KV.bound KV.may
  rw [if_pos (decide_eq_true h), if_neg (fun e => hm (of_decide_eq_true e))]

theorem KV.fault0 {d : KV} (h : 0 ≤ d.r ∧ d.r ≤ 4 ∧ 0 ≤ d.k ∧ d.k ≤ 3 ∧ -1 ≤ d.f ∧ d.f ≤ 4 ∧ 0 ≤ d.a ∧ d.a ≤ 1000 ∧ 0 ≤ d.u ∧ d.u ≤ 1000)
    (hm : (d.k = 0 ∧ d.f = -1 ∧ d.a = 0 ∧ d.u = 0) ∨ (d.k ≠ 0 ∧ d.f ≠ d.r ∧ (d.f ≠ -1 ∨ d.k = 2))) : d.fault = 0 := by
  unfold KV.fault KV.bound KV.may
  rw [if_pos (decide_eq_true h), if_pos (decide_eq_true hm)]

set_option maxRecDepth 100000 in
set_option maxHeartbeats 1000000 in
theorem checkDesk_bound (r k f a u : Int) (w : World) (h : ¬ (0 ≤ r ∧ r ≤ 4 ∧ 0 ≤ k ∧ k ≤ 3 ∧ -1 ≤ f ∧ f ≤ 4 ∧ 0 ≤ a ∧ a ≤ 1000 ∧ 0 ≤ u ∧ u ≤ 1000)) :
    Calls Try.prog 49 #[.agg #[.int .i64 r, .int .i64 k, .int .i64 f, .int .i64 a, .int .i64 u]] w fun e w' => e = .returned (erV (KV.fault ⟨r, k, f, a, u⟩)) ∧ Below w.heap.size w w' := by
  have hbel : Below w.heap.size w (w.alloc (.cells #[.int .i64 r, .int .i64 k, .int .i64 f, .int .i64 a, .int .i64 u] 70)) := (Below.refl _ _).alloc (Nat.le_refl _) _
  have HF : Hid (erV (KV.fault ⟨r, k, f, a, u⟩) = .iface 102 (.int .i64 1)) := by unfold Hid; rw [KV.fault1 (d := ⟨r, k, f, a, u⟩) h]; exact erV_1
  by_cases h0 : 0 ≤ r ∧ r ≤ 4
  rotate_left
  · have y0 : inB r (0) 4 = false := inB_no h0
    clear h h0
    go_enter Try.func49, Try.ntmps49
    go_wp2_with (go_at_call 66; refine (within_any _ _ _ _).mono ?_; rintro e w' ⟨rfl, rfl⟩)
    go_ret
    exact ⟨ret_v HF.out.symm, hbel⟩
  by_cases h1 : 0 ≤ k ∧ k ≤ 3
  rotate_left
  · have y1 : inB k (0) 3 = false := inB_no h1
    have y0 : inB r (0) 4 = true := inB_yes h0
    clear h h1 h0
    go_enter Try.func49, Try.ntmps49
    go_wp2_with (go_at_call 66; refine (within_any _ _ _ _).mono ?_; rintro e w' ⟨rfl, rfl⟩)
    go_ret
    exact ⟨ret_v HF.out.symm, hbel⟩
  by_cases h2 : -1 ≤ f ∧ f ≤ 4
  rotate_left
  · have y2 : inB f (-1) 4 = false := inB_no h2
    have y0 : inB r (0) 4 = true := inB_yes h0
    have y1 : inB k (0) 3 = true := inB_yes h1
    clear h h2 h0 h1
    go_enter Try.func49, Try.ntmps49
    go_wp2_with (go_at_call 66; refine (within_any _ _ _ _).mono ?_; rintro e w' ⟨rfl, rfl⟩)
    go_ret
    exact ⟨ret_v HF.out.symm, hbel⟩
  by_cases h3 : 0 ≤ a ∧ a ≤ 1000
  rotate_left
  · have y3 : inB a (0) 1000 = false := inB_no h3
    have y0 : inB r (0) 4 = true := inB_yes h0
    have y1 : inB k (0) 3 = true := inB_yes h1
    have y2 : inB f (-1) 4 = true := inB_yes h2
    clear h h3 h0 h1 h2
    go_enter Try.func49, Try.ntmps49
    go_wp2_with (go_at_call 66; refine (within_any _ _ _ _).mono ?_; rintro e w' ⟨rfl, rfl⟩)
    go_ret
    exact ⟨ret_v HF.out.symm, hbel⟩
  have h4 : ¬ (0 ≤ u ∧ u ≤ 1000) := by omega
  · have y4 : inB u (0) 1000 = false := inB_no h4
    have y0 : inB r (0) 4 = true := inB_yes h0
    have y1 : inB k (0) 3 = true := inB_yes h1
    have y2 : inB f (-1) 4 = true := inB_yes h2
    have y3 : inB a (0) 1000 = true := inB_yes h3
    clear h h4 h0 h1 h2 h3
    go_enter Try.func49, Try.ntmps49
    go_wp2_with (go_at_call 66; refine (within_any _ _ _ _).mono ?_; rintro e w' ⟨rfl, rfl⟩)
    go_ret
    exact ⟨ret_v HF.out.symm, hbel⟩

set_option maxRecDepth 100000 in
set_option maxHeartbeats 1000000 in
theorem checkDesk_in (r k f a u : Int) (w : World) (h0 : 0 ≤ r ∧ r ≤ 4) (h1 : 0 ≤ k ∧ k ≤ 3) (h2 : -1 ≤ f ∧ f ≤ 4) (h3 : 0 ≤ a ∧ a ≤ 1000) (h4 : 0 ≤ u ∧ u ≤ 1000) :
    Calls Try.prog 49 #[.agg #[.int .i64 r, .int .i64 k, .int .i64 f, .int .i64 a, .int .i64 u]] w fun e w' => e = .returned (erV (KV.fault ⟨r, k, f, a, u⟩)) ∧ Below w.heap.size w w' := by
  have hbel : Below w.heap.size w (w.alloc (.cells #[.int .i64 r, .int .i64 k, .int .i64 f, .int .i64 a, .int .i64 u] 70)) := (Below.refl _ _).alloc (Nat.le_refl _) _
  by_cases k0 : k = 0
  · by_cases f1 : f = -1
    · by_cases a0 : a = 0
      · by_cases u0 : u = 0
        · have HF : Hid (erV (KV.fault ⟨r, k, f, a, u⟩) = .nilIface) := by unfold Hid; rw [KV.fault0 (d := ⟨r, k, f, a, u⟩) ⟨h0.1, h0.2, h1.1, h1.2, h2.1, h2.2, h3.1, h3.2, h4.1, h4.2⟩ (.inl ⟨k0, f1, a0, u0⟩)]; exact erV_0
          clear hbel
          subst k0 f1 a0 u0
          have y0 := inB_yes h0
          have y1 := inB_yes h1
          have y2 := inB_yes h2
          have y3 := inB_yes h3
          have y4 := inB_yes h4
          clear h0 h1 h2 h3 h4
          try clear k0
          try clear f1
          try clear a0
          try clear u0
          try clear fr
          try clear k2
          go_enter Try.func49, Try.ntmps49
          go_wp2_with (go_at_call 66; refine (within_any _ _ _ _).mono ?_; rintro e w' ⟨rfl, rfl⟩)
          go_ret
          exact ⟨ret_v HF.out.symm, (Below.refl _ _).alloc (Nat.le_refl _) _⟩
        · have HF : Hid (erV (KV.fault ⟨r, k, f, a, u⟩) = .iface 102 (.int .i64 2)) := by unfold Hid; rw [KV.fault2 (d := ⟨r, k, f, a, u⟩) ⟨h0.1, h0.2, h1.1, h1.2, h2.1, h2.2, h3.1, h3.2, h4.1, h4.2⟩ (by show ¬ ((k = 0 ∧ f = -1 ∧ a = 0 ∧ u = 0) ∨ (k ≠ 0 ∧ f ≠ r ∧ (f ≠ -1 ∨ k = 2))); omega)]; exact erV_2
          obtain ⟨v1, v2⟩ := ne_b u0
          clear hbel
          subst k0 f1 a0
          have y0 := inB_yes h0
          have y1 := inB_yes h1
          have y2 := inB_yes h2
          have y3 := inB_yes h3
          have y4 := inB_yes h4
          clear h0 h1 h2 h3 h4
          try clear k0
          try clear f1
          try clear a0
          try clear u0
          try clear fr
          try clear k2
          go_enter Try.func49, Try.ntmps49
          go_wp2_with (go_at_call 66; refine (within_any _ _ _ _).mono ?_; rintro e w' ⟨rfl, rfl⟩)
          go_ret
          exact ⟨ret_v HF.out.symm, (Below.refl _ _).alloc (Nat.le_refl _) _⟩
      · have HF : Hid (erV (KV.fault ⟨r, k, f, a, u⟩) = .iface 102 (.int .i64 2)) := by unfold Hid; rw [KV.fault2 (d := ⟨r, k, f, a, u⟩) ⟨h0.1, h0.2, h1.1, h1.2, h2.1, h2.2, h3.1, h3.2, h4.1, h4.2⟩ (by show ¬ ((k = 0 ∧ f = -1 ∧ a = 0 ∧ u = 0) ∨ (k ≠ 0 ∧ f ≠ r ∧ (f ≠ -1 ∨ k = 2))); omega)]; exact erV_2
        obtain ⟨v1, v2⟩ := ne_b a0
        clear hbel
        subst k0 f1
        have y0 := inB_yes h0
        have y1 := inB_yes h1
        have y2 := inB_yes h2
        have y3 := inB_yes h3
        have y4 := inB_yes h4
        clear h0 h1 h2 h3 h4
        try clear k0
        try clear f1
        try clear a0
        try clear u0
        try clear fr
        try clear k2
        go_enter Try.func49, Try.ntmps49
        go_wp2_with (go_at_call 66; refine (within_any _ _ _ _).mono ?_; rintro e w' ⟨rfl, rfl⟩)
        go_ret
        exact ⟨ret_v HF.out.symm, (Below.refl _ _).alloc (Nat.le_refl _) _⟩
    · have HF : Hid (erV (KV.fault ⟨r, k, f, a, u⟩) = .iface 102 (.int .i64 2)) := by unfold Hid; rw [KV.fault2 (d := ⟨r, k, f, a, u⟩) ⟨h0.1, h0.2, h1.1, h1.2, h2.1, h2.2, h3.1, h3.2, h4.1, h4.2⟩ (by show ¬ ((k = 0 ∧ f = -1 ∧ a = 0 ∧ u = 0) ∨ (k ≠ 0 ∧ f ≠ r ∧ (f ≠ -1 ∨ k = 2))); omega)]; exact erV_2
      obtain ⟨v1, v2⟩ := ne_b f1
      clear hbel
      subst k0
      have y0 := inB_yes h0
      have y1 := inB_yes h1
      have y2 := inB_yes h2
      have y3 := inB_yes h3
      have y4 := inB_yes h4
      clear h0 h1 h2 h3 h4
      try clear k0
      try clear f1
      try clear a0
      try clear u0
      try clear fr
      try clear k2
      go_enter Try.func49, Try.ntmps49
      go_wp2_with (go_at_call 66; refine (within_any _ _ _ _).mono ?_; rintro e w' ⟨rfl, rfl⟩)
      go_ret
      exact ⟨ret_v HF.out.symm, (Below.refl _ _).alloc (Nat.le_refl _) _⟩
  · obtain ⟨v1, v2⟩ := ne_b k0
    by_cases fr : f = r
    · have HF : Hid (erV (KV.fault ⟨r, k, f, a, u⟩) = .iface 102 (.int .i64 2)) := by unfold Hid; rw [KV.fault2 (d := ⟨r, k, f, a, u⟩) ⟨h0.1, h0.2, h1.1, h1.2, h2.1, h2.2, h3.1, h3.2, h4.1, h4.2⟩ (by show ¬ ((k = 0 ∧ f = -1 ∧ a = 0 ∧ u = 0) ∨ (k ≠ 0 ∧ f ≠ r ∧ (f ≠ -1 ∨ k = 2))); omega)]; exact erV_2
      obtain ⟨v3, v4⟩ := eq_b fr
      clear hbel
      have y0 := inB_yes h0
      have y1 := inB_yes h1
      have y2 := inB_yes h2
      have y3 := inB_yes h3
      have y4 := inB_yes h4
      clear h0 h1 h2 h3 h4
      try clear k0
      try clear f1
      try clear a0
      try clear u0
      try clear fr
      try clear k2
      go_enter Try.func49, Try.ntmps49
      go_wp2_with (go_at_call 66; refine (within_any _ _ _ _).mono ?_; rintro e w' ⟨rfl, rfl⟩)
      go_ret
      exact ⟨ret_v HF.out.symm, (Below.refl _ _).alloc (Nat.le_refl _) _⟩
    · obtain ⟨v3, v4⟩ := ne_b fr
      by_cases f1 : f = -1
      · by_cases k2 : k = 2
        · have HF : Hid (erV (KV.fault ⟨r, k, f, a, u⟩) = .nilIface) := by unfold Hid; rw [KV.fault0 (d := ⟨r, k, f, a, u⟩) ⟨h0.1, h0.2, h1.1, h1.2, h2.1, h2.2, h3.1, h3.2, h4.1, h4.2⟩ (.inr ⟨k0, fr, .inr k2⟩)]; exact erV_0
          clear hbel
          obtain ⟨v5, v6⟩ := eq_b f1
          obtain ⟨v7, v8⟩ := eq_b k2
          have y0 := inB_yes h0
          have y1 := inB_yes h1
          have y2 := inB_yes h2
          have y3 := inB_yes h3
          have y4 := inB_yes h4
          clear h0 h1 h2 h3 h4
          try clear k0
          try clear f1
          try clear a0
          try clear u0
          try clear fr
          try clear k2
          go_enter Try.func49, Try.ntmps49
          go_wp2_with (go_at_call 66; refine (within_any _ _ _ _).mono ?_; rintro e w' ⟨rfl, rfl⟩)
          go_ret
          exact ⟨ret_v HF.out.symm, (Below.refl _ _).alloc (Nat.le_refl _) _⟩
        · have HF : Hid (erV (KV.fault ⟨r, k, f, a, u⟩) = .iface 102 (.int .i64 2)) := by unfold Hid; rw [KV.fault2 (d := ⟨r, k, f, a, u⟩) ⟨h0.1, h0.2, h1.1, h1.2, h2.1, h2.2, h3.1, h3.2, h4.1, h4.2⟩ (by show ¬ ((k = 0 ∧ f = -1 ∧ a = 0 ∧ u = 0) ∨ (k ≠ 0 ∧ f ≠ r ∧ (f ≠ -1 ∨ k = 2))); omega)]; exact erV_2
          clear hbel
          obtain ⟨v5, v6⟩ := eq_b f1
          obtain ⟨v7, v8⟩ := ne_b k2
          have y0 := inB_yes h0
          have y1 := inB_yes h1
          have y2 := inB_yes h2
          have y3 := inB_yes h3
          have y4 := inB_yes h4
          clear h0 h1 h2 h3 h4
          try clear k0
          try clear f1
          try clear a0
          try clear u0
          try clear fr
          try clear k2
          go_enter Try.func49, Try.ntmps49
          go_wp2_with (go_at_call 66; refine (within_any _ _ _ _).mono ?_; rintro e w' ⟨rfl, rfl⟩)
          go_ret
          exact ⟨ret_v HF.out.symm, (Below.refl _ _).alloc (Nat.le_refl _) _⟩
      · have HF : Hid (erV (KV.fault ⟨r, k, f, a, u⟩) = .nilIface) := by unfold Hid; rw [KV.fault0 (d := ⟨r, k, f, a, u⟩) ⟨h0.1, h0.2, h1.1, h1.2, h2.1, h2.2, h3.1, h3.2, h4.1, h4.2⟩ (.inr ⟨k0, fr, .inl f1⟩)]; exact erV_0
        clear hbel
        obtain ⟨v5, v6⟩ := ne_b f1
        have y0 := inB_yes h0
        have y1 := inB_yes h1
        have y2 := inB_yes h2
        have y3 := inB_yes h3
        have y4 := inB_yes h4
        clear h0 h1 h2 h3 h4
        try clear k0
        try clear f1
        try clear a0
        try clear u0
        try clear fr
        try clear k2
        go_enter Try.func49, Try.ntmps49
        go_wp2_with (go_at_call 66; refine (within_any _ _ _ _).mono ?_; rintro e w' ⟨rfl, rfl⟩)
        go_ret
        exact ⟨ret_v HF.out.symm, (Below.refl _ _).alloc (Nat.le_refl _) _⟩

theorem checkDesk_any (r k f a u : Int) (w : World) :
    Calls Try.prog 49 #[.agg #[.int .i64 r, .int .i64 k, .int .i64 f, .int .i64 a, .int .i64 u]] w fun e w' => e = .returned (erV (KV.fault ⟨r, k, f, a, u⟩)) ∧ Below w.heap.size w w' := by
  by_cases h : 0 ≤ r ∧ r ≤ 4 ∧ 0 ≤ k ∧ k ≤ 3 ∧ -1 ≤ f ∧ f ≤ 4 ∧ 0 ≤ a ∧ a ≤ 1000 ∧ 0 ≤ u ∧ u ≤ 1000
  · exact checkDesk_in r k f a u w ⟨h.1, by omega⟩ ⟨by omega, by omega⟩ ⟨by omega, by omega⟩ ⟨by omega, by omega⟩ ⟨by omega, by omega⟩
  · exact checkDesk_bound r k f a u w h

set_option maxRecDepth 100000 in
set_option maxHeartbeats 1000000 in
theorem deskFault_bound (r k f a u : Int) (w : World) (h : ¬ (0 ≤ r ∧ r ≤ 4 ∧ 0 ≤ k ∧ k ≤ 3 ∧ -1 ≤ f ∧ f ≤ 4 ∧ 0 ≤ a ∧ a ≤ 1000 ∧ 0 ≤ u ∧ u ≤ 1000)) :
    Calls Try.prog 47 #[.agg #[.int .i64 r, .int .i64 k, .int .i64 f, .int .i64 a, .int .i64 u]] w fun e w' => e = .returned (.int .i64 (KV.fault ⟨r, k, f, a, u⟩)) ∧ Below w.heap.size w w' := by
  have hbel : Below w.heap.size w (w.alloc (.cells #[.int .i64 r, .int .i64 k, .int .i64 f, .int .i64 a, .int .i64 u] 70)) := (Below.refl _ _).alloc (Nat.le_refl _) _
  have HF : Hid (KV.fault ⟨r, k, f, a, u⟩ = 1) := KV.fault1 (d := ⟨r, k, f, a, u⟩) h
  by_cases h0 : 0 ≤ r ∧ r ≤ 4
  rotate_left
  · by_cases g : r < 0
    · have y0 : decide (r < 0) = true := lt_t g
      clear h g h0
      go_enter Try.func47, Try.ntmps47
      go_wp2
      go_ret
      exact ⟨retI HF.out.symm, hbel⟩
    · have y0 : decide (r < 0) = false := lt_f (by omega)
      have z0 : decide (4 < r) = true := lt_t (by omega)
      clear h g h0
      go_enter Try.func47, Try.ntmps47
      go_wp2
      go_ret
      exact ⟨retI HF.out.symm, hbel⟩
  by_cases h1 : 0 ≤ k ∧ k ≤ 3
  rotate_left
  · by_cases g : k < 0
    · have y1 : decide (k < 0) = true := lt_t g
      have y0 : decide (r < 0) = false := lt_f h0.1
      have z0 : decide (4 < r) = false := lt_f h0.2
      clear h g h1 h0
      go_enter Try.func47, Try.ntmps47
      go_wp2
      go_ret
      exact ⟨retI HF.out.symm, hbel⟩
    · have y1 : decide (k < 0) = false := lt_f (by omega)
      have z1 : decide (3 < k) = true := lt_t (by omega)
      have y0 : decide (r < 0) = false := lt_f h0.1
      have z0 : decide (4 < r) = false := lt_f h0.2
      clear h g h1 h0
      go_enter Try.func47, Try.ntmps47
      go_wp2
      go_ret
      exact ⟨retI HF.out.symm, hbel⟩
  by_cases h2 : -1 ≤ f ∧ f ≤ 4
  rotate_left
  · by_cases g : f < -1
    · have y2 : decide (f < -1) = true := lt_t g
      have y0 : decide (r < 0) = false := lt_f h0.1
      have z0 : decide (4 < r) = false := lt_f h0.2
      have y1 : decide (k < 0) = false := lt_f h1.1
      have z1 : decide (3 < k) = false := lt_f h1.2
      clear h g h2 h0 h1
      go_enter Try.func47, Try.ntmps47
      go_wp2
      go_ret
      exact ⟨retI HF.out.symm, hbel⟩
    · have y2 : decide (f < -1) = false := lt_f (by omega)
      have z2 : decide (4 < f) = true := lt_t (by omega)
      have y0 : decide (r < 0) = false := lt_f h0.1
      have z0 : decide (4 < r) = false := lt_f h0.2
      have y1 : decide (k < 0) = false := lt_f h1.1
      have z1 : decide (3 < k) = false := lt_f h1.2
      clear h g h2 h0 h1
      go_enter Try.func47, Try.ntmps47
      go_wp2
      go_ret
      exact ⟨retI HF.out.symm, hbel⟩
  by_cases h3 : 0 ≤ a ∧ a ≤ 1000
  rotate_left
  · by_cases g : a < 0
    · have y3 : decide (a < 0) = true := lt_t g
      have y0 : decide (r < 0) = false := lt_f h0.1
      have z0 : decide (4 < r) = false := lt_f h0.2
      have y1 : decide (k < 0) = false := lt_f h1.1
      have z1 : decide (3 < k) = false := lt_f h1.2
      have y2 : decide (f < -1) = false := lt_f h2.1
      have z2 : decide (4 < f) = false := lt_f h2.2
      clear h g h3 h0 h1 h2
      go_enter Try.func47, Try.ntmps47
      go_wp2
      go_ret
      exact ⟨retI HF.out.symm, hbel⟩
    · have y3 : decide (a < 0) = false := lt_f (by omega)
      have z3 : decide (1000 < a) = true := lt_t (by omega)
      have y0 : decide (r < 0) = false := lt_f h0.1
      have z0 : decide (4 < r) = false := lt_f h0.2
      have y1 : decide (k < 0) = false := lt_f h1.1
      have z1 : decide (3 < k) = false := lt_f h1.2
      have y2 : decide (f < -1) = false := lt_f h2.1
      have z2 : decide (4 < f) = false := lt_f h2.2
      clear h g h3 h0 h1 h2
      go_enter Try.func47, Try.ntmps47
      go_wp2
      go_ret
      exact ⟨retI HF.out.symm, hbel⟩
  have h4 : ¬ (0 ≤ u ∧ u ≤ 1000) := by omega
  · by_cases g : u < 0
    · have y4 : decide (u < 0) = true := lt_t g
      have y0 : decide (r < 0) = false := lt_f h0.1
      have z0 : decide (4 < r) = false := lt_f h0.2
      have y1 : decide (k < 0) = false := lt_f h1.1
      have z1 : decide (3 < k) = false := lt_f h1.2
      have y2 : decide (f < -1) = false := lt_f h2.1
      have z2 : decide (4 < f) = false := lt_f h2.2
      have y3 : decide (a < 0) = false := lt_f h3.1
      have z3 : decide (1000 < a) = false := lt_f h3.2
      clear h g h4 h0 h1 h2 h3
      go_enter Try.func47, Try.ntmps47
      go_wp2
      go_ret
      exact ⟨retI HF.out.symm, hbel⟩
    · have y4 : decide (u < 0) = false := lt_f (by omega)
      have z4 : decide (1000 < u) = true := lt_t (by omega)
      have y0 : decide (r < 0) = false := lt_f h0.1
      have z0 : decide (4 < r) = false := lt_f h0.2
      have y1 : decide (k < 0) = false := lt_f h1.1
      have z1 : decide (3 < k) = false := lt_f h1.2
      have y2 : decide (f < -1) = false := lt_f h2.1
      have z2 : decide (4 < f) = false := lt_f h2.2
      have y3 : decide (a < 0) = false := lt_f h3.1
      have z3 : decide (1000 < a) = false := lt_f h3.2
      clear h g h4 h0 h1 h2 h3
      go_enter Try.func47, Try.ntmps47
      go_wp2
      go_ret
      exact ⟨retI HF.out.symm, hbel⟩

set_option maxRecDepth 100000 in
set_option maxHeartbeats 1000000 in
theorem deskFault_in (r k f a u : Int) (w : World) (h0 : 0 ≤ r ∧ r ≤ 4) (h1 : 0 ≤ k ∧ k ≤ 3) (h2 : -1 ≤ f ∧ f ≤ 4) (h3 : 0 ≤ a ∧ a ≤ 1000) (h4 : 0 ≤ u ∧ u ≤ 1000) :
    Calls Try.prog 47 #[.agg #[.int .i64 r, .int .i64 k, .int .i64 f, .int .i64 a, .int .i64 u]] w fun e w' => e = .returned (.int .i64 (KV.fault ⟨r, k, f, a, u⟩)) ∧ Below w.heap.size w w' := by
  have hbel : Below w.heap.size w (w.alloc (.cells #[.int .i64 r, .int .i64 k, .int .i64 f, .int .i64 a, .int .i64 u] 70)) := (Below.refl _ _).alloc (Nat.le_refl _) _
  by_cases k0 : k = 0
  · by_cases f1 : f = -1
    · by_cases a0 : a = 0
      · by_cases u0 : u = 0
        · have HF : Hid (KV.fault ⟨r, k, f, a, u⟩ = 0) := KV.fault0 (d := ⟨r, k, f, a, u⟩) ⟨h0.1, h0.2, h1.1, h1.2, h2.1, h2.2, h3.1, h3.2, h4.1, h4.2⟩ (.inl ⟨k0, f1, a0, u0⟩)
          clear hbel
          subst k0 f1 a0 u0
          have y0 := lt_f h0.1
          have z0 := lt_f h0.2
          have y1 := lt_f h1.1
          have z1 := lt_f h1.2
          have y2 := lt_f h2.1
          have z2 := lt_f h2.2
          have y3 := lt_f h3.1
          have z3 := lt_f h3.2
          have y4 := lt_f h4.1
          have z4 := lt_f h4.2
          clear h0 h1 h2 h3 h4
          try clear k0
          try clear f1
          try clear a0
          try clear u0
          try clear fr
          try clear k2
          go_enter Try.func47, Try.ntmps47
          go_wp2
          go_ret
          exact ⟨retI HF.out.symm, (Below.refl _ _).alloc (Nat.le_refl _) _⟩
        · have HF : Hid (KV.fault ⟨r, k, f, a, u⟩ = 2) := KV.fault2 (d := ⟨r, k, f, a, u⟩) ⟨h0.1, h0.2, h1.1, h1.2, h2.1, h2.2, h3.1, h3.2, h4.1, h4.2⟩ (by show ¬ ((k = 0 ∧ f = -1 ∧ a = 0 ∧ u = 0) ∨ (k ≠ 0 ∧ f ≠ r ∧ (f ≠ -1 ∨ k = 2))); omega)
          obtain ⟨v1, v2⟩ := ne_b u0
          clear hbel
          subst k0 f1 a0
          have y0 := lt_f h0.1
          have z0 := lt_f h0.2
          have y1 := lt_f h1.1
          have z1 := lt_f h1.2
          have y2 := lt_f h2.1
          have z2 := lt_f h2.2
          have y3 := lt_f h3.1
          have z3 := lt_f h3.2
          have y4 := lt_f h4.1
          have z4 := lt_f h4.2
          clear h0 h1 h2 h3 h4
          try clear k0
          try clear f1
          try clear a0
          try clear u0
          try clear fr
          try clear k2
          go_enter Try.func47, Try.ntmps47
          go_wp2
          go_ret
          exact ⟨retI HF.out.symm, (Below.refl _ _).alloc (Nat.le_refl _) _⟩
      · have HF : Hid (KV.fault ⟨r, k, f, a, u⟩ = 2) := KV.fault2 (d := ⟨r, k, f, a, u⟩) ⟨h0.1, h0.2, h1.1, h1.2, h2.1, h2.2, h3.1, h3.2, h4.1, h4.2⟩ (by show ¬ ((k = 0 ∧ f = -1 ∧ a = 0 ∧ u = 0) ∨ (k ≠ 0 ∧ f ≠ r ∧ (f ≠ -1 ∨ k = 2))); omega)
        obtain ⟨v1, v2⟩ := ne_b a0
        clear hbel
        subst k0 f1
        have y0 := lt_f h0.1
        have z0 := lt_f h0.2
        have y1 := lt_f h1.1
        have z1 := lt_f h1.2
        have y2 := lt_f h2.1
        have z2 := lt_f h2.2
        have y3 := lt_f h3.1
        have z3 := lt_f h3.2
        have y4 := lt_f h4.1
        have z4 := lt_f h4.2
        clear h0 h1 h2 h3 h4
        try clear k0
        try clear f1
        try clear a0
        try clear u0
        try clear fr
        try clear k2
        go_enter Try.func47, Try.ntmps47
        go_wp2
        go_ret
        exact ⟨retI HF.out.symm, (Below.refl _ _).alloc (Nat.le_refl _) _⟩
    · have HF : Hid (KV.fault ⟨r, k, f, a, u⟩ = 2) := KV.fault2 (d := ⟨r, k, f, a, u⟩) ⟨h0.1, h0.2, h1.1, h1.2, h2.1, h2.2, h3.1, h3.2, h4.1, h4.2⟩ (by show ¬ ((k = 0 ∧ f = -1 ∧ a = 0 ∧ u = 0) ∨ (k ≠ 0 ∧ f ≠ r ∧ (f ≠ -1 ∨ k = 2))); omega)
      obtain ⟨v1, v2⟩ := ne_b f1
      clear hbel
      subst k0
      have y0 := lt_f h0.1
      have z0 := lt_f h0.2
      have y1 := lt_f h1.1
      have z1 := lt_f h1.2
      have y2 := lt_f h2.1
      have z2 := lt_f h2.2
      have y3 := lt_f h3.1
      have z3 := lt_f h3.2
      have y4 := lt_f h4.1
      have z4 := lt_f h4.2
      clear h0 h1 h2 h3 h4
      try clear k0
      try clear f1
      try clear a0
      try clear u0
      try clear fr
      try clear k2
      go_enter Try.func47, Try.ntmps47
      go_wp2
      go_ret
      exact ⟨retI HF.out.symm, (Below.refl _ _).alloc (Nat.le_refl _) _⟩
  · obtain ⟨v1, v2⟩ := ne_b k0
    by_cases fr : f = r
    · have HF : Hid (KV.fault ⟨r, k, f, a, u⟩ = 2) := KV.fault2 (d := ⟨r, k, f, a, u⟩) ⟨h0.1, h0.2, h1.1, h1.2, h2.1, h2.2, h3.1, h3.2, h4.1, h4.2⟩ (by show ¬ ((k = 0 ∧ f = -1 ∧ a = 0 ∧ u = 0) ∨ (k ≠ 0 ∧ f ≠ r ∧ (f ≠ -1 ∨ k = 2))); omega)
      obtain ⟨v3, v4⟩ := eq_b fr
      clear hbel
      have y0 := lt_f h0.1
      have z0 := lt_f h0.2
      have y1 := lt_f h1.1
      have z1 := lt_f h1.2
      have y2 := lt_f h2.1
      have z2 := lt_f h2.2
      have y3 := lt_f h3.1
      have z3 := lt_f h3.2
      have y4 := lt_f h4.1
      have z4 := lt_f h4.2
      clear h0 h1 h2 h3 h4
      try clear k0
      try clear f1
      try clear a0
      try clear u0
      try clear fr
      try clear k2
      go_enter Try.func47, Try.ntmps47
      go_wp2
      go_ret
      exact ⟨retI HF.out.symm, (Below.refl _ _).alloc (Nat.le_refl _) _⟩
    · obtain ⟨v3, v4⟩ := ne_b fr
      by_cases f1 : f = -1
      · by_cases k2 : k = 2
        · have HF : Hid (KV.fault ⟨r, k, f, a, u⟩ = 0) := KV.fault0 (d := ⟨r, k, f, a, u⟩) ⟨h0.1, h0.2, h1.1, h1.2, h2.1, h2.2, h3.1, h3.2, h4.1, h4.2⟩ (.inr ⟨k0, fr, .inr k2⟩)
          clear hbel
          obtain ⟨v5, v6⟩ := eq_b f1
          obtain ⟨v7, v8⟩ := eq_b k2
          have y0 := lt_f h0.1
          have z0 := lt_f h0.2
          have y1 := lt_f h1.1
          have z1 := lt_f h1.2
          have y2 := lt_f h2.1
          have z2 := lt_f h2.2
          have y3 := lt_f h3.1
          have z3 := lt_f h3.2
          have y4 := lt_f h4.1
          have z4 := lt_f h4.2
          clear h0 h1 h2 h3 h4
          try clear k0
          try clear f1
          try clear a0
          try clear u0
          try clear fr
          try clear k2
          go_enter Try.func47, Try.ntmps47
          go_wp2
          go_ret
          exact ⟨retI HF.out.symm, (Below.refl _ _).alloc (Nat.le_refl _) _⟩
        · have HF : Hid (KV.fault ⟨r, k, f, a, u⟩ = 2) := KV.fault2 (d := ⟨r, k, f, a, u⟩) ⟨h0.1, h0.2, h1.1, h1.2, h2.1, h2.2, h3.1, h3.2, h4.1, h4.2⟩ (by show ¬ ((k = 0 ∧ f = -1 ∧ a = 0 ∧ u = 0) ∨ (k ≠ 0 ∧ f ≠ r ∧ (f ≠ -1 ∨ k = 2))); omega)
          clear hbel
          obtain ⟨v5, v6⟩ := eq_b f1
          obtain ⟨v7, v8⟩ := ne_b k2
          have y0 := lt_f h0.1
          have z0 := lt_f h0.2
          have y1 := lt_f h1.1
          have z1 := lt_f h1.2
          have y2 := lt_f h2.1
          have z2 := lt_f h2.2
          have y3 := lt_f h3.1
          have z3 := lt_f h3.2
          have y4 := lt_f h4.1
          have z4 := lt_f h4.2
          clear h0 h1 h2 h3 h4
          try clear k0
          try clear f1
          try clear a0
          try clear u0
          try clear fr
          try clear k2
          go_enter Try.func47, Try.ntmps47
          go_wp2
          go_ret
          exact ⟨retI HF.out.symm, (Below.refl _ _).alloc (Nat.le_refl _) _⟩
      · have HF : Hid (KV.fault ⟨r, k, f, a, u⟩ = 0) := KV.fault0 (d := ⟨r, k, f, a, u⟩) ⟨h0.1, h0.2, h1.1, h1.2, h2.1, h2.2, h3.1, h3.2, h4.1, h4.2⟩ (.inr ⟨k0, fr, .inl f1⟩)
        clear hbel
        obtain ⟨v5, v6⟩ := ne_b f1
        have y0 := lt_f h0.1
        have z0 := lt_f h0.2
        have y1 := lt_f h1.1
        have z1 := lt_f h1.2
        have y2 := lt_f h2.1
        have z2 := lt_f h2.2
        have y3 := lt_f h3.1
        have z3 := lt_f h3.2
        have y4 := lt_f h4.1
        have z4 := lt_f h4.2
        clear h0 h1 h2 h3 h4
        try clear k0
        try clear f1
        try clear a0
        try clear u0
        try clear fr
        try clear k2
        go_enter Try.func47, Try.ntmps47
        go_wp2
        go_ret
        exact ⟨retI HF.out.symm, (Below.refl _ _).alloc (Nat.le_refl _) _⟩

theorem deskFault_any (r k f a u : Int) (w : World) :
    Calls Try.prog 47 #[.agg #[.int .i64 r, .int .i64 k, .int .i64 f, .int .i64 a, .int .i64 u]] w fun e w' => e = .returned (.int .i64 (KV.fault ⟨r, k, f, a, u⟩)) ∧ Below w.heap.size w w' := by
  by_cases h : 0 ≤ r ∧ r ≤ 4 ∧ 0 ≤ k ∧ k ≤ 3 ∧ -1 ≤ f ∧ f ≤ 4 ∧ 0 ≤ a ∧ a ≤ 1000 ∧ 0 ≤ u ∧ u ≤ 1000
  · exact deskFault_in r k f a u w ⟨h.1, by omega⟩ ⟨by omega, by omega⟩ ⟨by omega, by omega⟩ ⟨by omega, by omega⟩ ⟨by omega, by omega⟩
  · exact deskFault_bound r k f a u w h

end Go.Proofs.Ytmallmchibdkgaa
