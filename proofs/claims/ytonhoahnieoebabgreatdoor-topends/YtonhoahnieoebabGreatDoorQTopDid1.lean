/-
An act on a yard that leaves its guest alone.
-/
import Derived.Test.YtonhoahnieoebabGreatDoorQYardP7
import Derived.Test.YtonhoahnieoebabGreatDoorQYardP9
import Derived.Test.YtonhoahnieoebabGreatDoorQActBox
namespace Go.Proofs.YtonhoahnieoebabGreatDoor
open Go.RowKit Go.Maps
attribute [local go_sem ↓] Go.wp_at_zero Go.wp_at_succ

def actG (x : ActV) : Value := .agg #[.string x.kind, .int .i64 x.a, .int .i64 x.b, .int .i64 x.c, .int .i64 x.d, .string x.s, .slice x.ka x.kl x.kc]

set_option maxRecDepth 100000 in
set_option maxHeartbeats 2000000 in
theorem did_blank {yp gp : Nat} {P : World → Prop} (x : ActV) (w : World) (hk : x.kind.toList = [98, 108, 97, 110, 107]) (HC : ∀ W : World, Below w.heap.size w W → Calls Tryz.prog 114 #[.pointer (some ⟨yp, 0, none⟩), .int .i64 x.a] W fun e w' => (∃ v, e = .returned v) ∧ P w') :
    Calls Tryz.prog 42 #[.pointer (some ⟨yp, 0, none⟩), .pointer (some ⟨gp, 0, none⟩), actG x] w fun e w' => e = .returned (.tuple #[]) ∧ P w' := by
  have g0 : (x.kind.toList == [119, 114, 105, 116, 101]) = false := by rw [hk]; rfl
  have g1 : (x.kind.toList == [119, 105, 112, 101]) = false := by rw [hk]; rfl
  have g2 : (x.kind.toList == [102, 108, 117, 115, 104]) = false := by rw [hk]; rfl
  have g3 : (x.kind.toList == [98, 108, 97, 110, 107]) = true := by rw [hk]; rfl
  have HB0 : Hid (Below w.heap.size w (w.alloc (actBox x))) := (Below.refl _ _).alloc (Nat.le_refl _) _
  have HC1 := toHid (HC _ HB0.out)
  unfold actBox at HB0 HC1
  unfold actG
  clear HC hk
  go_enter Tryz.func42, Tryz.ntmps42
  go_wp2_with fail
  refine HC1.out.mono ?_
  rintro e w1 ⟨⟨v, rfl⟩, hp⟩
  have HP := toHid hp
  clear hp HC1
  go_wp2
  go_end0
  exact ⟨rfl, HP.out⟩

set_option maxRecDepth 100000 in
set_option maxHeartbeats 2000000 in
theorem did_snap {yp gp : Nat} {P : World → Prop} (x : ActV) (w : World) (hk : x.kind.toList = [115, 110, 97, 112]) (HC : ∀ W : World, Below w.heap.size w W → Calls Tryz.prog 116 #[.pointer (some ⟨yp, 0, none⟩), .int .i64 x.a] W fun e w' => (∃ v, e = .returned v) ∧ P w') :
    Calls Tryz.prog 42 #[.pointer (some ⟨yp, 0, none⟩), .pointer (some ⟨gp, 0, none⟩), actG x] w fun e w' => e = .returned (.tuple #[]) ∧ P w' := by
  have g0 : (x.kind.toList == [119, 114, 105, 116, 101]) = false := by rw [hk]; rfl
  have g1 : (x.kind.toList == [119, 105, 112, 101]) = false := by rw [hk]; rfl
  have g2 : (x.kind.toList == [102, 108, 117, 115, 104]) = false := by rw [hk]; rfl
  have g3 : (x.kind.toList == [98, 108, 97, 110, 107]) = false := by rw [hk]; rfl
  have g4 : (x.kind.toList == [115, 110, 97, 112]) = true := by rw [hk]; rfl
  have HB0 : Hid (Below w.heap.size w (w.alloc (actBox x))) := (Below.refl _ _).alloc (Nat.le_refl _) _
  have HC1 := toHid (HC _ HB0.out)
  unfold actBox at HB0 HC1
  unfold actG
  clear HC hk
  go_enter Tryz.func42, Tryz.ntmps42
  go_wp2_with fail
  refine HC1.out.mono ?_
  rintro e w1 ⟨⟨v, rfl⟩, hp⟩
  have HP := toHid hp
  clear hp HC1
  go_wp2
  go_end0
  exact ⟨rfl, HP.out⟩

set_option maxRecDepth 100000 in
set_option maxHeartbeats 2000000 in
theorem did_start {yp gp : Nat} {P : World → Prop} (x : ActV) (w : World) (hk : x.kind.toList = [115, 116, 97, 114, 116]) (HC : ∀ W : World, Below w.heap.size w W → Calls Tryz.prog 53 #[.pointer (some ⟨yp, 0, none⟩), .int .i64 x.a, .int .i64 x.b, .int .i64 x.c, .int .i64 x.d] W fun e w' => (∃ v, e = .returned v) ∧ P w') :
    Calls Tryz.prog 42 #[.pointer (some ⟨yp, 0, none⟩), .pointer (some ⟨gp, 0, none⟩), actG x] w fun e w' => e = .returned (.tuple #[]) ∧ P w' := by
  have g0 : (x.kind.toList == [119, 114, 105, 116, 101]) = false := by rw [hk]; rfl
  have g1 : (x.kind.toList == [119, 105, 112, 101]) = false := by rw [hk]; rfl
  have g2 : (x.kind.toList == [102, 108, 117, 115, 104]) = false := by rw [hk]; rfl
  have g3 : (x.kind.toList == [98, 108, 97, 110, 107]) = false := by rw [hk]; rfl
  have g4 : (x.kind.toList == [115, 110, 97, 112]) = false := by rw [hk]; rfl
  have g5 : (x.kind.toList == [115, 116, 97, 114, 116]) = true := by rw [hk]; rfl
  have HB0 : Hid (Below w.heap.size w (w.alloc (actBox x))) := (Below.refl _ _).alloc (Nat.le_refl _) _
  have HC1 := toHid (HC _ HB0.out)
  unfold actBox at HB0 HC1
  unfold actG
  clear HC hk
  go_enter Tryz.func42, Tryz.ntmps42
  go_wp2_with fail
  refine HC1.out.mono ?_
  rintro e w1 ⟨⟨v, rfl⟩, hp⟩
  have HP := toHid hp
  clear hp HC1
  go_wp2
  go_end0
  exact ⟨rfl, HP.out⟩

set_option maxRecDepth 100000 in
set_option maxHeartbeats 2000000 in
theorem did_pivot {yp gp : Nat} {P : World → Prop} (x : ActV) (w : World) (hk : x.kind.toList = [112, 105, 118, 111, 116]) (HC : ∀ W : World, Below w.heap.size w W → Calls Tryz.prog 56 #[.pointer (some ⟨yp, 0, none⟩)] W fun e w' => (∃ v, e = .returned v) ∧ P w') :
    Calls Tryz.prog 42 #[.pointer (some ⟨yp, 0, none⟩), .pointer (some ⟨gp, 0, none⟩), actG x] w fun e w' => e = .returned (.tuple #[]) ∧ P w' := by
  have g0 : (x.kind.toList == [119, 114, 105, 116, 101]) = false := by rw [hk]; rfl
  have g1 : (x.kind.toList == [119, 105, 112, 101]) = false := by rw [hk]; rfl
  have g2 : (x.kind.toList == [102, 108, 117, 115, 104]) = false := by rw [hk]; rfl
  have g3 : (x.kind.toList == [98, 108, 97, 110, 107]) = false := by rw [hk]; rfl
  have g4 : (x.kind.toList == [115, 110, 97, 112]) = false := by rw [hk]; rfl
  have g5 : (x.kind.toList == [115, 116, 97, 114, 116]) = false := by rw [hk]; rfl
  have g6 : (x.kind.toList == [112, 105, 118, 111, 116]) = true := by rw [hk]; rfl
  have HB0 : Hid (Below w.heap.size w (w.alloc (actBox x))) := (Below.refl _ _).alloc (Nat.le_refl _) _
  have HC1 := toHid (HC _ HB0.out)
  unfold actBox at HB0 HC1
  unfold actG
  clear HC hk
  go_enter Tryz.func42, Tryz.ntmps42
  go_wp2_with fail
  refine HC1.out.mono ?_
  rintro e w1 ⟨⟨v, rfl⟩, hp⟩
  have HP := toHid hp
  clear hp HC1
  go_wp2
  go_end0
  exact ⟨rfl, HP.out⟩

set_option maxRecDepth 100000 in
set_option maxHeartbeats 2000000 in
theorem did_cancel {yp gp : Nat} {P : World → Prop} (x : ActV) (w : World) (hk : x.kind.toList = [99, 97, 110, 99, 101, 108]) (HC : ∀ W : World, Below w.heap.size w W → Calls Tryz.prog 52 #[.pointer (some ⟨yp, 0, none⟩)] W fun e w' => (∃ v, e = .returned v) ∧ P w') :
    Calls Tryz.prog 42 #[.pointer (some ⟨yp, 0, none⟩), .pointer (some ⟨gp, 0, none⟩), actG x] w fun e w' => e = .returned (.tuple #[]) ∧ P w' := by
  have g0 : (x.kind.toList == [119, 114, 105, 116, 101]) = false := by rw [hk]; rfl
  have g1 : (x.kind.toList == [119, 105, 112, 101]) = false := by rw [hk]; rfl
  have g2 : (x.kind.toList == [102, 108, 117, 115, 104]) = false := by rw [hk]; rfl
  have g3 : (x.kind.toList == [98, 108, 97, 110, 107]) = false := by rw [hk]; rfl
  have g4 : (x.kind.toList == [115, 110, 97, 112]) = false := by rw [hk]; rfl
  have g5 : (x.kind.toList == [115, 116, 97, 114, 116]) = false := by rw [hk]; rfl
  have g6 : (x.kind.toList == [112, 105, 118, 111, 116]) = false := by rw [hk]; rfl
  have g7 : (x.kind.toList == [99, 97, 110, 99, 101, 108]) = true := by rw [hk]; rfl
  have HB0 : Hid (Below w.heap.size w (w.alloc (actBox x))) := (Below.refl _ _).alloc (Nat.le_refl _) _
  have HC1 := toHid (HC _ HB0.out)
  unfold actBox at HB0 HC1
  unfold actG
  clear HC hk
  go_enter Tryz.func42, Tryz.ntmps42
  go_wp2_with fail
  refine HC1.out.mono ?_
  rintro e w1 ⟨⟨v, rfl⟩, hp⟩
  have HP := toHid hp
  clear hp HC1
  go_wp2
  go_end0
  exact ⟨rfl, HP.out⟩

set_option maxRecDepth 100000 in
set_option maxHeartbeats 2000000 in
theorem did_pause {yp gp : Nat} {P : World → Prop} (x : ActV) (w : World) (hk : x.kind.toList = [112, 97, 117, 115, 101]) (HC : ∀ W : World, Below w.heap.size w W → Calls Tryz.prog 121 #[.pointer (some ⟨yp, 0, none⟩), .bool (decide (0 < x.a))] W fun e w' => (∃ v, e = .returned v) ∧ P w') :
    Calls Tryz.prog 42 #[.pointer (some ⟨yp, 0, none⟩), .pointer (some ⟨gp, 0, none⟩), actG x] w fun e w' => e = .returned (.tuple #[]) ∧ P w' := by
  have g0 : (x.kind.toList == [119, 114, 105, 116, 101]) = false := by rw [hk]; rfl
  have g1 : (x.kind.toList == [119, 105, 112, 101]) = false := by rw [hk]; rfl
  have g2 : (x.kind.toList == [102, 108, 117, 115, 104]) = false := by rw [hk]; rfl
  have g3 : (x.kind.toList == [98, 108, 97, 110, 107]) = false := by rw [hk]; rfl
  have g4 : (x.kind.toList == [115, 110, 97, 112]) = false := by rw [hk]; rfl
  have g5 : (x.kind.toList == [115, 116, 97, 114, 116]) = false := by rw [hk]; rfl
  have g6 : (x.kind.toList == [112, 105, 118, 111, 116]) = false := by rw [hk]; rfl
  have g7 : (x.kind.toList == [99, 97, 110, 99, 101, 108]) = false := by rw [hk]; rfl
  have g8 : (x.kind.toList == [112, 97, 117, 115, 101]) = true := by rw [hk]; rfl
  have HB0 : Hid (Below w.heap.size w (w.alloc (actBox x))) := (Below.refl _ _).alloc (Nat.le_refl _) _
  have HC1 := toHid (HC _ HB0.out)
  unfold actBox at HB0 HC1
  unfold actG
  clear HC hk
  go_enter Tryz.func42, Tryz.ntmps42
  go_wp2_with fail
  refine HC1.out.mono ?_
  rintro e w1 ⟨⟨v, rfl⟩, hp⟩
  have HP := toHid hp
  clear hp HC1
  go_wp2
  go_end0
  exact ⟨rfl, HP.out⟩

set_option maxRecDepth 100000 in
set_option maxHeartbeats 2000000 in
theorem did_tick {yp gp : Nat} {P : World → Prop} (x : ActV) (w : World) (hk : x.kind.toList = [116, 105, 99, 107]) (HC : ∀ W : World, Below w.heap.size w W → Calls Tryz.prog 123 #[.pointer (some ⟨yp, 0, none⟩), .int .i64 x.a] W fun e w' => (∃ v, e = .returned v) ∧ P w') :
    Calls Tryz.prog 42 #[.pointer (some ⟨yp, 0, none⟩), .pointer (some ⟨gp, 0, none⟩), actG x] w fun e w' => e = .returned (.tuple #[]) ∧ P w' := by
  have g0 : (x.kind.toList == [119, 114, 105, 116, 101]) = false := by rw [hk]; rfl
  have g1 : (x.kind.toList == [119, 105, 112, 101]) = false := by rw [hk]; rfl
  have g2 : (x.kind.toList == [102, 108, 117, 115, 104]) = false := by rw [hk]; rfl
  have g3 : (x.kind.toList == [98, 108, 97, 110, 107]) = false := by rw [hk]; rfl
  have g4 : (x.kind.toList == [115, 110, 97, 112]) = false := by rw [hk]; rfl
  have g5 : (x.kind.toList == [115, 116, 97, 114, 116]) = false := by rw [hk]; rfl
  have g6 : (x.kind.toList == [112, 105, 118, 111, 116]) = false := by rw [hk]; rfl
  have g7 : (x.kind.toList == [99, 97, 110, 99, 101, 108]) = false := by rw [hk]; rfl
  have g8 : (x.kind.toList == [112, 97, 117, 115, 101]) = false := by rw [hk]; rfl
  have g9 : (x.kind.toList == [116, 105, 99, 107]) = true := by rw [hk]; rfl
  have HB0 : Hid (Below w.heap.size w (w.alloc (actBox x))) := (Below.refl _ _).alloc (Nat.le_refl _) _
  have HC1 := toHid (HC _ HB0.out)
  unfold actBox at HB0 HC1
  unfold actG
  clear HC hk
  go_enter Tryz.func42, Tryz.ntmps42
  go_wp2_with fail
  refine HC1.out.mono ?_
  rintro e w1 ⟨⟨v, rfl⟩, hp⟩
  have HP := toHid hp
  clear hp HC1
  go_wp2
  go_end0
  exact ⟨rfl, HP.out⟩

set_option maxRecDepth 100000 in
set_option maxHeartbeats 2000000 in
theorem did_fail {yp gp : Nat} {P : World → Prop} (x : ActV) (w : World) (hk : x.kind.toList = [102, 97, 105, 108]) (HC : ∀ W : World, Below w.heap.size w W → Calls Tryz.prog 125 #[.pointer (some ⟨yp, 0, none⟩), .int .i64 x.a, .int .i64 x.b] W fun e w' => (∃ v, e = .returned v) ∧ P w') :
    Calls Tryz.prog 42 #[.pointer (some ⟨yp, 0, none⟩), .pointer (some ⟨gp, 0, none⟩), actG x] w fun e w' => e = .returned (.tuple #[]) ∧ P w' := by
  have g0 : (x.kind.toList == [119, 114, 105, 116, 101]) = false := by rw [hk]; rfl
  have g1 : (x.kind.toList == [119, 105, 112, 101]) = false := by rw [hk]; rfl
  have g2 : (x.kind.toList == [102, 108, 117, 115, 104]) = false := by rw [hk]; rfl
  have g3 : (x.kind.toList == [98, 108, 97, 110, 107]) = false := by rw [hk]; rfl
  have g4 : (x.kind.toList == [115, 110, 97, 112]) = false := by rw [hk]; rfl
  have g5 : (x.kind.toList == [115, 116, 97, 114, 116]) = false := by rw [hk]; rfl
  have g6 : (x.kind.toList == [112, 105, 118, 111, 116]) = false := by rw [hk]; rfl
  have g7 : (x.kind.toList == [99, 97, 110, 99, 101, 108]) = false := by rw [hk]; rfl
  have g8 : (x.kind.toList == [112, 97, 117, 115, 101]) = false := by rw [hk]; rfl
  have g9 : (x.kind.toList == [116, 105, 99, 107]) = false := by rw [hk]; rfl
  have g10 : (x.kind.toList == [102, 97, 105, 108]) = true := by rw [hk]; rfl
  have HB0 : Hid (Below w.heap.size w (w.alloc (actBox x))) := (Below.refl _ _).alloc (Nat.le_refl _) _
  have HC1 := toHid (HC _ HB0.out)
  unfold actBox at HB0 HC1
  unfold actG
  clear HC hk
  go_enter Tryz.func42, Tryz.ntmps42
  go_wp2_with fail
  refine HC1.out.mono ?_
  rintro e w1 ⟨⟨v, rfl⟩, hp⟩
  have HP := toHid hp
  clear hp HC1
  go_wp2
  go_end0
  exact ⟨rfl, HP.out⟩

set_option maxRecDepth 100000 in
set_option maxHeartbeats 2000000 in
theorem did_step {yp gp : Nat} {P : World → Prop} (x : ActV) (w : World) (hk : x.kind.toList ≠ [119, 114, 105, 116, 101] ∧ x.kind.toList ≠ [119, 105, 112, 101] ∧ x.kind.toList ≠ [102, 108, 117, 115, 104] ∧ x.kind.toList ≠ [98, 108, 97, 110, 107] ∧ x.kind.toList ≠ [115, 110, 97, 112] ∧ x.kind.toList ≠ [115, 116, 97, 114, 116] ∧ x.kind.toList ≠ [112, 105, 118, 111, 116] ∧ x.kind.toList ≠ [99, 97, 110, 99, 101, 108] ∧ x.kind.toList ≠ [112, 97, 117, 115, 101] ∧ x.kind.toList ≠ [116, 105, 99, 107] ∧ x.kind.toList ≠ [102, 97, 105, 108]) (HC : ∀ W : World, Below w.heap.size w W → Calls Tryz.prog 54 #[.pointer (some ⟨yp, 0, none⟩)] W fun e w' => (∃ b v, e = .returned (.tuple #[.bool b, v])) ∧ P w') :
    Calls Tryz.prog 42 #[.pointer (some ⟨yp, 0, none⟩), .pointer (some ⟨gp, 0, none⟩), actG x] w fun e w' => e = .returned (.tuple #[]) ∧ P w' := by
  obtain ⟨n0, n1, n2, n3, n4, n5, n6, n7, n8, n9, n10⟩ := hk
  have g0 : (x.kind.toList == [119, 114, 105, 116, 101]) = false := by simpa using n0
  have g1 : (x.kind.toList == [119, 105, 112, 101]) = false := by simpa using n1
  have g2 : (x.kind.toList == [102, 108, 117, 115, 104]) = false := by simpa using n2
  have g3 : (x.kind.toList == [98, 108, 97, 110, 107]) = false := by simpa using n3
  have g4 : (x.kind.toList == [115, 110, 97, 112]) = false := by simpa using n4
  have g5 : (x.kind.toList == [115, 116, 97, 114, 116]) = false := by simpa using n5
  have g6 : (x.kind.toList == [112, 105, 118, 111, 116]) = false := by simpa using n6
  have g7 : (x.kind.toList == [99, 97, 110, 99, 101, 108]) = false := by simpa using n7
  have g8 : (x.kind.toList == [112, 97, 117, 115, 101]) = false := by simpa using n8
  have g9 : (x.kind.toList == [116, 105, 99, 107]) = false := by simpa using n9
  have g10 : (x.kind.toList == [102, 97, 105, 108]) = false := by simpa using n10
  clear n0 n1 n2 n3 n4 n5 n6 n7 n8 n9 n10
  have HB0 : Hid (Below w.heap.size w (w.alloc (actBox x))) := (Below.refl _ _).alloc (Nat.le_refl _) _
  have HC1 := toHid (HC _ HB0.out)
  unfold actBox at HB0 HC1
  unfold actG
  clear HC
  go_enter Tryz.func42, Tryz.ntmps42
  go_wp2_with fail
  refine HC1.out.mono ?_
  rintro e w1 ⟨⟨b, v, rfl⟩, hp⟩
  have HP := toHid hp
  clear hp HC1
  go_wp2
  go_end0
  exact ⟨rfl, HP.out⟩
end Go.Proofs.YtonhoahnieoebabGreatDoor
