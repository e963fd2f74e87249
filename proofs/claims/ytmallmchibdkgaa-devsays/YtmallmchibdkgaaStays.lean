/-
stays: a closed fact of a device: what is written is read, and is lost where nothing is kept.
-/
import Derived.Test.YtmallmchibdkgaaAsDev
namespace Go.Proofs.Ytmallmchibdkgaa
open Go.RowKit

def noughts32 : List UInt8 := List.replicate 32 0

set_option maxRecDepth 100000 in
set_option maxHeartbeats 400000 in
theorem noughts32_any (w : World) :
    Calls Try.prog 35 #[.int .i64 32] w fun e w' => e = .returned (.string (bytesOf noughts32)) ∧ Below w.heap.size w w' := by
  obtain ⟨i0, hi0, hz0, hz1, hz2⟩ := info_parts info_byte
  obtain ⟨w1, hmk, hown, hgr⟩ := run_make_full (P := Try.prog) w w.heap.size 62 5 i0 (.int .u8 0) 1 Try.underlying62 hi0 hz0 hz1 .i64 .i64 32 (by rw [hz2]; omega) (by unfold maxLen; omega) (Nat.le_refl _)
  have hmk' : (Instr.makeSlice 62 (.int .i64 32) (.int .i64 32)).run Try.prog w = .ok (.slice (some ⟨w.heap.size, 0, none⟩) 32 32) w1 := hmk
  clear hmk
  have hb : Below w.heap.size w w1 := (Below.refl _ _).grown hgr (Nat.le_refl _) (fun k e => by cases e)
  have hr : w1.rangeAt w.heap.size 0 (secV noughts32) := fun j v hv => by
    have hj : j < 32 := by
      rcases Nat.lt_or_ge j 32 with q | q
      · exact q
      · rw [List.getElem?_eq_none (by exact q)] at hv; cases hv
    rw [Nat.zero_add, hown.cellAt j (by omega)]
    have e : (madeCells (Value.int .u8 0).cells (32 * 1)).toList = secV noughts32 := by
      show (madeCells #[Value.int .u8 0] 32).toList = _
      rw [toList_madeCells_one]; rfl
    rw [e]; exact hv
  have hcv := conv_sec 32 32 rfl hr
  have HB : Hid (Below w.heap.size w w1) := hb
  clear hr hown hgr hb hi0 hz0 hz1 hz2
  go_enter Try.func35, Try.ntmps35
  go_wp2
  go_ret
  exact ⟨rfl, HB.out⟩

def sixteen : ByteArray := ⟨#[48, 49, 50, 51, 52, 53, 54, 55, 56, 57, 97, 98, 99, 100, 101, 102]⟩

theorem sixteen_seen : bytesOf ((((DV.made (List.replicate 2 noughts) 0).ticked).wrote 1 sixteen.data.toList).seen.getD 1 []) = sixteen := by
  apply ByteArray.ext
  decide +kernel

theorem crash_bytes : keepTo (((DV.made (List.replicate 2 noughts) 0).ticked).wrote 1 sixteen.data.toList).pend [] (((DV.made (List.replicate 2 noughts) 0).ticked).wrote 1 sixteen.data.toList).fl (((DV.made (List.replicate 2 noughts) 0).ticked).wrote 1 sixteen.data.toList).pend.length = List.replicate 2 noughts := by
  decide +kernel

theorem two_noughts : bytesOf (List.replicate 2 noughts).flatten = bytesOf noughts32 := by
  apply ByteArray.ext
  decide +kernel

set_option maxRecDepth 100000 in
set_option maxHeartbeats 1000000 in
theorem stays_any (w : World) : Calls Try.prog 16 #[] w fun e w' => e = .returned (.bool true) ∧ Below w.heap.size w w' := by
  go_enter Try.func16, Try.ntmps16
  go_wp2_with fail
  refine (new_yes 2 w (by omega) (by omega)).mono ?_
  rintro e w1 ⟨h, rfl, hd1, hb1⟩
  have HD1 : Hid (IsDev w.heap.size w1 h (DV.made (List.replicate 2 noughts) 0)) := hd1
  have HB1 : Hid (Below w.heap.size w w1) := hb1
  clear hd1 hb1
  go_wp2_with fail
  have hwo := write_ok 1 sixteen w1 HD1.out HB1.out.size rfl (by show 1 < (List.replicate 2 noughts).length; decide) (by show 0 < _; decide) (by show (-1 : Int) ≠ 0; decide)
  refine hwo.mono ?_
  clear hwo
  rintro e w2 ⟨v, rfl, hd2, hk2, _⟩
  have hb2 : Below w.heap.size w w2 := HB1.out.trans (hk2.below HB1.out.size (fun k hk => (HD1.out.lt k hk).1))
  generalize hdd : ((DV.made (List.replicate 2 noughts) 0).ticked).wrote 1 sixteen.data.toList = dd at hd2
  have e1 := sixteen_seen
  have e2 := crash_bytes
  have e3 : dd.pend.length = 1 := by rw [← hdd]; decide +kernel
  have e4 : dd.fl.length = 2 := by rw [← hdd]; decide +kernel
  have e5 : dd.wr = 1 := by rw [← hdd]; decide +kernel
  rw [hdd] at e1 e2
  clear hdd hk2
  have hrd := read_yes 1 w2 hd2 (by rw [e4]; omega)
  have hpd := pending_any w2 hd2
  have hcr := crash_any none 0 0 [] w2 hd2 ⟨rfl, fun j hj => by omega⟩ (by unfold maxLen; omega)
  rw [e1] at hrd
  rw [e3] at hpd
  rw [e2, e5] at hcr
  have HRD : Hid (Calls Try.prog 26 #[.pointer (some ⟨h.p, 0, none⟩), .int .i64 1] w2 fun e w' => e = .returned (.tuple #[.string sixteen, .nilIface]) ∧ w' = w2) := hrd
  have HPD : Hid (Calls Try.prog 57 #[.pointer (some ⟨h.p, 0, none⟩)] w2 fun e w' => e = .returned (.int .i64 1) ∧ w' = w2) := hpd
  have HCR : Hid (Calls Try.prog 31 #[.pointer (some ⟨h.p, 0, none⟩), .slice none 0 0] w2 fun e w' =>
      ∃ h' : Hd, e = .returned (.pointer (some ⟨h'.p, 0, none⟩)) ∧ IsDev w2.heap.size w' h' (DV.made (List.replicate 2 noughts) 1) ∧ Below w2.heap.size w2 w') := hcr
  have HB2 : Hid (Below w.heap.size w w2) := hb2
  clear hrd hpd hcr hb2 hd2 e1 e2 e3 e4 e5 HD1 HB1
  go_wp2_with fail
  refine HRD.out.mono ?_
  rintro e w' ⟨rfl, hw⟩
  have hw' := hw.symm
  subst hw'
  clear hw
  unfold sixteen
  go_wp2_with fail
  refine (same_nil 0 _).mono ?_
  rintro e w' ⟨rfl, hw⟩
  have hw' := hw.symm
  subst hw'
  clear hw
  go_wp2_with fail
  refine (same_nil 0 _).mono ?_
  rintro e w' ⟨rfl, hw⟩
  have hw' := hw.symm
  subst hw'
  clear hw
  go_wp2_with fail
  refine HPD.out.mono ?_
  rintro e w' ⟨rfl, hw⟩
  have hw' := hw.symm
  subst hw'
  clear hw
  go_wp2_with fail
  refine HCR.out.mono ?_
  rintro e w3 ⟨h', rfl, hd3, hb3⟩
  have HD3 : Hid (IsDev w2.heap.size w3 h' (DV.made (List.replicate 2 noughts) 1)) := hd3
  have HB3 : Hid (Below w2.heap.size w2 w3) := hb3
  clear hd3 hb3
  go_wp2_with fail
  refine (bytes_dev w3 HD3.out).mono ?_
  rintro e w4 ⟨he, hb4⟩
  have e6 : bytesOf (DV.made (List.replicate 2 noughts) 1).fl.flatten = bytesOf noughts32 := two_noughts
  rw [e6] at he
  subst he
  clear e6
  go_wp2_with fail
  refine (noughts32_any _).mono ?_
  rintro e w5 ⟨rfl, hb5⟩
  generalize bytesOf noughts32 = nn
  go_wp2
  go_ret
  exact ⟨rfl, HB2.out.trans ((HB3.out.trans ((hb4.trans (hb5.mono hb4.size)).mono HB3.out.size)).mono HB2.out.size)⟩
end Go.Proofs.Ytmallmchibdkgaa
