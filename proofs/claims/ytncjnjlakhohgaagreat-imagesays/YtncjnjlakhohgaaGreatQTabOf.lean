/-
images: a cluster is filled (a closed fact).
Acts that came in: their second number is one of the language's.
A table of rows (C2), in the document's answer: what TableOf gives.
-/
import Derived.Test.YtncjnjlakhohgaaGreatQRimFill
import Derived.Test.YtncjnjlakhohgaaGreatQImgCreate2
import Derived.Test.YtncjnjlakhohgaaGreatQImgFill
import Derived.Test.YtncjnjlakhohgaaGreatQActs
import Derived.Test.YtncjnjlakhohgaaGreatQTabRead2
namespace Go.Proofs.YtncjnjlakhohgaaGreat
open Go.RowKit Go.Maps
attribute [local go_sem ↓] Go.wp_at_zero Go.wp_at_succ

def imgD : DV := DV.made (List.replicate 40 noughts) 0
def imgV : IV := crV imgD ⟨((3 : Nat) : Int), 4, -1⟩
def imgS : ByteArray := bytesOf (List.replicate 63 0) ++ ⟨#[120]⟩

theorem img_cr : crF imgD ⟨((3 : Nat) : Int), 4, -1⟩ = 0 := by decide +kernel
theorem img_need : needN ⟨((3 : Nat) : Int), 4, -1⟩ ≤ imgD.fl.length := by decide +kernel
theorem img_hok : HV.ok ⟨((3 : Nat) : Int), 4, -1⟩ = true := by decide +kernel
theorem img_fill : imgV.fillF 2 imgS = 0 := by decide +kernel
theorem img_read : (imgV.fill 2 imgS).readS 2 = imgS.data.toList := by decide +kernel
theorem img_readF : (imgV.fill 2 imgS).readF 2 = 0 := by decide +kernel
theorem img_free : (imgV.fill 2 imgS).freeL.length = 3 := by decide +kernel
theorem img_size : (bytesOf (List.replicate 63 0)).size = 63 := by decide +kernel

theorem img_fine : imgD.fine imgD.fl.length 0 := ⟨DV.made_ok (by decide) (by decide) (fun s hs => by rw [List.eq_of_mem_replicate hs]; decide) (by decide), made_sn _ _, rfl, Nat.le_refl _⟩

set_option maxRecDepth 100000 in
set_option maxHeartbeats 2000000 in
theorem images_any (w : World) : Calls Tryz.prog 5 #[] w fun e w' => e = .returned (.bool true) ∧ Below w.heap.size w w' := by
  have HNW : Hid (Calls Tryz.prog 7 #[.int .i64 40] w fun e w' => ∃ h : Hd, e = .returned (.tuple #[.pointer (some ⟨h.p, 0, none⟩), .nilIface]) ∧ IsDev w.heap.size w' h imgD ∧ Below w.heap.size w w') := new_yes 40 w (by decide) (by decide)
  have HNO : Hid (∀ W : World, Calls Tryz.prog 24 #[.int .i64 63] W fun e w' => e = .returned (.string (bytesOf (List.replicate 63 0))) ∧ Below W.heap.size W w') := fun W => noughtsN_any 63 W (by omega)
  have hsz := img_size
  have HIS : Hid (imgS = bytesOf (List.replicate 63 0) ++ ⟨#[120]⟩) := rfl
  generalize bytesOf (List.replicate 63 0) = N63 at HNO hsz HIS
  have hq7 : ¬ 9223372036854775807 < N63.size + 1 := by omega
  clear hsz
  go_enter Tryz.func5, Tryz.ntmps5
  go_wp2_with fail
  refine HNW.out.mono ?_
  rintro e w1 ⟨h, rfl, hd, hb1⟩
  have HB1 := toHid hb1
  have HCR : Hid (Calls Tryz.prog 9 #[.pointer (some ⟨h.p, 0, none⟩), .agg #[.int .i64 3, .int .i64 4, .int .i64 (-1)]] w1 fun e w' => ∃ x : Ih, e = .returned (.tuple #[.pointer (some ⟨x.p, 0, none⟩), .nilIface]) ∧ IsImg w.heap.size w' x imgV ∧ Below w.heap.size w w') := by
    refine (create_good 3 4 (-1) w1 hd img_fine (by decide) hb1.size img_hok img_need).mono ?_
    rintro e w' ⟨x, _, _, hk, h1 | h1⟩
    · exact ⟨x, h1.2.1, h1.2.2, hb1.trans (hk.below hb1.size)⟩
    · exact absurd img_cr h1.1
  clear hd hb1 HNW
  go_wp2_with fail
  refine HCR.out.mono ?_
  rintro e w2 ⟨x, rfl, hi, hb2⟩
  have hok : imgV.ok 20 := (crV_ok img_fine img_hok img_need (by decide)).more (by decide)
  have HI := toHid hi
  have HB2 := toHid hb2
  clear hi hb2 HCR HB1
  go_wp2_with fail
  refine (HNO.out _).mono ?_
  rintro e w3 ⟨rfl, hb3⟩
  have HFI : Hid (Calls Tryz.prog 23 #[.pointer (some ⟨x.p, 0, none⟩), .int .i64 2, .string (N63 ++ ⟨#[120]⟩)] w3 fun e w' => ∃ y : Hd, e = .returned .nilIface ∧ IsImg w.heap.size w' { x with h := y } (imgV.fill 2 imgS) ∧ Below w.heap.size w w') := by
    have hb23 : Below w.heap.size w w3 := HB2.out.trans (hb3.mono HB2.out.size)
    have := fill_img 2 imgS w3 (HI.out.below hb3) hok (by decide) hb23.size
    rw [HIS.out] at this
    refine this.mono ?_
    rintro e w' ⟨y, rfl, _, h1, h2⟩
    rw [← HIS.out] at h1 ⊢
    rw [img_fill, erV_0]
    exact ⟨y, rfl, h1, hb23.trans (h2.below hb23.size)⟩
  clear hb3 HI
  go_wp2_with fail
  refine HFI.out.mono ?_
  rintro e w4 ⟨y, rfl, hi4, hb4⟩
  have HOK2 : Hid ((imgV.fill 2 imgS).ok 30) := hok.fill 2 imgS (by decide)
  have HRD : Hid (Calls Tryz.prog 25 #[.pointer (some ⟨x.p, 0, none⟩), .int .i64 2] w4 fun e w' => e = .returned (.tuple #[.string (N63 ++ ⟨#[120]⟩), .nilIface]) ∧ Below w4.heap.size w4 w') := by
    have := read_img 2 w4 hi4 HOK2.out
    rw [img_read, img_readF, erV_0] at this
    rw [← HIS.out]
    exact this
  have HI4 := toHid hi4
  have HB4 := toHid hb4
  clear HFI HB2 hi4 hb4
  go_wp2_with fail
  refine HRD.out.mono ?_
  rintro e w5 ⟨rfl, hb5⟩
  have HB5 := toHid (HB4.out.trans (hb5.mono HB4.out.size))
  have HI5 := toHid (HI4.out.below hb5)
  have HFR : Hid (∀ W : World, Below w5.heap.size w5 W → Calls Tryz.prog 26 #[.pointer (some ⟨x.p, 0, none⟩)] W fun e w' => e = .returned (.int .i64 3) ∧ Below W.heap.size W w') := fun W hb => by
    have := Free_img W (HI5.out.below hb) HOK2.out
    rw [img_free] at this
    exact this
  clear hb5 HRD HI4 HB4 HI5
  have HS0 : Hid (∀ W : World, Calls Tryz.prog 11 #[.nilIface, .int .i64 0] W fun e w' => e = .returned (.bool true) ∧ w' = W) := fun W => errSame_nil 0 W
  go_wp2_with (go_at_call 11; refine (HS0.out _).mono ?_; rintro e w' ⟨rfl, hw⟩; have hw' := hw.symm; subst hw'; clear hw)
  refine (HNO.out _).mono ?_
  rintro e w6 ⟨rfl, hb6⟩
  go_wp2_with fail
  refine (HFR.out _ hb6).mono ?_
  rintro e w7 ⟨rfl, hb7⟩
  have HB7 := toHid (HB5.out.trans ((hb6.trans (hb7.mono hb6.size)).mono HB5.out.size))
  clear hb6 hb7
  go_wp2
  go_ret
  exact ⟨rfl, HB7.out⟩
end Go.Proofs.YtncjnjlakhohgaaGreat

namespace Go.Proofs.YtncjnjlakhohgaaGreat
open Go.RowKit Go.ChangeShapes Go.WideShapes
section
variable {H : Type} {enc : TypeId × Value → H}

set_option maxRecDepth 100000 in
theorem open_actB {w : World} {fuel : Nat} {cs : List Value} {x : DataW H × List MemPlace} (h : DataW.trod enc Tryz.prog w 0 (fun _ => true) true fuel 44 cs = some x) :
    ∃ b : Int, cs[2]? = some (.int .i64 b) ∧ -9223372036854775808 ≤ b ∧ b ≤ 9223372036854775807 := by
  obtain ⟨xs, n, _, _, hl, hlen, hf⟩ := DataW.trod_struct Tryz.underlying44 h
  have h7 : cs.length = 7 := by rw [hl]; kernel_rfl
  have c3 : Tryz.prog.cellsOf 3 = 1 := by kernel_rfl
  have c9 : Tryz.prog.cellsOf 9 = 1 := by kernel_rfl
  match cs, h7, xs, hlen with
  | [v0, v1, v2, v3, v4, v5, v6], _, [y0, y1, y2, y3, y4, y5, y6], _ =>
    have f2 : DataW.trod enc Tryz.prog w 0 (fun _ => true) true n 3 [v2] = some y2 := by simpa [c3, c9] using hf 2 _ rfl
    obtain ⟨a2, e2, _, w2⟩ := DataW.trod_int Tryz.underlying3 f2
    simp only [List.cons.injEq, and_true] at e2
    subst e2
    have b2 := bounds_i64 w2
    exact ⟨a2, rfl, b2.1, b2.2⟩

def ActsB (xs : List ActV) : Prop := ∀ k, k < xs.length → -9223372036854775808 ≤ (xs.getD k ActV.none_).b ∧ (xs.getD k ActV.none_).b ≤ 9223372036854775807

theorem open_actsB {w : World} {la : Option Addr} {len cap fuel : Nat} {x : DataW H × List MemPlace} (h : DataW.trod enc Tryz.prog w 0 (fun _ => true) true fuel 24 [.slice la len cap] = some x) :
    ∃ xs, Acts w la len xs ∧ len ≤ maxLen ∧ ActsB xs := by
  obtain ⟨xs, hT, hl0⟩ := open_acts h
  refine ⟨xs, hT, hl0, fun k hk => ?_⟩
  have hkl : k < len := by have := hT.1; omega
  obtain ⟨b, off, e, hr, _⟩ := hT.2 k hkl
  rcases Go.Deep.open_slice Tryz.underlying24 h with ⟨hcs, _⟩ | ⟨a, len', cap', m, n, D, Pl, hcs, _, hl, hm, hmm, _, hx⟩
  · simp at hcs
    obtain ⟨rfl, rfl, rfl⟩ := hcs
    omega
  · simp at hcs
    obtain ⟨rfl, rfl, rfl⟩ := hcs
    cases e
    have c47 : Tryz.prog.cellsOf 44 = 7 := by kernel_rfl
    simp only [if_true] at hmm
    subst hmm
    obtain ⟨cs', h1, h2⟩ := hx k (by omega)
    obtain ⟨b2, e2, e3⟩ := open_actB h2
    obtain ⟨_, _, hc⟩ := World.cells?_some h1
    rw [c47] at hc
    have h3 := hc 2 (by omega)
    rw [e2, Go.Deep.add_add, Go.WideShapes.add_plain] at h3
    have h4 := hr 2 (.int .i64 (xs.getD k ActV.none_).b) rfl
    rw [show off + k * 7 + 2 = off + (k * 7 + 2) by omega, h3] at h4
    cases h4
    exact e3
end
end Go.Proofs.YtncjnjlakhohgaaGreat

namespace Go.Proofs.YtncjnjlakhohgaaGreat
open Go.RowKit
attribute [local go_sem ↓] Go.wp_at_zero Go.wp_at_succ

/- Is an entry's like among the first? -/
def dupB (acc : List (Int × Int)) (e : Int × Int) (j : Nat) : Bool := (acc.take j).any fun x => decide (e.1 = 2 ∧ x = e)

theorem dupB_succ (acc : List (Int × Int)) (e : Int × Int) (j : Nat) (hj : j < acc.length) : dupB acc e (j + 1) = (dupB acc e j || decide (e.1 = 2 ∧ acc.getD j (0, 0) = e)) := by
  unfold dupB
  have : acc.take (j + 1) = acc.take j ++ [acc.getD j (0, 0)] := by
    rw [List.take_succ_eq_append_getElem hj]; simp [List.getD, List.getElem?_eq_getElem hj]
  rw [this, List.any_append]
  simp

theorem dupB_all (acc : List (Int × Int)) (e : Int × Int) : dupB acc e acc.length = decide (e.1 = 2 ∧ e ∈ acc) := by
  unfold dupB
  rw [List.take_length, Bool.eq_iff_iff, List.any_eq_true]
  constructor
  · rintro ⟨x, hx, h⟩
    have h2 := of_decide_eq_true h
    exact decide_eq_true ⟨h2.1, h2.2 ▸ hx⟩
  · intro h
    have h2 := of_decide_eq_true h
    exact ⟨e, h2.2, decide_eq_true ⟨h2.1, rfl⟩⟩

theorem dup_step (B x : Bool) (h : x = true) : (B && !x) = false := by rw [h]; cases B <;> rfl

/- The slice that is being made, and the boxes beside it. -/
theorem ownsRow_basex {w : World} {B B' e size n : Nat} {v : Value} {xs : List Value} (h : w.ownsRow B' e size v n xs) (hB : B ≤ B') : w.ownsRow B e size v n xs := by
  refine ⟨h.1, ?_⟩
  rcases h.2 with h0 | ⟨g2, cap2, cur2, hv, hb, r⟩
  · exact .inl h0
  · exact .inr ⟨g2, cap2, cur2, hv, by omega, r⟩

structure IsOf (B : Nat) (w : World) (v : Value) (acc : List (Int × Int)) : Prop where
  own : w.ownsRow B 74 2 v acc.length (entV acc)

theorem IsOf.below {B : Nat} {w w' : World} {v : Value} {acc : List (Int × Int)} (h : IsOf B w v acc) (hb : Below w.heap.size w w') : IsOf B w' v acc :=
  ⟨ownsRow_stay h.own (fun q e => hb.block q (h.own.lt q e).2)⟩

theorem IsOf.ents {B : Nat} {w : World} {v : Value} {acc : List (Int × Int)} (h : IsOf B w v acc) : ∃ a cap, v = .slice a acc.length cap ∧ Ents w a acc.length acc := by
  have ho := h.own
  rcases ho.2 with ⟨h0, hn⟩ | ⟨g, cp2, cur, hv2, _⟩
  · have e : acc = [] := List.length_eq_zero_iff.1 hn
    subst e
    exact ⟨none, 0, h0, ents_nil _⟩
  · rw [hv2] at ho
    exact ⟨_, cp2, hv2, ents_of_owns ho _ (by rw [List.take_of_length_le (by rw [entV_len]; exact Nat.le_refl _)]) (Nat.le_refl _) rfl⟩

set_option maxRecDepth 100000 in
set_option maxHeartbeats 1000000 in
theorem tableOf_head (c p b : Int) (la : Option Addr) (len cap : Nat) (rows : List ByteArray) (w : World) (hk : HV.ok ⟨c, p, b⟩ = false) :
    Calls Tryz.prog 46 #[.agg #[.int .i64 c, .int .i64 p, .int .i64 b], .slice la len cap] w fun e w' =>
      ∃ lt cp, e = .returned (.tuple #[.slice lt (tableT ⟨c, p, b⟩ rows).length cp, .int .i64 (tableF ⟨c, p, b⟩ rows)]) ∧ TabO w.heap.size w' lt cp (tableT ⟨c, p, b⟩ rows) ∧ Below w.heap.size w w' := by
  have hi : tableIn ⟨c, p, b⟩ rows = false := by unfold tableIn; rw [hk]; rfl
  obtain ⟨e1, e2⟩ := tableF_no hi
  rw [e1, e2]
  have ef : HV.fault ⟨c, p, b⟩ = 1 := if_neg (by rw [hk]; decide)
  have HC : Hid (∀ W : World, Calls Tryz.prog 33 #[.agg #[.int .i64 c, .int .i64 p, .int .i64 b]] W fun e w' => e = .returned (.int .i64 1) ∧ Below W.heap.size W w') := fun W => by have := headFault_any c p b W; rw [ef] at this; exact this
  clear hk hi e1 e2 ef
  go_enter Tryz.func46, Tryz.ntmps46
  go_wp2_with fail
  refine (HC.out _).mono ?_
  rintro e w1 ⟨rfl, hb1⟩
  go_wp2
  go_ret2
  exact ⟨none, 0, rfl, tabO_nil _ _, ((Below.refl _ _).alloc (Nat.le_refl _) _).trans (hb1.mono (by simp))⟩

set_option maxRecDepth 100000 in
set_option maxHeartbeats 1000000 in
theorem tableOf_rows (c p b : Int) (la : Option Addr) (len cap : Nat) (rows : List ByteArray) (w : World) (hT : Texts w la len rows) (hk : HV.ok ⟨c, p, b⟩ = true) (hr : len ≠ rowsN c.toNat) :
    Calls Tryz.prog 46 #[.agg #[.int .i64 c, .int .i64 p, .int .i64 b], .slice la len cap] w fun e w' =>
      ∃ lt cp, e = .returned (.tuple #[.slice lt (tableT ⟨c, p, b⟩ rows).length cp, .int .i64 (tableF ⟨c, p, b⟩ rows)]) ∧ TabO w.heap.size w' lt cp (tableT ⟨c, p, b⟩ rows) ∧ Below w.heap.size w w' := by
  have hi : tableIn ⟨c, p, b⟩ rows = false := by unfold tableIn; rw [hk, hT.1, decide_eq_false hr]; rfl
  obtain ⟨e1, e2⟩ := tableF_no hi
  rw [e1, e2]
  have ef : HV.fault ⟨c, p, b⟩ = 0 := if_pos hk
  have HC : Hid (∀ W : World, Calls Tryz.prog 33 #[.agg #[.int .i64 c, .int .i64 p, .int .i64 b]] W fun e w' => e = .returned (.int .i64 0) ∧ Below W.heap.size W w') := fun W => by have := headFault_any c p b W; rw [ef] at this; exact this
  obtain ⟨g1, g2, _⟩ := HV.of_ok hk
  simp only at g1 g2
  have HR : Hid (∀ W : World, Calls Tryz.prog 34 #[.int .i64 c] W fun e w' => e = .returned (.int .i64 (rowsN c.toNat : Int)) ∧ w' = W) := fun W => by have := refRows_any c.toNat W (by omega); rw [show ((c.toNat : Nat) : Int) = c by omega] at this; exact this
  have hne : ((len : Int) != (rowsN c.toNat : Int)) = true := by simp; omega
  generalize rowsN c.toNat = rn at HR hne
  clear hk hi e1 e2 ef hT hr g1 g2
  go_enter Tryz.func46, Tryz.ntmps46
  go_wp2_with fail
  refine (HC.out _).mono ?_
  rintro e w1 ⟨rfl, hb1⟩
  have x0 := new_cell hb1 0 _ rfl
  go_wp2_with (go_at_call 34; refine (HR.out _).mono ?_; rintro e w' ⟨rfl, hw⟩; have hw' := hw.symm; subst hw'; clear hw)
  go_ret2
  exact ⟨none, 0, rfl, tabO_nil _ _, ((Below.refl _ _).alloc (Nat.le_refl _) _).trans (hb1.mono (by simp))⟩
end Go.Proofs.YtncjnjlakhohgaaGreat
