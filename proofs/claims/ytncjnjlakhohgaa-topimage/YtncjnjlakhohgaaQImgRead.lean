/-
What three calls of Go's library give where an image calls them: a text is written into a builder; a builder's text; noughts by Repeat.
What is read of an image: a kind, a place, a cluster.
-/
import Derived.Test.YtncjnjlakhohgaaQShelf
import Derived.Test.YtncjnjlakhohgaaQImgGets
namespace Go.Proofs.Ytncjnjlakhohgaa
open Go.RowKit

theorem bWrite_any (B b : Nat) (l : List UInt8) (s : ByteArray) (w : World) (h : Lib.IsBuilder 154 5 B b (Lib.byteCells l) w) (hlen : l.length + s.size ≤ 140737488355328) (hBw : B ≤ w.heap.size) :
    Calls Try.prog 98 #[.pointer (some ⟨b, 0, none⟩), .string s] w fun e w' =>
      e = .returned (.tuple #[.int .i64 s.size, .nilIface]) ∧ Lib.IsBuilder 154 5 B b (Lib.byteCells (l ++ s.data.toList)) w' ∧ Below B w w' := by
  refine (Any.Builder_WriteString { Try.lays105 with } Try.Builder_Extra_105 B b (Lib.byteCells l) s w h (by rw [Lib.byteCells_length]; exact hlen) hBw).mono ?_
  rintro e w' ⟨rfl, h1, h2⟩
  refine ⟨rfl, .inr ?_, h2⟩
  have e1 : Lib.byteCells (l ++ s.data.toList) = Lib.byteCells l ++ Lib.strCells s := by simp [Lib.byteCells, Lib.strCells]
  rw [e1]; exact h1

theorem bString_any (B b : Nat) (l : List UInt8) (w : World) (h : Lib.IsBuilder 154 5 B b (Lib.byteCells l) w) (hBw : B ≤ w.heap.size) :
    Calls Try.prog 99 #[.pointer (some ⟨b, 0, none⟩)] w fun e w' => e = .returned (.string ⟨l.toArray⟩) ∧ Below B w w' :=
  Try.Builder_String_any B b l w h hBw

def nought64 : List UInt8 := List.replicate 64 0

theorem repeat64 : Lib.repeatL [0] 64 = nought64 := by decide

theorem repeat_any (w : World) :
    Calls Try.prog 97 #[.string ⟨#[0]⟩, .int .i64 64] w fun e w' => e = .returned (.string ⟨nought64.toArray⟩) ∧ Below w.heap.size w w' := by
  have h := Try.strings_Repeat ⟨#[0]⟩ 64 w (by omega) (by show 1 * 64 ≤ _; omega)
  rw [show (⟨#[0]⟩ : ByteArray).data.toList = [0] from rfl, repeat64] at h
  exact h
end Go.Proofs.Ytncjnjlakhohgaa

namespace Go.Proofs.Ytncjnjlakhohgaa
open Go.RowKit Go.Maps
attribute [local go_sem ↓] Go.wp_at_zero Go.wp_at_succ

set_option maxRecDepth 100000 in
set_option maxHeartbeats 1000000 in
theorem readPlace_img {B : Nat} {x : Ih} {v : IV} (q : Nat) (w : World) (h : IsImg B w x v) (hk : v.h.ok = true) (hq : q ≤ 40) (ha : beginN v.h q + 4 ≤ v.d.fl.length) (h16 : ∀ s ∈ v.d.seen, s.length = 16) (hn : v.d.fl.length ≤ 200) (hsl : v.d.seen.length = v.d.fl.length) :
    Calls Try.prog 96 #[.pointer (some ⟨x.p, 0, none⟩), .int .i64 (q : Int)] w fun e w' =>
      e = .returned (.tuple #[.string ⟨(placeL v.d (beginN v.h q) 4).toArray⟩, .nilIface]) ∧ Below w.heap.size w w' := by
  obtain ⟨c0, c1, c2, c3, c4, c5, fz⟩ := h.cells
  have HBG : Hid (∀ W : World, Calls Try.prog 95 #[.agg #[.int .i64 v.h.c, .int .i64 v.h.p, .int .i64 v.h.b], .int .i64 (q : Int)] W fun e w' => e = .returned (.int .i64 (beginN v.h q : Int)) ∧ Below W.heap.size W w') := fun W => begin_any v.h.c v.h.p v.h.b q W hk hq
  generalize beginN v.h q = a at HBG ha ⊢
  have HP0 : Hid (placeL v.d a 0 = []) := rfl
  have HPS : Hid (∀ k, placeL v.d a (k + 1) = placeL v.d a k ++ v.d.seen.getD (a + k) []) := fun _ => rfl
  have HPL : Hid (∀ k, k ≤ 4 → (placeL v.d a k).length = 16 * k) := fun k hk4 => by
    induction k with
    | zero => rfl
    | succ k ih =>
      rw [HPS.out, List.length_append, ih (by omega)]
      have hx : a + k < v.d.seen.length := by omega
      have : (v.d.seen.getD (a + k) []).length = 16 := by rw [List.getD_eq_getElem?_getD, List.getElem?_eq_getElem hx]; exact h16 _ (List.getElem_mem hx)
      omega
  have HSB : Hid (∀ k, k < 4 → (bytesOf (v.d.seen.getD (a + k) [])).size = 16) := fun k hk4 => by
    have hx : a + k < v.d.seen.length := by omega
    have : (v.d.seen.getD (a + k) []).length = 16 := by rw [List.getD_eq_getElem?_getD, List.getElem?_eq_getElem hx]; exact h16 _ (List.getElem_mem hx)
    show (v.d.seen.getD (a + k) []).toArray.size = 16
    simpa using this
  have HRD : Hid (∀ (k : Nat) (W : World), k < 4 → IsImg B W x v → Calls Try.prog 27 #[.pointer (some ⟨x.h.p, 0, none⟩), .int .i64 ((a : Int) + (k : Int))] W fun e w' => e = .returned (.tuple #[.string (bytesOf (v.d.seen.getD (a + k) [])), .nilIface]) ∧ w' = W) := fun k W hk4 hi => by
    have := read_yes (a + k) W hi.dev (by omega)
    rw [show (((a + k : Nat) : Int)) = (a : Int) + (k : Int) by omega] at this; exact this
  have HI := toHid h
  generalize placeL v.d a = PL at HP0 HPS HPL ⊢
  clear h fz c4 c5 hk hq h16 hsl
  go_enter Try.func96, Try.ntmps96
  go_wp2_with fail
  refine (HBG.out _).mono ?_
  rintro e w1 ⟨rfl, hb1⟩
  have HI1 := toHid (HI.out.below hb1)
  have HB1 := toHid hb1
  have HBU : Hid (Lib.IsBuilder 154 5 w1.heap.size w1.heap.size [] (w1.alloc (.cells #[.pointer none, .slice none 0 0] 154))) := Lib.fresh_isBuilder _ _ _
  clear hb1 HBG HI c0 c1 c2 c3
  go_wp2
  go_loopw [17] (fun i wr => ∃ (k : Nat), k ≤ 4 ∧ i = .int .i64 k ∧ Lib.IsBuilder 154 5 w1.heap.size w1.heap.size (Lib.byteCells (PL k)) wr ∧ Below w1.heap.size w1 wr) (fun i _ => 4 - (intOf i).toNat)
  case atStart => exact ⟨0, Nat.zero_le _, rfl, by rw [HP0.out]; exact HBU.out, (Below.refl _ _).alloc (Nat.le_refl _) _⟩
  case round =>
    obtain ⟨k, hk4, rfl, hbu, hbel⟩ := hrel
    have hi := HI1.out.below hbel
    have c0 := hi.cells.1
    have HBL := toHid hbel
    by_cases hlt : k < 4
    · have HR := toHid (HRD.out k wr hlt hi)
      have HWS := toHid (bWrite_any w1.heap.size w1.heap.size (PL k) (bytesOf (v.d.seen.getD (a + k) [])) wr hbu (by rw [HPL.out k (by omega), HSB.out k hlt]; omega) hbel.size)
      have HST := HPS.out k
      have HSTT : Hid (PL (k + 1) = PL k ++ (bytesOf (v.d.seen.getD (a + k) [])).data.toList) := by unfold Hid; rw [HST]; simp [bytesOf]
      clear hi hbu hbel HRD HST HPS
      generalize bytesOf (v.d.seen.getD (a + k) []) = S at HR HWS HSTT
      have hak : IntKind.i64.wrap ((a : Int) + (k : Int)) = (a : Int) + (k : Int) := IntWalk.i64_in _ (by omega)
      go_wp2_with fail
      refine HR.out.mono ?_
      rintro e w' ⟨rfl, hw⟩
      have hw' := hw.symm
      subst hw'
      clear hw
      go_wp2_with fail
      refine HWS.out.mono ?_
      rintro e w3 ⟨rfl, hbu3, hb3⟩
      have HBU3 : Hid (Lib.IsBuilder 154 5 w1.heap.size w1.heap.size (Lib.byteCells (PL (k + 1))) w3) := by unfold Hid; rw [HSTT.out]; exact hbu3
      have HB3 := toHid (HBL.out.trans hb3)
      clear hbu3 hb3 HR HWS
      go_wp2
      go_roundw
      case rel =>
        have fin : ∃ (k1 : Nat), k1 ≤ 4 ∧ Value.int .i64 ((k : Int) + 1) = .int .i64 k1 ∧ Lib.IsBuilder 154 5 w1.heap.size w1.heap.size (Lib.byteCells (PL k1)) w3 ∧ Below w1.heap.size w1 w3 := ⟨k + 1, by omega, by go_num, HBU3.out, HB3.out⟩
        first | exact fin | ((repeat apply Exists.intro); exact ⟨fin, rfl⟩)
      case measure => simp [intOf]; omega
    · have hk44 : k = 4 := by omega
      subst hk44
      have HSG := toHid (bString_any w1.heap.size w1.heap.size (PL 4) wr hbu hbel.size)
      clear hi hbu hbel HRD HPS
      go_wp2_with fail
      refine HSG.out.mono ?_
      rintro e w3 ⟨rfl, hb3⟩
      have HB3 := toHid (HBL.out.trans hb3)
      clear hb3
      go_wp2
      go_ret2
      exact ⟨rfl, HB1.out.trans (HB3.out.mono HB1.out.size)⟩

theorem noughts_64 : (nought64 : List UInt8) = zeros64 := rfl

set_option maxRecDepth 100000 in
set_option maxHeartbeats 1000000 in
theorem read_img {B m : Nat} {x : Ih} {v : IV} (c : Int) (w : World) (h : IsImg B w x v) (hok : v.ok m) :
    Calls Try.prog 91 #[.pointer (some ⟨x.p, 0, none⟩), .int .i64 c] w fun e w' =>
      e = .returned (.tuple #[.string ⟨(v.readS c).toArray⟩, erV (v.readF c)]) ∧ Below w.heap.size w w' := by
  have HE := toHid (entry_img c w h)
  have HI := toHid h
  cases hc : v.there c with
  | false =>
    have HS : Hid (v.readS c = []) := by unfold Hid IV.readS; rw [hc]; rfl
    have HF : Hid (erV (v.readF c) = .iface 112 (.int .i64 1)) := by unfold Hid IV.readF; rw [hc]; exact erV_1
    have e1 : v.entF c = 1 := by unfold IV.entF; rw [hc]; rfl
    rw [e1, erV_1] at HE
    clear h hok hc e1
    generalize (v.entE c).1 = y0 at HE
    generalize (v.entE c).2 = y1 at HE
    go_enter Try.func91, Try.ntmps91
    go_wp2_with fail
    refine HE.out.mono ?_
    rintro e w1 ⟨rfl, hb1⟩
    go_wp2
    go_ret2
    exact ⟨by rw [HS.out, HF.out]; rfl, hb1.alloc hb1.size _⟩
  | true =>
    have e1 : v.entF c = 0 := by unfold IV.entF; rw [hc]; rfl
    have e2 : v.entE c = v.ent c := by unfold IV.entE; rw [hc]; rfl
    rw [e1, erV_0, e2] at HE
    by_cases h2 : (v.ent c).1 = 2
    · obtain ⟨p0, p1, p2⟩ := hok.place hc h2
      have hb := HV.of_ok hok.h
      have HS : Hid (v.readS c = placeL v.d (beginN v.h (v.ent c).2.toNat) 4) := by unfold Hid IV.readS; rw [hc, if_pos rfl, if_pos h2]
      have HF : Hid (erV (v.readF c) = .nilIface) := by unfold Hid IV.readF; rw [hc, if_pos rfl, if_neg (by omega)]; exact erV_0
      have HRP : Hid (∀ W : World, IsImg B W x v → Calls Try.prog 96 #[.pointer (some ⟨x.p, 0, none⟩), .int .i64 (v.ent c).2] W fun e w' => e = .returned (.tuple #[.string ⟨(v.readS c).toArray⟩, .nilIface]) ∧ Below W.heap.size W w') := fun W hi => by
        have := readPlace_img (v.ent c).2.toNat W hi hok.h (by omega) p2 hok.d.ok.l2 hok.d.ok.n2 hok.d.ok.same
        rw [show (((v.ent c).2.toNat : Nat) : Int) = (v.ent c).2 by omega, ← HS.out] at this; exact this
      rw [h2] at HE
      clear h hok hc e1 e2 p0 p1 p2 hb h2 HS
      generalize (v.ent c).2 = y1 at HE HRP
      generalize v.readS c = S at HRP ⊢
      go_enter Try.func91, Try.ntmps91
      go_wp2_with fail
      refine HE.out.mono ?_
      rintro e w1 ⟨rfl, hb1⟩
      have HR2 := toHid (HRP.out (w1.alloc (.cells #[.int .i64 2, .int .i64 y1] 78)) (HI.out.below (hb1.alloc hb1.size _)))
      have HB1 := toHid (hb1.alloc hb1.size (.cells #[.int .i64 2, .int .i64 y1] 78))
      clear HRP hb1 HE HI
      go_wp2_with fail
      refine HR2.out.mono ?_
      rintro e w2 ⟨rfl, hb2⟩
      go_wp2
      go_ret2
      exact ⟨by rw [HF.out]; rfl, HB1.out.trans (hb2.mono HB1.out.size)⟩
    · by_cases h1 : (v.ent c).1 = 1
      · have HS : Hid (v.readS c = nought64) := by unfold Hid IV.readS; rw [hc, if_pos rfl, if_neg h2, if_pos h1]; rfl
        have HF : Hid (erV (v.readF c) = .nilIface) := by unfold Hid IV.readF; rw [hc, if_pos rfl, if_neg (by omega)]; exact erV_0
        rw [h1] at HE
        clear h hok hc e1 e2 h1 h2
        generalize (v.ent c).2 = y1 at HE
        generalize v.readS c = S at HS ⊢
        have HRA := toHid repeat_any
        go_enter Try.func91, Try.ntmps91
        go_wp2_with fail
        refine HE.out.mono ?_
        rintro e w1 ⟨rfl, hb1⟩
        have HB1 := toHid (hb1.alloc hb1.size (.cells #[.int .i64 1, .int .i64 y1] 78))
        clear hb1 HE HI
        go_wp2_with fail
        refine (HRA.out _).mono ?_
        rintro e w2 ⟨rfl, hb2⟩
        go_wp2
        go_ret2
        exact ⟨by rw [HF.out, HS.out]; rfl, HB1.out.trans (hb2.mono HB1.out.size)⟩
      · have h0 : (v.ent c).1 = 0 := by
          rcases entB_of (hok.ent hc) with h3 | h3
          · omega
          · omega
        have HS : Hid (v.readS c = []) := by unfold Hid IV.readS; rw [hc, if_pos rfl, if_neg h2, if_neg h1]
        have HF : Hid (erV (v.readF c) = .iface 112 (.int .i64 4)) := by unfold Hid IV.readF; rw [hc, if_pos rfl, if_pos h0]; simp [erV]
        rw [h0] at HE
        clear h hok hc e1 e2 h1 h2 h0
        generalize (v.ent c).2 = y1 at HE
        go_enter Try.func91, Try.ntmps91
        go_wp2_with fail
        refine HE.out.mono ?_
        rintro e w1 ⟨rfl, hb1⟩
        go_wp2
        go_ret2
        exact ⟨by rw [HS.out, HF.out]; rfl, hb1.alloc hb1.size _⟩
end Go.Proofs.Ytncjnjlakhohgaa
