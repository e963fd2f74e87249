/-
What a job wants at first (program).
A new job (program).
A job of the document's answer in memory: one block, its list, its shelf; and what turns of it.
-/
import Derived.Test.YtjegaljdindfaabGreatDoorQJobN1
import Derived.Test.YtjegaljdindfaabGreatDoorQLawAsShelf
import Derived.Deep.MidRow
import Derived.Test.YtjegaljdindfaabGreatDoorQJobP1
namespace Go.Proofs.YtjegaljdindfaabGreatDoor
open Go.RowKit Go.Maps
attribute [local go_sem ↓] Go.wp_at_zero Go.wp_at_succ

set_option maxRecDepth 100000 in
set_option maxHeartbeats 2000000 in
theorem wanted_any {jp sp cap C m : Nat} {a : Option Addr} {xs : Nat → Ih} {s : SV} {j : JV} (w : World) (hd : JHd w jp sp a cap j) (hs : IsShelf w sp xs s m) (hn : Nums w a j.l) (ok : JOk s C j) :
    Calls Tryz.prog 51 #[.pointer (some ⟨jp, 0, none⟩), .int .i64 (j.n : Int)] w fun e w' => ∃ lp, e = .returned (.tuple #[.pointer (some ⟨lp, 0, none⟩), .nilIface]) ∧ S4.IsSet w' lp j.n (wantTo s j j.n) ∧ w.heap.size ≤ lp ∧ Below w.heap.size w w' := by
  have hn64 : j.n ≤ 64 := by have := ok.n; have := ok.c40; omega
  have HNW := toHid (S4.snew_good j.n w hn64)
  have HWN : Hid (∀ (c : Int) (W : World), Below w.heap.size w W → Calls Tryz.prog 115 #[.pointer (some ⟨jp, 0, none⟩), .int .i64 c] W fun e w' => e = .returned (.bool (j.wantB s c)) ∧ Below W.heap.size W w') := fun c W hb => wants_any c W (hd.below hb) (hs.below hb) (hn.below hb) ok
  have HX : Hid (∀ k, S4.SetOk j.n (wantTo s j k)) := wantTo_ok s j hn64
  have HXS : Hid (∀ k : Nat, wantTo s j (k + 1) = S4.putV j.n (wantTo s j k) (k : Int) (j.wantB s (k : Int))) := fun k => rfl
  have HX0 : Hid (wantTo s j 0 = 0) := rfl
  generalize wantTo s j = X at HX HXS HX0 ⊢
  generalize j.n = n at HNW HX HXS hn64 ⊢
  clear hd hs hn ok
  go_enter Tryz.func51, Tryz.ntmps51
  go_wp2_with fail
  refine HNW.out.mono ?_
  rintro e w1 ⟨rfl, hi1, hb1⟩
  have HI1 : Hid (S4.IsSet w1 w.heap.size n (X 0)) := by unfold Hid; rw [HX0.out]; exact hi1
  have HB1 := toHid hb1
  clear hi1 hb1 HNW
  obtain ⟨lp, hlp⟩ : ∃ lp, w.heap.size = lp := ⟨_, rfl⟩
  have HLP := toHid hlp
  rw [hlp] at HI1
  rw [hlp]
  clear hlp
  go_wp2
  go_loopw [18] (fun i wr => ∃ k : Nat, k ≤ n ∧ i = .int .i64 (k : Int) ∧ S4.IsSet wr lp n (X k) ∧ Below w.heap.size w wr) (fun i _ => n - (intOf i).toNat)
  case atStart => exact ⟨0, Nat.zero_le _, rfl, HI1.out, HB1.out⟩
  case round =>
    clear HI1 HB1
    obtain ⟨k, hk, rfl, hi, hb⟩ := hrel
    have HI := toHid hi
    have HB := toHid hb
    clear hi hb
    by_cases hlt : k < n
    · have k1 : decide ((k : Int) < (n : Int)) = true := decide_eq_true (by omega)
      have HW := toHid (HWN.out (k : Int) wr HB.out)
      have HNX := toHid (HXS.out k)
      generalize j.wantB s (k : Int) = wb at HW HNX
      go_wp2_with fail
      refine HW.out.mono ?_
      rintro e w2 ⟨rfl, hb2⟩
      have HB2 := toHid (HB.out.trans (hb2.mono HB.out.size))
      have HPT := toHid (S4.sput_any (k : Int) wb w2 (HI.out.below hb2) (HX.out k))
      rw [← HNX.out] at HPT
      generalize S4.putB n (X k) (k : Int) wb = pb at HPT
      clear hb2 HW
      go_wp2_with fail
      refine HPT.out.mono ?_
      rintro e w3 ⟨rfl, hi3, hk3⟩
      have HI3 := toHid hi3
      have HB3 : Hid (Below w.heap.size w w3) := HB2.out.trans ((Kept.of4 hk3).below HB2.out.size (fun i e => by have e' : i = lp := e; rw [e', ← HLP.out]; exact Nat.le_refl _))
      clear hi3 hk3 HPT HB2 HI HB
      go_wp2
      go_roundw
      case rel =>
        have fin : ∃ k1 : Nat, k1 ≤ n ∧ Value.int .i64 ((k : Int) + 1) = .int .i64 (k1 : Int) ∧ S4.IsSet w3 lp n (X k1) ∧ Below w.heap.size w w3 := ⟨k + 1, by omega, by go_num, HI3.out, HB3.out⟩
        first | exact fin | ((repeat apply Exists.intro); exact ⟨fin, rfl⟩)
      case measure => simp [intOf]; omega
    · have hke : k = n := by omega
      subst hke
      have k1 : decide ((k : Int) < (k : Int)) = false := decide_eq_false (by omega)
      go_wp2
      go_ret2
      exact ⟨lp, rfl, HI.out, by rw [HLP.out]; exact Nat.le_refl _, HB.out⟩
end Go.Proofs.YtjegaljdindfaabGreatDoor

namespace Go.Proofs.YtjegaljdindfaabGreatDoor
open Go.RowKit Go.Maps
attribute [local go_sem ↓] Go.wp_at_zero Go.wp_at_succ

def deskV (d : KDesk) : Value := .agg #[.int .i64 d.root, .int .i64 d.kind, .int .i64 d.file, .int .i64 d.rate, .int .i64 d.burst]
def deskC (d : KDesk) : Obj := .cells #[.int .i64 d.root, .int .i64 d.kind, .int .i64 d.file, .int .i64 d.rate, .int .i64 d.burst] 47 (0, 0)

/- The desk's box, whatever was made since. -/
theorem desk_cells (d : KDesk) (w : World) : ∀ W : World, Below (w.alloc (deskC d)).heap.size (w.alloc (deskC d)) W → W.cell? ⟨w.heap.size, 0, none⟩ = some (.int .i64 d.root) ∧ W.cell? ⟨w.heap.size, 1, none⟩ = some (.int .i64 d.kind) ∧ W.cell? ⟨w.heap.size, 2, none⟩ = some (.int .i64 d.file) ∧ W.cell? ⟨w.heap.size, 3, none⟩ = some (.int .i64 d.rate) ∧ W.cell? ⟨w.heap.size, 4, none⟩ = some (.int .i64 d.burst) := fun W hb => by
  have hlt : w.heap.size < (w.alloc (deskC d)).heap.size := by simp
  have hbk : W.heap[w.heap.size]? = some (deskC d) := (hb.block _ hlt).trans (heap_alloc_new w _)
  unfold deskC at hbk
  refine ⟨?_, ?_, ?_, ?_, ?_⟩ <;> (rw [cell_of_row _ _ _ _ _ _ hbk]; rfl)

theorem desk_range (d : KDesk) (w : World) : ∀ W : World, Below (w.alloc (deskC d)).heap.size (w.alloc (deskC d)) W → W.rangeAt w.heap.size 0 [.int .i64 d.root, .int .i64 d.kind, .int .i64 d.file, .int .i64 d.rate, .int .i64 d.burst] := fun W hb j v hv => by
  obtain ⟨h0, h1, h2, h3, h4⟩ := desk_cells d w W hb
  match j, hv with
  | 0, hv => cases hv; exact h0
  | 1, hv => cases hv; exact h1
  | 2, hv => cases hv; exact h2
  | 3, hv => cases hv; exact h3
  | 4, hv => cases hv; exact h4
theorem size_desk : (Tryz.prog.info? 47).map (·.size) = some 5 := by kernel_rfl

set_option maxRecDepth 100000 in
set_option maxHeartbeats 2000000 in
theorem new_bad {sp m : Nat} {xs : Nat → Ih} {s : SV} (d : KDesk) (w : World) (h : IsShelf w sp xs s m) (hf : newF s d ≠ 0) :
    Calls Tryz.prog 16 #[.pointer (some ⟨sp, 0, none⟩), .agg #[.int .i64 d.root, .int .i64 d.kind, .int .i64 d.file, .int .i64 d.rate, .int .i64 d.burst]] w fun e w' => e = .returned (.tuple #[.pointer none, erV (newF s d)]) ∧ Below w.heap.size w w' := by
  have HB0 : Hid (Below w.heap.size w (w.alloc (deskC d))) := (Below.refl _ _).alloc (Nat.le_refl _) _
  have HDK := toHid (desk_cells d w)
  have HDR := toHid (desk_range d w)
  have HI : Hid ((Tryz.prog.info? 47).map (·.size) = some ([.int .i64 d.root, .int .i64 d.kind, .int .i64 d.file, .int .i64 d.rate, .int .i64 d.burst] : List Value).length) := size_desk
  have HWK : Hid (∀ W : World, Below w.heap.size w W → Calls Tryz.prog 9 #[.pointer (some ⟨sp, 0, none⟩), .int .i64 d.root] W fun e w' => ∃ (a : Option Addr) (cap : Nat), e = .returned (.tuple #[.slice a (s.walk d.root).1.length cap, erV (s.walk d.root).2]) ∧ Nums w' a (s.walk d.root).1 ∧ (∀ g o, a = some ⟨g, o, none⟩ → W.heap.size ≤ g ∧ g < w'.heap.size ∧ (s.walk d.root).1.length ≤ cap) ∧ Below W.heap.size W w') := fun W hb => cwalk_any d.root W (h.below hb)
  have HBN : Hid (∀ W : World, (S4.inB d.rate 1000 && S4.inB d.burst 1000) = false → Calls Tryz.prog 49 #[.int .i64 d.rate, .int .i64 d.burst] W fun e w' => e = .returned (.tuple #[.pointer none, .iface 87 (.int .i64 1)]) ∧ w' = W) := fun W hx => S4.bnew_bad d.rate d.burst W hx
  have HBG : Hid (∀ W : World, S4.inB d.rate 1000 = true → S4.inB d.burst 1000 = true → Calls Tryz.prog 49 #[.int .i64 d.rate, .int .i64 d.burst] W fun e w' => e = .returned (.tuple #[.pointer (some ⟨W.heap.size, 0, none⟩), .nilIface]) ∧ S4.Three 179 w' W.heap.size d.rate d.burst d.burst ∧ Below W.heap.size W w') := fun W h1 h2 => S4.bnew_good d.rate d.burst W h1 h2
  obtain ⟨hg, hl5, hf0, _⟩ := s.walk_good d.root
  have HCK : Hid (∀ (W : World) (a : Option Addr) (cap : Nat), Below w.heap.size w W → Nums W a (s.walk d.root).1 → (s.walk d.root).1 ≠ [] → (s.walk d.root).1.length ≤ cap → Calls Tryz.prog 50 #[.pointer (some ⟨sp, 0, none⟩), .slice a (s.walk d.root).1.length cap, .agg #[.int .i64 d.root, .int .i64 d.kind, .int .i64 d.file, .int .i64 d.rate, .int .i64 d.burst]] W fun e w' => e = .returned (erV (chkJ s (s.walk d.root).1 d)) ∧ Below W.heap.size W w') := fun W a cap hb hn h0 hc => check_job _ d W (h.below hb) hn hg h0 (by omega) hc
  have HNF : Hid (newF s d = if (s.walk d.root).2 ≠ 0 then (s.walk d.root).2 else if (s.walk d.root).1 = [] then 4 else if (S4.inB d.rate 1000 && S4.inB d.burst 1000) = false then 1 else chkJ s (s.walk d.root).1 d) := rfl
  have HNZ := toHid hf
  clear h hg hf
  generalize newF s d = nf at HNF HNZ ⊢
  generalize chkJ s (s.walk d.root).1 d = ck at HCK HNF
  generalize s.walk d.root = R at HWK HCK HNF hl5 hf0
  obtain ⟨l, f⟩ := R
  simp only at HWK HCK HNF hl5 hf0
  unfold deskC at HB0 HDK HDR
  by_cases h0 : f = 0
  · subst h0
    rw [erV_0] at HWK
    have HNF1 : Hid (nf = if l = [] then 4 else if (S4.inB d.rate 1000 && S4.inB d.burst 1000) = false then 1 else ck) := by unfold Hid; rw [HNF.out, if_neg (by simp)]
    clear HNF
    by_cases hl : l = []
    · subst hl
      have HN4 : Hid (nf = 4) := by unfold Hid; rw [HNF1.out, if_pos rfl]
      rw [HN4.out, erV_some (by decide)]
      obtain ⟨d0, _⟩ := HDK.out _ (Below.refl _ _)
      clear HCK HBN HBG HNF1 HN4 HNZ HDK
      go_enter Tryz.func16, Tryz.ntmps16
      go_wp2_with fail
      refine (HWK.out _ HB0.out).mono ?_
      rintro e w1 ⟨a, cap, rfl, hn1, ha1, hb1⟩
      have HB1 := toHid (HB0.out.trans (hb1.mono HB0.out.size))
      clear hn1 ha1 hb1 HWK
      go_wp2
      go_ret2
      exact ⟨rfl, HB1.out⟩
    · have HNF2 : Hid (nf = if (S4.inB d.rate 1000 && S4.inB d.burst 1000) = false then 1 else ck) := by unfold Hid; rw [HNF1.out, if_neg hl]
      clear HNF1
      have hlp : 0 < l.length := List.length_pos_iff.2 hl
      have hlz : ((l.length : Int) == 0) = false := by simp; omega
      cases hbk : (S4.inB d.rate 1000 && S4.inB d.burst 1000) with
      | false =>
        have HN1 : Hid (nf = 1) := by unfold Hid; rw [HNF2.out, hbk, if_pos rfl]
        have HBN1 := toHid (fun W => HBN.out W hbk)
        rw [HN1.out, erV_1]
        clear HCK HBN HBG HNF2 HN1 HNZ hbk
        generalize hln : l.length = ln at HWK hlz
        obtain ⟨d0, d1, d2, d3, d4⟩ := HDK.out _ (Below.refl _ _)
        go_enter Tryz.func16, Tryz.ntmps16
        go_wp2_with fail
        refine (HWK.out _ HB0.out).mono ?_
        rintro e w1 ⟨a, cap, rfl, hn1, ha1, hb1⟩
        have HB1 := toHid (HB0.out.trans (hb1.mono HB0.out.size))
        obtain ⟨q0, q1, q2, q3, q4⟩ := HDK.out _ hb1
        clear hn1 ha1 hb1 HWK
        go_wp2_with fail
        refine (HBN1.out _).mono ?_
        rintro e w' ⟨rfl, hw⟩
        have hw' := hw.symm
        subst hw'
        clear hw
        go_wp2
        go_ret2
        exact ⟨rfl, HB1.out⟩
      | true =>
        have HN3 : Hid (nf = ck) := by unfold Hid; rw [HNF2.out, hbk, if_neg (by decide)]
        rw [Bool.and_eq_true] at hbk
        have HBG1 := toHid (fun W => HBG.out W hbk.1 hbk.2)
        have hck : ck ≠ 0 := by rw [← HN3.out]; exact HNZ.out
        rw [HN3.out]
        rw [erV_some hck] at HCK ⊢
        clear HBN HBG HNF2 HN3 HNZ hbk
        obtain ⟨d0, d1, d2, d3, d4⟩ := HDK.out _ (Below.refl _ _)
        go_enter Tryz.func16, Tryz.ntmps16
        go_wp2_with fail
        refine (HWK.out _ HB0.out).mono ?_
        rintro e w1 ⟨a, cap, rfl, hn1, ha1, hb1⟩
        have HB1 := toHid (HB0.out.trans (hb1.mono HB0.out.size))
        have HBD1 := toHid hb1
        obtain ⟨g, o, rfl, _⟩ := hn1 0 hlp
        have HN1 := toHid hn1
        have hcap := (ha1 g o rfl).2.2
        obtain ⟨q0, q1, q2, q3, q4⟩ := HDK.out _ hb1
        clear hn1 ha1 hb1 HWK
        go_wp2_with fail
        refine (HBG1.out _).mono ?_
        rintro e w2 ⟨rfl, _, hb2⟩
        have HB2 := toHid (HB1.out.trans (hb2.mono HB1.out.size))
        have HC2 := toHid (HCK.out w2 (some ⟨g, o, none⟩) cap HB2.out (HN1.out.below hb2) hl hcap)
        have HR2 := toHid (HDR.out _ (HBD1.out.trans (hb2.mono HBD1.out.size)))
        clear hb2 HBG1
        go_wp2_with (refine wpList_load_mid (by rfl) 47 (.tmp 3) (by rfl) w.heap.size 0 (by rfl) [.int .i64 d.root, .int .i64 d.kind, .int .i64 d.file, .int .i64 d.rate, .int .i64 d.burst] _ HR2.out Tryz.underlying47 rfl HI.out ?_)
        refine HC2.out.mono ?_
        rintro e w3 ⟨rfl, hb3⟩
        have HB3 := toHid (HB2.out.trans (hb3.mono HB2.out.size))
        clear hb3
        go_wp2
        go_ret2
        exact ⟨rfl, HB3.out⟩
  · have HN1 : Hid (nf = f) := by unfold Hid; rw [HNF.out, if_pos h0]
    rw [HN1.out]
    rw [erV_some h0] at HWK ⊢
    obtain ⟨d0, _⟩ := HDK.out _ (Below.refl _ _)
    clear HCK HBN HBG HNF HN1 HNZ HDK
    go_enter Tryz.func16, Tryz.ntmps16
    go_wp2_with fail
    refine (HWK.out _ HB0.out).mono ?_
    rintro e w1 ⟨a, cap, rfl, hn1, ha1, hb1⟩
    have HB1 := toHid (HB0.out.trans (hb1.mono HB0.out.size))
    clear hn1 ha1 hb1 HWK
    go_wp2
    go_ret2
    exact ⟨rfl, HB1.out⟩
end Go.Proofs.YtjegaljdindfaabGreatDoor

namespace Go.Proofs.YtjegaljdindfaabGreatDoor
open Go.RowKit Go.Maps

/- What stands at each place of its block; `is` is its state as it stands there. -/
def rjC (mp : Nat) (a : Option Addr) (cap : Nat) (j : JV) (is : Int) (i : Nat) : Value :=
  if i = 0 then .pointer (some ⟨mp, 0, none⟩) else if i = 1 then .int .i64 j.rt else if i = 2 then .int .i64 j.kind else if i = 3 then .int .i64 j.file else if i = 4 then .int .i64 j.rate else if i = 5 then .int .i64 j.burst else if i = 6 then .slice a j.l.length cap else if i = 7 then .int .i64 (j.deep : Int) else if i = 8 then .int .i64 (j.n : Int) else if i < 73 then .bool (j.x.testBit (i - 9)) else if i = 73 then .int .i64 j.last else if i = 74 then .int .i64 is else if i = 75 then .int .i64 j.rate else if i = 76 then .int .i64 j.burst else if i = 77 then .int .i64 j.lv else .bool false

structure IsRjob (w : World) (xp mp : Nat) (a : Option Addr) (cap : Nat) (j : JV) (is : Int) : Prop where
  blk : ∃ cur : Array Value, w.heap[xp]? = some (.cells cur 121 (0, 0)) ∧ cur.size = 78 ∧ ∀ i, i < 78 → cur[i]? = some (rjC mp a cap j is i)

theorem IsRjob.lt {w : World} {xp mp cap : Nat} {a : Option Addr} {j : JV} {is : Int} (h : IsRjob w xp mp a cap j is) : xp < w.heap.size := by
  obtain ⟨cur, h1, _⟩ := h.blk
  exact lt_of_some h1

theorem IsRjob.keep {w w' : World} {xp mp cap : Nat} {a : Option Addr} {j : JV} {is : Int} (h : IsRjob w xp mp a cap j is) (hk : w'.heap[xp]? = w.heap[xp]?) : IsRjob w' xp mp a cap j is := by
  obtain ⟨cur, h1, h2⟩ := h.blk
  exact ⟨cur, hk.trans h1, h2⟩

theorem IsRjob.cell {w : World} {xp mp cap : Nat} {a : Option Addr} {j : JV} {is : Int} (h : IsRjob w xp mp a cap j is) {i : Nat} (hi : i < 78) : w.cell? ⟨xp, i, none⟩ = some (rjC mp a cap j is i) := by
  obtain ⟨cur, h1, h2, h3⟩ := h.blk
  simp [World.cell?, h1, h3 i hi]
theorem IsRjob.thaw {w : World} {xp mp cap : Nat} {a : Option Addr} {j : JV} {is : Int} (h : IsRjob w xp mp a cap j is) (i : Nat) : w.frozen? ⟨xp, i, none⟩ = false := by
  obtain ⟨cur, h1, h2, h3⟩ := h.blk
  simp [World.frozen?, h1]

theorem rjC_bit {mp cap : Nat} {a : Option Addr} {j : JV} {is : Int} {k : Nat} (h : k < 64) : rjC mp a cap j is (9 + k) = .bool (j.x.testBit k) := by
  unfold rjC
  rw [if_neg (by omega), if_neg (by omega), if_neg (by omega), if_neg (by omega), if_neg (by omega), if_neg (by omega), if_neg (by omega), if_neg (by omega), if_neg (by omega), if_pos (by omega), Nat.add_sub_cancel_left]

theorem IsRjob.cells {w : World} {xp mp cap : Nat} {a : Option Addr} {j : JV} {is : Int} (h : IsRjob w xp mp a cap j is) :
    w.cell? ⟨xp, 0, none⟩ = some (.pointer (some ⟨mp, 0, none⟩)) ∧ w.cell? ⟨xp, 2, none⟩ = some (.int .i64 j.kind) ∧ w.cell? ⟨xp, 3, none⟩ = some (.int .i64 j.file) ∧ w.cell? ⟨xp, 6, none⟩ = some (.slice a j.l.length cap) ∧ w.cell? ⟨xp, 7, none⟩ = some (.int .i64 (j.deep : Int)) ∧ w.cell? ⟨xp, 73, none⟩ = some (.int .i64 j.last) ∧ w.cell? ⟨xp, 74, none⟩ = some (.int .i64 is) ∧ w.frozen? ⟨xp, 73, none⟩ = false ∧ w.frozen? ⟨xp, 74, none⟩ = false :=
  ⟨h.cell (i := 0) (by omega), h.cell (i := 2) (by omega), h.cell (i := 3) (by omega), h.cell (i := 6) (by omega), h.cell (i := 7) (by omega), h.cell (i := 73) (by omega), h.cell (i := 74) (by omega), h.thaw _, h.thaw _⟩

theorem IsRjob.set8 {w : World} {xp mp cap : Nat} {a : Option Addr} {j : JV} {is : Int} (h : IsRjob w xp mp a cap j is) : S4.Rset8 w xp j.n j.x :=
  ⟨h.cell (i := 8) (by omega), fun k hk => ⟨by rw [h.cell (i := 9 + k) (by omega), rjC_bit hk], h.thaw _⟩⟩

theorem IsRjob.bkt {w : World} {xp mp cap : Nat} {a : Option Addr} {j : JV} {is : Int} (h : IsRjob w xp mp a cap j is) : ∃ cur : Array Value, S4.Job75 121 cur w xp j.rate j.burst j.lv ∧ ∀ i, i < 78 → cur[i]? = some (rjC mp a cap j is i) := by
  obtain ⟨cur, h1, h2, h3⟩ := h.blk
  refine ⟨cur, ⟨?_, h2, h3 75 (by omega), h3 76 (by omega)⟩, h3⟩
  have e : cur.setIfInBounds 77 (.int .i64 j.lv) = cur := by
    have h77 := h3 77 (by omega)
    apply Array.ext_getElem?
    intro i
    by_cases e : i = 77
    · subst e
      rw [Array.getElem?_setIfInBounds_self_of_lt (by omega), h77]; rfl
    · rw [Array.getElem?_setIfInBounds_ne (by omega)]
  rw [e]; exact h1

theorem IsRjob.ofB {w : World} {xp mp cap : Nat} {a : Option Addr} {j : JV} {is : Int} {cur : Array Value} {lv : Int} (h : S4.Job75 121 cur w xp j.rate j.burst lv) (hc : ∀ i, i < 78 → cur[i]? = some (rjC mp a cap j is i)) : IsRjob w xp mp a cap { j with lv := lv } is := by
  obtain ⟨h1, h2, h3, h4⟩ := h
  refine ⟨_, h1, by simp [h2], fun i hi => ?_⟩
  by_cases e : i = 77
  · subst e
    rw [Array.getElem?_setIfInBounds_self_of_lt (by omega)]; rfl
  · rw [Array.getElem?_setIfInBounds_ne (by omega), hc i hi]
    unfold rjC
    simp only [if_neg e]

theorem IsRjob.set {w : World} {xp mp cap : Nat} {a : Option Addr} {j j' : JV} {is is' : Int} (h : IsRjob w xp mp a cap j is) (i : Nat) (hi : i < 78) (v : Value) (hv : ∀ k, k < 78 → rjC mp a cap j' is' k = if k = i then v else rjC mp a cap j is k) : IsRjob (w.setCell ⟨xp, i, none⟩ v) xp mp a cap j' is' := by
  obtain ⟨cur, h1, h2, h3⟩ := h.blk
  refine ⟨_, heap_setCell_same w xp i _ _ _ h1, by simp [h2], fun k hk => ?_⟩
  rw [hv k hk]
  by_cases e : k = i
  · subst e
    rw [if_pos rfl, Array.getElem?_setIfInBounds_self_of_lt (by omega)]
  · rw [if_neg e, Array.getElem?_setIfInBounds_ne (by omega)]; exact h3 k hk

theorem IsRjob.set74 {w : World} {xp mp cap : Nat} {a : Option Addr} {j : JV} {is : Int} (h : IsRjob w xp mp a cap j is) (is' : Int) : IsRjob (w.setCell ⟨xp, 74, none⟩ (.int .i64 is')) xp mp a cap j is' :=
  h.set 74 (by omega) _ fun k hk => by
    by_cases e : k = 74
    · subst e; rfl
    · rw [if_neg e]; unfold rjC; simp only [if_neg e]
/- Its stage is told by `is` alone. -/
theorem IsRjob.staged {w : World} {xp mp cap : Nat} {a : Option Addr} {j : JV} {is : Int} (h : IsRjob w xp mp a cap j is) (st : Int) : IsRjob w xp mp a cap (j.at st) is := ⟨h.blk⟩

theorem IsRjob.set73 {w : World} {xp mp cap : Nat} {a : Option Addr} {j : JV} {is : Int} (h : IsRjob w xp mp a cap j is) (c : Int) : IsRjob (w.setCell ⟨xp, 73, none⟩ (.int .i64 c)) xp mp a cap { j with last := c } is :=
  h.set 73 (by omega) _ fun k hk => by
    by_cases e : k = 73
    · subst e; rfl
    · rw [if_neg e]; unfold rjC; simp only [if_neg e]

theorem IsRjob.setBit {w : World} {xp mp cap : Nat} {a : Option Addr} {j : JV} {is : Int} (h : IsRjob w xp mp a cap j is) {i y : Nat} {b : Bool} (hi : i < 64) (hy : ∀ k, k < 64 → y.testBit k = if k = i then b else j.x.testBit k) : IsRjob (w.setCell ⟨xp, 9 + i, none⟩ (.bool b)) xp mp a cap (j.put y) is :=
  h.set (9 + i) (by omega) _ fun k hk => by
    by_cases h9 : 9 ≤ k ∧ k < 73
    · obtain ⟨q, rfl⟩ : ∃ q, k = 9 + q := ⟨k - 9, by omega⟩
      rw [rjC_bit (by omega), rjC_bit (by omega)]
      show Value.bool (y.testBit q) = _
      rw [hy q (by omega)]
      by_cases e : q = i
      · rw [if_pos e, if_pos (by omega)]
      · rw [if_neg e, if_neg (by omega)]
    · rw [if_neg (by omega)]
      unfold rjC
      by_cases h73 : k < 73
      · have h8 : k < 9 := by omega
        simp only [JV.put]
        match k, h8 with
        | 0, _ => rfl
        | 1, _ => rfl
        | 2, _ => rfl
        | 3, _ => rfl
        | 4, _ => rfl
        | 5, _ => rfl
        | 6, _ => rfl
        | 7, _ => rfl
        | 8, _ => rfl
      · simp only [if_neg h73]; rfl

theorem IsRjob.putS {w : World} {xp mp cap : Nat} {a : Option Addr} {j : JV} {is : Int} (h : IsRjob w xp mp a cap j is) (hn : j.n ≤ 64) (c : Int) (b : Bool) : IsRjob (if S4.putB j.n j.x c b = true then w.setCell ⟨xp, 9 + c.toNat, none⟩ (.bool b) else w) xp mp a cap (j.put (S4.putV j.n j.x c b)) is := by
  by_cases hp : S4.putB j.n j.x c b = true
  · rw [if_pos hp]
    have hm : S4.mayB j.n c = true := by unfold S4.putB at hp; simp at hp; exact hp.1
    obtain ⟨k, rfl, hk⟩ := S4.may_nat hm
    refine h.setBit (i := k) (by omega) fun q hq => ?_
    rw [S4.putV_bit]
    by_cases e : q = k
    · rw [if_pos e, if_pos ⟨hm, by omega⟩]
    · rw [if_neg e, if_neg (fun q => e (by have := q.2; omega))]
  · rw [if_neg hp]
    have e : S4.putV j.n j.x c b = j.x := by unfold S4.putV; rw [if_neg hp]
    rw [e]; exact h

def fpR (qs : Nat → Qh) (s : SV) (xp : Nat) (k : Nat) : Prop := fpQ qs s k ∨ k = xp

structure RJ (w : World) (mp xp : Nat) (a : Option Addr) (cap : Nat) (qs : Nat → Qh) (s : SV) (m C : Nat) (j : JV) (is : Int) : Prop where
  shelf : IsRshelf w mp qs s m
  job : IsRjob w xp mp a cap j is
  nums : Nums w a j.l
  ap : Apart a (fpR qs s xp)
  ok : JOk s C j
  cap : j.l.length ≤ cap

theorem RJ.fpLt {w : World} {mp xp cap m C : Nat} {a : Option Addr} {qs : Nat → Qh} {s : SV} {j : JV} {is : Int} (h : RJ w mp xp a cap qs s m C j is) {k : Nat} (hk : fpR qs s xp k) : k < w.heap.size := by
  rcases hk with hk | rfl
  · exact h.shelf.fpLt hk
  · exact h.job.lt

theorem RJ.not {w : World} {mp xp cap m C : Nat} {a : Option Addr} {qs : Nat → Qh} {s : SV} {j : JV} {is : Int} (h : RJ w mp xp a cap qs s m C j is) : ¬ fpQ qs s xp ∧ ¬ fpR qs s xp mp := by
  obtain ⟨cur, h1, _⟩ := h.job.blk
  refine ⟨h.shelf.notFp h1 (by decide), ?_⟩
  have h0 := h.shelf.blk
  rintro (e | e)
  · exact h.shelf.notSp e
  · rw [e, h1] at h0; simp at h0

theorem RJ.beside {S S' : Nat → Prop} {w w' : World} {mp xp cap m C : Nat} {a : Option Addr} {qs : Nat → Qh} {s : SV} {j : JV} {is : Int} (h : RJ w mp xp a cap qs s m C j is) (hm : Moved S w S' w') (hp : ¬ S mp) (hs : ∀ k, fpR qs s xp k → ¬ S k) (ha : Apart a S) : RJ w' mp xp a cap qs s m C j is :=
  ⟨h.shelf.beside hm hp (fun k hk => hs k (.inl hk)), h.job.keep (hm.block h.job.lt (hs _ (.inr rfl))), h.nums.moved hm ha, h.ap, h.ok, h.cap⟩
theorem RJ.below {w w' : World} {mp xp cap m C : Nat} {a : Option Addr} {qs : Nat → Qh} {s : SV} {j : JV} {is : Int} (h : RJ w mp xp a cap qs s m C j is) (hb : Below w.heap.size w w') : RJ w' mp xp a cap qs s m C j is :=
  h.beside (Moved.of_below (S := fun _ => False) hb) (fun e => e) (fun _ _ e => e) (fun _ _ _ e => e)
theorem RJ.more {w : World} {mp xp cap m m' C : Nat} {a : Option Addr} {qs : Nat → Qh} {s : SV} {j : JV} {is : Int} (h : RJ w mp xp a cap qs s m C j is) (hm : m ≤ m') : RJ w mp xp a cap qs s m' C j is :=
  ⟨h.shelf.more hm, h.job, h.nums, h.ap, h.ok, h.cap⟩

theorem RJ.acted {w w' : World} {mp xp cap m m' C : Nat} {a : Option Addr} {qs qs' : Nat → Qh} {s z : SV} {j : JV} {is : Int} (h : RJ w mp xp a cap qs s m C j is) (h1 : IsRshelf w' mp qs' z m') (hm : Moved (fpQ qs s) w (fpQ qs' z) w') (hz : s.alike z) :
    RJ w' mp xp a cap qs' z m' C j is ∧ Moved (fpR qs s xp) w (fpR qs' z xp) w' := by
  have hM : Moved (fpR qs s xp) w (fpR qs' z xp) w' := ⟨hm.kept.mono fun k _ hk => .inl hk, fun k hk => by
    rcases hk with hk | hk
    · rcases hm.new k hk with h2 | h2
      · exact .inl (.inl h2)
      · exact .inr h2
    · exact .inl (.inr hk)⟩
  exact ⟨⟨h1, h.job.keep (hm.block h.job.lt h.not.1), h.nums.moved hm (fun g o e hf => h.ap g o e (.inl hf)), h.ap.moved h.nums h.ok.ne hM, h.ok.over hz, h.cap⟩, hM⟩

theorem RJ.own {w w' : World} {mp xp cap m C : Nat} {a : Option Addr} {qs : Nat → Qh} {s : SV} {j j' : JV} {is is' : Int} (h : RJ w mp xp a cap qs s m C j is) (hk : Kept (fun k => k = xp) w w') (hj : IsRjob w' xp mp a cap j' is') (hl : j'.l = j.l) (hok : JOk s C j') :
    RJ w' mp xp a cap qs s m C j' is' ∧ Moved (fpR qs s xp) w (fpR qs s xp) w' := by
  have hM : Moved (fpR qs s xp) w (fpR qs s xp) w' := ⟨hk.mono fun k _ hk => .inr hk, fun k hk => .inl hk⟩
  exact ⟨⟨h.shelf.keep (hM.block (lt_of_some h.shelf.blk) h.not.2) (fun k hf => hk.block k (h.shelf.fpLt hf) (fun e => h.not.1 (by have e' : k = xp := e; rw [← e']; exact hf))), hj, by rw [hl]; exact h.nums.moved hM h.ap, h.ap, hok, by rw [hl]; exact h.cap⟩, hM⟩

theorem RJ.set74 {w : World} {mp xp cap m C : Nat} {a : Option Addr} {qs : Nat → Qh} {s : SV} {j : JV} {is : Int} (h : RJ w mp xp a cap qs s m C j is) (is' : Int) :
    RJ (w.setCell ⟨xp, 74, none⟩ (.int .i64 is')) mp xp a cap qs s m C j is' ∧ Moved (fpR qs s xp) w (fpR qs s xp) (w.setCell ⟨xp, 74, none⟩ (.int .i64 is')) :=
  h.own (Kept.setCell (S := fun k => k = xp) (Kept.refl _ w) (p := ⟨xp, 74, none⟩) (.inl rfl) _) (h.job.set74 is') rfl h.ok
theorem RJ.set73 {w : World} {mp xp cap m C : Nat} {a : Option Addr} {qs : Nat → Qh} {s : SV} {j : JV} {is : Int} (h : RJ w mp xp a cap qs s m C j is) {c : Int} (hc : -1 ≤ c ∧ c < 64) :
    RJ (w.setCell ⟨xp, 73, none⟩ (.int .i64 c)) mp xp a cap qs s m C { j with last := c } is ∧ Moved (fpR qs s xp) w (fpR qs s xp) (w.setCell ⟨xp, 73, none⟩ (.int .i64 c)) :=
  h.own (Kept.setCell (S := fun k => k = xp) (Kept.refl _ w) (p := ⟨xp, 73, none⟩) (.inl rfl) _) (h.job.set73 c) rfl { h.ok with last := hc }
theorem RJ.staged {w : World} {mp xp cap m C : Nat} {a : Option Addr} {qs : Nat → Qh} {s : SV} {j : JV} {is : Int} (h : RJ w mp xp a cap qs s m C j is) {st : Int} (hs : st = 1 ∨ st = 2 ∨ st = 4 ∨ st = 5) : RJ w mp xp a cap qs s m C (j.at st) is :=
  ⟨h.shelf, h.job.staged st, h.nums, h.ap, h.ok.at hs, h.cap⟩
theorem RJ.putS {w : World} {mp xp cap m C : Nat} {a : Option Addr} {qs : Nat → Qh} {s : SV} {j : JV} {is : Int} (h : RJ w mp xp a cap qs s m C j is) (c : Int) (b : Bool) :
    RJ (if S4.putB j.n j.x c b = true then w.setCell ⟨xp, 9 + c.toNat, none⟩ (.bool b) else w) mp xp a cap qs s m C (j.put (S4.putV j.n j.x c b)) is ∧ Moved (fpR qs s xp) w (fpR qs s xp) (if S4.putB j.n j.x c b = true then w.setCell ⟨xp, 9 + c.toNat, none⟩ (.bool b) else w) :=
  h.own (by split; exact Kept.setCell (S := fun k => k = xp) (Kept.refl _ w) (p := ⟨xp, 9 + c.toNat, none⟩) (.inl rfl) _; exact Kept.refl _ w) (h.job.putS (by have := h.ok.n; have := h.ok.c40; omega) c b) rfl (h.ok.put c b)
theorem RJ.putL {w w' : World} {mp xp cap m C : Nat} {a : Option Addr} {qs : Nat → Qh} {s : SV} {j : JV} {is : Int} (h : RJ w mp xp a cap qs s m C j is) {cur : Array Value} {lv : Int} (hc : ∀ i, i < 78 → cur[i]? = some (rjC mp a cap j is i)) (h1 : S4.Job75 121 cur w' xp j.rate j.burst lv) (hk : S4.Kept (fun k => k = xp) w w') (hl : 0 ≤ lv ∧ lv ≤ j.burst) :
    RJ w' mp xp a cap qs s m C { j with lv := lv } is ∧ Moved (fpR qs s xp) w (fpR qs s xp) w' :=
  h.own (Kept.of4 hk) (IsRjob.ofB h1 hc) rfl { h.ok with lv := ⟨hl.1, hl.2, h.ok.lv.2.2⟩ }

def DDid (mp xp : Nat) (a : Option Addr) (cap : Nat) (qs : Nat → Qh) (s z : SV) (m C : Nat) (j : JV) (w w' : World) : Prop := ∃ qs', RJ w' mp xp a cap qs' z m C j j.state ∧ Moved (fpR qs s xp) w (fpR qs' z xp) w'

theorem DDid.below {w w' : World} {mp xp cap m C : Nat} {a : Option Addr} {qs : Nat → Qh} {s : SV} {j : JV} (h : RJ w mp xp a cap qs s m C j j.state) (hb : Below w.heap.size w w') : DDid mp xp a cap qs s s m C j w w' := ⟨qs, h.below hb, Moved.of_below hb⟩
theorem DDid.after {w w1 w' : World} {mp xp cap m C : Nat} {a : Option Addr} {qs qs1 : Nat → Qh} {s s1 z : SV} {j : JV} (hm : Moved (fpR qs s xp) w (fpR qs1 s1 xp) w1) (h : DDid mp xp a cap qs1 s1 z m C j w1 w') : DDid mp xp a cap qs s z m C j w w' := by
  obtain ⟨qs', h1, h2⟩ := h
  exact ⟨qs', h1, hm.trans h2⟩
end Go.Proofs.YtjegaljdindfaabGreatDoor
