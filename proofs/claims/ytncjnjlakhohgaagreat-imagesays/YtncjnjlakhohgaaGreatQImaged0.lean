/-
The document's own image: Link, and what is read.
imaged: an act on an image and on the document's own one: what both are behind it, and what it leans on.
-/
import Derived.Test.YtncjnjlakhohgaaGreatQRimRead
import Derived.Test.YtncjnjlakhohgaaGreatQRimFill
namespace Go.Proofs.YtncjnjlakhohgaaGreat
open Go.RowKit Go.Maps
attribute [local go_sem ↓] Go.wp_at_zero Go.wp_at_succ

theorem IsRim.headed {B : Nat} {w : World} {q : Qh} {v : IV} (h : IsRim B w q v) (g : HV) :
    IsRim B (((w.setCell ⟨q.p, 1, none⟩ (.int .i64 g.c)).setCell ⟨q.p, 2, none⟩ (.int .i64 g.p)).setCell ⟨q.p, 3, none⟩ (.int .i64 g.b)) q { v with h := g } ∧
    KeptR B w (((w.setCell ⟨q.p, 1, none⟩ (.int .i64 g.c)).setCell ⟨q.p, 2, none⟩ (.int .i64 g.p)).setCell ⟨q.p, 3, none⟩ (.int .i64 g.b)) := by
  obtain ⟨h1, k1⟩ := h.setP 1 (.int .i64 g.c) (q2 := q) (v2 := { v with h := ⟨g.c, v.h.p, v.h.b⟩ }) rfl rfl rfl rfl h.own h.held h.ne
  obtain ⟨h2, k2⟩ := h1.setP 2 (.int .i64 g.p) (q2 := q) (v2 := { v with h := ⟨g.c, g.p, v.h.b⟩ }) rfl rfl rfl rfl h1.own h1.held h1.ne
  obtain ⟨h3, k3⟩ := h2.setP 3 (.int .i64 g.b) (q2 := q) (v2 := { v with h := g }) rfl rfl rfl rfl h2.own h2.held h2.ne
  exact ⟨h3, KeptR.trans (KeptR.trans k1 k2) k3⟩

set_option maxRecDepth 100000 in
set_option maxHeartbeats 2000000 in
theorem link_rim {B m : Nat} {q : Qh} {v : IV} (back : Int) (w : World) (h : IsRim B w q v) (hok : v.ok m) (hm : m + 10 < 1000000000) (hB : B ≤ w.heap.size) :
    Calls Tryz.prog 53 #[.pointer (some ⟨q.p, 0, none⟩), .int .i64 back] w (DidR B w q (v.link back) (v.linkF back)) := by
  obtain ⟨c0, c1, c2, c3, c4, c5, fz⟩ := h.cells
  have lp : q.p < w.heap.size := lt_of_some h.blk
  have HI := toHid h
  have HHF := toHid (headFault_any v.h.c v.h.p back)
  cases hk : (v.linkH back).ok with
  | false =>
    have e1 : v.link back = v := by unfold IV.link; rw [if_neg (by rw [hk]; decide)]
    have e2 : v.linkF back = 1 := by unfold IV.linkF; rw [if_neg (by rw [hk]; decide)]
    have e3 : HV.fault ⟨v.h.c, v.h.p, back⟩ = 1 := by unfold HV.fault; rw [if_neg (by rw [show HV.ok ⟨v.h.c, v.h.p, back⟩ = false from hk]; decide)]
    rw [e1, e2]
    rw [e3] at HHF
    clear h hok hk e1 e2 e3 c0 c4 c5 fz
    generalize v.h.c = c at c1 HHF
    generalize v.h.p = p at c2 HHF
    generalize v.h.b = b at c3
    have hby : Below w.heap.size w (w.alloc (.cells #[.int .i64 c, .int .i64 p, .int .i64 back] 23)) := (Below.refl _ _).alloc (Nat.le_refl _) _
    have hbx : Below w.heap.size w ((w.alloc (.cells #[.int .i64 c, .int .i64 p, .int .i64 b] 23)).setCell ⟨w.heap.size, 2, none⟩ (.int .i64 back)) := ((Below.refl _ _).alloc (Nat.le_refl _) _).setCell (Nat.le_refl _) _
    go_enter Tryz.func53, Tryz.ntmps53
    go_wp2_with fail
    refine (HHF.out _).mono ?_
    rintro e w1 ⟨rfl, hb1⟩
    have HD : Hid (DidR B w q v 1 (.returned (.int .i64 1)) w1) := didR_same HI.out (by first | exact hbx.trans (hb1.mono hbx.size) | exact hby.trans (hb1.mono hby.size))
    clear hb1 hbx hby
    go_wp2
    go_ret
    exact HD.out
  | true =>
    have e1 : v.link back = v.headV (v.linkH back) := by unfold IV.link; rw [if_pos hk]
    have e2 : v.linkF back = v.flush.d.putF := by unfold IV.linkF; rw [if_pos hk]
    have hk' : HV.ok ⟨v.h.c, v.h.p, back⟩ = true := hk
    have e3 : HV.fault ⟨v.h.c, v.h.p, back⟩ = 0 := by unfold HV.fault; rw [hk']; rfl
    rw [e1, e2]
    rw [e3] at HHF
    obtain ⟨X, hX⟩ : ∃ X : ByteArray, X = sealS [83, 89, v.h.c, v.h.p, back + 1] := ⟨_, rfl⟩
    have hX16 : X.size = 16 := by rw [hX]; exact HV.bytes_size ⟨v.h.c, v.h.p, back⟩
    have HHS : Hid (∀ W : World, Calls Tryz.prog 38 #[.agg #[.int .i64 v.h.c, .int .i64 v.h.p, .int .i64 back]] W fun e w' => e = .returned (.string X) ∧ Below W.heap.size W w') := fun W => by rw [hX]; exact headSector_any v.h.c v.h.p back W hk'
    have HHV : Hid (v.headV (v.linkH back) = if v.flush.d.putF = 0 then { (({ v.flush with d := v.flush.d.put 0 X.data.toList } : IV).flush) with h := ⟨v.h.c, v.h.p, back⟩ } else { v.flush with d := v.flush.d.put 0 X.data.toList }) := by rw [hX]; rfl
    have hfl := hok.d.flushed
    have h0 : 0 < v.d.fl.length := hok.d.ok.n1
    have HPF : Hid (v.flush.d.putF = 0 ∨ v.flush.d.putF = 7) := by
      rcases DV.putF_cases v.flush.d with h7 | h7
      · exact .inl h7.1
      · exact .inr h7.1
    have HFL := toHid (fun (W : World) (hi : IsRim B W q v) => flush_rim W hi hok.d)
    have HWR : Hid (∀ (W : World) (r : Qh), IsRim B W r v.flush → B ≤ W.heap.size → Calls Tryz.prog 36 #[.pointer (some ⟨r.d.p, 0, none⟩), .int .i64 0, .string X] W fun e w' =>
        ∃ q' : Qh, e = .returned (.int .i64 v.flush.d.putF) ∧ Led B W r q' { v.flush with d := v.flush.d.put 0 X.data.toList } w') := fun W r hi hb => by
      refine (rWrite_any 0 X W hi.dev hfl (by omega) hb hX16 h0).mono ?_
      rintro e w' ⟨q2, rfl, hp2, hd2, hk2, hv2⟩
      exact ⟨{ r with d := q2 }, rfl, Led.dev hi hd2 hp2 hk2 hv2⟩
    have HF2 := toHid (fun (W : World) (r : Qh) (hi : IsRim B W r { v.flush with d := v.flush.d.put 0 X.data.toList }) => flush_rim W hi (hfl.put (i := 0) (s := X.data.toList) h0 (by simpa using hX16) (by omega)))
    clear h hok hk hk' e1 e2 e3 c0 c4 c5 fz hX hX16 hfl
    generalize v.headV (v.linkH back) = V at HHV ⊢
    generalize v.flush.d.putF = pf at HHV HPF HWR ⊢
    generalize v.h.c = c at c1 HHF HHS HHV
    generalize v.h.p = p at c2 HHF HHS HHV
    generalize v.h.b = b at c3
    have hbx : ∀ W : World, W = (w.alloc (.cells #[.int .i64 c, .int .i64 p, .int .i64 b] 23)).setCell ⟨w.heap.size, 2, none⟩ (.int .i64 back) ∨ W = w.alloc (.cells #[.int .i64 c, .int .i64 p, .int .i64 back] 23) → Below w.heap.size w W ∧ W.heap[w.heap.size]? = some (.cells #[.int .i64 c, .int .i64 p, .int .i64 back] 23 (0, 0)) := fun W hW => by
      rcases hW with rfl | rfl
      · refine ⟨((Below.refl _ _).alloc (Nat.le_refl _) _).setCell (Nat.le_refl _) _, ?_⟩
        rw [heap_setCell_same _ _ _ _ _ _ (heap_alloc_new w _)]; rfl
      · exact ⟨(Below.refl _ _).alloc (Nat.le_refl _) _, heap_alloc_new w _⟩
    have HBX := toHid hbx
    clear hbx
    go_enter Tryz.func53, Tryz.ntmps53
    go_wp2_with fail
    refine (HHF.out _).mono ?_
    rintro e w1 ⟨rfl, hb1⟩
    obtain ⟨hbA, hxA⟩ := HBX.out _ (.inr rfl)
    have hx1 : w1.heap[w.heap.size]? = some (.cells #[.int .i64 c, .int .i64 p, .int .i64 back] 23 (0, 0)) := by rw [hb1.block _ (lt_of_some hxA)]; exact hxA
    have HB1 := toHid (hbA.trans (hb1.mono hbA.size))
    have HX1 := toHid hx1
    have hi1 := HI.out.below HB1.out
    have HL1 := toHid (Led.below HI.out HB1.out)
    have HF1 := toHid (HFL.out w1 hi1)
    clear hb1 hbA hxA hx1 hi1 HHF HBX HFL HI
    go_wp2_with fail
    refine HF1.out.mono ?_
    rintro e w2 ⟨q2, rfl, hl2⟩
    have HX2 := toHid (hl2.kept.box HX1.out (by decide))
    have HL2 := toHid (HL1.out.trans hl2)
    have d0 : w2.cell? ⟨q.p, 0, none⟩ = some (.pointer (some ⟨q2.d.p, 0, none⟩)) := by have := hl2.rim.cells.1; rw [hl2.p] at this; exact this
    have x0 : w2.cell? ⟨w.heap.size, 0, none⟩ = some (.int .i64 c) := by rw [cell_of_row _ _ _ _ _ _ HX2.out]; rfl
    have x1 : w2.cell? ⟨w.heap.size, 1, none⟩ = some (.int .i64 p) := by rw [cell_of_row _ _ _ _ _ _ HX2.out]; rfl
    have x2 : w2.cell? ⟨w.heap.size, 2, none⟩ = some (.int .i64 back) := by rw [cell_of_row _ _ _ _ _ _ HX2.out]; rfl
    have hxl : w.heap.size < w2.heap.size := lt_of_some HX2.out
    have hql : q.p < w2.heap.size := by omega
    clear hl2 HF1 HL1 HX1 HB1
    go_wp2
    go_region_held3 (fun W => W.cell? ⟨q.p, 0, none⟩ = some (.pointer (some ⟨q2.d.p, 0, none⟩)) ∧ W.cell? ⟨w.heap.size, 0, none⟩ = some (.int .i64 c) ∧ W.cell? ⟨w.heap.size, 1, none⟩ = some (.int .i64 p) ∧ W.cell? ⟨w.heap.size, 2, none⟩ = some (.int .i64 back))
      (first | (exact ⟨d0, x0, x1, x2⟩) | assumption)
      (first
        | (go_at_call 38; refine (HHS.out _).mono ?_; rintro e wH ⟨rfl, hbH⟩; have hbH2 : Below w2.heap.size w2 wH := ((Below.refl _ _).drew).trans hbH; have hSH : wH.cell? ⟨q.p, 0, none⟩ = some (.pointer (some ⟨q2.d.p, 0, none⟩)) ∧ wH.cell? ⟨w.heap.size, 0, none⟩ = some (.int .i64 c) ∧ wH.cell? ⟨w.heap.size, 1, none⟩ = some (.int .i64 p) ∧ wH.cell? ⟨w.heap.size, 2, none⟩ = some (.int .i64 back) := ⟨(hbH2.cell (p := ⟨q.p, 0, none⟩) hql).trans d0, (hbH2.cell (p := ⟨w.heap.size, 0, none⟩) hxl).trans x0, (hbH2.cell (p := ⟨w.heap.size, 1, none⟩) hxl).trans x1, (hbH2.cell (p := ⟨w.heap.size, 2, none⟩) hxl).trans x2⟩)
        | (go_at_call 36; refine (HWR.out wH q2 (HL2.out.rim.below hbH2) (Nat.le_trans hB (Nat.le_trans HL2.out.kept.size hbH2.size))).mono ?_; rintro e w3 ⟨q3, rfl, hl3⟩; have hl23 : Led B w2 q2 q3 _ w3 := (Led.below HL2.out.rim hbH2).trans hl3; have hS3 : w3.cell? ⟨q.p, 0, none⟩ = some (.pointer (some ⟨q2.d.p, 0, none⟩)) ∧ w3.cell? ⟨w.heap.size, 0, none⟩ = some (.int .i64 c) ∧ w3.cell? ⟨w.heap.size, 1, none⟩ = some (.int .i64 p) ∧ w3.cell? ⟨w.heap.size, 2, none⟩ = some (.int .i64 back) := by
             have hx3 := hl23.kept.box HX2.out (by decide)
             refine ⟨?_, ?_, ?_, ?_⟩
             · have := hl23.rim.cells.1
               rw [hl23.p, hl23.dp, HL2.out.p] at this; exact this
             · rw [cell_of_row _ _ _ _ _ _ hx3]; rfl
             · rw [cell_of_row _ _ _ _ _ _ hx3]; rfl
             · rw [cell_of_row _ _ _ _ _ _ hx3]; rfl))
    have HX3 := toHid (hl23.kept.box HX2.out (by decide))
    have HL3 := toHid (HL2.out.trans hl23)
    clear hl3 hl23 hSH hS3 hbH hbH2 d0 x0 x1 x2 HX2 HL2 HWR HHS
    by_cases hpf : pf = 0
    · have HV : Hid (V = { (({ v.flush with d := v.flush.d.put 0 X.data.toList } : IV).flush) with h := ⟨c, p, back⟩ }) := by unfold Hid; rw [HHV.out, if_pos hpf]
      have HP0 := toHid hpf
      have HF4 := toHid (HF2.out w3 q3 HL3.out.rim)
      rw [show q3.p = q.p from HL3.out.p] at HF4
      rw [hpf]
      clear HHV HPF hpf HF2
      go_wp2_with fail
      refine HF4.out.mono ?_
      rintro e w4 ⟨q4, rfl, hl4⟩
      have hx4 := hl4.kept.box HX3.out (by decide)
      have HL4 := toHid (HL3.out.trans hl4)
      have y0 : w4.cell? ⟨w.heap.size, 0, none⟩ = some (.int .i64 c) := by rw [cell_of_row _ _ _ _ _ _ hx4]; rfl
      have y1 : w4.cell? ⟨w.heap.size, 1, none⟩ = some (.int .i64 p) := by rw [cell_of_row _ _ _ _ _ _ hx4]; rfl
      have y2 : w4.cell? ⟨w.heap.size, 2, none⟩ = some (.int .i64 back) := by rw [cell_of_row _ _ _ _ _ _ hx4]; rfl
      have hp4 : q4.p = q.p := HL4.out.p
      obtain ⟨_, c1', c2', c3', _, _, fz⟩ := HL4.out.rim.cells
      rw [hp4] at c1' c2' c3'
      have f1 := fz 1
      have f2 := fz 2
      have f3 := fz 3
      rw [hp4] at f1 f2 f3
      obtain ⟨hi5, hk5⟩ := HL4.out.rim.headed ⟨c, p, back⟩
      have HL5 : Hid (Led B w q q4 V (((w4.setCell ⟨q.p, 1, none⟩ (.int .i64 c)).setCell ⟨q.p, 2, none⟩ (.int .i64 p)).setCell ⟨q.p, 3, none⟩ (.int .i64 back))) := by
        rw [hp4] at hi5 hk5
        exact ⟨HL4.out.p, HL4.out.dp, HL4.out.vt, by rw [HV.out]; exact hi5, KeptR.trans HL4.out.kept hk5⟩
      clear hi5 hk5 hl4 hx4 HX3 HL3 HL4 HF4 fz hp4
      go_wp2
      go_ret
      exact ⟨q4, by rw [HP0.out]; rfl, HL5.out⟩
    · have HV : Hid (V = { v.flush with d := v.flush.d.put 0 X.data.toList }) := by unfold Hid; rw [HHV.out, if_neg hpf]
      have h7 : pf = 7 := by rcases HPF.out with h | h; exact absurd h hpf; exact h
      have H7 := toHid h7
      rw [h7]
      clear HHV hpf h7 HPF HX3 HF2
      go_wp2
      go_ret
      exact ⟨q3, by rw [H7.out]; rfl, by rw [HV.out]; exact HL3.out⟩
end Go.Proofs.YtncjnjlakhohgaaGreat

namespace Go.Proofs.YtncjnjlakhohgaaGreat
open Go.RowKit Go.Maps
attribute [local go_sem ↓] Go.wp_at_zero Go.wp_at_succ

structure Pair (B : Nat) (w : World) (x : Ih) (q : Qh) (v : IV) (m : Nat) : Prop where
  img : IsImg B w x v
  rim : IsRim B w q v
  ok : v.ok m
  ne : ∀ k, q.vt.ownBlock = some k → k ≠ x.tb
  base : B ≤ w.heap.size

def Paired (B : Nat) (w : World) (x : Ih) (q : Qh) (V : IV) (m : Nat) (w' : World) : Prop :=
  ∃ x' q', x'.p = x.p ∧ q'.p = q.p ∧ x'.h.p = x.h.p ∧ q'.d.p = q.d.p ∧ Pair B w' x' q' V m ∧ Below B w w'

/- Two worlds that part in what they drew alone. -/
structure Alike (a b : World) : Prop where
  heap : b.heap = a.heap
  os : b.os = a.os
  tape : b.tape = a.tape
  output : b.output = a.output

theorem Alike.below {a b : World} (h : Alike a b) : Below a.heap.size a b := Kept.below (S := fun _ => False) ⟨h.os, h.tape, h.output, by rw [h.heap]; exact Nat.le_refl _, fun k _ _ => by rw [h.heap]⟩ (Nat.le_refl _) (fun _ => False.elim)

def actBox (a : ActV) : Obj := .cells #[.string a.kind, .int .i64 a.a, .int .i64 a.b, .int .i64 a.c, .int .i64 a.d, .string a.s, .slice a.ka a.kl a.kc] 44 (0, 0)

structure ActAt (w : World) (N : Nat) (a : ActV) : Prop where
  blk : w.heap[N]? = some (actBox a)

theorem ActAt.cells {w : World} {N : Nat} {a : ActV} (h : ActAt w N a) : w.cell? ⟨N, 1, none⟩ = some (.int .i64 a.a) ∧ w.cell? ⟨N, 2, none⟩ = some (.int .i64 a.b) ∧ w.cell? ⟨N, 5, none⟩ = some (.string a.s) := by
  refine ⟨?_, ?_, ?_⟩ <;> (rw [cell_of_row _ _ _ _ _ _ h.blk]; rfl)

theorem Pair.below {B m : Nat} {w w' : World} {x : Ih} {q : Qh} {v : IV} (h : Pair B w x q v m) (hb : Below w.heap.size w w') : Pair B w' x q v m :=
  ⟨h.img.below hb, h.rim.below hb, h.ok, h.ne, Nat.le_trans h.base hb.size⟩

theorem Pair.paired {B m : Nat} {w w' : World} {x : Ih} {q : Qh} {v : IV} (h : Pair B w x q v m) (hb : Below w.heap.size w w') : Paired B w x q v m w' :=
  ⟨x, q, rfl, rfl, rfl, rfl, h.below hb, hb.mono h.base⟩

theorem Pair.more {B m m' : Nat} {w : World} {x : Ih} {q : Qh} {v : IV} (h : Pair B w x q v m) (hm : m ≤ m') : Pair B w x q v m' := ⟨h.img, h.rim, h.ok.more hm, h.ne, h.base⟩

/- The program's image turns, the document's stays. -/
theorem Pair.imgs {B : Nat} {w w' : World} {x : Ih} {q : Qh} {v : IV} {m : Nat} (h : Pair B w x q v m) (hk : KeptP B x.tb w w') : IsRim B w' q v := h.rim.keptP hk h.img.tb.2 h.ne

theorem pair_step {B m : Nat} {w : World} {x : Ih} {q : Qh} {v V : IV} {f : Int} {fp fr : Nat} {ap ar : Array Value} (h : Pair B w x q v m) (hV : V.ok (m + 10)) (a : ActV)
    (HP : ∀ W : World, IsImg B W x v → B ≤ W.heap.size → Calls Tryz.prog fp ap W (Did B W x V f))
    (HR : ∀ W : World, IsRim B W q v → B ≤ W.heap.size → Calls Tryz.prog fr ar W (DidR B W q V f)) :
    ∀ W' : World, Alike (w.alloc (actBox a)) W' → Calls Tryz.prog fp ap W' fun e w1 => e = .returned (erV f) ∧ ActAt w1 w.heap.size a ∧
      ∀ W'' : World, Alike w1 W'' → Calls Tryz.prog fr ar W'' fun e w2 => e = .returned (.int .i64 f) ∧ ActAt w2 w.heap.size a ∧
        ∀ W3 : World, Alike w2 W3 → Paired B w x q V (m + 10) W3 := by
  intro W' hS
  have hba : Below w.heap.size w (w.alloc (actBox a)) := (Below.refl _ _).alloc (Nat.le_refl _) _
  have hbw : Below w.heap.size w W' := hba.trans (hS.below.mono hba.size)
  have p1 := h.below hbw
  have hblk : W'.heap[w.heap.size]? = some (actBox a) := by rw [hS.heap]; exact heap_alloc_new w _
  refine (HP W' p1.img p1.base).mono ?_
  rintro e w1 ⟨y, rfl, hy, hi1, hk1⟩
  have htb : w.heap.size ≠ x.tb := fun e => by have := h.img.lts.2.2; omega
  have a1 : ActAt w1 w.heap.size a := ⟨hk1.box hblk (by decide) htb⟩
  refine ⟨rfl, a1, fun W'' hS2 => ?_⟩
  have hr1 : IsRim B w1 q v := p1.imgs hk1
  have hr2 := hr1.below hS2.below
  have hi2 := hi1.below hS2.below
  have hb1 : Below B w w1 := (hbw.mono h.base).trans (hk1.below p1.base)
  have hb2 : Below B w W'' := hb1.trans (hS2.below.mono (Nat.le_trans h.base hb1.size))
  refine (HR W'' hr2 (Nat.le_trans h.base hb2.size)).mono ?_
  rintro e w2 ⟨q', rfl, hl⟩
  have hblk2 : W''.heap[w.heap.size]? = some (actBox a) := by rw [hS2.heap]; exact a1.blk
  have a2 : ActAt w2 w.heap.size a := ⟨hl.kept.box hblk2 (by decide)⟩
  refine ⟨rfl, a2, fun W3 hS3 => ?_⟩
  have hi3 : IsImg B w2 { x with h := y } V := hi2.keptR hl.kept
  have hb3 : Below B w w2 := hb2.trans (hl.kept.below (Nat.le_trans h.base hb2.size))
  have hb4 : Below B w W3 := hb3.trans (hS3.below.mono (Nat.le_trans h.base hb3.size))
  refine ⟨{ x with h := y }, q', rfl, hl.p, hy, hl.dp, ⟨hi3.below hS3.below, hl.rim.below hS3.below, hV, fun k hk => ?_, Nat.le_trans h.base hb4.size⟩, hb4⟩
  rcases hl.vt k hk with e | e
  · exact h.ne k e
  · have h1 := h.img.lts.2.2
    have h2 := hb2.size
    show k ≠ x.tb
    omega

theorem writeF_pos (v : IV) (c fr : Int) (s : ByteArray) : 0 ≤ v.writeF c fr s := by
  unfold IV.writeF IV.writeD
  split
  · split
    · rcases DV.puts_F v.d (beginN v.h (v.ent c).2.toNat + fr.toNat) s (s.size / 16) with h | h <;> rw [h] <;> decide
    · decide
  · decide
theorem putF_pos (d : DV) : 0 ≤ d.putF := by
  rcases d.putF_cases with ⟨h, _⟩ | ⟨h, _⟩ <;> rw [h] <;> decide
theorem clearF_pos (v : IV) (c : Int) : 0 ≤ v.clearF c := by
  unfold IV.clearF
  split
  · split
    · decide
    · exact putF_pos _
  · decide
theorem linkF_pos (v : IV) (b : Int) : 0 ≤ v.linkF b := by
  unfold IV.linkF
  split
  · exact putF_pos _
  · decide
theorem fillF_pos (v : IV) (c : Int) (s : ByteArray) : 0 ≤ v.fillF c s := by
  unfold IV.fillF
  repeat' split
  all_goals first
    | decide
    | exact putF_pos _
    | (rename_i h; simp only [ne_eq] at h; rcases DV.puts_F v.d _ s 4 with g | g <;> simp only [IV.fillD, g] <;> decide)
    | (unfold IV.fillD; rcases DV.puts_F v.d _ s 4 with g | g <;> rw [g] <;> decide)
end Go.Proofs.YtncjnjlakhohgaaGreat
