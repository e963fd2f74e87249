/-
imaged: an act on an image and on the document's own one, a kind each.
-/
import Derived.Test.YtncjnjlakhohgaaGreatQImaged0
namespace Go.Proofs.YtncjnjlakhohgaaGreat
open Go.RowKit Go.Maps
attribute [local go_sem ↓] Go.wp_at_zero Go.wp_at_succ

theorem DV.fine.failing {d : DV} {n m : Nat} (h : d.fine n m) {f : Int} (h1 : -1 ≤ f) (h2 : f ≤ 9223372036854775807) : (d.failing f).fine n m := ⟨h.ok.failing h1 h2, failing_sn h.sn f, h.len, h.wr⟩

set_option maxRecDepth 100000 in
set_option maxHeartbeats 2000000 in
theorem imaged_write {B m : Nat} {x : Ih} {q : Qh} {v : IV} (a : ActV) (w : World) (h : Pair B w x q v m) (hm : m + 10 < 1000000000) (hs : a.s.size ≤ 1000) (hb : -9223372036854775808 ≤ a.b ∧ a.b ≤ 9223372036854775807) (e0 : a.kind.toList = [119, 114, 105, 116, 101]) :
    Calls Tryz.prog 18 #[.pointer (some ⟨x.p, 0, none⟩), .pointer (some ⟨q.p, 0, none⟩), .agg #[.string a.kind, .int .i64 a.a, .int .i64 a.b, .int .i64 a.c, .int .i64 a.d, .string a.s, .slice a.ka a.kl a.kc]] w fun e w' => e = .returned (.bool true) ∧ Paired B w x q (v.write a.a a.b a.s) (m + 10) w' := by
  have hst := pair_step h (h.ok.write a.a a.b a.s (by omega)) a (fun W hi hB => write_img a.a a.b a.s W hi h.ok hm hB hs hb) (fun W hr hB => write_rim a.a a.b a.s W hr h.ok hm hB hs hb)
  have hat : ActAt (w.alloc (actBox a)) w.heap.size a := ⟨heap_alloc_new w _⟩
  have hf0 := writeF_pos v a.a a.b a.s
  have g0 : (a.kind.toList == [119, 114, 105, 116, 101]) = true := by rw [e0]; rfl
  clear h hs hb e0 hm
  generalize v.writeF a.a a.b a.s = fv at hst hf0
  generalize v.write a.a a.b a.s = V at hst ⊢
  have HST := toHid hst
  have HAT := toHid hat
  clear hst hat
  unfold actBox at HST HAT
  go_enter Tryz.func18, Tryz.ntmps18
  go_wp2
  generalize w.alloc (.cells #[.string a.kind, .int .i64 a.a, .int .i64 a.b, .int .i64 a.c, .int .i64 a.d, .string a.s, .slice a.ka a.kl a.kc] 44) = W at HST HAT ⊢
  generalize w.heap.size = N at HST HAT ⊢
  obtain ⟨c1, c2, c5⟩ := HAT.out.cells
  clear HAT
  go_region_held3 (fun W' => W'.cell? ⟨N, 1, none⟩ = some (.int .i64 a.a) ∧ W'.cell? ⟨N, 2, none⟩ = some (.int .i64 a.b) ∧ W'.cell? ⟨N, 5, none⟩ = some (.string a.s))
    (first | (exact ⟨c1, c2, c5⟩) | assumption)
    (first
      | (go_at_call 47; refine (HST.out _ ?_).mono ?_; (· exact ⟨rfl, rfl, rfl, rfl⟩); rintro e W1 ⟨rfl, hA1, href⟩; have hSW1 := hA1.cells; have HREF := toHid href; clear href hA1)
      | (go_at_call 48; refine (HREF.out _ ?_).mono ?_; (· exact ⟨rfl, rfl, rfl, rfl⟩); rintro e W2 ⟨rfl, hA2, hlf⟩; have hSW2 := hA2.cells; have HLF := toHid hlf; clear hlf hA2)
      | (go_at_call 11; refine (errSame fv _ hf0).mono ?_; rintro e w' ⟨rfl, rfl⟩))
  go_wp2
  go_ret
  exact ⟨rfl, HLF.out _ ⟨rfl, rfl, rfl, rfl⟩⟩

set_option maxRecDepth 100000 in
set_option maxHeartbeats 2000000 in
theorem imaged_fill {B m : Nat} {x : Ih} {q : Qh} {v : IV} (a : ActV) (w : World) (h : Pair B w x q v m) (hm : m + 10 < 1000000000) (e0 : a.kind.toList = [102, 105, 108, 108]) :
    Calls Tryz.prog 18 #[.pointer (some ⟨x.p, 0, none⟩), .pointer (some ⟨q.p, 0, none⟩), .agg #[.string a.kind, .int .i64 a.a, .int .i64 a.b, .int .i64 a.c, .int .i64 a.d, .string a.s, .slice a.ka a.kl a.kc]] w fun e w' => e = .returned (.bool true) ∧ Paired B w x q (v.fill a.a a.s) (m + 10) w' := by
  have hst := pair_step h (h.ok.fill a.a a.s (by omega)) a (fun W hi hB => fill_img a.a a.s W hi h.ok hm hB) (fun W hr hB => fill_rim a.a a.s W hr h.ok hm hB)
  have hat : ActAt (w.alloc (actBox a)) w.heap.size a := ⟨heap_alloc_new w _⟩
  have hf0 := fillF_pos v a.a a.s
  have g0 : (a.kind.toList == [119, 114, 105, 116, 101]) = false := by rw [e0]; rfl
  have g1 : (a.kind.toList == [102, 105, 108, 108]) = true := by rw [e0]; rfl
  clear h e0 hm
  generalize v.fillF a.a a.s = fv at hst hf0
  generalize v.fill a.a a.s = V at hst ⊢
  have HST := toHid hst
  have HAT := toHid hat
  clear hst hat
  unfold actBox at HST HAT
  go_enter Tryz.func18, Tryz.ntmps18
  go_wp2
  generalize w.alloc (.cells #[.string a.kind, .int .i64 a.a, .int .i64 a.b, .int .i64 a.c, .int .i64 a.d, .string a.s, .slice a.ka a.kl a.kc] 44) = W at HST HAT ⊢
  generalize w.heap.size = N at HST HAT ⊢
  obtain ⟨c1, c2, c5⟩ := HAT.out.cells
  clear HAT
  go_region_held3 (fun W' => W'.cell? ⟨N, 1, none⟩ = some (.int .i64 a.a) ∧ W'.cell? ⟨N, 2, none⟩ = some (.int .i64 a.b) ∧ W'.cell? ⟨N, 5, none⟩ = some (.string a.s))
    (first | (exact ⟨c1, c2, c5⟩) | assumption)
    (first
      | (go_at_call 23; refine (HST.out _ ?_).mono ?_; (· exact ⟨rfl, rfl, rfl, rfl⟩); rintro e W1 ⟨rfl, hA1, href⟩; have hSW1 := hA1.cells; have HREF := toHid href; clear href hA1)
      | (go_at_call 49; refine (HREF.out _ ?_).mono ?_; (· exact ⟨rfl, rfl, rfl, rfl⟩); rintro e W2 ⟨rfl, hA2, hlf⟩; have hSW2 := hA2.cells; have HLF := toHid hlf; clear hlf hA2)
      | (go_at_call 11; refine (errSame fv _ hf0).mono ?_; rintro e w' ⟨rfl, rfl⟩))
  go_wp2
  go_ret
  exact ⟨rfl, HLF.out _ ⟨rfl, rfl, rfl, rfl⟩⟩

set_option maxRecDepth 100000 in
set_option maxHeartbeats 2000000 in
theorem imaged_clear {B m : Nat} {x : Ih} {q : Qh} {v : IV} (a : ActV) (w : World) (h : Pair B w x q v m) (hm : m + 10 < 1000000000) (e0 : a.kind.toList = [99, 108, 101, 97, 114]) :
    Calls Tryz.prog 18 #[.pointer (some ⟨x.p, 0, none⟩), .pointer (some ⟨q.p, 0, none⟩), .agg #[.string a.kind, .int .i64 a.a, .int .i64 a.b, .int .i64 a.c, .int .i64 a.d, .string a.s, .slice a.ka a.kl a.kc]] w fun e w' => e = .returned (.bool true) ∧ Paired B w x q (v.clear a.a) (m + 10) w' := by
  have hst := pair_step h (h.ok.clear a.a (by omega)) a (fun W hi hB => clear_img a.a W hi h.ok hm hB) (fun W hr hB => clear_rim a.a W hr h.ok hm hB)
  have hat : ActAt (w.alloc (actBox a)) w.heap.size a := ⟨heap_alloc_new w _⟩
  have hf0 := clearF_pos v a.a
  have g0 : (a.kind.toList == [119, 114, 105, 116, 101]) = false := by rw [e0]; rfl
  have g1 : (a.kind.toList == [102, 105, 108, 108]) = false := by rw [e0]; rfl
  have g2 : (a.kind.toList == [99, 108, 101, 97, 114]) = true := by rw [e0]; rfl
  clear h e0 hm
  generalize v.clearF a.a = fv at hst hf0
  generalize v.clear a.a = V at hst ⊢
  have HST := toHid hst
  have HAT := toHid hat
  clear hst hat
  unfold actBox at HST HAT
  go_enter Tryz.func18, Tryz.ntmps18
  go_wp2
  generalize w.alloc (.cells #[.string a.kind, .int .i64 a.a, .int .i64 a.b, .int .i64 a.c, .int .i64 a.d, .string a.s, .slice a.ka a.kl a.kc] 44) = W at HST HAT ⊢
  generalize w.heap.size = N at HST HAT ⊢
  obtain ⟨c1, c2, c5⟩ := HAT.out.cells
  clear HAT
  go_region_held3 (fun W' => W'.cell? ⟨N, 1, none⟩ = some (.int .i64 a.a) ∧ W'.cell? ⟨N, 2, none⟩ = some (.int .i64 a.b) ∧ W'.cell? ⟨N, 5, none⟩ = some (.string a.s))
    (first | (exact ⟨c1, c2, c5⟩) | assumption)
    (first
      | (go_at_call 50; refine (HST.out _ ?_).mono ?_; (· exact ⟨rfl, rfl, rfl, rfl⟩); rintro e W1 ⟨rfl, hA1, href⟩; have hSW1 := hA1.cells; have HREF := toHid href; clear href hA1)
      | (go_at_call 51; refine (HREF.out _ ?_).mono ?_; (· exact ⟨rfl, rfl, rfl, rfl⟩); rintro e W2 ⟨rfl, hA2, hlf⟩; have hSW2 := hA2.cells; have HLF := toHid hlf; clear hlf hA2)
      | (go_at_call 11; refine (errSame fv _ hf0).mono ?_; rintro e w' ⟨rfl, rfl⟩))
  go_wp2
  go_ret
  exact ⟨rfl, HLF.out _ ⟨rfl, rfl, rfl, rfl⟩⟩

set_option maxRecDepth 100000 in
set_option maxHeartbeats 2000000 in
theorem imaged_link {B m : Nat} {x : Ih} {q : Qh} {v : IV} (a : ActV) (w : World) (h : Pair B w x q v m) (hm : m + 10 < 1000000000) (e0 : a.kind.toList = [108, 105, 110, 107]) :
    Calls Tryz.prog 18 #[.pointer (some ⟨x.p, 0, none⟩), .pointer (some ⟨q.p, 0, none⟩), .agg #[.string a.kind, .int .i64 a.a, .int .i64 a.b, .int .i64 a.c, .int .i64 a.d, .string a.s, .slice a.ka a.kl a.kc]] w fun e w' => e = .returned (.bool true) ∧ Paired B w x q (v.link a.a) (m + 10) w' := by
  have hst := pair_step h (h.ok.link a.a (by omega)) a (fun W hi hB => link_img a.a W hi h.ok hm hB) (fun W hr hB => link_rim a.a W hr h.ok hm hB)
  have hat : ActAt (w.alloc (actBox a)) w.heap.size a := ⟨heap_alloc_new w _⟩
  have hf0 := linkF_pos v a.a
  have g0 : (a.kind.toList == [119, 114, 105, 116, 101]) = false := by rw [e0]; rfl
  have g1 : (a.kind.toList == [102, 105, 108, 108]) = false := by rw [e0]; rfl
  have g2 : (a.kind.toList == [99, 108, 101, 97, 114]) = false := by rw [e0]; rfl
  have g3 : (a.kind.toList == [108, 105, 110, 107]) = true := by rw [e0]; rfl
  clear h e0 hm
  generalize v.linkF a.a = fv at hst hf0
  generalize v.link a.a = V at hst ⊢
  have HST := toHid hst
  have HAT := toHid hat
  clear hst hat
  unfold actBox at HST HAT
  go_enter Tryz.func18, Tryz.ntmps18
  go_wp2
  generalize w.alloc (.cells #[.string a.kind, .int .i64 a.a, .int .i64 a.b, .int .i64 a.c, .int .i64 a.d, .string a.s, .slice a.ka a.kl a.kc] 44) = W at HST HAT ⊢
  generalize w.heap.size = N at HST HAT ⊢
  obtain ⟨c1, c2, c5⟩ := HAT.out.cells
  clear HAT
  go_region_held3 (fun W' => W'.cell? ⟨N, 1, none⟩ = some (.int .i64 a.a) ∧ W'.cell? ⟨N, 2, none⟩ = some (.int .i64 a.b) ∧ W'.cell? ⟨N, 5, none⟩ = some (.string a.s))
    (first | (exact ⟨c1, c2, c5⟩) | assumption)
    (first
      | (go_at_call 52; refine (HST.out _ ?_).mono ?_; (· exact ⟨rfl, rfl, rfl, rfl⟩); rintro e W1 ⟨rfl, hA1, href⟩; have hSW1 := hA1.cells; have HREF := toHid href; clear href hA1)
      | (go_at_call 53; refine (HREF.out _ ?_).mono ?_; (· exact ⟨rfl, rfl, rfl, rfl⟩); rintro e W2 ⟨rfl, hA2, hlf⟩; have hSW2 := hA2.cells; have HLF := toHid hlf; clear hlf hA2)
      | (go_at_call 11; refine (errSame fv _ hf0).mono ?_; rintro e w' ⟨rfl, rfl⟩))
  go_wp2
  go_ret
  exact ⟨rfl, HLF.out _ ⟨rfl, rfl, rfl, rfl⟩⟩

set_option maxRecDepth 100000 in
set_option maxHeartbeats 2000000 in
theorem imaged_fail0 {B m : Nat} {x : Ih} {q : Qh} {v : IV} (a : ActV) (w : World) (h : Pair B w x q v m) (ha : a.a < 0) (e0 : a.kind.toList = [102, 97, 105, 108]) :
    Calls Tryz.prog 18 #[.pointer (some ⟨x.p, 0, none⟩), .pointer (some ⟨q.p, 0, none⟩), .agg #[.string a.kind, .int .i64 a.a, .int .i64 a.b, .int .i64 a.c, .int .i64 a.d, .string a.s, .slice a.ka a.kl a.kc]] w fun e w' => e = .returned (.bool true) ∧ Paired B w x q v m w' := by
  have HP := toHid h
  have g0 : (a.kind.toList == [119, 114, 105, 116, 101]) = false := by rw [e0]; rfl
  have g1 : (a.kind.toList == [102, 105, 108, 108]) = false := by rw [e0]; rfl
  have g2 : (a.kind.toList == [99, 108, 101, 97, 114]) = false := by rw [e0]; rfl
  have g3 : (a.kind.toList == [108, 105, 110, 107]) = false := by rw [e0]; rfl
  have g4 : (a.kind.toList == [102, 97, 105, 108]) = true := by rw [e0]; rfl
  clear h e0
  go_enter Tryz.func18, Tryz.ntmps18
  go_wp2
  go_ret
  exact ⟨rfl, HP.out.paired ((Below.refl _ _).alloc (Nat.le_refl _) _)⟩

set_option maxRecDepth 100000 in
set_option maxHeartbeats 2000000 in
theorem imaged_fail {B m : Nat} {x : Ih} {q : Qh} {v : IV} (a : ActV) (w : World) (h : Pair B w x q v m) (ha : 0 ≤ a.a) (ha2 : a.a ≤ 9223372036854775807) (e0 : a.kind.toList = [102, 97, 105, 108]) :
    Calls Tryz.prog 18 #[.pointer (some ⟨x.p, 0, none⟩), .pointer (some ⟨q.p, 0, none⟩), .agg #[.string a.kind, .int .i64 a.a, .int .i64 a.b, .int .i64 a.c, .int .i64 a.d, .string a.s, .slice a.ka a.kl a.kc]] w fun e w' => e = .returned (.bool true) ∧ Paired B w x q { v with d := v.d.failing a.a } m w' := by
  have g0 : (a.kind.toList == [119, 114, 105, 116, 101]) = false := by rw [e0]; rfl
  have g1 : (a.kind.toList == [102, 105, 108, 108]) = false := by rw [e0]; rfl
  have g2 : (a.kind.toList == [99, 108, 101, 97, 114]) = false := by rw [e0]; rfl
  have g3 : (a.kind.toList == [108, 105, 110, 107]) = false := by rw [e0]; rfl
  have g4 : (a.kind.toList == [102, 97, 105, 108]) = true := by rw [e0]; rfl
  have hba : Below w.heap.size w (w.alloc (actBox a)) := (Below.refl _ _).alloc (Nat.le_refl _) _
  have p0 := h.below hba
  have hblk : (w.alloc (actBox a)).heap[w.heap.size]? = some (actBox a) := heap_alloc_new w _
  have r0 := p0.rim.dev.failing a.a
  have k0 : Kept q.d.fp (w.alloc (actBox a)) ((w.alloc (actBox a)).setCell ⟨q.d.p, 3, none⟩ (.int .i64 a.a)) := (Kept.refl _ _).setCell (.inl (.inl rfl)) _
  have l0 := Led.dev p0.rim r0 rfl k0 (fun r e => .inl e)
  have l1 : Led B (w.alloc (actBox a)) q q { v with d := v.d.failing a.a } ((w.alloc (actBox a)).setCell ⟨q.d.p, 3, none⟩ (.int .i64 a.a)).drew := Led.trans l0 (Led.below l0.rim (Below.refl _ _).drew)
  have a1 : ActAt ((w.alloc (actBox a)).setCell ⟨q.d.p, 3, none⟩ (.int .i64 a.a)).drew w.heap.size a := ⟨l1.kept.box hblk (by decide)⟩
  have i1 : IsImg B ((w.alloc (actBox a)).setCell ⟨q.d.p, 3, none⟩ (.int .i64 a.a)).drew x v := p0.img.keptR l1.kept
  have hb1 : Below B w ((w.alloc (actBox a)).setCell ⟨q.d.p, 3, none⟩ (.int .i64 a.a)).drew := (hba.mono h.base).trans (l1.kept.below p0.base)
  have HFL : Hid (∀ W', Alike ((w.alloc (actBox a)).setCell ⟨q.d.p, 3, none⟩ (.int .i64 a.a)).drew W' → Calls Tryz.prog 54 #[.pointer (some ⟨x.p, 0, none⟩)] W' fun e w' => e = .returned (.pointer (some ⟨x.h.p, 0, none⟩)) ∧ w' = W') := fun W' hS => dev_img W' (i1.below hS.below)
  have HFF : Hid (∀ W', Alike ((w.alloc (actBox a)).setCell ⟨q.d.p, 3, none⟩ (.int .i64 a.a)).drew W' → Calls Tryz.prog 55 #[.pointer (some ⟨x.h.p, 0, none⟩), .int .i64 a.a] W' fun e w' => e = .returned .nilIface ∧ ActAt w' w.heap.size a ∧ ∀ W3, Alike w' W3 → Paired B w x q { v with d := v.d.failing a.a } m W3) := by
    intro W' hS
    have i2 := i1.below hS.below
    refine (fail_yes a.a W' i2.dev ha ha2).mono ?_
    rintro e w' ⟨rfl, hd, hk⟩
    obtain ⟨i3, k3⟩ := i2.devd hd rfl hk
    have htb : w.heap.size ≠ x.tb := fun e => by have := h.img.lts.2.2; omega
    have hbl2 : W'.heap[w.heap.size]? = some (actBox a) := by rw [hS.heap]; exact a1.blk
    have hr3 : IsRim B w' q { v with d := v.d.failing a.a } := (l1.rim.below hS.below).keptP k3 i2.tb.2 h.ne
    have hb2 : Below B w W' := hb1.trans (hS.below.mono (Nat.le_trans h.base hb1.size))
    have hb3 : Below B w w' := hb2.trans (k3.below (Nat.le_trans h.base hb2.size))
    refine ⟨rfl, ⟨k3.box hbl2 (by decide) htb⟩, fun W3 hS3 => ⟨x, q, rfl, rfl, rfl, rfl, ⟨i3.below hS3.below, hr3.below hS3.below, h.ok.dev (h.ok.d.failing (by omega) ha2) (Nat.le_refl _), h.ne, ?_⟩, hb3.trans (hS3.below.mono (Nat.le_trans h.base hb3.size))⟩⟩
    exact Nat.le_trans h.base (Nat.le_trans hb3.size hS3.below.size)
  have q0 := p0.rim.cells.1
  have b1 : (w.alloc (actBox a)).cell? ⟨w.heap.size, 1, none⟩ = some (.int .i64 a.a) := by rw [cell_of_row _ _ _ _ _ _ hblk]; rfl
  obtain ⟨_, _, _, q3, _, qf⟩ := p0.rim.dev.cells
  have qf3 := qf 3
  have HA1 := toHid a1
  clear h hba p0 hblk r0 k0 l0 l1 a1 i1 hb1 e0 qf
  unfold actBox at HFL HFF HA1 q0 b1 q3 qf3
  go_enter Tryz.func18, Tryz.ntmps18
  go_wp2
  generalize w.alloc (.cells #[.string a.kind, .int .i64 a.a, .int .i64 a.b, .int .i64 a.c, .int .i64 a.d, .string a.s, .slice a.ka a.kl a.kc] 44) = W at HFL HFF HA1 q0 b1 q3 qf3 ⊢
  generalize w.heap.size = N at HFL HFF HA1 b1 ⊢
  go_region
  clear q0 b1 q3 qf3
  generalize (W.setCell ⟨q.d.p, 3, none⟩ (.int .i64 a.a)).drew = W1 at HFL HFF HA1 ⊢
  obtain ⟨c1, c2, c5⟩ := HA1.out.cells
  clear HA1
  go_wp2
  go_region_held3 (fun W' => W'.cell? ⟨N, 1, none⟩ = some (.int .i64 a.a) ∧ W'.cell? ⟨N, 2, none⟩ = some (.int .i64 a.b) ∧ W'.cell? ⟨N, 5, none⟩ = some (.string a.s))
    (first | (exact ⟨c1, c2, c5⟩) | assumption)
    (first
      | (go_at_call 54; refine (HFL.out _ ?_).mono ?_; (· exact ⟨rfl, rfl, rfl, rfl⟩); rintro e w' ⟨rfl, rfl⟩)
      | (go_at_call 55; refine (HFF.out _ ?_).mono ?_; (· exact ⟨rfl, rfl, rfl, rfl⟩); rintro e W2 ⟨rfl, hA2, hlf⟩; have hSW2 := hA2.cells; have HLF := toHid hlf; clear hlf hA2)
      | (go_at_call 11; refine (errSame_nil 0 _).mono ?_; rintro e w' ⟨rfl, rfl⟩))
  go_wp2
  go_ret
  exact ⟨rfl, HLF.out _ ⟨rfl, rfl, rfl, rfl⟩⟩

set_option maxRecDepth 100000 in
set_option maxHeartbeats 2000000 in
theorem imaged_flush {B m : Nat} {x : Ih} {q : Qh} {v : IV} (a : ActV) (w : World) (h : Pair B w x q v m) (e0 : a.kind.toList ≠ [119, 114, 105, 116, 101]) (e1 : a.kind.toList ≠ [102, 105, 108, 108]) (e2 : a.kind.toList ≠ [99, 108, 101, 97, 114]) (e3 : a.kind.toList ≠ [108, 105, 110, 107]) (e4 : a.kind.toList ≠ [102, 97, 105, 108]) :
    Calls Tryz.prog 18 #[.pointer (some ⟨x.p, 0, none⟩), .pointer (some ⟨q.p, 0, none⟩), .agg #[.string a.kind, .int .i64 a.a, .int .i64 a.b, .int .i64 a.c, .int .i64 a.d, .string a.s, .slice a.ka a.kl a.kc]] w fun e w' => e = .returned (.bool true) ∧ Paired B w x q v.flush m w' := by
  have g0 : (a.kind.toList == [119, 114, 105, 116, 101]) = false := beq_eq_false_iff_ne.2 e0
  have g1 : (a.kind.toList == [102, 105, 108, 108]) = false := beq_eq_false_iff_ne.2 e1
  have g2 : (a.kind.toList == [99, 108, 101, 97, 114]) = false := beq_eq_false_iff_ne.2 e2
  have g3 : (a.kind.toList == [108, 105, 110, 107]) = false := beq_eq_false_iff_ne.2 e3
  have g4 : (a.kind.toList == [102, 97, 105, 108]) = false := beq_eq_false_iff_ne.2 e4
  have HP := toHid h
  clear h e0 e1 e2 e3 e4
  go_enter Tryz.func18, Tryz.ntmps18
  go_wp2_with fail
  have hba : Below w.heap.size w (w.alloc (.cells #[.string a.kind, .int .i64 a.a, .int .i64 a.b, .int .i64 a.c, .int .i64 a.d, .string a.s, .slice a.ka a.kl a.kc] 44)) := (Below.refl _ _).alloc (Nat.le_refl _) _
  have HB0 := toHid hba
  have HP0 := toHid (HP.out.below hba)
  clear hba
  generalize w.alloc (.cells #[.string a.kind, .int .i64 a.a, .int .i64 a.b, .int .i64 a.c, .int .i64 a.d, .string a.s, .slice a.ka a.kl a.kc] 44) = W at HB0 HP0 ⊢
  refine (flush_img W HP0.out.img).mono ?_
  rintro e w1 ⟨y, rfl, hy, hi1, hk1⟩
  have HR1 := toHid (HP0.out.imgs hk1)
  have HI1 := toHid hi1
  have HY := toHid hy
  have HB1 : Hid (Below B w w1) := (HB0.out.mono HP.out.base).trans (hk1.below HP0.out.base)
  clear hi1 hk1 hy
  go_wp2_with fail
  refine (flush_rim w1 HR1.out HP.out.ok.d).mono ?_
  rintro e w2 ⟨q', rfl, hl⟩
  have HPD : Hid (Paired B w x q v.flush m w2) := by
    have hb2 : Below B w w2 := HB1.out.trans (hl.kept.below (Nat.le_trans HP.out.base HB1.out.size))
    refine ⟨{ x with h := y }, q', rfl, hl.p, HY.out, hl.dp, ⟨HI1.out.keptR hl.kept, hl.rim, HP.out.ok.flush, fun k hk => ?_, Nat.le_trans HP.out.base hb2.size⟩, hb2⟩
    rcases hl.vt k hk with e | e
    · exact HP.out.ne k e
    · have h1 := HP.out.img.lts.2.2
      have h2 := HB1.out.size
      show k ≠ x.tb
      omega
  clear hl
  go_wp2
  go_ret
  exact ⟨rfl, HPD.out⟩

/- Whatever the act. -/
def IV.act (v : IV) (a : ActV) : IV :=
  if a.kind.toList = [119, 114, 105, 116, 101] then v.write a.a a.b a.s else
  if a.kind.toList = [102, 105, 108, 108] then v.fill a.a a.s else
  if a.kind.toList = [99, 108, 101, 97, 114] then v.clear a.a else
  if a.kind.toList = [108, 105, 110, 107] then v.link a.a else
  if a.kind.toList = [102, 97, 105, 108] then (if a.a < 0 then v else { v with d := v.d.failing a.a }) else v.flush

theorem imaged_any {B m : Nat} {x : Ih} {q : Qh} {v : IV} (a : ActV) (w : World) (h : Pair B w x q v m) (hm : m + 10 < 1000000000) (hs : a.s.size ≤ 1000) (ha2 : a.a ≤ 9223372036854775807) (hb : -9223372036854775808 ≤ a.b ∧ a.b ≤ 9223372036854775807) :
    Calls Tryz.prog 18 #[.pointer (some ⟨x.p, 0, none⟩), .pointer (some ⟨q.p, 0, none⟩), .agg #[.string a.kind, .int .i64 a.a, .int .i64 a.b, .int .i64 a.c, .int .i64 a.d, .string a.s, .slice a.ka a.kl a.kc]] w fun e w' => e = .returned (.bool true) ∧ Paired B w x q (v.act a) (m + 10) w' := by
  have up : ∀ {V : IV} {w' : World}, Paired B w x q V m w' → Paired B w x q V (m + 10) w' := fun ⟨x', q', h1, h2, h3, h4, h5, h6⟩ => ⟨x', q', h1, h2, h3, h4, h5.more (by omega), h6⟩
  unfold IV.act
  by_cases e0 : a.kind.toList = [119, 114, 105, 116, 101]
  · rw [if_pos e0]; exact imaged_write a w h hm hs hb e0
  rw [if_neg e0]
  by_cases e1 : a.kind.toList = [102, 105, 108, 108]
  · rw [if_pos e1]; exact imaged_fill a w h hm e1
  rw [if_neg e1]
  by_cases e2 : a.kind.toList = [99, 108, 101, 97, 114]
  · rw [if_pos e2]; exact imaged_clear a w h hm e2
  rw [if_neg e2]
  by_cases e3 : a.kind.toList = [108, 105, 110, 107]
  · rw [if_pos e3]; exact imaged_link a w h hm e3
  rw [if_neg e3]
  by_cases e4 : a.kind.toList = [102, 97, 105, 108]
  · rw [if_pos e4]
    by_cases hn : a.a < 0
    · rw [if_pos hn]; exact (imaged_fail0 a w h hn e4).mono fun e w' ⟨h1, h2⟩ => ⟨h1, up h2⟩
    · rw [if_neg hn]; exact (imaged_fail a w h (by omega) ha2 e4).mono fun e w' ⟨h1, h2⟩ => ⟨h1, up h2⟩
  rw [if_neg e4]
  exact (imaged_flush a w h e0 e1 e2 e3 e4).mono fun e w' ⟨h1, h2⟩ => ⟨h1, up h2⟩
end Go.Proofs.YtncjnjlakhohgaaGreat
