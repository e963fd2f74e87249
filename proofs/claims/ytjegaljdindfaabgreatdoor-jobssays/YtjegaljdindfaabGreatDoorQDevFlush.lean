/-
Flush, Crash, Bytes and Copy of a device: what each gives, and what the device is behind it.
-/
import Derived.Test.YtjegaljdindfaabGreatDoorQDevNew
import Derived.Deep.RegionHeld3
import Derived.Deep.DrawnRows
import Derived.Deep.AppendSrc
import Derived.Deep.WholeRow
namespace Go.Proofs.YtjegaljdindfaabGreatDoor
open Go.RowKit
attribute [local go_sem ↓] Go.wp_at_zero Go.wp_at_succ

/- copy of a whole row of sectors over another one of the same length. -/
theorem run_copy_secs (w : World) (g1 g2 : Nat) (n c1 c2 : Nat) (cur : Array Value) (t : TypeId) (xs : List Value) (hg : w.heap[g1]? = some (.cells cur t (0, 0))) (hx : xs.length = n * 16) (hfit : n * 16 ≤ cur.size)
    (hsrc : ∀ j u, xs[j]? = some u → w.cell? ((⟨g2, 0, none⟩ : Addr).add j) = some u) (h1 : ∀ u ∈ xs, u.oneCell' = true) :
    (Builtin.copy_ #[134, 134] 3 #[.slice (some ⟨g1, 0, none⟩) n c1, .slice (some ⟨g2, 0, none⟩) n c2]).run Tryz.prog w = .ok (.int .i64 (n : Int)) (w.setRow g1 (xs ++ cur.toList.drop (n * 16)).toArray) := by
  have hst := run_storeCells_at (P := Tryz.prog) g1 0 t xs 0 cur w hg (by simp [hx]; omega) h1
  have hsz : ∀ w : World, (sizeOf 191).run Tryz.prog w = .ok 16 w := fun _ => by kernel_rfl
  have hfc := run_firstCells_some (P := Tryz.prog) w 16 n ⟨g2, 0, none⟩ n c2 xs hx hsrc
  simp [Builtin.copy_, run_underlying Tryz.underlying134, Builtin.lenOf, hsz, hfc, hst, goInt, hx]

theorem setRow_block_other (w : World) (g k : Nat) (cs : Array Value) (h : k ≠ g) : (w.setRow g cs).heap[k]? = w.heap[k]? := setRow_other w g k cs h

theorem Kept.setRow {S : Nat → Prop} {a w : World} (h : Kept S a w) {g : Nat} (hp : S g ∨ a.heap.size ≤ g) (cs : Array Value) : Kept S a (w.setRow g cs) :=
  ⟨h.os, h.tape, h.output, by simpa [World.setRow] using h.size, fun k hk hs => (setRow_other w g k cs (fun e => by rcases hp with hp | hp; exact hs (e ▸ hp); omega)).trans (h.block k hk hs)⟩

/- The row of what is flushed is set. -/
theorem IsDev.setF {B : Nat} {w : World} {h : Hd} {d : DV} (hd : IsDev B w h d) (l : List (List UInt8)) (arr : Array Value) (hok : ({ d with fl := l } : DV).ok) (hlen : l.length = d.fl.length) (harr : arr.toList.take (l.length * 16) = secsV l) (hsz : arr.size = h.cf * 16) :
    IsDev B (w.setRow h.bf arr) h { d with fl := l } := by
  obtain ⟨a1, a2, a3, a4, a5⟩ := hd.apart
  obtain ⟨hbB, cf, hf2, hcf1, hcf2, hcf3, hcf4⟩ := ownsRow_block hd.of
  refine ⟨hok, hd.pB, ?_, ?_, ?_, ownsRow_keep hd.op (fun k e => setRow_other _ _ _ _ (fun e2 => a4 (by rw [e, e2]))), hd.ne, hd.pn⟩
  · show (w.setRow h.bf arr).heap[h.p]? = _
    rw [setRow_other _ _ _ _ (Ne.symm a1)]
    show _ = some (Obj.cells #[.slice (some ⟨h.bf, 0, none⟩) l.length h.cf, .slice (some ⟨h.bs, 0, none⟩) l.length h.cs, h.v2, .int .i64 (d.wr : Int), .int .i64 d.fail] 194 (0, 0))
    rw [hlen]; exact hd.blk
  · show (w.setRow h.bf arr).ownsRow B 191 16 (.slice (some ⟨h.bf, 0, none⟩) l.length h.cf) l.length (secsV l)
    exact ⟨secsV_len l hok.l1, .inr ⟨h.bf, h.cf, arr, rfl, hbB, setRow_heap w h.bf cf arr _ _ hf2, by omega, hcf2, hsz, harr⟩⟩
  · show (w.setRow h.bf arr).ownsRow B 191 16 (.slice (some ⟨h.bs, 0, none⟩) l.length h.cs) l.length (secsV d.seen)
    rw [hlen]
    exact ownsRow_keep hd.os (fun k e => setRow_other _ _ _ _ (by
      have : h.bs = k := by simpa [Value.ownBlock] using e
      rw [← this]; exact Ne.symm hd.ne))

theorem IsDev.drew {B : Nat} {w : World} {h : Hd} {d : DV} (hd : IsDev B w h d) : IsDev B w.drew h d := hd.keep fun _ _ => rfl

def DV.flushed (d : DV) : DV := { d with fl := d.seen, pend := [] }

theorem DV.ok.flushed {d : DV} (h : d.ok) : d.flushed.ok :=
  ⟨by show 1 ≤ d.seen.length; rw [h.same]; exact h.n1, by show d.seen.length ≤ 200; rw [h.same]; exact h.n2, rfl, h.l2, h.l2, (fun x hx => by cases hx), Nat.zero_le _, h.few2, h.f1, h.f2⟩

theorem DV.ok.over {d : DV} (h : d.ok) : ({ d with fl := d.seen } : DV).ok :=
  ⟨by show 1 ≤ d.seen.length; rw [h.same]; exact h.n1, by show d.seen.length ≤ 200; rw [h.same]; exact h.n2, rfl, h.l2, h.l2, (fun x hx => by show x.1 < d.seen.length ∧ _; rw [h.same]; exact h.l3 x hx), h.few, h.few2, h.f1, h.f2⟩

set_option maxRecDepth 100000 in
set_option maxHeartbeats 400000 in
theorem flush_any {B : Nat} {h : Hd} {d : DV} (w : World) (hd : IsDev B w h d) :
    Calls Tryz.prog 141 #[.pointer (some ⟨h.p, 0, none⟩)] w fun e w' => e = .returned (.tuple #[]) ∧ IsDev B w' { h with v2 := .slice none 0 0 } d.flushed ∧ Kept (fun k => k = h.p ∨ k = h.bf) w w' := by
  obtain ⟨c0, c1, c2, c3, c4, fz⟩ := hd.cells
  have fz2 := fz 2
  obtain ⟨hbB, cf, hf2, hcf1, hcf2, hcf3, hcf4⟩ := ownsRow_block hd.of
  have hsn := ownsRow_news hd.os
  have hxl : (secsV d.seen).length = d.fl.length * 16 := by rw [secsV_len _ hd.ok.l2, hd.ok.same]
  have hcp : ∀ W : World, W.heap = w.heap → (Builtin.copy_ #[134, 134] 3 #[.slice (some ⟨h.bf, 0, none⟩) d.fl.length h.cf, .slice (some ⟨h.bs, 0, none⟩) d.fl.length h.cs]).run Tryz.prog W = .ok (.int .i64 (d.fl.length : Int)) (W.setRow h.bf (secsV d.seen ++ cf.toList.drop (d.fl.length * 16)).toArray) := fun W hW =>
    run_copy_secs W h.bf h.bs d.fl.length h.cf h.cs cf 191 (secsV d.seen) (by rw [hW]; exact hf2) hxl (by rw [hcf3]; omega) (fun j u hj => by
      have := hsn j u hj
      rw [World.cell?_of_block (w := w) (by rw [hW])]; exact this) (secsV_one _)
  have hcpd := hcp w.drew rfl
  have HD2 : Hid (IsDev B (w.drew.setRow h.bf (secsV d.seen ++ cf.toList.drop (d.fl.length * 16)).toArray) h { d with fl := d.seen }) :=
    hd.drew.setF d.seen _ hd.ok.over hd.ok.same (by
      show (secsV d.seen ++ cf.toList.drop (d.fl.length * 16)).take (d.seen.length * 16) = secsV d.seen
      rw [hd.ok.same, ← hxl]; simp) (by simp [hxl, hcf3]; omega)
  have HK : Hid (Kept (fun k => k = h.p ∨ k = h.bf) w (w.drew.setRow h.bf (secsV d.seen ++ cf.toList.drop (d.fl.length * 16)).toArray)) := (Kept.refl _ w).drew.setRow (.inl (.inr rfl)) _
  obtain ⟨_, _, c2', _, _, fz'⟩ := HD2.out.cells
  have fz2' := fz' 2
  have HOK : Hid (d.flushed.ok) := hd.ok.flushed
  clear hd fz hcp hsn hcf4 hxl hf2 fz'
  generalize (secsV d.seen ++ cf.toList.drop (d.fl.length * 16)).toArray = arr at hcpd HD2 HK c2' fz2'
  go_enter Tryz.func141, Tryz.ntmps141
  go_wp2
  go_region
  generalize w.drew.setRow h.bf arr = W at HD2 HK c2' fz2' ⊢
  clear c0 c1 c2 c3 c4 fz2 hcpd
  go_wp2
  go_end0
  exact ⟨rfl, HD2.out.setP (d' := d.flushed) (.slice none 0 0) 2 (.slice none 0 0) HOK.out rfl rfl rfl (World.ownsRow_nil _ _ _ _) (fun _ => rfl), HK.out.setCell (.inl (.inl rfl)) _⟩

theorem heap_setCells_other (b k : Nat) (hk : k ≠ b) : ∀ (vs : List Value) (o : Nat) (w : World), (w.setCells b o vs).heap[k]? = w.heap[k]?
  | [], _, _ => rfl
  | v :: r, o, w => by
    show ((w.setCell ⟨b, o, none⟩ v).setCells b (o + 1) r).heap[k]? = _
    rw [heap_setCells_other b k hk r]
    exact heap_setCell_other w ⟨b, o, none⟩ k v hk

theorem size_setCells (b : Nat) : ∀ (vs : List Value) (o : Nat) (w : World), (w.setCells b o vs).heap.size = w.heap.size
  | [], _, _ => rfl
  | v :: r, o, w => by
    show ((w.setCell ⟨b, o, none⟩ v).setCells b (o + 1) r).heap.size = _
    rw [size_setCells b r]
    simp [World.setCell]

theorem fields_setCells (b : Nat) : ∀ (vs : List Value) (o : Nat) (w : World), (w.setCells b o vs).os = w.os ∧ (w.setCells b o vs).tape = w.tape ∧ (w.setCells b o vs).output = w.output
  | [], _, _ => ⟨rfl, rfl, rfl⟩
  | v :: r, o, w => by
    show ((w.setCell ⟨b, o, none⟩ v).setCells b (o + 1) r).os = _ ∧ _ ∧ _
    exact fields_setCells b r (o + 1) (w.setCell ⟨b, o, none⟩ v)

theorem Kept.setCells {S : Nat → Prop} {a w : World} (h : Kept S a w) {b : Nat} (hp : S b ∨ a.heap.size ≤ b) (o : Nat) (vs : List Value) : Kept S a (w.setCells b o vs) := by
  obtain ⟨f1, f2, f3⟩ := fields_setCells b vs o w
  exact ⟨f1.trans h.os, f2.trans h.tape, f3.trans h.output, by rw [size_setCells]; exact h.size, fun k hk hs => (heap_setCells_other b k (fun e => by rcases hp with hp | hp; exact hs (e ▸ hp); omega) vs o w).trans (h.block k hk hs)⟩

theorem Below.setCells {B : Nat} {a w : World} (h : Below B a w) {b : Nat} (hp : B ≤ b) (o : Nat) (vs : List Value) : Below B a (w.setCells b o vs) := by
  obtain ⟨f1, f2, f3⟩ := fields_setCells b vs o w
  exact h.trans ⟨f1, f2, f3, by rw [size_setCells]; exact Nat.le_refl _, fun k hk => heap_setCells_other b k (by omega) vs o w⟩

/- Sixteen new cells. -/
theorem there_new (w : World) (c : Array Value) (t : TypeId) (n : Nat) (h : c.size = n) : (w.alloc (.cells c t)).there w.heap.size 0 n := by
  intro j hj
  rw [Nat.zero_add, cell_of_row _ _ _ _ _ _ (heap_alloc_new w _), frozen_of_row _ _ _ _ _ (heap_alloc_new w _)]
  exact ⟨by simp; omega, rfl⟩

theorem info_byte : (Tryz.prog.info? 5).map (fun i => (i.zero, i.size, i.bytes)) = some (some (.int .u8 0), 1, 1) := by kernel_rfl
theorem size_sec : (Tryz.prog.info? 191).map (·.size) = some 16 := by kernel_rfl

theorem secsV_flat (l : List (List UInt8)) : secsV l = secV l.flatten := by
  unfold secsV secV
  rw [List.map_flatten]

theorem take_snoc_secs (l : List (List UInt8)) (k : Nat) (h : k < l.length) : secsV (l.take (k + 1)) = secsV (l.take k) ++ secV (l.getD k []) := by
  rw [List.take_succ_eq_append_getElem h]
  unfold secsV
  rw [List.map_append, List.flatten_append]
  congr 1
  simp [List.getD, List.getElem?_eq_getElem h]

set_option maxRecDepth 100000 in
set_option maxHeartbeats 1000000 in
theorem bytes_dev {B : Nat} {h : Hd} {d : DV} (w : World) (hd : IsDev B w h d) :
    Calls Tryz.prog 153 #[.pointer (some ⟨h.p, 0, none⟩)] w fun e w' => e = .returned (.string (bytesOf d.fl.flatten)) ∧ Below w.heap.size w w' := by
  obtain ⟨c0, c1, c2, c3, c4, fz⟩ := hd.cells
  have h200 := hd.ok.n2
  have hofs := hd.of
  have HO : Hid (w.ownsRow B 191 16 (.slice (some ⟨h.bf, 0, none⟩) d.fl.length h.cf) d.fl.length (secsV d.fl)) := hofs
  have HL : Hid (∀ s ∈ d.fl, s.length = 16) := hd.ok.l1
  obtain ⟨i0, hi0, hz0, hz1, hz2⟩ := info_parts info_byte
  obtain ⟨w1, hmk, hown, hgr⟩ := run_make_own (P := Tryz.prog) w w.heap.size 132 5 i0 (.int .u8 0) 1 Tryz.underlying132 hi0 hz0 hz1 .i64 .i64 (d.fl.length * 16) (by rw [hz2]; omega) (by unfold maxLen; omega) (Nat.le_refl _)
  rw [show ((d.fl.length * 16 : Nat) : Int) = (d.fl.length : Int) * 16 by omega] at hmk
  have hb1 : Below w.heap.size w w1 := (Below.refl _ _).grown hgr (Nat.le_refl _) (fun k e => by cases e)
  have hpl : h.p < w.heap.size := (hd.lt _ (.inl rfl)).2
  have c0' : w1.cell? ⟨h.p, 0, none⟩ = some (.slice (some ⟨h.bf, 0, none⟩) d.fl.length h.cf) := by rw [hb1.cell hpl]; exact c0
  have HW1 : Hid (w1.ownsRow w.heap.size 5 1 (.slice (some ⟨w.heap.size, 0, none⟩) 0 (d.fl.length * 16)) 0 []) := hown
  have HB1 : Hid (Below w.heap.size w w1) := hb1
  clear hd hofs hown hgr hb1 c1 c2 c3 c4 fz
  go_enter Tryz.func153, Tryz.ntmps153
  go_wp2
  go_loopw [3, 18] (fun v i wr => ∃ k : Nat, ∃ g cap : Nat, k ≤ d.fl.length ∧ i = .int .i64 k ∧ v = .slice (some ⟨g, 0, none⟩) (k * 16) cap ∧ wr.ownsRow w.heap.size 5 1 (.slice (some ⟨g, 0, none⟩) (k * 16) cap) (k * 16) (secsV (d.fl.take k)) ∧ Below w.heap.size w wr) (fun _ i _ => d.fl.length - (intOf i).toNat)
  case atStart => exact ⟨0, w.heap.size, d.fl.length * 16, Nat.zero_le _, rfl, by simp, by simpa [secsV] using HW1.out, HB1.out⟩
  case round =>
    obtain ⟨k, g, cap, hk, rfl, rfl, how, hbel⟩ := hrel
    by_cases hlt : k < d.fl.length
    · have hr0 := sec_range HO.out HL.out k hlt
      obtain ⟨_, cur, hh, _⟩ := ownsRow_block HO.out
      have hbl : h.bf < w.heap.size := lt_of_some hh
      have hr : wr.rangeAt h.bf (k * 16) (secV (d.fl.getD k [])) := fun j v hv => by
        rw [hbel.cell (p := ⟨h.bf, k * 16 + j, none⟩) hbl]; exact hr0 j v hv
      have hl16 : (secV (d.fl.getD k [])).length = 16 := by
        rw [secV_len, List.getD_eq_getElem?_getD, List.getElem?_eq_getElem hlt]; exact HL.out _ (List.getElem_mem hlt)
      have HS : Hid (secsV (d.fl.take (k + 1)) = secsV (d.fl.take k) ++ secV (d.fl.getD k [])) := take_snoc_secs d.fl k hlt
      have HONE := secV_one (d.fl.getD k [])
      have HR : Hid (wr.rangeAt h.bf (k * 16) (secV (d.fl.getD k []))) := hr
      have HOW : Hid (wr.ownsRow w.heap.size 5 1 (.slice (some ⟨g, 0, none⟩) (k * 16) cap) (k * 16) (secsV (d.fl.take k))) := how
      generalize secV (d.fl.getD k []) = cs at hl16 HS HONE HR
      generalize secsV (d.fl.take k) = xs at HS HOW
      clear hr hr0 hh how
      have HI : Hid ((Tryz.prog.info? 191).map (·.size) = some cs.length) := by unfold Hid; rw [hl16]; exact size_sec
      have HTH : Hid ((wr.alloc (.cells #[.int .u8 0, .int .u8 0, .int .u8 0, .int .u8 0, .int .u8 0, .int .u8 0, .int .u8 0, .int .u8 0, .int .u8 0, .int .u8 0, .int .u8 0, .int .u8 0, .int .u8 0, .int .u8 0, .int .u8 0, .int .u8 0] 191)).there wr.heap.size 0 cs.toArray.size) := there_new wr _ _ _ (by simp [hl16])
      have HA : Hid (cs.toArray.all (·.oneCell') = true) := all_oneCell_toArray HONE
      have HI2 : Hid ((Tryz.prog.info? 191).map (·.size) = some cs.toArray.size) := by unfold Hid; simp only [List.size_toArray]; exact HI.out
      have HR3 : Hid (((wr.alloc (.cells #[.int .u8 0, .int .u8 0, .int .u8 0, .int .u8 0, .int .u8 0, .int .u8 0, .int .u8 0, .int .u8 0, .int .u8 0, .int .u8 0, .int .u8 0, .int .u8 0, .int .u8 0, .int .u8 0, .int .u8 0, .int .u8 0] 191)).setCells wr.heap.size 0 cs).rangeAt wr.heap.size 0 cs) := World.rangeAt_setCells_same _ _ _ _ (there_new wr _ _ _ (by simp [hl16]))
      have hgs := (ownsRow_block HOW.out).2
      obtain ⟨cur2, hh2, _⟩ := hgs
      have hgl : g < wr.heap.size := lt_of_some hh2
      have HOW3 : Hid (((wr.alloc (.cells #[.int .u8 0, .int .u8 0, .int .u8 0, .int .u8 0, .int .u8 0, .int .u8 0, .int .u8 0, .int .u8 0, .int .u8 0, .int .u8 0, .int .u8 0, .int .u8 0, .int .u8 0, .int .u8 0, .int .u8 0, .int .u8 0] 191)).setCells wr.heap.size 0 cs).ownsRow w.heap.size 5 1 (.slice (some ⟨g, 0, none⟩) (k * 16) cap) (k * 16) xs) := ownsRow_keep HOW.out (fun q e => by
        have : g = q := by simpa [Value.ownBlock] using e
        subst this
        rw [heap_setCells_other _ _ (by omega), Below.heap_alloc _ _ _ hgl])
      have hbs := hbel.size
      have HSZ3 : Hid (((wr.alloc (.cells #[.int .u8 0, .int .u8 0, .int .u8 0, .int .u8 0, .int .u8 0, .int .u8 0, .int .u8 0, .int .u8 0, .int .u8 0, .int .u8 0, .int .u8 0, .int .u8 0, .int .u8 0, .int .u8 0, .int .u8 0, .int .u8 0] 191)).setCells wr.heap.size 0 cs).heap.size = wr.heap.size + 1) := by unfold Hid; rw [size_setCells]; simp
      have HB3 : Hid (Below w.heap.size w ((wr.alloc (.cells #[.int .u8 0, .int .u8 0, .int .u8 0, .int .u8 0, .int .u8 0, .int .u8 0, .int .u8 0, .int .u8 0, .int .u8 0, .int .u8 0, .int .u8 0, .int .u8 0, .int .u8 0, .int .u8 0, .int .u8 0, .int .u8 0] 191)).setCells wr.heap.size 0 cs)) := Below.setCells (hbel.alloc hbs _) hbs 0 cs
      have HBB : Hid (w.heap.size ≤ ((wr.alloc (.cells #[.int .u8 0, .int .u8 0, .int .u8 0, .int .u8 0, .int .u8 0, .int .u8 0, .int .u8 0, .int .u8 0, .int .u8 0, .int .u8 0, .int .u8 0, .int .u8 0, .int .u8 0, .int .u8 0, .int .u8 0, .int .u8 0] 191)).setCells wr.heap.size 0 cs).heap.size) := by unfold Hid; rw [HSZ3.out]; omega
      have HNW : Hid (∀ j u, cs[j]? = some u → ((wr.alloc (.cells #[.int .u8 0, .int .u8 0, .int .u8 0, .int .u8 0, .int .u8 0, .int .u8 0, .int .u8 0, .int .u8 0, .int .u8 0, .int .u8 0, .int .u8 0, .int .u8 0, .int .u8 0, .int .u8 0, .int .u8 0, .int .u8 0] 191)).setCells wr.heap.size 0 cs).cell? ((⟨wr.heap.size, 0, none⟩ : Addr).add j) = some u) := fun j u hj => by
        rw [Addr.add_mid]; exact HR3.out j u hj
      have HLn : Hid (cs.length = 16 * 1) := by unfold Hid; omega
      have HMX : Hid (k * 16 + 16 ≤ maxLen) := by unfold Hid maxLen; omega
      clear hh2 HR3 HOW
      go_wp2_with (first
        | (refine wpList_load_mid (by rfl) 191 (.tmp 20) (by rfl) h.bf (k * 16) (by rfl) cs _ HR.out Tryz.underlying191 rfl HI.out ?_)
        | (refine wpList_store_mid (by rfl) 191 (.tmp 5) (.tmp 21) (by rfl) wr.heap.size 0 cs.toArray (by rfl) (by rfl) HTH.out HI2.out HA.out ?_)
        | (at_builtin; refine wpList_append_lies _ (by rfl) _ _ 132 (by rfl) w.heap.size 5 i0 (.int .u8 0) 1 1 Tryz.underlying132 hi0 hz0 hz1 hz2 rfl (by decide) (.slice (some ⟨g, 0, none⟩) (k * 16) cap) (k * 16) xs (by rfl) HOW3.out ⟨wr.heap.size, 0, none⟩ 16 16 cs (by rfl) HLn.out HNW.out HONE (by decide) HMX.out (by omega) HBB.out (wr.heap.size + 1) HSZ3.out ?_; intro g' cap' w4 hown4 hgrow4 hat4 hlt4))
      have ek : k * 16 + 16 = (k + 1) * 16 := by omega
      rw [ek] at hown4
      have HX : Hid (w4.ownsRow w.heap.size 5 1 (.slice (some ⟨g', 0, none⟩) ((k + 1) * 16) cap') ((k + 1) * 16) (secsV (d.fl.take (k + 1)))) := by
        unfold Hid; rw [HS.out]; exact hown4
      have HB4 : Hid (Below w.heap.size w w4) := HB3.out.grown (row := some g) hgrow4 HBB.out (fun q e => by
        have : g = q := by simpa using e
        subst this
        exact (ownsRow_block HOW3.out).1)
      clear hown4 hgrow4
      go_roundw
      case rel =>
        have fin : ∃ k1 : Nat, ∃ g1 cap1 : Nat, k1 ≤ d.fl.length ∧ Value.int .i64 ((k : Int) + 1) = .int .i64 k1 ∧ Value.slice (some ⟨g', 0, none⟩) (k * 16 + 16) cap' = .slice (some ⟨g1, 0, none⟩) (k1 * 16) cap1 ∧ w4.ownsRow w.heap.size 5 1 (.slice (some ⟨g1, 0, none⟩) (k1 * 16) cap1) (k1 * 16) (secsV (d.fl.take k1)) ∧ Below w.heap.size w w4 :=
          ⟨k + 1, g', cap', by omega, by go_num, by rw [ek], HX.out, HB4.out⟩
        first | exact fin | ((repeat apply Exists.intro); exact ⟨fin, rfl⟩)
      case measure => simp [intOf]; omega
    · have hkn : k = d.fl.length := by omega
      subst hkn
      have hr : wr.rangeAt g 0 (secV d.fl.flatten) := fun j v hv => by
        rw [Nat.zero_add]
        have hjl : j < d.fl.length * 16 := by
          rcases Nat.lt_or_ge j (d.fl.length * 16) with h' | h'
          · exact h'
          · rw [List.getElem?_eq_none (by rw [← secsV_flat, secsV_len _ HL.out]; exact h')] at hv; cases hv
        rw [how.cellAt j (by omega), List.take_of_length_le (Nat.le_refl _), secsV_flat]
        exact hv
      have hcv := conv_sec (d.fl.length * 16) cap (by rw [← secV_len, ← secsV_flat, secsV_len _ HL.out]) hr
      have HB4 : Hid (Below w.heap.size w wr) := hbel
      clear how hr hbel
      go_wp2
      go_ret
      exact ⟨rfl, HB4.out⟩
end Go.Proofs.YtjegaljdindfaabGreatDoor
