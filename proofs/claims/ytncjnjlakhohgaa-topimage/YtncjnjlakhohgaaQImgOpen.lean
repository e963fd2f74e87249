/-
An image that is made of a table, and one that is opened.
-/
import Derived.Test.YtncjnjlakhohgaaQImgHead
import Derived.Test.YtncjnjlakhohgaaQCrashA
import Derived.Deep.RegionHeld3
namespace Go.Proofs.Ytncjnjlakhohgaa
open Go.RowKit Go.Maps
attribute [local go_sem ↓] Go.wp_at_zero Go.wp_at_succ

set_option maxRecDepth 100000 in
set_option maxHeartbeats 1000000 in
theorem made_img {B tb tc : Nat} {h : Hd} {d : DV} (c p b : Int) (ts : List (Int × Int)) (w : World) (hd : IsDev B w h d) (hB : B ≤ w.heap.size) (ho : w.ownsRow B 78 2 (.slice (some ⟨tb, 0, none⟩) ts.length tc) ts.length (entV ts)) :
    Calls Try.prog 84 #[.pointer (some ⟨h.p, 0, none⟩), .agg #[.int .i64 c, .int .i64 p, .int .i64 b], .slice (some ⟨tb, 0, none⟩) ts.length tc] w fun e w' =>
      ∃ x : Ih, x.h = h ∧ x.tb = tb ∧ x.tc = tc ∧ e = .returned (.pointer (some ⟨x.p, 0, none⟩)) ∧ IsImg B w' x ⟨d, ⟨c, p, b⟩, ts, []⟩ ∧ Below w.heap.size w w' := by
  have hmm := @run_makeMap Try.prog
  have HD := toHid hd
  have HO := toHid ho
  clear hd ho
  go_enter Try.func84, Try.ntmps84
  go_wp2
  go_ret
  have hb1 : Below w.heap.size w (w.alloc (.cells #[.int .i64 c, .int .i64 p, .int .i64 b] 67)) := (Below.refl _ _).alloc (Nat.le_refl _) _
  have hb2 := hb1.alloc hb1.size (.map #[] 0)
  have hb3 := hb2.alloc hb2.size (.cells #[.pointer (some ⟨h.p, 0, none⟩), .int .i64 c, .int .i64 p, .int .i64 b, .slice (some ⟨tb, 0, none⟩) ts.length tc, .map (some (w.heap.size + 1))] 144)
  refine ⟨⟨w.heap.size + 2, h, tb, tc, w.heap.size + 1⟩, rfl, rfl, rfl, by simp, ⟨?_, by show B ≤ w.heap.size + 2; omega, by show B ≤ w.heap.size + 1; omega, ?_, ?_, ?_⟩, hb3⟩
  · have e := heap_alloc_new ((w.alloc (.cells #[.int .i64 c, .int .i64 p, .int .i64 b] 67)).alloc (.map #[] 0)) (.cells #[.pointer (some ⟨h.p, 0, none⟩), .int .i64 c, .int .i64 p, .int .i64 b, .slice (some ⟨tb, 0, none⟩) ts.length tc, .map (some (w.heap.size + 1))] 144)
    rw [show ((w.alloc (.cells #[.int .i64 c, .int .i64 p, .int .i64 b] 67)).alloc (.map #[] 0)).heap.size = w.heap.size + 2 by simp] at e
    exact e
  · exact HD.out.keep fun k hk => hb3.block k (HD.out.lt k hk).2
  · exact ownsRow_keep HO.out fun k hk => hb3.block k (HO.out.lt k hk).2
  · have e := World.ownsMap_made (w.alloc (.cells #[.int .i64 c, .int .i64 p, .int .i64 b] 67)) Try.prog 3 (unitElem (H := Unit))
    rw [show (w.alloc (.cells #[.int .i64 c, .int .i64 p, .int .i64 b] 67)).heap.size = w.heap.size + 1 by simp] at e
    refine ownsMap_block e ?_
    exact Below.heap_alloc _ _ _ (by simp)

def rowsTo (d : DV) (k : Nat) : List ByteArray := (List.range k).map (openR d)
theorem rowsTo_len (d : DV) (k : Nat) : (rowsTo d k).length = k := by simp [rowsTo]
theorem rowsTo_succ (d : DV) (k : Nat) : rowsTo d (k + 1) = rowsTo d k ++ [openR d k] := by unfold rowsTo; rw [List.range_succ, List.map_append]; rfl
theorem rowsTo_at (d : DV) (n k : Nat) (h : k < n) : (rowsTo d n).getD k ByteArray.empty = openR d k := by
  unfold rowsTo
  rw [List.getD_eq_getElem?_getD, List.getElem?_map, List.getElem?_range h]; rfl
def strV (l : List ByteArray) : List Value := l.map Value.string

theorem texts_owns {w : World} {B n cap : Nat} {a : Option Addr} {l : List ByteArray} (ho : w.ownsRow B 9 1 (.slice a n cap) n (strV l)) (hl : l.length = n) (hs : ∀ k, k < n → (l.getD k ByteArray.empty).size ≤ maxLen) : Texts w a n l := by
  refine ⟨hl, fun k hk => ?_⟩
  obtain ⟨g, cap2, hv, hc, _, _⟩ := ownsRow_cell ho k hk
  injection hv with hv1 hv2 hv3
  refine ⟨g, 0, hv1, ?_, hs k hk⟩
  rw [Nat.zero_add, hc]
  have hkl : k < l.length := by omega
  simp [strV, List.getElem?_eq_getElem hkl, List.getD]

set_option maxRecDepth 100000 in
set_option maxHeartbeats 1000000 in
theorem readTable_img {B : Nat} {h : Hd} {d : DV} (c p b : Int) (w : World) (hd : IsDev B w h d) (hk : HV.ok ⟨c, p, b⟩ = true) (hn : rowsN c.toNat < d.fl.length) :
    Calls Try.prog 92 #[.pointer (some ⟨h.p, 0, none⟩), .agg #[.int .i64 c, .int .i64 p, .int .i64 b]] w fun e w' =>
      ∃ lt cp, e = .returned (.tuple #[.slice lt (tableT ⟨c, p, b⟩ (rowsTo d (rowsN c.toNat))).length cp, erV (tableF ⟨c, p, b⟩ (rowsTo d (rowsN c.toNat)))]) ∧ TabO w.heap.size w' lt cp (tableT ⟨c, p, b⟩ (rowsTo d (rowsN c.toNat))) ∧ Below w.heap.size w w' := by
  have hbo := HV.of_ok hk
  simp only at hbo
  have HR : Hid (∀ W : World, Calls Try.prog 46 #[.int .i64 c] W fun e w' => e = .returned (.int .i64 (rowsN c.toNat : Int)) ∧ w' = W) := fun W => by have := rows_any c.toNat W (by omega); rw [show ((c.toNat : Nat) : Int) = c by omega] at this; exact this
  have hrn : rowsN c.toNat ≤ 5 := by unfold rowsN; omega
  generalize rowsN c.toNat = n at HR hrn hn ⊢
  obtain ⟨i2, hi2, hy0, hy1, hy2⟩ := info_parts info_str
  have h16 := hd.ok.l2
  have hsm := hd.ok.same
  have HSZ : Hid (∀ k, k < n → (openR d k).size = 16) := fun k hkn => by
    have hx : 1 + k < d.seen.length := by omega
    have : (d.seen.getD (1 + k) []).length = 16 := by rw [List.getD_eq_getElem?_getD, List.getElem?_eq_getElem hx]; exact h16 _ (List.getElem_mem hx)
    show (d.seen.getD (1 + k) []).toArray.size = 16
    simpa using this
  have HRD : Hid (∀ (k : Nat) (W : World), k < n → IsDev B W h d → Calls Try.prog 27 #[.pointer (some ⟨h.p, 0, none⟩), .int .i64 (1 + (k : Int))] W fun e w' => e = .returned (.tuple #[.string (openR d k), .nilIface]) ∧ w' = W) := fun k W hkn hi => by
    have := read_yes (1 + k) W hi (by omega)
    rw [show (((1 + k : Nat) : Int)) = 1 + (k : Int) by omega] at this; exact this
  have HTB : Hid (∀ (W : World) (a : Option Addr) (cap : Nat), W.ownsRow w.heap.size 9 1 (.slice a n cap) n (strV (rowsTo d n)) → Calls Try.prog 55 #[.agg #[.int .i64 c, .int .i64 p, .int .i64 b], .slice a n cap] W fun e w' =>
      ∃ lt cp, e = .returned (.tuple #[.slice lt (tableT ⟨c, p, b⟩ (rowsTo d n)).length cp, erV (tableF ⟨c, p, b⟩ (rowsTo d n))]) ∧ TabO W.heap.size w' lt cp (tableT ⟨c, p, b⟩ (rowsTo d n)) ∧ Below W.heap.size W w') := fun W a cap ho =>
    readTable_any c p b a n cap (rowsTo d n) W (texts_owns ho (rowsTo_len d n) fun k hkn => by rw [rowsTo_at d n k hkn, HSZ.out k hkn]; unfold maxLen; omega) (by omega)
  have HDK : Hid (∀ W : World, Below w.heap.size w W → IsDev B W h d) := fun W hb => hd.keep fun k hk => hb.block k (hd.lt k hk).2
  have HS0 : Hid (rowsTo d 0 = []) := rfl
  have HSS : Hid (∀ k, rowsTo d (k + 1) = rowsTo d k ++ [openR d k]) := rowsTo_succ d
  have HSL : Hid (∀ k, (rowsTo d k).length = k) := rowsTo_len d
  generalize openR d = R at HSZ HRD HSS
  generalize hT : tableT ⟨c, p, b⟩ (rowsTo d n) = T at HTB ⊢
  generalize hF : tableF ⟨c, p, b⟩ (rowsTo d n) = Fa at HTB ⊢
  clear hT hF
  generalize rowsTo d = L at HTB HS0 HSS HSL
  clear hd hk hbo h16 hsm
  go_enter Try.func92, Try.ntmps92
  go_wp2_with (go_at_call 46; refine (HR.out _).mono ?_; rintro e w' ⟨rfl, hw⟩; have hw' := hw.symm; subst hw'; clear hw)
  have HB0 : Hid (Below w.heap.size w (w.alloc (.cells #[.int .i64 c, .int .i64 p, .int .i64 b] 67))) := (Below.refl _ _).alloc (Nat.le_refl _) _
  have HX : Hid ((w.alloc (.cells #[.int .i64 c, .int .i64 p, .int .i64 b] 67)).heap[w.heap.size]? = some (.cells #[.int .i64 c, .int .i64 p, .int .i64 b] 67 (0, 0))) := heap_alloc_new _ _
  have HZ1 : Hid ((w.alloc (.cells #[.int .i64 c, .int .i64 p, .int .i64 b] 67)).heap.size = w.heap.size + 1) := by unfold Hid; simp
  generalize w.alloc (.cells #[.int .i64 c, .int .i64 p, .int .i64 b] 67) = w0 at HB0 HX HZ1 ⊢
  go_loopw [6, 13] (fun u i wr => ∃ (k : Nat) (a : Option Addr) (cap : Nat), k ≤ n ∧ i = .int .i64 k ∧ u = .slice a k cap ∧ wr.ownsRow (w.heap.size + 1) 9 1 (.slice a k cap) k (strV (L k)) ∧ Below (w.heap.size + 1) w0 wr) (fun _ i _ => n - (intOf i).toNat)
  case atStart => exact ⟨0, none, 0, Nat.zero_le _, rfl, rfl, by rw [HS0.out]; exact World.ownsRow_nil _ _ _ _, Below.refl _ _⟩
  case round =>
    obtain ⟨k, a, cap, hkn, rfl, rfl, ho, hbel⟩ := hrel
    have hb0 : Below w.heap.size w wr := HB0.out.trans (hbel.mono (Nat.le_succ _))
    have hsz : w.heap.size + 1 ≤ wr.heap.size := by have := hbel.size; rw [HZ1.out] at this; exact this
    by_cases hlt : k < n
    · have HRK := toHid (HRD.out k wr hlt (HDK.out wr hb0))
      have HST := toHid (HSS.out k)
      have HO2 : Hid ((wr.alloc (.cells #[.string (R k)] 9)).ownsRow (w.heap.size + 1) 9 1 (.slice a k cap) k (strV (L k))) := ho.alloc _
      have HSA : Hid (w.heap.size + 1 ≤ (wr.alloc (.cells #[.string (R k)] 9)).heap.size) := by unfold Hid; simp; omega
      have HBA : Hid (Below (w.heap.size + 1) w0 (wr.alloc (.cells #[.string (R k)] 9))) := hbel.alloc hsz _
      have HSZ2 : Hid ((wr.alloc (.cells #[.string (R k)] 9)).heap.size = wr.heap.size + 1) := by unfold Hid; simp
      have HNW : Hid (∀ i y, ([.string (R k)] : List Value)[i]? = some y → (wr.alloc (.cells #[.string (R k)] 9)).cell? ((⟨wr.heap.size, 0, none⟩ : Addr).add i) = some y) := cell_one_new _ _ _
      have hk1 : IntKind.i64.wrap (1 + (k : Int)) = 1 + (k : Int) := IntWalk.i64_in _ (by omega)
      clear ho hbel hb0 HRD HSS HDK HTB
      generalize R k = S at HRK HST HO2 HSA HBA HSZ2 HNW
      go_wp2_with fail
      refine HRK.out.mono ?_
      rintro e w' ⟨rfl, hw⟩
      have hw' := hw.symm
      subst hw'
      clear hw
      go_wp2_with (at_builtin; refine wpList_append_lies _ (by rfl) _ _ 22 (by rfl) (w.heap.size + 1) 9 i2 (.string ⟨#[]⟩) 1 16 Try.underlying22 hi2 hy0 hy1 hy2 rfl (by decide) (.slice a k cap) k (strV (L k)) (by rfl) HO2.out ⟨wr.heap.size, 0, none⟩ 1 1 [.string S] (by rfl) (by rfl) HNW.out (fun u hu => by simp at hu; subst hu; rfl) (by decide) (by unfold maxLen; omega) (by omega) HSA.out (wr.heap.size + 1) HSZ2.out ?_; intro g3 cap3 w3 hown hgrow hat hlt3)
      have HOF : Hid (w3.ownsRow (w.heap.size + 1) 9 1 (.slice (some ⟨g3, 0, none⟩) (k + 1) cap3) (k + 1) (strV (L (k + 1)))) := by
        unfold Hid
        have e2 : strV (L (k + 1)) = strV (L k) ++ [.string S] := by rw [HST.out]; simp [strV]
        rw [e2]; exact hown
      have HBF : Hid (Below (w.heap.size + 1) w0 w3) := HBA.out.grown hgrow HSA.out (fun r e => (HO2.out.lt r e).1)
      clear hown hgrow hat hlt3
      go_roundw
      case rel =>
        have fin : ∃ (k1 : Nat) (a1 : Option Addr) (cap1 : Nat), k1 ≤ n ∧ Value.int .i64 ((k : Int) + 1) = .int .i64 k1 ∧ Value.slice (some ⟨g3, 0, none⟩) (k + 1) cap3 = .slice a1 k1 cap1 ∧ w3.ownsRow (w.heap.size + 1) 9 1 (.slice a1 k1 cap1) k1 (strV (L k1)) ∧ Below (w.heap.size + 1) w0 w3 :=
          ⟨k + 1, some ⟨g3, 0, none⟩, cap3, by omega, by go_num, rfl, HOF.out, HBF.out⟩
        first | exact fin | ((repeat apply Exists.intro); exact ⟨fin, rfl⟩)
      case measure => simp [intOf]; omega
    · have hke : k = n := by omega
      subst hke
      have HTW := toHid (HTB.out wr a cap (ownsRow_base ho (Nat.le_succ _)))
      have hx : wr.heap[w.heap.size]? = some (.cells #[.int .i64 c, .int .i64 p, .int .i64 b] 67 (0, 0)) := by rw [hbel.block _ (by omega)]; exact HX.out
      have y0 : wr.cell? ⟨w.heap.size, 0, none⟩ = some (.int .i64 c) := by rw [cell_of_row _ _ _ _ _ _ hx]; rfl
      have y1 : wr.cell? ⟨w.heap.size, 1, none⟩ = some (.int .i64 p) := by rw [cell_of_row _ _ _ _ _ _ hx]; rfl
      have y2 : wr.cell? ⟨w.heap.size, 2, none⟩ = some (.int .i64 b) := by rw [cell_of_row _ _ _ _ _ _ hx]; rfl
      have HB4 := toHid hb0
      clear ho hbel hb0 HRD HSS HDK HTB hx
      go_wp2_with fail
      refine HTW.out.mono ?_
      rintro e w4 ⟨lt, cp, rfl, hto, hb4⟩
      have HTO : Hid (TabO w.heap.size w4 lt cp T) := ⟨hto.1, ownsRow_base hto.2 HB4.out.size⟩
      have HB5 := toHid (HB4.out.trans (hb4.mono HB4.out.size))
      clear hto hb4
      go_wp2
      go_ret2
      exact ⟨lt, cp, rfl, HTO.out, HB5.out⟩
end Go.Proofs.Ytncjnjlakhohgaa
