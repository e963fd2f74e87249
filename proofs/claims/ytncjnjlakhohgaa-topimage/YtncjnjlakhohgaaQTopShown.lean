/-
What is shown of an image's sector, and whether a text is among those that may be (TopImage's helpers).
-/
import Derived.Test.YtncjnjlakhohgaaQTopPlain2
import Derived.Test.YtncjnjlakhohgaaQImgRead
import Derived.Test.YtncjnjlakhohgaaQImgCreate
namespace Go.Proofs.Ytncjnjlakhohgaa
open Go.RowKit Go.Maps
attribute [local go_sem ↓] Go.wp_at_zero Go.wp_at_succ

theorem place_len {d : DV} {a n : Nat} (h : ∀ j, j < n → (d.seen.getD (a + j) []).length = 16) : ∀ k, k ≤ n → (placeL d a k).length = 16 * k := by
  intro k
  induction k with
  | zero => intro _; rfl
  | succ k ih =>
    intro hk
    show (placeL d a k ++ d.seen.getD (a + k) []).length = _
    rw [List.length_append, ih (by omega), h k (by omega)]; omega

theorem place_chunk {d : DV} {a n : Nat} (h : ∀ j, j < n → (d.seen.getD (a + j) []).length = 16) : ∀ k, k ≤ n → ∀ r, r < k → ((placeL d a k).drop (r * 16)).take 16 = d.seen.getD (a + r) [] := by
  intro k
  induction k with
  | zero => intro _ r hr; omega
  | succ k ih =>
    intro hk r hr
    have hl := place_len h k (by omega)
    show ((placeL d a k ++ d.seen.getD (a + k) []).drop (r * 16)).take 16 = _
    rw [List.drop_append_of_le_length (by omega)]
    by_cases e : r = k
    · subst e
      rw [List.drop_eq_nil_of_le (by omega), List.nil_append, List.take_of_length_le (by rw [h r (by omega)]; omega)]
    · rw [List.take_append_of_le_length (by rw [List.length_drop]; omega)]
      exact ih (by omega) r (by omega)

theorem shown_cut (v : IV) {m : Nat} (hok : v.ok m) {k : Nat} (hk : k < 4 * v.t.length) (hne : (v.t.getD (k / 4) (0, 0)).1 ≠ 0) :
    (bytesOf (v.readS ((k / 4 : Nat) : Int))).size = 64 ∧ (bytesOf (v.readS ((k / 4 : Nat) : Int))).extract (16 * (k % 4)) (16 * (k % 4) + 16) = bytesOf (v.sh k) := by
  have hth : v.there ((k / 4 : Nat) : Int) = true := decide_eq_true ⟨by omega, by omega⟩
  have hent : v.ent ((k / 4 : Nat) : Int) = v.t.getD (k / 4) (0, 0) := rfl
  have hex : ∀ (l x : List UInt8), (l.drop (k % 4 * 16)).take 16 = x → (bytesOf l).extract (16 * (k % 4)) (16 * (k % 4) + 16) = bytesOf x := fun l x hx => by
    have h1 := extract_chunk (bytesOf l) (k % 4)
    rw [show k % 4 * 16 = 16 * (k % 4) by omega, show (k % 4 + 1) * 16 = 16 * (k % 4) + 16 by omega] at h1
    have h2 : chunk (bytesOf l) (k % 4) = x := by unfold chunk; rw [← hx]; rfl
    rw [← bytesOf_data ((bytesOf l).extract (16 * (k % 4)) (16 * (k % 4) + 16)), h1, h2]
  unfold IV.readS
  rw [if_pos hth, hent]
  unfold IV.sh
  by_cases h2 : (v.t.getD (k / 4) (0, 0)).1 = 2
  · rw [if_pos h2, if_pos h2]
    obtain ⟨p0, p1, p2⟩ := hok.place hth (by rw [hent]; exact h2)
    rw [hent] at p0 p1 p2
    have hl : ∀ j, j < 4 → (v.d.seen.getD (beginN v.h (v.t.getD (k / 4) (0, 0)).2.toNat + j) []).length = 16 := fun j hj => by
      have hx : beginN v.h (v.t.getD (k / 4) (0, 0)).2.toNat + j < v.d.seen.length := by have := hok.d.ok.same; omega
      rw [List.getD_eq_getElem?_getD, List.getElem?_eq_getElem hx]; exact hok.d.ok.l2 _ (List.getElem_mem hx)
    refine ⟨?_, hex _ _ (place_chunk hl 4 (Nat.le_refl _) (k % 4) (by omega))⟩
    show (placeL v.d _ 4).toArray.size = 64
    rw [List.size_toArray, place_len hl 4 (Nat.le_refl _)]
  · have hb := entB_of (hok.ents _ (getD_mem (show k / 4 < v.t.length by omega)))
    have h1 : (v.t.getD (k / 4) (0, 0)).1 = 1 := by omega
    rw [if_neg h2, if_neg h2, if_pos h1, if_pos h1]
    refine ⟨by decide, hex _ _ ?_⟩
    have : k % 4 = 0 ∨ k % 4 = 1 ∨ k % 4 = 2 ∨ k % 4 = 3 := by omega
    rcases this with e | e | e | e <;> rw [e] <;> decide

theorem shown_no (v : IV) {k : Nat} (he : (v.t.getD (k / 4) (0, 0)).1 = 0) : v.sh k = [45] := by
  unfold IV.sh
  rw [if_neg (by omega), if_neg (by omega)]

set_option maxRecDepth 100000 in
set_option maxHeartbeats 1000000 in
theorem shown_any {B m : Nat} {x : Ih} {v : IV} (k : Nat) (w : World) (h : IsImg B w x v) (hok : v.ok m) (hk : k < 4 * v.t.length) (h48 : k < 1000) :
    Calls Try.prog 62 #[.pointer (some ⟨x.p, 0, none⟩), .int .i64 (k : Int)] w fun e w' => e = .returned (.string (bytesOf (v.sh k))) ∧ Below w.heap.size w w' := by
  have hth : v.there ((k / 4 : Nat) : Int) = true := decide_eq_true ⟨by omega, by omega⟩
  have hent : v.ent ((k / 4 : Nat) : Int) = v.t.getD (k / 4) (0, 0) := rfl
  have hkk : ((k / 4 : Nat) : Int) = (k : Int) / 4 := by omega
  have hrd := read_img ((k / 4 : Nat) : Int) w h hok
  by_cases he : (v.t.getD (k / 4) (0, 0)).1 = 0
  · have hF : v.readF ((k / 4 : Nat) : Int) = 4 := by unfold IV.readF; rw [if_pos hth, hent, if_pos he]
    rw [hF, show erV 4 = .iface 112 (.int .i64 4) from rfl, hkk] at hrd
    have HRD := toHid hrd
    rw [shown_no v he]
    have HB0 : Hid (bytesOf [45] = ⟨#[45]⟩) := rfl
    clear h hok hth hent hkk hrd he hF
    generalize (⟨(v.readS ((k : Int) / 4)).toArray⟩ : ByteArray) = S at HRD
    go_enter Try.func62, Try.ntmps62
    go_wp2_with fail
    refine HRD.out.mono ?_
    rintro e w1 ⟨rfl, hb1⟩
    go_wp2
    go_ret
    exact ⟨rfl, hb1⟩
  · have hF : v.readF ((k / 4 : Nat) : Int) = 0 := by unfold IV.readF; rw [if_pos hth, hent, if_neg he]
    obtain ⟨hsz, hcut⟩ := shown_cut v hok hk he
    have hrd2 : Calls Try.prog 91 #[.pointer (some ⟨x.p, 0, none⟩), .int .i64 ((k : Int) / 4)] w fun e w' => e = .returned (.tuple #[.string (bytesOf (v.readS ((k / 4 : Nat) : Int))), .nilIface]) ∧ Below w.heap.size w w' := by
      rw [hF, erV_0] at hrd
      rw [← hkk]
      exact hrd
    have HRD := toHid hrd2
    have HCUT := toHid hcut
    clear h hok hth hent hkk hrd hrd2 he hF hcut
    generalize bytesOf (v.readS ((k / 4 : Nat) : Int)) = S at HRD HCUT hsz
    generalize bytesOf (v.sh k) = R at HCUT ⊢
    obtain ⟨r, hr⟩ : ∃ r : Nat, r = k % 4 := ⟨_, rfl⟩
    rw [← hr] at HCUT
    have e4 : (k : Int) % 4 = (r : Int) := by omega
    have hr4 : r < 4 := by omega
    have g64 : ((S.size : Int) != 64) = false := by rw [hsz]; rfl
    have k2 : 16 * (r : Int) + 16 ≤ (S.size : Int) := by omega
    have k3 : (0 : Int) ≤ 16 * (r : Int) := by omega
    have k4 : (0 : Int) ≤ 16 * (r : Int) + 16 := by omega
    have k5 : (16 * (r : Int)).toNat = 16 * r := by omega
    have k6 : (16 * (r : Int) + 16).toNat = 16 * r + 16 := by omega
    have k7 : IntKind.i64.wrap (16 * (r : Int)) = 16 * (r : Int) := IntWalk.i64_in _ (by omega)
    have k9 : IntKind.i64.wrap (16 * (r : Int) + 16) = 16 * (r : Int) + 16 := IntWalk.i64_in _ (by omega)
    have k11 : 16 * (r : Int) ≤ 16 * (r : Int) + 16 := by omega
    clear hr hsz hk
    go_enter Try.func62, Try.ntmps62
    go_wp2_with fail
    refine HRD.out.mono ?_
    rintro e w1 ⟨rfl, hb1⟩
    go_wp2
    go_ret
    exact ⟨by rw [← HCUT.out]; rfl, hb1⟩

set_option maxRecDepth 100000 in
set_option maxHeartbeats 1000000 in
theorem worth_has {B : Nat} {vs : Value} {l : List (List UInt8)} (s : List UInt8) (w : World) (ho : w.ownsRow B 9 1 vs l.length (flS l)) (hs : s ∈ l) (hl : l.length ≤ 1000) :
    Calls Try.prog 64 #[vs, .string (bytesOf s)] w fun e w' => e = .returned (.bool true) ∧ w' = w := by
  obtain ⟨i0, hi0, hget⟩ := List.getElem_of_mem hs
  have HG : Hid (l.getD i0 [] = s) := by unfold Hid; rw [List.getD_eq_getElem?_getD, List.getElem?_eq_getElem hi0]; exact hget
  obtain ⟨a, cap, hsh⟩ := ownsRow_shape ho
  have HC : Hid (∀ k, k < l.length → ∃ g, a = some ⟨g, 0, none⟩ ∧ w.cell? ⟨g, k, none⟩ = some (.string (bytesOf (l.getD k [])))) := fun k hk => by
    obtain ⟨g, cap2, h1, h2, _⟩ := ownsRow_cell ho k hk
    rw [hsh] at h1
    cases h1
    exact ⟨g, rfl, by rw [h2, flS_at l k hk]⟩
  subst hsh
  clear ho hs hget
  generalize l.length = n at HC hi0 hl ⊢
  go_enter Try.func64, Try.ntmps64
  go_wp2
  go_loopw [5] (fun i wr => ∃ k : Nat, k ≤ i0 ∧ i = .int .i64 k ∧ Hid (wr = w)) (fun i _ => n - (intOf i).toNat)
  case atStart => exact ⟨0, Nat.zero_le _, rfl, rfl⟩
  case round =>
    obtain ⟨k, hk, rfl, HW⟩ := hrel
    have hkn : k < n := by omega
    obtain ⟨g, rfl, hc0⟩ := HC.out k hkn
    obtain ⟨t, HT⟩ : ∃ t, Hid (t = bytesOf (l.getD k [])) := ⟨_, rfl⟩
    have hc : wr.cell? ⟨g, k, none⟩ = some (.string t) := by rw [HW.out, HT.out]; exact hc0
    clear hc0
    have k0 : (0 : Int) ≤ (k : Int) := by omega
    have k1 : (k : Int) < (n : Int) := by omega
    obtain ⟨u, HU⟩ : ∃ u, Hid (u = bytesOf s) := ⟨_, rfl⟩
    rw [← HU.out]
    cases hq : (t.toList == u.toList) with
    | true =>
      go_wp2
      go_ret
      exact ⟨rfl, HW.out⟩
    | false =>
      have hne : k ≠ i0 := fun e => by
        rw [HT.out, HU.out, e, HG.out] at hq
        simp at hq
      go_wp2
      go_roundw
      case rel =>
        have fin : ∃ k' : Nat, k' ≤ i0 ∧ Value.int .i64 ((k : Int) + 1) = .int .i64 k' ∧ Hid (wr = w) := ⟨k + 1, by omega, by go_num, HW.out⟩
        first | exact fin | ((repeat apply Exists.intro); exact ⟨fin, rfl⟩)
      case measure => simp [intOf]; omega
end Go.Proofs.Ytncjnjlakhohgaa
