/-
Whatever the texts and the text behind them: SumSays answers true (A1); its arguments stay. No condition.
-/
import Derived.Test.YtlfecjgmmhbanaaQSumLaws
import Derived.Laws.AppendOwnNone
import Derived.ProofKit
import Derived.OpenShut
import Derived.ShutString
import Derived.SliceStrings
namespace Go.Proofs.Ytlfecjgmmhbanaa.sumSays
open Go.ChangeShapes Go.WideShapes Go.ChangeAt Go.RowKit
open Go.ChangeMaps (open_string shut_string)

theorem wpList_append_run {P : Program} {w w' : World} {ops : Array Oper} {rest : List Oper} {o : Oper} {a : Act} {Q : Exit → Act → World → Prop} (hgd : o.guard = none) (s x : Operand) (t ty : TypeId)
    (ho : o.op = .call { callee := .builtin .append, args := #[s, x], argTypes := #[t, t] }) (hty : o.type = ty) {v xv v' : Value} (hs : a.eval s = v) (hx : a.eval x = xv)
    (hr : (Builtin.append_ #[t, t] ty #[v, xv]).run P w = .ok v' w') (h : wpList P ops Q rest (a.put o.dst v') w') : wpList P ops Q (o :: rest) a w := by
  refine wpList_plain hgd fun K hK => ?_
  unfold Oper.wp execOp
  simp only [ho, resolve, invoke, builtin, Sem.run_bind, Sem.run_pure, Result.andThen_ok, List.map_toArray, List.map_cons, List.map_nil, hs, hx, hty, hr]
  exact hK _ _ h

theorem info_string : (Try.prog.info? 9).map (fun i => (i.zero, i.size, i.bytes)) = some (some (.string ⟨#[]⟩), 1, 16) := by kernel_rfl

def mark : ByteArray := ⟨#[109, 97, 114, 107]⟩

theorem own_run (ws : World) (la : Option Addr) (len cap : Nat) (ls : List ByteArray) (hT : Texts ws la len ls) (hnil : la = none → cap = 0) (h20 : len ≤ 20) :
    ∃ v1 w1 g cap2 w2, (Builtin.append_ #[22, 22] 22 #[.slice none 0 0, .slice la len cap]).run Try.prog ws = .ok v1 w1 ∧
      (Builtin.append_ #[22, 22] 22 #[v1, .slice (some ⟨w1.heap.size, 0, none⟩) 1 1]).run Try.prog (w1.alloc (.cells #[.string ⟨#[109, 97, 114, 107]⟩] 9)) = .ok (.slice (some ⟨g, 0, none⟩) (len + 1) cap2) w2 ∧
      Below ws.heap.size ws w2 ∧ len + 1 ≤ cap2 ∧ cap2 ≤ maxLen ∧ ws.heap.size ≤ g ∧ ∀ k, k < len → w2.cell? ⟨g, k, none⟩ = some (.string (ls.getD k ByteArray.empty)) := by
  obtain ⟨i0, hi, hz0, hz1, hz2⟩ := info_parts info_string
  have hlen := hT.1
  have h1 : ∃ v1 w1, (Builtin.append_ #[22, 22] 22 #[.slice none 0 0, .slice la len cap]).run Try.prog ws = .ok v1 w1 ∧ w1.ownsRow ws.heap.size 9 1 v1 len (ls.map .string) ∧ ws.grownBy w1 none := by
    cases la with
    | none =>
      have hl0 : len = 0 := by
        by_cases h : 0 < len
        · obtain ⟨b, off, e, _⟩ := hT.2 0 h
          cases e
        · omega
      subst hl0
      have : ls = [] := List.length_eq_zero_iff.1 hlen
      subst this
      rw [hnil rfl]
      exact ⟨_, _, run_append_owned_none (P := Try.prog) ws ws.heap.size 22 22 9 i0 1 Try.underlying22 hi _ 0 [] (World.ownsRow_nil _ _ _ _), World.ownsRow_nil _ _ _ _, ⟨rfl, rfl, rfl, Nat.le_refl _, fun _ _ _ => rfl⟩⟩
    | some a =>
      obtain ⟨v1, w1, hr, ho, hg, _⟩ := run_append_own (P := Try.prog) ws ws.heap.size 22 22 9 i0 (.string ⟨#[]⟩) 1 16 Try.underlying22 hi hz0 hz1 hz2 rfl (by decide) (.slice none 0 0) 0 [] (World.ownsRow_nil _ _ _ _) a len cap (ls.map .string) (by simp [hlen]) (fun j u hj => by
        have hjl : j < ls.length := by
          rcases Nat.lt_or_ge j ls.length with h | h
          · exact h
          · simp [List.getElem?_eq_none (show (ls.map Value.string).length ≤ j by simpa using h)] at hj
        obtain ⟨b, off, e, hc, _⟩ := hT.2 j (by omega)
        cases e
        rw [Go.WideShapes.add_plain, hc]
        simp [List.getElem?_eq_getElem hjl] at hj
        subst hj
        simp [List.getD, List.getElem?_eq_getElem hjl]) (fun u hu => by
        obtain ⟨s, _, rfl⟩ := List.mem_map.1 hu
        rfl) (by unfold maxLen; omega) (by omega) (Nat.le_refl _)
      exact ⟨v1, w1, hr, by simpa using ho, hg⟩
  obtain ⟨v1, w1, hr1, ho1, hg1⟩ := h1
  obtain ⟨v2, w2, hr2, ho2, hg2, hn2⟩ := run_append_own (P := Try.prog) (w1.alloc (.cells #[.string ⟨#[109, 97, 114, 107]⟩] 9)) ws.heap.size 22 22 9 i0 (.string ⟨#[]⟩) 1 16 Try.underlying22 hi hz0 hz1 hz2 rfl (by decide) v1 len (ls.map .string) (ho1.alloc _) ⟨w1.heap.size, 0, none⟩ 1 1 [.string ⟨#[109, 97, 114, 107]⟩] rfl (cell_one_new _ _ _) (fun u hu => by simp at hu; subst hu; rfl) (by unfold maxLen; omega) (by omega) (by have := hg1.size; simp; omega)
  have hb1 : Below ws.heap.size ws w1 := (Below.refl _ _).grown hg1 (Nat.le_refl _) (fun k e => by cases e)
  have hb2 : Below ws.heap.size ws w2 := (hb1.alloc hg1.size _).grown hg2 (by have := hg1.size; simp; omega) (fun k e => (ho1.lt k e).1)
  rcases ho2.2 with ⟨_, h0⟩ | ⟨g, cap2, cur, hv, hbg, hh, hnc, hcm, hcs, htk⟩
  · omega
  · subst hv
    refine ⟨v1, w1, g, cap2, w2, hr1, hr2, hb2, hnc, hcm, hbg, fun k hk => ?_⟩
    rw [ho2.cellAt k (by omega)]
    have hkl : k < ls.length := by omega
    simp [List.getElem?_append_left (show k < (ls.map Value.string).length by simpa using hkl), List.getD, List.getElem?_eq_getElem hkl]

theorem four_at (s k : Nat) (hs : s < 4294967296) (hk : k < 4) (h : k < (four s).size) : (((four s)[k]'h).toNat : Int) = ((s / 256 ^ k % 256 : Nat) : Int) := by
  match k, hk with
  | 0, _ => show ((UInt8.ofNat ((s : Int) % 256).toNat).toNat : Int) = _; rw [UInt8.toNat_ofNat']; omega
  | 1, _ => show ((UInt8.ofNat ((s : Int) / 256 % 256).toNat).toNat : Int) = _; rw [UInt8.toNat_ofNat']; omega
  | 2, _ => show ((UInt8.ofNat ((s : Int) / 65536 % 256).toNat).toNat : Int) = _; rw [UInt8.toNat_ofNat']; omega
  | 3, _ => show ((UInt8.ofNat ((s : Int) / 16777216).toNat).toNat : Int) = _; rw [UInt8.toNat_ofNat']; omega

theorem four_size (s : Nat) : (four s).size = 4 := rfl

def flatB (ls : List ByteArray) : ByteArray := ⟨(flat ls).toArray⟩

theorem flatB_size (ls : List ByteArray) : (flatB ls).size = (flat ls).length := by simp [flatB, ByteArray.size]

theorem flatB_snoc (ls : List ByteArray) (k : Nat) (h : k < ls.length) : flatB (ls.take k) ++ ls.getD k ByteArray.empty = flatB (ls.take (k + 1)) := by
  rw [take_getD ls k h]
  apply ByteArray.ext
  simp [flatB, flat_snoc]

theorem flat_take_length (ls : List ByteArray) (k : Nat) (h : ∀ j, j < ls.length → (ls.getD j ByteArray.empty).size ≤ 500) (hk : k ≤ ls.length) : (flat (ls.take k)).length ≤ 500 * k := by
  induction k with
  | zero => simp [flat]
  | succ k ih =>
    rw [take_getD ls k (by omega), flat_snoc, List.length_append]
    have h1 := ih (by omega)
    have h2 := h k (by omega)
    have h3 : (ls.getD k ByteArray.empty).data.toList.length = (ls.getD k ByteArray.empty).size := by simp
    omega

theorem str_eq {a b : ByteArray} (h : a = b) : Value.string a = Value.string b := by rw [h]

set_option maxRecDepth 100000 in
set_option maxHeartbeats 1000000 in
theorem walkMain (la : Option Addr) (len cap : Nat) (ls : List ByteArray) (t : ByteArray) (w : World) (hT : Texts w la len ls) (hnil : la = none → cap = 0) (h20 : len ≤ 20) (hall : ∀ j, j < ls.length → (ls.getD j ByteArray.empty).size ≤ 500) (ht : t.size ≤ 500) :
    Calls Try.prog 3 #[.slice la len cap, .string t] w fun e w' => e = .returned (.bool true) ∧ Below w.heap.size w w' := by
  have g1 : decide (500 < (t.size : Int)) = false := by simp; omega
  have hfb : fewB ls = true := by
    unfold fewB
    simp only [decide_eq_true_eq]
    exact ⟨by have := hT.1; omega, hall⟩
  have hlen : ls.length = len := hT.1
  have HB : Hid (fewB ls = true) := hfb
  have HT0 : Hid (Texts w la len ls) := hT
  have HA : Hid (∀ j, j < ls.length → (ls.getD j ByteArray.empty).size ≤ 500) := hall
  have HN : Hid (la = none → cap = 0) := hnil
  have HL : Hid (ls.length = len) := hlen
  clear hT hall hnil hfb hlen
  go_enter Try.func3, Try.ntmps3
  go_wp2_with fail
  refine (sums_any w).mono ?_
  rintro e ws ⟨rfl, hbel⟩
  have HT : Hid (Texts ws la len ls) := HT0.out.below hbel
  clear HT0
  go_wp2_with fail
  refine (few_any la len cap ls ws HT.out (by unfold maxLen; omega)).mono ?_
  rintro e w' ⟨he, hw⟩
  have hw' := hw.symm
  subst hw'
  clear hw
  rw [HB.out] at he
  subst he
  clear HB
  go_wp2_with fail
  go_loop [6, 7] (fun x i => ∃ k : Nat, k ≤ len ∧ i = .int .i64 k ∧ x = .string (flatB (ls.take k))) (fun _ i => len - (intOf i).toNat)
  case atStart => exact ⟨0, Nat.zero_le _, rfl, rfl⟩
  case round =>
    obtain ⟨k, hk, rfl, rfl⟩ := hrel
    have hfl := flat_take_length ls k HA.out (by rw [HL.out]; exact hk)
    have hsz1 := flatB_size (ls.take k)
    by_cases hlt : k < len
    · have HC : Hid (flatB (ls.take k) ++ ls.getD k ByteArray.empty = flatB (ls.take (k + 1))) := flatB_snoc ls k (by rw [HL.out]; exact hlt)
      have hsz2 := HA.out k (by rw [HL.out]; exact hlt)
      obtain ⟨b, off, rfl, hcell, hsz⟩ := HT.out.2 k hlt
      clear hsz
      have hszA : (flatB (ls.take k)).size ≤ 10000 := by omega
      clear hfl hsz1
      generalize ls.getD k ByteArray.empty = s at HC hsz2 hcell
      generalize flatB (ls.take k) = A at HC hszA ⊢
      go_wp2
      go_round
      case rel => exact ⟨k + 1, by omega, by go_num, str_eq HC.out⟩
      case measure => simp [intOf]; omega
    · have hkl : k = len := by omega
      subst hkl
      have htake : ls.take k = ls := List.take_of_length_le (by have := HL.out; omega)
      rw [htake] at hfl hsz1 ⊢
      clear htake
      obtain ⟨v1, w1, g, cap2, w2, hr1, hr2, hbel2, hcap, hcapm, hg, hcells⟩ := own_run ws la k cap ls HT.out HN.out h20
      unfold maxLen at hcapm
      have HC2 : Hid (∀ j, j < k → w2.cell? ⟨g, j, none⟩ = some (.string (ls.getD j ByteArray.empty))) := hcells
      have HB2 : Hid (Below ws.heap.size ws w2) := hbel2
      have HB1 : Hid (Below w.heap.size w ws) := hbel
      have HD : Hid ((flatB ls).data.toList = flat ls) := by unfold Hid flatB; simp
      have hszA : (flatB ls).size ≤ 10000 := by omega
      have HR1 : Hid ((Builtin.append_ #[22, 22] 22 #[.slice none 0 0, .slice la k cap]).run Try.prog ws = .ok v1 w1) := hr1
      have HR2 : Hid ((Builtin.append_ #[22, 22] 22 #[v1, .slice (some ⟨w1.heap.size, 0, none⟩) 1 1]).run Try.prog (w1.alloc (.cells #[.string ⟨#[109, 97, 114, 107]⟩] 9)) = .ok (.slice (some ⟨g, 0, none⟩) (k + 1) cap2) w2) := hr2
      clear hcells hbel2 hbel hfl hsz1 hr1 hr2
      go_wp2_with (first | (at_builtin; refine wpList_append_run rfl _ _ 22 22 rfl rfl rfl rfl HR1.out ?_) | (at_builtin; refine wpList_append_run rfl _ _ 22 22 rfl rfl rfl rfl HR2.out ?_))
      clear HR1 HR2
      refine (ref_any (flatB ls) _ (by omega)).mono ?_
      rintro e w' ⟨he, hw⟩
      have hw' := hw.symm
      subst hw'
      clear hw
      rw [HD.out] at he
      subst he
      have htl := Crc.total_lt (flat ls)
      go_wp2_with fail
      refine (bytes_any (Crc.total (flat ls)) _ htl).mono ?_
      rintro e w3 ⟨he, hb3⟩
      subst he
      have hfs := four_size (Crc.total (flat ls))
      go_wp2_with fail
      go_loop [11, 12] (fun n i => ∃ j : Nat, j ≤ 4 ∧ i = .int .i64 ((j : Int) - 1) ∧ n = .int .u32 ((Crc.total (flat ls) / 256 ^ j : Nat) : Int)) (fun _ i => (intOf i + 1).toNat)
      case atStart => exact ⟨4, by omega, rfl, int_u32 (by omega)⟩
      case round =>
        obtain ⟨j, hj, rfl, rfl⟩ := hrel
        cases j with
        | succ m =>
          have e1 : (((m + 1 : Nat) : Int) - 1) = (m : Int) := by omega
          rw [e1]
          clear e1
          have hm4 : m < (four (Crc.total (flat ls))).size := by omega
          have hat := four_at (Crc.total (flat ls)) m htl (by omega) hm4
          have hq : Crc.total (flat ls) / 256 ^ (m + 1) * 256 + Crc.total (flat ls) / 256 ^ m % 256 = Crc.total (flat ls) / 256 ^ m := by
            rw [Nat.pow_succ, ← Nat.div_div_eq_div_mul]; omega
          have hq2 : Crc.total (flat ls) / 256 ^ m ≤ Crc.total (flat ls) := Nat.div_le_self _ _
          have HQ : Hid (((Crc.total (flat ls) / 256 ^ (m + 1) : Nat) : Int) * 256 + ((Crc.total (flat ls) / 256 ^ m % 256 : Nat) : Int) = ((Crc.total (flat ls) / 256 ^ m : Nat) : Int)) := by unfold Hid; omega
          have hb1 : Crc.total (flat ls) / 256 ^ (m + 1) * 256 + Crc.total (flat ls) / 256 ^ m % 256 ≤ 4294967295 := by omega
          clear hq hq2
          have hb2 : Crc.total (flat ls) / 256 ^ m % 256 < 256 := by omega
          generalize Crc.total (flat ls) / 256 ^ (m + 1) = q at hb1 HQ ⊢
          generalize Crc.total (flat ls) / 256 ^ m % 256 = r at hb1 hb2 HQ hat
          go_wp2
          go_round
          case rel => exact ⟨m, by omega, rfl, int_u32 HQ.out⟩
          case measure => simp [intOf]
        | zero =>
          have HB3 : Hid (Below w2.heap.size w2 w3) := hb3
          have hcell3 : ∀ j, j < k → w3.cell? ⟨g, j, none⟩ = some (.string (ls.getD j ByteArray.empty)) := fun j hj => by
            have := HC2.out j hj
            rw [hb3.cell (World.block_lt_of_cell? w2 _ this)]; exact this
          have hT3 : Texts w3 la k ls := HT.out.below (HB2.out.trans (hb3.mono HB2.out.size))
          have hof := of_any ls g 0 cap2 w3 (by have := HL.out; omega) (fun j hj => by
            have := HA.out j hj
            unfold maxLen; omega) (fun j hj => by
            rw [Nat.zero_add]; exact hcell3 j (by have := HL.out; omega))
          rw [HL.out] at hof
          have hsame := sameTexts_any g cap2 la k cap ls w3 hT3 (by unfold maxLen; omega) hcell3
          have HO : Hid (Calls Try.prog 15 #[.slice (some ⟨g, 0, none⟩) k cap2] w3 fun e w' => e = .returned (.int .u32 (Crc.total (flat ls))) ∧ w' = w3) := hof
          have HSm : Hid (Calls Try.prog 17 #[.slice (some ⟨g, 0, none⟩) k cap2, .slice la k cap] w3 fun e w' => e = .returned (.bool true) ∧ Below w3.heap.size w3 w') := hsame
          have HD2 : Hid ((flatB ls ++ t).data.toList = flat ls ++ t.data.toList) := by unfold Hid flatB; simp
          have hmor : (((Crc.more (Crc.total (flat ls)) t.data.toList : Nat) : Int) == ((Crc.total (flat ls ++ t.data.toList) : Nat) : Int)) = true := by
            rw [Crc.more_total]; exact beq_self_eq_true _
          have hszB : (flatB ls ++ t).size ≤ 10500 := by rw [ByteArray.size_append]; omega
          clear hcell3 hT3 hof hsame hb3
          go_wp2_with fail
          refine HO.out.mono ?_
          rintro e w' ⟨rfl, hw⟩
          have hw' := hw.symm
          subst hw'
          clear hw
          go_wp2_with fail
          refine (more_any _ _ _ htl (by unfold maxLen; omega)).mono ?_
          rintro e w' ⟨rfl, hw⟩
          have hw' := hw.symm
          subst hw'
          clear hw
          go_wp2_with fail
          refine (ref_any _ _ (by omega)).mono ?_
          rintro e w' ⟨he, hw⟩
          have hw' := hw.symm
          subst hw'
          clear hw
          rw [HD2.out] at he
          subst he
          go_wp2_with fail
          refine HSm.out.mono ?_
          rintro e w4 ⟨rfl, hb4⟩
          go_wp2
          go_ret
          exact ⟨rfl, HB1.out.trans ((HB2.out.trans ((HB3.out.trans (hb4.mono HB3.out.size)).mono HB2.out.size)).mono HB1.out.size)⟩

set_option maxRecDepth 100000 in
set_option maxHeartbeats 400000 in
theorem walkNone (la : Option Addr) (len cap : Nat) (ls : List ByteArray) (t : ByteArray) (w : World) (hT : Texts w la len ls) (hlen : len ≤ maxLen) (hf : fewB ls = false) :
    Calls Try.prog 3 #[.slice la len cap, .string t] w fun e w' => e = .returned (.bool true) ∧ Below w.heap.size w w' := by
  have HB : Hid (fewB ls = false) := hf
  have HT0 : Hid (Texts w la len ls) := hT
  clear hT hf
  go_enter Try.func3, Try.ntmps3
  go_wp2_with fail
  refine (sums_any w).mono ?_
  rintro e ws ⟨rfl, hbel⟩
  have HT : Hid (Texts ws la len ls) := HT0.out.below hbel
  clear HT0
  go_wp2_with fail
  refine (few_any la len cap ls ws HT.out hlen).mono ?_
  rintro e w' ⟨he, hw⟩
  have hw' := hw.symm
  subst hw'
  clear hw
  rw [HB.out] at he
  subst he
  go_wp2
  go_ret
  exact ⟨rfl, hbel⟩

set_option maxRecDepth 100000 in
set_option maxHeartbeats 400000 in
theorem walkLong (la : Option Addr) (len cap : Nat) (ls : List ByteArray) (t : ByteArray) (w : World) (hT : Texts w la len ls) (hlen : len ≤ maxLen) (hf : fewB ls = true) (ht : 500 < t.size) :
    Calls Try.prog 3 #[.slice la len cap, .string t] w fun e w' => e = .returned (.bool true) ∧ Below w.heap.size w w' := by
  have g1 : decide (500 < (t.size : Int)) = true := by simp; omega
  have HB : Hid (fewB ls = true) := hf
  have HT0 : Hid (Texts w la len ls) := hT
  clear hT hf
  go_enter Try.func3, Try.ntmps3
  go_wp2_with fail
  refine (sums_any w).mono ?_
  rintro e ws ⟨rfl, hbel⟩
  have HT : Hid (Texts ws la len ls) := HT0.out.below hbel
  clear HT0
  go_wp2_with fail
  refine (few_any la len cap ls ws HT.out hlen).mono ?_
  rintro e w' ⟨he, hw⟩
  have hw' := hw.symm
  subst hw'
  clear hw
  rw [HB.out] at he
  subst he
  go_wp2
  go_ret
  exact ⟨rfl, hbel⟩

theorem walk (la : Option Addr) (len cap : Nat) (ls : List ByteArray) (t : ByteArray) (w : World) (hT : Texts w la len ls) (hnil : la = none → cap = 0) (hlen : len ≤ maxLen) :
    Calls Try.prog 3 #[.slice la len cap, .string t] w fun e w' => e = .returned (.bool true) ∧ Below w.heap.size w w' := by
  cases hf : fewB ls with
  | false => exact walkNone la len cap ls t w hT hlen hf
  | true =>
    by_cases ht : 500 < t.size
    · exact walkLong la len cap ls t w hT hlen hf ht
    · have hf' := hf
      unfold fewB at hf'
      simp only [decide_eq_true_eq] at hf'
      exact walkMain la len cap ls t w hT hnil (by have := hT.1; omega) hf'.2 (by omega)

theorem own : ownKnob Try.prog.godebug = none := by kernel_rfl
theorem laidOut : laidOutB Try.prog = true := by kernel_rfl

theorem texts_at {w : World} {a : Addr} {ss : List ByteArray} (h : ∀ i, i < ss.length → w.cell? (a.add i) = some (.string (ss.getD i ByteArray.empty))) (hp : 0 < ss.length) :
    ∃ b off, a = ⟨b, off, none⟩ ∧ ∀ j, j < ss.length → w.cell? ⟨b, off + j, none⟩ = some (.string (ss.getD j ByteArray.empty)) := by
  obtain ⟨b, off, spot⟩ := a
  have hspot : spot = none := by simpa [Addr.add] using World.cell?_spot (h 0 hp)
  subst hspot
  exact ⟨b, off, rfl, fun j hj => by rw [← Go.WideShapes.add_plain]; exact h j hj⟩

set_option maxRecDepth 100000 in
theorem lifted (os : Os) (started : os.Started) (H : Type) (enc : TypeId × Value → H) :
    ReturnsInHanded {} Try.checked os 3 .any (Rows.sumSaysSpec.pre6 enc Try.prog Try.f3 Rows.sumSaysRow.domain false) (Rows.sumSaysSpec.post enc Try.prog Try.f3 false true false false) := by
  refine returnsInHanded_of_change (C := Try.checked) own started (by kernel_rfl) Try.func3
    (ChangeSpec.witness6 (enc := enc) (C := Try.checked) false ⟨#[], #[.slice none 0 0, .string ByteArray.empty], []⟩ 8 (by kernel_rfl) (by kernel_rfl) (by kernel_rfl) (by kernel_rfl)) ?_
  intro W base args ds gs before hval0 hW hcnd _
  have hval : ∀ (j : Nat) t v, Try.f3.params[j]? = some t → args[j]? = some v → Value.okWide Try.prog W .any base t v := hval0
  have hW' := hW
  obtain ⟨p, q, hA0, hV, rfl, hfz, hnd⟩ := hW
  have hA : DataW.TrodAll enc Try.prog W 0 (fun _ => true) true Try.f3.params.toList args.toList ds p := hA0
  rw [Try.params3] at hA hval
  obtain ⟨v0, vs0, d0, ds0, p0, q0, hargs, rfl, rfl, h0, r0⟩ := trodAll_cons hA
  obtain ⟨v1, vs1, d1, ds1, p1, q1, rfl, rfl, rfl, h1, r1⟩ := trodAll_cons r0
  obtain ⟨rfl, rfl, rfl⟩ := trodAll_nil r1
  obtain rfl : args = #[v0, v1] := by cases args; simp_all
  obtain ⟨rfl, rfl⟩ := trodVars_none hV
  obtain ⟨la, len, cap, rfl⟩ := okWide_slice Try.underlying22 (hval 0 22 v0 rfl rfl)
  have k0 := h0
  have lt0 : ∀ x ∈ p0, x.block < W.heap.size := by obtain ⟨m, hm⟩ := k0; exact DataW.trod_lt m _ _ _ hm
  obtain ⟨ls, hT, hnil, hlen⟩ : ∃ ls, Texts W la len ls ∧ (la = none → cap = 0) ∧ len ≤ maxLen := by
    obtain ⟨fuel, hf⟩ := h0
    rcases open_strings Try.underlying22 Try.underlying9 (by kernel_rfl) hf with ⟨hcs, _⟩ | ⟨x, l, c, ss, hcs, _, hl, hm, hz, _, hcell, hws⟩
    · simp [Value.cells] at hcs
      obtain ⟨rfl, rfl, rfl⟩ := hcs
      exact ⟨[], ⟨rfl, fun k hk => by omega⟩, fun _ => rfl, by unfold maxLen; omega⟩
    · simp [Value.cells] at hcs
      obtain ⟨rfl, rfl, rfl⟩ := hcs
      have hz' : ss.length = cap := by simpa using hz
      refine ⟨ss.take len, ⟨by rw [List.length_take]; omega, fun k hk => ?_⟩, (fun e => by cases e), by omega⟩
      obtain ⟨b, off, rfl, hc⟩ := texts_at hcell (by omega)
      have hg : (ss.take len).getD k ByteArray.empty = ss.getD k ByteArray.empty := by simp [List.getD, hk]
      refine ⟨b, off, rfl, by rw [hg]; exact hc k (by omega), ?_⟩
      rw [hg]
      have hkl : k < ss.length := by omega
      have : ss.getD k ByteArray.empty = ss[k] := by simp [List.getD, List.getElem?_eq_getElem hkl]
      rw [this]
      exact hws _ (List.getElem_mem hkl)
  obtain ⟨a1, rfl, rfl, rfl, w1⟩ := open_string Try.underlying9 (hval 1 9 v1 rfl rfl) h1
  clear hA0 hval0
  refine (walk la len cap ls a1 W hT hnil hlen).mono fun e W' ⟨he, bel⟩ => ?_
  subst he
  exact ⟨_, rfl, _, _, _, [], _, [], hW', trodAll_mk1 (shut_bool Try.underlying4 _), (trodAll_cons_mk (Below.trod laidOut (by kernel_rfl) (of_decide_eq_true (by kernel_rfl)) k0 bel lt0) (trodAll_cons_mk (shut_string Try.underlying9 w1) trodAll_mk0)), rfl, bel.frame _, fun h => by cases h⟩

theorem over : Rows.sumSaysRow.holds Try.pinned (OpenSpec.ofChange Rows.sumSaysSpec) :=
  OpenClaim.holds_of_wide 3 Try.f3 rfl rfl rfl rfl rfl rfl rfl ⟨rfl, rfl, rfl, rfl, rfl⟩ rfl rfl rfl rfl rfl (by kernel_rfl) Try.func3 (by kernel_rfl)
    (of_decide_eq_true (by kernel_rfl)) (by unfold Func.isWrapper; first | (rw [if_pos (by decide +kernel)]; kernel_rfl) | (rw [if_neg (by decide +kernel)]; exact ⟨rfl, rfl⟩))
    (fun os started H enc _ => lifted os started H enc)
end Go.Proofs.Ytlfecjgmmhbanaa.sumSays

namespace Go.Proofs.Ytlfecjgmmhbanaa
theorem sumSays_holds : Rows.SumSaysSaid := sumSays.over
#print axioms sumSays_holds
end Go.Proofs.Ytlfecjgmmhbanaa
