/-
TopDev: its walk.
-/
import Derived.Test.YtmallmchibdkgaaTopLeft
namespace Go.Proofs.Ytmallmchibdkgaa
open Go.RowKit
attribute [local go_sem ↓] Go.wp_at_zero Go.wp_at_succ

theorem step_append_run {P : Program} {ops : Array Oper} {o : Oper} {a : Act} {w w' : World} {K : Act → World → Prop} {Q : Exit → Act → World → Prop} {E : Prop} (hgd : o.guard = none) (s x : Operand) (t ty : TypeId)
    (ho : o.op = .call { callee := .builtin .append, args := #[s, x], argTypes := #[t, t] }) (hty : o.type = ty) {v xv v' : Value} (hs : a.eval s = v) (hx : a.eval x = xv)
    (hr : (Builtin.append_ #[t, t] ty #[v, xv]).run P w = .ok v' w') (h : K (a.put o.dst v') w') :
    if Region.wanted o (yielded ops a.tmps) = true then Oper.wp P o a w K Q else E := by
  have hw : Region.wanted o (yielded ops a.tmps) = true := by simp [Region.wanted, hgd]
  rw [if_pos hw]
  unfold Oper.wp
  simp only [execOp, ho, resolve, invoke, builtin, Sem.run_bind, Sem.run_pure, Result.andThen_ok, List.map_toArray, List.map_cons, List.map_nil, hs, hx, hty, hr]
  exact h

/- Whether a text was found among the first ones of a row. -/
def foundTo (row : List (List UInt8)) (x : List UInt8) : Nat → Bool
  | 0 => false
  | k + 1 => foundTo row x k || row.getD k [] == x

theorem foundTo_yes {row : List (List UInt8)} {x : List UInt8} (k i : Nat) (hi : i < k) (e : row.getD i [] = x) : foundTo row x k = true := by
  induction k with
  | zero => omega
  | succ k ih =>
    show (foundTo row x k || row.getD k [] == x) = true
    by_cases h : i = k
    · subst h; rw [e]; simp
    · rw [ih (by omega)]; rfl

theorem bytesOf_ne {a b : List UInt8} (h : ¬ a = b) : ((bytesOf a).toList == (bytesOf b).toList) = false := by
  rw [ByteArray.toList_eq, ByteArray.toList_eq]
  exact beq_eq_false_iff_ne.2 (fun e => h (by simpa [bytesOf] using e))

set_option maxRecDepth 100000 in
set_option maxHeartbeats 1000000 in
theorem topEarly (sectors : Int) (la : Option Addr) (len cap : Nat) (xs : List ActV) (ka : Option Addr) (kl kc : Nat) (w : World) (hT : Acts w la len xs) (hlen : len ≤ maxLen) (hf : sectors < 1 ∨ 20 < sectors ∨ lightB xs 60 = false ∨ 100 < kl) :
    Calls Try.prog 6 #[.int .i64 sectors, .slice la len cap, .slice ka kl kc] w fun e w' => e = .returned (.bool true) ∧ Below w.heap.size w w' := by
  have HT0 : Hid (Acts w la len xs) := hT
  clear hT
  by_cases h1 : sectors < 1
  · have f1 : decide (sectors < 1) = true := decide_eq_true h1
    clear hf
    go_enter Try.func6, Try.ntmps6
    go_wp2
    go_ret
    exact ⟨rfl, Below.refl _ _⟩
  · have f1 : decide (sectors < 1) = false := decide_eq_false h1
    by_cases h2 : 20 < sectors
    · have f2 : decide (20 < sectors) = true := decide_eq_true h2
      clear hf
      go_enter Try.func6, Try.ntmps6
      go_wp2
      go_ret
      exact ⟨rfl, Below.refl _ _⟩
    · have f2 : decide (20 < sectors) = false := decide_eq_false h2
      by_cases h3 : lightB xs 60 = false
      · clear hf
        go_enter Try.func6, Try.ntmps6
        go_wp2_with fail
        refine (light_any la len cap 60 xs w HT0.out hlen (by omega)).mono ?_
        rintro e w' ⟨he, hw⟩
        have hw' := hw.symm
        subst hw'
        clear hw
        rw [h3] at he
        subst he
        go_wp2
        go_ret
        exact ⟨rfl, Below.refl _ _⟩
      · have h4 : lightB xs 60 = true := by simpa using h3
        have h5 : 100 < kl := by
          rcases hf with q | q | q | q
          · exact absurd q h1
          · exact absurd q h2
          · exact absurd q h3
          · exact q
        have f3 : decide (100 < (kl : Int)) = true := by simp; omega
        clear hf
        go_enter Try.func6, Try.ntmps6
        go_wp2_with fail
        refine (light_any la len cap 60 xs w HT0.out hlen (by omega)).mono ?_
        rintro e w' ⟨he, hw⟩
        have hw' := hw.symm
        subst hw'
        clear hw
        rw [h4] at he
        subst he
        go_wp2
        go_ret
        exact ⟨rfl, Below.refl _ _⟩

set_option maxRecDepth 100000 in
set_option maxHeartbeats 20000000 in
theorem topFront (n : Nat) (la : Option Addr) (len cap : Nat) (xs : List ActV) (ka : Option Addr) (kl kc : Nat) (ks : List Bool) (w : World) (hT : Acts w la len xs) (hlen : len ≤ maxLen) (hK : Bools w ka kl ks) (hf : lightB xs 60 = true) (hn1 : 1 ≤ n) (hn2 : n ≤ 20) (hkl : kl ≤ 100) :
    Calls Try.prog 6 #[.int .i64 (n : Int), .slice la len cap, .slice ka kl kc] w fun e w' => e = .returned (.bool true) ∧ Below w.heap.size w w' := by
  have HT0 : Hid (Acts w la len xs) := hT
  have HK0 : Hid (Bools w ka kl ks) := hK
  clear hT hK
  have f1 : decide ((n : Int) < 1) = false := decide_eq_false (by omega)
  have f2 : decide (20 < (n : Int)) = false := decide_eq_false (by omega)
  have f3 : decide (100 < (kl : Int)) = false := decide_eq_false (by omega)
  go_enter Try.func6, Try.ntmps6
  go_wp2_with fail
  refine (light_any la len cap 60 xs w HT0.out hlen (by omega)).mono ?_
  rintro e w' ⟨he, hw⟩
  have hw' := hw.symm
  subst hw'
  clear hw
  have hl60 : len ≤ 60 := by
    unfold lightB at hf
    simp only [decide_eq_true_eq] at hf
    have := HT0.out.1
    omega
  clear hlen
  rw [hf] at he
  subst he
  clear hf
  go_wp2_with fail
  refine (new_yes n _ hn1 (by omega)).mono ?_
  rintro e w1 ⟨h, rfl, hd, hb1⟩
  have HD1 : Hid (IsDev w.heap.size w1 h (DV.made (List.replicate n noughts) 0)) := hd
  have HB1 : Hid (Below w.heap.size w w1) := hb1
  clear hd hb1 f1 f2 f3
  go_upto_region 7 with fail
  have HL1 : ∀ cur : Array Value, cur.size = 20 → Hid (Left1 w n 0 w1.heap.size h (w1.alloc (.cells cur 64))) := fun cur hc => left1_start HD1.out HB1.out hc
  have HL2 := HL1 #[.slice none 0 0, .slice none 0 0, .slice none 0 0, .slice none 0 0, .slice none 0 0, .slice none 0 0, .slice none 0 0, .slice none 0 0, .slice none 0 0, .slice none 0 0, .slice none 0 0, .slice none 0 0, .slice none 0 0, .slice none 0 0, .slice none 0 0, .slice none 0 0, .slice none 0 0, .slice none 0 0, .slice none 0 0, .slice none 0 0] rfl
  clear HL1
  generalize w1.alloc (.cells #[.slice none 0 0, .slice none 0 0, .slice none 0 0, .slice none 0 0, .slice none 0 0, .slice none 0 0, .slice none 0 0, .slice none 0 0, .slice none 0 0, .slice none 0 0, .slice none 0 0, .slice none 0 0, .slice none 0 0, .slice none 0 0, .slice none 0 0, .slice none 0 0, .slice none 0 0, .slice none 0 0, .slice none 0 0, .slice none 0 0] 64) = w2 at HL2 ⊢
  generalize w1.heap.size = m at HL2 ⊢
  clear HD1 HB1
  go_wp2_with fail
  go_loopw [10] (fun i wr => ∃ k : Nat, k ≤ n ∧ i = .int .i64 k ∧ Left1 w n k m h wr) (fun i _ => n - (intOf i).toNat)
  case atStart => exact ⟨0, Nat.zero_le _, rfl, HL2.out⟩
  case round =>
    clear HL2
    obtain ⟨k, hk, rfl, hl⟩ := hrel
    have HL : Hid (Left1 w n k m h wr) := hl
    clear hl
    by_cases hlt : k < n
    · as_aux_lemma =>
        go_wp2_with fail
        refine (noughts_any wr).mono ?_
        rintro e w3 ⟨rfl, hb3⟩
        obtain ⟨⟨⟨v, c1⟩, c2⟩, hl4⟩ := left1_next HL.out hlt hn2 hb3
        have HL4 : Hid (Left1 w n (k + 1) m h ((w3.alloc (.cells #[.string (bytesOf noughts)] 9)).setCell ⟨m, k, none⟩ (.slice (some ⟨w3.heap.size, 0, none⟩) 1 1))) := hl4
        have b1 : (0 : Int) ≤ (k : Int) := by omega
        have b2 : (k : Int) < 20 := by omega
        clear hl4 hb3 HL
        generalize bytesOf noughts = nt at c1 c2 HL4 ⊢
        go_wp2
        go_roundw
        case rel =>
          have fin : ∃ k' : Nat, k' ≤ n ∧ Value.int .i64 ((k : Int) + 1) = .int .i64 k' ∧ Left1 w n k' m h _ := ⟨k + 1, by omega, by go_num, HL4.out⟩
          first | exact fin | ((repeat apply Exists.intro); exact ⟨fin, rfl⟩)
        case measure => simp [intOf]; omega
    · have hkn : k = n := by omega
      subst hkn
      clear hlt hk
      go_wp2_with fail
      have HL2 : Hid (Left2 w k 0 m h.p wr) := left2_start HL.out
      clear HL
      go_loopw [11] (fun i wx => ∃ q : Nat, q ≤ len ∧ i = .int .i64 q ∧ Left2 w k q m h.p wx) (fun i _ => len - (intOf i).toNat)
      case atStart => exact ⟨0, Nat.zero_le _, rfl, HL2.out⟩
      case round =>
        clear HL2
        obtain ⟨q, hq, rfl, hl⟩ := hrel
        have HL : Hid (Left2 w k q m h.p wr) := hl
        clear hl
        by_cases hlt : q < len
        · go_upto_block 3 with fail
          go_cut [] from 62 to 111 (fun wx => Left2 w k (q + 1) m h.p wx)
          case first =>
            obtain ⟨blk, off, hla, hrg, hok⟩ := (HT0.out.below (Left2.bel HL.out)).2 q hlt
            generalize xs.getD q ActV.none_ = x at hrg hok
            subst hla
            have HRG : Hid (wr.rangeAt blk (off + q * 7) x.cells) := hrg
            have HI : Hid ((Try.prog.info? 47).map (·.size) = some x.cells.length) := size_act
            have HI2 : Hid ((Try.prog.info? 47).map (·.size) = some x.cells.toArray.size) := size_act
            have HO1 : Hid (∀ v ∈ x.cells.toArray.toList, v.oneCell' = true) := act_one x
            have ha1 := hok.a1
            clear hrg hok
            go_upto_region 15 with (first
              | (refine wpList_load_mid (by rfl) 47 (.tmp 70) (by rfl) blk (off + q * 7) (by rfl) x.cells _ HRG.out Try.underlying47 rfl HI.out ?_)
              | (refine wpList_store_new (by rfl) 47 47 (.tmp 12) (.tmp 71) (by rfl) _ x.cells.toArray (by rfl) (by rfl) rfl HI2.out HO1.out ?_))
            have HXB : Hid (Left2 w k q m h.p (wr.alloc (.cells x.cells.toArray 47)) ∧ Box (wr.alloc (.cells x.cells.toArray 47)) wr.heap.size x) := left2_box HL.out x
            generalize wr.alloc (.cells x.cells.toArray 47) = W at HXB
            generalize wr.heap.size = N at HXB
            clear HRG HI HI2 HO1 HL
            obtain ⟨c0, c1, c5⟩ := HXB.out.2.cells
            by_cases e0 : x.kind.toList = [119, 114, 105, 116, 101]
            · have g0 : (x.kind.toList == [119, 114, 105, 116, 101]) = true := beq_iff_eq.2 e0
              clear e0
              go_wp2_with fail
              refine (left2_write HXB.out.1 (by omega) HXB.out.2).mono ?_
              rintro e W1 (⟨f, hf0, rfl, hbx, hl⟩ | ⟨rfl, ha, hai, hlw⟩)
              · as_aux_lemma =>
                  clear HXB hbx
                  go_wp2
                  go_meet
                  case rel => exact hl
              · as_aux_lemma =>
                  obtain ⟨g, o, l, c, g', o', c', w2, b0, b1, b2, r0, r1, hrun, ⟨v, r2⟩, r3, hl⟩ := hlw
                  have HRUN : Hid ((Builtin.append_ #[22, 22] 22 #[.slice (some ⟨g, o, none⟩) l c, .slice (some ⟨W1.heap.size, 0, none⟩) 1 1]).run Try.prog (W1.alloc (.cells #[.string x.s] 9)).drew = .ok (.slice (some ⟨g', o', none⟩) (l + 1) c') w2) := hrun
                  have HL3 : Hid (Left2 w k (q + 1) m h.p (w2.setCell ⟨m, x.a.toNat, none⟩ (.slice (some ⟨g', o', none⟩) (l + 1) c'))) := hl
                  obtain ⟨_, p1, p5⟩ := b0.cells
                  obtain ⟨_, q1, q5⟩ := b1.cells
                  obtain ⟨_, s1, s5⟩ := b2.cells
                  clear HXB hrun hl b0 b1 b2 c0 c1 c5 g0
                  generalize x.a = xa at ha hai r0 r1 r2 r3 HL3 p1 q1 s1 ha1
                  generalize xa.toNat = ai at ha hai r0 r1 r2 r3 HL3
                  subst ha
                  generalize x.s = xs5 at HRUN p5 q5 s5 q1 r1
                  have i0 : (0 : Int) ≤ (ai : Int) := by omega
                  have i1 : (ai : Int) < 20 := by omega
                  clear ha1
                  go_upto_region 17 with fail
                  go_region_law (refine step_append_run (by rfl) (.tmp 87) (.tmp 90) 22 22 (by rfl) (by rfl) (by rfl) (by rfl) HRUN.out ?_)
                  all_goals
                    clear r0 r1 r2 r3 p1 p5 q1 q5 s1 s5 HRUN
                    go_wp2
                    go_meet
                    case rel => exact HL3.out
            · have g0 : (x.kind.toList == [119, 114, 105, 116, 101]) = false := beq_eq_false_iff_ne.2 e0
              clear e0
              as_aux_lemma =>
                go_wp2_with fail
                refine (left2_flush HXB.out.1).mono ?_
                rintro e W1 ⟨rfl, hl⟩
                have HL3 : Hid (Left3 w k q m h.p 0 W1) := hl
                clear hl HXB c0 c1 c5 g0 ha1
                go_wp2_with fail
                go_loopw [13] (fun i wx => ∃ z : Nat, z ≤ k ∧ i = .int .i64 z ∧ Left3 w k q m h.p z wx) (fun i _ => k - (intOf i).toNat)
                case atStart => exact ⟨0, Nat.zero_le _, rfl, HL3.out⟩
                case round =>
                  clear HL3
                  obtain ⟨z, hz, rfl, hl⟩ := hrel
                  have HL4 : Hid (Left3 w k q m h.p z wr) := hl
                  clear hl
                  by_cases hlt2 : z < k
                  · obtain ⟨g, o, l, c, hl1, hlc, r0, r1, hl⟩ := left3_next HL4.out hlt2 (by omega)
                    have HL5 : Hid (Left3 w k q m h.p (z + 1) (wr.setCell ⟨m, z, none⟩ (.slice (some ⟨g, o + l, none⟩) 1 (c - l)))) := hl
                    have hcl : ¬ (c = l) := by omega
                    clear hl HL4
                    have i0 : (0 : Int) ≤ (z : Int) := by omega
                    have i1 : (z : Int) < 20 := by omega
                    go_wp2
                    go_roundw
                    case rel =>
                      have fin : ∃ z' : Nat, z' ≤ k ∧ Value.int .i64 ((z : Int) + 1) = .int .i64 z' ∧ Left3 w k q m h.p z' (wr.setCell ⟨m, z, none⟩ (.slice (some ⟨g, o + l, none⟩) 1 (c - l))) := ⟨z + 1, by omega, by go_num, HL5.out⟩
                      first | exact fin | ((repeat apply Exists.intro); exact ⟨fin, rfl⟩)
                    case measure => simp [intOf]; omega
                  · have hzk : z = k := by omega
                    have HL5 : Hid (Left2 w k (q + 1) m h.p wr) := left3_end (hzk ▸ HL4.out)
                    clear HL4
                    go_wp2
                    go_meet
                    case rel => exact HL5.out
          case rest =>
            as_aux_lemma =>
              have HL3 : Hid (Left2 w k (q + 1) m h.p wc) := hcut
              clear hcut HL
              go_wp2
              go_roundw
              case rel =>
                have fin : ∃ k' : Nat, k' ≤ len ∧ Value.int .i64 ((q : Int) + 1) = .int .i64 k' ∧ Left2 w k k' m h.p wc := ⟨q + 1, by omega, by go_num, HL3.out⟩
                first | exact fin | ((repeat apply Exists.intro); exact ⟨fin, rfl⟩)
              case measure => simp [intOf]; omega
        · have hql : q = len := by omega
          clear hlt
          obtain ⟨h1, d, r, hp, hd, hm, hsn, hwr, hfl, hbel⟩ := HL.out
          clear HL hq
          have hkm : kl ≤ maxLen := by unfold maxLen; omega
          have HD : Hid (IsDev w.heap.size wr h1 d) := hd
          have HM : Hid (IsMay w.heap.size wr m r k (rowOf d)) := hm
          have HB : Hid (Below w.heap.size w wr) := hbel
          have HSN : Hid d.sn := hsn
          have hcr := crash_any ka kl kc ks wr hd (HK0.out.below hbel) hkm
          rw [hp] at hcr
          have HCR : Hid (Calls Try.prog 31 #[.pointer (some ⟨h.p, 0, none⟩), .slice ka kl kc] wr fun e w' =>
            ∃ h' : Hd, e = .returned (.pointer (some ⟨h'.p, 0, none⟩)) ∧ IsDev wr.heap.size w' h' (DV.made (keepTo d.pend ks d.fl d.pend.length) d.wr) ∧ Below wr.heap.size wr w') := hcr
          clear hcr hd hm hbel hsn
          go_wp2_with fail
          refine HCR.out.mono ?_
          rintro e W1 ⟨hc, rfl, hdc, hb1⟩
          have HDC1 : Hid (IsDev wr.heap.size W1 hc (DV.made (keepTo d.pend ks d.fl d.pend.length) d.wr)) := hdc
          have HB1 : Hid (Below wr.heap.size wr W1) := hb1
          have HD1 : Hid (IsDev w.heap.size W1 h1 d) := HD.out.keep (fun j hj => hb1.block j (HD.out.lt j hj).2)
          have hcr := crash_any none 0 0 [] W1 HD1.out ⟨rfl, fun j hj => by omega⟩ (by unfold maxLen; omega)
          rw [hp, keepTo_nil] at hcr
          have HCN : Hid (Calls Try.prog 31 #[.pointer (some ⟨h.p, 0, none⟩), .slice none 0 0] W1 fun e w' =>
            ∃ h' : Hd, e = .returned (.pointer (some ⟨h'.p, 0, none⟩)) ∧ IsDev W1.heap.size w' h' (DV.made d.fl d.wr) ∧ Below W1.heap.size W1 w') := hcr
          clear hcr hdc hb1 HCR
          go_wp2_with fail
          refine HCN.out.mono ?_
          rintro e W2 ⟨hz, rfl, hdz, hb2⟩
          have HB2 : Hid (Below wr.heap.size wr W2) := HB1.out.trans (hb2.mono HB1.out.size)
          have HD2 : Hid (IsDev w.heap.size W2 h1 d) := HD.out.keep (fun j hj => HB2.out.block j (HD.out.lt j hj).2)
          have HDC2 : Hid (IsDev wr.heap.size W2 hc (DV.made (keepTo d.pend ks d.fl d.pend.length) d.wr)) := HDC1.out.keep (fun j hj => hb2.block j (HDC1.out.lt j hj).2)
          have hby := bytes_dev W2 hdz
          have HBZ : Hid (Calls Try.prog 20 #[.pointer (some ⟨hz.p, 0, none⟩)] W2 fun e w' => e = .returned (.string (bytesOf d.fl.flatten)) ∧ Below W2.heap.size W2 w') := hby
          have HBD : Hid (∀ W3, Below W2.heap.size W2 W3 → Calls Try.prog 20 #[.pointer (some ⟨h.p, 0, none⟩)] W3 fun e w' => e = .returned (.string (bytesOf d.fl.flatten)) ∧ Below W3.heap.size W3 w') := fun W3 hb3 => by
            have := bytes_dev W3 (HD2.out.keep (w' := W3) (fun j hj => hb3.block j (HD2.out.lt j hj).2))
            rw [hp] at this
            exact this
          clear hby hdz hb2 HCN HDC1 HD1 HB1
          generalize bytesOf d.fl.flatten = y at HBZ HBD
          go_wp2_with fail
          refine HBZ.out.mono ?_
          rintro e W3 ⟨rfl, hb3⟩
          go_wp2_with fail
          refine (HBD.out W3 hb3).mono ?_
          rintro e W4 ⟨rfl, hb4⟩
          have HB4 : Hid (Below wr.heap.size wr W4) := HB2.out.trans ((hb3.trans (hb4.mono hb3.size)).mono HB2.out.size)
          have HD4 : Hid (IsDev w.heap.size W4 h1 d) := HD.out.keep (fun j hj => HB4.out.block j (HD.out.lt j hj).2)
          have HDC4 : Hid (IsDev wr.heap.size W4 hc (DV.made (keepTo d.pend ks d.fl d.pend.length) d.wr)) := HDC2.out.keep (fun j hj => (hb3.trans (hb4.mono hb3.size)).block j (HDC2.out.lt j hj).2)
          have HM4 : Hid (IsMay w.heap.size W4 m r k (rowOf d)) := HM.out.below HB4.out
          have HW4 : Hid (Below w.heap.size w W4) := HB.out.trans (HB4.out.mono HB.out.size)
          clear hb3 hb4 HBZ HBD HB2 HD2 HDC2 HD HM HB HB4
          go_wp2_with fail
          go_loop [17] (fun i => ∃ z : Nat, z ≤ k ∧ i = .int .i64 z) (fun i => k - (intOf i).toNat)
          case atStart => exact ⟨0, Nat.zero_le _, rfl⟩
          case round =>
            obtain ⟨z, hzk, rfl⟩ := hrel
            by_cases hlz : z < k
            · have hrc := read_yes z W4 HDC4.out (by show z < (keepTo d.pend ks d.fl d.pend.length).length; rw [keepTo_len]; omega)
              have HRC : Hid (Calls Try.prog 26 #[.pointer (some ⟨hc.p, 0, none⟩), .int .i64 (z : Int)] W4 fun e w' => e = .returned (.tuple #[.string (bytesOf ((keepTo d.pend ks d.fl d.pend.length).getD z [])), .nilIface]) ∧ w' = W4) := hrc
              have hrd := read_yes z W4 HD4.out (by omega)
              rw [hp] at hrd
              have HRD : Hid (Calls Try.prog 26 #[.pointer (some ⟨h.p, 0, none⟩), .int .i64 (z : Int)] W4 fun e w' => e = .returned (.tuple #[.string (bytesOf (d.seen.getD z [])), .nilIface]) ∧ w' = W4) := hrd
              obtain ⟨m1, m2⟩ := HM4.out.cell z hlz
              have HEL := HM4.out.elem z hlz
              have hlast := rowOf_last HSN.out z (by omega)
              have HKP : Hid (∃ i, i < (rowOf d z).length ∧ (rowOf d z).getD i [] = (keepTo d.pend ks d.fl d.pend.length).getD z []) := rowOf_keep d ks z (by omega)
              have hpos := rowOf_pos d z
              have hln := rowOf_len d z
              have hfew := HD4.out.ok.few
              rw [← hlast] at HRD
              generalize (keepTo d.pend ks d.fl d.pend.length).getD z [] = kz at HRC HKP
              generalize rowOf d z = row at m1 HEL HRD HKP hpos hln
              have hrl : row.length ≤ 1000 := by omega
              obtain ⟨l, hl⟩ : ∃ l, row.length = l + 1 := ⟨row.length - 1, by omega⟩
              rw [hl] at m1
              rw [hl, Nat.add_sub_cancel] at HRD
              have HEL2 : Hid (∀ j, j < l + 1 → W4.cell? ⟨r.g z, r.o z + j, none⟩ = some (.string (bytesOf (row.getD j [])))) := fun j hj => HEL j (by omega)
              have HROW : Hid (row.length = l + 1) := hl
              have hl2 : l ≤ 1000 := by omega
              clear hrc hrd HEL hlast hpos hln hfew hrl hl
              generalize r.g z = g at m1 HEL2
              generalize r.o z = o at m1 HEL2
              generalize r.c z = c at m1
              have i0 : (0 : Int) ≤ (z : Int) := by omega
              have i1 : (z : Int) < 20 := by omega
              go_wp2_with fail
              refine HRC.out.mono ?_
              rintro e w' ⟨rfl, hw⟩
              have hw' := hw.symm
              subst hw'
              clear hw HRC
              go_wp2_with fail
              refine HRD.out.mono ?_
              rintro e w' ⟨rfl, hw⟩
              have hw' := hw.symm
              subst hw'
              clear hw HRD
              go_wp2_with fail
              go_loop [22, 23] (fun f i => ∃ j : Nat, j ≤ l + 1 ∧ i = .int .i64 j ∧ f = .bool (foundTo row kz j)) (fun _ i => l + 1 - (intOf i).toNat)
              case atStart => exact ⟨0, Nat.zero_le _, rfl, rfl⟩
              case round =>
                obtain ⟨j, hj, rfl, rfl⟩ := hrel
                by_cases hjl : j < l + 1
                · have ce := HEL2.out j hjl
                  have HNX : Hid (foundTo row kz (j + 1) = (foundTo row kz j || row.getD j [] == kz)) := rfl
                  generalize foundTo row kz j = fd at HNX
                  cases fd with
                  | true =>
                    as_aux_lemma =>
                      clear ce
                      go_wp2
                      go_round
                      case rel => exact ⟨j + 1, by omega, by go_num, by rw [HNX.out]; rfl⟩
                      case measure => simp [intOf]; omega
                  | false =>
                    by_cases hb : row.getD j [] = kz
                    · as_aux_lemma =>
                        have hT : foundTo row kz (j + 1) = true := by rw [HNX.out, hb]; simp
                        rw [hb] at ce
                        go_wp2
                        go_round
                        case rel => exact ⟨j + 1, by omega, by go_num, by rw [hT]⟩
                        case measure => simp [intOf]; omega
                    · have hT : foundTo row kz (j + 1) = false := by rw [HNX.out]; simpa using hb
                      as_aux_lemma =>
                        have hne : ((bytesOf (row.getD j [])).toList == (bytesOf kz).toList) = false := bytesOf_ne hb
                        generalize bytesOf (row.getD j []) = sa at ce hne
                        go_wp2
                        go_round
                        case rel => exact ⟨j + 1, by omega, by go_num, by rw [hT]⟩
                        case measure => simp [intOf]; omega
                · have hjl2 : j = l + 1 := by omega
                  subst hjl2
                  have hF : foundTo row kz (l + 1) = true := by
                    obtain ⟨i, hi, e⟩ := HKP.out
                    exact foundTo_yes (l + 1) i (by have := HROW.out; omega) e
                  rw [hF]
                  have ce := HEL2.out l (by omega)
                  go_wp2
                  go_round
                  case rel => exact ⟨z + 1, by omega, by go_num⟩
                  case measure => simp [intOf]; omega
            · as_aux_lemma =>
                clear HDC4 HM4
                have hfh := flush_any W4 HD4.out
                rw [hp] at hfh
                have HFH : Hid (Calls Try.prog 28 #[.pointer (some ⟨h.p, 0, none⟩)] W4 fun e w' => e = .returned (.tuple #[]) ∧ IsDev w.heap.size w' { h1 with p := h.p, v2 := .slice none 0 0 } d.flushed ∧ Kept (fun k => k = h.p ∨ k = h1.bf) W4 w') := hfh
                clear hfh
                have HLT : Hid (w.heap.size ≤ h.p ∧ w.heap.size ≤ h1.bf) := ⟨hp ▸ (HD4.out.lt h1.p (.inl rfl)).1, (HD4.out.lt h1.bf (.inr (.inl rfl))).1⟩
                go_wp2_with fail
                refine HFH.out.mono ?_
                rintro e W5 ⟨rfl, hd5, hk5⟩
                have HD5 : Hid (IsDev w.heap.size W5 { h1 with p := h.p, v2 := .slice none 0 0 } d.flushed) := hd5
                have HB5 : Hid (Below w.heap.size w W5) := HW4.out.trans (hk5.below HW4.out.size (fun j hj => by rcases hj with rfl | rfl; exact HLT.out.1; exact HLT.out.2))
                have hcr := crash_any ka kl kc ks W5 hd5 (HK0.out.below HB5.out) hkm
                have HCR : Hid (Calls Try.prog 31 #[.pointer (some ⟨h.p, 0, none⟩), .slice ka kl kc] W5 fun e w' =>
                  ∃ h' : Hd, e = .returned (.pointer (some ⟨h'.p, 0, none⟩)) ∧ IsDev W5.heap.size w' h' (DV.made d.flushed.fl d.wr) ∧ Below W5.heap.size W5 w') := hcr
                clear hcr hd5 hk5 HFH HD4 HW4 HLT
                go_wp2_with fail
                refine HCR.out.mono ?_
                rintro e W6 ⟨he, rfl, hde, hb6⟩
                have hby := bytes_dev W6 hde
                have HBE : Hid (Calls Try.prog 20 #[.pointer (some ⟨he.p, 0, none⟩)] W6 fun e w' => e = .returned (.string (bytesOf d.flushed.fl.flatten)) ∧ Below W6.heap.size W6 w') := hby
                have HBD : Hid (∀ W7, Below W6.heap.size W6 W7 → Calls Try.prog 20 #[.pointer (some ⟨h.p, 0, none⟩)] W7 fun e w' => e = .returned (.string (bytesOf d.flushed.fl.flatten)) ∧ Below W7.heap.size W7 w') := fun W7 hb7 => by
                  have h67 : Below W5.heap.size W5 W7 := hb6.trans (hb7.mono hb6.size)
                  exact bytes_dev (h := { h1 with p := h.p, v2 := .slice none 0 0 }) W7 (HD5.out.keep (w' := W7) (fun j hj => h67.block j (HD5.out.lt j hj).2))
                have HB6 : Hid (Below w.heap.size w W6) := HB5.out.trans (hb6.mono HB5.out.size)
                clear hby hde hb6 HD5 HB5 HCR
                generalize bytesOf d.flushed.fl.flatten = y2 at HBE HBD
                go_wp2_with fail
                refine HBE.out.mono ?_
                rintro e W7 ⟨rfl, hb7⟩
                go_wp2_with fail
                refine (HBD.out W7 hb7).mono ?_
                rintro e W8 ⟨rfl, hb8⟩
                go_wp2
                go_ret
                exact ⟨rfl, HB6.out.trans ((hb7.trans (hb8.mono hb7.size)).mono HB6.out.size)⟩
end Go.Proofs.Ytmallmchibdkgaa
