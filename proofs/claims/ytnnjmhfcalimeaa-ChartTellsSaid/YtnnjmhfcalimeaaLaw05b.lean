/- ChartTells: its walk. -/
import Derived.Test.YtnnjmhfcalimeaaChart
import Derived.Test.YtnnjmhfcalimeaaSeq
import Derived.WalkKit
import Derived.WalkSpells
import Derived.WalkLawsBesides
import Derived.Lib.Hide
import Derived.Deep.RegionHeld3
import Derived.IntWalk
namespace Go.Proofs.Ytnnjmhfcalimeaa
open Go.RowKit

/-- what is told of a number, by the program and by the document: its name, whether it is an account -/
theorem named (a : Int) : ∃ b t, (b = true → ∃ k : Nat, 1 ≤ k ∧ k ≤ 7 ∧ a = k ∧ t = nm k) ∧ (b = false → t = ⟨#[]⟩) ∧
    (∀ w, Calls Try.prog 6 #[.int .i64 a] w fun e w' => e = .returned (.string t) ∧ w = w') ∧
    (∀ w, Calls Try.prog 13 #[.int .i64 a] w fun e w' => e = .returned (.bool b) ∧ w = w') := by
  by_cases h : 1 ≤ a ∧ a ≤ 7
  · obtain ⟨k, rfl⟩ : ∃ k : Nat, a = k := ⟨a.toNat, by omega⟩
    exact ⟨true, nm k, fun _ => ⟨k, by omega, by omega, rfl, rfl⟩, by simp, fun w => cname_at k w (by omega) (by omega), fun w => racc_yes _ w h.1 h.2⟩
  · exact ⟨false, ⟨#[]⟩, by simp, fun _ => rfl, fun w => cname_no _ w (by omega), fun w => racc_no _ w (by omega)⟩
set_option maxHeartbeats 2000000 in
theorem chartTells_walk (a0 : Int) (a1 : ByteArray) (a2 : Int) (a3 : Bool) (w : World) (_w0 : (Lit.int .i64 a0).wf = true) (_w1 : a1.size ≤ maxLen) (_w2 : (Lit.int .i64 a2).wf = true) :
    Calls Try.prog 4 #[.int .i64 a0, .string a1, .int .i64 a2, .bool a3] w fun e w' => e = .returned (.bool true) ∧ Below w.heap.size w w' := by
  clear _w0 _w1 _w2
  obtain ⟨a, s, hap⟩ : ∃ (a : Int) (s : ByteArray), (a3 = true → a = a0 ∧ s = a1) ∧ (a3 = false → (∃ x, a0 % 10 = x ∧ 0 ≤ x ∧ x ≤ 9 ∧ a = x - 1) ∧ ∃ p : Nat, a2 % 8 = p ∧ p < 8 ∧ s = nm p) := by
    cases a3
    · exact ⟨a0 % 10 - 1, nm (a2 % 8).toNat, by simp, fun _ => ⟨⟨_, rfl, by omega, by omega, rfl⟩, (a2 % 8).toNat, by omega, by omega, rfl⟩⟩
    · exact ⟨a0, a1, fun _ => ⟨rfl, rfl⟩, by simp⟩
  have HAP := Lib.hid hap
  clear hap
  obtain ⟨b, t, hb1, hb2, hn, ha⟩ := named a
  have HT1 := Lib.hid hb1
  have HT2 := Lib.hid hb2
  have CN := Lib.hid hn
  have CA := Lib.hid ha
  clear hb1 hb2 hn ha
  obtain ⟨cs, hcs⟩ : ∃ cs, cst a = cs := ⟨_, rfl⟩
  have CC : Hid (∀ w, Calls Try.prog 8 #[.int .i64 a] w fun e w' => e = .returned (.bool cs) ∧ w = w') := Lib.hid fun w => by have := ccost_any a w; rwa [hcs] at this
  have RC : Hid (∀ w, Calls Try.prog 14 #[.int .i64 a] w fun e w' => e = .returned (.bool cs) ∧ w = w') := Lib.hid fun w => by have := rcost_any a w; rwa [hcs] at this
  clear hcs
  have HB := Lib.hid (Below.refl w.heap.size w)
  cases a3
  case' false =>
    obtain ⟨⟨x, hx, x1, x2, rfl⟩, p, hp, p1, rfl⟩ := HAP.out.2 rfl
    have HX := Lib.hid hx
    have HP := Lib.hid hp
    clear hx hp HAP
    have hwr : IntKind.i64.wrap (x - 1) = x - 1 := IntWalk.i64_in _ (by omega)
    have p2 : (p : Int) < 8 := by omega
    have hc := nmv_cell w 9 p1
    go_enter Try.func4, Try.ntmps4
    go_wp2
    rw [show Op.load 9 (Operand.tmp 24) = id (Op.load 9 (Operand.tmp 24)) from rfl]
    have hid : id (Op.load 9 (Operand.tmp 24)) = Op.load 9 (Operand.tmp 24) := rfl
    go_region_held3 (fun _ => True) (trivial) (first | (go_at_call 11; (with_reducible refine (within_at _ _ _ _ (by omega) (by omega) HX).mono ?_); rintro e w' ⟨rfl, rfl⟩) | (go_at_call 11; (with_reducible refine (within_at _ _ _ _ (by omega) (by omega) HP).mono ?_); rintro e w' ⟨rfl, rfl⟩) | (go_at_call 12; (with_reducible refine (rnames_at _).mono ?_); rintro e w' ⟨rfl, rfl⟩))
    generalize nm p = s at *
    clear hwr hc hid HX HP p1 p2
    generalize x - 1 = a at *
    replace HB := Lib.hid ((HB.out.alloc (Nat.le_refl _) (.cells nmv 9)).drew)
    clear x1 x2
    generalize (w.alloc (.cells nmv 9)).drew = w1 at *
  case' true =>
    obtain ⟨rfl, rfl⟩ := HAP.out.1 rfl
    clear HAP
    go_enter Try.func4, Try.ntmps4
  all_goals cases b
  case' false.true => obtain ⟨k, k1, k2, rfl, rfl⟩ := HT1.out rfl
  case' true.true => obtain ⟨k, k1, k2, rfl, rfl⟩ := HT1.out rfl
  case' false.false => obtain rfl := HT2.out rfl
  case' true.false => obtain rfl := HT2.out rfl
  all_goals
    clear HT1 HT2
    go_wp2_with (first | (go_at_call 13; (with_reducible refine (CA.out _).mono ?_); rintro e w' ⟨rfl, rfl⟩) | (go_at_call 12; (with_reducible refine (rnames_any _).mono ?_); rintro e w2 ⟨rfl, hc, hb2, _⟩; have HN := Lib.hid hc; (try have ck := hc k (by omega)); clear hc; replace HB := Lib.hid (HB.out.trans (hb2.mono HB.out.size)); clear hb2))
    clear CA
    go_loop [10, 11, 34] (fun u v i => ∃ (j n : Nat) (b : Bool), j ≤ 8 ∧ u = .int .i64 n ∧ v = .bool b ∧ i = .int .i64 j ∧ Found s (j - 1) n b) (fun _ _ i => 8 - (intOf i).toNat)
    case atStart => exact ⟨0, 0, false, Nat.zero_le _, rfl, rfl, rfl, Found.start s⟩
    case round =>
      obtain ⟨j, n, b, hj, rfl, rfl, rfl, hF⟩ := hrel
      have HF := Lib.hid hF
      clear hF
      by_cases hlt : j < 8
      · have cj := HN.out j hlt
        by_cases h0 : j = 0
        · subst h0
          go_wp2
          go_round
          case rel => exact ⟨1, n, b, by omega, rfl, rfl, by go_num, HF.out⟩
          case measure => simp [intOf]
        · have h1 : 1 ≤ j := by omega
          clear h0
          by_cases hq : nm j = s
          · have hq1 := (bytes_is _ _).2 hq
            have HQ := Lib.hid hq
            clear hq
            go_wp2
            go_round
            case rel => exact ⟨j + 1, j, true, by omega, rfl, rfl, by go_num, .inl ⟨rfl, h1, by omega, HQ.out⟩⟩
            case measure => simp [intOf]; omega
          · have hq1 := bytes_not hq
            have HQ := Lib.hid hq
            clear hq
            go_wp2
            go_round
            case rel =>
              obtain ⟨i, rfl⟩ : ∃ i, j = i + 1 := ⟨j - 1, by omega⟩
              exact ⟨i + 2, n, b, by omega, rfl, rfl, by go_num, HF.out.no HQ.out⟩
            case measure => simp [intOf]; omega
      · obtain rfl : j = 8 := by omega
        have FO : Hid (∀ w, Calls Try.prog 7 #[.string s] w fun e w' => e = .returned (.tuple #[.int .i64 n, .bool b]) ∧ Below w.heap.size w w') := Lib.hid fun w => cof_any s n b w HF.out
        clear hlt hj HF HN
        go_wp2_with (first
          | (go_at_call 7; (with_reducible refine (FO.out _).mono ?_); rintro e w3 ⟨rfl, hb2⟩; replace HB := Lib.hid (HB.out.trans (hb2.mono HB.out.size)); clear hb2)
          | (go_at_call 6; (with_reducible refine (CN.out _).mono ?_); rintro e w' ⟨rfl, rfl⟩)
          | (go_at_call 8; (with_reducible refine (CC.out _).mono ?_); rintro e w' ⟨rfl, rfl⟩)
          | (go_at_call 14; (with_reducible refine (RC.out _).mono ?_); rintro e w' ⟨rfl, rfl⟩)
          | (go_at_call 5; (with_reducible refine (caccs_any _).mono ?_); rintro e w4 ⟨rfl, hr, hb2⟩; replace HB := Lib.hid (HB.out.trans (hb2.mono HB.out.size)); clear hb2; have HR := Lib.hid hr; clear hr)
          | (go_at_call 15; refine (same_true _ _ 7 7 7 _ _ _ (HR.out.below ((Below.refl w4.heap.size w4).alloc (Nat.le_refl _) _)).at (lit_row w4 [1, 2, 3, 4, 5, 6, 7] 3).at (by omega) (fun j hj => by
              rcases (show j = 0 ∨ j = 1 ∨ j = 2 ∨ j = 3 ∨ j = 4 ∨ j = 5 ∨ j = 6 by omega) with rfl | rfl | rfl | rfl | rfl | rfl | rfl <;> rfl)).mono ?_; rintro e w5 ⟨rfl, hb5⟩; replace HB := Lib.hid ((HB.out.alloc HB.out.size _).trans (hb5.mono (HB.out.alloc HB.out.size _).size)); clear hb5)
          | (go_at_call 10; (with_reducible refine (wakes5_any _).mono ?_); rintro e w' ⟨rfl, rfl⟩))
        go_ret
        exact ⟨ret_b (by first | rfl | simp), HB.out⟩
end Go.Proofs.Ytnnjmhfcalimeaa
