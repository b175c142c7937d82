/- SplitEven: its walk. -/
import Derived.Test.YtgikhbfbjkdadaaWakes02
import Derived.WalkKit
import Derived.WalkSpells
import Derived.WalkLawsBesides
import Derived.Lib.Hide
import Derived.Deep.LoopGhost
namespace Go.Proofs.Ytgikhbfbjkdadaa
open Go.RowKit

/-- the weights of SplitEven -/
def wEven (g : Nat → Int) : Nat → Int := fun j => 1 + g j % 1000
theorem wEven_bd (g : Nat → Int) (j : Nat) : 1 ≤ wEven g j ∧ wEven g j ≤ 1000 := by unfold wEven; omega
theorem wEven_pos (g : Nat → Int) (k : Nat) (hk : 0 < k) : 0 < tot (wEven g) k := by
  have := tot_one_le (g := wEven g) k (fun j _ => by have := wEven_bd g j; omega) 0 hk
  have := wEven_bd g 0
  omega
theorem even_ok {n t : Int} (h1 : 0 ≤ n) (h2 : n ≤ 100000000000) (k : Nat) (hk : 0 < k) (h16 : k ≤ 16) (g : Nat → Int) (t1 : 1 ≤ t) (t2 : t ≤ 900) :
    SplitOk n k (wEven g) ∧ SplitOk n k (fun j => wEven g j * t) := by
  refine ⟨⟨⟨by omega, h2⟩, h16, fun j _ => by have := wEven_bd g j; omega, wEven_pos g k hk⟩, ⟨⟨by omega, h2⟩, h16, fun j _ => ?_, ?_⟩⟩
  · have b := wEven_bd g j
    have := mul_bd (n := wEven g j) (r := t) (A := 1000) (B := 900) (by omega) b.2 (by omega) t2
    have := Int.mul_nonneg (show 0 ≤ wEven g j by omega) (show 0 ≤ t by omega)
    simp only []; omega
  · rw [show (fun j => wEven g j * t) = fun j => t * wEven g j from funext fun j => Int.mul_comm .., tot_mul]
    exact Int.mul_pos (by omega) (wEven_pos g k hk)
theorem sevens_ok {n : Int} (h1 : 0 ≤ n) (h2 : n ≤ 100000000000) (k : Nat) (hk : 0 < k) (h16 : k ≤ 16) : SplitOk n k (fun _ => 7) := by
  refine ⟨⟨by omega, h2⟩, h16, fun j _ => by show (0 : Int) ≤ 7 ∧ (7 : Int) ≤ 1000000; omega, by rw [tot_const]; omega⟩
theorem sevens_part {n : Int} (h1 : 0 ≤ n) (k : Nat) (hk : 0 < k) (j : Nat) : splitV n k (fun _ => 7) j = n / k + if (j : Int) < n % k then 1 else 0 := by
  rw [splitV, if_neg (by omega), tot_const]
  exact splitF_even hk j

set_option maxHeartbeats 4000000 in
set_option maxRecDepth 100000 in
theorem splitEven_walk (a0 a1 a2 : Int) (a3 : Option Addr) (len3 cap3 : Nat) (z3 : List Int) (w : World) (_w0 : (Lit.int .i64 a0).wf = true) (_w1 : (Lit.int .i64 a1).wf = true) (_w2 : (Lit.int .i64 a2).wf = true) (w3 : IsRow .i64 w a3 len3 cap3 z3) :
    Calls Try.prog 3 #[.int .i64 a0, .int .i64 a1, .int .i64 a2, .slice a3 len3 cap3] w fun e w' => e = .returned (.bool true) ∧ Below w.heap.size w w' := by
  obtain ⟨hAt, hlc, hcm, hA, hwf⟩ := w3.at
  unfold maxLen at hcm
  obtain ⟨g, hg⟩ : ∃ g : Nat → Int, g = fun j => z3.getD j 0 := ⟨_, rfl⟩
  rw [← hg] at hAt
  have HAt := Lib.hid hAt
  clear hwf w3 hg hA hAt
  obtain ⟨N, hN⟩ : ∃ N, a0 % 100000 = N := ⟨_, rfl⟩
  have n1 : 0 ≤ N := by omega
  have n2 : N ≤ 100000 := by omega
  have HN := Lib.hid hN; clear hN
  obtain ⟨p, hp⟩ : ∃ p : Nat, a1 % 16 = p := ⟨(a1 % 16).toNat, by omega⟩
  have p1 : p ≤ 15 := by omega
  have HP := Lib.hid hp; clear hp
  obtain ⟨t, ht⟩ : ∃ t, a2 % 900 = t := ⟨_, rfl⟩
  have t1 : 0 ≤ t := by omega
  have t2 : t ≤ 899 := by omega
  have HT := Lib.hid ht; clear ht
  obtain ⟨i0, hi, hz0, hz1, hz2⟩ := info_parts int_info
  have hmk : ∀ w : World, (Instr.makeSlice 22 (.int .i64 (1 + (p : Int))) (.int .i64 (1 + (p : Int)))).run Try.prog w = .ok (.slice (some ⟨w.heap.size, 0, none⟩) (p + 1) (p + 1)) (w.alloc (.cells (madeCells #[.int .i64 0] (p + 1)) 3)) := fun w => by
    rw [show 1 + (p : Int) = ((p + 1 : Nat) : Int) by omega]
    exact run_make_row' (P := Try.prog) 22 3 (.int .i64 0) 8 Try.underlying22 int_info rfl .i64 .i64 (p + 1) (by omega) (by omega) w
  have hpp : ((p : Int) + 1 != 1 + (p : Int)) = false := by simp; omega
  go_enter Try.func3, Try.ntmps3
  go_wp2_with (first | (go_at_call 8; (with_reducible refine (within_at _ _ _ _ (by omega) (by omega) HN).mono ?_); rintro e w' ⟨rfl, rfl⟩) | (go_at_call 8; (with_reducible refine (within_at _ _ _ _ (by omega) (by omega) HP).mono ?_); rintro e w' ⟨rfl, rfl⟩) | (go_at_call 8; (with_reducible refine (within_at _ _ _ _ (by omega) (by omega) HT).mono ?_); rintro e w' ⟨rfl, rfl⟩))
  have M0 := made_row w (p + 1) 3
  have B0 := (Below.refl w.heap.size w).alloc (Nat.le_refl _) (.cells (madeCells #[.int .i64 0] (p + 1)) 3)
  have HM0 := Lib.hid M0
  have HB0 := Lib.hid B0
  clear M0 B0 hmk
  go_loopg [34] (p + 1) (fun gh i wr => ∃ k : Nat, k ≤ p + 1 ∧ gh = p + 1 - k ∧ i = .int .i64 k ∧ Row wr w.heap.size (p + 1) (fun j => if j < k then 7 else 0) ∧ Below w.heap.size w wr)
  case atStart => exact ⟨0, Nat.zero_le _, rfl, rfl, HM0.out.ext fun j _ => by simp, HB0.out⟩
  case round =>
    obtain ⟨k, hk, hgk, rfl, hr, hbw⟩ := hrel
    have HGK := Lib.hid hgk
    clear hgk HM0 HB0
    by_cases hlt : k < p + 1
    · obtain ⟨c1, f1⟩ := hr.2 k hlt
      simp only [if_neg (show ¬ k < k by omega)] at c1
      have HR := Lib.hid hr
      clear hr
      go_wp2
      go_roundg (p + 1 - (k + 1))
      case measure => have := HGK.out; omega
      case rel =>
        refine ⟨k + 1, by omega, rfl, by go_num, (HR.out.set hlt 7).ext fun j _ => ?_, hbw.setCell (Nat.le_refl _) _⟩
        by_cases e : j = k
        · subst e; simp
        · by_cases l : j < k
          · rw [if_neg e, if_pos l, if_pos (by omega)]
          · rw [if_neg e, if_neg l, if_neg (by omega)]
    · obtain rfl : k = p + 1 := by omega
      have R0 : Hid (Row wr w.heap.size (p + 1) (fun _ => 7)) := Lib.hid (hr.ext fun j hj => if_pos hj)
      have HB := Lib.hid hbw
      have HS := Lib.hid (sevens_ok n1 (by omega) (p + 1) (by omega) (by omega))
      clear hlt hr hbw HGK
      go_wp2_with fail
      refine (split_yes N w.heap.size 0 (p + 1) (p + 1) _ _ R0.out.1 R0.out.hid HS).mono ?_; rintro e w2 ⟨B2, rfl, hB2, hr2, hb2⟩
      have HB2 := Lib.hid (HB.out.trans (hb2.mono HB.out.size))
      have R2 : Hid (Row w2 B2 (p + 1) (fun j => N / (1 + (p : Int)) + if (j : Int) < N % (1 + (p : Int)) then 1 else 0)) := Lib.hid (hr2.ext fun j _ => by
        rw [sevens_part n1 (p + 1) (by omega) j, show ((p + 1 : Nat) : Int) = 1 + (p : Int) by omega])
      clear hr2 R0 HB hb2 hB2
      have q1 : 0 ≤ N / (1 + (p : Int)) := Int.ediv_nonneg n1 (by omega)
      have q2 : N / (1 + (p : Int)) ≤ N := Int.ediv_le_self _ n1
      go_wp2_with fail
      go_loopg [57] (p + 1) (fun gh i wr => ∃ k : Nat, k ≤ p + 1 ∧ gh = p + 1 - k ∧ i = .int .i64 k ∧ wr = w2)
      case atStart => exact ⟨0, Nat.zero_le _, rfl, rfl, rfl⟩
      case round =>
        obtain ⟨k, hk, hgk, rfl, rfl⟩ := hrel
        have HGK := Lib.hid hgk
        clear hgk
        by_cases hlt : k < p + 1
        · obtain ⟨c1, f1⟩ := R2.out.2 k hlt
          clear f1
          by_cases hq : (k : Int) < N % (1 + (p : Int))
          all_goals
            first | simp only [if_pos hq] at c1 | simp only [if_neg hq, Int.add_zero] at c1
            go_wp2
            go_roundg (p + 1 - (k + 1))
            case measure => have := HGK.out; omega
            case rel => exact ⟨k + 1, by omega, rfl, by go_num, rfl⟩
        · obtain rfl : k = p + 1 := by omega
          clear hlt R2 HGK
          go_wp2_with fail
          go_loopg [15, 16, 17] 16 (fun gh v u i wr => ∃ k : Nat, k ≤ len3 ∧ k ≤ 16 ∧ gh = 16 - k ∧ i = .int .i64 k ∧ ∃ A A' c c', v = .slice A k c ∧ u = .slice A' k c' ∧ Own wr 3 w.heap.size v k (wEven g) ∧ Own wr 3 w.heap.size u k (fun j => wEven g j * (1 + t)) ∧ Apart v u ∧ Below w.heap.size w wr)
          case atStart => exact ⟨0, Nat.zero_le _, by omega, rfl, rfl, _, _, _, _, rfl, rfl, Own.nil _ _ _ _, Own.nil _ _ _ _, Apart.nil _, HB2.out⟩
          case round =>
            obtain ⟨k, hk, hk16, hgk, rfl, A, A', c, c', rfl, rfl, ho, hu, ha, hbw⟩ := hrel
            have HGK := Lib.hid hgk
            have HO := Lib.hid ho
            have HU := Lib.hid hu
            have HA := Lib.hid ha
            clear ho hu ha hgk HB2
            by_cases hlt : k < len3 ∧ k < 16
            · obtain ⟨h1, h2⟩ := hlt
              obtain ⟨b, off, rfl, hb, hc⟩ := HAt.out.some (by omega)
              have ck : wr.cell? ⟨b, off + k, none⟩ = some (.int .i64 (g k)) := (hbw.cell (p := ⟨b, off + k, none⟩) hb).trans (hc k h1)
              obtain ⟨x, hx⟩ : ∃ x, g k % 1000 = x := ⟨_, rfl⟩
              have x1 : 0 ≤ x := by omega
              have x2 : x ≤ 999 := by omega
              obtain ⟨m1, m2⟩ := mul_bd (n := 1 + x) (r := 1 + t) (A := 1000) (B := 900) (by omega) (by omega) (by omega) (by omega)
              have HX := Lib.hid hx
              clear hc hx
              go_wp2_with (first | (go_at_call 8; (with_reducible refine (within_at _ _ _ _ (by omega) (by omega) HX).mono ?_); rintro e w' ⟨rfl, rfl⟩) | (at_builtin; (refine wpList_push_int rfl (.tmp 87) (.tmp 94) rfl Try.underlying22 hi hz0 hz1 hz2 w w.heap.size k wr.heap.size (.slice A k c) (wEven g) (1 + x) rfl rfl (by simp) (HO.out.alloc _) (by omega) (hbw.alloc hbw.size _) (by have := hbw.size; simp; omega) (wr.heap.size + 1) (by simp) ?_; intro b1 c1 w1 ho1 hb1 hg1 hat1; have HO1 := Lib.hid ho1; have HU1 := Lib.hid ((HU.out.alloc (.cells #[.int .i64 (1 + x)] 3)).beside hg1 HA.out.symm); have HA1 := Lib.hid (HA.out.push (n := k + 1) (c := c1) HU.out hat1 (by omega)); have ck1 : w1.cell? ⟨b1, k, none⟩ = some (.int .i64 (1 + x)) := (by have := ((ho1.row (by omega)).2 k (by omega)).1; simpa using this); obtain ⟨f1, f2⟩ : k + 1 ≤ c1 ∧ c1 ≤ 9223372036854775807 := (by obtain ⟨_, _, e, e1, e2, _⟩ := ho1.form; injection e with _ _ e; subst e; unfold maxLen at e2; exact ⟨e1, e2⟩); clear ho1 hg1 hat1)) | (at_builtin; (refine wpList_push_int rfl (.tmp 96) (.tmp 103) rfl Try.underlying22 hi hz0 hz1 hz2 w w.heap.size k w1.heap.size (.slice A' k c') (fun j => wEven g j * (1 + t)) ((1 + x) * (1 + t)) rfl rfl (by simp) (HU1.out.alloc _) (by omega) (hb1.alloc hb1.size _) (by have := hb1.size; simp; omega) (w1.heap.size + 1) (by simp) ?_; intro b2 c2 w2 ho2 hb2 hg2 hat2; have HO2 := Lib.hid ((HO1.out.alloc (.cells #[.int .i64 ((1 + x) * (1 + t))] 3)).beside hg2 HA1.out); have HU2 := Lib.hid ho2; have HA2 := Lib.hid (HA1.out.symm.push (n := k + 1) (c := c2) HO1.out hat2 (by omega)).symm; clear ho2 hg2 hat2)))
              go_roundg (16 - (k + 1))
              case measure => have := HGK.out; omega
              case rel =>
                refine ⟨k + 1, by omega, by omega, rfl, by go_num, _, _, _, _, rfl, rfl, HO2.out.ext fun j hj => ?_, HU2.out.ext fun j hj => ?_, HA2.out, hb2⟩
                · by_cases e : j = k
                  · subst e; simp [wEven, HX.out]
                  · rw [if_neg e]
                · by_cases e : j = k
                  · subst e; simp [wEven, HX.out]
                  · rw [if_neg e]
            · have HB := Lib.hid hbw
              clear hbw HGK
              by_cases hz : k = 0
              · subst hz
                rcases (show ¬ 0 < len3 ∨ (0 < len3 ∧ ¬ 0 < 16) by omega) with hq | ⟨hq1, hq⟩
                · clear hlt
                  go_wp2_with fail
                  refine (wakes2_any _).mono ?_; rintro e w3 ⟨rfl, hb3⟩
                  have HB3 := Lib.hid (HB.out.trans (hb3.mono HB.out.size))
                  clear hb3
                  go_wp2
                  go_ret
                  exact ⟨rfl, HB3.out⟩
                · omega
              · have hk0 : 0 < k := by omega
                obtain ⟨b0, c0, e0, oc, ocm, ob, orow⟩ := HO.out.some hk0
                obtain ⟨b3, c3, e3, uc, ucm, ub, urow⟩ := HU.out.some hk0
                injection e0 with e01 _ e02
                subst e01; subst e02
                injection e3 with e31 _ e32
                subst e31; subst e32
                unfold maxLen at ocm ucm
                have R0 := Lib.hid orow
                have RU := Lib.hid urow
                obtain ⟨hS1, hS2⟩ := even_ok (t := 1 + t) n1 (by omega) k hk0 hk16 g (by omega) (by omega)
                have HS1 := Lib.hid hS1
                have HS2 := Lib.hid hS2
                have HP2 : Hid (∀ j, j < k → splitV N k (wEven g) j = splitV N k (fun j => wEven g j * (1 + t)) j) := Lib.hid fun j _ => by rw [splitV_scale n1 (by omega)]
                have hz' : ((k : Int) == 0) = false := by simp; omega
                clear hS1 hS2 orow urow ob ub HO HU HA hz HS
                rcases (show ¬ k < len3 ∨ (k < len3 ∧ ¬ k < 16) by omega) with hq | ⟨hq1, hq⟩
                all_goals
                  clear hlt
                  go_wp2_with fail
                  refine (split_yes N b0 0 k c _ _ R0.out.1 R0.out.hid HS1).mono ?_; rintro e w4 ⟨B4, rfl, hB4, hr4, hb4⟩
                  (replace RU := Lib.hid (RU.out.below hb4))
                  have HB4 := Lib.hid (HB.out.trans (hb4.mono HB.out.size))
                  have R4 := Lib.hid hr4
                  clear HB hb4 hB4 hr4 R0
                  go_wp2_with fail
                  refine (split_yes N b3 0 k c' _ _ RU.out.1 RU.out.hid HS2).mono ?_; rintro e w5 ⟨B5, rfl, hB5, hr5, hb5⟩
                  (replace R4 := Lib.hid (R4.out.below hb5))
                  have HB5 := Lib.hid (HB4.out.trans (hb5.mono HB4.out.size))
                  have R5 := Lib.hid hr5
                  clear HB4 hb5 hB5 hr5 RU
                  go_wp2_with fail
                  refine (same_true _ _ k _ _ _ _ _ R4.out.at R5.out.at (by omega) HP2.out).mono ?_; rintro e w6 ⟨rfl, hb6⟩
                  have HB6 := Lib.hid (HB5.out.trans (hb6.mono HB5.out.size))
                  clear HB5 hb6 R4 R5
                  go_wp2_with fail
                  refine (wakes2_any _).mono ?_; rintro e w7 ⟨rfl, hb7⟩
                  have HB7 := Lib.hid (HB6.out.trans (hb7.mono HB6.out.size))
                  clear HB6 hb7
                  go_wp2
                  go_ret
                  exact ⟨rfl, HB7.out⟩
end Go.Proofs.Ytgikhbfbjkdadaa
