/- SplitSums: its walk. -/
import Derived.Test.YtgikhbfbjkdadaaWakes02
import Derived.WalkKit
import Derived.WalkSpells
import Derived.WalkLawsBesides
import Derived.Lib.Hide
import Derived.Deep.QuietTactic
import Derived.BigQuiet
import Derived.Deep.LoopGhost
namespace Go.Proofs.Ytgikhbfbjkdadaa
open Go.RowKit

/-- the weights of SplitSums -/
def wSums (g : Nat → Int) : Nat → Int := fun j => g j % 1000
theorem wSums_bd (g : Nat → Int) (j : Nat) : Wgt (wSums g j) := by unfold wSums Wgt; omega
theorem wSums_tot (g : Nat → Int) (k : Nat) : 0 ≤ tot (wSums g) k ∧ tot (wSums g) k ≤ 1000 * (k : Int) := by
  refine ⟨tot_nonneg k fun j _ => (wSums_bd g j).1, ?_⟩
  have := tot_le (g := wSums g) (h := fun _ => 1000) k fun j _ => by unfold wSums; omega
  rw [tot_const] at this; exact this

set_option maxHeartbeats 4000000 in
set_option maxRecDepth 100000 in
theorem splitSums_walk (a0 : Int) (a1 : Option Addr) (len1 cap1 : Nat) (z1 : List Int) (w : World) (_w0 : (Lit.int .i64 a0).wf = true) (w1 : IsRow .i64 w a1 len1 cap1 z1) :
    Calls Try.prog 6 #[.int .i64 a0, .slice a1 len1 cap1] w fun e w' => e = .returned (.bool true) ∧ Below w.heap.size w w' := by
  obtain ⟨hAt, hlc, hcm, hA, hwf⟩ := w1.at
  unfold maxLen at hcm
  obtain ⟨g, hg⟩ : ∃ g : Nat → Int, g = fun j => z1.getD j 0 := ⟨_, rfl⟩
  rw [← hg] at hAt
  have HAt := Lib.hid hAt
  clear hwf w1 hg hA hAt
  obtain ⟨N, hN⟩ : ∃ N, a0 % 200000000001 = N + 100000000000 := ⟨a0 % 200000000001 - 100000000000, by omega⟩
  have n1 : -100000000000 ≤ N := by omega
  have n2 : N ≤ 100000000000 := by omega
  have HN := Lib.hid hN; clear hN
  obtain ⟨i0, hi, hz0, hz1, hz2⟩ := info_parts int_info
  go_enter Try.func6, Try.ntmps6
  go_wp2_with fail
  go_loopw [5, 6, 7] (fun v s i wr => ∃ k : Nat, k ≤ len1 ∧ k ≤ 16 ∧ i = .int .i64 k ∧ s = .int .i64 (tot (wSums g) k) ∧ ∃ A c, v = .slice A k c ∧ Own wr 3 w.heap.size v k (wSums g) ∧ Below w.heap.size w wr) (fun _ _ i _ => 16 - (intOf i).toNat)
  case atStart => exact ⟨0, Nat.zero_le _, by omega, rfl, rfl, _, _, rfl, Own.nil _ _ _ _, Below.refl _ _⟩
  case round =>
    obtain ⟨k, hk, hk16, rfl, rfl, A, c, rfl, ho, hbw⟩ := hrel
    have HO := Lib.hid ho
    obtain ⟨tb1, tb2⟩ := wSums_tot g k
    clear ho
    by_cases hlt : k < len1 ∧ k < 16
    · obtain ⟨h1, h2⟩ := hlt
      obtain ⟨b, off, rfl, hb, hc⟩ := HAt.out.some (by omega)
      have ck : wr.cell? ⟨b, off + k, none⟩ = some (.int .i64 (g k)) := (hbw.cell (p := ⟨b, off + k, none⟩) hb).trans (hc k h1)
      obtain ⟨x, hx⟩ : ∃ x, g k % 1000 = x := ⟨_, rfl⟩
      have x1 : 0 ≤ x := by omega
      have x2 : x ≤ 1000 := by omega
      have HX := Lib.hid hx
      obtain ⟨A0, cA, oc, ocm⟩ : ∃ A0 c0, Value.slice A k c = .slice A0 k c0 ∧ k ≤ c0 := by obtain ⟨A0, c0, e, e1, _⟩ := HO.out.form; exact ⟨A0, c0, e, e1⟩
      clear hc hx oc ocm cA A0
      go_wp2_with (first | (go_at_call 8; (with_reducible refine (within_at _ _ _ _ (by omega) (by omega) HX).mono ?_); rintro e w' ⟨rfl, rfl⟩) | (at_builtin; (refine wpList_push_int rfl (.tmp 24) (.tmp 30) rfl Try.underlying22 hi hz0 hz1 hz2 w w.heap.size k wr.heap.size (.slice A k c) (wSums g) x rfl rfl (by simp) (HO.out.alloc _) (by omega) (hbw.alloc hbw.size _) (by have := hbw.size; simp; omega) (wr.heap.size + 1) (by simp) ?_; intro b1 c1 w1 ho1 hb1 hg1 hat1; have HO1 := Lib.hid ho1; have ck1 : w1.cell? ⟨b1, k, none⟩ = some (.int .i64 x) := (by have := ((ho1.row (by omega)).2 k (by omega)).1; simpa using this); obtain ⟨f1, f2⟩ : k + 1 ≤ c1 ∧ c1 ≤ 9223372036854775807 := (by obtain ⟨_, _, e, e1, e2, _⟩ := ho1.form; injection e with _ _ e; subst e; unfold maxLen at e2; exact ⟨e1, e2⟩); clear ho1 hg1 hat1)))
      go_roundw
      case rel =>
        refine ⟨k + 1, by omega, by omega, by go_num, by rw [tot]; rw [show wSums g k = x from HX.out], _, _, rfl, HO1.out.ext fun j hj => ?_, hb1⟩
        by_cases e : j = k
        · subst e; simp [wSums, HX.out]
        · rw [if_neg e]
      case measure => simp [intOf]; omega
    · obtain ⟨T, hT⟩ : ∃ T, tot (wSums g) k = T := ⟨_, rfl⟩
      rw [hT] at tb1 tb2 ⊢
      have HB := Lib.hid hbw
      have HTT := Lib.hid hT
      clear hbw hT
      have HN' : Hid (a0 % 200000000001 = N + 100000000000) := HN
      by_cases hz : T = 0
      · subst hz
        have hAA : At wr A k (wSums g) := by
          obtain ⟨A0, c0, e, _, _, r⟩ := HO.out.at
          injection e with e1 _ e2
          subst e1; exact r
        have HAA := Lib.hid hAA
        have HNo : Hid (¬ SplitOk N k (wSums g)) := Lib.hid fun h => by have := h.2.2.2; rw [HTT.out] at this; omega
        clear hAA
        rcases (show ¬ k < len1 ∨ (k < len1 ∧ ¬ k < 16) by omega) with hq | ⟨hq1, hq⟩
        all_goals
          clear hlt
          go_wp2_with (first | (go_at_call 8; (with_reducible refine (within_at _ _ _ _ (by omega) (by omega) HN').mono ?_); rintro e w' ⟨rfl, rfl⟩) | (go_at_call 9; (with_reducible refine (split_no N A k c (wSums g) _ HAA.out HNo).mono ?_); rintro e w' ⟨rfl, rfl⟩) | (go_at_call 10; (with_reducible refine (wakes2_any _).mono ?_); rintro e w2 ⟨rfl, hb2⟩; have HB2 := Lib.hid (HB.out.trans (hb2.mono HB.out.size)); clear hb2))
          go_ret
          exact ⟨rfl, HB2.out⟩
      · have hk0 : 0 < k := by
          rcases Nat.eq_zero_or_pos k with e | e
          · subst e; have := HTT.out; simp [tot] at this; omega
          · exact e
        obtain ⟨b0, c0, e0, oc, ocm, ob, orow⟩ := HO.out.some hk0
        injection e0 with e01 _ e02
        subst e01; subst e02
        unfold maxLen at ocm
        have R0 := Lib.hid orow
        have hT0 : 0 < tot (wSums g) k := by rw [HTT.out]; omega
        have hS : SplitOk N k (wSums g) := ⟨⟨by omega, by omega⟩, by omega, fun j _ => wSums_bd g j, hT0⟩
        have HS := Lib.hid hS
        obtain ⟨V, hV⟩ : ∃ V, splitV N k (wSums g) = V := ⟨_, rfl⟩
        have HV1 : Hid (∀ j, j < k → Mon (V j)) := Lib.hid fun j hj => by rw [← hV]; exact splitV_bd hT0 ⟨by omega, by omega⟩ (fun j _ => wSums_bd g j) hj
        have HV2 : Hid (∀ j, j < k → -T < N * wSums g j - V j * T ∧ N * wSums g j - V j * T < T) := Lib.hid fun j hj => by
          have := splitV_off (n := N) hT0 hj; rw [HTT.out, hV] at this; exact this
        have HV3 : Hid (∀ i j, i < k → j < k → wSums g i < wSums g j → (0 ≤ N → V i ≤ V j) ∧ (N ≤ 0 → V j ≤ V i)) := Lib.hid fun i j h1 h2 h3 => by
          have := splitV_mono (n := N) hT0 h1 h2 h3; rw [hV] at this; exact this
        have HV4 : Hid (tot V k = N) := Lib.hid (by rw [← hV]; exact splitV_tot hT0)
        have HV := Lib.hid hV
        have HWB : Hid (∀ j, 0 ≤ wSums g j ∧ wSums g j ≤ 1000) := Lib.hid fun j => by unfold wSums; omega
        have hz' : (T == 0) = false := by simpa using hz
        clear hS orow ob HO hT0 hV hz
        rcases (show ¬ k < len1 ∨ (k < len1 ∧ ¬ k < 16) by omega) with hq | ⟨hq1, hq⟩
        all_goals
          clear hlt
          go_wp2_with (go_at_call 8; (with_reducible refine (within_at _ _ _ _ (by omega) (by omega) HN').mono ?_); rintro e w' ⟨rfl, rfl⟩)
          refine (split_yes N b0 0 k c _ _ R0.out.1 R0.out.hid HS).mono ?_; rintro e w2 ⟨B2, rfl, hB2, hr2, hb2⟩
          (replace R0 := Lib.hid (R0.out.below hb2))
          have HB2 := Lib.hid (HB.out.trans (hb2.mono HB.out.size))
          have R2 : Hid (Row w2 B2 k V) := Lib.hid (by rw [← HV.out]; exact hr2)
          clear HB hb2 hB2 hr2
          go_wp2_with fail
          go_loopg [10, 70] k (fun gh s i wr => ∃ m : Nat, m ≤ k ∧ gh = k - m ∧ i = .int .i64 m ∧ s = .int .i64 (tot V m) ∧ Below w2.heap.size w2 wr)
          case atStart => exact ⟨0, Nat.zero_le _, rfl, rfl, rfl, Below.refl _ _⟩
          case round =>
            obtain ⟨m, hm, hgk, rfl, rfl, hbr⟩ := hrel
            have HGK := Lib.hid hgk
            clear hgk
            obtain ⟨tv1, tv2⟩ := tot_bd V m (fun j hj => HV1.out j (by omega))
            by_cases hmk : m < k
            · obtain ⟨c1, _⟩ := (R0.out.below hbr).2 m hmk
              obtain ⟨c2, _⟩ := (R2.out.below hbr).2 m hmk
              obtain ⟨v1, v2⟩ := HV1.out m hmk
              obtain ⟨o1, o2⟩ := HV2.out m hmk
              obtain ⟨u1, u2⟩ := HWB.out m
              obtain ⟨y, hy⟩ : ∃ y, V m = y := ⟨_, rfl⟩
              obtain ⟨v, hv⟩ : ∃ v, wSums g m = v := ⟨_, rfl⟩
              rw [hy] at c2 v1 v2 o1 o2
              rw [hv] at c1 o1 o2 u1 u2
              obtain ⟨p1, p2⟩ := mul_bd (n := N) (r := v) (A := 100000000000) (B := 1000) n1 n2 u1 u2
              obtain ⟨p3, p4⟩ := mul_bd (n := y) (r := T) (A := 100000000000) (B := 16000) v1 v2 tb1 (by omega)
              have HBR := Lib.hid hbr
              have HY := Lib.hid hy
              have HVM := Lib.hid hv
              clear hy hv hbr
              go_wp2
              go_big_quiet (fail)
              go_wp2
              go_loopw [103] (fun i wr2 => ∃ q : Nat, q ≤ k ∧ i = .int .i64 q ∧ Below w2.heap.size w2 wr2) (fun i _ => k - (intOf i).toNat)
              case atStart => exact ⟨0, Nat.zero_le _, rfl, below_drawn HBR.out _⟩
              case round =>
                obtain ⟨q, hq', rfl, hbr2⟩ := hrel
                clear c1 c2
                by_cases hqk : q < k
                · obtain ⟨c1, _⟩ := (R0.out.below hbr2).2 m hmk
                  obtain ⟨c2, _⟩ := (R2.out.below hbr2).2 m hmk
                  obtain ⟨c3, _⟩ := (R0.out.below hbr2).2 q hqk
                  obtain ⟨c4, _⟩ := (R2.out.below hbr2).2 q hqk
                  have hmono := HV3.out m q hmk hqk
                  rw [HY.out] at c2 hmono
                  rw [HVM.out] at c1 hmono
                  obtain ⟨x, hx⟩ : ∃ x, V q = x := ⟨_, rfl⟩
                  obtain ⟨u, hu⟩ : ∃ u, wSums g q = u := ⟨_, rfl⟩
                  rw [hx] at c4 hmono
                  rw [hu] at c3 hmono
                  have HBR2 := Lib.hid hbr2
                  have HMO := Lib.hid hmono
                  clear hx hu hbr2 hmono
                  by_cases d1 : v < u
                  · have e1 : decide (v < u) = true := decide_eq_true d1
                    obtain ⟨m1, m2⟩ := HMO.out d1
                    have M1 := Lib.hid m1
                    have M2 := Lib.hid m2
                    clear m1 m2
                    rcases Int.lt_trichotomy N 0 with z | z | z
                    · have e2 : decide (0 ≤ N) = false := decide_eq_false (by omega)
                      have e3 : decide (N ≤ 0) = true := decide_eq_true (by omega)
                      have e4 : decide (y < x) = false := decide_eq_false (by have := M2.out (by omega); omega)
                      go_wp2
                      go_big_quiet (fail)
                      go_wp2
                      go_roundw
                      case rel => exact ⟨q + 1, by omega, by go_num, below_drawn HBR2.out _⟩
                      case measure => simp [intOf]; omega
                    · have e2 : decide (0 ≤ N) = true := decide_eq_true (by omega)
                      have e3 : decide (N ≤ 0) = true := decide_eq_true (by omega)
                      have e4 : decide (y < x) = false := decide_eq_false (by have := M2.out (by omega); omega)
                      have e5 : decide (x < y) = false := decide_eq_false (by have := M1.out (by omega); omega)
                      have Z := Lib.hid z
                      clear z
                      go_wp2
                      go_big_quiet (fail)
                      go_wp2
                      go_roundw
                      case rel => exact ⟨q + 1, by omega, by go_num, below_drawn HBR2.out _⟩
                      case measure => simp [intOf]; omega
                    · have e2 : decide (0 ≤ N) = true := decide_eq_true (by omega)
                      have e3 : decide (N ≤ 0) = false := decide_eq_false (by omega)
                      have e5 : decide (x < y) = false := decide_eq_false (by have := M1.out (by omega); omega)
                      go_wp2
                      go_big_quiet (fail)
                      go_wp2
                      go_roundw
                      case rel => exact ⟨q + 1, by omega, by go_num, below_drawn HBR2.out _⟩
                      case measure => simp [intOf]; omega
                  · have e1 : decide (v < u) = false := decide_eq_false d1
                    go_wp2
                    go_big_quiet (fail)
                    go_wp2
                    go_roundw
                    case rel => exact ⟨q + 1, by omega, by go_num, below_drawn HBR2.out _⟩
                    case measure => simp [intOf]; omega
                · obtain rfl : q = k := by omega
                  have HBR2 := Lib.hid hbr2
                  clear hbr2 hqk
                  go_wp2
                  go_roundg (q - (m + 1))
                  case measure => have := HGK.out; omega
                  case rel => exact ⟨m + 1, by omega, rfl, by go_num, by rw [tot, HY.out], HBR2.out⟩
            · obtain rfl : m = k := by omega
              have HB8 := Lib.hid (HB2.out.trans (hbr.mono HB2.out.size))
              clear hmk hbr
              rw [HV4.out]
              go_wp2_with (go_at_call 10; (with_reducible refine (wakes2_any _).mono ?_); rintro e w9 ⟨rfl, hb9⟩; have HB9 := Lib.hid (HB8.out.trans (hb9.mono HB8.out.size)); clear hb9)
              go_ret
              exact ⟨rfl, HB9.out⟩
end Go.Proofs.Ytgikhbfbjkdadaa
