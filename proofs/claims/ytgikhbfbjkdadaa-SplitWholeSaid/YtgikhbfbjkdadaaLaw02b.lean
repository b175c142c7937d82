/- SplitWhole: its walk. -/
import Derived.Test.YtgikhbfbjkdadaaWakes02
import Derived.WalkKit
import Derived.WalkSpells
import Derived.WalkLawsBesides
import Derived.Lib.Hide
namespace Go.Proofs.Ytgikhbfbjkdadaa
open Go.RowKit

/-- the weights of SplitWhole -/
def wWhole (g : Nat → Int) : Nat → Int := fun j => g j % 100
theorem wWhole_bd (g : Nat → Int) (j : Nat) : Wgt (wWhole g j) := by unfold wWhole Wgt; omega
theorem whole_tot (g : Nat → Int) (k : Nat) : 0 ≤ tot (wWhole g) k ∧ tot (wWhole g) k ≤ 100 * (k : Int) := by
  refine ⟨tot_nonneg k fun j _ => (wWhole_bd g j).1, ?_⟩
  have := tot_le (g := wWhole g) (h := fun _ => 100) k fun j _ => by unfold wWhole; omega
  rw [tot_const] at this; exact this
theorem whole_part (t : Int) (h1 : 0 ≤ t) (g : Nat → Int) (k : Nat) (hT : 0 < tot (wWhole g) k) (j : Nat) : splitV (tot (wWhole g) k * t) k (wWhole g) j = wWhole g j * t := by
  rw [splitV, if_neg (by have := Int.mul_nonneg (show 0 ≤ tot (wWhole g) k by omega) h1; omega)]
  exact splitF_whole hT rfl t

set_option maxHeartbeats 4000000 in
set_option maxRecDepth 100000 in
theorem splitWhole_walk (a0 : Option Addr) (len0 cap0 : Nat) (z0 : List Int) (a1 : Int) (w : World) (w0 : IsRow .i64 w a0 len0 cap0 z0) (_w1 : (Lit.int .i64 a1).wf = true) :
    Calls Try.prog 4 #[.slice a0 len0 cap0, .int .i64 a1] w fun e w' => e = .returned (.bool true) ∧ Below w.heap.size w w' := by
  obtain ⟨hAt, hlc, hcm, hA, hwf⟩ := w0.at
  unfold maxLen at hcm
  obtain ⟨g, hg⟩ : ∃ g : Nat → Int, g = fun j => z0.getD j 0 := ⟨_, rfl⟩
  rw [← hg] at hAt
  have HAt := Lib.hid hAt
  clear hwf w0 hg hA hAt
  obtain ⟨t, ht⟩ : ∃ t, a1 % 100000 = t := ⟨_, rfl⟩
  have t1 : 0 ≤ t := by omega
  have t2 : t ≤ 100000 := by omega
  have HT := Lib.hid ht; clear ht
  obtain ⟨i0, hi, hz0, hz1, hz2⟩ := info_parts int_info
  go_enter Try.func4, Try.ntmps4
  go_wp2_with (go_at_call 8; (with_reducible refine (within_at _ _ _ _ (by omega) (by omega) HT).mono ?_); rintro e w' ⟨rfl, rfl⟩)
  go_loopw [5, 6, 7, 8] (fun v u s i wr => ∃ k : Nat, k ≤ len0 ∧ k ≤ 16 ∧ i = .int .i64 k ∧ s = .int .i64 (tot (wWhole g) k) ∧ ∃ A A' c c', v = .slice A k c ∧ u = .slice A' k c' ∧ Own wr 3 w.heap.size v k (wWhole g) ∧ Own wr 3 w.heap.size u k (fun j => wWhole g j * t) ∧ Apart v u ∧ Below w.heap.size w wr) (fun _ _ _ i _ => 16 - (intOf i).toNat)
  case atStart => exact ⟨0, Nat.zero_le _, by omega, rfl, rfl, _, _, _, _, rfl, rfl, Own.nil _ _ _ _, Own.nil _ _ _ _, Apart.nil _, Below.refl _ _⟩
  case round =>
    obtain ⟨k, hk, hk16, rfl, rfl, A, A', c, c', rfl, rfl, ho, hu, ha, hbw⟩ := hrel
    have HO := Lib.hid ho
    have HU := Lib.hid hu
    have HA := Lib.hid ha
    obtain ⟨tb1, tb2⟩ := whole_tot g k
    clear ho hu ha
    by_cases hlt : k < len0 ∧ k < 16
    · obtain ⟨h1, h2⟩ := hlt
      obtain ⟨b, off, rfl, hb, hc⟩ := HAt.out.some (by omega)
      have ck : wr.cell? ⟨b, off + k, none⟩ = some (.int .i64 (g k)) := (hbw.cell (p := ⟨b, off + k, none⟩) hb).trans (hc k h1)
      obtain ⟨x, hx⟩ : ∃ x, g k % 100 = x := ⟨_, rfl⟩
      have x1 : 0 ≤ x := by omega
      have x2 : x ≤ 100 := by omega
      obtain ⟨p1, p2⟩ := mul_bd (n := x) (r := t) (A := 100) (B := 100000) (by omega) x2 t1 t2
      have HX := Lib.hid hx
      clear hc hx
      go_wp2_with (first | (go_at_call 8; (with_reducible refine (within_at _ _ _ _ (by omega) (by omega) HX).mono ?_); rintro e w' ⟨rfl, rfl⟩) | (at_builtin; (refine wpList_push_int rfl (.tmp 29) (.tmp 31) rfl Try.underlying22 hi hz0 hz1 hz2 w w.heap.size k wr.heap.size (.slice A k c) (wWhole g) x rfl rfl (by simp) (HO.out.alloc _) (by omega) (hbw.alloc hbw.size _) (by have := hbw.size; simp; omega) (wr.heap.size + 1) (by simp) ?_; intro b1 c1 w1 ho1 hb1 hg1 hat1; have HO1 := Lib.hid ho1; have HU1 := Lib.hid ((HU.out.alloc (.cells #[.int .i64 x] 3)).beside hg1 HA.out.symm); have HA1 := Lib.hid (HA.out.push (n := k + 1) (c := c1) HU.out hat1 (by omega)); clear ho1 hg1 hat1)) | (at_builtin; (refine wpList_push_int rfl (.tmp 33) (.tmp 37) rfl Try.underlying22 hi hz0 hz1 hz2 w w.heap.size k w1.heap.size (.slice A' k c') (fun j => wWhole g j * t) (x * t) rfl rfl (by simp) (HU1.out.alloc _) (by omega) (hb1.alloc hb1.size _) (by have := hb1.size; simp; omega) (w1.heap.size + 1) (by simp) ?_; intro b2 c2 w2 ho2 hb2 hg2 hat2; have HO2 := Lib.hid ((HO1.out.alloc (.cells #[.int .i64 (x * t)] 3)).beside hg2 HA1.out); have HU2 := Lib.hid ho2; have HA2 := Lib.hid (HA1.out.symm.push (n := k + 1) (c := c2) HO1.out hat2 (by omega)).symm; clear ho2 hg2 hat2)))
      go_roundw
      case rel =>
        refine ⟨k + 1, by omega, by omega, by go_num, by rw [tot]; rw [show wWhole g k = x from HX.out], _, _, _, _, rfl, rfl, HO2.out.ext fun j hj => ?_, HU2.out.ext fun j hj => ?_, HA2.out, hb2⟩
        · by_cases e : j = k
          · subst e; simp [wWhole, HX.out]
          · rw [if_neg e]
        · by_cases e : j = k
          · subst e; simp [wWhole, HX.out]
          · rw [if_neg e]
      case measure => simp [intOf]; omega
    · obtain ⟨T, hT⟩ : ∃ T, tot (wWhole g) k = T := ⟨_, rfl⟩
      rw [hT] at tb1 tb2 ⊢
      have HB := Lib.hid hbw
      have HTT := Lib.hid hT
      clear hbw hT
      obtain ⟨p1, p2⟩ := mul_bd (n := T) (r := t) (A := 1600) (B := 100000) (by omega) (by omega) t1 t2
      by_cases hz : T = 0
      · subst hz
        rcases (show ¬ k < len0 ∨ (k < len0 ∧ ¬ k < 16) by omega) with hq | ⟨hq1, hq⟩
        all_goals
          clear hlt
          go_wp2_with fail
          refine (wakes2_any _).mono ?_; rintro e w2 ⟨rfl, hb2⟩
          have HB2 := Lib.hid (HB.out.trans (hb2.mono HB.out.size))
          clear hb2
          go_wp2
          go_ret
          exact ⟨rfl, HB2.out⟩
      · have hk0 : 0 < k := by
          rcases Nat.eq_zero_or_pos k with e | e
          · subst e; have := HTT.out; simp [tot] at this; omega
          · exact e
        obtain ⟨b0, c0, e0, oc, ocm, ob, orow⟩ := HO.out.some hk0
        obtain ⟨b3, c3, e3, uc, ucm, ub, urow⟩ := HU.out.some hk0
        injection e0 with e01 _ e02
        subst e01; subst e02
        injection e3 with e31 _ e32
        subst e31; subst e32
        unfold maxLen at ocm ucm
        have R0 := Lib.hid orow
        have RU := Lib.hid urow
        have hS : SplitOk (T * t) k (wWhole g) := ⟨⟨by omega, by omega⟩, by omega, fun j _ => wWhole_bd g j, by rw [HTT.out]; omega⟩
        have HS := Lib.hid hS
        have HP : Hid (∀ j, j < k → splitV (T * t) k (wWhole g) j = wWhole g j * t) := Lib.hid fun j _ => by
          have := whole_part t t1 g k (by rw [HTT.out]; omega) j
          rwa [HTT.out] at this
        clear hS orow urow ob ub HO HU HA
        rcases (show ¬ k < len0 ∨ (k < len0 ∧ ¬ k < 16) by omega) with hq | ⟨hq1, hq⟩
        all_goals
          clear hlt
          go_wp2_with fail
          refine (split_yes (T * t) b0 0 k c _ _ R0.out.1 R0.out.hid HS).mono ?_; rintro e w2 ⟨B2, rfl, hB2, hr2, hb2⟩
          (replace RU := Lib.hid (RU.out.below hb2))
          have HB2 := Lib.hid (HB.out.trans (hb2.mono HB.out.size))
          have R2 := Lib.hid hr2
          clear HB hb2 hB2 hr2
          go_wp2_with fail
          refine (same_true _ _ k _ _ _ _ _ R2.out.at RU.out.at (by omega) HP.out).mono ?_; rintro e w3 ⟨rfl, hb3⟩
          have HB3 := Lib.hid (HB2.out.trans (hb3.mono HB2.out.size))
          clear HB2 hb3 RU R2
          go_wp2_with fail
          refine (wakes2_any _).mono ?_; rintro e w4 ⟨rfl, hb4⟩
          have HB4 := Lib.hid (HB3.out.trans (hb4.mono HB3.out.size))
          clear hb4 HB3
          go_wp2
          go_ret
          exact ⟨rfl, HB4.out⟩
end Go.Proofs.Ytgikhbfbjkdadaa
