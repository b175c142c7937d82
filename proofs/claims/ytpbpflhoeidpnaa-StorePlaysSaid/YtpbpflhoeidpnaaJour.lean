/- Package journal's functions: a contract for each. -/
import Derived.Test.YtpbpflhoeidpnaaRate
import Derived.Test.YtpbpflhoeidpnaaSides
import Derived.Test.YtpbpflhoeidpnaaChart
import Derived.Test.YtpbpflhoeidpnaaLine
import Derived.WalkKit
import Derived.WalkSpells
import Derived.WalkLawsBesides
import Derived.Lib.Hide
import Derived.Deep.LoopGhost
import Derived.Deep.QuietTactic
import Derived.BigQuiet
namespace Go.Proofs.Ytpbpflhoeidpnaa
open Go.RowKit
attribute [local go_sem] run_store_complex

theorem line_info : (Try.prog.info? 26).map (fun i => (i.zero, i.size, i.bytes)) = some (some (.agg #[.int .i64 0, .int .i64 0]), 2, 16) := by kernel_rfl
theorem mon_no {x : Int} (h : ¬ Mon x) : x < -100000000000 ∨ 100000000000 < x := by unfold Mon at h; omega

set_option maxHeartbeats 4000000 in
set_option maxRecDepth 100000 in
theorem summable_yes (A : Option Addr) (n c : Nat) (ga gm : Nat → Int) (w : World) (hA : AtL w A n ga gm) (hn : n ≤ 40) (HM : Hid (∀ j, j < n → Mon (gm j))) :
    Calls Try.prog 64 #[.slice A n c] w fun e w' => e = .returned (.bool true) ∧ Below w.heap.size w w' := by
  have HA := Lib.hid hA
  clear hA
  go_enter Try.func64, Try.ntmps64
  go_wp2
  go_loopg [10] n (fun gh i wr => ∃ k : Nat, k ≤ n ∧ gh = n - k ∧ i = .int .i64 k ∧ Below w.heap.size w wr)
  case atStart => exact ⟨0, Nat.zero_le _, by omega, rfl, Below.refl _ _⟩
  case round =>
    obtain ⟨k, hk, hgk, rfl, hbw⟩ := hrel
    have HGK := Lib.hid hgk
    have HB := Lib.hid hbw
    clear hgk hbw
    by_cases hlt : k < n
    · obtain ⟨b, off, rfl, hb, hc⟩ := HA.out.some (by omega)
      have ck := (HB.out.cell (p := ⟨b, off + k * 2, none⟩) hb).trans (hc k hlt).1
      have ck' := (HB.out.cell (p := ⟨b, off + k * 2 + 1, none⟩) hb).trans (hc k hlt).2
      have hm := HM.out k hlt
      obtain ⟨hm1, hm2⟩ := hm
      clear hc
      go_wp2_with (go_at_call 73; (with_reducible refine (money_yes _ _ hm1 hm2).mono ?_); rintro e w' ⟨rfl, rfl⟩)
      go_roundg (n - (k + 1))
      case measure => have := HGK.out; omega
      case rel => exact ⟨k + 1, by omega, rfl, by go_num, HB.out.alloc HB.out.size _⟩
    · go_wp2
      go_ret
      exact ⟨rfl, HB.out⟩
/-- too many lines -/
theorem summable_many (A : Option Addr) (n c : Nat) (w : World) (hn : 40 < n) :
    Calls Try.prog 64 #[.slice A n c] w fun e w' => e = .returned (.bool false) ∧ Below w.heap.size w w' := by
  go_enter Try.func64, Try.ntmps64
  go_wp2
  go_ret
  exact ⟨rfl, Below.refl _ _⟩
set_option maxHeartbeats 4000000 in
set_option maxRecDepth 100000 in
theorem summable_no (A : Option Addr) (n c i : Nat) (ga gm : Nat → Int) (w : World) (hA : AtL w A n ga gm) (hn : n ≤ 40) (hi : i < n) (HM : Hid (∀ j, j < i → Mon (gm j))) (HN : Hid (¬ Mon (gm i))) :
    Calls Try.prog 64 #[.slice A n c] w fun e w' => e = .returned (.bool false) ∧ Below w.heap.size w w' := by
  have HA := Lib.hid hA
  clear hA
  go_enter Try.func64, Try.ntmps64
  go_wp2
  go_loopg [10] n (fun gh s wr => ∃ k : Nat, k ≤ i ∧ gh = n - k ∧ s = .int .i64 k ∧ Below w.heap.size w wr)
  case atStart => exact ⟨0, Nat.zero_le _, by omega, rfl, Below.refl _ _⟩
  case round =>
    obtain ⟨k, hk, hgk, rfl, hbw⟩ := hrel
    have HGK := Lib.hid hgk
    have HB := Lib.hid hbw
    clear hgk hbw
    obtain ⟨b, off, rfl, hb, hc⟩ := HA.out.some (by omega)
    have hlt : k < n := by omega
    have ck := (HB.out.cell (p := ⟨b, off + k * 2, none⟩) hb).trans (hc k hlt).1
    have ck' := (HB.out.cell (p := ⟨b, off + k * 2 + 1, none⟩) hb).trans (hc k hlt).2
    clear hc
    by_cases hki : k < i
    · have hm := HM.out k hki
      obtain ⟨hm1, hm2⟩ := hm
      go_wp2_with (go_at_call 73; (with_reducible refine (money_yes _ _ hm1 hm2).mono ?_); rintro e w' ⟨rfl, rfl⟩)
      go_roundg (n - (k + 1))
      case measure => have := HGK.out; omega
      case rel => exact ⟨k + 1, by omega, rfl, by go_num, HB.out.alloc HB.out.size _⟩
    · have HN' : Hid (gm k < -100000000000 ∨ 100000000000 < gm k) := Lib.hid (by rw [show k = i by omega]; exact mon_no HN.out)
      go_wp2_with (go_at_call 73; (with_reducible refine (money_no _ _ HN'.out).mono ?_); rintro e w' ⟨rfl, rfl⟩)
      go_ret
      exact ⟨rfl, HB.out.alloc HB.out.size _⟩
/-- are there lines that are not money, there is a first one -/
theorem first_no {gm : Nat → Int} : ∀ {n : Nat}, ¬ (∀ j, j < n → Mon (gm j)) → ∃ i, i < n ∧ (∀ j, j < i → Mon (gm j)) ∧ ¬ Mon (gm i)
  | 0, h => absurd (fun j hj => by omega) h
  | n + 1, h => by
    by_cases q : ∀ j, j < n → Mon (gm j)
    · refine ⟨n, by omega, q, fun hq => h fun j hj => ?_⟩
      by_cases e : j = n
      · rw [e]; exact hq
      · exact q j (by omega)
    · obtain ⟨i, a, b, c⟩ := first_no q
      exact ⟨i, by omega, b, c⟩
/-- may lines be summed? -/
def Summ (n : Nat) (gm : Nat → Int) : Prop := n ≤ 40 ∧ ∀ j, j < n → Mon (gm j)
theorem summable_not (A : Option Addr) (n c : Nat) (ga gm : Nat → Int) (w : World) (hA : AtL w A n ga gm) (H : Hid (¬ Summ n gm)) :
    Calls Try.prog 64 #[.slice A n c] w fun e w' => e = .returned (.bool false) ∧ Below w.heap.size w w' := by
  by_cases hn : 40 < n
  · exact summable_many A n c w hn
  · obtain ⟨i, a, b, d⟩ := first_no (gm := gm) (n := n) fun q => H.out ⟨by omega, q⟩
    exact summable_no A n c i ga gm w hA (by omega) a (Lib.hid b) (Lib.hid d)
/-- a number's sides, be it money or not -/
theorem sof_any (n : Int) (w : World) :
    Calls Try.prog 76 #[.int .i64 n] w fun e w' => e = .returned (cx (dm n) (cm n)) ∧ w = w' := by
  by_cases h : Mon n
  · have e1 : dm n = dbt n := by unfold dm; rw [if_pos h]; rfl
    have e2 : cm n = cdt n := by unfold cm; rw [if_pos h]; rfl
    rw [e1, e2]; exact sof_in n w h
  · have e1 : dm n = 0 := by unfold dm; rw [if_neg h]
    have e2 : cm n = 0 := by unfold cm; rw [if_neg h]
    rw [e1, e2]
    unfold cx; rw [fl_zero]; exact sof_out n w (mon_no h)
set_option maxHeartbeats 4000000 in
set_option maxRecDepth 100000 in
theorem jsides_any (A : Option Addr) (n c : Nat) (ga gm : Nat → Int) (w : World) (hA : AtL w A n ga gm) (hn : n ≤ 1000) :
    Calls Try.prog 66 #[.slice A n c] w fun e w' => e = .returned (cx (tot (fun j => dm (gm j)) n) (tot (fun j => cm (gm j)) n)) ∧ Below w.heap.size w w' := by
  have HA := Lib.hid hA
  clear hA
  have HZ := Lib.hid fl_zero
  go_enter Try.func66, Try.ntmps66
  go_wp2
  go_loopg [3, 8] n (fun gh t i wr => ∃ k : Nat, k ≤ n ∧ gh = n - k ∧ i = .int .i64 k ∧ t = cx (tot (fun j => dm (gm j)) k) (tot (fun j => cm (gm j)) k) ∧ Below w.heap.size w wr)
  case atStart => exact ⟨0, Nat.zero_le _, by omega, rfl, by rw [tot, tot, cx, HZ.out], Below.refl _ _⟩
  case round =>
    obtain ⟨k, hk, hgk, rfl, rfl, hbw⟩ := hrel
    have HGK := Lib.hid hgk
    have HB := Lib.hid hbw
    clear hgk hbw
    by_cases hlt : k < n
    · obtain ⟨b, off, rfl, hb, hc⟩ := HA.out.some (by omega)
      have ck := (HB.out.cell (p := ⟨b, off + k * 2, none⟩) hb).trans (hc k hlt).1
      have ck' := (HB.out.cell (p := ⟨b, off + k * 2 + 1, none⟩) hb).trans (hc k hlt).2
      clear hc
      have h1 := dm_tot gm k
      have h2 := dm_bd (gm k)
      obtain ⟨D, hD⟩ : ∃ D, tot (fun j => dm (gm j)) k = D := ⟨_, rfl⟩
      obtain ⟨C, hC⟩ : ∃ C, tot (fun j => cm (gm j)) k = C := ⟨_, rfl⟩
      obtain ⟨d, hd⟩ : ∃ d, dm (gm k) = d := ⟨_, rfl⟩
      obtain ⟨r, hr⟩ : ∃ r, cm (gm k) = r := ⟨_, rfl⟩
      rw [hD, hC] at h1
      rw [hd, hr] at h2
      rw [hD, hC]
      have SO : Hid (∀ w, Calls Try.prog 76 #[.int .i64 (gm k)] w fun e w' => e = .returned (cx d r) ∧ w = w') := Lib.hid fun w => by have := sof_any (gm k) w; rwa [hd, hr] at this
      have HQ : Hid (tot (fun j => dm (gm j)) (k + 1) = D + d ∧ tot (fun j => cm (gm j)) (k + 1) = C + r) := Lib.hid ⟨by rw [tot, hD, hd], by rw [tot, hC, hr]⟩
      clear hD hC hd hr
      obtain ⟨x1, x2, x3, x4⟩ := h1
      obtain ⟨y1, y2, y3, y4⟩ := h2
      have ST : Hid (∀ (w : World) b, w.heap.size = b → Calls Try.prog 75 #[.slice (some ⟨b, 0, none⟩) 2 2] (w.alloc (.cells #[.complex .f64 (fl D) (fl C), .complex .f64 (fl d) (fl r)] 88)) fun e w' => e = .returned (.complex .f64 (fl (D + d)) (fl (C + r))) ∧ w.alloc (.cells #[.complex .f64 (fl D) (fl C), .complex .f64 (fl d) (fl r)] 88) = w') :=
        Lib.hid fun w b hb => ssum_two D C d r _ b w hb x1 x3 y1 y3 (by omega) (by omega)
      clear x1 x2 x3 x4 y1 y2 y3 y4
      go_wp2_with (first | (go_at_call 76; (with_reducible refine (SO.out _).mono ?_); rintro e w' ⟨rfl, rfl⟩) | (go_at_call 75; (with_reducible refine (ST.out _ _ (by simp)).mono ?_); rintro e w' ⟨rfl, rfl⟩))
      go_roundg (n - (k + 1))
      case measure => have := HGK.out; omega
      case rel => exact ⟨k + 1, by omega, rfl, by go_num, by rw [HQ.out.1, HQ.out.2], (HB.out.alloc HB.out.size _).alloc (by have := HB.out.size; simp; omega) _⟩
    · obtain rfl : k = n := by omega
      clear hlt
      go_wp2
      go_ret
      exact ⟨rfl, HB.out⟩
end Go.Proofs.Ytpbpflhoeidpnaa
