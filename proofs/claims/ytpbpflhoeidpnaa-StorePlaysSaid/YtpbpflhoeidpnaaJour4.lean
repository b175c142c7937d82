/- journal.Check: a contract for each answer. -/
import Derived.Test.YtpbpflhoeidpnaaJour2
import Derived.WalkKit
import Derived.WalkSpells
import Derived.WalkLawsBesides
import Derived.Lib.Hide
import Derived.Deep.LoopGhost
import Derived.Deep.QuietTactic
import Derived.BigQuiet
namespace Go.Proofs.Ytpbpflhoeidpnaa
open Go.RowKit

theorem cname_in (a : Int) (h1 : 1 ≤ a) (h2 : a ≤ 7) : ∃ s : ByteArray, s.toList ≠ [] ∧ ∀ w, Calls Try.prog 77 #[.int .i64 a] w fun e w' => e = .returned (.string s) ∧ w = w' := by
  obtain ⟨k, rfl⟩ : ∃ k : Nat, a = k := ⟨a.toNat, by omega⟩
  refine ⟨nm k, fun q => ?_, fun w => cname_at k w (by omega) (by omega)⟩
  have := nm_some (k := k) (by omega) (by omega)
  refine this ((bytes_is _ _).1 ?_)
  rw [q, ByteArray.toList_eq]; rfl
set_option maxHeartbeats 4000000 in
set_option maxRecDepth 100000 in
theorem sound_yes (A : Option Addr) (n c : Nat) (ga gm : Nat → Int) (w : World) (hA : AtL w A n ga gm) (hn : n ≤ 1000000) (HM : Hid (∀ j, j < n → LineOk (ga j) (gm j))) :
    Calls Try.prog 69 #[.slice A n c] w fun e w' => e = .returned (.bool true) ∧ Below w.heap.size w w' := by
  have HA := Lib.hid hA
  clear hA
  go_enter Try.func69, Try.ntmps69
  go_wp2
  go_loopg [7] n (fun gh i wr => ∃ k : Nat, k ≤ n ∧ gh = n - k ∧ i = .int .i64 k ∧ Below w.heap.size w wr)
  case atStart => exact ⟨0, Nat.zero_le _, by omega, rfl, Below.refl _ _⟩
  case round =>
    obtain ⟨k, hk, hgk, rfl, hbw⟩ := hrel
    have HGK := Lib.hid hgk
    have HB := Lib.hid hbw
    clear hgk hbw
    by_cases hlt : k < n
    · obtain ⟨b, off, rfl, hb, hc⟩ := HA.out.some (by omega)
      have ck := (HB.out.cell (p := ⟨b, off + k * 2, none⟩) hb).trans (hc k hlt).1
      have ck' := (HB.out.cell (p := ⟨b, off + k * 2 + 1, none⟩) hb).trans (hc k hlt).2
      obtain ⟨m1, m2, m3, m4, m5⟩ := HM.out k hlt
      obtain ⟨s, hs, sc⟩ := cname_in (ga k) m1 m2
      have SC := Lib.hid sc
      have hs' : (s.toList == ([] : List UInt8)) = false := by simpa using hs
      have hz : (gm k == 0) = false := by simpa using m3
      clear hc sc
      go_wp2_with (first | (go_at_call 73; (with_reducible refine (money_yes _ _ m4 m5).mono ?_); rintro e w' ⟨rfl, rfl⟩) | (go_at_call 77; (with_reducible refine (SC.out _).mono ?_); rintro e w' ⟨rfl, rfl⟩))
      go_roundg (n - (k + 1))
      case measure => have := HGK.out; omega
      case rel => exact ⟨k + 1, by omega, rfl, by go_num, HB.out.alloc HB.out.size _⟩
    · go_wp2
      go_ret
      exact ⟨rfl, HB.out⟩
set_option maxHeartbeats 4000000 in
set_option maxRecDepth 100000 in
theorem sound_no (A : Option Addr) (n c i : Nat) (ga gm : Nat → Int) (w : World) (hA : AtL w A n ga gm) (hn : n ≤ 1000000) (hi : i < n) (HM : Hid (∀ j, j < i → LineOk (ga j) (gm j))) (HN : Hid (¬ LineOk (ga i) (gm i))) :
    Calls Try.prog 69 #[.slice A n c] w fun e w' => e = .returned (.bool false) ∧ Below w.heap.size w w' := by
  have HA := Lib.hid hA
  clear hA
  go_enter Try.func69, Try.ntmps69
  go_wp2
  go_loopg [7] n (fun gh s wr => ∃ k : Nat, k ≤ i ∧ gh = n - k ∧ s = .int .i64 k ∧ Below w.heap.size w wr)
  case atStart => exact ⟨0, Nat.zero_le _, by omega, rfl, Below.refl _ _⟩
  case round =>
    obtain ⟨k, hk, hgk, rfl, hbw⟩ := hrel
    have HGK := Lib.hid hgk
    have HB := Lib.hid hbw
    clear hgk hbw
    obtain ⟨b, off, rfl, hb, hc⟩ := HA.out.some (by omega)
    have hlt : k < n := by omega
    have ck := (HB.out.cell (p := ⟨b, off + k * 2, none⟩) hb).trans (hc k hlt).1
    have ck' := (HB.out.cell (p := ⟨b, off + k * 2 + 1, none⟩) hb).trans (hc k hlt).2
    clear hc
    by_cases hki : k < i
    · obtain ⟨m1, m2, m3, m4, m5⟩ := HM.out k hki
      obtain ⟨s, hs, sc⟩ := cname_in (ga k) m1 m2
      have SC := Lib.hid sc
      have hs' : (s.toList == ([] : List UInt8)) = false := by simpa using hs
      have hz : (gm k == 0) = false := by simpa using m3
      clear sc
      go_wp2_with (first | (go_at_call 73; (with_reducible refine (money_yes _ _ m4 m5).mono ?_); rintro e w' ⟨rfl, rfl⟩) | (go_at_call 77; (with_reducible refine (SC.out _).mono ?_); rintro e w' ⟨rfl, rfl⟩))
      go_roundg (n - (k + 1))
      case measure => have := HGK.out; omega
      case rel => exact ⟨k + 1, by omega, rfl, by go_num, HB.out.alloc HB.out.size _⟩
    · have hN : ¬ LineOk (ga k) (gm k) := by rw [show k = i by omega]; exact HN.out
      clear hki
      by_cases q1 : 1 ≤ ga k ∧ ga k ≤ 7
      · obtain ⟨m1, m2⟩ := q1
        obtain ⟨s, hs, sc⟩ := cname_in (ga k) m1 m2
        have SC := Lib.hid sc
        have hs' : (s.toList == ([] : List UInt8)) = false := by simpa using hs
        clear sc
        by_cases q2 : gm k = 0
        · rw [q2] at ck'
          clear hN q2
          go_wp2_with (first | (go_at_call 77; (with_reducible refine (SC.out _).mono ?_); rintro e w' ⟨rfl, rfl⟩))
          go_ret
          exact ⟨rfl, HB.out.alloc HB.out.size _⟩
        · have hz : (gm k == 0) = false := by simpa using q2
          have hM : Hid (gm k < -100000000000 ∨ 100000000000 < gm k) := Lib.hid (mon_no fun q => hN ⟨m1, m2, q2, q⟩)
          clear hN q2
          go_wp2_with (first | (go_at_call 73; (with_reducible refine (money_no _ _ hM.out).mono ?_); rintro e w' ⟨rfl, rfl⟩) | (go_at_call 77; (with_reducible refine (SC.out _).mono ?_); rintro e w' ⟨rfl, rfl⟩))
          go_ret
          exact ⟨rfl, HB.out.alloc HB.out.size _⟩
      · have hM : Hid (ga k < 1 ∨ 7 < ga k) := Lib.hid (by omega)
        clear hN q1
        go_wp2_with (first | (go_at_call 77; (with_reducible refine (cname_no _ _ hM.out).mono ?_); rintro e w' ⟨rfl, rfl⟩))
        go_ret
        exact ⟨rfl, HB.out.alloc HB.out.size _⟩
theorem first_bad {P : Nat → Prop} : ∀ {n : Nat}, ¬ (∀ j, j < n → P j) → ∃ i, i < n ∧ (∀ j, j < i → P j) ∧ ¬ P i
  | 0, h => absurd (fun j hj => by omega) h
  | n + 1, h => by
    by_cases q : ∀ j, j < n → P j
    · refine ⟨n, by omega, q, fun hq => h fun j hj => ?_⟩
      by_cases e : j = n
      · rw [e]; exact hq
      · exact q j (by omega)
    · obtain ⟨i, a, b, c⟩ := first_bad q
      exact ⟨i, by omega, b, c⟩
set_option maxHeartbeats 4000000 in
set_option maxRecDepth 100000 in
theorem ascend_yes (A : Option Addr) (n c : Nat) (ga gm : Nat → Int) (w : World) (hA : AtL w A n ga gm) (hn : n ≤ 1000000) (HM : Hid (∀ j, j + 1 < n → ga j < ga (j + 1))) :
    Calls Try.prog 70 #[.slice A n c] w fun e w' => e = .returned (.bool true) ∧ Below w.heap.size w w' := by
  have HA := Lib.hid hA
  clear hA
  go_enter Try.func70, Try.ntmps70
  go_wp2
  go_loopg [3] n (fun gh i wr => ∃ k : Nat, (k + 1 ≤ n ∨ k = 0) ∧ gh = n - k ∧ i = .int .i64 ((k : Int) + 1) ∧ Below w.heap.size w wr)
  case atStart => exact ⟨0, .inr rfl, by omega, rfl, Below.refl _ _⟩
  case round =>
    obtain ⟨k, hk, hgk, rfl, hbw⟩ := hrel
    have HGK := Lib.hid hgk
    have HB := Lib.hid hbw
    clear hgk hbw
    by_cases hlt : k + 1 < n
    · obtain ⟨b, off, rfl, hb, hc⟩ := HA.out.some (by omega)
      have ck := (HB.out.cell (p := ⟨b, off + k * 2, none⟩) hb).trans (hc k (by omega)).1
      have ck' := (HB.out.cell (p := ⟨b, off + (k + 1) * 2, none⟩) hb).trans (hc (k + 1) hlt).1
      have hm := HM.out k hlt
      clear hc
      go_wp2
      go_big_quiet (fail)
      go_wp2
      go_roundg (n - (k + 1))
      case measure => have := HGK.out; omega
      case rel => exact ⟨k + 1, by omega, rfl, by go_num, below_drewN HB.out _⟩
    · go_wp2
      go_ret
      exact ⟨rfl, HB.out⟩
set_option maxHeartbeats 4000000 in
set_option maxRecDepth 100000 in
theorem ascend_no (A : Option Addr) (n c i : Nat) (ga gm : Nat → Int) (w : World) (hA : AtL w A n ga gm) (hn : n ≤ 1000000) (hi : i + 1 < n) (HM : Hid (∀ j, j < i → ga j < ga (j + 1))) (HN : Hid (ga (i + 1) ≤ ga i)) :
    Calls Try.prog 70 #[.slice A n c] w fun e w' => e = .returned (.bool false) ∧ Below w.heap.size w w' := by
  have HA := Lib.hid hA
  clear hA
  go_enter Try.func70, Try.ntmps70
  go_wp2
  go_loopg [3] n (fun gh s wr => ∃ k : Nat, k ≤ i ∧ gh = n - k ∧ s = .int .i64 ((k : Int) + 1) ∧ Below w.heap.size w wr)
  case atStart => exact ⟨0, Nat.zero_le _, by omega, rfl, Below.refl _ _⟩
  case round =>
    obtain ⟨k, hk, hgk, rfl, hbw⟩ := hrel
    have HGK := Lib.hid hgk
    have HB := Lib.hid hbw
    clear hgk hbw
    have hlt : k + 1 < n := by omega
    obtain ⟨b, off, rfl, hb, hc⟩ := HA.out.some (by omega)
    have ck := (HB.out.cell (p := ⟨b, off + k * 2, none⟩) hb).trans (hc k (by omega)).1
    have ck' := (HB.out.cell (p := ⟨b, off + (k + 1) * 2, none⟩) hb).trans (hc (k + 1) hlt).1
    clear hc
    by_cases hki : k < i
    · have hm := HM.out k hki
      go_wp2
      go_big_quiet (fail)
      go_wp2
      go_roundg (n - (k + 1))
      case measure => have := HGK.out; omega
      case rel => exact ⟨k + 1, by omega, rfl, by go_num, below_drewN HB.out _⟩
    · have hN : ga (k + 1) ≤ ga k := by have := HN.out; rw [show i = k by omega] at this; omega
      clear hki
      go_wp2
      go_big_quiet (fail)
      go_wp2
      go_ret
      exact ⟨rfl, below_drewN HB.out _⟩
/-- right lines -/
theorem jcheck_yes (A : Option Addr) (n c : Nat) (ga gm : Nat → Int) (w : World) (hA : AtL w A n ga gm) (H : Hid (Good n ga gm)) :
    Calls Try.prog 61 #[.slice A n c] w fun e w' => e = .returned (.int .i64 0) ∧ Below w.heap.size w w' := by
  have hn := H.out.1
  have H1 : Hid (∀ j, j < n → LineOk (ga j) (gm j)) := Lib.hid H.out.2.1
  have H2 : Hid (∀ j, j + 1 < n → ga j < ga (j + 1)) := Lib.hid H.out.2.2.1
  have h1 := dm_tot gm n
  have e1 := tot_net (gm := gm) (n := n) fun j hj => (H.out.2.1 j hj).2.2.2
  rw [H.out.2.2.2] at e1
  have HS := Lib.hid fun w hA => jsides_any A n c ga gm w hA (by omega)
  obtain ⟨D, hD⟩ : ∃ D, tot (fun j => dm (gm j)) n = D := ⟨_, rfl⟩
  obtain ⟨C, hC⟩ : ∃ C, tot (fun j => cm (gm j)) n = C := ⟨_, rfl⟩
  rw [hD, hC] at h1 e1 HS
  obtain ⟨x1, x2, x3, x4⟩ := h1
  have EV := Lib.hid fun w => even_yes D C w x1 (by omega) (by omega)
  have HA := Lib.hid hA
  clear hA hD hC e1
  go_enter Try.func61, Try.ntmps61
  go_wp2_with (first | (go_at_call 69; (with_reducible refine (sound_yes _ _ _ ga gm _ HA.out (by omega) H1).mono ?_); rintro e w2 ⟨rfl, hb2⟩; have HB2 := Lib.hid hb2; clear hb2) | (go_at_call 70; (with_reducible refine (ascend_yes _ _ _ ga gm _ (HA.out.below HB2.out) (by omega) H2).mono ?_); rintro e w3 ⟨rfl, hb3⟩; have HB3 := Lib.hid (HB2.out.trans (hb3.mono HB2.out.size)); clear hb3) | (go_at_call 66; (with_reducible refine (HS.out _ (HA.out.below HB3.out)).mono ?_); rintro e w4 ⟨rfl, hb4⟩; have HB4 := Lib.hid (HB3.out.trans (hb4.mono HB3.out.size)); clear hb4) | (go_at_call 71; (with_reducible refine (EV.out _).mono ?_); rintro e w' ⟨rfl, rfl⟩))
  go_ret
  exact ⟨rfl, HB4.out⟩
theorem jcheck_no (A : Option Addr) (n c : Nat) (ga gm : Nat → Int) (w : World) (hA : AtL w A n ga gm) (hnn : n ≤ 1000000) (H : Hid (¬ Good n ga gm)) :
    Calls Try.prog 61 #[.slice A n c] w fun e w' => e = .returned (.int .i64 2) ∧ Below w.heap.size w w' := by
  by_cases hn : n ≤ 20
  · by_cases h1 : ∀ j, j < n → LineOk (ga j) (gm j)
    · have H1 : Hid (∀ j, j < n → LineOk (ga j) (gm j)) := Lib.hid h1
      by_cases h2 : ∀ j, j + 1 < n → ga j < ga (j + 1)
      · have H2 : Hid (∀ j, j + 1 < n → ga j < ga (j + 1)) := Lib.hid h2
        have h0 : tot gm n ≠ 0 := fun q => H.out ⟨hn, h1, h2, q⟩
        have b1 := dm_tot gm n
        have e1 := tot_net (gm := gm) (n := n) fun j hj => (h1 j hj).2.2.2
        have HS := Lib.hid fun w hA => jsides_any A n c ga gm w hA (by omega)
        obtain ⟨D, hD⟩ : ∃ D, tot (fun j => dm (gm j)) n = D := ⟨_, rfl⟩
        obtain ⟨C, hC⟩ : ∃ C, tot (fun j => cm (gm j)) n = C := ⟨_, rfl⟩
        rw [hD, hC] at b1 e1 HS
        obtain ⟨x1, x2, x3, x4⟩ := b1
        have EV := Lib.hid fun w => even_no D C w x1 (by omega) x3 (by omega) (by omega)
        have HA := Lib.hid hA
        clear hA hD hC e1 h1 h2 h0
        go_enter Try.func61, Try.ntmps61
        go_wp2_with (first | (go_at_call 69; (with_reducible refine (sound_yes _ _ _ ga gm _ HA.out (by omega) H1).mono ?_); rintro e w2 ⟨rfl, hb2⟩; have HB2 := Lib.hid hb2; clear hb2) | (go_at_call 70; (with_reducible refine (ascend_yes _ _ _ ga gm _ (HA.out.below HB2.out) (by omega) H2).mono ?_); rintro e w3 ⟨rfl, hb3⟩; have HB3 := Lib.hid (HB2.out.trans (hb3.mono HB2.out.size)); clear hb3) | (go_at_call 66; (with_reducible refine (HS.out _ (HA.out.below HB3.out)).mono ?_); rintro e w4 ⟨rfl, hb4⟩; have HB4 := Lib.hid (HB3.out.trans (hb4.mono HB3.out.size)); clear hb4) | (go_at_call 71; (with_reducible refine (EV.out _).mono ?_); rintro e w' ⟨rfl, rfl⟩))
        go_ret
        exact ⟨rfl, HB4.out⟩
      · obtain ⟨i, a, b, d⟩ := first_bad (P := fun j => j + 1 < n → ga j < ga (j + 1)) (n := n) fun q => h2 fun j hj => q j (by omega) hj
        have hi : i + 1 < n := by
          rcases Nat.lt_or_ge (i + 1) n with q | q
          · exact q
          · exact absurd (fun q' => by omega) d
        have B : Hid (∀ j, j < i → ga j < ga (j + 1)) := Lib.hid fun j hj => b j hj (by omega)
        have D : Hid (ga (i + 1) ≤ ga i) := Lib.hid (by have q : ¬ ga i < ga (i + 1) := fun q => d fun _ => q; omega)
        have HA := Lib.hid hA
        clear hA h1 h2 a b d
        go_enter Try.func61, Try.ntmps61
        go_wp2_with (first | (go_at_call 69; (with_reducible refine (sound_yes _ _ _ ga gm _ HA.out (by omega) H1).mono ?_); rintro e w2 ⟨rfl, hb2⟩; have HB2 := Lib.hid hb2; clear hb2) | (go_at_call 70; (with_reducible refine (ascend_no _ _ _ i ga gm _ (HA.out.below HB2.out) (by omega) hi B D).mono ?_); rintro e w3 ⟨rfl, hb3⟩; have HB3 := Lib.hid (HB2.out.trans (hb3.mono HB2.out.size)); clear hb3))
        go_ret
        exact ⟨rfl, HB3.out⟩
    · obtain ⟨i, a, b, d⟩ := first_bad h1
      have B : Hid (∀ j, j < i → LineOk (ga j) (gm j)) := Lib.hid b
      have D : Hid (¬ LineOk (ga i) (gm i)) := Lib.hid d
      have HA := Lib.hid hA
      clear hA h1 b d
      go_enter Try.func61, Try.ntmps61
      go_wp2_with (first | (go_at_call 69; (with_reducible refine (sound_no _ _ _ i ga gm _ HA.out (by omega) a B D).mono ?_); rintro e w2 ⟨rfl, hb2⟩; have HB2 := Lib.hid hb2; clear hb2))
      go_ret
      exact ⟨rfl, HB2.out⟩
  · go_enter Try.func61, Try.ntmps61
    go_wp2
    go_ret
    exact ⟨rfl, Below.refl _ _⟩
end Go.Proofs.Ytpbpflhoeidpnaa
