/- The document's own answer whether lines are right; the right lines that statements are made of; the example: a contract for each. -/
import Derived.Test.YtpbpflhoeidpnaaJRef
import Derived.Test.YtpbpflhoeidpnaaJour3
import Derived.Test.YtpbpflhoeidpnaaJour4
import Derived.Test.YtpbpflhoeidpnaaPlay
import Derived.WalkKit
import Derived.WalkSpells
import Derived.WalkLawsBesides
import Derived.Lib.Hide
import Derived.Deep.LoopGhost
import Derived.Deep.QuietTactic
import Derived.BigQuiet
namespace Go.Proofs.Ytpbpflhoeidpnaa
open Go.RowKit

/-- what the document asks of the first k lines, one behind the other -/
def Upto (n : Nat) (ga gm : Nat → Int) : Prop := ∀ j, j < n → j < 20 ∧ LineOk (ga j) (gm j) ∧ (0 < j → ga (j - 1) < ga j)
theorem good_upto {n : Nat} {ga gm : Nat → Int} (h : Upto n ga gm) (h0 : tot gm n = 0) : Good n ga gm := by
  refine ⟨?_, fun j hj => (h j hj).2.1, fun j hj => ?_, h0⟩
  · rcases Nat.lt_or_ge 20 n with q | q
    · have := (h 20 q).1; omega
    · exact q
  · have := (h (j + 1) hj).2.2 (by omega); simpa using this
theorem upto_good {n : Nat} {ga gm : Nat → Int} (h : Good n ga gm) : Upto n ga gm := fun j hj => by
  refine ⟨by have := h.1; omega, h.2.1 j hj, fun hp => ?_⟩
  have := h.2.2.1 (j - 1) (by omega)
  rwa [show j - 1 + 1 = j by omega] at this
set_option maxHeartbeats 4000000 in
set_option maxRecDepth 100000 in
theorem rcheck_upto (A : Option Addr) (n c : Nat) (ga gm : Nat → Int) (q : Bool) (w : World) (hA : AtL w A n ga gm) (HM : Hid (Upto n ga gm)) (hn : n ≤ 20) (HQ : Hid ((tot gm n == 0) = q)) :
    Calls Try.prog 53 #[.slice A n c] w fun e w' => e = .returned (.bool q) ∧ Below w.heap.size w w' := by
  have HA := Lib.hid hA
  clear hA
  go_enter Try.func53, Try.ntmps53
  go_wp2
  go_loopg [3, 8] n (fun gh s i wr => ∃ k : Nat, k ≤ n ∧ gh = n - k ∧ i = .int .i64 k ∧ s = .int .i64 (tot gm k) ∧ Below w.heap.size w wr)
  case atStart => exact ⟨0, Nat.zero_le _, by omega, rfl, rfl, Below.refl _ _⟩
  case round =>
    obtain ⟨k, hk, hgk, rfl, rfl, hbw⟩ := hrel
    have HGK := Lib.hid hgk
    have HB := Lib.hid hbw
    clear hgk hbw
    by_cases hlt : k < n
    · obtain ⟨b, off, rfl, hb, hc⟩ := HA.out.some (by omega)
      have ck := (HB.out.cell (p := ⟨b, off + k * 2, none⟩) hb).trans (hc k hlt).1
      have ck' := (HB.out.cell (p := ⟨b, off + k * 2 + 1, none⟩) hb).trans (hc k hlt).2
      have hwr : b < wr.heap.size := Nat.lt_of_lt_of_le hb HB.out.size
      obtain ⟨u1, ⟨m1, m2, m3, m4, m5⟩, u2⟩ := HM.out k hlt
      have bd := tot_abs (g := gm) (B := 100000000000) (by omega) k fun j hj => by have := (HM.out j (by omega)).2.1.2.2.2; unfold Mon at this; omega
      obtain ⟨bd1, bd2⟩ := bd
      obtain ⟨s, hs⟩ : ∃ s, tot gm k = s := ⟨_, rfl⟩
      rw [hs] at bd1 bd2
      rw [hs]
      have HS := Lib.hid hs
      have hz : (gm k == 0) = false := by simpa using m3
      have hi20 : decide (20 ≤ (k : Int)) = false := by simp; omega
      have hm4 := m4
      have hm5 := m5
      clear hs m3
      rcases Nat.eq_zero_or_pos k with hk0 | hk0
      · have hgt : decide (0 < k) = false := by simp; omega
        clear hk0
        clear hc u2
        go_wp2
        go_big_quiet ((first | (go_at_call 67; exact quiet_same (racc_yes _ _ m1 m2)) | (go_at_call 51; exact quiet_same (rmon_yes _ _ m4 m5))))
        go_wp2
        go_roundg (n - (k + 1))
        case measure => have := HGK.out; omega
        case rel => exact ⟨k + 1, by omega, rfl, by go_num, by rw [tot, HS.out], below_drewN (HB.out.alloc HB.out.size _) _⟩
      · have cp := (HB.out.cell (p := ⟨b, off + (k - 1) * 2, none⟩) hb).trans (hc (k - 1) (by omega)).1
        have hgt : decide (0 < k) = true := by simp; omega
        have up := u2 hk0
        have hup : decide (ga k ≤ ga (k - 1)) = false := by simp; omega
        have e1 : ((k : Int) - 1).toNat = k - 1 := by omega
        clear hc u2
        go_wp2
        go_big_quiet ((first | (go_at_call 67; exact quiet_same (racc_yes _ _ m1 m2)) | (go_at_call 51; exact quiet_same (rmon_yes _ _ m4 m5))))
        go_wp2
        go_roundg (n - (k + 1))
        case measure => have := HGK.out; omega
        case rel => exact ⟨k + 1, by omega, rfl, by go_num, by rw [tot, HS.out], below_drewN (HB.out.alloc HB.out.size _) _⟩
    · obtain rfl : k = n := by omega
      go_wp2
      go_ret
      exact ⟨ret_b HQ.out, HB.out⟩
set_option maxHeartbeats 4000000 in
set_option maxRecDepth 100000 in
theorem rcheck_not (A : Option Addr) (n c i : Nat) (ga gm : Nat → Int) (w : World) (hA : AtL w A n ga gm) (hn : n ≤ 1000000) (hin : i < n) (HM : Hid (Upto i ga gm)) (HN : Hid (¬ (i < 20 ∧ LineOk (ga i) (gm i) ∧ (0 < i → ga (i - 1) < ga i)))) :
    Calls Try.prog 53 #[.slice A n c] w fun e w' => e = .returned (.bool false) ∧ Below w.heap.size w w' := by
  have HA := Lib.hid hA
  have hi20 : i ≤ 20 := by
    rcases Nat.lt_or_ge 20 i with q | q
    · have := (HM.out 20 q).1; omega
    · exact q
  clear hA
  go_enter Try.func53, Try.ntmps53
  go_wp2
  go_loopg [3, 8] n (fun gh s v wr => ∃ k : Nat, k ≤ i ∧ gh = n - k ∧ v = .int .i64 k ∧ s = .int .i64 (tot gm k) ∧ Below w.heap.size w wr)
  case atStart => exact ⟨0, Nat.zero_le _, by omega, rfl, rfl, Below.refl _ _⟩
  case round =>
    obtain ⟨k, hk, hgk, rfl, rfl, hbw⟩ := hrel
    have HGK := Lib.hid hgk
    have HB := Lib.hid hbw
    clear hgk hbw
    obtain ⟨b, off, rfl, hb, hc⟩ := HA.out.some (by omega)
    have hlt : k < n := by omega
    have ck := (HB.out.cell (p := ⟨b, off + k * 2, none⟩) hb).trans (hc k hlt).1
    have ck' := (HB.out.cell (p := ⟨b, off + k * 2 + 1, none⟩) hb).trans (hc k hlt).2
    have hwr : b < wr.heap.size := Nat.lt_of_lt_of_le hb HB.out.size
    have bd := tot_abs (g := gm) (B := 100000000000) (by omega) k fun j hj => by have := (HM.out j (by omega)).2.1.2.2.2; unfold Mon at this; omega
    obtain ⟨bd1, bd2⟩ := bd
    obtain ⟨s, hs⟩ : ∃ s, tot gm k = s := ⟨_, rfl⟩
    rw [hs] at bd1 bd2
    rw [hs]
    have HS := Lib.hid hs
    clear hs
    by_cases hki : k < i
    · obtain ⟨u1, ⟨m1, m2, m3, m4, m5⟩, u2⟩ := HM.out k hki
      have hz : (gm k == 0) = false := by simpa using m3
      have hi20' : decide (20 ≤ (k : Int)) = false := by simp; omega
      clear m3
      rcases Nat.eq_zero_or_pos k with hk0 | hk0
      · have hgt : decide (0 < k) = false := by simp; omega
        clear hk0
        clear hc u2
        go_wp2
        go_big_quiet ((first | (go_at_call 67; exact quiet_same (racc_yes _ _ m1 m2)) | (go_at_call 51; exact quiet_same (rmon_yes _ _ m4 m5))))
        go_wp2
        go_roundg (n - (k + 1))
        case measure => have := HGK.out; omega
        case rel => exact ⟨k + 1, by omega, rfl, by go_num, by rw [tot, HS.out], below_drewN (HB.out.alloc HB.out.size _) _⟩
      · have cp := (HB.out.cell (p := ⟨b, off + (k - 1) * 2, none⟩) hb).trans (hc (k - 1) (by omega)).1
        have hgt : decide (0 < k) = true := by simp; omega
        have up := u2 hk0
        have hup : decide (ga k ≤ ga (k - 1)) = false := by simp; omega
        have e1 : ((k : Int) - 1).toNat = k - 1 := by omega
        clear hc u2
        go_wp2
        go_big_quiet ((first | (go_at_call 67; exact quiet_same (racc_yes _ _ m1 m2)) | (go_at_call 51; exact quiet_same (rmon_yes _ _ m4 m5))))
        go_wp2
        go_roundg (n - (k + 1))
        case measure => have := HGK.out; omega
        case rel => exact ⟨k + 1, by omega, rfl, by go_num, by rw [tot, HS.out], below_drewN (HB.out.alloc HB.out.size _) _⟩
    · have hN : ¬ (k < 20 ∧ LineOk (ga k) (gm k) ∧ (0 < k → ga (k - 1) < ga k)) := by rw [show k = i by omega]; exact HN.out
      clear hki HS
      by_cases q20 : 20 ≤ k
      · have hi20' : decide (20 ≤ (k : Int)) = true := by simp; omega
        clear hc hN
        go_wp2
        go_big_quiet (fail)
        go_wp2
        go_ret
        exact ⟨rfl, below_drewN (HB.out.alloc HB.out.size _) _⟩
      · have hi20' : decide (20 ≤ (k : Int)) = false := by simp; omega
        by_cases q1 : 1 ≤ ga k ∧ ga k ≤ 7
        · obtain ⟨m1, m2⟩ := q1
          by_cases q2 : gm k = 0
          · rw [q2] at ck'
            clear hN q2 hc
            go_wp2
            go_big_quiet ((go_at_call 67; exact quiet_same (racc_yes _ _ m1 m2)))
            go_wp2
            go_ret
            exact ⟨rfl, below_drewN (HB.out.alloc HB.out.size _) _⟩
          · have hz : (gm k == 0) = false := by simpa using q2
            by_cases q3 : Mon (gm k)
            · obtain ⟨m4, m5⟩ := q3
              have hk0 : 0 < k := by
                rcases Nat.eq_zero_or_pos k with q | q
                · exact absurd ⟨by omega, ⟨m1, m2, q2, m4, m5⟩, fun h => by omega⟩ hN
                · exact q
              have cp := (HB.out.cell (p := ⟨b, off + (k - 1) * 2, none⟩) hb).trans (hc (k - 1) (by omega)).1
              have hgt : decide (0 < k) = true := by simp; omega
              have up : ga k ≤ ga (k - 1) := by
                rcases Int.lt_or_le (ga (k - 1)) (ga k) with q | q
                · exact absurd ⟨by omega, ⟨m1, m2, q2, m4, m5⟩, fun _ => q⟩ hN
                · exact q
              have hup : decide (ga k ≤ ga (k - 1)) = true := by simpa using up
              have e1 : ((k : Int) - 1).toNat = k - 1 := by omega
              clear hc hN q2
              go_wp2
              go_big_quiet ((first | (go_at_call 67; exact quiet_same (racc_yes _ _ m1 m2)) | (go_at_call 51; exact quiet_same (rmon_yes _ _ m4 m5))))
              go_wp2
              go_ret
              exact ⟨rfl, below_drewN (HB.out.alloc HB.out.size _) _⟩
            · have hM : Hid (gm k < -100000000000 ∨ 100000000000 < gm k) := Lib.hid (mon_no q3)
              clear hN q2 q3 hc
              go_wp2
              go_big_quiet ((first | (go_at_call 67; exact quiet_same (racc_yes _ _ m1 m2)) | (go_at_call 51; exact quiet_same (rmon_no _ _ hM.out))))
              go_wp2
              go_ret
              exact ⟨rfl, below_drewN (HB.out.alloc HB.out.size _) _⟩
        · have hM : Hid (ga k < 1 ∨ 7 < ga k) := Lib.hid (by omega)
          clear hN q1 hc
          go_wp2
          go_big_quiet ((go_at_call 67; exact quiet_same (racc_no _ _ hM.out)))
          go_wp2
          go_ret
          exact ⟨rfl, below_drewN (HB.out.alloc HB.out.size _) _⟩

theorem rcheck_yes (A : Option Addr) (n c : Nat) (ga gm : Nat → Int) (w : World) (hA : AtL w A n ga gm) (H : Hid (Good n ga gm)) :
    Calls Try.prog 53 #[.slice A n c] w fun e w' => e = .returned (.bool true) ∧ Below w.heap.size w w' :=
  rcheck_upto A n c ga gm true w hA (Lib.hid (upto_good H.out)) H.out.1 (Lib.hid (by rw [H.out.2.2.2]; rfl))
theorem rcheck_no (A : Option Addr) (n c : Nat) (ga gm : Nat → Int) (w : World) (hA : AtL w A n ga gm) (hn : n ≤ 1000000) (H : Hid (¬ Good n ga gm)) :
    Calls Try.prog 53 #[.slice A n c] w fun e w' => e = .returned (.bool false) ∧ Below w.heap.size w w' := by
  by_cases h : Upto n ga gm
  · have hn2 : n ≤ 20 := by
      rcases Nat.lt_or_ge 20 n with q | q
      · have := (h 20 q).1; omega
      · exact q
    exact rcheck_upto A n c ga gm false w hA (Lib.hid h) hn2 (Lib.hid (by have := fun q => H.out (good_upto h q); simpa using this))
  · obtain ⟨i, a, b, d⟩ := first_bad h
    exact rcheck_not A n c i ga gm w hA hn a (Lib.hid b) (Lib.hid d)
end Go.Proofs.Ytpbpflhoeidpnaa
