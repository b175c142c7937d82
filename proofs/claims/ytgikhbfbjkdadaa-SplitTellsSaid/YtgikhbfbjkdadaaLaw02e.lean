/- SplitTells: its walk. -/
import Derived.Test.YtgikhbfbjkdadaaWakes02
import Derived.Test.YtgikhbfbjkdadaaRef02
import Derived.WalkKit
import Derived.WalkSpells
import Derived.WalkLawsBesides
import Derived.Lib.Hide
import Derived.Deep.LoopGhost
import Derived.Deep.RegionLaw
namespace Go.Proofs.Ytgikhbfbjkdadaa
open Go.RowKit

/-- what both divisions answer, as the statement holds them against each other -/
theorem tells_end (n : Int) (A : Option Addr) (len c : Nat) (h : Nat → Int) (w : World) (hA : At w A len h) (hl : len ≤ 1000000) :
    ∃ (v : Nat → Int) (m : Nat) (ok : Bool), m ≤ 1000000 ∧
      (∀ w', At w' A len h → Calls Try.prog 9 #[.int .i64 n, .slice A len c] w' fun e w1 => ∃ B C, e = .returned (.tuple #[.slice B m C, .bool ok]) ∧ At w1 B m v ∧ Below w'.heap.size w' w1) ∧
      (∀ w', At w' A len h → Calls Try.prog 15 #[.int .i64 n, .slice A len c] w' fun e w1 => ∃ B C, e = .returned (.tuple #[.slice B m C, .bool ok]) ∧ At w1 B m v ∧ Below w'.heap.size w' w1) := by
  by_cases hs : SplitOk n len h
  · have hp : 0 < len := by
      rcases Nat.eq_zero_or_pos len with e | e
      · subst e; have := hs.2.2.2; simp [tot] at this
      · exact e
    refine ⟨splitV n len h, len, true, hl, fun w' hA' => ?_, fun w' hA' => ?_⟩
    · obtain ⟨b, off, rfl, hb, hc⟩ := hA'.some hp
      refine (split_yes n b off len c h w' hb (Lib.hid hc) (Lib.hid hs)).mono ?_
      rintro e w1 ⟨B, rfl, _, hr, hbl⟩
      exact ⟨_, _, rfl, hr.at, hbl⟩
    · obtain ⟨b, off, rfl, hb, hc⟩ := hA'.some hp
      by_cases hn : n < 0
      · refine (rsplit_neg n b off len c h w' hb (Lib.hid hc) (Lib.hid hs) hn).mono ?_
        rintro e w1 ⟨B, C, rfl, _, hr, _, hbl⟩
        exact ⟨_, _, rfl, hr.at, hbl⟩
      · refine (rsplit_pos n b off len c h w' hb (Lib.hid hc) (Lib.hid hs) (by omega)).mono ?_
        rintro e w1 ⟨B, C, rfl, _, hr, _, hbl⟩
        exact ⟨_, _, rfl, hr.at, hbl⟩
  · refine ⟨fun _ => 0, 0, false, by omega, fun w' hA' => ?_, fun w' hA' => ?_⟩
    · refine (split_no n A len c h w' hA' (Lib.hid hs)).mono ?_
      rintro e w1 ⟨rfl, rfl⟩
      exact ⟨none, 0, rfl, .inl rfl, Below.refl _ _⟩
    · refine (rsplit_no n A len c h w' hA' hl (Lib.hid hs)).mono ?_
      rintro e w1 ⟨rfl, rfl⟩
      exact ⟨none, 0, rfl, .inl rfl, Below.refl _ _⟩

set_option maxHeartbeats 4000000 in
set_option maxRecDepth 100000 in
theorem splitTells_walk (a0 : Int) (a1 : Option Addr) (len1 cap1 : Nat) (z1 : List Int) (a2 : Int) (w : World) (_w0 : (Lit.int .i64 a0).wf = true) (w1 : IsRow .i64 w a1 len1 cap1 z1) (_w2 : (Lit.int .i64 a2).wf = true) :
    Calls Try.prog 5 #[.int .i64 a0, .slice a1 len1 cap1, .int .i64 a2] w fun e w' => e = .returned (.bool true) ∧ Below w.heap.size w w' := by
  have HI := Lib.hid w1
  clear w1
  obtain ⟨g, hg⟩ : ∃ g : Nat → Int, g = fun j => z1.getD j 0 := ⟨_, rfl⟩
  obtain ⟨n, hn⟩ : ∃ n, n = min len1 18 := ⟨_, rfl⟩
  have hn18 : n ≤ 18 := by omega
  have cc : ∀ w', w = w' → Calls Try.prog 12 #[.slice a1 len1 cap1, .int .i64 18] w' fun e w' => ∃ v, e = .returned v ∧ Own w' 3 w.heap.size v n g ∧ Below w.heap.size w w' := by
    rintro w' rfl
    rw [hn, hg]
    exact cut_row a1 len1 cap1 18 z1 w HI.out (by omega)
  have CC := Lib.hid cc
  clear cc hn hg HI
  obtain ⟨x, hx⟩ : ∃ x : Nat, a2 % 4 = x := ⟨(a2 % 4).toNat, by omega⟩
  have hx4 : x < 4 := by omega
  have HX := Lib.hid hx
  obtain ⟨D, hD⟩ : ∃ D, [3, 10, 1000001, 100].getD x (0 : Int) = D := ⟨_, rfl⟩
  have hD1 : 1 ≤ D ∧ D ≤ 1000001 := by
    rw [← hD]
    rcases (show x = 0 ∨ x = 1 ∨ x = 2 ∨ x = 3 by omega) with rfl | rfl | rfl | rfl <;> simp
  obtain ⟨D1, D2⟩ := hD1
  have HD := Lib.hid hD
  clear hx hD
  go_enter Try.func5, Try.ntmps5
  go_wp2_with fail
  refine (CC.out _ rfl).mono ?_; rintro e w1 ⟨v, rfl, ho, hb1⟩
  obtain ⟨A, c, rfl, hnc, hcm, hA⟩ := ho.form
  unfold maxLen at hcm
  have HO := Lib.hid ho
  have HB := Lib.hid hb1
  clear ho hb1 CC hA
  go_wp2
  go_loopg [18] n (fun gh i wr => ∃ (k : Nat) (h : Nat → Int), k ≤ n ∧ gh = n - k ∧ i = .int .i64 k ∧ Own wr 3 w.heap.size (.slice A n c) n h ∧ Below w.heap.size w wr)
  case atStart => exact ⟨0, g, Nat.zero_le _, rfl, rfl, HO.out, HB.out⟩
  case round =>
    obtain ⟨k, h, hk, hgk, rfl, ho, hbw⟩ := hrel
    have HGK := Lib.hid hgk
    clear hgk HO HB
    by_cases hlt : k < n
    · obtain ⟨b0, c0, e0, _, _, hb0, hr⟩ := ho.some (by omega)
      injection e0 with e1 _ e2
      subst e1; subst e2
      obtain ⟨c1, f1⟩ := hr.2 k hlt
      obtain ⟨z, hz⟩ : ∃ z, h k = z := ⟨_, rfl⟩
      rw [hz] at c1
      have HR := Lib.hid hr
      have HO := Lib.hid ho
      have HBW := Lib.hid hbw
      have HZ := Lib.hid hz
      clear hr hz ho hbw
      by_cases hc : a2.tmod 5 = 4
      · have hcb : (a2.tmod 5 != 4) = false := by simp [hc]
        clear hc
        go_wp2
        go_roundg (n - (k + 1))
        case measure => have := HGK.out; omega
        case rel => exact ⟨k + 1, h, by omega, rfl, by go_num, HO.out, HBW.out⟩
      · have hcb : (a2.tmod 5 != 4) = true := by simpa using hc
        clear hc
        obtain ⟨y, hy⟩ : ∃ y, z % D = y := ⟨_, rfl⟩
        have HY := Lib.hid hy
        clear hy
        have L := (lit_row wr [3, 10, 1000001, 100] 3).2 x hx4
        simp only [HD.out] at L
        have l1 : (wr.alloc (.cells #[.int .i64 3, .int .i64 10, .int .i64 1000001, .int .i64 100] 3)).cell? ⟨wr.heap.size, x, none⟩ = some (.int .i64 D) := L.1
        clear L
        have HRA := Lib.hid (HR.out.below ((Below.refl wr.heap.size wr).alloc (Nat.le_refl _) (.cells #[.int .i64 3, .int .i64 10, .int .i64 1000001, .int .i64 100] 3)))
        obtain ⟨c2, f2⟩ := HRA.out.2 k hlt
        rw [HZ.out] at c2
        have hx4' : (x : Int) < 4 := by omega
        go_wp2
        go_region_law ((first | (go_simp; go_at_call 8; (with_reducible refine (within_at _ _ _ _ (by omega) (by omega) HX).mono ?_); rintro e w' ⟨rfl, rfl⟩) | (go_simp; go_at_call 8; (with_reducible refine (within_at _ _ _ _ (by omega) (by omega) HY).mono ?_); rintro e w' ⟨rfl, rfl⟩)))
        all_goals
          go_wp2
          go_roundg (n - (k + 1))
          case measure => have := HGK.out; omega
          case rel => exact ⟨k + 1, _, by omega, rfl, by go_num, (HO.out.alloc _).set k y, ((HBW.out.alloc HBW.out.size _).setCell (p := ⟨b0, k, none⟩) hb0 _).drew⟩
    · obtain rfl : k = n := by omega
      have HO := Lib.hid ho
      have HB := Lib.hid hbw
      clear hlt ho hbw HGK
      go_wp2_with fail
      refine (amount_some a0 _).mono ?_; rintro e w' ⟨N, rfl, rfl⟩
      go_wp2_with fail
      refine (copy_own (.slice A k c) k w.heap.size h _ HO.out (by omega)).mono ?_; rintro e w2 ⟨v2, rfl, ho2, hb2⟩
      obtain ⟨A2, c2, rfl, hnc2, hcm2, hat2⟩ := ho2.at
      unfold maxLen at hcm2
      (replace HO := Lib.hid (HO.out.below hb2))
      have HB2 := Lib.hid (HB.out.trans (hb2.mono HB.out.size))
      have H2 := Lib.hid hat2
      obtain ⟨A0, c0, e0, _, _, hat⟩ := HO.out.at
      injection e0 with e1 _ e2
      subst e1; subst e2
      have HA := Lib.hid hat
      clear HB hb2 ho2 hat2 hat HO
      obtain ⟨v, m, ok, hm, HS1, HS2⟩ := tells_end N A k c h w2 HA.out (by omega)
      have HS1 := Lib.hid HS1
      have HS2 := Lib.hid HS2
      go_wp2_with fail
      refine (HS1.out _ HA.out).mono ?_; rintro e w3 ⟨B3, C3, rfl, h3, hb3⟩
      (replace HA := Lib.hid (HA.out.below hb3); replace H2 := Lib.hid (H2.out.below hb3))
      have HB3 := Lib.hid (HB2.out.trans (hb3.mono HB2.out.size))
      have H3 := Lib.hid h3
      clear HB2 hb3 h3 HS1
      go_wp2_with fail
      refine (HS2.out _ HA.out).mono ?_; rintro e w4 ⟨B4, C4, rfl, h4, hb4⟩
      (replace HA := Lib.hid (HA.out.below hb4); replace H2 := Lib.hid (H2.out.below hb4); replace H3 := Lib.hid (H3.out.below hb4))
      have HB4 := Lib.hid (HB3.out.trans (hb4.mono HB3.out.size))
      have H4 := Lib.hid h4
      clear HB3 hb4 h4 HS2
      go_wp2_with fail
      refine (same_true B3 B4 m _ _ _ _ _ H3.out H4.out hm (fun _ _ => rfl)).mono ?_; rintro e w5 ⟨rfl, hb5⟩
      (replace HA := Lib.hid (HA.out.below hb5); replace H2 := Lib.hid (H2.out.below hb5))
      have HB5 := Lib.hid (HB4.out.trans (hb5.mono HB4.out.size))
      clear HB4 hb5 H3 H4
      go_wp2_with fail
      refine (same_true A A2 k _ _ _ _ _ HA.out H2.out (by omega) (fun _ _ => rfl)).mono ?_; rintro e w6 ⟨rfl, hb6⟩
      have HB6 := Lib.hid (HB5.out.trans (hb6.mono HB5.out.size))
      clear HB5 hb6 HA H2
      go_wp2_with fail
      refine (wakes2_any _).mono ?_; rintro e w7 ⟨rfl, hb7⟩
      have HB7 := Lib.hid (HB6.out.trans (hb7.mono HB6.out.size))
      clear HB6 hb7
      go_wp2
      go_ret
      exact ⟨rfl, HB7.out⟩
end Go.Proofs.Ytgikhbfbjkdadaa
