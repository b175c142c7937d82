/- The document's own measures of deferred tax: a contract for each. -/
import Derived.Test.YtnhnimchjbhnfaaMsMath
import Derived.Test.YtnhnimchjbhnfaaREnact
import Derived.Test.YtnhnimchjbhnfaaRBucket
import Derived.Test.YtnhnimchjbhnfaaRefP
import Derived.Test.YtnhnimchjbhnfaaRef01
import Derived.Test.YtnhnimchjbhnfaaMem
import Derived.Test.YtnhnimchjbhnfaaInts
import Derived.WalkKit
import Derived.WalkSpells
import Derived.WalkLawsBesides
import Derived.Lib.Hide
import Derived.IntWalk
import Derived.Deep.LoopGhost
import Derived.Deep.QuietTactic
import Derived.BigQuiet
import Derived.Deep.RegionHeld3
namespace Go.Proofs.Ytnhnimchjbhnfaa
open Go.RowKit

theorem rshare_any (a r v e : Int) (H : ShareIs a r v e) (w : World) :
    Calls Try.prog 25 #[.int .i64 a, .int .i64 r] w fun e' w' => e' = .returned (.tuple #[.int .i64 v, .int .i64 e]) ∧ w = w' := by
  rcases H with ⟨h, rfl, rfl⟩ | ⟨⟨⟨h1, h2⟩, h3, h4⟩, rfl, rfl⟩
  · unfold RtOk at h
    rcases (show a < 0 ∨ (¬ a < 0 ∧ 100000000000 < a) ∨ (¬ a < 0 ∧ ¬ 100000000000 < a ∧ (r < 0 ∨ 1000000 < r)) by omega) with q | ⟨q1, q2⟩ | ⟨q1, q2, q3⟩
    all_goals
      clear h
      go_enter Try.func25, Try.ntmps25
      go_wp2_with (first | (go_at_call 40; (with_reducible refine (rrt_no _ _ (by omega)).mono ?_); rintro e w' ⟨rfl, rfl⟩))
      go_ret2
      exact ⟨rfl, rfl⟩
  · have E := Lib.hid (rfl : rof a r = rof a r)
    obtain ⟨x, hx⟩ : ∃ x, rof a r = x := ⟨_, rfl⟩
    have HX := Lib.hid hx
    rw [hx]
    clear hx E
    go_enter Try.func25, Try.ntmps25
    go_wp2_with (first | (go_at_call 40; (with_reducible refine (rrt_yes _ _ (by omega) (by omega)).mono ?_); rintro e w' ⟨rfl, rfl⟩) | (go_at_call 41; (with_reducible refine (rpart_v _ _ _ (by omega) (by omega) _ HX).mono ?_); rintro e w' ⟨rfl, rfl⟩))
    go_ret2
    exact ⟨rfl, rfl⟩
section
variable {w : World} {O : Nat → Nat} {base t sb n : Nat} {v : Value} {R : Nat → Rt}
theorem rnext_any (s : TabV 68 w O base t sb v n R) (j : ByteArray) (p a e : Int) (H : NextIs R n j p a e) :
    Calls Try.prog 21 #[ptr sb, .string j, .int .i64 p] w fun e' w' => e' = .returned (.tuple #[.int .i64 a, .int .i64 e]) ∧ Below w.heap.size w w' := by
  rcases H with ⟨h, rfl, rfl⟩ | ⟨⟨h1, h2⟩, rfl, rfl, hk⟩ | ⟨⟨h1, h2⟩, rfl, hk⟩
  · unfold PerOk at h
    go_enter Try.func21, Try.ntmps21
    go_wp2_with (first | (go_at_call 37; (with_reducible refine (rperiod_no _ _ (by omega)).mono ?_); rintro e w' ⟨rfl, rfl⟩))
    go_ret2
    exact ⟨rfl, Below.refl _ _⟩
  · have C := Lib.hid (rrate_any s j _ p 0 false hk)
    have q1 : ¬ 99 < p / 4 + 1 ∨ 99 < p / 4 + 1 := by omega
    clear s hk
    rcases q1 with q1 | q1
    · rw [show min (p / 4 + 1) 99 = p / 4 + 1 by omega] at C
      go_enter Try.func21, Try.ntmps21
      go_wp2_with (first | (go_at_call 37; (with_reducible refine (rperiod_yes _ _ (by omega) (by omega)).mono ?_); rintro e w' ⟨rfl, rfl⟩))
      refine (C.out).mono ?_
      rintro e w1 ⟨rfl, hb⟩
      have K1 := Lib.hid hb
      clear hb C
      go_wp2
      go_ret2
      exact ⟨rfl, K1.out⟩
    · rw [show min (p / 4 + 1) 99 = 99 by omega] at C
      go_enter Try.func21, Try.ntmps21
      go_wp2_with (first | (go_at_call 37; (with_reducible refine (rperiod_yes _ _ (by omega) (by omega)).mono ?_); rintro e w' ⟨rfl, rfl⟩))
      refine (C.out).mono ?_
      rintro e w1 ⟨rfl, hb⟩
      have K1 := Lib.hid hb
      clear hb C
      go_wp2
      go_ret2
      exact ⟨rfl, K1.out⟩
  · have C := Lib.hid (rrate_any s j _ p a true hk)
    have q1 : ¬ 99 < p / 4 + 1 ∨ 99 < p / 4 + 1 := by omega
    clear s hk
    rcases q1 with q1 | q1
    · rw [show min (p / 4 + 1) 99 = p / 4 + 1 by omega] at C
      go_enter Try.func21, Try.ntmps21
      go_wp2_with (first | (go_at_call 37; (with_reducible refine (rperiod_yes _ _ (by omega) (by omega)).mono ?_); rintro e w' ⟨rfl, rfl⟩))
      refine (C.out).mono ?_
      rintro e w1 ⟨rfl, hb⟩
      have K1 := Lib.hid hb
      clear hb C
      go_wp2
      go_ret2
      exact ⟨rfl, K1.out⟩
    · rw [show min (p / 4 + 1) 99 = 99 by omega] at C
      go_enter Try.func21, Try.ntmps21
      go_wp2_with (first | (go_at_call 37; (with_reducible refine (rperiod_yes _ _ (by omega) (by omega)).mono ?_); rintro e w' ⟨rfl, rfl⟩))
      refine (C.out).mono ?_
      rintro e w1 ⟨rfl, hb⟩
      have K1 := Lib.hid hb
      clear hb C
      go_wp2
      go_ret2
      exact ⟨rfl, K1.out⟩
set_option maxHeartbeats 4000000 in
theorem rrates_any (s : TabV 68 w O base t sb v n R) (j : ByteArray) (A : Option Addr) (m c : Nat) (g : Nat → Bk) (hr : AtR be 3 w A m g) (hm : m ≤ 1000) (p e : Int) (q : Nat) (r : Nat → Int) (H : RatesIs R n j g m p e q r) :
    Calls Try.prog 19 #[ptr sb, .string j, .slice A m c, .int .i64 p] w fun e' w' => ∃ v', e' = .returned (.tuple #[v', .int .i64 e]) ∧ Own w' 3 w.heap.size v' q r ∧ Below w.heap.size w w' := by
  obtain ⟨i0, hi, hz0, hz1, hz2⟩ := info_parts int_info
  by_cases hp : PerOk p
  · obtain ⟨L, hL, h1, h2, hres⟩ : ∃ L, L ≤ m ∧ (∀ k, k < L → Known R n j (max (g k).y (p / 4)) p (r k) true) ∧ (L < m → Known R n j (max (g L).y (p / 4)) p 0 false) ∧ ((L = m ∧ e = 0 ∧ q = m) ∨ (L < m ∧ e = 7 ∧ q = 0)) := by
      rcases H with ⟨h, _⟩ | ⟨_, rfl, rfl, i, k1, k2, k3⟩ | ⟨_, rfl, rfl, k1⟩
      · exact absurd hp h
      · exact ⟨i, by omega, k3, fun _ => k2, .inr ⟨k1, rfl, rfl⟩⟩
      · exact ⟨q, Nat.le_refl _, k1, fun h => by omega, .inl ⟨rfl, rfl, rfl⟩⟩
    obtain ⟨hp1, hp2⟩ := hp
    have HS := Lib.hid s
    have HR := Lib.hid hr
    have H1 := Lib.hid h1
    have H2 := Lib.hid h2
    have HV := Lib.hid hres
    obtain ⟨Y, hY⟩ : ∃ Y, p / 4 = Y := ⟨_, rfl⟩
    rw [hY] at H1 H2
    clear s hr h1 h2 hres H
    go_enter Try.func19, Try.ntmps19
    go_wp2_with (first | (go_at_call 37; (with_reducible refine (rperiod_yes _ _ (by omega) (by omega)).mono ?_); rintro e w' ⟨rfl, rfl⟩))
    go_loopg [10, 20] m (fun gh s10 i wr => ∃ (k : Nat) (f : Nat → Int), k ≤ L ∧ gh = m - k ∧ i = .int .i64 k ∧ (∀ j, j < k → f j = r j) ∧ Own wr 3 w.heap.size s10 k f ∧ Below w.heap.size w wr)
    case atStart => exact ⟨0, fun _ => 0, Nat.zero_le _, rfl, rfl, fun j hj => by omega, Own.nil _ _ _ _, Below.refl _ _⟩
    case round =>
      obtain ⟨k, f, hk, hgk, rfl, hf, ho, hbw⟩ := hrel
      have HGK := Lib.hid hgk
      have HW := Lib.hid hbw
      have HO := Lib.hid ho
      have HF := Lib.hid hf
      have hz := hbw.size
      clear hgk hbw ho hf
      by_cases hlt : k < m
      · obtain ⟨b, off, rfl, hb, c0, c1, c2⟩ := (HR.out.below HW.out).three hlt
        obtain ⟨y, hy⟩ : ∃ y, (g k).y = y := ⟨_, rfl⟩
        rw [hy] at c1
        by_cases hkL : k < L
        · have hk1 := H1.out k hkL
          rw [hy] at hk1
          obtain ⟨z, hzr⟩ : ∃ z, r k = z := ⟨_, rfl⟩
          rw [hzr] at hk1
          have HZ := Lib.hid hzr
          clear hy hzr
          rcases (show Y > y ∨ ¬ Y > y by omega) with hmx | hmx
          · rw [show max y Y = Y by omega] at hk1
            have C := Lib.hid fun w5 (kb : Below wr.heap.size wr w5) => rrate_any ((HS.out.below HW.out).below kb) j _ p z true hk1
            clear hk1
            go_wp2_with fail
            refine (C.out _ ((Below.refl _ _).alloc (Nat.le_refl _) _)).mono ?_
            rintro e w5 ⟨rfl, hb5⟩
            have hb5' := ((Below.refl wr.heap.size wr).alloc (Nat.le_refl _) (.cells #[.int .i64 (g k).c, .int .i64 y, .int .i64 (g k).a] 28)).trans (hb5.mono (by simp))
            have HO5 := Lib.hid (HO.out.below hb5')
            have HW5 := Lib.hid (HW.out.trans (hb5'.mono hz))
            have z5 : w.heap.size ≤ w5.heap.size := HW5.out.size
            clear hb5 hb5' C
            go_wp2_with (at_builtin; (refine wpList_push_int rfl (.tmp 38) (.tmp 40) rfl Try.underlying30 hi hz0 hz1 hz2 w w.heap.size k w5.heap.size _ f z rfl rfl (by simp) (HO5.out.alloc _) (by omega) (HW5.out.alloc z5 _) (by simp; omega) _ rfl ?_; intro b2 c3 w6 ho2 hb2 hg2 hat2; have HO2 := Lib.hid ho2; have HW2 := Lib.hid hb2; clear ho2 hb2 hg2 hat2))
            go_roundg (m - (k + 1))
            case measure => have := HGK.out; omega
            case rel => exact ⟨k + 1, _, by omega, rfl, by go_num, fun j hj => by
              by_cases e : j = k
              · rw [if_pos e, e, HZ.out]
              · rw [if_neg e]; exact HF.out j (by omega), HO2.out, HW2.out⟩
          · rw [show max y Y = y by omega] at hk1
            have C := Lib.hid fun w5 (kb : Below wr.heap.size wr w5) => rrate_any ((HS.out.below HW.out).below kb) j _ p z true hk1
            clear hk1
            go_wp2_with fail
            refine (C.out _ ((Below.refl _ _).alloc (Nat.le_refl _) _)).mono ?_
            rintro e w5 ⟨rfl, hb5⟩
            have hb5' := ((Below.refl wr.heap.size wr).alloc (Nat.le_refl _) (.cells #[.int .i64 (g k).c, .int .i64 y, .int .i64 (g k).a] 28)).trans (hb5.mono (by simp))
            have HO5 := Lib.hid (HO.out.below hb5')
            have HW5 := Lib.hid (HW.out.trans (hb5'.mono hz))
            have z5 : w.heap.size ≤ w5.heap.size := HW5.out.size
            clear hb5 hb5' C
            go_wp2_with (at_builtin; (refine wpList_push_int rfl (.tmp 38) (.tmp 40) rfl Try.underlying30 hi hz0 hz1 hz2 w w.heap.size k w5.heap.size _ f z rfl rfl (by simp) (HO5.out.alloc _) (by omega) (HW5.out.alloc z5 _) (by simp; omega) _ rfl ?_; intro b2 c3 w6 ho2 hb2 hg2 hat2; have HO2 := Lib.hid ho2; have HW2 := Lib.hid hb2; clear ho2 hb2 hg2 hat2))
            go_roundg (m - (k + 1))
            case measure => have := HGK.out; omega
            case rel => exact ⟨k + 1, _, by omega, rfl, by go_num, fun j hj => by
              by_cases e : j = k
              · rw [if_pos e, e, HZ.out]
              · rw [if_neg e]; exact HF.out j (by omega), HO2.out, HW2.out⟩
        · obtain rfl : k = L := by omega
          have hk1 := H2.out hlt
          rw [hy] at hk1
          obtain ⟨rfl, rfl⟩ : e = 7 ∧ q = 0 := by rcases HV.out with ⟨h, _⟩ | ⟨_, h⟩; omega; exact h
          clear hy hkL HV
          rcases (show Y > y ∨ ¬ Y > y by omega) with hmx | hmx
          · rw [show max y Y = Y by omega] at hk1
            have C := Lib.hid fun w5 (kb : Below wr.heap.size wr w5) => rrate_any ((HS.out.below HW.out).below kb) j _ p 0 false hk1
            clear hk1
            go_wp2_with fail
            refine (C.out _ ((Below.refl _ _).alloc (Nat.le_refl _) _)).mono ?_
            rintro e w5 ⟨rfl, hb5⟩
            have HW5 := Lib.hid (HW.out.trans ((((Below.refl wr.heap.size wr).alloc (Nat.le_refl _) (.cells #[.int .i64 (g k).c, .int .i64 y, .int .i64 (g k).a] 28)).trans (hb5.mono (by simp))).mono hz))
            clear hb5 C
            go_wp2
            go_ret2
            exact ⟨_, rfl, Own.nil _ _ _ _, HW5.out⟩
          · rw [show max y Y = y by omega] at hk1
            have C := Lib.hid fun w5 (kb : Below wr.heap.size wr w5) => rrate_any ((HS.out.below HW.out).below kb) j _ p 0 false hk1
            clear hk1
            go_wp2_with fail
            refine (C.out _ ((Below.refl _ _).alloc (Nat.le_refl _) _)).mono ?_
            rintro e w5 ⟨rfl, hb5⟩
            have HW5 := Lib.hid (HW.out.trans ((((Below.refl wr.heap.size wr).alloc (Nat.le_refl _) (.cells #[.int .i64 (g k).c, .int .i64 y, .int .i64 (g k).a] 28)).trans (hb5.mono (by simp))).mono hz))
            clear hb5 C
            go_wp2
            go_ret2
            exact ⟨_, rfl, Own.nil _ _ _ _, HW5.out⟩
      · obtain rfl : k = m := by omega
        obtain ⟨rfl, rfl⟩ : e = 0 ∧ q = k := by rcases HV.out with ⟨_, h⟩ | ⟨h, _⟩; exact h; omega
        obtain ⟨A7, c7, rfl, _, _⟩ := HO.out.form
        clear hlt HV
        go_wp2
        go_ret2
        exact ⟨_, rfl, HO.out.ext HF.out, HW.out⟩
  · obtain ⟨rfl, rfl⟩ : e = 1 ∧ q = 0 := by
      rcases H with ⟨_, h⟩ | ⟨h, _⟩ | ⟨h, _⟩
      · exact h
      · exact absurd h hp
      · exact absurd h hp
    unfold PerOk at hp
    clear H
    go_enter Try.func19, Try.ntmps19
    go_wp2_with (first | (go_at_call 37; (with_reducible refine (rperiod_no _ _ (by omega)).mono ?_); rintro e w' ⟨rfl, rfl⟩))
    go_ret2
    exact ⟨_, rfl, Own.nil _ _ _ _, Below.refl _ _⟩
end
end Go.Proofs.Ytnhnimchjbhnfaa
