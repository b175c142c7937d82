/- SidesTell: its walk. -/
import Derived.Test.YtiakfkeeiokliaaSides
import Derived.Test.YtiakfkeeiokliaaPlay
import Derived.WalkKit
import Derived.WalkSpells
import Derived.WalkLawsBesides
import Derived.Lib.Hide
import Derived.Deep.LoopGhost
namespace Go.Proofs.Ytiakfkeeiokliaa
open Go.RowKit
attribute [local go_sem] run_store_complex

set_option maxHeartbeats 4000000 in
set_option maxRecDepth 100000 in
theorem sidesTell_walk (a0 : Option Addr) (len0 cap0 : Nat) (z0 : List Int) (w : World) (w0 : IsRow .i64 w a0 len0 cap0 z0) :
    Calls Try.prog 5 #[.slice a0 len0 cap0] w fun e w' => e = .returned (.bool true) ∧ Below w.heap.size w w' := by
  obtain ⟨hAt, hlc, hcm, hA, hwf⟩ := w0.at
  unfold maxLen at hcm
  obtain ⟨g, hg⟩ : ∃ g : Nat → Int, g = fun j => z0.getD j 0 := ⟨_, rfl⟩
  rw [← hg] at hAt
  have HAt := Lib.hid hAt
  clear hwf w0 hg hA hAt
  obtain ⟨i0, hi, hz0, hz1, hz2⟩ := info_parts cpl_info
  have o0 : (FloatKind.f64.format.order 0 0 == some .eq) = true := by decide
  have o0' : (FloatKind.f64.format.order 0 0 != some .eq) = false := by decide
  go_enter Try.func5, Try.ntmps5
  go_wp2
  go_loopg [3, 4, 5, 6] 40 (fun gh D C v i wr => ∃ (k m : Nat) (gd gc : Nat → Int), k ≤ len0 ∧ k ≤ 40 ∧ m ≤ k ∧ gh = 40 - k ∧ i = .int .i64 k ∧ D = .int .i64 (tot gd m) ∧ C = .int .i64 (tot gc m) ∧ OwnV wr 24 w.heap.size v m (fun j => cx (gd j) (gc j)) ∧ Sd gd gc m ∧ Below w.heap.size w wr)
  case atStart => exact ⟨0, 0, fun _ => 0, fun _ => 0, Nat.zero_le _, by omega, Nat.le_refl _, rfl, rfl, rfl, rfl, OwnV.nil _ _ _ _, fun j hj => by omega, Below.refl _ _⟩
  case round =>
    obtain ⟨k, m, gd, gc, hk, hk40, hmk, hgk, rfl, rfl, rfl, ho, hs, hbw⟩ := hrel
    have HGK := Lib.hid hgk
    clear hgk
    obtain ⟨b1, b2, b3, b4⟩ := hs.bd
    obtain ⟨A0, c0, rfl, oc, ocm, oat⟩ := ho.at
    have HO := Lib.hid ho
    have HS := Lib.hid hs
    have HB := Lib.hid hbw
    clear ho hs hbw
    by_cases hlt : k < len0 ∧ k < 40
    · obtain ⟨h1, h2⟩ := hlt
      clear oat
      obtain ⟨b, off, rfl, hb, hc⟩ := HAt.out.some (by omega)
      have ck : wr.cell? ⟨b, off + k, none⟩ = some (.int .i64 (g k)) := (HB.out.cell (p := ⟨b, off + k, none⟩) hb).trans (hc k h1)
      clear hc
      obtain ⟨D, hD⟩ : ∃ D, tot gd m = D := ⟨_, rfl⟩
      obtain ⟨C, hC⟩ : ∃ C, tot gc m = C := ⟨_, rfl⟩
      rw [hD] at b1 b2 
      rw [hC] at b3 b4
      rw [hD, hC]
      have HD := Lib.hid hD
      have HC := Lib.hid hC
      clear hD hC
      go_wp2_with fail
      refine (amount_some _ _).mono ?_; rintro e w' ⟨N, rfl, rfl⟩
      by_cases hN : Mon N
      · have hb := side_bd hN
        obtain ⟨d1, d2, d3, d4⟩ := hb
        have sc := fun w => sof_in N w hN
        have hn1 := hN.1
        have hn2 := hN.2
        have es : dbt N - cdt N = N := side_net N
        obtain ⟨d, hd⟩ : ∃ d, dbt N = d := ⟨_, rfl⟩
        obtain ⟨c, hc⟩ : ∃ c, cdt N = c := ⟨_, rfl⟩
        rw [hd, hc] at es
        rw [hd] at d1 d2
        rw [hc] at d3 d4
        simp only [hd, hc] at sc
        have hz : (0 < N → d = N ∧ c = 0) ∧ (¬ 0 < N → d = 0 ∧ c = -N) := ⟨fun h => by rw [← hd, ← hc, dbt, cdt, if_pos h, if_pos h]; exact ⟨rfl, rfl⟩, fun h => by rw [← hd, ← hc, dbt, cdt, if_neg h, if_neg h]; exact ⟨rfl, rfl⟩⟩
        have SC := Lib.hid sc
        have HZ := Lib.hid hz
        clear sc hd hc hN hz es
        by_cases hp : 0 < N
        all_goals
          go_wp2_with (first | (go_at_call 8; (with_reducible refine (SC.out _).mono ?_); rintro e w' ⟨rfl, rfl⟩) | (at_builtin; (refine wpList_push_v rfl (.tmp 47) (.tmp 49) rfl Try.underlying23 hi hz0 hz1 hz2 (by omega) rfl w w.heap.size m wr.heap.size _ _ (cx d c) rfl rfl (by simp) rfl (HO.out.alloc _) (by omega) (HB.out.alloc HB.out.size _) (by have := HB.out.size; simp; omega) _ rfl ?_; intro b1 c1 w' ho' hb' hg' hat'; have HO' := Lib.hid ho'; clear ho' hg' hat')))
          go_roundg (40 - (k + 1))
          case measure => have := HGK.out; omega
          case rel =>
            have q := HZ.out
            exact ⟨k + 1, m + 1, _, _, by omega, by omega, by omega, rfl, by go_num, congrArg (Value.int .i64) (by rw [tot_push, HD.out]; omega), congrArg (Value.int .i64) (by rw [tot_push, HC.out]; omega), HO'.out.ext fun j hj => push_cx gd gc m _ _ j, HS.out.push d1 d2 d3 d4, hb'⟩
      · have SC := Lib.hid fun w => sof_out N w (by unfold Mon at hN; omega)
        rcases (show N < -100000000000 ∨ 100000000000 < N by unfold Mon at hN; omega) with hq | hq
        all_goals
          clear hN
          go_wp2_with (first | (go_at_call 8; (with_reducible refine (SC.out _).mono ?_); rintro e w' ⟨rfl, rfl⟩))
          go_roundg (40 - (k + 1))
          case measure => have := HGK.out; omega
          case rel =>
            exact ⟨k + 1, m, gd, gc, by omega, by omega, by omega, rfl, by go_num, by rw [HD.out], by rw [HC.out], HO.out, HS.out, HB.out⟩
    · have hD1 : tot gd m < 9007199254740992 := by omega
      have hC1 : tot gc m < 9007199254740992 := by omega
      have SC := Lib.hid (ssum_any A0 m c0 gd gc wr oat oc ocm (Lib.hid HS.out.pos) hD1 hC1)
      clear oat
      generalize hD : tot gd m = D at *
      generalize hC : tot gc m = C at *
      unfold maxLen at ocm
      clear HS HO hD hC
      have oD : (FloatKind.f64.format.order (fl D) (fl D) == some .eq) = true := by rw [fl_order b1 b1 hD1 hD1]; simp
      have oC : (FloatKind.f64.format.order (fl C) (fl C) == some .eq) = true := by rw [fl_order b3 b3 hC1 hC1]; simp
      have EV := fun w => Lib.hid (even_any D C w b1 hD1 b3 hC1)
      obtain ⟨q, hq⟩ : ∃ q, decide (D = C) = q := ⟨_, rfl⟩
      simp only [hq] at EV
      have hq' : (D == C) = q := by rw [← hq]; rfl
      clear hq
      rcases (show ¬ k < len0 ∨ (k < len0 ∧ ¬ k < 40) by omega) with hq | ⟨hq1, hq⟩
      all_goals
        clear hlt
        go_wp2_with (first | (go_at_call 9; (with_reducible refine (SC.out).mono ?_); rintro e w' ⟨rfl, rfl⟩) | (go_at_call 10; (with_reducible refine (both_any D C _ b1 hD1 b3 hC1).mono ?_); rintro e w' ⟨rfl, rfl⟩) | (go_at_call 10; (with_reducible refine (both_any C D _ b3 hC1 b1 hD1).mono ?_); rintro e w' ⟨rfl, rfl⟩) | (go_at_call 13; (with_reducible refine (turn_any _ _ _).mono ?_); rintro e w' ⟨rfl, rfl⟩) | (go_at_call 11; (with_reducible refine (net_any D C _ b1 hD1 b3 hC1).mono ?_); rintro e w' ⟨rfl, rfl⟩) | (go_at_call 14; (with_reducible refine ((EV _).out).mono ?_); rintro e w' ⟨rfl, rfl⟩) | (go_at_call 12; (with_reducible refine (wakes4_any _).mono ?_); rintro e w' ⟨rfl, rfl⟩))
        go_ret
        exact ⟨rfl, HB.out⟩
end Go.Proofs.Ytiakfkeeiokliaa
