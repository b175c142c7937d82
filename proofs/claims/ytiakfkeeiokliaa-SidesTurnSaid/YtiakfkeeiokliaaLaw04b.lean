/- SidesTurn: its walk. -/
import Derived.Test.YtiakfkeeiokliaaSides
import Derived.Test.YtiakfkeeiokliaaPlay
import Derived.WalkKit
import Derived.WalkSpells
import Derived.WalkLawsBesides
import Derived.Lib.Hide
import Derived.Deep.LoopGhost
import Derived.Deep.RegionLaw
namespace Go.Proofs.Ytiakfkeeiokliaa
open Go.RowKit
attribute [local go_sem] run_store_complex

set_option maxHeartbeats 4000000 in
set_option maxRecDepth 100000 in
theorem sidesTurn_walk (a0 : Option Addr) (len0 cap0 : Nat) (z0 : List Int) (w : World) (w0 : IsRow .i64 w a0 len0 cap0 z0) :
    Calls Try.prog 6 #[.slice a0 len0 cap0] w fun e w' => e = .returned (.bool true) ∧ Below w.heap.size w w' := by
  obtain ⟨hAt, hlc, hcm, hA, hwf⟩ := w0.at
  unfold maxLen at hcm
  obtain ⟨g, hg⟩ : ∃ g : Nat → Int, g = fun j => z0.getD j 0 := ⟨_, rfl⟩
  rw [← hg] at hAt
  have HAt := Lib.hid hAt
  clear hwf w0 hg hA hAt
  obtain ⟨i0, hi, hz0, hz1, hz2⟩ := info_parts cpl_info
  have o0 : (FloatKind.f64.format.order 0 0 == some .eq) = true := by decide
  go_enter Try.func6, Try.ntmps6
  go_wp2
  go_loopg [3, 4, 5] 30 (fun gh u v i wr => ∃ (k : Nat) (gd gc : Nat → Int), k ≤ len0 ∧ k ≤ 30 ∧ gh = 30 - k ∧ i = .int .i64 k ∧ (∃ A c, u = .slice A k c) ∧ (∃ A c, v = .slice A k c) ∧ OwnV wr 24 w.heap.size u k (fun j => cx (gd j) (gc j)) ∧ OwnV wr 24 w.heap.size v k (fun j => cx (gc j) (gd j)) ∧ Apart u v ∧ Sd gd gc k ∧ Below w.heap.size w wr)
  case atStart => exact ⟨0, fun _ => 0, fun _ => 0, Nat.zero_le _, by omega, rfl, rfl, ⟨_, _, rfl⟩, ⟨_, _, rfl⟩, OwnV.nil _ _ _ _, OwnV.nil _ _ _ _, Apart.nil _, fun j hj => by omega, Below.refl _ _⟩
  case round =>
    obtain ⟨k, gd, gc, hk, hk30, hgk, rfl, ⟨A1, c1, rfl⟩, ⟨A2, c2, rfl⟩, ho1, ho2, hap, hs, hbw⟩ := hrel
    have HGK := Lib.hid hgk
    clear hgk
    have HO1 := Lib.hid ho1
    have HO2 := Lib.hid ho2
    have HAP := Lib.hid hap
    have HS := Lib.hid hs
    have HB := Lib.hid hbw
    clear ho1 ho2 hap hs hbw
    by_cases hlt : k < len0 ∧ k < 30
    · obtain ⟨h1, h2⟩ := hlt
      obtain ⟨b, off, rfl, hb, hc⟩ := HAt.out.some (by omega)
      have ck : wr.cell? ⟨b, off + k, none⟩ = some (.int .i64 (g k)) := (HB.out.cell (p := ⟨b, off + k, none⟩) hb).trans (hc k h1)
      clear hc
      obtain ⟨N, hN⟩ : ∃ N, g k % 200000000001 = N := ⟨_, rfl⟩
      have n1 : 0 ≤ N := by omega
      have n2 : N ≤ 200000000000 := by omega
      have HN := Lib.hid hN
      clear hN
      have hm : Mon (N - 100000000000) := by unfold Mon; omega
      obtain ⟨d1, d2, d3, d4⟩ := side_bd hm
      have sc := fun w => sof_in (N - 100000000000) w hm
      obtain ⟨d, hd⟩ : ∃ d, dbt (N - 100000000000) = d := ⟨_, rfl⟩
      obtain ⟨c, hc⟩ : ∃ c, cdt (N - 100000000000) = c := ⟨_, rfl⟩
      rw [hd] at d1 d2
      rw [hc] at d3 d4
      simp only [hd, hc] at sc
      have SC := Lib.hid sc
      clear sc hd hc hm
      have od : (FloatKind.f64.format.order (fl d) (fl d) == some .eq) = true := by rw [fl_order d1 d1 (by omega) (by omega)]; simp
      have oc : (FloatKind.f64.format.order (fl c) (fl c) == some .eq) = true := by rw [fl_order d3 d3 (by omega) (by omega)]; simp
      have hneg : (c - d != -(d - c)) = false := by simp; omega
      have bs := HB.out.size
      go_wp2_with (first | (go_at_call 7; (with_reducible refine (within_at _ _ _ _ (by omega) (by omega) HN).mono ?_); rintro e w' ⟨rfl, rfl⟩) | (go_at_call 8; (with_reducible refine (SC.out _).mono ?_); rintro e w' ⟨rfl, rfl⟩) | (go_at_call 13; (with_reducible refine (turn_any _ _ _).mono ?_); rintro e w' ⟨rfl, rfl⟩) | (at_builtin; (refine wpList_push_v rfl (.tmp 24) (.tmp 26) rfl Try.underlying23 hi hz0 hz1 hz2 (by omega) rfl w w.heap.size k _ (.slice A1 k c1) _ (cx d c) rfl rfl (by simp) rfl (HO1.out.alloc _) (by omega) (HB.out.alloc bs _) (by simp; omega) _ rfl ?_; intro b1 c1' w1 ho1 hb1 hg1 hat1; have HP1 := Lib.hid ho1; have HB1 := Lib.hid hb1; have HU1 : Hid (OwnV w1 24 w.heap.size (.slice A2 k c2) k (fun j => cx (gc j) (gd j))) := Lib.hid ((HO2.out.alloc _).beside hg1 HAP.out.symm); have HA1 := Lib.hid (HAP.out.pushV (n := k + 1) (c := c1') HO2.out hat1 (by simp)); clear ho1 hb1 hg1 hat1)) | (at_builtin; (refine wpList_push_v rfl (.tmp 28) (.tmp 31) rfl Try.underlying23 hi hz0 hz1 hz2 (by omega) rfl w w.heap.size k _ (.slice A2 k c2) _ (cx c d) rfl rfl (by simp) rfl (HU1.out.alloc _) (by omega) (HB1.out.alloc HB1.out.size _) (by have := HB1.out.size; simp; omega) _ rfl ?_; intro b2 c2' w2 ho2 hb2 hg2 hat2; have HU2 := Lib.hid ho2; have HB2 := Lib.hid hb2; have HO2' : Hid (OwnV w2 24 w.heap.size (.slice (some ⟨b1, 0, none⟩) (k + 1) c1') (k + 1) _) := Lib.hid ((HP1.out.alloc _).beside hg2 HA1.out); have HA2 := Lib.hid (HA1.out.symm.pushV (n := k + 1) (c := c2') HP1.out hat2 (by simp)).symm; clear ho2 hb2 hg2 hat2)) | (go_at_call 9; (with_reducible refine (ssum_two d c c d _ _ _ rfl (by omega) (by omega) (by omega) (by omega) (by omega) (by omega)).mono ?_); rintro e w' ⟨rfl, rfl⟩) | (go_at_call 14; (with_reducible refine (even_yes (d + c) (c + d) _ (by omega) (by omega) (by omega)).mono ?_); rintro e w' ⟨rfl, rfl⟩) | (go_at_call 11; (with_reducible refine (net_any c d _ (by omega) (by omega) (by omega) (by omega)).mono ?_); rintro e w' ⟨rfl, rfl⟩) | (go_at_call 11; (with_reducible refine (net_any d c _ (by omega) (by omega) (by omega) (by omega)).mono ?_); rintro e w' ⟨rfl, rfl⟩))
      go_roundg (30 - (k + 1))
      case measure => have := HGK.out; omega
      case rel =>
        exact ⟨k + 1, _, _, by omega, by omega, rfl, by go_num, ⟨_, _, rfl⟩, ⟨_, _, rfl⟩, (HO2'.out.alloc _).ext fun j hj => push_cx gd gc k _ _ j, (HU2.out.alloc _).ext fun j hj => push_cx gc gd k _ _ j, HA2.out, HS.out.push d1 d2 d3 d4, HB2.out.alloc HB2.out.size _⟩
    · obtain ⟨b1, b2, b3, b4⟩ := HS.out.bd
      have hD1 : tot gd k < 9007199254740992 := by omega
      have hC1 : tot gc k < 9007199254740992 := by omega
      obtain ⟨A1', c1', e1, oc1, ocm1, oat1⟩ := HO1.out.at
      obtain ⟨A2', c2', e2, oc2, ocm2, oat2⟩ := HO2.out.at
      injection e1 with e1 _ e1'
      subst e1; subst e1'
      injection e2 with e2 _ e2'
      subst e2; subst e2'
      have SC1 := Lib.hid (ssum_any A1 k c1 gd gc wr oat1 oc1 ocm1 (Lib.hid HS.out.pos) hD1 hC1)
      have SC2 := Lib.hid (ssum_any A2 k c2 gc gd wr oat2 oc2 ocm2 (Lib.hid fun j hj => (HS.out.pos j hj).symm) hC1 hD1)
      clear oat1 oat2
      generalize hD : tot gd k = D at *
      generalize hC : tot gc k = C at *
      unfold maxLen at ocm1 ocm2
      clear HS HO1 HO2 HAP hD hC
      have oD : (FloatKind.f64.format.order (fl D) (fl D) == some .eq) = true := by rw [fl_order b1 b1 hD1 hD1]; simp
      have oC : (FloatKind.f64.format.order (fl C) (fl C) == some .eq) = true := by rw [fl_order b3 b3 hC1 hC1]; simp
      rcases (show ¬ k < len0 ∨ (k < len0 ∧ ¬ k < 30) by omega) with hq | ⟨hq1, hq⟩
      all_goals
        clear hlt
        go_wp2_with (first | (go_at_call 9; (with_reducible refine (SC1.out).mono ?_); rintro e w' ⟨rfl, rfl⟩) | (go_at_call 9; (with_reducible refine (SC2.out).mono ?_); rintro e w' ⟨rfl, rfl⟩) | (go_at_call 13; (with_reducible refine (turn_any _ _ _).mono ?_); rintro e w' ⟨rfl, rfl⟩) | (go_at_call 9; (with_reducible refine (ssum_nil _).mono ?_); rintro e w' ⟨rfl, rfl⟩) | (go_at_call 12; (with_reducible refine (wakes4_any _).mono ?_); rintro e w' ⟨rfl, rfl⟩))
        go_ret
        exact ⟨rfl, HB.out⟩
end Go.Proofs.Ytiakfkeeiokliaa
