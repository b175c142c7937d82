/- The document's own answers about lines: All, Merge, Reverse: a contract for each. -/
import Derived.Test.YtpbpflhoeidpnaaJour2
import Derived.WalkKit
import Derived.WalkSpells
import Derived.WalkLawsBesides
import Derived.Lib.Hide
import Derived.Deep.LoopGhost
namespace Go.Proofs.Ytpbpflhoeidpnaa
open Go.RowKit

theorem rmon_yes (n : Int) (w : World) (h1 : -100000000000 ≤ n) (h2 : n ≤ 100000000000) :
    Calls Try.prog 51 #[.int .i64 n] w fun e w' => e = .returned (.bool true) ∧ w = w' := by
  go_enter Try.func51, Try.ntmps51
  go_wp2
  all_goals
    go_ret
    exact ⟨ret_b (by first | rfl | (simp; omega)), rfl⟩
theorem rmon_no (n : Int) (w : World) (h : n < -100000000000 ∨ 100000000000 < n) :
    Calls Try.prog 51 #[.int .i64 n] w fun e w' => e = .returned (.bool false) ∧ w = w' := by
  go_enter Try.func51, Try.ntmps51
  go_wp2
  all_goals
    go_ret
    exact ⟨ret_b (by first | rfl | (simp; omega)), rfl⟩
set_option maxHeartbeats 4000000 in
set_option maxRecDepth 100000 in
theorem rmergel (A : Option Addr) (n c : Nat) (ga gm : Nat → Int) (w : World) (hA : AtL w A n ga gm) (hn : n ≤ 1000) (HM : Hid (∀ j, j < n → Mon (gm j))) :
    Calls Try.prog 52 #[.slice A n c] w fun e w' => ∃ v, e = .returned v ∧ OwnL w' 26 w.heap.size v (mc (smf ga gm n) 7) (ma (smf ga gm n) 7) (mm (smf ga gm n) 7) ∧ Below w.heap.size w w' := by
  obtain ⟨i0, hi, hz0, hz1, hz2⟩ := info_parts line_info
  have HA := Lib.hid hA
  obtain ⟨S, hS⟩ : ∃ S, smf ga gm n = S := ⟨_, rfl⟩
  rw [hS]
  have HSS : Hid (∀ a, sm a ga gm n = S a) := Lib.hid fun a => by rw [← hS]; rfl
  have HBD : Hid (∀ a k, k ≤ n → -(100000000000 * (k : Int)) ≤ sm a ga gm k ∧ sm a ga gm k ≤ 100000000000 * k) := Lib.hid fun a k hk => sm_abs (by omega) fun j hj => by have := HM.out j (by omega); unfold Mon at this; omega
  clear hA hS
  go_enter Try.func52, Try.ntmps52
  go_wp2
  go_loopg [3, 4] 7 (fun gh v i wr => ∃ k : Nat, k ≤ 7 ∧ gh = 7 - k ∧ i = .int .i64 ((k : Int) + 1) ∧ OwnL wr 26 w.heap.size v (mc S k) (ma S k) (mm S k) ∧ Below w.heap.size w wr)
  case atStart => exact ⟨0, Nat.zero_le _, rfl, rfl, OwnL.nil _ _ _ _ _, Below.refl _ _⟩
  case round =>
    obtain ⟨k, hk, hgk, rfl, ho, hbw⟩ := hrel
    have HGK := Lib.hid hgk
    have HBW := Lib.hid hbw
    obtain ⟨A0, c0, rfl, oc, ocm, _⟩ := ho.form
    have HO := Lib.hid ho
    have hmc := mc_le S k
    clear hgk hbw ho
    by_cases hlt : k < 7
    · obtain ⟨wo, rfl⟩ : ∃ wo, wo = wr := ⟨_, rfl⟩
      go_wp2
      go_loopg [5, 14] n (fun gh t i wr => ∃ j : Nat, j ≤ n ∧ gh = n - j ∧ i = .int .i64 j ∧ t = .int .i64 (sm ((k : Int) + 1) ga gm j) ∧ Below wo.heap.size wo wr)
      case atStart => exact ⟨0, Nat.zero_le _, by omega, rfl, rfl, Below.refl _ _⟩
      case round =>
        obtain ⟨j, hj, hgj, rfl, rfl, hbj⟩ := hrel
        have HGJ := Lib.hid hgj
        have HBJ := Lib.hid hbj
        have HBX := Lib.hid (HBW.out.trans (hbj.mono HBW.out.size))
        clear hgj hbj
        by_cases hlj : j < n
        · obtain ⟨b, off, rfl, hb, hc⟩ := HA.out.some (by omega)
          have ck := (HBX.out.cell (p := ⟨b, off + j * 2, none⟩) hb).trans (hc j hlj).1
          have ck' := (HBX.out.cell (p := ⟨b, off + j * 2 + 1, none⟩) hb).trans (hc j hlj).2
          have bd := HBD.out ((k : Int) + 1) j (by omega)
          have hm := HM.out j hlj
          obtain ⟨hm1, hm2⟩ := hm
          obtain ⟨bd1, bd2⟩ := bd
          obtain ⟨s, hs⟩ : ∃ s, sm ((k : Int) + 1) ga gm j = s := ⟨_, rfl⟩
          rw [hs] at bd1 bd2
          rw [hs]
          have HS := Lib.hid hs
          clear hc hs
          by_cases hq : ga j = (k : Int) + 1
          · have HQ := Lib.hid hq
            have hq1 : (ga j == (k : Int) + 1) = true := by simpa using hq
            clear hq
            go_wp2
            go_roundg (n - (j + 1))
            case measure => have := HGJ.out; omega
            case rel => exact ⟨j + 1, by omega, rfl, by go_num, by rw [sm_yes HQ.out, HS.out], HBJ.out.alloc HBJ.out.size _⟩
          · have HQ := Lib.hid hq
            have hq1 : (ga j == (k : Int) + 1) = false := by simpa using hq
            clear hq
            go_wp2
            go_roundg (n - (j + 1))
            case measure => have := HGJ.out; omega
            case rel => exact ⟨j + 1, by omega, rfl, by go_num, by rw [sm_no HQ.out, HS.out], HBJ.out.alloc HBJ.out.size _⟩
        · obtain rfl : j = n := by omega
          rw [HSS.out]
          have hzj := HBJ.out.size
          have hzw := HBW.out.size
          clear hlj
          by_cases hq : S ((k : Int) + 1) = 0
          · have HQ := Lib.hid hq
            rw [hq]
            clear hq
            go_wp2
            go_roundg (7 - (k + 1))
            case measure => have := HGK.out; omega
            case rel => exact ⟨k + 1, by omega, rfl, by go_num, by unfold mm; rw [(mc_zero HQ.out).1, (mc_zero HQ.out).2]; exact HO.out.below HBJ.out, HBX.out⟩
          · have HQ := Lib.hid hq
            obtain ⟨x, hx⟩ : ∃ x, S ((k : Int) + 1) = x := ⟨_, rfl⟩
            rw [hx]
            have HX := Lib.hid hx
            have hx0 : (x == 0) = false := by rw [← hx]; simpa using hq
            have hx1 : (x != 0) = true := by rw [← hx]; simpa using hq
            clear hq hx
            go_wp2_with (at_builtin; (refine wpList_push_l rfl (.tmp 29) (.tmp 33) rfl line_type hi hz0 hz1 hz2 w w.heap.size (mc S k) wr.heap.size _ (ma S k) (mm S k) ((k : Int) + 1) x rfl rfl (by simp) (by simp) ((HO.out.below HBJ.out).alloc _) (by omega) (HBX.out.alloc HBX.out.size _) (by simp; omega) _ rfl ?_; intro b1 c1 w' ho' hb' hg' hat'; have HO' := Lib.hid ho'; have HB' := Lib.hid hb'; clear ho' hg' hat' hb'))
            go_roundg (7 - (k + 1))
            case measure => have := HGK.out; omega
            case rel =>
              refine ⟨k + 1, by omega, rfl, by go_num, ?_, HB'.out⟩
              rw [(mc_some HQ.out).1]
              refine HO'.out.ext fun j hj => ?_
              unfold mm
              rw [ma_at HQ.out]
              by_cases q : j = mc S k
              · rw [if_pos q, if_pos q, HX.out]; exact ⟨rfl, rfl⟩
              · rw [if_neg q, if_neg q]; exact ⟨rfl, rfl⟩
    · obtain rfl : k = 7 := by omega
      clear hlt
      go_wp2
      go_ret
      exact ⟨_, rfl, HO.out, HBW.out⟩
set_option maxHeartbeats 4000000 in
set_option maxRecDepth 100000 in
theorem rrevl (A : Option Addr) (n c : Nat) (ga gm : Nat → Int) (w : World) (hA : AtL w A n ga gm) (hn : n ≤ 1000) :
    Calls Try.prog 23 #[.slice A n c] w fun e w' => ∃ v, e = .returned v ∧ OwnL w' 26 w.heap.size v n ga (fun j => wrap64 (-gm j)) ∧ Below w.heap.size w w' := by
  obtain ⟨i0, hi, hz0, hz1, hz2⟩ := info_parts line_info
  have HA := Lib.hid hA
  clear hA
  go_enter Try.func23, Try.ntmps23
  go_wp2
  go_loopg [3, 8] n (fun gh v i wr => ∃ k : Nat, k ≤ n ∧ gh = n - k ∧ i = .int .i64 k ∧ OwnL wr 26 w.heap.size v k ga (fun j => wrap64 (-gm j)) ∧ Below w.heap.size w wr)
  case atStart => exact ⟨0, Nat.zero_le _, by omega, rfl, OwnL.nil _ _ _ _ _, Below.refl _ _⟩
  case round =>
    obtain ⟨k, hk, hgk, rfl, ho, hbw⟩ := hrel
    have HGK := Lib.hid hgk
    have HB := Lib.hid hbw
    obtain ⟨A0, c0, rfl, oc, ocm, _⟩ := ho.form
    have HO := Lib.hid ho
    clear hgk hbw ho
    by_cases hlt : k < n
    · obtain ⟨b, off, rfl, hb, hc⟩ := HA.out.some (by omega)
      have ck := (HB.out.cell (p := ⟨b, off + k * 2, none⟩) hb).trans (hc k hlt).1
      have ck' := (HB.out.cell (p := ⟨b, off + k * 2 + 1, none⟩) hb).trans (hc k hlt).2
      clear hc
      go_wp2_with (at_builtin; (refine wpList_push_l rfl (.tmp 12) (.tmp 19) rfl line_type hi hz0 hz1 hz2 w w.heap.size k (wr.heap.size + 1) _ ga (fun j => wrap64 (-gm j)) (ga k) (wrap64 (-gm k)) rfl rfl (by simp) (by simp) ((HO.out.alloc _).alloc _) (by omega) ((HB.out.alloc HB.out.size _).alloc (by have := HB.out.size; simp; omega) _) (by have := HB.out.size; simp; omega) _ rfl ?_; intro b1 c1 w' ho' hb' hg' hat'; have HO' := Lib.hid ho'; have HB' := Lib.hid hb'; clear ho' hg' hat' hb'))
      go_roundg (n - (k + 1))
      case measure => have := HGK.out; omega
      case rel =>
        refine ⟨k + 1, by omega, rfl, by go_num, HO'.out.ext fun j hj => ?_, HB'.out⟩
        by_cases q : j = k
        · rw [q]; simp
        · rw [if_neg q, if_neg q]; exact ⟨rfl, rfl⟩
    · obtain rfl : k = n := by omega
      clear hlt
      go_wp2
      go_ret
      exact ⟨_, rfl, HO.out, HB.out⟩
end Go.Proofs.Ytpbpflhoeidpnaa
