/- The right lines that statements are made of; the document's example: a contract for each. -/
import Derived.Test.YtpbpflhoeidpnaaJRef2
import Derived.WalkKit
import Derived.WalkSpells
import Derived.WalkLawsBesides
import Derived.Lib.Hide
import Derived.Deep.LoopGhost
namespace Go.Proofs.Ytpbpflhoeidpnaa
open Go.RowKit

/-- what right lines are made of: each account's amount -/
def RightS (S : Int → Int) : Prop := (∀ a : Int, 1 ≤ a → a ≤ 7 → -1000000000 ≤ S a ∧ S a ≤ 1000000000) ∧ tot (fun j => S ((j : Int) + 1)) 7 = 0
theorem RightS.good {S : Int → Int} (h : RightS S) : Good (mc S 7) (ma S 7) (mm S 7) := good_mrg (fun a h1 h2 => by have := h.1 a h1 h2; unfold Mon; omega) h.2
theorem RightS.mm_bd {S : Int → Int} (h : RightS S) (j : Nat) (hj : j < mc S 7) : 1 ≤ ma S 7 j ∧ ma S 7 j ≤ 7 ∧ -1000000000 ≤ mm S 7 j ∧ mm S 7 j ≤ 1000000000 := by
  obtain ⟨a, b, _⟩ := ma_spec S 7 j hj
  exact ⟨a, b, h.1 _ a b⟩
set_option maxHeartbeats 4000000 in
set_option maxRecDepth 100000 in
theorem right_any (A0 A1 : Option Addr) (n0 c0 n1 c1 : Nat) (g0 g1 : Nat → Int) (w : World) (h0 : At w A0 n0 g0) (h1 : At w A1 n1 g1) :
    Calls Try.prog 19 #[.slice A0 n0 c0, .slice A1 n1 c1] w fun e w' => ∃ v S, e = .returned v ∧ RightS S ∧ OwnL w' 26 w.heap.size v (mc S 7) (ma S 7) (mm S 7) ∧ Below w.heap.size w w' := by
  obtain ⟨i0, hi, hz0, hz1, hz2⟩ := info_parts line_info
  have H0 := Lib.hid h0
  have H1 := Lib.hid h1
  clear h0 h1
  go_enter Try.func19, Try.ntmps19
  go_wp2
  go_loopg [5, 6] 12 (fun gh v i wr => ∃ (k : Nat) (fa fm : Nat → Int), k ≤ 12 ∧ gh = 12 - k ∧ i = .int .i64 k ∧ OwnL wr 26 w.heap.size v k fa fm ∧ (∀ j, j < k → 1 ≤ fa j ∧ fa j ≤ 7 ∧ -1000000 ≤ fm j ∧ fm j ≤ 1000000) ∧ Below w.heap.size w wr)
  case atStart => exact ⟨0, fun _ => 0, fun _ => 0, by omega, rfl, rfl, OwnL.nil _ _ _ _ _, fun j hj => by omega, Below.refl _ _⟩
  case round =>
    obtain ⟨k, fa, fm, hk, hgk, rfl, ho, hf, hbw⟩ := hrel
    have HGK := Lib.hid hgk
    have HB := Lib.hid hbw
    obtain ⟨A2, c2, rfl, oc, ocm, _, oat⟩ := ho.cut
    have HO := Lib.hid ho
    have HF := Lib.hid hf
    clear hgk hbw ho hf
    by_cases hlt : k < n0 ∧ k < n1 ∧ k < 12
    · obtain ⟨l0, l1, l2⟩ := hlt
      obtain ⟨b, off, rfl, hb, hc⟩ := H0.out.some (by omega)
      obtain ⟨b', off', rfl, hb', hc'⟩ := H1.out.some (by omega)
      have ck : wr.cell? ⟨b, off + k, none⟩ = some (.int .i64 (g0 k)) := (HB.out.cell (p := ⟨b, off + k, none⟩) hb).trans (hc k l0)
      have ck' : wr.cell? ⟨b', off' + k, none⟩ = some (.int .i64 (g1 k)) := (HB.out.cell (p := ⟨b', off' + k, none⟩) hb').trans (hc' k l1)
      clear hc hc' oat
      go_wp2_with fail
      refine (amount_some _ _).mono ?_
      rintro e w' ⟨y, rfl, rfl⟩
      by_cases hy : Mon y
      · obtain ⟨y1, y2⟩ := hy
        go_wp2_with (first | (go_at_call 51; (with_reducible refine (rmon_yes _ _ y1 y2).mono ?_); rintro e w' ⟨rfl, rfl⟩))
        refine (within_some _ _ _ (by omega) (by omega)).mono ?_
        rintro e w' ⟨x, x1, x2, rfl, rfl⟩
        have t1 : y.tmod 1000000 < 1000000 := Int.tmod_lt_of_pos y (by omega)
        have t2 : -1000000 < y.tmod 1000000 := by have := Int.lt_tmod_of_pos y (show (0 : Int) < 1000000 by omega); omega
        go_wp2_with (first | (at_builtin; (refine wpList_push_l rfl (.tmp 35) (.tmp 45) rfl line_type hi hz0 hz1 hz2 w w.heap.size k wr.heap.size _ fa fm (1 + x) (y.tmod 1000000) rfl rfl (by simp) (by simp) (HO.out.alloc _) (by omega) (HB.out.alloc HB.out.size _) (by have := HB.out.size; simp; omega) _ rfl ?_; intro b1 c1 w' ho' hb' hg' hat'; have HO' := Lib.hid ho'; have HB' := Lib.hid hb'; clear ho' hg' hat' hb')))
        go_roundg (12 - (k + 1))
        case measure => have := HGK.out; omega
        case rel =>
          refine ⟨k + 1, _, _, by omega, rfl, by go_num, HO'.out, fun j hj => ?_, HB'.out⟩
          by_cases q : j = k
          · simp only [if_pos q]; omega
          · simp only [if_neg q]; exact HF.out j (by omega)
      · have hM : Hid (y < -100000000000 ∨ 100000000000 < y) := Lib.hid (mon_no hy)
        clear hy
        go_wp2_with (first | (go_at_call 51; (with_reducible refine (rmon_no _ _ hM.out).mono ?_); rintro e w' ⟨rfl, rfl⟩))
        refine (within_some _ _ _ (by omega) (by omega)).mono ?_
        rintro e w' ⟨x, x1, x2, rfl, rfl⟩
        go_wp2_with (first | (at_builtin; (refine wpList_push_l rfl (.tmp 35) (.tmp 45) rfl line_type hi hz0 hz1 hz2 w w.heap.size k wr.heap.size _ fa fm (1 + x) 5 rfl rfl (by simp) (by simp) (HO.out.alloc _) (by omega) (HB.out.alloc HB.out.size _) (by have := HB.out.size; simp; omega) _ rfl ?_; intro b1 c1 w' ho' hb' hg' hat'; have HO' := Lib.hid ho'; have HB' := Lib.hid hb'; clear ho' hg' hat' hb')))
        go_roundg (12 - (k + 1))
        case measure => have := HGK.out; omega
        case rel =>
          refine ⟨k + 1, _, _, by omega, rfl, by go_num, HO'.out, fun j hj => ?_, HB'.out⟩
          by_cases q : j = k
          · simp only [if_pos q]; omega
          · simp only [if_neg q]; exact HF.out j (by omega)
    · have hfin : k = k := rfl
      clear hfin
      have HM0 : Hid (∀ j, j < k → Mon (fm j)) := Lib.hid fun j hj => by have := HF.out j hj; unfold Mon; omega
      obtain ⟨S, hS⟩ : ∃ S, smf fa fm k = S := ⟨_, rfl⟩
      have RM : Hid (∀ w', Below wr.heap.size wr w' → Calls Try.prog 52 #[.slice A2 k c2] w' fun e w2 => ∃ v, e = .returned v ∧ OwnL w2 26 w'.heap.size v (mc S 7) (ma S 7) (mm S 7) ∧ Below w'.heap.size w' w2) := Lib.hid fun w' hb => by rw [← hS]; exact rmergel A2 k c2 fa fm w' (oat.below hb) (by omega) HM0
      have HS1 : Hid (∀ a : Int, -12000000 ≤ S a ∧ S a ≤ 12000000) := Lib.hid fun a => by
        have := sm_abs (a := a) (ga := fa) (gm := fm) (B := 1000000) (by omega) (n := k) fun j hj => by have := HF.out j hj; omega
        rw [← hS]; unfold smf; omega
      clear oat hS
      have hm7 := mc_le S 7
      rcases (show ¬ k < n0 ∨ (k < n0 ∧ ¬ k < n1) ∨ (k < n0 ∧ k < n1 ∧ ¬ k < 12) by omega) with hq | ⟨hq1, hq⟩ | ⟨hq1, hq2, hq⟩
      all_goals
        clear hlt
        go_wp2_with fail
        refine (RM.out _ (Below.refl _ _)).mono ?_
        rintro e w2 ⟨v, rfl, ho2, hb2⟩
        obtain ⟨A3, c3, rfl, pc, pcm, pN, pat⟩ := ho2.cut
        have HO2 := Lib.hid (ho2.mono HB.out.size)
        have HB2 := Lib.hid (HB.out.trans (hb2.mono HB.out.size))
        have HP := Lib.hid pat
        clear ho2 hb2 pat pN
        go_wp2
        go_loopg [8, 51] (mc S 7) (fun gh s i wr => ∃ j : Nat, j ≤ mc S 7 ∧ gh = mc S 7 - j ∧ i = .int .i64 j ∧ s = .int .i64 (tot (mm S 7) j) ∧ Below w2.heap.size w2 wr)
        case atStart => exact ⟨0, Nat.zero_le _, rfl, rfl, rfl, Below.refl _ _⟩
        case round =>
          obtain ⟨j, hj, hgj, rfl, rfl, hbj⟩ := hrel
          have HGJ := Lib.hid hgj
          have HBJ := Lib.hid hbj
          clear hgj hbj
          have bd := tot_abs (g := mm S 7) (B := 12000000) (by omega) j fun i _ => HS1.out _
          obtain ⟨bd1, bd2⟩ := bd
          obtain ⟨s, hs⟩ : ∃ s, tot (mm S 7) j = s := ⟨_, rfl⟩
          rw [hs] at bd1 bd2
          rw [hs]
          have HS := Lib.hid hs
          clear hs
          by_cases hlj : j < mc S 7
          · obtain ⟨b, off, rfl, hb, hc⟩ := HP.out.some (by omega)
            have ck := (HBJ.out.cell (p := ⟨b, off + j * 2, none⟩) hb).trans (hc j hlj).1
            have ck' := (HBJ.out.cell (p := ⟨b, off + j * 2 + 1, none⟩) hb).trans (hc j hlj).2
            have hm : -12000000 ≤ mm S 7 j ∧ mm S 7 j ≤ 12000000 := HS1.out _
            obtain ⟨hm1, hm2⟩ := hm
            clear hc
            go_wp2
            go_roundg (mc S 7 - (j + 1))
            case measure => have := HGJ.out; omega
            case rel => exact ⟨j + 1, by omega, rfl, by go_num, by rw [tot, HS.out], HBJ.out.alloc HBJ.out.size _⟩
          · obtain rfl : j = mc S 7 := by omega
            have HBX := Lib.hid (HB2.out.trans (HBJ.out.mono HB2.out.size))
            clear hlj
            go_wp2_with (first | (at_builtin; (refine wpList_push_l rfl (.tmp 60) (.tmp 64) rfl line_type hi hz0 hz1 hz2 w w.heap.size (mc S 7) wr.heap.size _ (ma S 7) (mm S 7) 2 (-s) rfl rfl (by simp) (by simp) ((HO2.out.below HBJ.out).alloc _) (by omega) (HBX.out.alloc HBX.out.size _) (by have := HBX.out.size; simp; omega) _ rfl ?_; intro b1 c1 w' ho' hb' hg' hat'; have HO' := Lib.hid ho'; have HB' := Lib.hid hb'; clear ho' hg' hat' hb')))
            obtain ⟨A5, c5, e5, _, _, _, oat5⟩ := HO'.out.cut
            injection e5 with e51 _ e53
            subst e51
            subst e53
            have FM : ∀ j, j < mc S 7 + 1 → -84000000 ≤ (if j = mc S 7 then -s else mm S 7 j) ∧ (if j = mc S 7 then -s else mm S 7 j) ≤ 84000000 := fun j hj => by
              have := HS1.out (ma S 7 j)
              unfold mm
              split <;> omega
            have FA : ∀ j, j < mc S 7 + 1 → 1 ≤ (if j = mc S 7 then 2 else ma S 7 j) ∧ (if j = mc S 7 then 2 else ma S 7 j) ≤ 7 := fun j hj => by
              by_cases q : j = mc S 7
              · rw [if_pos q]; omega
              · rw [if_neg q]; have := ma_spec S 7 j (by omega); omega
            refine (rmergel _ _ _ _ _ w' oat5 (by omega) (Lib.hid fun j hj => by have := FM j hj; unfold Mon; omega)).mono ?_
            rintro e w4 ⟨v, rfl, ho4, hb4⟩
            have HO4 := Lib.hid (ho4.mono HB'.out.size)
            have HB4 := Lib.hid (HB'.out.trans (hb4.mono HB'.out.size))
            have HR : Hid (RightS (smf (fun j => if j = mc S 7 then 2 else ma S 7 j) (fun j => if j = mc S 7 then -s else mm S 7 j) (mc S 7 + 1))) := Lib.hid ⟨fun a _ _ => by
                have := sm_abs (a := a) (ga := fun j => if j = mc S 7 then 2 else ma S 7 j) (B := 84000000) (by omega) FM
                unfold smf; omega, by rw [tot_smf _ FA, tot_push, HS.out]; omega⟩
            clear ho4 hb4 oat5 FM FA
            go_wp2
            go_ret
            exact ⟨_, _, rfl, HR.out, HO4.out, HB4.out⟩
end Go.Proofs.Ytpbpflhoeidpnaa
