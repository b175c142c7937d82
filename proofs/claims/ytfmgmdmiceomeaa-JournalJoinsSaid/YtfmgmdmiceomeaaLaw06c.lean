/- JournalJoins: its walk. -/
import Derived.Test.YtfmgmdmiceomeaaJSome
import Derived.WalkKit
import Derived.WalkSpells
import Derived.WalkLawsBesides
import Derived.Lib.Hide
import Derived.Deep.LoopGhost
namespace Go.Proofs.Ytfmgmdmiceomeaa
open Go.RowKit

set_option maxHeartbeats 4000000 in
set_option maxRecDepth 100000 in
theorem journalJoins_walk (a0 : Option Addr) (len0 cap0 : Nat) (z0 : List Int) (a1 : Option Addr) (len1 cap1 : Nat) (z1 : List Int) (a2 : Option Addr) (len2 cap2 : Nat) (z2 : List Int) (w : World) (w0 : IsRow .i64 w a0 len0 cap0 z0) (w1 : IsRow .i64 w a1 len1 cap1 z1) (w2 : IsRow .i64 w a2 len2 cap2 z2) :
    Calls Try.prog 4 #[.slice a0 len0 cap0, .slice a1 len1 cap1, .slice a2 len2 cap2] w fun e w' => e = .returned (.bool true) ∧ Below w.heap.size w w' := by
  obtain ⟨i0, hi, hz0, hz1, hz2⟩ := info_parts line_info
  have I0 := Lib.hid w0.at.1
  have I1 := Lib.hid w1.at.1
  have I2 := Lib.hid w2.at.1
  clear w0 w1 w2
  go_enter Try.func4, Try.ntmps4
  go_wp2_with fail
  refine (some_right _ _ _ _ _ _ _ _ _ I0.out I1.out).mono ?_
  rintro e wx ⟨x, Sx, rfl, hSx, hox, hbx⟩
  obtain ⟨Ax, cx, rfl, xc, xcm, xN, xat⟩ := hox.cut
  have HSX := Lib.hid hSx
  have HX := Lib.hid xat
  have HXN := Lib.hid xN
  have HB := Lib.hid hbx
  have J0 := Lib.hid (I0.out.below hbx)
  have J2 := Lib.hid (I2.out.below hbx)
  have hx7 := mc_le Sx 7
  clear hSx hox xat xN hbx I0 I1 I2
  go_wp2_with fail
  refine (some_right _ _ _ _ _ _ _ _ _ J0.out J2.out).mono ?_
  rintro e wy ⟨y, Sy, rfl, hSy, hoy, hby⟩
  obtain ⟨Ay, cy, rfl, yc, ycm, yN, yat⟩ := hoy.cut
  have HSY := Lib.hid hSy
  have HY := Lib.hid yat
  have HYN := Lib.hid yN
  replace HX := Lib.hid (HX.out.below hby)
  replace HB := Lib.hid (HB.out.trans (hby.mono HB.out.size))
  have hy7 := mc_le Sy 7
  clear hSy hoy yat yN hby J0 J2
  go_wp2_with fail
  refine (copyl_any _ _ _ _ _ _ HX.out (by omega) HXN.out).mono ?_
  rintro e wc ⟨vc, rfl, hoc, hbc⟩
  have HOC := Lib.hid hoc
  have HBC := Lib.hid hbc
  have HYC := Lib.hid (HY.out.below hbc)
  clear hoc hbc
  go_wp2_with (at_builtin; (refine wpList_app_l rfl (.tmp 18) (.tmp 19) rfl line_type hi hz0 hz1 hz2 wy wy.heap.size (mc Sx 7) (mc Sy 7) cy vc Ay _ _ _ _ rfl rfl HOC.out HYC.out HYN.out (by omega) (by omega) HBC.out HBC.out.size ?_; intro vl wl hol hbl hgl; have HOL := Lib.hid hol; have HBL := Lib.hid hbl; clear hol hbl hgl))
  obtain ⟨Al, cl, rfl, lc1, lcm, lN, lat⟩ := HOL.out.cut
  have HL := Lib.hid lat
  clear lat lN
  obtain ⟨T, hT⟩ : ∃ T : Int → Int, T = fun a => Sx a + Sy a := ⟨_, rfl⟩
  have HT : Hid (∀ a, Sx a + Sy a = T a) := Lib.hid fun a => by rw [hT]
  have HMT : Hid (MonS T) := Lib.hid fun a h1 h2 => by
    have p := HSX.out.1 a h1 h2
    have q := HSY.out.1 a h1 h2
    rw [← HT.out]; unfold Mon; omega
  have HGT : Hid (Good (mc T 7) (ma T 7) (mm T 7)) := Lib.hid (good_mrg HMT.out (by
    have e : tot (fun j => T ((j : Int) + 1)) 7 = tot (fun j => Sx ((j : Int) + 1) + Sy ((j : Int) + 1)) 7 := tot_ext 7 fun j _ => (HT.out _).symm
    rw [e, tot_add, HSX.out.2, HSY.out.2]; rfl))
  clear hT
  have hT7 := mc_le T 7
  refine (mjoin Al cl _ _ _ _ _ _ T _ HL.out (by omega) (fun j hj => HSX.out.mon.row j hj) (fun j hj => HSY.out.mon.row j hj) fun a h1 h2 => ?_).mono ?_
  · rw [← HT.out]
    have p := smf_mrg Sx a h1 (by omega)
    have q := smf_mrg Sy a h1 (by omega)
    unfold smf at p q
    rw [p, q]
  rintro e wm ⟨l, rfl, hom, hbm⟩
  obtain ⟨Am, cm', rfl, mc1, mcm, _, mat⟩ := hom.cut
  replace HB := Lib.hid (HB.out.trans ((HBL.out.trans (hbm.mono HBL.out.size)).mono HB.out.size))
  have HBW := Lib.hid (HBL.out.trans (hbm.mono HBL.out.size))
  replace HX := Lib.hid (HX.out.below HBW.out)
  replace HY := Lib.hid (HY.out.below HBW.out)
  have HM := Lib.hid mat
  clear hom hbm mat HL HOL HBL HOC HBC HYC HBW
  go_wp2_with (go_at_call 8; (with_reducible refine (jcheck_yes _ _ _ _ _ _ HM.out HGT).mono ?_); rintro e wk ⟨rfl, hbk⟩; (replace HX := Lib.hid (HX.out.below hbk); replace HY := Lib.hid (HY.out.below hbk); replace HM := Lib.hid (HM.out.below hbk)); replace HB := Lib.hid (HB.out.trans (hbk.mono HB.out.size)); clear hbk)
  go_loopg [10] 7 (fun gh i wr => ∃ k : Nat, k ≤ 7 ∧ gh = 7 - k ∧ i = .int .i64 ((k : Int) + 1) ∧ Below wk.heap.size wk wr)
  case atStart => exact ⟨0, by omega, rfl, rfl, Below.refl _ _⟩
  case round =>
    obtain ⟨k, hk, hgk, rfl, hbw⟩ := hrel
    have HGK := Lib.hid hgk
    have HBR := Lib.hid hbw
    replace HX := Lib.hid (HX.out.below hbw)
    replace HY := Lib.hid (HY.out.below hbw)
    replace HM := Lib.hid (HM.out.below hbw)
    replace HB := Lib.hid (HB.out.trans (hbw.mono HB.out.size))
    clear hgk hbw
    by_cases hlt : k < 7
    · have p := HSX.out.1 ((k : Int) + 1) (by omega) (by omega)
      have q := HSY.out.1 ((k : Int) + 1) (by omega) (by omega)
      have e := HT.out ((k : Int) + 1)
      obtain ⟨p1, p2⟩ := p
      obtain ⟨q1, q2⟩ := q
      have NT := Lib.hid fun w hA => mnet Am cm' T ((k : Int) + 1) w hA HMT.out (by omega) (by omega)
      have NX := Lib.hid fun w hA => mnet Ax cx Sx ((k : Int) + 1) w hA HSX.out.mon (by omega) (by omega)
      have NY := Lib.hid fun w hA => mnet Ay cy Sy ((k : Int) + 1) w hA HSY.out.mon (by omega) (by omega)
      rw [← e] at NT
      obtain ⟨u, hu⟩ : ∃ u, Sx ((k : Int) + 1) = u := ⟨_, rfl⟩
      obtain ⟨v, hv⟩ : ∃ v, Sy ((k : Int) + 1) = v := ⟨_, rfl⟩
      rw [hu] at p1 p2
      rw [hv] at q1 q2
      rw [hu, hv] at NT
      rw [hu] at NX
      rw [hv] at NY
      clear hu hv e
      go_wp2_with fail
      refine (NT.out _ HM.out).mono ?_
      rintro e wa ⟨rfl, hba⟩
      (replace HX := Lib.hid (HX.out.below hba); replace HY := Lib.hid (HY.out.below hba); replace HM := Lib.hid (HM.out.below hba))
      replace HBR := Lib.hid (HBR.out.trans (hba.mono HBR.out.size))
      clear hba
      go_wp2_with fail
      refine (NX.out _ HX.out).mono ?_
      rintro e wb ⟨rfl, hba⟩
      (replace HX := Lib.hid (HX.out.below hba); replace HY := Lib.hid (HY.out.below hba); replace HM := Lib.hid (HM.out.below hba))
      replace HBR := Lib.hid (HBR.out.trans (hba.mono HBR.out.size))
      clear hba
      go_wp2_with fail
      refine (NY.out _ HY.out).mono ?_
      rintro e wd ⟨rfl, hba⟩
      replace HBR := Lib.hid (HBR.out.trans (hba.mono HBR.out.size))
      clear hba
      go_wp2_with fail
      go_roundg (7 - (k + 1))
      case measure => have := HGK.out; omega
      case rel => exact ⟨k + 1, by omega, rfl, by go_num, HBR.out⟩
    · go_wp2_with fail
      refine (copyl_any _ _ _ _ _ _ HY.out (by omega) HYN.out).mono ?_
      rintro e wc ⟨vc, rfl, hoc, hbc⟩
      have HOC := Lib.hid hoc
      have HBC := Lib.hid hbc
      (replace HX := Lib.hid (HX.out.below hbc))
      clear hoc hbc
      go_wp2_with (at_builtin; (refine wpList_app_l rfl (.tmp 42) (.tmp 43) rfl line_type hi hz0 hz1 hz2 wr wr.heap.size (mc Sy 7) (mc Sx 7) cx vc Ax _ _ _ _ rfl rfl HOC.out HX.out HXN.out (by omega) (by omega) HBC.out HBC.out.size ?_; intro vl wl hol hbl hgl; have HOL := Lib.hid hol; have HBL := Lib.hid hbl; have HGL := Lib.hid hgl; clear hol hbl hgl))
      obtain ⟨Al', cl', rfl, lc1', lcm', _, lat⟩ := HOL.out.cut
      have HL := Lib.hid lat
      clear lat
      refine (mjoin Al' cl' _ _ _ _ _ _ T _ HL.out (by omega) (fun j hj => HSY.out.mon.row j hj) (fun j hj => HSX.out.mon.row j hj) fun a h1 h2 => ?_).mono ?_
      · rw [← HT.out]
        have p := smf_mrg Sx a h1 (by omega)
        have q := smf_mrg Sy a h1 (by omega)
        unfold smf at p q
        rw [p, q]; omega
      rintro e wn ⟨l2, rfl, hon, hbn⟩
      obtain ⟨An, cn, rfl, nc1, ncm, _, nat'⟩ := hon.cut
      have HN := Lib.hid nat'
      have HBX := Lib.hid (HBL.out.trans (hbn.mono HBL.out.size))
      replace HM := Lib.hid (HM.out.below HBX.out)
      clear hon hbn nat' HX HY HOL HOC HBC HGL HL HBL
      go_wp2_with (go_at_call 14; (with_reducible refine (samel_true _ _ _ _ _ _ _ _ _ _ HM.out HN.out (by omega) fun j _ => ⟨rfl, rfl⟩).mono ?_); rintro e w4 ⟨rfl, hb4⟩; have HB4 := Lib.hid (HBX.out.trans (hb4.mono HBX.out.size)); clear hb4)
      refine (wakes6_any _).mono ?_
      rintro e w5 ⟨rfl, hb5⟩
      have HB5 := Lib.hid (HB4.out.trans (hb5.mono HB4.out.size))
      clear hb5
      go_wp2_with fail
      go_ret
      exact ⟨rfl, HB.out.trans (HB5.out.mono HB.out.size)⟩
end Go.Proofs.Ytfmgmdmiceomeaa
