/- JournalTells: its walk. -/
import Derived.Test.YtfmgmdmiceomeaaJSome2
import Derived.WalkKit
import Derived.WalkSpells
import Derived.WalkLawsBesides
import Derived.Lib.Hide
import Derived.Deep.LoopGhost
import Derived.Deep.RegionHeld3
import Derived.Deep.DeepCutAuto
import Derived.IntWalk
namespace Go.Proofs.Ytfmgmdmiceomeaa
open Go.RowKit

/-- Merge's answer for a list of lines is this row -/
def MergeIs (A : Option Addr) (c n : Nat) (ga gm : Nat → Int) (K : Nat) (ra rm : Nat → Int) : Prop := ∀ w, AtL w A n ga gm → Calls Try.prog 11 #[.slice A n c] w fun e w' => ∃ v, e = .returned v ∧ OwnL w' 26 w.heap.size v K ra rm ∧ Below w.heap.size w w'
/-- Net's answer for account a is this -/
def NetIs (A : Option Addr) (c n : Nat) (ga gm : Nat → Int) (a x : Int) : Prop := ∀ w, AtL w A n ga gm → Calls Try.prog 13 #[.slice A n c, .int .i64 a] w fun e w' => e = .returned (.int .i64 x) ∧ Below w.heap.size w w'
/-- what JournalTells wants of Merge and Net -/
def Wants (w3 : World) (A : Option Addr) (c n : Nat) (ga gm : Nat → Int) (a : Int) (v N : Value) (wx : World) : Prop :=
  ∃ (K : Nat) (ra rm : Nat → Int) (x : Int), N = .int .i64 x ∧ SomeL v wx K ra rm ∧ K ≤ 7 ∧ MergeIs A c n ga gm K ra rm ∧ NetIs A c n ga gm a x ∧ Below w3.heap.size w3 wx
set_option maxHeartbeats 4000000 in
set_option maxRecDepth 100000 in
theorem journalTells_walk (a0 : Option Addr) (len0 cap0 : Nat) (z0 : List Int) (a1 : Option Addr) (len1 cap1 : Nat) (z1 : List Int) (a2 a3 : Int) (a4 : Bool) (a5 : Int) (w : World) (w0 : IsRow .i64 w a0 len0 cap0 z0) (w1 : IsRow .i64 w a1 len1 cap1 z1) (_w2 : (Lit.int .i64 a2).wf = true) (_w3 : (Lit.int .i64 a3).wf = true) (_w5 : (Lit.int .i64 a5).wf = true) :
    Calls Try.prog 5 #[.slice a0 len0 cap0, .slice a1 len1 cap1, .int .i64 a2, .int .i64 a3, .bool a4, .int .i64 a5] w fun e w' => e = .returned (.bool true) ∧ Below w.heap.size w w' := by
  have I0 := Lib.hid w0.at.1
  have I1 := Lib.hid w1.at.1
  clear w0 w1
  go_enter Try.func5, Try.ntmps5
  go_wp2_with fail
  refine (some_any _ _ _ _ _ _ _ _ _ _ _ _ I0.out I1.out).mono ?_
  rintro e w1 ⟨v, n, ga, gm, rfl, hn44, ⟨A, c, rfl, hc1, hc2, hN, hat⟩, hb1⟩
  have HB := Lib.hid hb1
  have HL := Lib.hid hat
  have HN := Lib.hid hN
  clear hb1 hat hN I0 I1
  go_wp2_with fail
  refine (copyl_any _ _ _ _ _ _ HL.out (by omega) HN.out).mono ?_
  rintro e w2 ⟨vc, rfl, hoc, hbc⟩
  obtain ⟨Ac, cc, rfl, cc1, ccm, _, cat'⟩ := hoc.cut
  have HC := Lib.hid cat'
  replace HL := Lib.hid (HL.out.below hbc)
  replace HB := Lib.hid (HB.out.trans (hbc.mono HB.out.size))
  clear hoc hbc cat'
  go_wp2_with fail
  refine (within_some _ _ _ (by omega) (by omega)).mono ?_
  rintro e w' ⟨x, x1, x2, rfl, rfl⟩
  obtain ⟨acc, hacc⟩ : ∃ acc, 1 + x = acc := ⟨_, rfl⟩
  have ha1 : 1 ≤ acc := by omega
  have ha2 : acc ≤ 7 := by omega
  obtain ⟨q, hq1, hq2, AC⟩ : ∃ q, (q = true → Summ n gm) ∧ (q = false → ¬ Summ n gm) ∧ Hid (Calls Try.prog 15 #[.slice A n c, .int .i64 40] w2 fun e w' => e = .returned (.bool q) ∧ Below w2.heap.size w2 w') := by
    by_cases h : Summ n gm
    · exact ⟨true, fun _ => h, (fun e => by cases e), Lib.hid (rall_yes A n c ga gm w2 HL.out (Lib.hid h))⟩
    · exact ⟨false, (fun e => by cases e), fun _ => h, Lib.hid (rall_no A n c ga gm w2 HL.out (by omega) (Lib.hid h))⟩
  have HQ1 := Lib.hid hq1
  have HQ2 := Lib.hid hq2
  clear hq1 hq2
  go_wp2_with fail
  clear hacc x1 x2
  refine (AC.out).mono ?_
  rintro e w3 ⟨rfl, hb3⟩
  (replace HL := Lib.hid (HL.out.below hb3); replace HC := Lib.hid (HC.out.below hb3))
  replace HB := Lib.hid (HB.out.trans (hb3.mono HB.out.size))
  clear hb3 AC
  go_upto_if 38 with fail
  go_cut [15, 16] (fun v N wx => Wants w3 A c n ga gm acc v N wx)
  case first =>
    cases q
    · have HS : Hid (¬ Summ n gm) := Lib.hid (HQ2.out rfl)
      clear HQ1 HQ2
      go_wp2
      go_meet
      exact ⟨0, fun _ => 0, fun _ => 0, 0, rfl, ⟨none, 0, rfl, Nat.le_refl _, Nat.zero_le _, fun _ => ⟨rfl, rfl⟩, .inl rfl⟩, by omega, fun w' hA => jmerge_not A n c ga gm w' hA HS, fun w' hA => jnet_not A n c ga gm acc w' hA HS, Below.refl _ _⟩
    · have HS : Hid (Summ n gm) := Lib.hid (HQ1.out rfl)
      have HM : Hid (∀ j, j < n → Mon (gm j)) := Lib.hid HS.out.2
      have HBD : Hid (∀ k, k ≤ n → -(100000000000 * (k : Int)) ≤ sm acc ga gm k ∧ sm acc ga gm k ≤ 100000000000 * k) := Lib.hid fun k hk => sm_abs (by omega) fun j hj => by have := HM.out j (by omega); unfold Mon at this; omega
      clear HQ1 HQ2
      go_wp2_with fail
      refine (rmergel _ _ _ _ _ _ HL.out (by omega) HM).mono ?_
      rintro e w4 ⟨vw, rfl, how, hb4⟩
      have HW := Lib.hid how
      have HB4 := Lib.hid hb4
      (replace HL := Lib.hid (HL.out.below hb4))
      clear how hb4
      go_wp2_with fail
      go_loopg [16, 43] n (fun gh t i wr => ∃ j : Nat, j ≤ n ∧ gh = n - j ∧ i = .int .i64 j ∧ t = .int .i64 (sm acc ga gm j) ∧ Below w4.heap.size w4 wr)
      case atStart => exact ⟨0, Nat.zero_le _, by omega, rfl, rfl, Below.refl _ _⟩
      case round =>
        obtain ⟨j, hj, hgj, rfl, rfl, hbj⟩ := hrel
        have HGJ := Lib.hid hgj
        have HBJ := Lib.hid hbj
        replace HL := Lib.hid (HL.out.below hbj)
        clear hgj hbj
        by_cases hlj : j < n
        · obtain ⟨b, off, rfl, hb, hc⟩ := HL.out.some (by omega)
          have ck := (hc j hlj).1
          have ck' := (hc j hlj).2
          have bd := HBD.out j (by omega)
          have hm := HM.out j hlj
          obtain ⟨hm1, hm2⟩ := hm
          obtain ⟨bd1, bd2⟩ := bd
          obtain ⟨s, hs⟩ : ∃ s, sm acc ga gm j = s := ⟨_, rfl⟩
          rw [hs] at bd1 bd2
          rw [hs]
          have HS' := Lib.hid hs
          clear hc hs
          by_cases hq : ga j = acc
          · have HQ := Lib.hid hq
            have hq1 : (ga j == acc) = true := by simpa using hq
            clear hq
            go_wp2
            go_roundg (n - (j + 1))
            case measure => have := HGJ.out; omega
            case rel => exact ⟨j + 1, by omega, rfl, by go_num, by rw [sm_yes HQ.out, HS'.out], HBJ.out.alloc HBJ.out.size _⟩
          · have HQ := Lib.hid hq
            have hq1 : (ga j == acc) = false := by simpa using hq
            clear hq
            go_wp2
            go_roundg (n - (j + 1))
            case measure => have := HGJ.out; omega
            case rel => exact ⟨j + 1, by omega, rfl, by go_num, by rw [sm_no HQ.out, HS'.out], HBJ.out.alloc HBJ.out.size _⟩
        · obtain rfl : j = n := by omega
          clear hlj
          go_wp2
          go_meet
          exact ⟨_, _, _, _, rfl, (HW.out.below HBJ.out).someL, mc_le _ 7, fun w' hA => jmerge_yes A j c ga gm w' hA HS, fun w' hA => jnet_yes A j c ga gm acc w' hA HS, HB4.out.trans (HBJ.out.mono HB4.out.size)⟩
  case rest =>
    obtain ⟨K, ra, rm, N, rfl, ⟨Aw, cw, rfl, wc1, wcm, _, wat⟩, hK, hMI, hNI, hbx⟩ := hcut
    have HMI := Lib.hid hMI
    have HNI := Lib.hid hNI
    have HW := Lib.hid wat
    replace HL := Lib.hid (HL.out.below hbx)
    replace HC := Lib.hid (HC.out.below hbx)
    replace HB := Lib.hid (HB.out.trans (hbx.mono HB.out.size))
    clear wat hMI hNI hbx HQ1 HQ2 HN
    go_wp2_with fail
    go_loopg [19, 20, 58] n (fun gh d e i wr => ∃ j : Nat, j ≤ n ∧ gh = n - j ∧ i = .int .i64 j ∧ d = .int .i64 (tot (fun j => dm (gm j)) j) ∧ e = .int .i64 (tot (fun j => cm (gm j)) j) ∧ Below wc.heap.size wc wr)
    case atStart => exact ⟨0, Nat.zero_le _, by omega, rfl, rfl, rfl, Below.refl _ _⟩
    case round =>
      obtain ⟨j, hj, hgj, rfl, rfl, rfl, hbj⟩ := hrel
      have HGJ := Lib.hid hgj
      have HBJ := Lib.hid hbj
      replace HL := Lib.hid (HL.out.below hbj)
      replace HC := Lib.hid (HC.out.below hbj)
      replace HW := Lib.hid (HW.out.below hbj)
      have tb := dm_tot gm j
      obtain ⟨tb1, tb2, tb3, tb4⟩ := tb
      obtain ⟨D, hD⟩ : ∃ D, tot (fun j => dm (gm j)) j = D := ⟨_, rfl⟩
      obtain ⟨C, hC⟩ : ∃ C, tot (fun j => cm (gm j)) j = C := ⟨_, rfl⟩
      rw [hD] at tb1 tb2
      rw [hC] at tb3 tb4
      rw [hD, hC]
      have HD := Lib.hid hD
      have HCC := Lib.hid hC
      clear hgj hbj hD hC
      by_cases hlj : j < n
      · obtain ⟨b, off, rfl, hb, hc⟩ := HL.out.some (by omega)
        have ck := (hc j hlj).1
        have ck' := (hc j hlj).2
        obtain ⟨x, hx⟩ : ∃ x, gm j = x := ⟨_, rfl⟩
        rw [hx] at ck'
        have HX := Lib.hid hx
        clear hc hx
        by_cases hm : Mon x
        · have hm' := hm
          obtain ⟨hm1, hm2⟩ := hm'
          have HE : Hid (dm x = max x 0 ∧ cm x = max (-x) 0) := Lib.hid (by unfold dm cm; rw [if_pos hm, if_pos hm]; split <;> omega)
          clear hm
          go_wp2_with (first | (go_at_call 17; (with_reducible refine (rmon_yes _ _ hm1 hm2).mono ?_); rintro e w' ⟨rfl, rfl⟩))
          generalize hw1 : wr.alloc (.cells #[.int .i64 (ga j), .int .i64 x] 26) = w1
          have d2 : w1.cell? ⟨wr.heap.size, 1, none⟩ = some (.int .i64 x) := by rw [← hw1]; simp
          have HBA := Lib.hid (hw1 ▸ HBJ.out.alloc HBJ.out.size (.cells #[.int .i64 (ga j), .int .i64 x] 26))
          clear ck ck' hw1
          have e1 : IntKind.i64.wrap (-x) = -x := IntWalk.i64_in _ (by omega)
          by_cases hp : 0 < x
          · have e2 : IntKind.i64.wrap (D + x) = D + x := IntWalk.i64_in _ (by omega)
            have e3 : IntKind.i64.wrap C = C := IntWalk.i64_in _ (by omega)
            have p1 : ¬ x < 0 := by omega
            go_region_held3 (fun w' => w'.cell? ⟨wr.heap.size, 1, none⟩ = some (.int .i64 x)) (first | go_keep) (fail)
            all_goals
              have HB3 := Lib.hid (HBA.out.drew)
              clear e1 e2 e3
              go_wp2
              go_roundg (n - (j + 1))
              case measure => have := HGJ.out; omega
              case rel =>
                have q := HE.out
                exact ⟨j + 1, by omega, rfl, by go_num, congrArg (Value.int .i64) (by rw [tot, HD.out, HX.out, q.1]; omega), congrArg (Value.int .i64) (by rw [tot, HCC.out, HX.out, q.2]; omega), HB3.out⟩
          · by_cases h0 : x = 0
            · have e2 : IntKind.i64.wrap (C + -x) = C + -x := IntWalk.i64_in _ (by omega)
              have e3 : IntKind.i64.wrap (D + x) = D + x := IntWalk.i64_in _ (by omega)
              have p1 : ¬ x < 0 := by omega
              have H0 := Lib.hid h0
              clear h0
              go_region_held3 (fun w' => w'.cell? ⟨wr.heap.size, 1, none⟩ = some (.int .i64 x)) (first | go_keep) (fail)
              all_goals
                have HB3 := Lib.hid (HBA.out.drew)
                clear e1 e2 e3
                go_wp2
                go_roundg (n - (j + 1))
                case measure => have := HGJ.out; omega
                case rel =>
                  have q := HE.out; have z0 := H0.out
                  exact ⟨j + 1, by omega, rfl, by go_num, congrArg (Value.int .i64) (by rw [tot, HD.out, HX.out, q.1]; omega), congrArg (Value.int .i64) (by rw [tot, HCC.out, HX.out, q.2]; omega), HB3.out⟩
            · have e2 : IntKind.i64.wrap (C + -x) = C + -x := IntWalk.i64_in _ (by omega)
              have e3 : IntKind.i64.wrap D = D := IntWalk.i64_in _ (by omega)
              have p1 : x < 0 := by omega
              go_region_held3 (fun w' => w'.cell? ⟨wr.heap.size, 1, none⟩ = some (.int .i64 x)) (first | go_keep) (fail)
              all_goals
                have HB3 := Lib.hid (HBA.out.drew)
                clear e1 e2 e3
                go_wp2
                go_roundg (n - (j + 1))
                case measure => have := HGJ.out; omega
                case rel =>
                  have q := HE.out
                  exact ⟨j + 1, by omega, rfl, by go_num, congrArg (Value.int .i64) (by rw [tot, HD.out, HX.out, q.1]; omega), congrArg (Value.int .i64) (by rw [tot, HCC.out, HX.out, q.2]; omega), HB3.out⟩
        · have hM : Hid (x < -100000000000 ∨ 100000000000 < x) := Lib.hid (mon_no hm)
          have HE : Hid (dm x = 0 ∧ cm x = 0) := Lib.hid (by unfold dm cm; rw [if_neg hm, if_neg hm]; exact ⟨rfl, rfl⟩)
          clear hm
          go_wp2_with (first | (go_at_call 17; (with_reducible refine (rmon_no _ _ hM.out).mono ?_); rintro e w' ⟨rfl, rfl⟩))
          go_roundg (n - (j + 1))
          case measure => have := HGJ.out; omega
          case rel => exact ⟨j + 1, by omega, rfl, by go_num, by rw [tot, HD.out, HX.out, HE.out.1, Int.add_zero], by rw [tot, HCC.out, HX.out, HE.out.2, Int.add_zero], HBJ.out.alloc HBJ.out.size _⟩
      · obtain rfl : j = n := by omega
        clear hlj
        obtain ⟨ev, gb, hh, CK, RK⟩ : ∃ (ev : Int) (gb : Bool), ((ev = 0 ∧ gb = true) ∨ (ev = 2 ∧ gb = false)) ∧ Hid (∀ w, AtL w A j ga gm → Calls Try.prog 8 #[.slice A j c] w fun e w' => e = .returned (.int .i64 ev) ∧ Below w.heap.size w w') ∧ Hid (∀ w, AtL w A j ga gm → Calls Try.prog 20 #[.slice A j c] w fun e w' => e = .returned (.bool gb) ∧ Below w.heap.size w w') := by
          by_cases h : Good j ga gm
          · exact ⟨0, true, .inl ⟨rfl, rfl⟩, Lib.hid fun w hA => jcheck_yes A j c ga gm w hA (Lib.hid h), Lib.hid fun w hA => rcheck_yes A j c ga gm w hA (Lib.hid h)⟩
          · exact ⟨2, false, .inr ⟨rfl, rfl⟩, Lib.hid fun w hA => jcheck_no A j c ga gm w hA (by omega) (Lib.hid h), Lib.hid fun w hA => rcheck_no A j c ga gm w hA (by omega) (Lib.hid h)⟩
        have JS : Hid (∀ w, AtL w A j ga gm → Calls Try.prog 19 #[.slice A j c] w fun e w' => e = .returned (cx D C) ∧ Below w.heap.size w w') := Lib.hid fun w hA => by rw [← HD.out, ← HCC.out]; exact jsides_any A j c ga gm w hA (by omega)
        have BO := Lib.hid fun w => both_any D C w tb1 (by omega) tb3 (by omega)
        rcases hh with ⟨rfl, rfl⟩ | ⟨rfl, rfl⟩
        all_goals
          go_wp2_with fail
          refine (CK.out _ HL.out).mono ?_
          rintro e wa ⟨rfl, hba⟩
          (replace HL := Lib.hid (HL.out.below hba); replace HC := Lib.hid (HC.out.below hba); replace HW := Lib.hid (HW.out.below hba))
          replace HBJ := Lib.hid (HBJ.out.trans (hba.mono HBJ.out.size))
          clear hba
          go_wp2_with fail
          refine (JS.out _ HL.out).mono ?_
          rintro e wb ⟨rfl, hba⟩
          (replace HL := Lib.hid (HL.out.below hba); replace HC := Lib.hid (HC.out.below hba); replace HW := Lib.hid (HW.out.below hba))
          replace HBJ := Lib.hid (HBJ.out.trans (hba.mono HBJ.out.size))
          clear hba
          go_wp2_with (go_at_call 18; (with_reducible refine (BO.out _).mono ?_); rintro e w' ⟨rfl, rfl⟩)
          refine (RK.out _ HL.out).mono ?_
          rintro e wd ⟨rfl, hba⟩
          (replace HL := Lib.hid (HL.out.below hba); replace HC := Lib.hid (HC.out.below hba); replace HW := Lib.hid (HW.out.below hba))
          replace HBJ := Lib.hid (HBJ.out.trans (hba.mono HBJ.out.size))
          clear hba
          go_wp2_with fail
          refine (HMI.out _ HL.out).mono ?_
          rintro e we ⟨vm, rfl, hom, hba⟩
          obtain ⟨Am, cm', rfl, mc1, mcm, _, mat⟩ := hom.cut
          have HMM := Lib.hid mat
          (replace HL := Lib.hid (HL.out.below hba); replace HC := Lib.hid (HC.out.below hba); replace HW := Lib.hid (HW.out.below hba))
          replace HBJ := Lib.hid (HBJ.out.trans (hba.mono HBJ.out.size))
          clear hba hom mat
          go_wp2_with (go_at_call 14; (with_reducible refine (samel_true _ _ _ _ _ _ _ _ _ _ HMM.out HW.out (by omega) fun j _ => ⟨rfl, rfl⟩).mono ?_); rintro e wf ⟨rfl, hba⟩; (replace HL := Lib.hid (HL.out.below hba); replace HC := Lib.hid (HC.out.below hba)); replace HBJ := Lib.hid (HBJ.out.trans (hba.mono HBJ.out.size)); clear hba)
          refine (jrev_any _ _ _ _ _ _ HL.out (by omega)).mono ?_
          rintro e wg ⟨vr, rfl, hor, hba⟩
          obtain ⟨Ar, cr, rfl, rc1, rcm, _, rat⟩ := hor.cut
          have HR := Lib.hid rat
          (replace HL := Lib.hid (HL.out.below hba); replace HC := Lib.hid (HC.out.below hba))
          replace HBJ := Lib.hid (HBJ.out.trans (hba.mono HBJ.out.size))
          clear hba hor rat
          go_wp2_with fail
          refine (rrevl _ _ _ _ _ _ HL.out (by omega)).mono ?_
          rintro e wh ⟨vr, rfl, hor, hba⟩
          obtain ⟨Ar2, cr2, rfl, rc2, rcm2, _, rat⟩ := hor.cut
          have HR2 := Lib.hid rat
          (replace HL := Lib.hid (HL.out.below hba); replace HC := Lib.hid (HC.out.below hba); replace HR := Lib.hid (HR.out.below hba))
          replace HBJ := Lib.hid (HBJ.out.trans (hba.mono HBJ.out.size))
          clear hba hor rat
          go_wp2_with (go_at_call 14; (with_reducible refine (samel_true _ _ _ _ _ _ _ _ _ _ HR.out HR2.out (by omega) fun j _ => ⟨rfl, rfl⟩).mono ?_); rintro e wi ⟨rfl, hba⟩; (replace HL := Lib.hid (HL.out.below hba); replace HC := Lib.hid (HC.out.below hba)); replace HBJ := Lib.hid (HBJ.out.trans (hba.mono HBJ.out.size)); clear hba)
          refine (HNI.out _ HL.out).mono ?_
          rintro e wj ⟨rfl, hba⟩
          (replace HL := Lib.hid (HL.out.below hba); replace HC := Lib.hid (HC.out.below hba))
          replace HBJ := Lib.hid (HBJ.out.trans (hba.mono HBJ.out.size))
          clear hba
          go_wp2_with (go_at_call 14; (with_reducible refine (samel_true _ _ _ _ _ _ _ _ _ _ HL.out HC.out (by omega) fun j _ => ⟨rfl, rfl⟩).mono ?_); rintro e wl ⟨rfl, hba⟩; replace HBJ := Lib.hid (HBJ.out.trans (hba.mono HBJ.out.size)); clear hba)
          refine (wakes6_any _).mono ?_
          rintro e wm ⟨rfl, hba⟩
          replace HBJ := Lib.hid (HBJ.out.trans (hba.mono HBJ.out.size))
          clear hba
          go_wp2_with fail
          go_ret
          exact ⟨rfl, HB.out.trans (HBJ.out.mono HB.out.size)⟩
end Go.Proofs.Ytfmgmdmiceomeaa
