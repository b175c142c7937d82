/- JournalMerges: its walk. -/
import Derived.Test.YtfmgmdmiceomeaaJSome
import Derived.Test.YtfmgmdmiceomeaaCutL
import Derived.WalkKit
import Derived.WalkSpells
import Derived.WalkLawsBesides
import Derived.Lib.Hide
import Derived.Deep.LoopGhost
import Derived.Deep.RegionHeld3
import Derived.Deep.RegionLaw
import Derived.IntWalk
namespace Go.Proofs.Ytfmgmdmiceomeaa
open Go.RowKit

/-- turned round -/
theorem wrap_neg {x : Int} (h : Mon x) : wrap64 (-x) = -x := by unfold Mon at h; unfold wrap64; omega
theorem jrev_mon (A : Option Addr) (n c : Nat) (ga gm : Nat → Int) (w : World) (hA : AtL w A n ga gm) (hn : n ≤ 1000000) (h : ∀ j, j < n → Mon (gm j)) :
    Calls Try.prog 21 #[.slice A n c] w fun e w' => ∃ v, e = .returned v ∧ OwnL w' 26 w.heap.size v n ga (fun j => -gm j) ∧ Below w.heap.size w w' := by
  refine (jrev_any A n c ga gm w hA hn).mono ?_
  rintro e w' ⟨v, rfl, ho, hb⟩
  exact ⟨v, rfl, ho.ext fun j hj => ⟨rfl, wrap_neg (h j hj)⟩, hb⟩
theorem mon_neg {x : Int} (h : Mon x) : Mon (-x) := by unfold Mon at *; omega
set_option maxHeartbeats 4000000 in
set_option maxRecDepth 100000 in
theorem journalMerges_walk (a0 : Option Addr) (len0 cap0 : Nat) (z0 : List Int) (a1 : Option Addr) (len1 cap1 : Nat) (z1 : List Int) (a2 : Int) (w : World) (w0 : IsRow .i64 w a0 len0 cap0 z0) (w1 : IsRow .i64 w a1 len1 cap1 z1) (_w2 : (Lit.int .i64 a2).wf = true) :
    Calls Try.prog 6 #[.slice a0 len0 cap0, .slice a1 len1 cap1, .int .i64 a2] w fun e w' => e = .returned (.bool true) ∧ Below w.heap.size w w' := by
  obtain ⟨i0, hi, hz0, hz1, hz2⟩ := info_parts line_info
  have I0 := Lib.hid w0.at.1
  have I1 := Lib.hid w1.at.1
  clear w0 w1
  go_enter Try.func6, Try.ntmps6
  go_wp2_with fail
  refine (right_any _ _ _ _ _ _ _ _ _ I0.out I1.out).mono ?_
  rintro e wx ⟨x, S, rfl, hS, hox, hbx⟩
  obtain ⟨Ax, cx, rfl, xc, xcm, xN, xat⟩ := hox.cut
  have HS := Lib.hid hS
  have HX := Lib.hid xat
  have HXN := Lib.hid xN
  have HB := Lib.hid hbx
  have HM := Lib.hid hS.mon
  have HG := Lib.hid hS.good
  have h7 := mc_le S 7
  unfold maxLen at xcm
  clear hS hox xat xN hbx I0 I1
  go_wp2_with (first | (go_at_call 8; (with_reducible refine (jcheck_yes _ _ _ _ _ _ HX.out HG).mono ?_); rintro e wk ⟨rfl, hbk⟩; (replace HX := Lib.hid (HX.out.below hbk)); replace HB := Lib.hid (HB.out.trans (hbk.mono HB.out.size)); clear hbk) | (go_at_call 11; (with_reducible refine (mmerge _ _ _ _ HX.out HM.out).mono ?_); rintro e wm ⟨vm, rfl, hom, hbm⟩; obtain ⟨Am, cm', rfl, mc1, mcm, _, mat⟩ := hom.cut; (replace HX := Lib.hid (HX.out.below hbm)); replace HB := Lib.hid (HB.out.trans (hbm.mono HB.out.size)); have HMR := Lib.hid mat; clear hom hbm mat) | (go_at_call 14; (with_reducible refine (samel_true _ _ _ _ _ _ _ _ _ _ HMR.out HX.out (by omega) fun j _ => ⟨rfl, rfl⟩).mono ?_); rintro e w4 ⟨rfl, hb4⟩; (replace HX := Lib.hid (HX.out.below hb4)); replace HB := Lib.hid (HB.out.trans (hb4.mono HB.out.size)); clear hb4))
  go_loopg [8, 29] (mc S 7) (fun gh v i wr => ∃ k : Nat, k ≤ mc S 7 ∧ gh = mc S 7 - k ∧ i = .int .i64 k ∧ OwnL wr 26 w4.heap.size v k (fun j => ma S 7 (mc S 7 - 1 - j)) (fun j => mm S 7 (mc S 7 - 1 - j)) ∧ Below w4.heap.size w4 wr)
  case atStart => exact ⟨0, Nat.zero_le _, rfl, rfl, OwnL.nil _ _ _ _ _, Below.refl _ _⟩
  case round =>
    obtain ⟨k, hk, hgk, rfl, ho, hbw⟩ := hrel
    have HGK := Lib.hid hgk
    replace HX := Lib.hid (HX.out.below hbw)
    have HBW := Lib.hid hbw
    obtain ⟨Ar, cr, rfl, rc1, rcm, _, rat⟩ := ho.cut
    have HO := Lib.hid ho
    have HR := Lib.hid rat
    clear hgk ho hbw rat
    by_cases hlt : k < mc S 7
    · obtain ⟨b, off, rfl, hb, hc⟩ := HX.out.some (by omega)
      have ck := (hc (mc S 7 - 1 - k) (by omega)).1
      have ck' := (hc (mc S 7 - 1 - k) (by omega)).2
      have e1 : ((mc S 7 : Int) - 1 - (k : Int)).toNat = mc S 7 - 1 - k := by omega
      have q1 : (0 : Int) ≤ (mc S 7 : Int) - 1 - (k : Int) := by omega
      clear hc
      go_wp2_with (at_builtin; (refine wpList_push_l rfl (.tmp 32) (.tmp 41) rfl line_type hi hz0 hz1 hz2 w4 w4.heap.size k wr.heap.size _ _ _ (ma S 7 (mc S 7 - 1 - k)) (mm S 7 (mc S 7 - 1 - k)) rfl rfl (by simp) (by simp) (HO.out.alloc _) (by omega) (HBW.out.alloc HBW.out.size _) (by have := HBW.out.size; simp; omega) _ rfl ?_; intro b1 c1 w' ho' hb' hg' hat'; have HO' := Lib.hid ho'; have HB' := Lib.hid hb'; clear ho' hg' hat' hb'))
      go_roundg (mc S 7 - (k + 1))
      case measure => have := HGK.out; omega
      case rel =>
        refine ⟨k + 1, by omega, rfl, by go_num, HO'.out.ext fun j hj => ?_, HB'.out⟩
        by_cases q : j = k
        · rw [q]; simp
        · rw [if_neg q, if_neg q]; exact ⟨rfl, rfl⟩
    · obtain rfl : k = mc S 7 := by omega
      clear hlt
      have SR : Hid (Summ (mc S 7) (fun j => mm S 7 (mc S 7 - 1 - j))) := Lib.hid ⟨by omega, fun j hj => HM.out.row _ (by omega)⟩
      go_wp2_with fail
      refine (jmerge_yes _ _ _ _ _ _ HR.out SR).mono ?_
      rintro e wn ⟨vn, rfl, hon, hbn⟩
      have hon' := hon.by (T := S) fun a h1 h2 => by
        rw [← smf_mrg S a h1 h2]; exact sm_rev a _ _ _
      obtain ⟨An, cn, rfl, nc1, ncm, _, nat'⟩ := hon'.cut
      have HN := Lib.hid nat'
      replace HX := Lib.hid (HX.out.below hbn)
      have HB2 := Lib.hid (HB.out.trans ((HBW.out.trans (hbn.mono HBW.out.size)).mono HB.out.size))
      clear hon hon' hbn nat' HO HR SR
      go_wp2_with (first | (go_at_call 14; (with_reducible refine (samel_true _ _ _ _ _ _ _ _ _ _ HN.out HX.out (by omega) fun j _ => ⟨rfl, rfl⟩).mono ?_); rintro e w6 ⟨rfl, hb6⟩; (replace HX := Lib.hid (HX.out.below hb6)); replace HB2 := Lib.hid (HB2.out.trans (hb6.mono HB2.out.size)); clear hb6))
      refine (copyl_any _ _ _ _ _ _ HX.out (by omega) HXN.out).mono ?_
      rintro e wc ⟨vc, rfl, hoc, hbc⟩
      have HOC := Lib.hid hoc
      have HBC := Lib.hid hbc
      clear hoc hbc
      go_wp2_with fail
      refine (jrev_mon _ _ _ _ _ _ (HX.out.below HBC.out) (by omega) fun j hj => HM.out.row j hj).mono ?_
      rintro e wv ⟨vv, rfl, hov, hbv⟩
      obtain ⟨Av, cv, rfl, vc1, vcm, vN, vat⟩ := hov.cut
      have HV := Lib.hid vat
      have HVN := Lib.hid vN
      replace HOC := Lib.hid (HOC.out.below hbv)
      replace HBC := Lib.hid (HBC.out.trans (hbv.mono HBC.out.size))
      clear hov hbv vat vN
      go_wp2_with (first | (refine wpList_app_g (by rfl) (.tmp 51) (.tmp 53) rfl line_type hi hz0 hz1 hz2 w6 w6.heap.size (mc S 7) (mc S 7) cv vc Av _ _ _ _ rfl rfl HOC.out HV.out HVN.out (by omega) (by omega) HBC.out HBC.out.size ?_; intro vl wl hol hbl hgl; have HOL := Lib.hid hol; have HBL := Lib.hid hbl; clear hol hbl hgl))
      obtain ⟨Al, cl, rfl, lc1, lcm, _, lat⟩ := HOL.out.cut
      have HL := Lib.hid lat
      clear lat
      refine (mjoin Al cl _ _ _ _ _ _ (fun _ => 0) _ HL.out (by omega) (fun j hj => HM.out.row j hj) (fun j hj => mon_neg (HM.out.row j hj)) fun a h1 h2 => by rw [sm_neg]; omega).mono ?_
      rintro e wz ⟨vz, rfl, hoz, hbz⟩
      rw [mc_none] at hoz
      obtain ⟨Az, cz, rfl, zc1, zcm, _, _⟩ := hoz.cut
      have HBZ := Lib.hid (HBL.out.trans (hbz.mono HBL.out.size))
      clear hoz hbz HL HOL HBL HOC HV HVN HBC
      go_wp2_with fail
      refine (jrev_mon _ _ _ _ _ _ (HX.out.below HBZ.out) (by omega) fun j hj => HM.out.row j hj).mono ?_
      rintro e wv2 ⟨vv, rfl, hov, hbv⟩
      obtain ⟨Av2, cv2, rfl, vc1', vcm', vN, vat⟩ := hov.cut
      have HV := Lib.hid vat
      replace HBZ := Lib.hid (HBZ.out.trans (hbv.mono HBZ.out.size))
      clear hov hbv vat vN
      go_wp2_with (go_at_call 8; (with_reducible refine (jcheck_yes _ _ _ _ _ _ HV.out (Lib.hid (good_neg HG.out))).mono ?_); rintro e wk2 ⟨rfl, hbk⟩; replace HBZ := Lib.hid (HBZ.out.trans (hbk.mono HBZ.out.size)); clear hbk)
      refine (jrev_mon _ _ _ _ _ _ (HX.out.below HBZ.out) (by omega) fun j hj => HM.out.row j hj).mono ?_
      rintro e wv3 ⟨vv, rfl, hov, hbv⟩
      obtain ⟨Av3, cv3, rfl, vc1'', vcm'', vN, vat⟩ := hov.cut
      have HV3 := Lib.hid vat
      replace HBZ := Lib.hid (HBZ.out.trans (hbv.mono HBZ.out.size))
      clear hov hbv vat vN
      go_wp2_with fail
      refine (jrev_mon _ _ _ _ _ _ HV3.out (by omega) fun j hj => mon_neg (HM.out.row j hj)).mono ?_
      rintro e wv4 ⟨vv, rfl, hov, hbv⟩
      obtain ⟨Av4, cv4, rfl, vc3, vcm3, vN, vat⟩ := hov.cut
      have HV4 := Lib.hid vat
      replace HBZ := Lib.hid (HBZ.out.trans (hbv.mono HBZ.out.size))
      have HX4 := Lib.hid (HX.out.below HBZ.out)
      clear hov hbv vat vN
      go_wp2_with (first | (go_at_call 14; (with_reducible refine (samel_true _ _ _ _ _ _ _ _ _ _ HV4.out HX4.out (by omega) fun j _ => ⟨rfl, by show - -_ = _; omega⟩).mono ?_); rintro e w7 ⟨rfl, hb7⟩; have HX7 := Lib.hid (HX4.out.below hb7); replace HBZ := Lib.hid (HBZ.out.trans (hb7.mono HBZ.out.size)); clear hb7))
      have HB7 := Lib.hid (HB2.out.trans (HBZ.out.mono HB2.out.size))
      clear HX HX4 HV HV3 HV4 HBZ HB2 HN HB HBW
      go_loopg [75] (mc S 7) (fun gh i wr => ∃ k : Nat, k ≤ mc S 7 ∧ gh = mc S 7 - k ∧ i = .int .i64 k ∧ Below w7.heap.size w7 wr)
      case atStart => exact ⟨0, Nat.zero_le _, rfl, rfl, Below.refl _ _⟩
      case round =>
        obtain ⟨k, hk, hgk, rfl, hbw⟩ := hrel
        have HGK := Lib.hid hgk
        have HBR := Lib.hid hbw
        have HX := Lib.hid (HX7.out.below hbw)
        clear hgk hbw
        by_cases hlt : k < mc S 7
        · obtain ⟨b, off, rfl, hb, hc⟩ := HX.out.some (by omega)
          have ck := (hc k hlt).1
          have ck' := (hc k hlt).2
          obtain ⟨m1, m2, _⟩ := ma_spec S 7 k hlt
          have NT := Lib.hid fun w' hA => mnet (some ⟨b, off, none⟩) cx S (ma S 7 k) w' hA HM.out m1 m2
          rw [show S (ma S 7 k) = mm S 7 k from rfl] at NT
          clear hc m1 m2
          obtain ⟨p, hp⟩ : ∃ p, ma S 7 k = p := ⟨_, rfl⟩
          obtain ⟨q, hq⟩ : ∃ q, mm S 7 k = q := ⟨_, rfl⟩
          rw [hp] at ck NT
          rw [hq] at ck' NT
          clear hp hq
          go_wp2_with fail
          generalize hw1 : wr.alloc (.cells #[.int .i64 p, .int .i64 q] 26) = w1
          have d1 : w1.cell? ⟨wr.heap.size, 0, none⟩ = some (.int .i64 p) := by rw [← hw1]; simp
          have d2 : w1.cell? ⟨wr.heap.size, 1, none⟩ = some (.int .i64 q) := by rw [← hw1]; simp
          have HXA := Lib.hid (hw1 ▸ HX.out.alloc (.cells #[.int .i64 p, .int .i64 q] 26))
          have HBA := Lib.hid (hw1 ▸ HBR.out.alloc HBR.out.size (.cells #[.int .i64 p, .int .i64 q] 26))
          clear ck ck' hw1
          have hdr := (keep_drew d1 d2).2.2
          go_region_held3 (fun w' => w'.cell? ⟨wr.heap.size, 0, none⟩ = some (.int .i64 p) ∧ w'.cell? ⟨wr.heap.size, 1, none⟩ = some (.int .i64 q) ∧ Below w1.heap.size w1 w') (first | go_keep) (first | (go_at_call 13; (with_reducible refine (NT.out _ (HXA.out.below (by assumption))).mono ?_); rintro e w2 ⟨rfl, hb2⟩; obtain ⟨k1, k2, k3⟩ := keep_call (p := ⟨wr.heap.size, 0, none⟩) (r := ⟨wr.heap.size, 1, none⟩) (w1 := w1) (by assumption) (by assumption) (by assumption) hb2))
          have HB3 := Lib.hid k3
          clear k1 k2 k3 hb2
          go_wp2
          go_roundg (mc S 7 - (k + 1))
          case measure => have := HGK.out; omega
          case rel => exact ⟨k + 1, by omega, rfl, by go_num, HBA.out.trans (HB3.out.mono HBA.out.size)⟩
        · obtain rfl : k = mc S 7 := by omega
          have HBW := Lib.hid (HB7.out.trans (HBR.out.mono HB7.out.size))
          clear hlt
          have h1 := dm_tot (mm S 7) (mc S 7)
          have e1 := tot_net (gm := mm S 7) (n := mc S 7) fun j hj => HM.out.row j hj
          rw [HG.out.2.2.2] at e1
          have JS := Lib.hid fun w hA => jsides_any Ax (mc S 7) cx (ma S 7) (mm S 7) w hA (by omega)
          obtain ⟨D, hD⟩ : ∃ D, tot (fun j => dm (mm S 7 j)) (mc S 7) = D := ⟨_, rfl⟩
          obtain ⟨C, hC⟩ : ∃ C, tot (fun j => cm (mm S 7 j)) (mc S 7) = C := ⟨_, rfl⟩
          rw [hD, hC] at h1 e1 JS
          obtain ⟨x1, x2, x3, x4⟩ := h1
          have EV := Lib.hid fun w => even_yes D C w x1 (by omega) (by omega)
          clear hD hC e1 x1 x2 x3 x4
          by_cases hz : mc S 7 = 0
          · have hq1 : ((mc S 7 : Int) == 0) = true := by simp [hz]
            clear hz
            go_wp2_with (first | (go_at_call 19; (with_reducible refine (JS.out _ HX.out).mono ?_); rintro e ws ⟨rfl, hbs⟩; have HBS := Lib.hid (HBW.out.trans (hbs.mono HBW.out.size)); clear hbs) | (go_at_call 24; (with_reducible refine (EV.out _).mono ?_); rintro e w' ⟨rfl, rfl⟩) | (go_at_call 9; (with_reducible refine (wakes6_any _).mono ?_); rintro e wk ⟨rfl, hbk⟩; have HBK := Lib.hid (HBS.out.trans (hbk.mono HBS.out.size)); clear hbk))
            go_ret
            exact ⟨rfl, HBK.out⟩
          · have hq1 : ((mc S 7 : Int) == 0) = false := by simp [hz]
            have hq2 : 1 ≤ mc S 7 := by omega
            clear hz
            go_wp2_with fail
            refine (within_some _ _ _ (by omega) (by omega)).mono ?_
            rintro e w' ⟨x, x1, x2, rfl, rfl⟩
            obtain ⟨t, rfl⟩ : ∃ t : Nat, x = t := ⟨x.toNat, by omega⟩
            have ht : t < mc S 7 := by omega
            obtain ⟨b, off, rfl, hb, hc⟩ := HX.out.some (by omega)
            have HL1 : Hid (AtL wr (some ⟨b, off, none⟩) t (ma S 7) (mm S 7)) := Lib.hid (.inr ⟨b, off, rfl, hb, fun j hj => hc j (by omega)⟩)
            have HL2 : Hid (AtL wr (if cx = t + 1 then some ⟨b, off, none⟩ else some ⟨b, off + (t + 1) * 2, none⟩) (mc S 7 - (t + 1)) (fun j => ma S 7 (t + 1 + j)) (fun j => mm S 7 (t + 1 + j))) := Lib.hid (by
              by_cases q : cx = t + 1
              · exact .inl (by omega)
              · rw [if_neg q]
                exact .inr ⟨b, _, rfl, hb, fun j hj => by
                  have := hc (t + 1 + j) (by omega)
                  rwa [show off + (t + 1 + j) * 2 = off + (t + 1) * 2 + j * 2 by omega] at this⟩)
            have HL3 : Hid (∃ ad, (if cx = t + 1 then some (⟨b, off, none⟩ : Addr) else some ⟨b, off + (t + 1) * 2, none⟩) = some ad) := Lib.hid (by split <;> exact ⟨_, rfl⟩)
            have s1 : IntKind.i64.wrap ((t : Int) + 1) = (t : Int) + 1 := IntWalk.i64_in _ (by omega)
            have s2 : ((t : Int) + 1).toNat = t + 1 := by omega
            have s3 : (0 : Int) ≤ (t : Int) + 1 := by omega
            have s4 : (0 : Int) ≤ (t : Int) := by omega
            have s5 : (t : Int) ≤ (cx : Int) := by omega
            have s6 : (t : Int) + 1 ≤ (mc S 7 : Int) := by omega
            have s7 : (mc S 7 : Int) ≤ (cx : Int) := by omega
            have s8 : (t : Int).toNat = t := by omega
            have s9 : (t : Int) ≤ (t : Int) := Int.le_refl _
            clear hc
            go_wp2_with fail
            go_region_held3 (fun _ => True) (trivial) (first | (refine step_cut_l rfl (.tmp 103) (.tmp 107) rfl line_type hi hz0 hz1 hz2 b off t (mc S 7 - (t + 1)) _ _ HL3.out _ _ _ _ rfl rfl HL1.out HL2.out (by omega) (by omega) ?_; intro Al cl wl e1 e2 e3 e4 e5))
            have e6 : Below wr.heap.size wr wl := ⟨e5.os, e5.tape, e5.output, e5.size, e5.block⟩
            have HNG : Hid (¬ Good (t + (mc S 7 - (t + 1))) (cat t (ma S 7) fun j => ma S 7 (t + 1 + j)) (cat t (mm S 7) fun j => mm S 7 (t + 1 + j))) := Lib.hid fun g => by
              have q := tot_less (mm S 7) t (mc S 7 - (t + 1))
              rw [show t + 1 + (mc S 7 - (t + 1)) = mc S 7 by omega, HG.out.2.2.2] at q
              have q2 := g.2.2.2
              unfold less at q
              rw [q2] at q
              exact (ma_spec S 7 t ht).2.2 (by show mm S 7 t = 0; omega)
            have hd : t + (mc S 7 - (t + 1)) ≤ 1000000 := by omega
            have HD := Lib.hid e4
            have HXL := Lib.hid (HX.out.below e6)
            replace HBW := Lib.hid (HBW.out.trans (e6.mono HBW.out.size))
            clear e1 e2 e3 e4 e5 e6 HL1 HL2 HL3 s1 s2 s3 s4 s5 s6 s7 s8 s9
            go_wp2_with (first | (go_at_call 19; (with_reducible refine (JS.out _ HXL.out).mono ?_); rintro e ws ⟨rfl, hbs⟩; have HDS := Lib.hid (HD.out.below hbs); have HBS := Lib.hid (HBW.out.trans (hbs.mono HBW.out.size)); clear hbs) | (go_at_call 24; (with_reducible refine (EV.out _).mono ?_); rintro e w' ⟨rfl, rfl⟩) | (go_at_call 8; (with_reducible refine (jcheck_no _ _ _ _ _ _ HDS.out hd HNG).mono ?_); rintro e wk9 ⟨rfl, hbk⟩; have HBC := Lib.hid (HBS.out.trans (hbk.mono HBS.out.size)); clear hbk) | (go_at_call 9; (with_reducible refine (wakes6_any _).mono ?_); rintro e wk8 ⟨rfl, hbk⟩; have HBK := Lib.hid (HBC.out.trans (hbk.mono HBC.out.size)); clear hbk))
            all_goals
              go_ret
              exact ⟨rfl, HBK.out⟩
end Go.Proofs.Ytfmgmdmiceomeaa
