/- MeasureTells: its walk. -/
import Derived.Test.YtnhnimchjbhnfaaLaw16a
namespace Go.Proofs.Ytnhnimchjbhnfaa
open Go.RowKit

theorem tmod2_abs (a : Int) : -1 ≤ Int.tmod a 2 ∧ Int.tmod a 2 ≤ 1 := by
  by_cases h : 0 ≤ a
  · rw [Int.tmod_eq_emod_of_nonneg h]; omega
  · have e : Int.tmod a 2 = -Int.tmod (-a) 2 := by rw [Int.neg_tmod, Int.neg_neg]
    rw [e, Int.tmod_eq_emod_of_nonneg (by omega)]; omega
theorem tmod2_lo (a : Int) : -1 ≤ Int.tmod a 2 := (tmod2_abs a).1
theorem tmod2_hi (a : Int) : Int.tmod a 2 ≤ 1 := (tmod2_abs a).2
set_option maxHeartbeats 16000000 in
set_option maxRecDepth 100000 in
theorem measureTells_walk (a0 : Option Addr) (len0 cap0 : Nat) (z0 : List Int) (a1 : Option Addr) (len1 cap1 : Nat) (z1 : List Int) (a2 : Option Addr) (len2 cap2 : Nat) (z2 : List Int) (a3 a4 a5 a6 : Int) (w : World)
    (w0 : IsRow .i64 w a0 len0 cap0 z0) (w1 : IsRow .i64 w a1 len1 cap1 z1) (w2 : IsRow .i64 w a2 len2 cap2 z2) (_k3 : (Lit.int .i64 a3).wf = true) (_k4 : (Lit.int .i64 a4).wf = true) (_k5 : (Lit.int .i64 a5).wf = true) (_k6 : (Lit.int .i64 a6).wf = true) :
    Calls Try.prog 4 #[.slice a0 len0 cap0, .slice a1 len1 cap1, .slice a2 len2 cap2, .int .i64 a3, .int .i64 a4, .int .i64 a5, .int .i64 a6] w fun e w' => e = .returned (.bool true) ∧ Below w.heap.size w w' := by
  obtain ⟨i0, hi, hz0, hz1, hz2⟩ := info_parts int_info
  have W := Lib.hid fun w => wakes16_any w
  have CT := Lib.hid (ptab_some a0 len0 cap0 z0 w w0)
  have IR1 := Lib.hid w1
  have IR2 := Lib.hid w2
  clear w0 w1 w2 _k3 _k4 _k5 _k6
  go_enter Try.func4, Try.ntmps4
  go_wp2_with fail
  refine (CT.out).mono ?_
  rintro e v1 ⟨sbx, nx, R, Ox, rfl, tx⟩
  have TX1 := Lib.hid tx
  have CO := Lib.hid (tof tx)
  clear tx CT
  go_wp2_with fail
  refine (CO.out).mono ?_
  rintro e v2 ⟨sbt, Ot, rfl, tt, hb2⟩
  have TT2 := Lib.hid tt
  have TX2 := Lib.hid (TX1.out.below hb2)
  have CG := Lib.hid (preg_open a1 len1 cap1 z1 v2 (IR1.out.below TX2.out.low))
  clear tt hb2 CO TX1
  go_wp2_with fail
  refine (CG.out).mono ?_
  rintro e v3 ⟨sbr, A, c, m, g, rfl, c0, hc, hcm, hm, hmon, _, ho, hb3⟩
  have HO3 := Lib.hid ho
  have HB3 := Lib.hid hb3
  have HM := Lib.hid hmon
  clear ho hb3 hmon CG
  have hm0 : (0 : Int) ≤ (m : Int) := by omega
  go_upto_region 6 with fail
  go_cut [55] (fun s55 wx => ∃ q : Bool, s55 = .bool q ∧ (q = true → 0 < m) ∧ v3 = wx)
  case first =>
    go_wp2
    · go_meet
      exact ⟨_, rfl, fun h => by simpa using h, rfl⟩
    · go_meet
      exact ⟨_, rfl, fun h => by simp at h, rfl⟩
  case rest =>
    obtain ⟨q, rfl, hq, rfl⟩ := hcut
    go_upto_if 55 with fail
    go_cut [56] (fun s56 wx => ∃ g' : Nat → Bk, AtR be 3 wx A m g' ∧ Below v2.heap.size v2 wx)
    case first =>
      cases q with
      | false =>
        go_wp2
        go_meet
        obtain ⟨_, _, e, _, _, _, ha⟩ := HO3.out.at be_len
        injection e with e _ _
        subst e
        exact ⟨g, ha, HB3.out⟩
      | true =>
        have hm1 := hq rfl
        obtain ⟨bb, cc, e, _, _, hbb, hbz, hcl, hfz⟩ := HO3.out.some be_len hm1
        injection e with e1 _ e2
        subst e1 e2
        have c2 := hcl 0 hm1 2 _ rfl
        rw [Nat.zero_mul, Nat.zero_add] at c2
        have f2 := hfz 2
        have m1 : (0 : Int) < (m : Int) := by omega
        clear hcl hfz
        go_wp2
        go_meet
        have o2 := HO3.out.setc be_len 0 2 ⟨(g 0).c, (g 0).y, a3⟩ (.int .i64 a3) hm1 (by decide) (fun d hd => by
          match d, hd with
          | 0, _ => rfl
          | 1, _ => rfl
          | 2, h => exact absurd rfl h
          | d + 3, _ => rfl) rfl
        rw [Nat.zero_mul, Nat.zero_add] at o2
        obtain ⟨_, _, e, _, _, _, ha⟩ := o2.at be_len
        injection e with e _ _
        subst e
        exact ⟨_, ha, HB3.out.setCell hbb _⟩
    case rest =>
      obtain ⟨g', hat, hbw⟩ := hcut
      obtain ⟨v4, rfl⟩ : ∃ v4, v4 = wc := ⟨_, rfl⟩
      have HG4 := Lib.hid hat
      have TT4 := Lib.hid (TT2.out.below hbw)
      have TX4 := Lib.hid (TX2.out.below hbw)
      clear hat hbw HM HO3 HB3 TT2 TX2 c0 hq
      go_upto_if 62 with fail
      go_cut [3] (fun s3 wx => ∃ p : Int, s3 = .int .i64 p ∧ v4 = wx)
      case first =>
        go_wp2_with (go_at_call 8; (with_reducible refine (within_some _ _ _ (by omega) (by omega)).mono ?_); rintro e w' ⟨x, x1, x2, rfl, rfl⟩)
        · go_meet
          exact ⟨_, rfl, rfl⟩
        · go_meet
          exact ⟨_, rfl, rfl⟩
      case rest =>
        obtain ⟨p, rfl, rfl⟩ := hcut
        go_upto_region 10 with fail
        go_cut [18] (fun s18 wx => ∃ jt : ByteArray, s18 = .string jt ∧ Below v4.heap.size v4 wx)
        case first =>
          obtain ⟨x, hx⟩ : ∃ x, a6 % 9 = x := ⟨_, rfl⟩
          have HX := Lib.hid hx
          have x0 : 0 ≤ x := by omega
          have x9 : x < 9 := by omega
          clear hx
          rcases (show Int.tmod x 3 = 0 ∨ Int.tmod x 3 = 1 ∨ Int.tmod x 3 = 2 by rw [Int.tmod_eq_emod_of_nonneg (by omega)]; omega) with h3 | h3 | h3
          all_goals
            go_wp2_with (go_at_call 8; (with_reducible refine (within_at _ _ _ _ (by omega) (by omega) HX).mono ?_); rintro e w' ⟨rfl, rfl⟩)
            go_meet
            exact ⟨_, rfl, (Below.refl _ _).alloc (Nat.le_refl _) _⟩
        case rest =>
          obtain ⟨jt, rfl, hb5⟩ := hcut
          obtain ⟨v5, rfl⟩ : ∃ v5, v5 = wc := ⟨_, rfl⟩
          have HG5 := Lib.hid (HG4.out.below hb5)
          have TT5 := Lib.hid (TT4.out.below hb5)
          have TX5 := Lib.hid (TX4.out.below hb5)
          clear hb5 HG4 TT4 TX4
          obtain ⟨e1, q1, r1, hr1⟩ := rates_any R nx jt g' m p
          obtain ⟨n2, e2, hn2⟩ := next_any R nx jt p
          have HR1 := Lib.hid hr1
          have HN2 := Lib.hid hn2
          have hq1 : q1 ≤ 12 := by rcases hr1 with ⟨_, _, h⟩ | ⟨_, _, h, _⟩ | ⟨_, _, h, _⟩ <;> omega
          obtain ⟨vt, st⟩ := TT5.out.st
          have CP := Lib.hid (prates_any st jt A m c g' HG5.out ⟨hc, hcm⟩ (by omega) p e1 q1 r1 hr1)
          clear st hr1 hn2
          go_wp2_with fail
          refine (CP.out).mono ?_
          rintro e v6 ⟨s6, rfl, ho6, hb6⟩
          obtain ⟨A6, c6, rfl, _, _, hat6⟩ := ho6.at
          have HA6 := Lib.hid hat6
          have HB6 := Lib.hid hb6
          obtain ⟨vx, sx⟩ := (TX5.out.below hb6).st
          have CR := Lib.hid (rrates_any sx jt A m c g' (HG5.out.below hb6) (by omega) p e1 q1 r1 HR1.out)
          clear ho6 hat6 hb6 sx CP
          go_wp2_with fail
          refine (CR.out).mono ?_
          rintro e v7 ⟨s7, rfl, ho7, hb7⟩
          obtain ⟨A7, c7, rfl, _, _, hat7⟩ := ho7.at
          have CS := Lib.hid (same_true A6 A7 q1 c6 c7 r1 r1 v7 (HA6.out.below hb7) hat7 (by omega) (fun _ _ => rfl))
          have HB7 := Lib.hid (HB6.out.trans (hb7.mono HB6.out.size))
          have ee1 : (e1 == e1) = true := by simp
          clear ho7 hat7 hb7 CR HA6 HB6
          go_wp2_with fail
          refine (CS.out).mono ?_
          rintro e v8 ⟨rfl, hb8⟩
          have HB8 := Lib.hid (HB7.out.trans (hb8.mono HB7.out.size))
          obtain ⟨vt, st⟩ := (TT5.out.below HB8.out).st
          have CN := Lib.hid (pnext_any st jt p n2 e2 HN2.out)
          clear hb8 CS HB7 st ee1
          go_wp2_with fail
          refine (CN.out).mono ?_
          rintro e v9 ⟨rfl, hb9⟩
          have HB9 := Lib.hid (HB8.out.trans (hb9.mono HB8.out.size))
          obtain ⟨vx, sx⟩ := (TX5.out.below HB9.out).st
          have CM := Lib.hid (rnext_any sx jt p n2 e2 HN2.out)
          clear hb9 CN HB8 sx
          go_wp2_with fail
          refine (CM.out).mono ?_
          rintro e v10 ⟨rfl, hb10⟩
          have HB10 := Lib.hid (HB9.out.trans (hb10.mono HB9.out.size))
          clear hb10 CM HB9
          go_upto_block 0 with fail
          go_cut [27] (fun s27 wx => ∃ (k0 : Nat) (f : Nat → Int), k0 ≤ 14 ∧ Own wx 3 v10.heap.size s27 k0 f ∧ Below v10.heap.size v10 wx)
          case first =>
            obtain ⟨h, hh, hb1, hb2⟩ : ∃ h, Int.tmod a6 2 = h ∧ -1 ≤ h ∧ h ≤ 1 := ⟨_, rfl, tmod2_lo a6, tmod2_hi a6⟩
            have HA2 := Lib.hid IR2.out.at.1
            obtain ⟨f2, hf2⟩ : ∃ f : Nat → Int, (fun j => z2.getD j 0) = f := ⟨_, rfl⟩
            rw [hf2] at HA2
            have LW := Lib.hid (TX5.out.low.trans (HB10.out.mono TX5.out.low.size))
            clear hf2 HR1 HN2
            go_wp2
            go_loopg [27, 28] len2 (fun gh s27 i wr => ∃ (k : Nat) (f : Nat → Int), k ≤ len2 ∧ k ≤ 14 ∧ gh = len2 - k ∧ i = .int .i64 k ∧ Own wr 3 v10.heap.size s27 k f ∧ Below v10.heap.size v10 wr)
            case atStart => exact ⟨0, fun _ => 0, by omega, by omega, rfl, rfl, Own.nil _ _ _ _, Below.refl _ _⟩
            case round =>
              obtain ⟨k, f, hk, hk14, hgk, rfl, ho, hbw⟩ := hrel
              have HGK := Lib.hid hgk
              have HW := Lib.hid hbw
              have HO := Lib.hid ho
              clear hgk hbw ho
              by_cases hlt : k < len2 ∧ (k : Int) < m + h
              · obtain ⟨l0, l1⟩ := hlt
                obtain ⟨b, off, rfl, hb, hc2⟩ := (HA2.out.below (LW.out.trans (HW.out.mono LW.out.size))).some (by omega)
                have d0 := hc2 k l0
                obtain ⟨z, hz⟩ : ∃ z, f2 k = z := ⟨_, rfl⟩
                rw [hz] at d0
                have k0 : (0 : Int) ≤ (k : Int) := by omega
                have k1 : (k : Int) < (len2 : Int) := by omega
                clear hc2 hz
                go_wp2_with fail
                refine (rate_some _ _).mono ?_
                rintro e w9 ⟨y, rfl, hb9⟩
                have HO9 := Lib.hid (HO.out.below hb9)
                have HW9 := Lib.hid (HW.out.trans (hb9.mono HW.out.size))
                have z9 : v10.heap.size ≤ w9.heap.size := HW9.out.size
                clear hb9
                go_wp2_with (at_builtin; (refine wpList_push_int rfl (.tmp 125) (.tmp 131) rfl Try.underlying30 hi hz0 hz1 hz2 v10 v10.heap.size k w9.heap.size _ f y rfl rfl (by simp) (HO9.out.alloc _) (by omega) (HW9.out.alloc z9 _) (by simp; omega) _ rfl ?_; intro b2 c3 w6 ho2 hb2 hg2 hat2; have HO2 := Lib.hid ho2; have HW2 := Lib.hid hb2; clear ho2 hb2 hg2 hat2))
                go_roundg (len2 - (k + 1))
                case measure => have := HGK.out; omega
                case rel => exact ⟨k + 1, _, by omega, by omega, rfl, by go_num, HO2.out, HW2.out⟩
              · rcases (show ¬ k < len2 ∨ (k < len2 ∧ ¬ (k : Int) < m + h) by omega) with hq | ⟨hq1, hq⟩
                all_goals
                  clear hlt
                  go_wp2
                  go_meet
                  exact ⟨k, f, hk14, HO.out, HW.out⟩
          case rest =>
            obtain ⟨k0, f, hk0, ho11, hb11⟩ := hcut
            obtain ⟨v11, rfl⟩ : ∃ v11, v11 = wc := ⟨_, rfl⟩
            obtain ⟨A11, c11, rfl, hc1, hc2, hat11⟩ := ho11.at
            obtain ⟨n3, e3, ht3⟩ := temp_any g' m f k0
            have HB11 := Lib.hid (HB10.out.trans (hb11.mono HB10.out.size))
            have CP := Lib.hid (ptemp_any A A11 m c k0 c11 g' f n3 e3 v11 (HG5.out.below HB11.out) hat11 (by omega) ⟨hc, hcm⟩ ⟨hc1, hc2⟩ ht3)
            have CR := Lib.hid fun w12 (kb : Below v11.heap.size v11 w12) => rtemp_any A A11 m c k0 c11 g' f n3 e3 w12 ((HG5.out.below HB11.out).below kb) (hat11.below kb) (by omega) hc1 ht3
            clear ho11 hb11 hat11 ht3 HR1 HN2
            go_wp2_with fail
            refine (CP.out).mono ?_
            rintro e v12 ⟨rfl, hb12⟩
            have HB12 := Lib.hid hb12
            clear hb12 CP
            go_wp2_with fail
            refine (CR.out _ HB12.out).mono ?_
            rintro e v13 ⟨rfl, hb13⟩
            have HB13 := Lib.hid (HB12.out.trans (hb13.mono HB12.out.size))
            clear hb13 CR
            go_wp2_with (go_at_call 24; (with_reducible refine (amount_some _ _).mono ?_); rintro e w14 ⟨a14, rfl, rfl⟩)
            refine (rate_some _ _).mono ?_
            rintro e v14 ⟨r14, rfl, hb14⟩
            have HB14 := Lib.hid (HB13.out.trans (hb14.mono HB13.out.size))
            obtain ⟨n4, e4, hs4⟩ := share_any a14 r14
            have HS4 := Lib.hid hs4
            clear hb14 hs4
            go_wp2_with fail
            refine (pshare_any a14 r14 n4 e4 HS4.out _).mono ?_
            rintro e v15 ⟨rfl, hb15⟩
            have HB15 := Lib.hid (HB14.out.trans (hb15.mono HB14.out.size))
            clear hb15
            have q2 : (n2 == n2) = true := by simp
            have q3 : (e2 == e2) = true := by simp
            have q4 : (n3 == n3) = true := by simp
            have q5 : (e3 == e3) = true := by simp
            have q6 : (n4 == n4) = true := by simp
            have q7 : (e4 == e4) = true := by simp
            go_wp2_with (first | (go_at_call 25; (with_reducible refine (rshare_any _ _ _ _ HS4.out _).mono ?_); rintro e w' ⟨rfl, rfl⟩) | (go_at_call 15; (with_reducible refine (W.out _).mono ?_); rintro e w16 ⟨rfl, hb16⟩; have HB16 := Lib.hid (HB15.out.trans (hb16.mono HB15.out.size)); clear hb16))
            go_ret
            exact ⟨rfl, TX5.out.low.trans ((HB11.out.trans (HB16.out.mono HB11.out.size)).mono TX5.out.low.size)⟩
end Go.Proofs.Ytnhnimchjbhnfaa
