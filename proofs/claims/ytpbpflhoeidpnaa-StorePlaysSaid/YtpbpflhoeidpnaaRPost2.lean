/- The document's own store: Post: a contract. -/
import Derived.Test.YtpbpflhoeidpnaaRPost
import Derived.Test.YtpbpflhoeidpnaaOrd
import Derived.WalkKit
import Derived.WalkSpells
import Derived.WalkLawsBesides
import Derived.Lib.Hide
import Derived.IntWalk
import Derived.Deep.LoopGhost
import Derived.Deep.RegionLaw
namespace Go.Proofs.Ytpbpflhoeidpnaa
open Go.RowKit

section
variable {w : World} {O : Nat → Nat} {base t sb n : Nat} {v : Value} {L : Nat → Value} {js : Nat → Jn}
set_option maxHeartbeats 8000000 in
set_option maxRecDepth 100000 in
theorem rpost_over1 (s : StV w O base t sb v L n js) (hn40 : n ≤ 40) (ent : ByteArray) (p kd of : Int) (m : Nat) (ga gm : Nat → Int) (l : Value) (hl : SomeL l w m ga gm) (ha : PArg ent p kd of) (hk : kd = 1) (hg : Good m ga gm) (hov : POver js n ent m ga gm) :
    Calls Try.prog 25 #[ptr sb, .string ent, .int .i64 p, .int .i64 kd, .int .i64 of, l] w fun r w' => r = .returned (.tuple #[.int .i64 0, .int .i64 6]) ∧ Below w.heap.size w w' := by
  obtain ⟨i0, hi, hz0, hz1, hz2⟩ := info_parts line_info
  obtain ⟨A, c, rfl, hmc, hcm, hN, hA⟩ := hl
  obtain ⟨A0, c0, rfl, hnc, hcm0, _⟩ := s.own.form
  have hln : m ≤ 1000000 := by have := hg.1; omega
  have hm20 := hg.1
  have sc := s.cell
  have HNN := Lib.hid hN
  have HS := Lib.hid s
  have HA := Lib.hid hA
  have HJ := Lib.hid s.inv.2.1
  clear s hA hN
  obtain ⟨S, hS⟩ : ∃ S : Int → Int, ∀ a, S a = bal js n ent a 399 + sm a ga gm m := ⟨fun a => bal js n ent a 399 + sm a ga gm m, fun _ => rfl⟩
  have HSS := Lib.hid hS
  have om := over_merged HS.out.inv ent hg S hS
  obtain ⟨ii, hii, h0i, h1i⟩ := first_bad (P := fun j => Mon (mm S 7 j)) (n := mc S 7) fun q => by obtain ⟨j, hj, e⟩ := om.1 hov; exact e (q j hj)
  have HI0 := Lib.hid h0i
  have HI1 := Lib.hid (mon_no h1i)
  clear h0i h1i hov om hS
  subst hk
  obtain ⟨h1, h2, h3, h4⟩ := ha
  obtain ⟨q1, q1'⟩ := ent_some h1
  have PR := Lib.hid fun w => rperiod_yes p w h2 h3
  have ho0 : of = 0 := by omega
  subst ho0
  have HB := Lib.hid (Below.refl w.heap.size w)
  clear h1 h2 h3 h4
  have HG := Lib.hid hg
  clear hg
  go_enter Try.func25, Try.ntmps25
  go_wp2_with (go_at_call 38; (with_reducible refine (PR.out _).mono ?_); rintro e w' ⟨rfl, rfl⟩)
  clear sc
  refine (rcheck_yes A m c ga gm _ (HA.out.below HB.out) HG).mono ?_
  rintro e w2 ⟨rfl, hb2⟩
  replace HB := Lib.hid (HB.out.trans (hb2.mono HB.out.size))
  have sc := (HS.out.below HB.out).cell
  clear hb2
  go_wp2_with fail
  clear sc
  refine (rall_any (HS.out.below HB.out) ent 399).mono ?_
  rintro e w4 ⟨v4, N, fa, fm, rfl, hal, ho4, hb4⟩
  obtain ⟨A4, c4', rfl, _, _, hN4, hat4⟩ := ho4.cut
  have hNb := hal.1
  have HAL := Lib.hid hal
  have HAT4 := Lib.hid hat4
  have HN4 := Lib.hid hN4
  replace HB := Lib.hid (HB.out.trans (hb4.mono HB.out.size))
  clear hal ho4 hat4 hN4 hb4
  go_wp2_with (first | (at_builtin; (refine wpList_app_l rfl _ (.tmp 136) rfl line_type hi hz0 hz1 hz2 w w.heap.size 0 N c4' (.slice none 0 0) A4 (fun _ => 0) (fun _ => 0) fa fm rfl rfl (OwnL.nil _ _ _ _ _) HAT4.out HN4.out (by omega) (by omega) HB.out HB.out.size ?_; intro v5 w5 ho5 hb5 hg5; rw [Nat.zero_add] at ho5; obtain ⟨A5, c5', rfl, _, _, _⟩ := ho5.form; have HO5 := Lib.hid (ho5.ext (ga' := fa) (gm' := fm) fun j hj => ⟨cat_ge (by omega), cat_ge (by omega)⟩); have HB5 := Lib.hid hb5; clear ho5 hb5 hg5)) | (at_builtin; (refine wpList_app_l rfl (.tmp 137) (.tmp 138) rfl line_type hi hz0 hz1 hz2 w w.heap.size N m c _ A fa fm ga gm rfl rfl HO5.out (HA.out.below HB5.out) HNN.out (by omega) (by omega) HB5.out HB5.out.size ?_; intro v6 w6 ho6 hb6 hg6; obtain ⟨A6, c6', rfl, _, _, _, hat6⟩ := ho6.cut; have HAT6 := Lib.hid hat6; have HB6 := Lib.hid hb6; clear ho6 hb6 hat6 hg6)))
  have es : smf (cat N fa ga) (cat N fm gm) (N + m) = S := funext fun a => by
    show sm a _ _ _ = S a
    rw [sm_cat, HSS.out, ← HAL.out.2.2]
  have RM := Lib.hid (rmergel A6 (N + m) c6' (cat N fa ga) (cat N fm gm) w6 HAT6.out (by omega) (Lib.hid fun j hj => by
    by_cases q : j < N
    · rw [cat_lt q]; exact HAL.out.2.1 _ q
    · rw [cat_ge (by omega)]; exact (HG.out.2.1 _ (by omega)).2.2.2))
  rw [es] at RM
  clear es
  refine (RM.out).mono ?_
  rintro e w7 ⟨v7, rfl, ho7, hb7⟩
  obtain ⟨A7, c7, rfl, _, _, _, hat7⟩ := ho7.cut
  have HAT7 := Lib.hid hat7
  have HB7 := Lib.hid (HB6.out.trans (hb7.mono HB6.out.size))
  have h7 := mc_le S 7
  clear ho7 hat7 hb7 RM
  go_wp2
  go_loopg [142] (mc S 7) (fun gh s wr => ∃ j : Nat, j ≤ ii ∧ gh = mc S 7 - j ∧ s = .int .i64 j ∧ Below w7.heap.size w7 wr)
  case atStart => exact ⟨0, Nat.zero_le _, by omega, rfl, Below.refl _ _⟩
  case round =>
    obtain ⟨r, hr, hgr, rfl, hbr⟩ := hrel
    have HGR := Lib.hid hgr
    have HBR := Lib.hid hbr
    have HBW := Lib.hid (HB7.out.trans (hbr.mono HB7.out.size))
    clear hgr hbr
    by_cases hlr : r < mc S 7
    · obtain ⟨b7, off7, rfl, hb7, hc7⟩ := HAT7.out.some (by omega)
      have ck7 := (HBR.out.cell (p := ⟨b7, off7 + r * 2, none⟩) hb7).trans (hc7 r hlr).1
      have ck7' := (HBR.out.cell (p := ⟨b7, off7 + r * 2 + 1, none⟩) hb7).trans (hc7 r hlr).2
      clear hc7
      by_cases hri : r < ii
      · have hm0 := HI0.out r hri
        obtain ⟨n1, n2⟩ := hm0
        go_wp2_with (go_at_call 51; (with_reducible refine (rmon_yes _ _ n1 n2).mono ?_); rintro e w' ⟨rfl, rfl⟩)
        go_roundg (mc S 7 - (r + 1))
        case measure => have := HGR.out; omega
        case rel => exact ⟨r + 1, by omega, rfl, by go_num, HBR.out.alloc HBR.out.size _⟩
      · obtain rfl : r = ii := by omega
        go_wp2_with (go_at_call 51; (with_reducible refine (rmon_no _ _ HI1.out).mono ?_); rintro e w' ⟨rfl, rfl⟩)
        go_ret2
        exact ⟨rfl, HBW.out.alloc HBW.out.size _⟩
    · omega
set_option maxHeartbeats 8000000 in
set_option maxRecDepth 100000 in
theorem rpost_ok1 (s : StV w O base t sb v L n js) (f : Fin0 base O w) (ht : t ≠ 0) (hbase : base ≤ w.heap.size) (hn40 : n ≤ 40) (ent : ByteArray) (p kd of : Int) (m : Nat) (ga gm : Nat → Int) (l : Value) (hl : SomeL l w m ga gm) (ha : PArg ent p kd of) (hk : kd = 1) (hg : Good m ga gm) (hov : ¬ POver js n ent m ga gm) (iv : Inv (n + 1) (pushJ js n ⟨(n : Int) + 1, ent, p, kd, of, m, ga, gm⟩)) :
    Calls Try.prog 25 #[ptr sb, .string ent, .int .i64 p, .int .i64 kd, .int .i64 of, l] w fun r w' => r = .returned (.tuple #[.int .i64 ((n : Int) + 1), .int .i64 0]) ∧
      ∃ O', St w' O' base t sb (n + 1) (pushJ js n ⟨(n : Int) + 1, ent, p, kd, of, m, ga, gm⟩) ∧ Step base O t w O' w' := by
  obtain ⟨i0, hi, hz0, hz1, hz2⟩ := info_parts line_info
  obtain ⟨A, c, rfl, hmc, hcm, hN, hA⟩ := hl
  obtain ⟨A0, c0, rfl, hnc, hcm0, _⟩ := s.own.form
  have hln : m ≤ 1000000 := by have := hg.1; omega
  have hm20 := hg.1
  have sc := s.cell
  have HNN := Lib.hid hN
  have HS := Lib.hid s
  have HA := Lib.hid hA
  have HJ := Lib.hid s.inv.2.1
  have HF := Lib.hid f
  have IV := Lib.hid iv
  clear f iv
  clear s hA hN
  obtain ⟨S, hS⟩ : ∃ S : Int → Int, ∀ a, S a = bal js n ent a 399 + sm a ga gm m := ⟨fun a => bal js n ent a 399 + sm a ga gm m, fun _ => rfl⟩
  have HSS := Lib.hid hS
  have om := over_merged HS.out.inv ent hg S hS
  have HI0 : Hid (∀ j, j < mc S 7 → Mon (mm S 7 j)) := Lib.hid fun j hj => Classical.byContradiction fun q => hov (om.2 ⟨j, hj, q⟩)
  clear hov om hS
  subst hk
  obtain ⟨h1, h2, h3, h4⟩ := ha
  obtain ⟨q1, q1'⟩ := ent_some h1
  have PR := Lib.hid fun w => rperiod_yes p w h2 h3
  have ho0 : of = 0 := by omega
  subst ho0
  have HB := Lib.hid (Below.refl w.heap.size w)
  clear h1 h2 h3 h4
  have HG := Lib.hid hg
  clear hg
  go_enter Try.func25, Try.ntmps25
  go_wp2_with (go_at_call 38; (with_reducible refine (PR.out _).mono ?_); rintro e w' ⟨rfl, rfl⟩)
  clear sc
  refine (rcheck_yes A m c ga gm _ (HA.out.below HB.out) HG).mono ?_
  rintro e w2 ⟨rfl, hb2⟩
  replace HB := Lib.hid (HB.out.trans (hb2.mono HB.out.size))
  have sc := (HS.out.below HB.out).cell
  clear hb2
  go_wp2_with fail
  clear sc
  refine (rall_any (HS.out.below HB.out) ent 399).mono ?_
  rintro e w4 ⟨v4, N, fa, fm, rfl, hal, ho4, hb4⟩
  obtain ⟨A4, c4', rfl, _, _, hN4, hat4⟩ := ho4.cut
  have hNb := hal.1
  have HAL := Lib.hid hal
  have HAT4 := Lib.hid hat4
  have HN4 := Lib.hid hN4
  replace HB := Lib.hid (HB.out.trans (hb4.mono HB.out.size))
  clear hal ho4 hat4 hN4 hb4
  go_wp2_with (first | (at_builtin; (refine wpList_app_l rfl _ (.tmp 136) rfl line_type hi hz0 hz1 hz2 w w.heap.size 0 N c4' (.slice none 0 0) A4 (fun _ => 0) (fun _ => 0) fa fm rfl rfl (OwnL.nil _ _ _ _ _) HAT4.out HN4.out (by omega) (by omega) HB.out HB.out.size ?_; intro v5 w5 ho5 hb5 hg5; rw [Nat.zero_add] at ho5; obtain ⟨A5, c5', rfl, _, _, _⟩ := ho5.form; have HO5 := Lib.hid (ho5.ext (ga' := fa) (gm' := fm) fun j hj => ⟨cat_ge (by omega), cat_ge (by omega)⟩); have HB5 := Lib.hid hb5; clear ho5 hb5 hg5)) | (at_builtin; (refine wpList_app_l rfl (.tmp 137) (.tmp 138) rfl line_type hi hz0 hz1 hz2 w w.heap.size N m c _ A fa fm ga gm rfl rfl HO5.out (HA.out.below HB5.out) HNN.out (by omega) (by omega) HB5.out HB5.out.size ?_; intro v6 w6 ho6 hb6 hg6; obtain ⟨A6, c6', rfl, _, _, _, hat6⟩ := ho6.cut; have HAT6 := Lib.hid hat6; have HB6 := Lib.hid hb6; clear ho6 hb6 hat6 hg6)))
  have es : smf (cat N fa ga) (cat N fm gm) (N + m) = S := funext fun a => by
    show sm a _ _ _ = S a
    rw [sm_cat, HSS.out, ← HAL.out.2.2]
  have RM := Lib.hid (rmergel A6 (N + m) c6' (cat N fa ga) (cat N fm gm) w6 HAT6.out (by omega) (Lib.hid fun j hj => by
    by_cases q : j < N
    · rw [cat_lt q]; exact HAL.out.2.1 _ q
    · rw [cat_ge (by omega)]; exact (HG.out.2.1 _ (by omega)).2.2.2))
  rw [es] at RM
  clear es
  refine (RM.out).mono ?_
  rintro e w7 ⟨v7, rfl, ho7, hb7⟩
  obtain ⟨A7, c7, rfl, _, _, _, hat7⟩ := ho7.cut
  have HAT7 := Lib.hid hat7
  have HB7 := Lib.hid (HB6.out.trans (hb7.mono HB6.out.size))
  have h7 := mc_le S 7
  clear ho7 hat7 hb7 RM
  go_wp2
  go_loopg [142] (mc S 7) (fun gh s wr => ∃ j : Nat, j ≤ mc S 7 ∧ gh = mc S 7 - j ∧ s = .int .i64 j ∧ Below w7.heap.size w7 wr)
  case atStart => exact ⟨0, Nat.zero_le _, by omega, rfl, Below.refl _ _⟩
  case round =>
    obtain ⟨r, hr, hgr, rfl, hbr⟩ := hrel
    have HGR := Lib.hid hgr
    have HBR := Lib.hid hbr
    have HBW := Lib.hid (HB7.out.trans (hbr.mono HB7.out.size))
    clear hgr hbr
    by_cases hlr : r < mc S 7
    · obtain ⟨b7, off7, rfl, hb7, hc7⟩ := HAT7.out.some (by omega)
      have ck7 := (HBR.out.cell (p := ⟨b7, off7 + r * 2, none⟩) hb7).trans (hc7 r hlr).1
      have ck7' := (HBR.out.cell (p := ⟨b7, off7 + r * 2 + 1, none⟩) hb7).trans (hc7 r hlr).2
      clear hc7
      have hm0 := HI0.out r hlr
      obtain ⟨n1, n2⟩ := hm0
      go_wp2_with (go_at_call 51; (with_reducible refine (rmon_yes _ _ n1 n2).mono ?_); rintro e w' ⟨rfl, rfl⟩)
      go_roundg (mc S 7 - (r + 1))
      case measure => have := HGR.out; omega
      case rel => exact ⟨r + 1, by omega, rfl, by go_num, HBR.out.alloc HBR.out.size _⟩
    · obtain rfl : r = mc S 7 := by omega
      clear hlr
      go_wp2
      have SR := HS.out.below HBW.out
      have scr := SR.cell
      have hsr := SR.lt
      clear SR
      have ew : IntKind.i64.wrap ((n : Int) + 1) = (n : Int) + 1 := IntWalk.i64_in _ (by omega)
      refine wp_region_noPanic ?_
      refine AnyTill.begin (C := fun w' => w'.cell? ⟨sb, 0, none⟩ = some (.slice A0 n c0)) (q := 22) (by kernel_rfl) ?_
      have scd : wr.drew.cell? ⟨sb, 0, none⟩ = some (.slice A0 n c0) := scr
      refine AnyTill.take (i := 0) (v := ?_) (by simp only [List.getElem?_toArray, List.getElem?_cons_zero]; rfl) (by kernel_rfl) (by kernel_rfl) (by kernel_rfl) (by kernel_rfl) (fun _ _ _ h => h) (Or.inl ⟨by rfl, ?_⟩) scd ?_
      rotate_left
      · intro w' hw'; (try dsimp only at hw'); go_simp <;> with_reducible rfl
      try simp only [Act.put, List.setIfInBounds_toArray, List.set_cons_zero, List.set_cons_succ]
      refine AnyTill.take (i := 1) (v := ?_) (by simp only [List.getElem?_toArray, List.getElem?_cons_succ, List.getElem?_cons_zero]; rfl) (by kernel_rfl) (by kernel_rfl) (by kernel_rfl) (by kernel_rfl) (fun _ _ _ h => h) (Or.inl ⟨by rfl, ?_⟩) scd ?_
      rotate_left
      · intro w' hw'; (try dsimp only at hw'); go_simp <;> with_reducible rfl
      try simp only [Act.put, List.setIfInBounds_toArray, List.set_cons_zero, List.set_cons_succ]
      refine AnyTill.take (i := 2) (v := ?_) (by simp only [List.getElem?_toArray, List.getElem?_cons_succ, List.getElem?_cons_zero]; rfl) (by kernel_rfl) (by kernel_rfl) (by kernel_rfl) (by kernel_rfl) (fun _ _ _ h => h) (Or.inl ⟨by rfl, ?_⟩) scd ?_
      rotate_left
      · intro w' hw'; (try dsimp only at hw'); go_simp <;> with_reducible rfl
      try simp only [Act.put, List.setIfInBounds_toArray, List.set_cons_zero, List.set_cons_succ]
      refine AnyTill.take (i := 3) (v := ?_) (by simp only [List.getElem?_toArray, List.getElem?_cons_succ, List.getElem?_cons_zero]; rfl) (by kernel_rfl) (by kernel_rfl) (by kernel_rfl) (by kernel_rfl) (fun _ _ _ h => h) (Or.inl ⟨by rfl, ?_⟩) scd ?_
      rotate_left
      · intro w' hw'; (try dsimp only at hw'); go_simp <;> with_reducible rfl
      try simp only [Act.put, List.setIfInBounds_toArray, List.set_cons_zero, List.set_cons_succ]
      refine AnyTill.take (i := 4) (v := ?_) (by simp only [List.getElem?_toArray, List.getElem?_cons_succ, List.getElem?_cons_zero]; rfl) (by kernel_rfl) (by kernel_rfl) (by kernel_rfl) (by kernel_rfl) (fun _ _ _ h => h) (Or.inl ⟨by rfl, ?_⟩) scd ?_
      rotate_left
      · intro w' hw'; (try dsimp only at hw'); go_simp <;> with_reducible rfl
      try simp only [Act.put, List.setIfInBounds_toArray, List.set_cons_zero, List.set_cons_succ]
      refine AnyTill.take (i := 5) (v := ?_) (by simp only [List.getElem?_toArray, List.getElem?_cons_succ, List.getElem?_cons_zero]; rfl) (by kernel_rfl) (by kernel_rfl) (by kernel_rfl) (by kernel_rfl) (fun _ _ _ h => h) (Or.inl ⟨by rfl, ?_⟩) scd ?_
      rotate_left
      · intro w' hw'; (try dsimp only at hw'); go_simp <;> with_reducible rfl
      try simp only [Act.put, List.setIfInBounds_toArray, List.set_cons_zero, List.set_cons_succ]
      refine AnyTill.take (i := 6) (v := ?_) (by simp only [List.getElem?_toArray, List.getElem?_cons_succ, List.getElem?_cons_zero]; rfl) (by kernel_rfl) (by kernel_rfl) (by kernel_rfl) (by kernel_rfl) (fun _ _ _ h => h) (Or.inl ⟨by rfl, ?_⟩) scd ?_
      rotate_left
      · intro w' hw'; (try dsimp only at hw'); go_simp <;> with_reducible rfl
      try simp only [Act.put, List.setIfInBounds_toArray, List.set_cons_zero, List.set_cons_succ]
      refine AnyTill.take (i := 7) (v := ?_) (by simp only [List.getElem?_toArray, List.getElem?_cons_succ, List.getElem?_cons_zero]; rfl) (by kernel_rfl) (by kernel_rfl) (by kernel_rfl) (by kernel_rfl) (fun _ _ _ h => h) (Or.inl ⟨by rfl, ?_⟩) scd ?_
      rotate_left
      · intro w' hw'; (try dsimp only at hw'); go_simp <;> with_reducible rfl
      try simp only [Act.put, List.setIfInBounds_toArray, List.set_cons_zero, List.set_cons_succ]
      refine AnyTill.take (i := 8) (v := ?_) (by simp only [List.getElem?_toArray, List.getElem?_cons_succ, List.getElem?_cons_zero]; rfl) (by kernel_rfl) (by kernel_rfl) (by kernel_rfl) (by kernel_rfl) (fun _ _ _ h => h) (Or.inl ⟨by rfl, ?_⟩) scd ?_
      rotate_left
      · intro w' hw'; (try dsimp only at hw'); go_simp <;> with_reducible rfl
      try simp only [Act.put, List.setIfInBounds_toArray, List.set_cons_zero, List.set_cons_succ]
      refine AnyTill.take (i := 9) (v := ?_) (by simp only [List.getElem?_toArray, List.getElem?_cons_succ, List.getElem?_cons_zero]; rfl) (by kernel_rfl) (by kernel_rfl) (by kernel_rfl) (by kernel_rfl) (fun _ _ _ h => h) (Or.inl ⟨by rfl, ?_⟩) scd ?_
      rotate_left
      · intro w' hw'; (try dsimp only at hw'); go_simp <;> with_reducible rfl
      try simp only [Act.put, List.setIfInBounds_toArray, List.set_cons_zero, List.set_cons_succ]
      refine AnyTill.take (i := 10) (v := ?_) (by simp only [List.getElem?_toArray, List.getElem?_cons_succ, List.getElem?_cons_zero]; rfl) (by kernel_rfl) (by kernel_rfl) (by kernel_rfl) (by kernel_rfl) (fun _ _ _ h => h) (Or.inl ⟨by rfl, ?_⟩) scd ?_
      rotate_left
      · intro w' hw'; (try dsimp only at hw'); go_simp <;> with_reducible rfl
      try simp only [Act.put, List.setIfInBounds_toArray, List.set_cons_zero, List.set_cons_succ]
      refine AnyTill.take (i := 11) (v := ?_) (by simp only [List.getElem?_toArray, List.getElem?_cons_succ, List.getElem?_cons_zero]; rfl) (by kernel_rfl) (by kernel_rfl) (by kernel_rfl) (by kernel_rfl) (fun _ _ _ h => h) (Or.inl ⟨by rfl, ?_⟩) scd ?_
      rotate_left
      · intro w' hw'; (try dsimp only at hw'); go_simp <;> with_reducible rfl
      try simp only [Act.put, List.setIfInBounds_toArray, List.set_cons_zero, List.set_cons_succ]
      refine AnyTill.take (i := 12) (v := ?_) (by simp only [List.getElem?_toArray, List.getElem?_cons_succ, List.getElem?_cons_zero]; rfl) (by kernel_rfl) (by kernel_rfl) (by kernel_rfl) (by kernel_rfl) (fun _ _ _ h => h) (Or.inl ⟨by rfl, ?_⟩) scd ?_
      rotate_left
      · intro w' hw'; (try dsimp only at hw'); go_simp <;> with_reducible rfl
      try simp only [Act.put, List.setIfInBounds_toArray, List.set_cons_zero, List.set_cons_succ]
      refine AnyTill.take (i := 13) (v := ?_) (by simp only [List.getElem?_toArray, List.getElem?_cons_succ, List.getElem?_cons_zero]; rfl) (by kernel_rfl) (by kernel_rfl) (by kernel_rfl) (by kernel_rfl) (fun _ _ _ h => h) (Or.inl ⟨by rfl, ?_⟩) scd ?_
      rotate_left
      · intro w' hw'; (try dsimp only at hw'); go_simp <;> with_reducible rfl
      try simp only [Act.put, List.setIfInBounds_toArray, List.set_cons_zero, List.set_cons_succ]
      refine AnyTill.take (i := 14) (v := ?_) (by simp only [List.getElem?_toArray, List.getElem?_cons_succ, List.getElem?_cons_zero]; rfl) (by kernel_rfl) (by kernel_rfl) (by kernel_rfl) (by kernel_rfl) (fun _ _ _ h => h) (Or.inl ⟨by rfl, ?_⟩) scd ?_
      rotate_left
      · intro w' hw'; (try dsimp only at hw'); go_simp <;> with_reducible rfl
      try simp only [Act.put, List.setIfInBounds_toArray, List.set_cons_zero, List.set_cons_succ]
      refine AnyTill.take (i := 15) (v := ?_) (by simp only [List.getElem?_toArray, List.getElem?_cons_succ, List.getElem?_cons_zero]; rfl) (by kernel_rfl) (by kernel_rfl) (by kernel_rfl) (by kernel_rfl) (fun _ _ _ h => h) (Or.inl ⟨by rfl, ?_⟩) scd ?_
      rotate_left
      · intro w' hw'; (try dsimp only at hw'); go_simp <;> with_reducible rfl
      try simp only [Act.put, List.setIfInBounds_toArray, List.set_cons_zero, List.set_cons_succ]
      refine' AnyTill.one (i := 16) (o := _) (by kernel_rfl) ?ho16 (fun K' hK => ?hh16)
      case ho16 => (simp only [List.getElem?_toArray, List.getElem?_cons_succ, List.getElem?_cons_zero]; rfl)
      refine step_app_l rfl _ (.tmp 166) rfl line_type hi hz0 hz1 hz2 wr.heap.size 0 m c (.slice none 0 0) A (fun _ => 0) (fun _ => 0) ga gm rfl rfl (OwnL.nil _ _ _ _ _) ((HA.out.below HBW.out).below (below_drew _)) HNN.out (by omega) (by omega) (Nat.le_refl _) ?_
      intro v8 w8 ho8 hg8
      rw [Nat.zero_add] at ho8
      have hb8 := Below.grown (Below.refl _ _) hg8 (Nat.le_refl _) (by simp [Value.ownBlock])
      obtain ⟨A8, c8, rfl, _, _, _⟩ := ho8.form
      have HO8 := Lib.hid (ho8.ext (ga' := ga) (gm' := gm) fun j hj => ⟨cat_ge (by omega), cat_ge (by omega)⟩)
      have HB8 := Lib.hid (HBW.out.trans (((below_drew _).trans hb8).mono HBW.out.size))
      have HS8 := Lib.hid (HS.out.below HB8.out)
      have sc8 := HS8.out.cell
      have hsb8 := HS8.out.lt
      have hz8 := HB8.out.size
      clear ho8 hg8 hb8
      refine hK.out _ _ (.inr sc8) ?_
      clear hK K'
      try simp only [Act.put, List.setIfInBounds_toArray, List.set_cons_zero, List.set_cons_succ]
      refine AnyTill.take (i := 17) (v := ?_) (by simp only [List.getElem?_toArray, List.getElem?_cons_succ, List.getElem?_cons_zero]; rfl) (by kernel_rfl) (by kernel_rfl) (by kernel_rfl) (by kernel_rfl) (fun _ _ _ h => h) (Or.inl ⟨by rfl, ?_⟩) sc8 ?_
      rotate_left
      · intro w' hw'; (try dsimp only at hw'); go_simp <;> with_reducible rfl
      try simp only [Act.put, List.setIfInBounds_toArray, List.set_cons_zero, List.set_cons_succ]
      refine' AnyTill.one (i := 18) (o := _) (by kernel_rfl) ?ho18 (fun K' hK => ?hh18)
      case ho18 => (simp only [List.getElem?_toArray, List.getElem?_cons_succ, List.getElem?_cons_zero]; rfl)
      go_simp
      have sc9 := (((Below.refl w8.heap.size w8).alloc (Nat.le_refl _) (.cells #[.int .i64 (Jn.mk ((n : Int) + 1) ent p 1 0 m ga gm).seq, .string (Jn.mk ((n : Int) + 1) ent p 1 0 m ga gm).ent, .int .i64 (Jn.mk ((n : Int) + 1) ent p 1 0 m ga gm).per, .int .i64 (Jn.mk ((n : Int) + 1) ent p 1 0 m ga gm).kind, .int .i64 (Jn.mk ((n : Int) + 1) ent p 1 0 m ga gm).of, .slice A8 m c8] 44)).cell (p := ⟨sb, 0, none⟩) hsb8).trans sc8
      refine hK.out _ _ (.inr sc9) ?_
      clear hK K'
      try simp only [Act.put, List.setIfInBounds_toArray, List.set_cons_zero, List.set_cons_succ]
      refine' AnyTill.one (i := 19) (o := _) (by kernel_rfl) ?ho19 (fun K' hK => ?hh19)
      case ho19 => (simp only [List.getElem?_toArray, List.getElem?_cons_succ, List.getElem?_cons_zero]; rfl)
      refine step_push_j rfl (.tmp 155) (.tmp 169) rfl base n w8.heap.size (.slice A0 n c0) L js (Jn.mk ((n : Int) + 1) ent p 1 0 m ga gm) (.slice A8 m c8) rfl rfl (JC.lit _ (Jn.mk ((n : Int) + 1) ent p 1 0 m ga gm) _ _) rfl (HS8.out.own.alloc _) (by omega) (by simp; omega) (w8.heap.size + 1) (by simp) ?_
      intro b3 c3' w3 ho3 hg3 hat3
      have sc3 : w3.cell? ⟨sb, 0, none⟩ = some (.slice A0 n c0) := hg3.cell sc9 (fun e => (HS8.out.vtag _ e.symm).2 rfl)
      have fz3 : w3.frozen? ⟨sb, 0, none⟩ = false := (World.frozen?_of_block (hg3.block sb (by simp; omega) (fun e => (HS8.out.vtag _ e.symm).2 rfl))).trans (((Below.refl _ _).alloc (Nat.le_refl _) _).frozen (p := ⟨sb, 0, none⟩) hsb8 |>.trans HS8.out.frz)
      have HO3 := Lib.hid ho3
      have HG3 := Lib.hid hg3
      have HAT3 := Lib.hid hat3
      clear ho3 hg3 hat3
      refine hK.out _ _ (.inr sc3) ?_
      clear hK K'
      try simp only [Act.put, List.setIfInBounds_toArray, List.set_cons_zero, List.set_cons_succ]
      refine' AnyTill.one (i := 20) (o := _) (by kernel_rfl) ?ho20 (fun K' hK => ?hh20)
      case ho20 => (simp only [List.getElem?_toArray, List.getElem?_cons_succ, List.getElem?_cons_zero]; rfl)
      go_simp
      refine hK.out _ _ (.inr sc3) ?_
      clear hK K'
      try simp only [Act.put, List.setIfInBounds_toArray, List.set_cons_zero, List.set_cons_succ]
      refine AnyTill.take (i := 21) (v := ?_) (by simp only [List.getElem?_toArray, List.getElem?_cons_succ, List.getElem?_cons_zero]; rfl) (by kernel_rfl) (by kernel_rfl) (by kernel_rfl) (by kernel_rfl) (fun _ _ _ h => h) (Or.inl ⟨by rfl, ?_⟩) sc3 ?_
      rotate_left
      · intro w' hw'; (try dsimp only at hw'); go_simp <;> with_reducible rfl
      try simp only [Act.put, List.setIfInBounds_toArray, List.set_cons_zero, List.set_cons_succ]
      refine' AnyTill.one (i := 22) (o := _) (by kernel_rfl) ?ho22 (fun K' hK => ?hh22)
      case ho22 => (simp only [List.getElem?_toArray, List.getElem?_cons_succ, List.getElem?_cons_zero]; rfl)
      go_simp
      refine hK.out _ _ (.inl rfl) ?_
      clear hK K'
      try simp only [Act.put, List.setIfInBounds_toArray, List.set_cons_zero, List.set_cons_succ]
      refine AnyTill.done (by kernel_rfl) ?_ _
      refine NoPanic.normal ?_
      obtain ⟨O', p1, p2⟩ := HS.out.pushed HF.out ht (HB8.out.alloc hz8 _) HG3.out HO3.out HAT3.out (by simp) ((HO8.out.alloc _).someL) (fun b hb => Nat.le_trans HBW.out.size (World.ownsRow.lt HO8.out b hb).1) IV.out
      have P1 := Lib.hid p1
      have P2 := Lib.hid p2
      clear p1 p2 fz3 sc9 sc8 scd scr ew
      go_wp2
      go_ret2
      exact ⟨by simp, O', P1.out, P2.out⟩
end
end Go.Proofs.Ytpbpflhoeidpnaa
