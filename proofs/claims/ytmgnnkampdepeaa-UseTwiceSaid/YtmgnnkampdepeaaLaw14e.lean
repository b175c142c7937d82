/- UseTwice: its walk. -/
import Derived.Test.YtmgnnkampdepeaaLaw14b
import Derived.WalkKit
import Derived.WalkSpells
import Derived.WalkLawsBesides
import Derived.Lib.Hide
import Derived.IntWalk
import Derived.BigQuiet
import Derived.Deep.LoopGhost
import Derived.Deep.QuietTactic
import Derived.Deep.DeepCutAuto
import Derived.Deep.RegionLaw
namespace Go.Proofs.Ytmgnnkampdepeaa
open Go.RowKit

/-- the one that was appended to lies where it lay, or in a new block: apart from any other of the call's own -/
theorem apart_push {w : World} {E : TypeId} {base n' size : Nat} {v v' : Value} {ys : List Value} (h : Apart v v') (o' : w.ownsRow base E size v' n' ys) {b n c H : Nat} (hb : v.ownBlock = some b ∨ b = H) (hH : w.heap.size ≤ H) : Apart (.slice (some ⟨b, 0, none⟩) n c) v' := by
  intro k hk
  have : b = k := by simpa [Value.ownBlock] using hk
  subst this
  rcases hb with hb | rfl
  · exact h _ hb
  · intro e; have := (World.ownsRow.lt o' _ e).2; omega
theorem kept_apart {v v' : Value} (h : Apart v v') : v.ownBlock = none ∨ v.ownBlock ≠ v'.ownBlock := by
  cases e : v.ownBlock with
  | none => exact .inl rfl
  | some k => exact .inr fun q => h k e q.symm
/-- some of the places have both steps' amounts -/
structure Both (n m : Nat) (p : Nat → Nat) (a c : Nat → Int) (t : Nat) (f : Nat → Int) : Prop where
  done : ∀ i, i < t → f (p i) = c (p i)
  rest : ∀ j, j < n → (∀ i, i < t → p i ≠ j) → f j = a j
theorem Both.next {n m t : Nat} {p : Nat → Nat} {a c f : Nat → Int} (h : Both n m p a c t f) (hp : ∀ i j, i < j → j < m → p i < p j) (ht : t < m) : Both n m p a c (t + 1) (fun j => if j = p t then c (p t) else f j) := by
  refine ⟨fun i hi => ?_, fun j hj hne => ?_⟩
  · by_cases e : i = t
    · rw [e, if_pos rfl]
    · have := hp i t (by omega) ht
      rw [if_neg (by omega)]; exact h.done i (by omega)
  · rw [if_neg fun e => hne t (by omega) e.symm]
    exact h.rest j hj fun i hi => hne i (by omega)
set_option maxHeartbeats 8000000 in
set_option maxRecDepth 100000 in
theorem useTwice_walk (a0 : Option Addr) (len0 cap0 : Nat) (z0 : List Int) (a1 a2 a3 : Int) (w : World) (w0 : IsRow .i64 w a0 len0 cap0 z0) (_k1 : (Lit.int .i64 a1).wf = true) (_k2 : (Lit.int .i64 a2).wf = true) (_k3 : (Lit.int .i64 a3).wf = true) :
    Calls Try.prog 4 #[.slice a0 len0 cap0, .int .i64 a1, .int .i64 a2, .int .i64 a3] w fun e w' => e = .returned (.bool true) ∧ Below w.heap.size w w' := by
  obtain ⟨i0, hi, hz0, hz1, hz2⟩ := info_parts vn_info
  obtain ⟨j0, hj, jz0, jz1, jz2⟩ := info_parts int_info
  have W := Lib.hid fun w => wakes14_any w
  have CL := Lib.hid (plosses_some a0 len0 cap0 z0 w w0)
  obtain ⟨x, hx⟩ : ∃ x, a1 % 9 = x := ⟨_, rfl⟩
  obtain ⟨y, hy⟩ : ∃ y, a2 % 3000 = y := ⟨_, rfl⟩
  obtain ⟨z, hz⟩ : ∃ z, a3 % 3000 = z := ⟨_, rfl⟩
  have HX := Lib.hid hx
  have HY := Lib.hid hy
  have HZ := Lib.hid hz
  have y1 : 0 ≤ y := by omega
  have y2 : y < 3000 := by omega
  have z1 : 0 ≤ z := by omega
  have z2 : z < 3000 := by omega
  clear w0 _k1 _k2 _k3 hx hy hz
  go_enter Try.func4, Try.ntmps4
  go_wp2_with fail
  refine (CL.out).mono ?_
  rintro e w1 ⟨sb, S, O, rfl, hnow⟩
  have LOW := Lib.hid hnow.low
  obtain ⟨v, n, g, s, iv⟩ := hnow.st
  have c0 := s.hd.c0
  obtain ⟨A, cc, rfl, hc, hm, _, ha⟩ := s.at
  have hn := iv.le
  have HAT := Lib.hid ha
  have IV := Lib.hid iv
  have HN := Lib.hid hn
  clear hnow s ha iv CL
  have CV := Lib.hid fun (w5 : World) (k5 : Below w1.heap.size w1 w5) (r : Int) (hr : -9223372036854775808 ≤ r ∧ r ≤ 9223372036854775807) => puvec A n cc g x r w5 (HAT.out.below k5) ⟨hc, hm⟩ (by omega) (fun j hj => ⟨IV.out.pos j hj, by have := (IV.out.one hj).2; have := IV.out.all; omega⟩) hr
  go_wp2_with (first | (go_at_call 9; (with_reducible refine (within_at _ _ _ _ (by omega) (by omega) HX).mono ?_); rintro e w' ⟨rfl, rfl⟩) | (go_at_call 9; (with_reducible refine (within_at _ _ _ _ (by omega) (by omega) HY).mono ?_); rintro e w' ⟨rfl, rfl⟩) | (go_at_call 9; (with_reducible refine (within_at _ _ _ _ (by omega) (by omega) HZ).mono ?_); rintro e w' ⟨rfl, rfl⟩))
  refine (CV.out _ (Below.refl _ _) _ (by omega)).mono ?_
  rintro e w2 ⟨v2, rfl, ho2, hb2⟩
  have K2 := Lib.hid hb2
  have HO2 := Lib.hid ho2
  clear ho2 hb2
  go_wp2_with fail
  refine (CV.out _ K2.out (y + z) (by omega)).mono ?_
  rintro e w3 ⟨v3, rfl, ho3, hb3⟩
  have K3 := Lib.hid (K2.out.trans (hb3.mono K2.out.size))
  replace HO2 := Lib.hid (HO2.out.below hb3)
  obtain ⟨A2, c2, rfl, h2c, h2m, hat2⟩ := HO2.out.at
  obtain ⟨A3, c3, rfl, h3c, h3m, hat3⟩ := ho3.at
  have H2 := Lib.hid hat2
  have H3 := Lib.hid hat3
  have ee : ((n : Int) != (n : Int)) = false := by simp
  clear ho3 hb3 hat2 hat3 CV
  go_wp2
  go_loopg [12, 13, 55] n (fun gh s12 s13 i wr => ∃ (k m : Nat) (h : Nat → Bk) (p : Nat → Nat), k ≤ n ∧ gh = n - k ∧ i = .int .i64 k ∧ Rest g x y k m h p ∧ OwnR ve 3 wr 31 w3.heap.size s12 m h ∧ Own wr 3 w3.heap.size s13 m (fun i => (p i : Int)) ∧ Apart s12 s13 ∧ Below w3.heap.size w3 wr)
  case atStart => exact ⟨0, 0, g, fun _ => 0, Nat.zero_le _, rfl, rfl, Rest.zero _ _ y1 _ _, OwnR.nil _ _ _ _ _ _, Own.nil _ _ _ _, Apart.nil _, Below.refl _ _⟩
  case round =>
    obtain ⟨k, m, h, p, hk, hgk, rfl, hrs, ho12, ho13, hap, hbw⟩ := hrel
    have HGK := Lib.hid hgk
    have HW := Lib.hid hbw
    have HR := Lib.hid hrs
    have HO := Lib.hid ho12
    have HP := Lib.hid ho13
    have HA := Lib.hid hap
    have hmk := hrs.le
    have hzz := hbw.size
    have hn := HN.out
    clear hgk hbw hrs ho12 ho13 hap
    by_cases hlt : k < n
    · obtain ⟨b1, o1, rfl, _, r0, r1, r2⟩ := ((HAT.out.below K3.out).below HW.out).threeV hlt
      obtain ⟨L, hL⟩ : ∃ L, (g k).a = L := ⟨_, rfl⟩
      rw [hL] at r2
      have K6 := Lib.hid (HW.out.alloc HW.out.size (.cells #[.int .i64 (g k).y, .int .i64 (g k).c, .int .i64 L] 31))
      obtain ⟨b2, o2, rfl, _, hc2⟩ := (H2.out.below K6.out).some (by omega)
      have q2 := hc2 k hlt
      have k0 : (0 : Int) ≤ (k : Int) := by omega
      have k1 : (k : Int) < (n : Int) := by omega
      have hu := us_in (year := x) (room := y) IV.out.pos hlt
      have hl := IV.out.one hlt
      have hal := IV.out.all
      obtain ⟨u, hu0⟩ : ∃ u, usU g x y k = u := ⟨_, rfl⟩
      rw [hu0] at q2 hu
      rw [hL] at hu hl
      have ew : IntKind.i64.wrap (L - u) = L - u := IntWalk.i64_in _ (by omega)
      by_cases hlu : u < L
      · have RN := Lib.hid (HR.out.keep IV.out.pos hlt y1)
        rw [hu0, hL] at RN
        have d1 : decide (u < L) = true := by simpa using hlu
        clear hc2 hu hl hal hu0 hL hlu
        go_wp2
        go_big_quiet (fail)
        go_wp2
        obtain ⟨w8, hw8⟩ : ∃ w8, w8 = ((wr.alloc (.cells #[.int .i64 (g k).y, .int .i64 (g k).c, .int .i64 L] 31)).drewN (nq + 1)).setCell ⟨wr.heap.size, 2, none⟩ (.int .i64 (L - u)) := ⟨_, rfl⟩
        have HB8 : Hid (Below wr.heap.size wr w8) := Lib.hid (by rw [hw8]; exact (below_drewN ((Below.refl _ _).alloc (Nat.le_refl _) _) _).setCell (Nat.le_refl _) _)
        have HS8 : Hid (w8.heap.size = wr.heap.size + 1) := Lib.hid (by rw [hw8]; simp)
        have HO8 := Lib.hid (HO.out.below HB8.out)
        have HP8 := Lib.hid (HP.out.below HB8.out)
        have HW8 := Lib.hid (HW.out.trans (HB8.out.mono hzz))
        have HC8 := Lib.hid (rec_lit w8 (ve ⟨(g k).c, (g k).y, L - u⟩) 31 (wr.heap.size + 1) HS8.out)
        have HW9 := Lib.hid (HW8.out.alloc HW8.out.size (.cells (ve ⟨(g k).c, (g k).y, L - u⟩).toArray 31))
        have HZ9 := Lib.hid HW9.out.size
        go_region_law (fail)
        all_goals
          go_wp2_with (first
            | (at_builtin; rw [← hw8]; (refine wpList_push_r rfl (.tmp 75) (.tmp 77) rfl vn_type hi hz0 hz1 hz2 (by decide) rfl (by decide) ve_len ve_one w3 w3.heap.size m (wr.heap.size + 1) _ h ⟨(g k).c, (g k).y, L - u⟩ rfl rfl HC8.out (HO8.out.alloc _) (by omega) HW9.out HZ9.out _ rfl ?_; intro b5 c5 w6 ho5 hb5 hg5 hat5; have HO5 := Lib.hid ho5; have HW5 := Lib.hid hb5; have HP5 := Lib.hid (Own.kept (HP8.out.alloc _) hg5 (kept_apart HA.out.symm)); have HA5 := Lib.hid (apart_push (n := m + 1) (c := c5) HA.out (HP8.out.alloc _) hat5 (Nat.le_refl _)); have HZ5 := Lib.hid hb5.size; clear ho5 hb5 hg5 hat5))
            | (at_builtin; (refine wpList_push_int rfl (.tmp 79) (.tmp 81) rfl Try.underlying22 hj jz0 jz1 jz2 w3 w3.heap.size m w6.heap.size _ (fun i => (p i : Int)) (k : Int) rfl rfl (by simp) (HP5.out.alloc _) (by omega) (HW5.out.alloc HZ5.out _) (by have := HZ5.out; simp; omega) _ rfl ?_; intro b7 c7 w7 ho7 hb7 hg7 hat7; have HP7 := Lib.hid ho7; have HW7 := Lib.hid hb7; have HO7 := Lib.hid (OwnR.kept (HO5.out.alloc _) hg7 (kept_apart HA5.out)); have HA7 := Lib.hid (apart_push (n := m + 1) (c := c7) HA5.out.symm (HO5.out.alloc _) hat7 (Nat.le_refl _)).symm; clear ho7 hb7 hg7 hat7)))
          go_roundg (n - (k + 1))
          case measure => have := HGK.out; omega
          case rel => exact ⟨k + 1, m + 1, _, _, by omega, rfl, by go_num, RN.out, HO7.out, HP7.out.ext fun j hj => (by
            by_cases e : j = m
            · rw [if_pos e, if_pos e]
            · rw [if_neg e, if_neg e]), HA7.out, HW7.out⟩
      · have RN := Lib.hid (HR.out.skip (fun j hj => (IV.out.one hj).1) hlt y1 (by rw [hu0, hL]; exact hlu))
        have d1 : decide (u < L) = false := by simpa using hlu
        clear hc2 hu hl hal hu0 hL hlu
        go_wp2
        go_big_quiet (fail)
        go_wp2
        go_roundg (n - (k + 1))
        case measure => have := HGK.out; omega
        case rel => exact ⟨k + 1, m, h, p, by omega, rfl, by go_num, RN.out, HO.out.below (below_drewN ((Below.refl _ _).alloc (Nat.le_refl _) _) _), HP.out.below (below_drewN ((Below.refl _ _).alloc (Nat.le_refl _) _) _), HA.out, below_drewN K6.out _⟩
    · obtain rfl : k = n := by omega
      obtain ⟨wo, rfl⟩ : ∃ wo, wo = wr := ⟨_, rfl⟩
      obtain ⟨AR, cR, rfl, hRc, hRm, _, hatR⟩ := HO.out.at ve_len
      obtain ⟨AP, cP, rfl, hPc, hPm, hatP⟩ := HP.out.at
      have hpos := HR.out.pos IV.out.pos
      have HPOS : Hid (∀ j, j < m → 0 ≤ (h j).a ∧ (h j).a ≤ 100000000000) := Lib.hid fun j hj => by
        have h1 := hpos j hj
        have h2 := IV.out.one (HR.out.at_ j hj).1
        have h3 := IV.out.all
        omega
      have CB := Lib.hid (puvec AR m cR h x z wo hatR ⟨hRc, hRm⟩ (by omega) HPOS.out (by omega))
      have HUB : Hid (∀ j, j < m → 0 ≤ usU h x z j ∧ usU h x z j ≤ 100000000000) := Lib.hid fun j hj => by
        have h1 := us_in (year := x) (room := z) (fun j hj => (HPOS.out j hj).1) hj
        have h2 := HPOS.out j hj
        omega
      have HATP := Lib.hid hatP
      have em : ((m : Int) != (m : Int)) = false := by simp
      have H2R := Lib.hid (H2.out.below HW.out)
      have H3R := Lib.hid (H3.out.below HW.out)
      clear hlt hatR hatP hpos
      go_wp2_with fail
      refine (CB.out).mono ?_
      rintro e w4 ⟨v4, rfl, ho4, hb4⟩
      have K4 := Lib.hid hb4
      obtain ⟨A4, c4, rfl, h4c, h4m, hat4⟩ := ho4.at
      have H4 := Lib.hid hat4
      have HO4 := Lib.hid ho4
      have U2 := Lib.hid (puused A2 k c2 (usU g x y) w4 (H2R.out.below hb4) (by omega) (us_mon IV.out x y))
      obtain ⟨T, hT⟩ : ∃ T, tot (usU g x y) k = T := ⟨_, rfl⟩
      rw [hT] at U2
      have HT := Lib.hid hT
      clear ho4 hb4 hat4 CB hT
      go_wp2_with fail
      refine (U2.out).mono ?_
      rintro e w5 ⟨rfl, hb5⟩
      have K5 := Lib.hid (K4.out.trans (hb5.mono K4.out.size))
      have H4' := Lib.hid (H4.out.below hb5)
      have H4L : Hid (∀ b o, A4 = some ⟨b, o, none⟩ → b + 1 ≤ w5.heap.size) := Lib.hid fun b o e => by
        have := (World.ownsRow.lt HO4.out b (by rw [e]; rfl)).2
        have := hb5.size
        omega
      have BASE : Hid (∀ w9, Below wo.heap.size wo w9 → Below w.heap.size w w9) := Lib.hid fun w9 k9 => by
        have q1 := LOW.out
        have q2 := K3.out
        have q3 := HW.out
        exact ((q1.trans (q2.mono q1.size)).trans (q3.mono (Nat.le_trans q1.size q2.size))).trans (k9.mono (Nat.le_trans (Nat.le_trans q1.size q2.size) q3.size))
      clear hb5 U2
      by_cases hs : T < y
      · obtain ⟨s1, s2⟩ := HR.out.short (two := z) IV.out.pos y1 (by rw [HT.out]; exact hs)
        have U4 := Lib.hid (puused A4 m c4 (usU h x z) w5 H4'.out (by omega) HUB.out)
        rw [s1] at U4
        have CS := Lib.hid fun (w7 : World) (k7 : Below wo.heap.size wo w7) => same_true A2 A3 k c2 c3 _ _ w7 (H2R.out.below k7) (H3R.out.below k7) (by omega) (s2 z z1)
        have d1 : decide (T < y) = true := by simpa using hs
        clear s1 s2 hs
        go_wp2_with fail
        refine (U4.out).mono ?_
        rintro e w6 ⟨rfl, hb6⟩
        have K6 := Lib.hid (K5.out.trans (hb6.mono K5.out.size))
        clear hb6
        go_wp2_with fail
        refine (CS.out _ K6.out).mono ?_
        rintro e w7 ⟨rfl, hb7⟩
        have K7 := Lib.hid (K6.out.trans (hb7.mono K6.out.size))
        clear hb7
        go_wp2_with (go_at_call 12; (refine (W.out _).mono ?_); rintro e w9 ⟨rfl, hb9⟩; have K9 := Lib.hid (K7.out.trans (hb9.mono K7.out.size)); clear hb9)
        go_ret
        exact ⟨rfl, BASE.out _ K9.out⟩
      · have d1 : decide (T < y) = false := by simpa using hs
        have HO2' := Lib.hid ((HO2.out.below HW.out).below K5.out)
        clear hs
        go_wp2_with fail
        refine (copy_own _ k w1.heap.size (usU g x y) w5 HO2'.out (by omega)).mono ?_
        rintro e w6 ⟨v6, rfl, ho6, hb6⟩
        have K6 := Lib.hid (K5.out.trans (hb6.mono K5.out.size))
        have HZ5 := Lib.hid (show wo.heap.size ≤ w5.heap.size ∧ w5.heap.size ≤ w6.heap.size from ⟨K5.out.size, hb6.size⟩)
        obtain ⟨A6, c6, rfl, h6c, h6m, _⟩ := ho6.at
        have HO6 := Lib.hid ho6
        have HB4 := Lib.hid (H4'.out.below hb6)
        clear ho6 hb6
        go_wp2
        go_loopg [112] m (fun gh i wx => ∃ (t : Nat) (f : Nat → Int), t ≤ m ∧ gh = m - t ∧ i = .int .i64 t ∧ Both k m p (usU g x y) (usU g x (y + z)) t f ∧ Own wx 3 w5.heap.size (.slice A6 k c6) k f ∧ Below w5.heap.size w6 wx)
        case atStart => exact ⟨0, usU g x y, Nat.zero_le _, rfl, rfl, ⟨fun i hi => by omega, fun _ _ _ => rfl⟩, HO6.out, Below.refl _ _⟩
        case round =>
          obtain ⟨t, f, ht, hgt, rfl, hbo, ho, hbw⟩ := hrel
          have HGT := Lib.hid hgt
          have HBO := Lib.hid hbo
          have HOB := Lib.hid ho
          have HWB := Lib.hid hbw
          clear hgt hbo ho hbw
          by_cases htm : t < m
          · obtain ⟨hpk, _⟩ := HR.out.at_ t htm
            have KX : Hid (Below wo.heap.size wo wr) := Lib.hid (by
              have q1 := HZ5.out
              exact K6.out.trans (HWB.out.mono q1.1))
            obtain ⟨bp, op, rfl, _, hcp⟩ := (HATP.out.below KX.out).some (by omega)
            obtain ⟨b4, o4, rfl, hb4, hc4⟩ := HB4.out.some (by omega)
            obtain ⟨b6, c6', e, _, _, hb6, hrow⟩ := HOB.out.some (by omega)
            injection e with e1 _ e3
            subst e1 e3
            have cp := hcp t htm
            obtain ⟨ck, fk⟩ := hrow.2 (p t) hpk
            have hmono := HR.out.mono
            have hrest := HBO.out.rest (p t) hpk (fun i hi e => by have := hmono i t hi htm; omega)
            rw [hrest] at ck
            have hboth := HR.out.both y1 z1 htm
            have NX := Lib.hid (HBO.out.next hmono htm)
            have ha := us_mon IV.out x y (p t) hpk
            have hcc := us_mon IV.out x (y + z) (p t) hpk
            obtain ⟨q, hq⟩ : ∃ q, p t = q := ⟨_, rfl⟩
            rw [hq] at cp ck fk hpk hboth NX ha hcc
            obtain ⟨ua, hua⟩ : ∃ ua, usU g x y q = ua := ⟨_, rfl⟩
            obtain ⟨ub, hub⟩ : ∃ ub, usU h x z t = ub := ⟨_, rfl⟩
            obtain ⟨uc, huc⟩ : ∃ uc, usU g x (y + z) q = uc := ⟨_, rfl⟩
            rw [hua] at ck hboth ha
            rw [hub] at hboth
            rw [huc] at hboth NX hcc
            have HUB2 := Lib.hid hub
            have cb : wr.cell? ⟨b4, o4 + t, none⟩ = some (.int .i64 ub) := by
              have := (HWB.out.mono (show b4 + 1 ≤ w5.heap.size from H4L.out b4 o4 rfl)).cell (p := ⟨b4, o4 + t, none⟩) (by show b4 < b4 + 1; omega)
              rw [this, ← HUB2.out]; exact hc4 t htm
            have ew : IntKind.i64.wrap (ua + ub) = uc := by rw [hboth]; exact IntWalk.i64_in _ (by omega)
            have k0 : (0 : Int) ≤ (t : Int) := by omega
            have k1 : (t : Int) < (m : Int) := by omega
            have k2 : (0 : Int) ≤ (q : Int) := by omega
            have k3 : (q : Int) < (k : Int) := by omega
            clear hcp hc4 hq hua hub huc hmono hrest hboth ha hcc
            go_wp2
            go_region_law (fail)
            all_goals
              go_wp2
              go_roundg (m - (t + 1))
              case measure => have := HGT.out; omega
              case rel => exact ⟨t + 1, _, by omega, rfl, by go_num, NX.out, HOB.out.set q uc, (HWB.out.setCell (p := ⟨b6, q, none⟩) hb6 _).drew⟩
          · obtain rfl : t = m := by omega
            have hall : ∀ j, j < k → f j = usU g x (y + z) j := fun j hj => by
              by_cases e : ∃ i, i < t ∧ p i = j
              · obtain ⟨i, hi, rfl⟩ := e
                exact HBO.out.done i hi
              · have hne : ∀ i, i < t → p i ≠ j := fun i hi q => e ⟨i, hi, q⟩
                rw [HBO.out.rest j hj hne]
                exact HR.out.alone y1 z1 hj hne
            have KX : Hid (Below wo.heap.size wo wr) := Lib.hid (by
              have q1 := HZ5.out
              exact K6.out.trans (HWB.out.mono q1.1))
            have hat6 : At wr A6 k f := by
              obtain ⟨_, _, e, _, _, q⟩ := HOB.out.at
              injection e with e1 _ _
              subst e1; exact q
            have CS := Lib.hid (same_true A6 A3 k c6 c3 _ _ wr hat6 (H3R.out.below KX.out) (by omega) hall)
            clear htm hall hat6
            go_wp2_with fail
            refine (CS.out).mono ?_
            rintro e w7 ⟨rfl, hb7⟩
            have K7 := Lib.hid (KX.out.trans (hb7.mono KX.out.size))
            clear hb7
            go_wp2_with (go_at_call 12; (refine (W.out _).mono ?_); rintro e w9 ⟨rfl, hb9⟩; have K9 := Lib.hid (K7.out.trans (hb9.mono K7.out.size)); clear hb9)
            go_ret
            exact ⟨rfl, BASE.out _ K9.out⟩
end Go.Proofs.Ytmgnnkampdepeaa
