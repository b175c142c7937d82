/- UseTells: its walk. -/
import Derived.Test.YtmgnnkampdepeaaLaw14a
import Derived.WalkKit
import Derived.WalkSpells
import Derived.WalkLawsBesides
import Derived.Lib.Hide
import Derived.IntWalk
import Derived.Deep.LoopGhost
import Derived.Deep.RegionHeld3
import Derived.Deep.DeepCutAuto
import Derived.Deep.CutBlock
namespace Go.Proofs.Ytmgnnkampdepeaa
open Go.RowKit

/-- what is used is not more than there is -/
theorem us_mon {S : Int → Int → Int} {n : Nat} {g : Nat → Bk} (iv : VInv S n g) (year room : Int) : ∀ j, j < n → 0 ≤ usU g year room j ∧ usU g year room j ≤ 100000000000 := fun j hj => by
  have h := us_in (year := year) (room := room) iv.pos hj
  have := (iv.one hj).2
  have := iv.all
  omega
set_option maxHeartbeats 8000000 in
set_option maxRecDepth 100000 in
theorem useTells_walk (a0 : Option Addr) (len0 cap0 : Nat) (z0 : List Int) (a1 a2 a3 a4 a5 : Int) (w : World) (w0 : IsRow .i64 w a0 len0 cap0 z0) (_k1 : (Lit.int .i64 a1).wf = true) (k2 : (Lit.int .i64 a2).wf = true) (_k3 : (Lit.int .i64 a3).wf = true) (_k4 : (Lit.int .i64 a4).wf = true) (_k5 : (Lit.int .i64 a5).wf = true) :
    Calls Try.prog 5 #[.slice a0 len0 cap0, .int .i64 a1, .int .i64 a2, .int .i64 a3, .int .i64 a4, .int .i64 a5] w fun e w' => e = .returned (.bool true) ∧ Below w.heap.size w w' := by
  have W := Lib.hid fun w => wakes14_any w
  have CL := Lib.hid (plosses_some a0 len0 cap0 z0 w w0)
  have b2 := wf_i64 k2
  obtain ⟨r2, hr2, hA2⟩ := amount_fn a2
  have hr2 := hr2 b2
  obtain ⟨r3, _, hA3⟩ := amount_fn a3
  have HB2 := Lib.hid b2
  have HR2 := Lib.hid hr2
  have HA2 := Lib.hid hA2
  have HA3 := Lib.hid hA3
  clear w0 _k1 k2 _k3 _k4 _k5 b2 hr2 hA2 hA3
  go_enter Try.func5, Try.ntmps5
  go_wp2_with fail
  refine (CL.out).mono ?_
  rintro e w1 ⟨sb, S, O, rfl, hnow⟩
  have LOW := Lib.hid hnow.low
  obtain ⟨v, n, g, s, iv⟩ := hnow.st
  have c0 := s.hd.c0
  obtain ⟨A, cc, rfl, hc, hm, _, ha⟩ := s.at
  have hn := iv.le
  have HAT := Lib.hid ha
  have IV := Lib.hid iv
  clear hnow s ha iv CL
  go_upto_if 25 with ((go_at_call 9; (with_reducible refine (within_some _ _ _ (by omega) (by omega)).mono ?_); rintro e w' ⟨x, x1, x2, rfl, rfl⟩))
  go_cut [2] (fun s2 wx => ∃ r : Int, s2 = .int .i64 r ∧ (-9223372036854775808 ≤ r ∧ r ≤ 9223372036854775807) ∧ w1 = wx)
  case first =>
    go_wp2_with (go_at_call 15; (with_reducible refine (HA2.out _).mono ?_); rintro e w' ⟨rfl, rfl⟩)
    · go_meet
      exact ⟨_, rfl, HR2.out, rfl⟩
    · go_meet
      exact ⟨_, rfl, HB2.out, rfl⟩
  case rest =>
    obtain ⟨r, rfl, hr, rfl⟩ := hcut
    have HRB := Lib.hid hr
    clear hr
    go_upto_if 30 with fail
    go_cut [3, 4] (fun s3 s4 wx => ∃ a b : Int, s3 = .int .i64 a ∧ s4 = .int .i64 b ∧ Below w1.heap.size w1 wx)
    case first =>
      go_wp2_with (first | (go_at_call 15; (with_reducible refine (HA3.out _).mono ?_); rintro e w' ⟨rfl, rfl⟩) | (go_at_call 16; (with_reducible refine (rate_some _ _).mono ?_); rintro e w' ⟨b9, rfl, hb9⟩))
      · go_meet
        exact ⟨_, _, rfl, rfl, hb9⟩
      · go_meet
        exact ⟨_, _, rfl, rfl, Below.refl _ _⟩
    case rest =>
      obtain ⟨a, b, rfl, rfl, hbw⟩ := hcut
      have HBW := Lib.hid hbw
      have d0 := cell_keep c0 hbw
      have CV := Lib.hid fun (w5 : World) (k5 : Below wc.heap.size wc w5) => puvec A n cc g x r w5 ((HAT.out.below HBW.out).below k5) ⟨hc, hm⟩ (by omega) (fun j hj => ⟨IV.out.pos j hj, by have := (IV.out.one hj).2; have := IV.out.all; omega⟩) HRB.out
      have CR := Lib.hid fun (w5 : World) (k5 : Below wc.heap.size wc w5) => rvec A n cc g x r w5 ((HAT.out.below HBW.out).below k5) (by omega) (fun j hj => ⟨IV.out.pos j hj, by have := (IV.out.one hj).2; have := IV.out.all; omega⟩) HRB.out
      have K0 := Lib.hid (below_drew wc)
      have HC0 := Lib.hid d0
      clear hbw
      go_wp2
      go_region_held3 (fun w' => w'.cell? ⟨sb, 0, none⟩ = some (.slice A n cc)) (first | go_keep) (first | (go_at_call 10; (refine (CV.out _ K0.out).mono ?_); rintro e w5 ⟨v5, rfl, ho5, hb5⟩; have K5 := Lib.hid (K0.out.trans (hb5.mono K0.out.size)); have d5 := cell_keep HC0.out K5.out; have HO5 := Lib.hid ho5; clear ho5 hb5) | (go_at_call 17; (refine (CR.out _ K5.out).mono ?_); rintro e w6 ⟨v6, rfl, ho6, hb6⟩; have K6 := Lib.hid (K5.out.trans (hb6.mono K5.out.size)); have d6 := cell_keep HC0.out K6.out; have HO6 := Lib.hid ho6; have HP6 := Lib.hid (HO5.out.below hb6); clear ho6 hb6))
      obtain ⟨A5, c5, rfl, h5, h5m, hat5⟩ := HP6.out.at
      obtain ⟨A6, c6, rfl, h6, h6m, hat6⟩ := HO6.out.at
      have H5 := Lib.hid hat5
      have H6 := Lib.hid hat6
      have UB := Lib.hid (us_mon IV.out x r)
      clear hat5 hat6
      go_wp2
      go_loopg [16, 51] n (fun gh s16 i wr => ∃ k : Nat, k ≤ n ∧ gh = n - k ∧ i = .int .i64 k ∧ s16 = .int .i64 (tot (usU g x r) k) ∧ w6 = wr)
      case atStart => exact ⟨0, Nat.zero_le _, rfl, rfl, rfl, rfl⟩
      case round =>
        obtain ⟨k, hk, hgk, rfl, rfl, rfl⟩ := hrel
        have HGK := Lib.hid hgk
        have tb := tot_bd (usU g x r) k fun j hj => (by have := UB.out j (by omega); unfold Mon; omega)
        obtain ⟨T, hT⟩ : ∃ T, tot (usU g x r) k = T := ⟨_, rfl⟩
        rw [hT] at tb
        rw [hT]
        have HT := Lib.hid hT
        clear hgk hT
        by_cases hlt : k < n
        · obtain ⟨b, off, rfl, hb, hcell⟩ := H6.out.some (by omega)
          have ck := hcell k hlt
          have ub := UB.out k hlt
          obtain ⟨u, hu⟩ : ∃ u, usU g x r k = u := ⟨_, rfl⟩
          rw [hu] at ck ub
          have HU := Lib.hid hu
          have k0 : (0 : Int) ≤ (k : Int) := by omega
          have k1 : (k : Int) < (n : Int) := by omega
          have ew : IntKind.i64.wrap (T + u) = T + u := IntWalk.i64_in _ (by omega)
          clear hcell hu tb ub
          go_wp2
          go_roundg (n - (k + 1))
          case measure => have := HGK.out; omega
          case rel => exact ⟨k + 1, by omega, rfl, by go_num, by rw [← HT.out, ← HU.out]; rfl, rfl⟩
        · obtain rfl : k = n := by omega
          have CS := Lib.hid (same_true A5 A6 k c5 c6 _ _ w6 H5.out H6.out (by omega) fun j _ => rfl)
          have CU := Lib.hid fun (w7 : World) (k7 : Below w6.heap.size w6 w7) => puused A5 k c5 (usU g x r) w7 (H5.out.below k7) (by omega) UB.out
          rw [HT.out] at CU
          clear hlt tb
          go_wp2_with (first | (go_at_call 13; (refine (CS.out).mono ?_); rintro e w7 ⟨rfl, hb7⟩; have K7 := Lib.hid hb7; clear hb7) | (go_at_call 11; (refine (CU.out _ K7.out).mono ?_); rintro e w8 ⟨rfl, hb8⟩; have K8 := Lib.hid (K7.out.trans (hb8.mono K7.out.size)); clear hb8) | (go_at_call 18; (with_reducible refine (puroom _ _ _).mono ?_); rintro e w' ⟨rfl, rfl⟩) | (go_at_call 19; (with_reducible refine (rroom _ _ _).mono ?_); rintro e w' ⟨rfl, rfl⟩) | (go_at_call 12; (refine (W.out _).mono ?_); rintro e w9 ⟨rfl, hb9⟩; have K9 := Lib.hid (K8.out.trans (hb9.mono K8.out.size)); clear hb9))
          go_ret
          have z1 := LOW.out
          have z2 := HBW.out
          exact ⟨rfl, (z1.trans (z2.mono z1.size)).trans ((K6.out.mono (Nat.le_trans z1.size z2.size)).trans (K9.out.mono (Nat.le_trans (Nat.le_trans z1.size z2.size) K6.out.size)))⟩
end Go.Proofs.Ytmgnnkampdepeaa
