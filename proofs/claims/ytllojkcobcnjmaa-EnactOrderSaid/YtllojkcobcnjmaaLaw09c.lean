/- EnactGrows: its walk. -/
import Derived.Test.YtllojkcobcnjmaaLaw09a
import Derived.Test.YtllojkcobcnjmaaActs9
import Derived.WalkKit
import Derived.WalkSpells
import Derived.WalkLawsBesides
import Derived.Lib.Hide
import Derived.IntWalk
import Derived.Deep.LoopGhost
import Derived.Deep.QuietTactic
import Derived.BigQuiet
import Derived.Deep.RegionHeld3
import Derived.Deep.RegionLaw
namespace Go.Proofs.Ytllojkcobcnjmaa
open Go.RowKit

section
variable {w0 w w1 : World} {O O1 : Nat → Nat} {t t' sb n : Nat} {R : Nat → Rt} {E : TypeId}
/-- a rate is enacted, or refused -/
theorem nadd_is (h : NowT 31 w0 w O t sb n R) (ht : t ≠ 0) (x : Rt) :
    Calls Try.prog 9 #[ptr sb, .string x.j, .int .i64 x.y, .int .i64 x.r, .int .i64 x.p] w fun e' w' => ∃ (q : Int) (b : Bool) (m : Nat) (S : Nat → Rt) (O' : Nat → Nat), e' = .returned (.int .i64 q) ∧ (q == 0) = b ∧ NowT 31 w0 w' O' t sb m S ∧ Step w0.heap.size O t w O' w' ∧ TErr R n x.j x.y x.r x.p q ∧ ((b = false ∧ m = n ∧ S = R) ∨ (b = true ∧ m = n + 1 ∧ S = pushT R n x)) := by
  obtain ⟨e, he⟩ := terr_any h.inv.le x.j x.y x.r x.p
  by_cases h0 : e = 0
  · subst h0
    refine (nadd_ok h ht x he).mono ?_
    rintro e' w' ⟨rfl, O', a, b⟩
    exact ⟨0, true, _, _, O', rfl, rfl, a, b, he, .inr ⟨rfl, rfl, rfl⟩⟩
  · refine (nadd_no h x e he h0).mono ?_
    rintro e' w' ⟨rfl, b⟩
    exact ⟨e, false, _, _, O, rfl, by simpa using h0, h.below b, Step.of_below h.fin b, he, .inl ⟨rfl, rfl, rfl⟩⟩
end
/-- what is known of a table, and of one with a rate more or not -/
theorem grows_known {R S : Nat → Rt} {n m : Nat} {j : ByteArray} {Y P r : Int} {b : Bool} (h : (b = false ∧ m = n ∧ S = R) ∨ (b = true ∧ m = n + 1 ∧ S = pushT R n ⟨j, Y, r, P⟩)) (y p : Int) :
    ∃ q ok q' ok', Known R n j y p q ok ∧ Known S m j y p q' ok' ∧ ((y < Y ∨ p < P ∨ b = false) → q = q' ∧ ok = ok') ∧ (ok = true → ok' = true) := by
  obtain ⟨q, ok, hk⟩ := known_any R n j y p
  rcases h with ⟨_, rfl, rfl⟩ | ⟨hb, rfl, rfl⟩
  · exact ⟨q, ok, q, ok, hk, hk, fun _ => ⟨rfl, rfl⟩, id⟩
  · by_cases hM : Mt ⟨j, Y, r, P⟩ j y p
    · obtain ⟨q', ok', hk'⟩ := known_any (pushT R n ⟨j, Y, r, P⟩) (n + 1) j y p
      refine ⟨q, ok, q', ok', hk, hk', fun h => ?_, fun _ => ?_⟩
      · obtain ⟨_, h1, h2⟩ := hM
        have h1' : Y ≤ y := h1
        have h2' : P ≤ p := h2
        rcases h with h | h | h
        · omega
        · omega
        · rw [hb] at h; cases h
      · rcases hk' with ⟨e, _⟩ | ⟨_, _, h0⟩
        · exact e
        · have := h0 n (by omega)
          rw [pushT_at] at this
          exact absurd hM this
    · exact ⟨q, ok, q, ok, hk, hk.more _ hM, fun _ => ⟨rfl, rfl⟩, id⟩
theorem grows_last {R S : Nat → Rt} {n m : Nat} {j : ByteArray} {Y P r : Int} {b : Bool} (h : (b = false ∧ m = n ∧ S = R) ∨ (b = true ∧ m = n + 1 ∧ S = pushT R n ⟨j, Y, r, P⟩)) :
    ∃ q ok, Known S m j Y P q ok ∧ (b = true → ok = true ∧ q = r) := by
  rcases h with ⟨hb, rfl, rfl⟩ | ⟨hb, rfl, rfl⟩
  · obtain ⟨q, ok, hk⟩ := known_any S m j Y P
    exact ⟨q, ok, hk, fun e => by rw [hb] at e; cases e⟩
  · refine ⟨r, true, Known.last (x := ⟨j, Y, r, P⟩) ⟨rfl, Int.le_refl _, Int.le_refl _⟩ fun k hk hM => ?_, fun _ => ⟨rfl, rfl⟩⟩
    obtain ⟨_, h1, h2⟩ := hM
    show (R k).y < Y ∨ ((R k).y = Y ∧ (R k).p ≤ P)
    omega
set_option maxHeartbeats 4000000 in
set_option maxRecDepth 100000 in
theorem enactGrows_walk (a0 : Option Addr) (len0 cap0 : Nat) (a1 a2 a3 : Int) (w : World) (w0 : Acts9 w a0 len0) (_w1 : (Lit.int .i64 a1).wf = true) (_w2 : (Lit.int .i64 a2).wf = true) (_w3 : (Lit.int .i64 a3).wf = true) :
    Calls Try.prog 7 #[.slice a0 len0 cap0, .int .i64 a1, .int .i64 a2, .int .i64 a3] w fun e w' => e = .returned (.bool true) ∧ Below w.heap.size w w' := by
  clear _w1 _w2 _w3
  have HA := Lib.hid w0
  clear w0
  go_enter Try.func7, Try.ntmps7
  go_wp2_with fail
  refine (enew_any _).mono ?_
  rintro e w1 ⟨rfl, rfl⟩
  obtain ⟨nw, _⟩ := nowt_new w w (fun _ => 0) (Fin0.zero _ _) (Below.refl _ _) 31 53 1 rno
  have N0 := Lib.hid nw
  clear nw
  go_wp2
  go_loopg [10] 12 (fun gh i wr => ∃ (k n : Nat) (R : Nat → Rt) (O : Nat → Nat), k ≤ 12 ∧ gh = 12 - k ∧ i = .int .i64 k ∧ NowT 31 w wr O 1 w.heap.size n R)
  case atStart => exact ⟨0, 0, _, _, by omega, rfl, rfl, N0.out⟩
  case round =>
    obtain ⟨k, n, R, O, hk, hgk, rfl, hn1⟩ := hrel
    have HGK := Lib.hid hgk
    have N1 := Lib.hid hn1
    clear hgk hn1 N0
    by_cases hlt : k < len0 ∧ k < 12
    · obtain ⟨hq1, hq2⟩ := hlt
      obtain ⟨b, off, j, y, r, p, raw, rfl, hb, ha⟩ := HA.out.some hq1
      have hlow := N1.out.low
      have ck1 := (cell_keep ha.k1 hlow)
      have ck2 := (cell_keep ha.k2 hlow)
      have ck3 := (cell_keep ha.k3 hlow)
      have hdr : Below w.heap.size w wr.drew := hlow.trans ((below_drew wr).mono hlow.size)
      have AC := Lib.hid ha
      have CL := Lib.hid (nadd_is (N1.out.below (below_drew wr)) (by decide) ⟨⟨#[117, 107]⟩, y % 6, r % 1000001, p % 8⟩)
      clear ha hlow
      go_wp2
      go_region_held3 (fun w' => w'.cell? ⟨b, off + k * 5 + 1, none⟩ = some (.int .i64 y) ∧ w'.cell? ⟨b, off + k * 5 + 2, none⟩ = some (.int .i64 r) ∧ w'.cell? ⟨b, off + k * 5 + 3, none⟩ = some (.int .i64 p) ∧ Below w.heap.size w w') (first | go_keep) (first | (go_at_call 11; (with_reducible refine (within_any _ _ _ (by omega) (by omega)).mono ?_); rintro e w' ⟨rfl, rfl⟩) | (go_at_call 9; (refine (CL.out).mono ?_); rintro e w5 ⟨q5, b5, m5, S5, O5, rfl, _, hn5, _, _, _⟩; have d1 := cell_keep AC.out.k1 hn5.low; have d2 := cell_keep AC.out.k2 hn5.low; have d3 := cell_keep AC.out.k3 hn5.low; have d4 := hn5.low; have N5 := Lib.hid hn5; clear hn5))
      go_wp2
      go_roundg (12 - (k + 1))
      case measure => have := HGK.out; omega
      case rel => exact ⟨k + 1, m5, S5, O5, by omega, rfl, by go_num, N5.out⟩
    · rcases (show ¬ k < len0 ∨ (k < len0 ∧ ¬ k < 12) by omega) with hq | ⟨hq1, hq⟩
      all_goals
        clear hlt
        go_wp2_with fail
        refine (nclone N1.out 3).mono ?_
        rintro e w4 ⟨cb, O4, rfl, n4, s4⟩
        have C4 := Lib.hid n4
        have N4 := Lib.hid (N1.out.step (s4 4) (by decide) (by decide))
        clear n4 s4 N1
        go_wp2_with fail
        refine (within_some _ _ _ (by omega) (by omega)).mono ?_
        rintro e w' ⟨Y, y1, y2, rfl, rfl⟩
        go_wp2_with fail
        refine (within_some _ _ _ (by omega) (by omega)).mono ?_
        rintro e w' ⟨P, p1, p2, rfl, rfl⟩
        go_wp2_with fail
        refine (within_some _ _ _ (by omega) (by omega)).mono ?_
        rintro e w' ⟨r, r1, r2, rfl, rfl⟩
        go_wp2_with fail
        refine (nadd_is C4.out (by decide) ⟨⟨#[117, 107]⟩, Y, r, P⟩).mono ?_
        rintro e wb ⟨q5, b5, m5, S5, O5, rfl, hq5, n5, s5, _, hc5⟩
        have C5 := Lib.hid n5
        have N5 := Lib.hid (N4.out.step s5 (by decide) (by decide))
        have KN := Lib.hid fun y p => grows_known hc5 y p
        have KL := Lib.hid (grows_last hc5)
        clear n5 s5 hc5 C4 N4
        go_wp2
        clear hq5
        go_loopg [13] 8 (fun gh i wr => ∃ y : Nat, y ≤ 8 ∧ gh = 8 - y ∧ i = .int .i64 y ∧ Below wb.heap.size wb wr)
        case atStart => exact ⟨0, by omega, rfl, rfl, Below.refl _ _⟩
        case round =>
          obtain ⟨y, hy, hgy, rfl, hbw⟩ := hrel
          have HGY := Lib.hid hgy
          have HB := Lib.hid hbw
          clear hgy hbw
          by_cases hly : y < 8
          · have e8 : decide ((y : Int) < 8) = true := by simp; omega
            go_wp2
            obtain ⟨wo, rfl⟩ : ∃ wo, wo = wr := ⟨_, rfl⟩
            go_loopg [14] 10 (fun gh i wr => ∃ p : Nat, p ≤ 10 ∧ gh = 10 - p ∧ i = .int .i64 p ∧ Below wb.heap.size wb wr)
            case atStart => exact ⟨0, by omega, rfl, rfl, HB.out⟩
            case round =>
              obtain ⟨p, hp, hgp, rfl, hbw⟩ := hrel
              have HGP := Lib.hid hgp
              have HB2 := Lib.hid hbw
              clear hgp hbw
              by_cases hlp : p < 10
              · obtain ⟨q, ok, q', ok', k1, k2, h3, h4⟩ := KN.out y p
                have C6 := Lib.hid (nrate (N5.out.below HB2.out) ⟨#[117, 107]⟩ y p q ok k1)
                have C7 := Lib.hid fun w1 (h : Below wb.heap.size wb w1) => nrate (C5.out.below h) ⟨#[117, 107]⟩ y p q' ok' k2
                clear k1 k2
                go_wp2_with fail
                refine (C6.out).mono ?_
                rintro e w6 ⟨rfl, hb6⟩
                have C8 := Lib.hid (C7.out w6 (HB2.out.trans (hb6.mono HB2.out.size)))
                have HB3 := Lib.hid (HB2.out.trans (hb6.mono HB2.out.size))
                clear hb6 C6 C7
                go_wp2_with fail
                refine (C8.out).mono ?_
                rintro e w7 ⟨rfl, hb7⟩
                have HB4 := Lib.hid (HB3.out.trans (hb7.mono HB3.out.size))
                clear hb7 C8 HB3
                rcases (show ((y : Int) < Y ∧ q = q' ∧ ok = ok') ∨ (¬ (y : Int) < Y ∧ (p : Int) < P ∧ q = q' ∧ ok = ok') ∨ (¬ (y : Int) < Y ∧ ¬ (p : Int) < P ∧ b5 = false ∧ q = q' ∧ ok = ok') ∨ (¬ (y : Int) < Y ∧ ¬ (p : Int) < P ∧ b5 = true ∧ ok = false) ∨ (¬ (y : Int) < Y ∧ ¬ (p : Int) < P ∧ b5 = true ∧ ok = true ∧ ok' = true) from by
                    by_cases z1 : (y : Int) < Y
                    · exact .inl ⟨z1, h3 (.inl z1)⟩
                    · by_cases z2 : (p : Int) < P
                      · exact .inr (.inl ⟨z1, z2, h3 (.inr (.inl z2))⟩)
                      · cases b5
                        · exact .inr (.inr (.inl ⟨z1, z2, rfl, h3 (.inr (.inr rfl))⟩))
                        · cases ok
                          · exact .inr (.inr (.inr (.inl ⟨z1, z2, rfl, rfl⟩)))
                          · exact .inr (.inr (.inr (.inr ⟨z1, z2, rfl, rfl, h4 rfl⟩)))) with ⟨z1, rfl, rfl⟩ | ⟨z1, z2, rfl, rfl⟩ | ⟨z1, z2, rfl, rfl, rfl⟩ | ⟨z1, z2, rfl, rfl⟩ | ⟨z1, z2, rfl, rfl, rfl⟩
                all_goals
                  clear h3 h4
                · have e1 : (q != q) = false := by simp
                  have e2 : (ok != ok) = false := by simp
                  cases ok
                  all_goals
                    go_wp2
                    go_roundg (10 - (p + 1))
                    case measure => have := HGP.out; omega
                    case rel => exact ⟨p + 1, by omega, rfl, by go_num, HB4.out⟩
                · have e1 : (q != q) = false := by simp
                  have e2 : (ok != ok) = false := by simp
                  cases ok
                  all_goals
                    go_wp2
                    go_roundg (10 - (p + 1))
                    case measure => have := HGP.out; omega
                    case rel => exact ⟨p + 1, by omega, rfl, by go_num, HB4.out⟩
                · have e1 : (q != q) = false := by simp
                  have e2 : (ok != ok) = false := by simp
                  cases ok
                  all_goals
                    go_wp2
                    go_roundg (10 - (p + 1))
                    case measure => have := HGP.out; omega
                    case rel => exact ⟨p + 1, by omega, rfl, by go_num, HB4.out⟩
                all_goals
                  go_wp2
                  go_roundg (10 - (p + 1))
                  case measure => have := HGP.out; omega
                  case rel => exact ⟨p + 1, by omega, rfl, by go_num, HB4.out⟩
              · obtain rfl : p = 10 := by omega
                clear hlp hp
                go_wp2
                go_roundg (8 - (y + 1))
                case measure => have := HGY.out; omega
                case rel => exact ⟨y + 1, by omega, rfl, by go_num, HB2.out⟩
          · obtain rfl : y = 8 := by omega
            clear hly hy
            obtain ⟨q, ok, k1, h3⟩ := KL.out
            have C6 := Lib.hid (nrate (C5.out.below HB.out) ⟨#[117, 107]⟩ Y P q ok k1)
            clear k1
            go_wp2_with fail
            refine (C6.out).mono ?_
            rintro e w6 ⟨rfl, hb6⟩
            have L6 := Lib.hid (C5.out.low.trans ((HB.out.trans (hb6.mono HB.out.size)).mono C5.out.low.size))
            clear hb6 C6
            cases b5
            · clear h3
              go_wp2_with fail
              refine (wakes9_any _).mono ?_
              rintro e w8 ⟨rfl, hb⟩
              have L8 := Lib.hid (L6.out.trans (hb.mono L6.out.size))
              clear hb
              go_wp2
              go_ret
              exact ⟨rfl, L8.out⟩
            · obtain ⟨rfl, rfl⟩ := h3 rfl
              clear h3
              have e1 : (q == q) = true := by simp
              go_wp2_with fail
              refine (wakes9_any _).mono ?_
              rintro e w8 ⟨rfl, hb⟩
              have L8 := Lib.hid (L6.out.trans (hb.mono L6.out.size))
              clear hb
              go_wp2
              go_ret
              exact ⟨rfl, L8.out⟩
end Go.Proofs.Ytllojkcobcnjmaa
