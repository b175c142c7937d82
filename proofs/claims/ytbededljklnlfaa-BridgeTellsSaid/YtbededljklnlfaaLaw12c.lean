/- BridgeTells: its walk. -/
import Derived.Test.YtbededljklnlfaaLaw12a
import Derived.Test.YtbededljklnlfaaPlay
import Derived.Test.YtbededljklnlfaaRef9
import Derived.WalkKit
import Derived.WalkSpells
import Derived.WalkLawsBesides
import Derived.Lib.Hide
import Derived.IntWalk
import Derived.BigQuiet
import Derived.Laws.StructEq
import Derived.Deep.LoopGhost
import Derived.Deep.QuietTactic
import Derived.Deep.RegionHeld3
namespace Go.Proofs.Ytbededljklnlfaa
open Go.RowKit

set_option maxHeartbeats 4000000 in
theorem isame_true (A A' : Option Addr) (n c c' : Nat) (g g' : Nat → It) (w : World) (h : AtR ie 2 w A n g) (h' : AtR ie 2 w A' n g') (hn : n ≤ 1000000) (e : ∀ j, j < n → g j = g' j) :
    Calls Try.prog 12 #[.slice A n c, .slice A' n c'] w fun e' w' => e' = .returned (.bool true) ∧ Below w.heap.size w w' := by
  have H1 := Lib.hid h
  have H2 := Lib.hid (h'.ext fun j hj => (e j hj).symm)
  have ee : ((n : Int) != (n : Int)) = false := by simp
  clear h h' e
  go_enter Try.func12, Try.ntmps12
  go_wp2
  go_loopg [5] n (fun gh i wr => ∃ k : Nat, k ≤ n ∧ gh = n - k ∧ i = .int .i64 k ∧ Below w.heap.size w wr)
  case atStart => exact ⟨0, Nat.zero_le _, rfl, rfl, Below.refl _ _⟩
  case round =>
    obtain ⟨k, hk, hgk, rfl, hbw⟩ := hrel
    have HGK := Lib.hid hgk
    have HB := Lib.hid hbw
    clear hgk hbw
    by_cases hlt : k < n
    · obtain ⟨b, off, rfl, hb, c0, c1⟩ := (H1.out.below HB.out).two hlt
      obtain ⟨b', off', rfl, hb', c0', c1'⟩ := (H2.out.below HB.out).two hlt
      have k0 : (0 : Int) ≤ (k : Int) := by omega
      have k1 : (k : Int) < (n : Int) := by omega
      go_wp2
      go_big_quiet (fail)
      go_wp2
      go_roundg (n - (k + 1))
      case measure => have := HGK.out; omega
      case rel => exact ⟨k + 1, by omega, rfl, by go_num, below_drewN HB.out _⟩
    · obtain rfl : k = n := by omega
      clear hlt
      go_wp2
      go_ret
      exact ⟨rfl, HB.out⟩
/-- the document's answer -/
theorem rinc {a b c n : Int} {ok : Bool} (h : IncIs a b c n ok) (w : World) :
    Calls Try.prog 11 #[.int .i64 a, .int .i64 b, .int .i64 c] w fun e w' => e = .returned (.tuple #[.int .i64 n, .bool ok]) ∧ w = w' := by
  by_cases ha : Mon a
  · by_cases hb : Mon b
    · by_cases hc : Mon c
      · have ka := ha; have kb := hb; have kc := hc
        unfold Mon at ka kb kc
        by_cases hs : Mon (a + b - c)
        · have e1 : Hid (n = a + b - c ∧ ok = true) := Lib.hid (by
            rcases h with ⟨_, _, _, _, h1, h2⟩ | ⟨h1, _⟩
            · exact ⟨h2, h1⟩
            · exact absurd ⟨ha, hb, hc, hs⟩ h1)
          have HA := Lib.hid ha; have HB := Lib.hid hb; have HC := Lib.hid hc; have HS := Lib.hid hs
          clear h ha hb hc hs
          go_enter Try.func11, Try.ntmps11
          go_wp2_with (first | (go_at_call 14; (with_reducible refine (rmny_yes _ _ HA.out).mono ?_); rintro e w' ⟨rfl, rfl⟩) | (go_at_call 14; (with_reducible refine (rmny_yes _ _ HB.out).mono ?_); rintro e w' ⟨rfl, rfl⟩) | (go_at_call 14; (with_reducible refine (rmny_yes _ _ HC.out).mono ?_); rintro e w' ⟨rfl, rfl⟩) | (go_at_call 14; (with_reducible refine (rmny_yes _ _ HS.out).mono ?_); rintro e w' ⟨rfl, rfl⟩))
          go_ret2
          exact ⟨by rw [e1.out.1, e1.out.2]; rfl, rfl⟩
        · have e1 : Hid (n = 0 ∧ ok = false) := Lib.hid (by
            rcases h with ⟨h1, h2, h3, h4, _⟩ | ⟨_, h1, h2⟩
            · exact absurd h4 hs
            · exact ⟨h2, h1⟩)
          have HA := Lib.hid ha; have HB := Lib.hid hb; have HC := Lib.hid hc; have HS := Lib.hid hs
          clear h ha hb hc hs
          go_enter Try.func11, Try.ntmps11
          go_wp2_with (first | (go_at_call 14; (with_reducible refine (rmny_yes _ _ HA.out).mono ?_); rintro e w' ⟨rfl, rfl⟩) | (go_at_call 14; (with_reducible refine (rmny_yes _ _ HB.out).mono ?_); rintro e w' ⟨rfl, rfl⟩) | (go_at_call 14; (with_reducible refine (rmny_yes _ _ HC.out).mono ?_); rintro e w' ⟨rfl, rfl⟩) | (go_at_call 14; (with_reducible refine (rmny_no _ _ HS.out).mono ?_); rintro e w' ⟨rfl, rfl⟩))
          go_ret2
          exact ⟨by rw [e1.out.1, e1.out.2]; rfl, rfl⟩
      · have e1 : Hid (n = 0 ∧ ok = false) := Lib.hid (by
          rcases h with ⟨h1, h2, h3, h4, _⟩ | ⟨_, h1, h2⟩
          · exact absurd h3 hc
          · exact ⟨h2, h1⟩)
        have HA := Lib.hid ha; have HB := Lib.hid hb; have HC := Lib.hid hc
        clear h ha hb hc
        go_enter Try.func11, Try.ntmps11
        go_wp2_with (first | (go_at_call 14; (with_reducible refine (rmny_yes _ _ HA.out).mono ?_); rintro e w' ⟨rfl, rfl⟩) | (go_at_call 14; (with_reducible refine (rmny_yes _ _ HB.out).mono ?_); rintro e w' ⟨rfl, rfl⟩) | (go_at_call 14; (with_reducible refine (rmny_no _ _ HC.out).mono ?_); rintro e w' ⟨rfl, rfl⟩))
        go_ret2
        exact ⟨by rw [e1.out.1, e1.out.2]; rfl, rfl⟩
    · have e1 : Hid (n = 0 ∧ ok = false) := Lib.hid (by
        rcases h with ⟨h1, h2, h3, h4, _⟩ | ⟨_, h1, h2⟩
        · exact absurd h2 hb
        · exact ⟨h2, h1⟩)
      have HA := Lib.hid ha; have HB := Lib.hid hb
      clear h ha hb
      go_enter Try.func11, Try.ntmps11
      go_wp2_with (first | (go_at_call 14; (with_reducible refine (rmny_yes _ _ HA.out).mono ?_); rintro e w' ⟨rfl, rfl⟩) | (go_at_call 14; (with_reducible refine (rmny_no _ _ HB.out).mono ?_); rintro e w' ⟨rfl, rfl⟩))
      go_ret2
      exact ⟨by rw [e1.out.1, e1.out.2]; rfl, rfl⟩
  · have e1 : Hid (n = 0 ∧ ok = false) := Lib.hid (by
      rcases h with ⟨h1, h2, h3, h4, _⟩ | ⟨_, h1, h2⟩
      · exact absurd h1 ha
      · exact ⟨h2, h1⟩)
    have HA := Lib.hid ha
    clear h ha
    go_enter Try.func11, Try.ntmps11
    go_wp2_with (first | (go_at_call 14; (with_reducible refine (rmny_no _ _ HA.out).mono ?_); rintro e w' ⟨rfl, rfl⟩))
    go_ret2
    exact ⟨by rw [e1.out.1, e1.out.2]; rfl, rfl⟩
set_option maxHeartbeats 8000000 in
theorem bridgeTells_walk (a0 a1 a2 : Int) (w : World) (_w0 : (Lit.int .i64 a0).wf = true) (_w1 : (Lit.int .i64 a1).wf = true) (_w2 : (Lit.int .i64 a2).wf = true) :
    Calls Try.prog 4 #[.int .i64 a0, .int .i64 a1, .int .i64 a2] w fun e w' => e = .returned (.bool true) ∧ Below w.heap.size w w' := by
  have W2 := Lib.hid (wf_i64 _w2)
  clear _w0 _w1 _w2
  go_enter Try.func4, Try.ntmps4
  go_wp2_with fail
  refine (amount_some a0 _).mono ?_
  rintro e w' ⟨a, rfl, rfl⟩
  go_wp2_with fail
  refine (amount_some a1 _).mono ?_
  rintro e w' ⟨b, rfl, rfl⟩
  go_wp2_with fail
  refine (amount_wf a2 W2.out _).mono ?_
  rintro e w' ⟨c, hc, rfl, rfl⟩
  have HC := Lib.hid hc
  clear hc
  obtain ⟨n, ok, hi⟩ := inc_any a b c
  have I := Lib.hid hi
  go_wp2_with fail
  refine (pinc I.out HC.out _).mono ?_
  rintro e w1 ⟨rfl, hb1⟩
  have K1 := Lib.hid hb1
  clear hb1
  go_wp2_with fail
  refine (rinc I.out _).mono ?_
  rintro e w' ⟨rfl, rfl⟩
  cases ok with
  | false =>
    clear hi
    go_wp2_with fail
    refine (plines_no I.out HC.out _).mono ?_
    rintro e w2 ⟨A, c', rfl, hb2⟩
    have K2 := Lib.hid (K1.out.trans (hb2.mono K1.out.size))
    clear hb2
    go_wp2_with fail
    refine (wakes12_any _).mono ?_
    rintro e w3 ⟨rfl, hb3⟩
    have K3 := Lib.hid (K2.out.trans (hb3.mono K2.out.size))
    clear hb3
    go_wp2
    go_ret
    exact ⟨rfl, K3.out⟩
  | true =>
    have hn : Mon a ∧ Mon b ∧ Mon c ∧ Mon n := by
      rcases hi with ⟨h1, h2, h3, h4, _, h5⟩ | ⟨_, h, _⟩
      · exact ⟨h1, h2, h3, h5 ▸ h4⟩
      · cases h
    unfold Mon at hn
    clear hi
    go_wp2_with fail
    refine (plines_yes I.out _).mono ?_
    rintro e w2 ⟨b1, off, c', rfl, hat, hc, hb2⟩
    have K2 := Lib.hid (K1.out.trans (hb2.mono K1.out.size))
    have HA := Lib.hid hat
    clear hb2 hat hc
    go_wp2_with fail
    refine (isame_true _ _ 4 _ _ (lns a b c n) (lns a b c n) _ (HA.out.below ((Below.refl _ _).alloc (Nat.le_refl _) _)) (lns_lit w2 a b c n) (by omega) fun _ _ => rfl).mono ?_
    rintro e w3 ⟨rfl, hb3⟩
    have K3 := Lib.hid ((K2.out.alloc K2.out.size _).trans (hb3.mono (by have := K2.out.size; simp; omega)))
    clear hb3
    go_wp2_with fail
    refine (wakes12_any _).mono ?_
    rintro e w4 ⟨rfl, hb4⟩
    have K4 := Lib.hid (K3.out.trans (hb4.mono K3.out.size))
    clear hb4
    go_wp2
    go_ret
    exact ⟨rfl, K4.out⟩
end Go.Proofs.Ytbededljklnlfaa
