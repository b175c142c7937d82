/- The document's own income by the tax: a contract. -/
import Derived.Test.YtmeljcogoeghaaaBrMath
import Derived.Test.YtmeljcogoeghaaaRef9
import Derived.WalkKit
import Derived.WalkSpells
import Derived.WalkLawsBesides
import Derived.Lib.Hide
import Derived.IntWalk
namespace Go.Proofs.Ytmeljcogoeghaaa
open Go.RowKit

/-- the document's answer -/
theorem rinc {a b c n : Int} {ok : Bool} (h : IncIs a b c n ok) (w : World) :
    Calls Try.prog 42 #[.int .i64 a, .int .i64 b, .int .i64 c] w fun e w' => e = .returned (.tuple #[.int .i64 n, .bool ok]) ∧ w = w' := by
  by_cases ha : Mon a
  · by_cases hb : Mon b
    · by_cases hc : Mon c
      · have ka := ha; have kb := hb; have kc := hc
        unfold Mon at ka kb kc
        by_cases hs : Mon (a + b - c)
        · have e1 : Hid (n = a + b - c ∧ ok = true) := Lib.hid (by
            rcases h with ⟨_, _, _, _, h1, h2⟩ | ⟨h1, _⟩
            · exact ⟨h2, h1⟩
            · exact absurd ⟨ha, hb, hc, hs⟩ h1)
          have HA := Lib.hid ha; have HB := Lib.hid hb; have HC := Lib.hid hc; have HS := Lib.hid hs
          clear h ha hb hc hs
          go_enter Try.func42, Try.ntmps42
          go_wp2_with (first | (go_at_call 62; (with_reducible refine (rmny_yes _ _ HA.out).mono ?_); rintro e w' ⟨rfl, rfl⟩) | (go_at_call 62; (with_reducible refine (rmny_yes _ _ HB.out).mono ?_); rintro e w' ⟨rfl, rfl⟩) | (go_at_call 62; (with_reducible refine (rmny_yes _ _ HC.out).mono ?_); rintro e w' ⟨rfl, rfl⟩) | (go_at_call 62; (with_reducible refine (rmny_yes _ _ HS.out).mono ?_); rintro e w' ⟨rfl, rfl⟩))
          go_ret2
          exact ⟨by rw [e1.out.1, e1.out.2]; rfl, rfl⟩
        · have e1 : Hid (n = 0 ∧ ok = false) := Lib.hid (by
            rcases h with ⟨h1, h2, h3, h4, _⟩ | ⟨_, h1, h2⟩
            · exact absurd h4 hs
            · exact ⟨h2, h1⟩)
          have HA := Lib.hid ha; have HB := Lib.hid hb; have HC := Lib.hid hc; have HS := Lib.hid hs
          clear h ha hb hc hs
          go_enter Try.func42, Try.ntmps42
          go_wp2_with (first | (go_at_call 62; (with_reducible refine (rmny_yes _ _ HA.out).mono ?_); rintro e w' ⟨rfl, rfl⟩) | (go_at_call 62; (with_reducible refine (rmny_yes _ _ HB.out).mono ?_); rintro e w' ⟨rfl, rfl⟩) | (go_at_call 62; (with_reducible refine (rmny_yes _ _ HC.out).mono ?_); rintro e w' ⟨rfl, rfl⟩) | (go_at_call 62; (with_reducible refine (rmny_no _ _ HS.out).mono ?_); rintro e w' ⟨rfl, rfl⟩))
          go_ret2
          exact ⟨by rw [e1.out.1, e1.out.2]; rfl, rfl⟩
      · have e1 : Hid (n = 0 ∧ ok = false) := Lib.hid (by
          rcases h with ⟨h1, h2, h3, h4, _⟩ | ⟨_, h1, h2⟩
          · exact absurd h3 hc
          · exact ⟨h2, h1⟩)
        have HA := Lib.hid ha; have HB := Lib.hid hb; have HC := Lib.hid hc
        clear h ha hb hc
        go_enter Try.func42, Try.ntmps42
        go_wp2_with (first | (go_at_call 62; (with_reducible refine (rmny_yes _ _ HA.out).mono ?_); rintro e w' ⟨rfl, rfl⟩) | (go_at_call 62; (with_reducible refine (rmny_yes _ _ HB.out).mono ?_); rintro e w' ⟨rfl, rfl⟩) | (go_at_call 62; (with_reducible refine (rmny_no _ _ HC.out).mono ?_); rintro e w' ⟨rfl, rfl⟩))
        go_ret2
        exact ⟨by rw [e1.out.1, e1.out.2]; rfl, rfl⟩
    · have e1 : Hid (n = 0 ∧ ok = false) := Lib.hid (by
        rcases h with ⟨h1, h2, h3, h4, _⟩ | ⟨_, h1, h2⟩
        · exact absurd h2 hb
        · exact ⟨h2, h1⟩)
      have HA := Lib.hid ha; have HB := Lib.hid hb
      clear h ha hb
      go_enter Try.func42, Try.ntmps42
      go_wp2_with (first | (go_at_call 62; (with_reducible refine (rmny_yes _ _ HA.out).mono ?_); rintro e w' ⟨rfl, rfl⟩) | (go_at_call 62; (with_reducible refine (rmny_no _ _ HB.out).mono ?_); rintro e w' ⟨rfl, rfl⟩))
      go_ret2
      exact ⟨by rw [e1.out.1, e1.out.2]; rfl, rfl⟩
  · have e1 : Hid (n = 0 ∧ ok = false) := Lib.hid (by
      rcases h with ⟨h1, h2, h3, h4, _⟩ | ⟨_, h1, h2⟩
      · exact absurd h1 ha
      · exact ⟨h2, h1⟩)
    have HA := Lib.hid ha
    clear h ha
    go_enter Try.func42, Try.ntmps42
    go_wp2_with (first | (go_at_call 62; (with_reducible refine (rmny_no _ _ HA.out).mono ?_); rintro e w' ⟨rfl, rfl⟩))
    go_ret2
    exact ⟨by rw [e1.out.1, e1.out.2]; rfl, rfl⟩
end Go.Proofs.Ytmeljcogoeghaaa
