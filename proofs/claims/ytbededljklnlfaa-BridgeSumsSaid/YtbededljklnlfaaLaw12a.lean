/- Law 12: the document's example; BridgeEdges: its walk. -/
import Derived.Test.YtbededljklnlfaaBridge
import Derived.WalkKit
import Derived.WalkSpells
import Derived.WalkLawsBesides
import Derived.Lib.Hide
import Derived.IntWalk
namespace Go.Proofs.Ytbededljklnlfaa
open Go.RowKit

theorem wakes12_any (w : World) : Calls Try.prog 9 #[] w fun e w' => e = .returned (.bool true) ∧ Below w.heap.size w w' := by
  have I1 := Lib.hid (show IncIs 10 2 5 7 true from inc_y (by unfold Mon; omega) (by omega))
  go_enter Try.func9, Try.ntmps9
  go_wp2_with fail
  refine (pinc I1.out (by omega) _).mono ?_
  rintro e w1 ⟨rfl, hb1⟩
  have K1 := Lib.hid hb1
  clear hb1
  go_wp2
  go_ret
  exact ⟨rfl, K1.out⟩
set_option maxHeartbeats 4000000 in
theorem bridgeEdges_walk (a0 : Int) (w : World) (_w0 : (Lit.int .i64 a0).wf = true) :
    Calls Try.prog 5 #[.int .i64 a0] w fun e w' => e = .returned (.bool true) ∧ Below w.heap.size w w' := by
  clear _w0
  obtain ⟨N, hN⟩ : ∃ N, a0 % 100000000001 = N := ⟨_, rfl⟩
  have n1 : 0 ≤ N := by omega
  have n2 : N ≤ 100000000000 := by omega
  have HN := Lib.hid hN
  clear hN
  have I1 := Lib.hid (show IncIs 100000000000 N N 100000000000 true from inc_y (by unfold Mon; omega) (by omega))
  have I2 := Lib.hid (show IncIs 100000000000 N (N - 1) 0 false from inc_no (by unfold Mon; omega))
  have I3 := Lib.hid (show IncIs (-100000000000) (-N) (-N) (-100000000000) true from inc_y (by unfold Mon; omega) (by omega))
  have I4 := Lib.hid (show IncIs (-100000000000) (-N) (1 - N) 0 false from inc_no (by unfold Mon; omega))
  have I5 := Lib.hid (show IncIs 100000000001 0 N 0 false from inc_no (by unfold Mon; omega))
  go_enter Try.func5, Try.ntmps5
  go_wp2_with (go_at_call 6; (with_reducible refine (within_at _ _ _ _ (by omega) (by omega) HN).mono ?_); rintro e w' ⟨rfl, rfl⟩)
  refine (pinc I1.out (by omega) _).mono ?_
  rintro e w1 ⟨rfl, hb1⟩
  have K1 := Lib.hid (hb1)
  clear hb1
  go_wp2_with fail
  refine (pinc I2.out (by omega) _).mono ?_
  rintro e w2 ⟨rfl, hb2⟩
  have K2 := Lib.hid (K1.out.trans (hb2.mono K1.out.size))
  clear hb2
  go_wp2_with fail
  refine (pinc I3.out (by omega) _).mono ?_
  rintro e w3 ⟨rfl, hb3⟩
  have K3 := Lib.hid (K2.out.trans (hb3.mono K2.out.size))
  clear hb3
  go_wp2_with fail
  refine (pinc I4.out (by omega) _).mono ?_
  rintro e w4 ⟨rfl, hb4⟩
  have K4 := Lib.hid (K3.out.trans (hb4.mono K3.out.size))
  clear hb4
  go_wp2_with fail
  refine (pinc I5.out (by omega) _).mono ?_
  rintro e w5 ⟨rfl, hb5⟩
  have K5 := Lib.hid (K4.out.trans (hb5.mono K4.out.size))
  clear hb5
  go_wp2_with fail
  refine (wakes12_any _).mono ?_
  rintro e w6 ⟨rfl, hb6⟩
  have K6 := Lib.hid (K5.out.trans (hb6.mono K5.out.size))
  clear hb6
  go_wp2
  go_ret
  exact ⟨rfl, K6.out⟩
end Go.Proofs.Ytbededljklnlfaa
