/- AllowTells: its walk. -/
import Derived.Test.YtdchihhekmbeiaaLaw18a
import Derived.Test.YtdchihhekmbeiaaRMeas
import Derived.Test.YtdchihhekmbeiaaM1
namespace Go.Proofs.Ytdchihhekmbeiaa
open Go.RowKit
set_option maxHeartbeats 4000000 in
theorem allowTells_walk (a0 a1 a2 a3 : Int) (w : World) :
    Calls Try.prog 4 #[.int .i64 a0, .int .i64 a1, .int .i64 a2, .int .i64 a3] w fun e w' => e = .returned (.bool true) ∧ Below w.heap.size w w' := by
  have W := Lib.hid fun w => wakes18_any w
  go_enter Try.func4, Try.ntmps4
  go_wp2_with fail
  refine (amount_some _ _).mono ?_
  rintro e w1 ⟨a, rfl, rfl⟩
  go_wp2_with fail
  refine (rate_some _ _).mono ?_
  rintro e w2 ⟨r, rfl, hb2⟩
  have K2 := Lib.hid hb2
  clear hb2
  go_wp2_with fail
  refine (amount_some _ _).mono ?_
  rintro e w3 ⟨x, rfl, rfl⟩
  obtain ⟨s, hs⟩ : ∃ s, x.tmod 1000000 = s := ⟨_, rfl⟩
  have bs : -1000000 < s ∧ s < 1000000 := by
    have h1 := Int.tmod_lt_of_pos x (show (0 : Int) < 1000000 by decide)
    have h2 := Int.lt_tmod_of_pos x (show (0 : Int) < 1000000 by decide)
    omega
  go_wp2_with fail
  refine (amount_some _ _).mono ?_
  rintro e w4 ⟨y, rfl, rfl⟩
  obtain ⟨t, ht⟩ : ∃ t, y.tmod 1000000 = t := ⟨_, rfl⟩
  have bt : -1000000 < t ∧ t < 1000000 := by
    have h1 := Int.tmod_lt_of_pos y (show (0 : Int) < 1000000 by decide)
    have h2 := Int.lt_tmod_of_pos y (show (0 : Int) < 1000000 by decide)
    omega
  obtain ⟨v, er, hv⟩ := share_any a r
  have vb := share_low hv
  have H1 := Lib.hid (alw_share hv)
  have H2 := Lib.hid hv
  have q1 : (er == er) = true := by simp
  have q2 : (-v == -v) = true := by simp
  have q3 : (s - t == s - t) = true := by simp
  clear hv
  go_wp2_with (first | (go_at_call 8; (with_reducible refine (palw_any _ _ _ _ H1.out _).mono ?_); rintro e w' ⟨rfl, rfl⟩) | (go_at_call 13; (with_reducible refine (rshare_any _ _ _ _ H2.out _).mono ?_); rintro e w' ⟨rfl, rfl⟩) | (go_at_call 9; (with_reducible refine (pchg_any _ _ _ (by omega)).mono ?_); rintro e w' ⟨rfl, rfl⟩) | (go_at_call 10; (with_reducible refine (W.out _).mono ?_); rintro e w' ⟨rfl, rfl⟩))
  go_ret
  exact ⟨rfl, K2.out⟩
end Go.Proofs.Ytdchihhekmbeiaa
