/- The statements' own sum, of up to a million numbers: the same answer as the program's; what the least of some is. -/
import Derived.Test.YtbealifdnllimaaRef01
import Derived.WalkKit
import Derived.WalkSpells
import Derived.WalkLawsBesides
import Derived.Lib.Hide
namespace Go.Proofs.Ytbealifdnllimaa
open Go.RowKit

theorem rsum_none (A : Option Addr) (c : Nat) (w : World) :
    Calls Try.prog 26 #[.slice A 0 c] w fun e w' => e = .returned (.tuple #[.int .i64 0, .bool true]) ∧ w = w' := by
  have H0 : Hid (Mon 0) := Lib.hid (by unfold Mon; omega)
  go_enter Try.func26, Try.ntmps26
  go_wp2
  refine wp_loop_rounds 1 ?_; rw [rounds_succ]
  go_wp2_with (go_at_call 22; (with_reducible refine (rmoney_yes _ _ H0.out).mono ?_); rintro e w' ⟨rfl, rfl⟩)
  go_ret2
  exact ⟨rfl, rfl⟩

set_option maxHeartbeats 1000000 in
theorem rsum_some (b off n c : Nat) (g : Nat → Int) (r : Int) (ok : Bool) (w : World)
    (HC : Hid (∀ j, j < n → w.cell? ⟨b, off + j, none⟩ = some (.int .i64 (g j)))) (hn : n ≤ 1000000) (hnc : n ≤ c) (HR : Hid (SumIs g n r ok)) :
    Calls Try.prog 26 #[.slice (some ⟨b, off, none⟩) n c] w fun e w' => e = .returned (.tuple #[.int .i64 r, .bool ok]) ∧ w = w' := by
  go_enter Try.func26, Try.ntmps26
  go_wp2
  go_loop [4, 9] (fun t i => ∃ k : Nat, k ≤ n ∧ i = .int .i64 k ∧ t = .int .i64 (tot g k) ∧ Hid (∀ j, j < k → Mon (g j))) (fun _ i => n - (intOf i).toNat)
  case atStart => exact ⟨0, Nat.zero_le _, rfl, rfl, Lib.hid fun j hj => by omega⟩
  case round =>
    obtain ⟨k, hk, rfl, rfl, HM⟩ := hrel
    obtain ⟨tb1, tb2⟩ := tot_bd g k HM.out
    by_cases hlt : k < n
    · have ck := HC.out k hlt
      by_cases hm : Mon (g k)
      · have H1 := Lib.hid hm
        obtain ⟨m1, m2⟩ := hm
        have HM' : Hid (∀ j, j < k + 1 → Mon (g j)) := Lib.hid fun j hj => by
          rcases Nat.lt_or_ge j k with h | h
          · exact HM.out j h
          · rw [show j = k by omega]; exact H1.out
        go_wp2_with (go_at_call 22; (with_reducible refine (rmoney_yes _ _ H1.out).mono ?_); rintro e w' ⟨rfl, rfl⟩)
        go_round
        case rel => exact ⟨k + 1, by omega, by go_num, rfl, HM'⟩
        case measure => simp [intOf]; omega
      · obtain ⟨e1, e2⟩ := HR.out.bad hlt hm
        have E1 := Lib.hid e1
        have E2 := Lib.hid e2
        have H1 := Lib.hid hm
        clear e1 e2 hm
        go_wp2_with (go_at_call 22; (with_reducible refine (rmoney_no _ _ H1.out).mono ?_); rintro e w' ⟨rfl, rfl⟩)
        go_ret2
        exact ⟨ret_ib E2.out.symm E1.out.symm, rfl⟩
    · obtain rfl : k = n := by omega
      clear hlt
      by_cases hm : Mon (tot g k)
      · obtain ⟨e1, e2⟩ := HR.out.good HM.out hm
        have E1 := Lib.hid e1
        have E2 := Lib.hid e2
        have H1 := Lib.hid hm
        clear e1 e2 hm
        go_wp2_with (go_at_call 22; (with_reducible refine (rmoney_yes _ _ H1.out).mono ?_); rintro e w' ⟨rfl, rfl⟩)
        go_ret2
        exact ⟨ret_ib E2.out.symm E1.out.symm, rfl⟩
      · obtain ⟨e1, e2⟩ := HR.out.big hm
        have E1 := Lib.hid e1
        have E2 := Lib.hid e2
        have H1 := Lib.hid hm
        clear e1 e2 hm
        go_wp2_with (go_at_call 22; (with_reducible refine (rmoney_no _ _ H1.out).mono ?_); rintro e w' ⟨rfl, rfl⟩)
        go_ret2
        exact ⟨ret_ib E2.out.symm E1.out.symm, rfl⟩

theorem lst_le (g : Nat → Int) : ∀ k j, j ≤ k → lst g k ≤ g j
  | 0, j, h => by rw [show j = 0 by omega]; exact Int.le_refl _
  | k + 1, j, h => by
    rw [lst]
    rcases Nat.lt_or_ge j (k + 1) with h' | h'
    · have := lst_le g k j (by omega); omega
    · rw [show j = k + 1 by omega]; omega
theorem lst_in (g : Nat → Int) : ∀ k, ∃ j, j ≤ k ∧ g j = lst g k
  | 0 => ⟨0, Nat.le_refl _, rfl⟩
  | k + 1 => by
    obtain ⟨j, hj, e⟩ := lst_in g k
    rw [lst]
    by_cases h : lst g k ≤ g (k + 1)
    · exact ⟨j, by omega, by omega⟩
    · exact ⟨k + 1, Nat.le_refl _, by omega⟩
/-- is x among the first k numbers? -/
def seen (g : Nat → Int) (x : Int) : Nat → Bool
  | 0 => false
  | k + 1 => seen g x k || (g k == x)
theorem seen_of (g : Nat → Int) (x : Int) : ∀ k j, j < k → g j = x → seen g x k = true
  | k + 1, j, h, e => by
    rw [seen]
    rcases Nat.lt_or_ge j k with h' | h'
    · rw [seen_of g x k j h' e]; rfl
    · rw [show j = k by omega] at e; rw [e]; simp
end Go.Proofs.Ytbealifdnllimaa
