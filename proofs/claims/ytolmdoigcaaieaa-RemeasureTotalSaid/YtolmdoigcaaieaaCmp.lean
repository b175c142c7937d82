/- cmp.isNaN, cmp.Compare, cmp.Or of two numbers, walked: a contract for each. -/
import Derived.Test.YtolmdoigcaaieaaRows
import Derived.Test.YtolmdoigcaaieaaRec
import Derived.Test.YtolmdoigcaaieaaM1
import Derived.WalkKit
import Derived.WalkSpells
import Derived.WalkLawsBesides
import Derived.Lib.Hide
import Derived.IntWalk
import Derived.Deep.LoopGhost
import Derived.Deep.QuietTactic
import Derived.BigQuiet
import Derived.Deep.RegionHeld3
namespace Go.Proofs.Ytolmdoigcaaieaa
open Go.RowKit

set_option maxRecDepth 100000 in
theorem isnan_any (n : Int) (w : World) : Calls Try.prog 47 #[.int .i64 n] w fun e w' => e = .returned (.bool false) ∧ w = w' := by
  have p : (n != n) = false := by simp
  go_enter Try.func47, Try.ntmps47
  go_wp2
  go_ret
  exact ⟨rfl, rfl⟩
/-- how two numbers compare -/
def cmpc (a b : Int) : Int := if a < b then -1 else if b < a then 1 else 0
set_option maxRecDepth 100000 in
theorem cmpc_zero {a b : Int} : cmpc a b = 0 ↔ a = b := by unfold cmpc; split <;> (try split) <;> omega
set_option maxRecDepth 100000 in
theorem cmpc_neg {a b : Int} : cmpc a b < 0 ↔ a < b := by unfold cmpc; split <;> (try split) <;> omega
set_option maxRecDepth 100000 in
theorem cmpi_any (a b : Int) (w : World) : Calls Try.prog 46 #[.int .i64 a, .int .i64 b] w fun e w' => e = .returned (.int .i64 (cmpc a b)) ∧ w = w' := by
  rcases (show a < b ∨ (¬ a < b ∧ b < a) ∨ (¬ a < b ∧ ¬ b < a) by omega) with h | ⟨h1, h2⟩ | ⟨h1, h2⟩
  · have e : Hid (-1 = cmpc a b) := Lib.hid (by unfold cmpc; rw [if_pos h])
    go_enter Try.func46, Try.ntmps46
    go_wp2_with (go_at_call 47; (with_reducible refine (isnan_any _ _).mono ?_); rintro e w' ⟨rfl, rfl⟩)
    go_ret
    exact ⟨ret_i e.out, rfl⟩
  · have e : Hid (1 = cmpc a b) := Lib.hid (by unfold cmpc; rw [if_neg h1, if_pos h2])
    go_enter Try.func46, Try.ntmps46
    go_wp2_with (go_at_call 47; (with_reducible refine (isnan_any _ _).mono ?_); rintro e w' ⟨rfl, rfl⟩)
    go_ret
    exact ⟨ret_i e.out, rfl⟩
  · have e : Hid (0 = cmpc a b) := Lib.hid (by unfold cmpc; rw [if_neg h1, if_neg h2])
    go_enter Try.func46, Try.ntmps46
    go_wp2_with (go_at_call 47; (with_reducible refine (isnan_any _ _).mono ?_); rintro e w' ⟨rfl, rfl⟩)
    go_ret
    exact ⟨ret_i e.out, rfl⟩
/-- the first of two that is not 0 -/
def orc (p q : Int) : Int := if p = 0 then q else p
set_option maxRecDepth 100000 in
theorem cmpor_any (X : Nat) (p q : Int) (w : World) (c0 : w.cell? ⟨X, 0, none⟩ = some (.int .i64 p)) (c1 : w.cell? ⟨X, 1, none⟩ = some (.int .i64 q)) :
    Calls Try.prog 45 #[.slice (some ⟨X, 0, none⟩) 2 2] w fun e w' => e = .returned (.int .i64 (orc p q)) ∧ Below w.heap.size w w' := by
  have HR := Lib.hid (rfl : orc p q = orc p q)
  unfold orc at HR
  go_enter Try.func45, Try.ntmps45
  go_wp2
  go_loopg [8] 2 (fun gh i wr => ∃ k : Nat, k ≤ 2 ∧ gh = 2 - k ∧ i = .int .i64 k ∧ (1 ≤ k → p = 0) ∧ (2 ≤ k → q = 0) ∧ Below w.heap.size w wr)
  case atStart => exact ⟨0, by omega, rfl, rfl, by omega, by omega, Below.refl _ _⟩
  case round =>
    obtain ⟨k, hk, hgk, rfl, h1, h2, hbw⟩ := hrel
    have HGK := Lib.hid hgk
    have HB := Lib.hid hbw
    have H1 := Lib.hid h1
    have H2 := Lib.hid h2
    have d0 := cell_keep c0 hbw
    have d1 := cell_keep c1 hbw
    clear hgk hbw h1 h2
    obtain rfl | rfl | rfl : k = 0 ∨ k = 1 ∨ k = 2 := by omega
    · by_cases hp : p = 0
      · subst hp
        go_wp2
        go_roundg 1
        case measure => have := HGK.out; omega
        case rel => exact ⟨1, by omega, rfl, by go_num, by simp, fun h => by omega, HB.out⟩
      · have HP : Hid (p = orc p q) := Lib.hid (by unfold orc; rw [if_neg hp])
        have hp' : (p != 0) = true := by simpa using hp
        clear hp
        go_wp2
        go_ret
        exact ⟨ret_i HP.out, HB.out⟩
    · have hp0 := H1.out (by omega)
      by_cases hp : q = 0
      · subst hp
        go_wp2
        go_roundg 0
        case measure => have := HGK.out; omega
        case rel => exact ⟨2, by omega, rfl, by go_num, fun _ => H1.out (by omega), by simp, HB.out⟩
      · have HP : Hid (q = orc p q) := Lib.hid (by unfold orc; rw [if_pos hp0])
        have hp' : (q != 0) = true := by simpa using hp
        clear hp hp0
        go_wp2
        go_ret
        exact ⟨ret_i HP.out, HB.out⟩
    · have HP : Hid (0 = orc p q) := Lib.hid (by unfold orc; rw [if_pos (H1.out (by omega)), H2.out (by omega)])
      go_wp2
      go_ret
      exact ⟨ret_i HP.out, HB.out⟩
end Go.Proofs.Ytolmdoigcaaieaa
