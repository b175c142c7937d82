/- Package use, the program's own: a contract for each of its calls. -/
import Derived.Test.YtmlafdehhbhbiaaRUse
namespace Go.Proofs.Ytmlafdehhbhbiaa
open Go.RowKit

theorem puroom (income cap : Int) (w : World) :
    Calls Try.prog 42 #[.int .i64 income, .int .i64 cap] w fun e w' => e = .returned (.int .i64 (floorV income cap)) ∧ w = w' := by
  go_enter Try.func42, Try.ntmps42
  go_wp2_with (go_at_call 64; (with_reducible refine (floor_v _ _ _).mono ?_); rintro e w' ⟨rfl, rfl⟩)
  go_ret
  exact ⟨rfl, rfl⟩
theorem puroom_at (income cap n : Int) (w : World) (H : Hid (floorV income cap = n)) :
    Calls Try.prog 42 #[.int .i64 income, .int .i64 cap] w fun e w' => e = .returned (.int .i64 n) ∧ w = w' :=
  (puroom income cap w).mono fun _ _ ⟨he, hw⟩ => ⟨by rw [he, H.out], hw⟩
theorem puused (A : Option Addr) (n c : Nat) (u : Nat → Int) (w : World) (hu : At w A n u) (hn : n ≤ 1000) (pos : ∀ j, j < n → 0 ≤ u j ∧ u j ≤ 100000000000) :
    Calls Try.prog 43 #[.slice A n c] w fun e w' => e = .returned (.int .i64 (tot u n)) ∧ Below w.heap.size w w' := by
  have HU := Lib.hid hu
  have TB : Hid (∀ k, k ≤ n → 0 ≤ tot u k ∧ tot u k ≤ 100000000000000) := Lib.hid fun k hk => by
    refine ⟨tot_nonneg k fun j hj => (pos j (by omega)).1, ?_⟩
    have := tot_le (h := fun _ => 100000000000) k fun j hj => (pos j (by omega)).2
    rw [tot_const] at this; omega
  clear hu pos
  go_enter Try.func43, Try.ntmps43
  go_wp2
  go_loopg [3, 8] n (fun gh s i wr => ∃ k : Nat, k ≤ n ∧ gh = n - k ∧ i = .int .i64 k ∧ s = .int .i64 (tot u k) ∧ Below w.heap.size w wr)
  case atStart => exact ⟨0, Nat.zero_le _, rfl, rfl, rfl, Below.refl _ _⟩
  case round =>
    obtain ⟨k, hk, hgk, rfl, rfl, hbw⟩ := hrel
    have HGK := Lib.hid hgk
    have HW := Lib.hid hbw
    clear hgk hbw
    by_cases hlt : k < n
    · obtain ⟨b, off, rfl, hb, hc⟩ := (HU.out.below HW.out).some (by omega)
      have c0 := hc k hlt
      have e0 : tot u (k + 1) = tot u k + u k := rfl
      obtain ⟨t1, t2⟩ := TB.out k hk
      obtain ⟨t3, t4⟩ := TB.out (k + 1) (by omega)
      obtain ⟨x, hx⟩ : ∃ x, u k = x := ⟨_, rfl⟩
      obtain ⟨t, ht⟩ : ∃ t, tot u k = t := ⟨_, rfl⟩
      rw [e0] at t3 t4
      rw [hx] at c0 t3 t4 e0
      rw [ht] at t1 t2 t3 t4 e0 ⊢
      have E0 := Lib.hid e0
      clear hc e0 hx ht
      go_wp2
      go_roundg (n - (k + 1))
      case measure => have := HGK.out; omega
      case rel => exact ⟨k + 1, by omega, rfl, by go_num, by rw [E0.out]; try go_num, HW.out⟩
    · obtain rfl : k = n := by omega
      clear hlt
      go_wp2
      go_ret
      exact ⟨rfl, HW.out⟩
set_option maxHeartbeats 4000000 in
theorem puvec (A : Option Addr) (n c : Nat) (g : Nat → Bk) (year room : Int) (w : World) (hr : AtR ve 3 w A n g) (_hc : n ≤ c ∧ c ≤ maxLen) (hn : n ≤ 1000) (pos : ∀ j, j < n → 0 ≤ (g j).a ∧ (g j).a ≤ 100000000000) (hroom : -9223372036854775808 ≤ room ∧ room ≤ 9223372036854775807) :
    Calls Try.prog 40 #[.slice A n c, .int .i64 year, .int .i64 room] w fun e w' => ∃ v, e = .returned v ∧ Own w' 3 w.heap.size v n (usU g year room) ∧ Below w.heap.size w w' := by
  have hmk := run_make_row' (P := Try.prog) 35 3 (.int .i64 0) 8 Try.underlying35 int_info rfl .i64 .i64 n (by omega) (by omega)
  have HR := Lib.hid hr
  have HP := Lib.hid pos
  clear hr pos _hc
  obtain ⟨M, hM⟩ : ∃ M, max room 0 = M := ⟨_, rfl⟩
  have HMX := Lib.hid hM
  have mw : (0 > room ∧ Hid (M = 0)) ∨ (¬ 0 > room ∧ Hid (M = room)) := by
    rcases (show (0 > room ∧ M = 0) ∨ (¬ 0 > room ∧ M = room) by omega) with ⟨a, b⟩ | ⟨a, b⟩
    · exact .inl ⟨a, Lib.hid b⟩
    · exact .inr ⟨a, Lib.hid b⟩
  have HM := Lib.hid (show 0 ≤ M ∧ M ≤ 9223372036854775807 by omega)
  have HO0 := Lib.hid (own_made w n 3 w.heap.size (Nat.le_refl _) (by unfold maxLen; omega))
  clear hM hroom
  go_enter Try.func40, Try.ntmps40
  rcases mw with ⟨mq, hm⟩ | ⟨mq, hm⟩
  all_goals
   go_wp2
   go_loopg [2, 17] n (fun gh s2 i wr => ∃ (k : Nat) (f : Nat → Int), k ≤ n ∧ gh = n - k ∧ i = .int .i64 k ∧ s2 = .int .i64 (M - tot (usU g year room) k) ∧ (∀ j, j < k → f j = usU g year room j) ∧ (∀ j, k ≤ j → f j = 0) ∧ Own wr 3 w.heap.size (.slice (some ⟨w.heap.size, 0, none⟩) n n) n f ∧ Below w.heap.size w wr)
   case atStart => exact ⟨0, fun _ => 0, Nat.zero_le _, rfl, rfl, by rw [hm.out]; show _ = Value.int .i64 (_ - 0); rw [Int.sub_zero], fun j hj => by omega, fun _ _ => rfl, HO0.out, (Below.refl _ _).alloc (Nat.le_refl _) _⟩
   case round =>
    obtain ⟨k, f, hk, hgk, rfl, rfl, hf, hf0, ho, hbw⟩ := hrel
    have HGK := Lib.hid hgk
    have HW := Lib.hid hbw
    have HO := Lib.hid ho
    have HF := Lib.hid hf
    have HF0 := Lib.hid hf0
    clear hgk hbw ho hf hf0 hmk HO0 mq hm
    by_cases hlt : k < n
    · obtain ⟨b, off, rfl, hb, c0, c1, c2⟩ := (HR.out.below HW.out).threeV hlt
      have hs := us_step (year := year) (room := room) (fun j hj => (HP.out j hj).1) hlt
      have hr1 := us_room (year := year) (room := room) (fun j hj => (HP.out j hj).1) (show k ≤ n by omega)
      have hp := HP.out k hlt
      have hm := HM.out
      have hmx := HMX.out
      have et : tot (usU g year room) (k + 1) = tot (usU g year room) k + usU g year room k := rfl
      have hrow := (HO.out.row (by omega)).2 k hlt
      rw [HF0.out k (Nat.le_refl _)] at hrow
      obtain ⟨v0, v1⟩ := hrow
      have hbz := (HO.out.row (by omega)).1
      obtain ⟨r, hr0⟩ : ∃ r, M - tot (usU g year room) k = r := ⟨_, rfl⟩
      obtain ⟨u, hu0⟩ : ∃ u, usU g year room k = u := ⟨_, rfl⟩
      obtain ⟨x, hx0⟩ : ∃ x, (g k).a = x := ⟨_, rfl⟩
      obtain ⟨y, hy0⟩ : ∃ y, (g k).c = y := ⟨_, rfl⟩
      rw [hu0, hx0, hy0, show max (room - tot (usU g year room) k) 0 = r by omega] at hs
      rw [hu0] at et
      rw [hr0]
      rw [hx0] at hp c2
      rw [hy0] at c1
      have rb : 0 ≤ r ∧ r ≤ 9223372036854775807 := by omega
      have EW : Hid (M - tot (usU g year room) (k + 1) = r - u) := Lib.hid (by rw [et]; omega)
      have HUT : Hid (∀ f' : Nat → Int, (∀ j, j < k → f' j = f j) → f' k = u → ∀ j, j < k + 1 → f' j = usU g year room j) := Lib.hid fun f' h1 h2 j hj => by
        by_cases e : j = k
        · rw [e, h2, hu0]
        · rw [h1 j (by omega)]; exact HF.out j (by omega)
      have ways : (y < year ∧ Hid (u = 0)) ∨ (¬ y < year ∧ ((r < x ∧ Hid (u = r)) ∨ (¬ r < x ∧ Hid (u = x)))) := by
        by_cases hy : y < year
        · rw [if_pos hy] at hs
          exact .inl ⟨hy, Lib.hid hs⟩
        · rw [if_neg hy] at hs
          refine .inr ⟨hy, ?_⟩
          by_cases q : r < x
          · exact .inl ⟨q, Lib.hid (by omega)⟩
          · exact .inr ⟨q, Lib.hid (by omega)⟩
      clear hs hr1 hm et hr0 hx0 hu0 hy0 hmx
      rcases ways with ⟨hy, hu⟩ | ⟨hy, ⟨q1, hu⟩ | ⟨q1, hu⟩⟩
      · go_wp2
        go_roundg (n - (k + 1))
        case measure => have := HGK.out; omega
        case rel => exact ⟨k + 1, f, by omega, rfl, by go_num, (by rw [EW.out, hu.out]; try go_num), HUT.out f (fun _ _ => rfl) (by rw [hu.out]; exact HF0.out k (Nat.le_refl _)), fun j hj => HF0.out j (by omega), HO.out.alloc _, HW.out.alloc (by have := HW.out.size; omega) _⟩
      · go_wp2
        go_roundg (n - (k + 1))
        case measure => have := HGK.out; omega
        case rel => exact ⟨k + 1, _, by omega, rfl, by go_num, (by rw [EW.out, hu.out]; try go_num), HUT.out (fun j => if j = k then r else f j) (fun j hj => if_neg (by omega)) (by simp [hu.out]), fun j hj => by (try dsimp only); rw [if_neg (by omega)]; exact HF0.out j (by omega), (HO.out.set k _).alloc _, (HW.out.setCell (Nat.le_refl _) _).alloc (by have := HW.out.size; simp; omega) _⟩
      · go_wp2
        go_roundg (n - (k + 1))
        case measure => have := HGK.out; omega
        case rel => exact ⟨k + 1, _, by omega, rfl, by go_num, (by rw [EW.out, hu.out]; try go_num), HUT.out (fun j => if j = k then x else f j) (fun j hj => if_neg (by omega)) (by simp [hu.out]), fun j hj => by (try dsimp only); rw [if_neg (by omega)]; exact HF0.out j (by omega), (HO.out.set k _).alloc _, (HW.out.setCell (Nat.le_refl _) _).alloc (by have := HW.out.size; simp; omega) _⟩
    · obtain rfl : k = n := by omega
      clear hlt
      go_wp2
      go_ret
      exact ⟨_, rfl, HO.out.ext HF.out, HW.out⟩
end Go.Proofs.Ytmlafdehhbhbiaa
