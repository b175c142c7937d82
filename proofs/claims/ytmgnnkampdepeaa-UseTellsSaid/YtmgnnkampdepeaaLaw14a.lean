/- Law 14: the document's example. UseRoom: its walk. -/
import Derived.Test.YtmgnnkampdepeaaUse
import Derived.Test.YtmgnnkampdepeaaSeq
import Derived.WalkKit
import Derived.WalkSpells
import Derived.WalkLawsBesides
import Derived.Lib.Hide
import Derived.IntWalk
namespace Go.Proofs.Ytmgnnkampdepeaa
open Go.RowKit

theorem floorV_yes {n r : Int} (h : (0 ≤ n ∧ n ≤ 100000000000) ∧ 0 ≤ r ∧ r ≤ 1000000) : floorV n r = n * r / 1000000 := by
  unfold floorV
  rw [show floorB n r = true from decide_eq_true h]; rfl
theorem floorV_no {n r : Int} (h : ¬ ((0 ≤ n ∧ n ≤ 100000000000) ∧ 0 ≤ r ∧ r ≤ 1000000)) : floorV n r = 0 := by
  unfold floorV
  rw [show floorB n r = false from decide_eq_false h]; rfl
theorem wakes14_any (w : World) : Calls Try.prog 12 #[] w fun e w' => e = .returned (.bool true) ∧ Below w.heap.size w w' := by
  have R1 := Lib.hid (show floorV 100 500000 = 50 by decide)
  have V1 := Lib.hid fun w : World => puvec (some ⟨w.heap.size, 0, none⟩) 1 1 (fun _ => ⟨4, 1, 100⟩) 3 60 (w.alloc (.cells #[.int .i64 1, .int .i64 4, .int .i64 100] 31)) (.inr ⟨w.heap.size, 0, rfl, by simp, fun j hj i u hu => by
    obtain rfl : j = 0 := by omega
    rw [Nat.zero_mul, Nat.add_zero, Nat.zero_add]
    exact rec_lit w (ve ⟨4, 1, 100⟩) 31 w.heap.size rfl i u hu⟩) (by unfold maxLen; omega) (by omega) (fun j _ => by decide) (by omega)
  have V2 := Lib.hid fun w : World => puvec none 0 0 (fun _ => ⟨4, 1, 100⟩) 1 5 w (.inl rfl) (by unfold maxLen; omega) (by omega) (fun j hj => by omega) (by omega)
  go_enter Try.func12, Try.ntmps12
  go_wp2_with fail
  refine (V1.out _).mono ?_
  rintro e w1 ⟨v1, rfl, ho1, hb1⟩
  obtain ⟨A1, c1, rfl, h1, h2, hat⟩ := ho1.at
  have K1 := Lib.hid (((Below.refl w.heap.size w).alloc (Nat.le_refl _) _).trans (hb1.mono (by simp)))
  have L1 := Lib.hid (lit_row w1 [60] 3)
  have C2 := Lib.hid (same_true A1 (some ⟨w1.heap.size, 0, none⟩) 1 c1 1 _ _ (w1.alloc (.cells #[.int .i64 60] 3)) (hat.below ((Below.refl _ _).alloc (Nat.le_refl _) _)) L1.out.at (by omega) (fun j hj => by
    obtain rfl : j = 0 := by omega
    decide))
  clear ho1 hb1 hat
  go_wp2_with (first | (go_at_call 13; (refine (C2.out).mono ?_); rintro e w2 ⟨rfl, hb2⟩; have K2 := Lib.hid ((K1.out.alloc K1.out.size _).trans (hb2.mono (by have := K1.out.size; simp; omega))); clear hb2) | (go_at_call 18; (with_reducible refine (puroom_at _ _ _ _ R1).mono ?_); rintro e w' ⟨rfl, rfl⟩) | (go_at_call 10; (refine (V2.out _).mono ?_); rintro e w3 ⟨v3, rfl, ho3, hb3⟩; obtain ⟨A3, c3, rfl, _, _, _⟩ := ho3.at; have K3 := Lib.hid (K2.out.trans (hb3.mono K2.out.size)); clear ho3 hb3))
  go_ret
  exact ⟨rfl, K3.out⟩
set_option maxHeartbeats 4000000 in
set_option maxRecDepth 100000 in
theorem useRoom_walk (a0 a1 : Int) (w : World) :
    Calls Try.prog 7 #[.int .i64 a0, .int .i64 a1] w fun e w' => e = .returned (.bool true) ∧ Below w.heap.size w w' := by
  have W := Lib.hid fun w => wakes14_any w
  obtain ⟨x, hx⟩ : ∃ x, a0 % 100000000001 = x := ⟨_, rfl⟩
  obtain ⟨y, hy⟩ : ∃ y, a1 % 1000001 = y := ⟨_, rfl⟩
  have HX := Lib.hid hx
  have HY := Lib.hid hy
  have x1 : 0 ≤ x := by omega
  have x2 : x ≤ 100000000000 := by omega
  have y1 : 0 ≤ y := by omega
  have y2 : y ≤ 1000000 := by omega
  clear hx hy
  obtain ⟨pb1, pb2⟩ := mul_bd (n := x) (r := y) (A := 100000000000) (by omega) x2 y1 y2
  have pz := (mul_sign (n := x) y1).1 x1
  obtain ⟨P, hP⟩ : ∃ P, x * y = P := ⟨_, rfl⟩
  rw [hP] at pb1 pb2 pz
  obtain ⟨n, hn⟩ : ∃ n, P / 1000000 = n := ⟨_, rfl⟩
  have R1 := Lib.hid (show floorV x y = n by rw [floorV_yes ⟨⟨x1, x2⟩, y1, y2⟩, hP, hn])
  have R2 := Lib.hid (show floorV x 1000000 = x by rw [floorV_yes ⟨⟨x1, x2⟩, by omega, by omega⟩]; omega)
  have R3 := Lib.hid (show floorV (-x) y = 0 by
    by_cases e : x = 0
    · subst e
      rw [Int.neg_zero, floorV_yes ⟨⟨by omega, by omega⟩, y1, y2⟩, Int.zero_mul]; rfl
    · exact floorV_no (by omega))
  have R4 := Lib.hid (show floorV x 0 = 0 by rw [floorV_yes ⟨⟨x1, x2⟩, by omega, by omega⟩, Int.mul_zero]; rfl)
  have R5 := Lib.hid (show floorV x 1000001 = 0 from floorV_no (by omega))
  have R6 := Lib.hid (show floorV x (-1) = 0 from floorV_no (by omega))
  have n0 : 0 ≤ n := by omega
  have n1 : n * 1000000 ≤ P := by omega
  have n2 : P < (n + 1) * 1000000 := by omega
  have n3 : n ≤ 100000000000 := by omega
  clear hn pb1 pz
  go_enter Try.func7, Try.ntmps7
  go_wp2_with (first | (go_at_call 9; (with_reducible refine (within_at _ _ _ _ (by omega) (by omega) HX).mono ?_); rintro e w' ⟨rfl, rfl⟩) | (go_at_call 9; (with_reducible refine (within_at _ _ _ _ (by omega) (by omega) HY).mono ?_); rintro e w' ⟨rfl, rfl⟩) | (go_at_call 18; (with_reducible refine (puroom_at _ _ _ _ R1).mono ?_); rintro e w' ⟨rfl, rfl⟩) | (go_at_call 18; (with_reducible refine (puroom_at _ _ _ _ R2).mono ?_); rintro e w' ⟨rfl, rfl⟩) | (go_at_call 18; (with_reducible refine (puroom_at _ _ _ _ R3).mono ?_); rintro e w' ⟨rfl, rfl⟩) | (go_at_call 18; (with_reducible refine (puroom_at _ _ _ _ R4).mono ?_); rintro e w' ⟨rfl, rfl⟩) | (go_at_call 18; (with_reducible refine (puroom_at _ _ _ _ R5).mono ?_); rintro e w' ⟨rfl, rfl⟩) | (go_at_call 18; (with_reducible refine (puroom_at _ _ _ _ R6).mono ?_); rintro e w' ⟨rfl, rfl⟩) | (go_at_call 12; (refine (W.out _).mono ?_); rintro e w' ⟨rfl, hb⟩))
  go_ret
  exact ⟨rfl, hb⟩
end Go.Proofs.Ytmgnnkampdepeaa
