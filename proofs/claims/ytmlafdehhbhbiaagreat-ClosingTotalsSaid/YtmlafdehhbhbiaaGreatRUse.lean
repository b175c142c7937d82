/- The document's own losses of numbers, what is used of them, the room: a contract for each. -/
import Derived.Test.YtmlafdehhbhbiaaGreatM3
import Derived.Test.YtmlafdehhbhbiaaGreatUsMath
import Derived.Test.YtmlafdehhbhbiaaGreatM1
import Derived.Test.YtmlafdehhbhbiaaGreatM6
import Derived.WalkKit
import Derived.WalkSpells
import Derived.WalkLawsBesides
import Derived.Lib.Hide
import Derived.IntWalk
import Derived.Deep.LoopGhost
import Derived.Deep.RegionHeld3
namespace Go.Proofs.YtmlafdehhbhbiaaGreat
open Go.RowKit
set_option maxHeartbeats 4000000 in
theorem rvec (A : Option Addr) (n c : Nat) (g : Nat → Bk) (year room : Int) (w : World) (hr : AtR ve 3 w A n g) (hn : n ≤ 1000) (pos : ∀ j, j < n → 0 ≤ (g j).a ∧ (g j).a ≤ 100000000000) (hroom : -9223372036854775808 ≤ room ∧ room ≤ 9223372036854775807) :
   Calls Tryz.prog 114 #[.slice A n c, .int .i64 year, .int .i64 room] w fun e w' => ∃ v, e = .returned v ∧ Own w' 3 w.heap.size v n (usU g year room) ∧ Below w.heap.size w w' := by
 obtain ⟨i0, hi, hz0, hz1, hz2⟩ := info_parts int_info
 have HR := Lib.hid hr
 have HP := Lib.hid pos
 have HM := Lib.hid hroom
 clear hr pos hroom
 go_enter Tryz.func114, Tryz.ntmps114
 go_wp2
 go_loopg [2, 7, 13] n (fun gh s2 s7 i wr => ∃ (k : Nat) (f : Nat → Int), k ≤ n ∧ gh = n - k ∧ i = .int .i64 k ∧ s2 = .int .i64 (room - tot (usU g year room) k) ∧ (∀ j, j < k → f j = usU g year room j) ∧ Own wr 3 w.heap.size s7 k f ∧ Below w.heap.size w wr)
 case atStart => exact ⟨0, fun _ => 0, Nat.zero_le _, rfl, rfl, by show Value.int .i64 room = .int .i64 (room - 0); rw [Int.sub_zero], fun j hj => by omega, Own.nil _ _ _ _, Below.refl _ _⟩
 case round =>
   obtain ⟨k, f, hk, hgk, rfl, rfl, hf, ho, hbw⟩ := hrel
   have HGK := Lib.hid hgk
   have HW := Lib.hid hbw
   have HO := Lib.hid ho
   have HF := Lib.hid hf
   have hz := hbw.size
   clear hgk hbw ho hf
   by_cases hlt : k < n
   · obtain ⟨b, off, rfl, hb, c0, c1, c2⟩ := (HR.out.below HW.out).threeV hlt
     have hs := us_step (year := year) (room := room) (fun j hj => (HP.out j hj).1) hlt
     have hr1 := us_room (year := year) (room := room) (fun j hj => (HP.out j hj).1) (show k ≤ n by omega)
     have hp := HP.out k hlt
     have hm := HM.out
     have et : tot (usU g year room) (k + 1) = tot (usU g year room) k + usU g year room k := rfl
     obtain ⟨r, hr0⟩ : ∃ r, room - tot (usU g year room) k = r := ⟨_, rfl⟩
     obtain ⟨u, hu0⟩ : ∃ u, usU g year room k = u := ⟨_, rfl⟩
     obtain ⟨x, hx0⟩ : ∃ x, (g k).a = x := ⟨_, rfl⟩
     rw [hr0, hu0, hx0] at hs
     rw [hu0] at et
     rw [hr0]
     rw [hx0] at hp c2
     have rb : Hid (-9223372036854775808 ≤ r ∧ r ≤ 9223372036854775807) := Lib.hid (by omega)
     have ub : 0 ≤ u ∧ u ≤ max r 0 := by split at hs <;> omega
     have EW : Hid (wrap64 (r - u) = room - tot (usU g year room) (k + 1)) := Lib.hid (by rw [et, ← hr0]; have := rb.out; unfold wrap64; omega)
     have HU0 := Lib.hid hu0
     have HUT : Hid (∀ f' : Nat → Int, (∀ j, j < k → f' j = f j) → f' k = u → ∀ j, j < k + 1 → f' j = usU g year room j) := Lib.hid fun f' h1 h2 j hj => by
       by_cases e : j = k
       · rw [e, h2, HU0.out]
       · rw [h1 j (by omega)]; exact HF.out j (by omega)
     have ways : (decide (year ≤ (g k).c) = false ∧ u = 0) ∨ (decide (year ≤ (g k).c) = true ∧ ((r < 0 ∧ 0 < x ∧ u = 0) ∨ (r < 0 ∧ ¬ 0 < x ∧ u = x) ∨ (¬ r < 0 ∧ r < x ∧ u = r) ∨ (¬ r < 0 ∧ ¬ r < x ∧ u = x))) := by
       by_cases hy : (g k).c < year
       · rw [if_pos hy] at hs
         exact .inl ⟨by simpa using hy, hs⟩
       · rw [if_neg hy] at hs
         exact .inr ⟨by simpa using hy, by omega⟩
     clear hs hr1 hp hm et hr0 hx0 hu0 ub
     rcases ways with ⟨hy, rfl⟩ | ⟨hy, ⟨q1, q2, rfl⟩ | ⟨q1, q2, rfl⟩ | ⟨q1, q2, rfl⟩ | ⟨q1, q2, rfl⟩⟩
     · go_wp2_with (at_builtin; (refine wpList_push_int rfl (.tmp 26) (.tmp 28) rfl Tryz.underlying33 hi hz0 hz1 hz2 w w.heap.size k (wr.heap.size + 1) _ f 0 rfl rfl (by simp) ((HO.out.alloc _).alloc _) (by omega) ((HW.out.alloc hz _).alloc (by simp; omega) _) (by simp; omega) _ rfl ?_; intro b2 c3 w6 ho2 hb2 hg2 hat2; have HO2 := Lib.hid ho2; have HW2 := Lib.hid hb2; clear ho2 hb2 hg2 hat2))
       go_roundg (n - (k + 1))
       case measure => have := HGK.out; omega
       case rel => exact ⟨k + 1, _, by omega, rfl, by go_num, (by rw [← EW.out]; try (refine congrArg _ ?_; unfold wrap64; omega)), HUT.out (fun j => if j = k then 0 else f j) (fun j hj => if_neg (by omega)) (if_pos rfl), HO2.out, HW2.out⟩
     · go_wp2_with (at_builtin; (refine wpList_push_int rfl (.tmp 26) (.tmp 28) rfl Tryz.underlying33 hi hz0 hz1 hz2 w w.heap.size k (wr.heap.size + 1) _ f 0 rfl rfl (by simp) ((HO.out.alloc _).alloc _) (by omega) ((HW.out.alloc hz _).alloc (by simp; omega) _) (by simp; omega) _ rfl ?_; intro b2 c3 w6 ho2 hb2 hg2 hat2; have HO2 := Lib.hid ho2; have HW2 := Lib.hid hb2; clear ho2 hb2 hg2 hat2))
       go_roundg (n - (k + 1))
       case measure => have := HGK.out; omega
       case rel => exact ⟨k + 1, _, by omega, rfl, by go_num, (by rw [← EW.out]; try (refine congrArg _ ?_; unfold wrap64; omega)), HUT.out (fun j => if j = k then 0 else f j) (fun j hj => if_neg (by omega)) (if_pos rfl), HO2.out, HW2.out⟩
     · go_wp2_with (at_builtin; (refine wpList_push_int rfl (.tmp 26) (.tmp 28) rfl Tryz.underlying33 hi hz0 hz1 hz2 w w.heap.size k (wr.heap.size + 1) _ f u rfl rfl (by simp) ((HO.out.alloc _).alloc _) (by omega) ((HW.out.alloc hz _).alloc (by simp; omega) _) (by simp; omega) _ rfl ?_; intro b2 c3 w6 ho2 hb2 hg2 hat2; have HO2 := Lib.hid ho2; have HW2 := Lib.hid hb2; clear ho2 hb2 hg2 hat2))
       go_roundg (n - (k + 1))
       case measure => have := HGK.out; omega
       case rel => exact ⟨k + 1, _, by omega, rfl, by go_num, (by rw [← EW.out]; try (refine congrArg _ ?_; unfold wrap64; omega)), HUT.out (fun j => if j = k then u else f j) (fun j hj => if_neg (by omega)) (if_pos rfl), HO2.out, HW2.out⟩
     · go_wp2_with (at_builtin; (refine wpList_push_int rfl (.tmp 26) (.tmp 28) rfl Tryz.underlying33 hi hz0 hz1 hz2 w w.heap.size k (wr.heap.size + 1) _ f u rfl rfl (by simp) ((HO.out.alloc _).alloc _) (by omega) ((HW.out.alloc hz _).alloc (by simp; omega) _) (by simp; omega) _ rfl ?_; intro b2 c3 w6 ho2 hb2 hg2 hat2; have HO2 := Lib.hid ho2; have HW2 := Lib.hid hb2; clear ho2 hb2 hg2 hat2))
       go_roundg (n - (k + 1))
       case measure => have := HGK.out; omega
       case rel => exact ⟨k + 1, _, by omega, rfl, by go_num, (by rw [← EW.out]; try (refine congrArg _ ?_; unfold wrap64; omega)), HUT.out (fun j => if j = k then u else f j) (fun j hj => if_neg (by omega)) (if_pos rfl), HO2.out, HW2.out⟩
     · go_wp2_with (at_builtin; (refine wpList_push_int rfl (.tmp 26) (.tmp 28) rfl Tryz.underlying33 hi hz0 hz1 hz2 w w.heap.size k (wr.heap.size + 1) _ f u rfl rfl (by simp) ((HO.out.alloc _).alloc _) (by omega) ((HW.out.alloc hz _).alloc (by simp; omega) _) (by simp; omega) _ rfl ?_; intro b2 c3 w6 ho2 hb2 hg2 hat2; have HO2 := Lib.hid ho2; have HW2 := Lib.hid hb2; clear ho2 hb2 hg2 hat2))
       go_roundg (n - (k + 1))
       case measure => have := HGK.out; omega
       case rel => exact ⟨k + 1, _, by omega, rfl, by go_num, (by rw [← EW.out]; try (refine congrArg _ ?_; unfold wrap64; omega)), HUT.out (fun j => if j = k then u else f j) (fun j hj => if_neg (by omega)) (if_pos rfl), HO2.out, HW2.out⟩
   · obtain rfl : k = n := by omega
     clear hlt
     obtain ⟨A7, c7, rfl, _, _⟩ := HO.out.form
     go_wp2
     go_ret
     exact ⟨_, rfl, HO.out.ext HF.out, HW.out⟩
theorem rroom (income cap : Int) (w : World) :
   Calls Tryz.prog 115 #[.int .i64 income, .int .i64 cap] w fun e w' => e = .returned (.int .i64 (floorV income cap)) ∧ w = w' := by
 go_enter Tryz.func115, Tryz.ntmps115
 go_wp2_with (go_at_call 144; (with_reducible refine (rfloor_v _ _ _).mono ?_); rintro e w' ⟨rfl, rfl⟩)
 go_ret
 exact ⟨rfl, rfl⟩
end Go.Proofs.YtmlafdehhbhbiaaGreat
