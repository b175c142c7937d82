/- The document's own losses of numbers, what is used of them, the room: a contract for each. -/
import Derived.Test.YtmeljcogoeghaaaRVint5
import Derived.Test.YtmeljcogoeghaaaUsMath
import Derived.Test.YtmeljcogoeghaaaInts
import Derived.Test.YtmeljcogoeghaaaPlay
import Derived.Test.YtmeljcogoeghaaaRef01
import Derived.WalkKit
import Derived.WalkSpells
import Derived.WalkLawsBesides
import Derived.Lib.Hide
import Derived.IntWalk
import Derived.Deep.LoopGhost
import Derived.Deep.RegionHeld3
namespace Go.Proofs.Ytmeljcogoeghaaa
open Go.RowKit

theorem nladd_some {w0 w : World} {O : Nat → Nat} {t sb : Nat} {S : Int → Int → Int} (h : NowL w0 w O t sb S) (ht : t ≠ 0) (c y a : Int) :
    Calls Try.prog 39 #[ptr sb, .int .i64 y, .int .i64 c, .int .i64 a] w fun e' w' => ∃ e S' O', e' = .returned (.int .i64 e) ∧ NowL w0 w' O' t sb S' ∧ Step w0.heap.size O t w O' w' := by
  obtain ⟨n, g, iv⟩ := h.told
  obtain ⟨e, he⟩ := aerr_any S n (btot g n) c y a
  refine (nladd h ht iv.is c y a e he).mono ?_
  rintro e' w' ⟨rfl, O', h', st⟩
  exact ⟨e, _, O', rfl, h', st⟩
/-- any number, as an amount: which one does not hang on the world -/
theorem amount_fn (n : Int) : ∃ y : Int, ((-9223372036854775808 ≤ n ∧ n ≤ 9223372036854775807) → -9223372036854775808 ≤ y ∧ y ≤ 9223372036854775807) ∧ ∀ w : World, Calls Try.prog 18 #[.int .i64 n] w fun e w' => e = .returned (.int .i64 y) ∧ w = w' := by
  obtain ⟨x1, hx1⟩ : ∃ x, wrap64 (n.tdiv 23) % 5 = x := ⟨_, rfl⟩
  obtain ⟨x2, hx2⟩ : ∃ x, wrap64 (n.tdiv 23) % 200000000001 = x := ⟨_, rfl⟩
  obtain ⟨x3, hx3⟩ : ∃ x, n % 4001 = x := ⟨_, rfl⟩
  have H1 := Lib.hid hx1
  have H2 := Lib.hid hx2
  have H3 := Lib.hid hx3
  have b1 : 0 ≤ x1 ∧ x1 < 5 := by omega
  have b2 : 0 ≤ x2 ∧ x2 < 200000000001 := by omega
  have b3 : 0 ≤ x3 ∧ x3 < 4001 := by omega
  clear hx1 hx2 hx3
  by_cases q20 : n.tmod 23 = 20
  · refine ⟨100000000000 - x1 + 2, fun _ => by omega, fun w => ?_⟩
    go_enter Try.func18, Try.ntmps18
    go_wp2_with (first | (go_at_call 7; (with_reducible refine (within_at _ _ _ _ (by omega) (by omega) H1).mono ?_); rintro e w' ⟨rfl, rfl⟩))
    go_ret
    exact ⟨ret_i (by first | rfl | omega), rfl⟩
  · by_cases q21 : n.tmod 23 = 21
    · refine ⟨-100000000000 + x1 - 2, fun _ => by omega, fun w => ?_⟩
      go_enter Try.func18, Try.ntmps18
      go_wp2_with (first | (go_at_call 7; (with_reducible refine (within_at _ _ _ _ (by omega) (by omega) H1).mono ?_); rintro e w' ⟨rfl, rfl⟩))
      go_ret
      exact ⟨ret_i (by first | rfl | omega), rfl⟩
    · by_cases q22 : n.tmod 23 = 22
      · refine ⟨n, fun _ => by omega, fun w => ?_⟩
        go_enter Try.func18, Try.ntmps18
        go_wp2
        go_ret
        exact ⟨ret_i (by first | rfl | omega), rfl⟩
      · by_cases q19 : n.tmod 23 = 19
        · refine ⟨x2 - 100000000000, fun _ => by omega, fun w => ?_⟩
          go_enter Try.func18, Try.ntmps18
          go_wp2_with (first | (go_at_call 7; (with_reducible refine (within_at _ _ _ _ (by omega) (by omega) H2).mono ?_); rintro e w' ⟨rfl, rfl⟩))
          go_ret
          exact ⟨ret_i (by first | rfl | omega), rfl⟩
        · refine ⟨x3 - 2000, fun _ => by omega, fun w => ?_⟩
          go_enter Try.func18, Try.ntmps18
          go_wp2_with (first | (go_at_call 7; (with_reducible refine (within_at _ _ _ _ (by omega) (by omega) H3).mono ?_); rintro e w' ⟨rfl, rfl⟩))
          go_ret
          exact ⟨ret_i (by first | rfl | omega), rfl⟩
set_option maxHeartbeats 4000000 in
set_option maxRecDepth 100000 in
/-- some losses -/
theorem plosses_some (A : Option Addr) (n c : Nat) (zs : List Int) (w : World) (h : IsRow .i64 w A n c zs) :
    Calls Try.prog 16 #[.slice A n c] w fun e w' => ∃ sb S O', e = .returned (ptr sb) ∧ NowL w w' O' 2 sb S := by
  have HR := Lib.hid h.at.1
  obtain ⟨f, hf⟩ : ∃ f : Nat → Int, (fun j => zs.getD j 0) = f := ⟨_, rfl⟩
  rw [hf] at HR
  clear h hf
  go_enter Try.func16, Try.ntmps16
  go_wp2
  obtain ⟨nw, _⟩ := nowl_new w w (fun _ => 0) (Fin0.zero _ _) (Below.refl _ _) 54 2
  have N0 := Lib.hid nw
  clear nw
  go_loopg [4] 8 (fun gh i wr => ∃ (k : Nat) (S : Int → Int → Int) (O : Nat → Nat), k ≤ 8 ∧ gh = 8 - k ∧ i = .int .i64 k ∧ NowL w wr O 2 w.heap.size S)
  case atStart => exact ⟨0, _, _, by omega, rfl, rfl, N0.out⟩
  case round =>
    obtain ⟨k, S, O, hk, hgk, rfl, hn1⟩ := hrel
    have HGK := Lib.hid hgk
    have N1 := Lib.hid hn1
    clear hgk hn1 N0
    by_cases hlt : k < n ∧ k < 8
    · obtain ⟨l0, l1⟩ := hlt
      obtain ⟨b, off, rfl, hb, hc⟩ := HR.out.some (by omega)
      have low := N1.out.low
      have c0 := cell_keep (hc k l0) low
      obtain ⟨z, hz⟩ : ∃ z, f k = z := ⟨_, rfl⟩
      rw [hz] at c0
      have k0 : (0 : Int) ≤ (k : Int) := by omega
      have k1 : (k : Int) < (n : Int) := by omega
      obtain ⟨y, _, hya⟩ := amount_fn (IntKind.i64.wrap (z.tdiv 25))
      have AM := Lib.hid hya
      have CL := Lib.hid fun (x y a : Int) => nladd_some (N1.out.below (below_drew wr)) (by decide) x y a
      have HC := Lib.hid (show w.cell? ⟨b, off + k, none⟩ = some (.int .i64 z) by rw [← hz]; exact hc k l0)
      clear hc hz low hya
      go_wp2_with (go_at_call 7; (with_reducible refine (within_some _ _ _ (by omega) (by omega)).mono ?_); rintro e w' ⟨x, x1, x2, rfl, rfl⟩)
      rcases (show (1 : Int) > y ∨ ¬ (1 : Int) > y by omega) with hy1 | hy1
      all_goals
       go_region_held3 (fun w' => w'.cell? ⟨b, off + k, none⟩ = some (.int .i64 z)) (first | go_keep) (first | (go_at_call 7; (with_reducible refine (within_some _ _ _ (by omega) (by omega)).mono ?_); rintro e w' ⟨x', x1', x2', rfl, rfl⟩) | (go_at_call 18; (with_reducible refine (AM.out _).mono ?_); rintro e w' ⟨rfl, rfl⟩) | (go_at_call 39; (refine (CL.out _ _ _).mono ?_); rintro e w5 ⟨q5, S5, O5, rfl, hn5, _⟩; have d1 := cell_keep HC.out hn5.low; have N5 := Lib.hid hn5; clear hn5))
       go_wp2
       go_roundg (8 - (k + 1))
       case measure => have := HGK.out; omega
       case rel => exact ⟨k + 1, _, _, by omega, rfl, by go_num, N5.out⟩
    · rcases (show ¬ k < n ∨ (k < n ∧ ¬ k < 8) by omega) with hq | ⟨hq1, hq⟩
      all_goals
        clear hlt
        go_wp2
        go_ret
        exact ⟨_, S, O, rfl, N1.out⟩
set_option maxHeartbeats 4000000 in
/-- what is used, by the document -/
theorem rvec (A : Option Addr) (n c : Nat) (g : Nat → Bk) (year room : Int) (w : World) (hr : AtR ve 3 w A n g) (hn : n ≤ 1000) (pos : ∀ j, j < n → 0 ≤ (g j).a ∧ (g j).a ≤ 100000000000) (hroom : -9223372036854775808 ≤ room ∧ room ≤ 9223372036854775807) :
    Calls Try.prog 45 #[.slice A n c, .int .i64 year, .int .i64 room] w fun e w' => ∃ v, e = .returned v ∧ Own w' 3 w.heap.size v n (usU g year room) ∧ Below w.heap.size w w' := by
  obtain ⟨i0, hi, hz0, hz1, hz2⟩ := info_parts int_info
  have HR := Lib.hid hr
  have HP := Lib.hid pos
  have HM := Lib.hid hroom
  clear hr pos hroom
  go_enter Try.func45, Try.ntmps45
  go_wp2
  go_loopg [2, 7, 13] n (fun gh s2 s7 i wr => ∃ (k : Nat) (f : Nat → Int), k ≤ n ∧ gh = n - k ∧ i = .int .i64 k ∧ s2 = .int .i64 (room - tot (usU g year room) k) ∧ (∀ j, j < k → f j = usU g year room j) ∧ Own wr 3 w.heap.size s7 k f ∧ Below w.heap.size w wr)
  case atStart => exact ⟨0, fun _ => 0, Nat.zero_le _, rfl, rfl, by show Value.int .i64 room = .int .i64 (room - 0); rw [Int.sub_zero], fun j hj => by omega, Own.nil _ _ _ _, Below.refl _ _⟩
  case round =>
    obtain ⟨k, f, hk, hgk, rfl, rfl, hf, ho, hbw⟩ := hrel
    have HGK := Lib.hid hgk
    have HW := Lib.hid hbw
    have HO := Lib.hid ho
    have HF := Lib.hid hf
    have hz := hbw.size
    clear hgk hbw ho hf
    by_cases hlt : k < n
    · obtain ⟨b, off, rfl, hb, c0, c1, c2⟩ := (HR.out.below HW.out).threeV hlt
      have hs := us_step (year := year) (room := room) (fun j hj => (HP.out j hj).1) hlt
      have hr1 := us_room (year := year) (room := room) (fun j hj => (HP.out j hj).1) (show k ≤ n by omega)
      have hp := HP.out k hlt
      have hm := HM.out
      have et : tot (usU g year room) (k + 1) = tot (usU g year room) k + usU g year room k := rfl
      obtain ⟨r, hr0⟩ : ∃ r, room - tot (usU g year room) k = r := ⟨_, rfl⟩
      obtain ⟨u, hu0⟩ : ∃ u, usU g year room k = u := ⟨_, rfl⟩
      obtain ⟨x, hx0⟩ : ∃ x, (g k).a = x := ⟨_, rfl⟩
      rw [hr0, hu0, hx0] at hs
      rw [hu0] at et
      rw [hr0]
      rw [hx0] at hp c2
      have rb : Hid (-9223372036854775808 ≤ r ∧ r ≤ 9223372036854775807) := Lib.hid (by omega)
      have ub : 0 ≤ u ∧ u ≤ max r 0 := by split at hs <;> omega
      have EW : Hid (wrap64 (r - u) = room - tot (usU g year room) (k + 1)) := Lib.hid (by rw [et, ← hr0]; have := rb.out; unfold wrap64; omega)
      have HU0 := Lib.hid hu0
      have HUT : Hid (∀ f' : Nat → Int, (∀ j, j < k → f' j = f j) → f' k = u → ∀ j, j < k + 1 → f' j = usU g year room j) := Lib.hid fun f' h1 h2 j hj => by
        by_cases e : j = k
        · rw [e, h2, HU0.out]
        · rw [h1 j (by omega)]; exact HF.out j (by omega)
      have ways : (decide (year ≤ (g k).c) = false ∧ u = 0) ∨ (decide (year ≤ (g k).c) = true ∧ ((r < 0 ∧ 0 < x ∧ u = 0) ∨ (r < 0 ∧ ¬ 0 < x ∧ u = x) ∨ (¬ r < 0 ∧ r < x ∧ u = r) ∨ (¬ r < 0 ∧ ¬ r < x ∧ u = x))) := by
        by_cases hy : (g k).c < year
        · rw [if_pos hy] at hs
          exact .inl ⟨by simpa using hy, hs⟩
        · rw [if_neg hy] at hs
          exact .inr ⟨by simpa using hy, by omega⟩
      clear hs hr1 hp hm et hr0 hx0 hu0 ub
      rcases ways with ⟨hy, rfl⟩ | ⟨hy, ⟨q1, q2, rfl⟩ | ⟨q1, q2, rfl⟩ | ⟨q1, q2, rfl⟩ | ⟨q1, q2, rfl⟩⟩
      · go_wp2_with (at_builtin; (refine wpList_push_int rfl (.tmp 26) (.tmp 28) rfl Try.underlying23 hi hz0 hz1 hz2 w w.heap.size k (wr.heap.size + 1) _ f 0 rfl rfl (by simp) ((HO.out.alloc _).alloc _) (by omega) ((HW.out.alloc hz _).alloc (by simp; omega) _) (by simp; omega) _ rfl ?_; intro b2 c3 w6 ho2 hb2 hg2 hat2; have HO2 := Lib.hid ho2; have HW2 := Lib.hid hb2; clear ho2 hb2 hg2 hat2))
        go_roundg (n - (k + 1))
        case measure => have := HGK.out; omega
        case rel => exact ⟨k + 1, _, by omega, rfl, by go_num, (by rw [← EW.out]; try (refine congrArg _ ?_; unfold wrap64; omega)), HUT.out (fun j => if j = k then 0 else f j) (fun j hj => if_neg (by omega)) (if_pos rfl), HO2.out, HW2.out⟩
      · go_wp2_with (at_builtin; (refine wpList_push_int rfl (.tmp 26) (.tmp 28) rfl Try.underlying23 hi hz0 hz1 hz2 w w.heap.size k (wr.heap.size + 1) _ f 0 rfl rfl (by simp) ((HO.out.alloc _).alloc _) (by omega) ((HW.out.alloc hz _).alloc (by simp; omega) _) (by simp; omega) _ rfl ?_; intro b2 c3 w6 ho2 hb2 hg2 hat2; have HO2 := Lib.hid ho2; have HW2 := Lib.hid hb2; clear ho2 hb2 hg2 hat2))
        go_roundg (n - (k + 1))
        case measure => have := HGK.out; omega
        case rel => exact ⟨k + 1, _, by omega, rfl, by go_num, (by rw [← EW.out]; try (refine congrArg _ ?_; unfold wrap64; omega)), HUT.out (fun j => if j = k then 0 else f j) (fun j hj => if_neg (by omega)) (if_pos rfl), HO2.out, HW2.out⟩
      · go_wp2_with (at_builtin; (refine wpList_push_int rfl (.tmp 26) (.tmp 28) rfl Try.underlying23 hi hz0 hz1 hz2 w w.heap.size k (wr.heap.size + 1) _ f u rfl rfl (by simp) ((HO.out.alloc _).alloc _) (by omega) ((HW.out.alloc hz _).alloc (by simp; omega) _) (by simp; omega) _ rfl ?_; intro b2 c3 w6 ho2 hb2 hg2 hat2; have HO2 := Lib.hid ho2; have HW2 := Lib.hid hb2; clear ho2 hb2 hg2 hat2))
        go_roundg (n - (k + 1))
        case measure => have := HGK.out; omega
        case rel => exact ⟨k + 1, _, by omega, rfl, by go_num, (by rw [← EW.out]; try (refine congrArg _ ?_; unfold wrap64; omega)), HUT.out (fun j => if j = k then u else f j) (fun j hj => if_neg (by omega)) (if_pos rfl), HO2.out, HW2.out⟩
      · go_wp2_with (at_builtin; (refine wpList_push_int rfl (.tmp 26) (.tmp 28) rfl Try.underlying23 hi hz0 hz1 hz2 w w.heap.size k (wr.heap.size + 1) _ f u rfl rfl (by simp) ((HO.out.alloc _).alloc _) (by omega) ((HW.out.alloc hz _).alloc (by simp; omega) _) (by simp; omega) _ rfl ?_; intro b2 c3 w6 ho2 hb2 hg2 hat2; have HO2 := Lib.hid ho2; have HW2 := Lib.hid hb2; clear ho2 hb2 hg2 hat2))
        go_roundg (n - (k + 1))
        case measure => have := HGK.out; omega
        case rel => exact ⟨k + 1, _, by omega, rfl, by go_num, (by rw [← EW.out]; try (refine congrArg _ ?_; unfold wrap64; omega)), HUT.out (fun j => if j = k then u else f j) (fun j hj => if_neg (by omega)) (if_pos rfl), HO2.out, HW2.out⟩
      · go_wp2_with (at_builtin; (refine wpList_push_int rfl (.tmp 26) (.tmp 28) rfl Try.underlying23 hi hz0 hz1 hz2 w w.heap.size k (wr.heap.size + 1) _ f u rfl rfl (by simp) ((HO.out.alloc _).alloc _) (by omega) ((HW.out.alloc hz _).alloc (by simp; omega) _) (by simp; omega) _ rfl ?_; intro b2 c3 w6 ho2 hb2 hg2 hat2; have HO2 := Lib.hid ho2; have HW2 := Lib.hid hb2; clear ho2 hb2 hg2 hat2))
        go_roundg (n - (k + 1))
        case measure => have := HGK.out; omega
        case rel => exact ⟨k + 1, _, by omega, rfl, by go_num, (by rw [← EW.out]; try (refine congrArg _ ?_; unfold wrap64; omega)), HUT.out (fun j => if j = k then u else f j) (fun j hj => if_neg (by omega)) (if_pos rfl), HO2.out, HW2.out⟩
    · obtain rfl : k = n := by omega
      clear hlt
      obtain ⟨A7, c7, rfl, _, _⟩ := HO.out.form
      go_wp2
      go_ret
      exact ⟨_, rfl, HO.out.ext HF.out, HW.out⟩
theorem rroom (income cap : Int) (w : World) :
    Calls Try.prog 46 #[.int .i64 income, .int .i64 cap] w fun e w' => e = .returned (.int .i64 (floorV income cap)) ∧ w = w' := by
  go_enter Try.func46, Try.ntmps46
  go_wp2_with (go_at_call 63; (with_reducible refine (rfloor_v _ _ _).mono ?_); rintro e w' ⟨rfl, rfl⟩)
  go_ret
  exact ⟨rfl, rfl⟩
end Go.Proofs.Ytmeljcogoeghaaa
