/- Several texts of mine in one: Sums SumLoop RowMem Ref01. -/
import Derived.Test.YtmlafdehhbhbiaaM1
import Derived.WalkKit
import Derived.WalkSpells
import Derived.WalkLawsBesides
import Derived.Lib.Hide
import Derived.Laws.Externs
import Derived.Deep.QuietTactic
import Derived.BigQuiet
/- Package rate's sums, in 128 bits: a contract for each of their functions, where the total fits 63 bits. -/
namespace Go.Proofs.Ytmlafdehhbhbiaa
open Go.RowKit

/-- a number's upper and lower half, in two's complement of 128 bits -/
def hiOf (t : Int) : Int := if t < 0 then 18446744073709551615 else 0
def loOf (t : Int) : Int := t % 18446744073709551616

theorem add64_run (x y c : Int) (w : World) (hx : 0 ≤ x) (hy : 0 ≤ y) (hc0 : 0 ≤ c) (hc : c ≤ 1) :
    (callFunc 86 #[.int .u64 x, .int .u64 y, .int .u64 c]).run Try.prog w =
      .ok (.value (.tuple #[.int .u64 ((x + y + c) % 18446744073709551616), .int .u64 ((x + y + c) / 18446744073709551616)])) w := by
  rw [run_callFunc_extern Try.func86 (by kernel_rfl) (by kernel_rfl) (by kernel_rfl) (e := add64Entry) (by kernel_rfl), run_add64 x y c hx hy hc0 hc]
  rfl

theorem signs_any (n : Int) (w : World) (h1 : -4611686018427387904 ≤ n) (h2 : n ≤ 4611686018427387904) :
    Calls Try.prog 87 #[.int .i64 n] w fun e w' => e = .returned (.int .u64 (hiOf n)) ∧ w = w' := by
  by_cases h : n < 0
  all_goals
    go_enter Try.func87, Try.ntmps87
    go_wp2
    go_ret
    exact ⟨ret_i (by first | (rw [IntKind.wrap_u64]; unfold hiOf; split <;> omega) | (unfold hiOf; split <;> omega)), rfl⟩

theorem plus_hi (t n : Int) (h1 : -4611686018427387904 ≤ t) (h2 : t ≤ 4611686018427387904) (h3 : -4611686018427387904 ≤ n) (h4 : n ≤ 4611686018427387904) :
    (hiOf t + hiOf n + (loOf t + n % 18446744073709551616 + 0) / 18446744073709551616) % 18446744073709551616 = hiOf (t + n) := by
  unfold hiOf loOf; split <;> split <;> split <;> omega
theorem plus_lo (t n : Int) : (loOf t + n % 18446744073709551616 + 0) % 18446744073709551616 = loOf (t + n) := by
  unfold loOf; omega
theorem carry_bd (t n : Int) : 0 ≤ (loOf t + n % 18446744073709551616 + 0) / 18446744073709551616 ∧ (loOf t + n % 18446744073709551616 + 0) / 18446744073709551616 ≤ 1 := by
  unfold loOf; omega
theorem hi_bd (t : Int) : 0 ≤ hiOf t ∧ hiOf t ≤ 18446744073709551615 := by unfold hiOf; split <;> omega
theorem lo_bd (t : Int) : 0 ≤ loOf t ∧ loOf t ≤ 18446744073709551615 := by unfold loOf; omega

set_option maxHeartbeats 400000 in
theorem plus_any (t n : Int) (w : World) (h1 : -2305843009213693952 ≤ t) (h2 : t ≤ 2305843009213693952) (h3 : -2305843009213693952 ≤ n) (h4 : n ≤ 2305843009213693952) :
    Calls Try.prog 77 #[.agg #[.int .u64 (hiOf t), .int .u64 (loOf t)], .int .i64 n] w fun e w' =>
      e = .returned (.agg #[.int .u64 (hiOf (t + n)), .int .u64 (loOf (t + n))]) ∧ Below w.heap.size w w' := by
  obtain ⟨hb1, hb2⟩ := hi_bd t
  obtain ⟨lb1, lb2⟩ := lo_bd t
  obtain ⟨cb1, cb2⟩ := carry_bd t n
  obtain ⟨hn1, hn2⟩ := hi_bd n
  obtain ⟨r1, r2⟩ := hi_bd (t + n)
  obtain ⟨r3, r4⟩ := lo_bd (t + n)
  have hw : IntKind.u64.wrap n = n % 18446744073709551616 := IntKind.wrap_u64 n
  have W0 : 0 ≤ IntKind.u64.wrap n := by rw [hw]; omega
  have e1 : ∀ w, (callFunc 86 #[.int .u64 (loOf t), .int .u64 (IntKind.u64.wrap n), .int .u64 0]).run Try.prog w =
      .ok (.value (.tuple #[.int .u64 (loOf (t + n)), .int .u64 ((loOf t + n % 18446744073709551616 + 0) / 18446744073709551616)])) w := fun w => by
    rw [add64_run _ _ _ w lb1 W0 (by omega) (by omega), hw, plus_lo]
  generalize hc : (loOf t + n % 18446744073709551616 + 0) / 18446744073709551616 = c at *
  have e2 : ∀ w, (callFunc 86 #[.int .u64 (hiOf t), .int .u64 (hiOf n), .int .u64 c]).run Try.prog w =
      .ok (.value (.tuple #[.int .u64 (hiOf (t + n)), .int .u64 ((hiOf t + hiOf n + c) / 18446744073709551616)])) w := fun w => by
    rw [add64_run _ _ _ w hb1 hn1 cb1 cb2, ← hc, plus_hi _ _ (by omega) (by omega) (by omega) (by omega)]
  clear hc hw W0
  go_enter Try.func77, Try.ntmps77
  go_wp2
  go_quiet ((go_at_call 87; exact quiet_same (signs_any _ _ (by omega) (by omega))))
  go_wp2
  exact bodyPost_ret (v := .agg #[.int .u64 (hiOf (t + n)), .int .u64 (loOf (t + n))]) (by simp [results, Try.results77, go_sem]) rfl ⟨rfl, ((below_drewN (((Below.refl _ _).alloc (Nat.le_refl _) _).alloc (by simp) _) nq).setCell (by simp) _).setCell (by simp) _⟩

theorem lo_back (t : Int) (h1 : -4611686018427387904 ≤ t) (h2 : t ≤ 4611686018427387904) : wrap64 (loOf t) = t := by
  simp only [wrap64, loOf]; omega

set_option maxHeartbeats 400000 in
theorem total_yes (t : Int) (w : World) (h1 : -100000000000 ≤ t) (h2 : t ≤ 100000000000) :
    Calls Try.prog 78 #[.agg #[.int .u64 (hiOf t), .int .u64 (loOf t)]] w fun e w' =>
      e = .returned (.tuple #[.int .i64 t, .bool true]) ∧ Below w.heap.size w w' := by
  obtain ⟨hb1, hb2⟩ := hi_bd t
  obtain ⟨lb1, lb2⟩ := lo_bd t
  have HW := Lib.hid (lo_back t (by omega) (by omega))
  have cs : ∀ w, Calls Try.prog 87 #[.int .i64 (wrap64 (loOf t))] w fun e w' => e = .returned (.int .u64 (hiOf t)) ∧ w = w' := fun w => by
    rw [HW.out]; exact signs_any _ _ (by omega) (by omega)
  have cm : ∀ w, Calls Try.prog 20 #[.int .i64 (wrap64 (loOf t))] w fun e w' => e = .returned (.bool true) ∧ w = w' := fun w => by
    rw [HW.out]; exact money_yes _ _ (by omega) (by omega)
  have CS := Lib.hid cs; clear cs
  have CM := Lib.hid cm; clear cm
  go_enter Try.func78, Try.ntmps78
  go_wp2
  go_quiet ((first | (go_at_call 87; exact quiet_same (CS.out _)) | (go_at_call 20; exact quiet_same (CM.out _))))
  go_wp2
  go_ret2
  exact ⟨ret_ib HW.out rfl, below_drewN ((Below.refl _ _).alloc (Nat.le_refl _) _) nq⟩

set_option maxHeartbeats 400000 in
theorem total_no (t : Int) (w : World) (h1 : -2305843009213693952 ≤ t) (h2 : t ≤ 2305843009213693952) (h3 : t < -100000000000 ∨ 100000000000 < t) :
    Calls Try.prog 78 #[.agg #[.int .u64 (hiOf t), .int .u64 (loOf t)]] w fun e w' =>
      e = .returned (.tuple #[.int .i64 0, .bool false]) ∧ Below w.heap.size w w' := by
  obtain ⟨hb1, hb2⟩ := hi_bd t
  obtain ⟨lb1, lb2⟩ := lo_bd t
  have HW := Lib.hid (lo_back t (by omega) (by omega))
  have cs : ∀ w, Calls Try.prog 87 #[.int .i64 (wrap64 (loOf t))] w fun e w' => e = .returned (.int .u64 (hiOf t)) ∧ w = w' := fun w => by
    rw [HW.out]; exact signs_any _ _ (by omega) (by omega)
  have cm : ∀ w, Calls Try.prog 20 #[.int .i64 (wrap64 (loOf t))] w fun e w' => e = .returned (.bool false) ∧ w = w' := fun w => by
    rw [HW.out]; exact money_no _ _ h3
  have CS := Lib.hid cs; clear cs
  have CM := Lib.hid cm; clear cm
  clear h3
  go_enter Try.func78, Try.ntmps78
  go_wp2
  go_quiet ((first | (go_at_call 87; exact quiet_same (CS.out _)) | (go_at_call 20; exact quiet_same (CM.out _))))
  go_wp2
  go_ret2
  exact ⟨rfl, below_drewN ((Below.refl _ _).alloc (Nat.le_refl _) _) nq⟩

/-- what a sum answers -/
def SumIs (g : Nat → Int) (n : Nat) (r : Int) (ok : Bool) : Prop :=
  (ok = true ∧ r = tot g n ∧ Mon (tot g n) ∧ ∀ j, j < n → Mon (g j)) ∨ (ok = false ∧ r = 0 ∧ ((∃ j, j < n ∧ ¬ Mon (g j)) ∨ ¬ Mon (tot g n)))
theorem SumIs.bad {g : Nat → Int} {n k : Nat} {r : Int} {ok : Bool} (h : SumIs g n r ok) (hk : k < n) (hb : ¬ Mon (g k)) : ok = false ∧ r = 0 := by
  rcases h with ⟨_, _, _, h⟩ | ⟨h1, h2, _⟩
  · exact absurd (h k hk) hb
  · exact ⟨h1, h2⟩
theorem SumIs.good {g : Nat → Int} {n : Nat} {r : Int} {ok : Bool} (h : SumIs g n r ok) (hg : ∀ j, j < n → Mon (g j)) (hm : Mon (tot g n)) : ok = true ∧ r = tot g n := by
  rcases h with ⟨h1, h2, _⟩ | ⟨_, _, ⟨j, hj, hb⟩ | hb⟩
  · exact ⟨h1, h2⟩
  · exact absurd (hg j hj) hb
  · exact absurd hm hb
theorem SumIs.big {g : Nat → Int} {n : Nat} {r : Int} {ok : Bool} (h : SumIs g n r ok) (hm : ¬ Mon (tot g n)) : ok = false ∧ r = 0 := by
  rcases h with ⟨_, _, h, _⟩ | ⟨h1, h2, _⟩
  · exact absurd h hm
  · exact ⟨h1, h2⟩

end Go.Proofs.Ytmlafdehhbhbiaa

/- Package rate's Sum: a contract, for lists of up to a million numbers. -/
namespace Go.Proofs.Ytmlafdehhbhbiaa
open Go.RowKit

set_option maxHeartbeats 1000000 in
theorem sum_none (A : Option Addr) (c : Nat) (w : World) :
    Calls Try.prog 61 #[.slice A 0 c] w fun e w' => e = .returned (.tuple #[.int .i64 0, .bool true]) ∧ Below w.heap.size w w' := by
  have H0 : Hid (hiOf 0 = 0 ∧ loOf 0 = 0) := Lib.hid (by decide)
  have ct : ∀ w, Calls Try.prog 78 #[.agg #[.int .u64 0, .int .u64 0]] w fun e w' => e = .returned (.tuple #[.int .i64 0, .bool true]) ∧ Below w.heap.size w w' := fun w => by
    have := total_yes 0 w (by omega) (by omega)
    rwa [H0.out.1, H0.out.2] at this
  have CT := Lib.hid ct; clear ct
  go_enter Try.func61, Try.ntmps61
  go_wp2
  refine wp_loop_rounds 1 ?_; rw [rounds_succ]
  go_wp2_with (go_at_call 78; refine (CT.out _).mono ?_; rintro e w1 ⟨rfl, hb⟩)
  go_ret2
  exact ⟨rfl, ((Below.refl _ _).alloc (Nat.le_refl _) _).trans (hb.mono (by simp))⟩

/-- at the head of a round: k numbers are summed, all amounts; their total stands in block s, in two halves -/
def SumAt (w : World) (s : Nat) (g : Nat → Int) (k : Nat) (wr : World) : Prop :=
  (∀ j, j < k → Mon (g j)) ∧ s < wr.heap.size ∧ wr.cell? ⟨s, 0, none⟩ = some (.int .u64 (hiOf (tot g k))) ∧ wr.cell? ⟨s, 1, none⟩ = some (.int .u64 (loOf (tot g k))) ∧
    wr.frozen? ⟨s, 0, none⟩ = false ∧ wr.frozen? ⟨s, 1, none⟩ = false ∧ Below s w wr
theorem SumAt.next {w w1 wr : World} {s k : Nat} {g : Nat → Int} {u v : Value} (hM : ∀ j, j < k → Mon (g j)) (hm : Mon (g k)) (hs : s < wr.heap.size) (hb1 : Below wr.heap.size wr w1)
    (d0 : w1.cell? ⟨s, 0, none⟩ = some u) (d1 : w1.cell? ⟨s, 1, none⟩ = some v) (d2 : w1.frozen? ⟨s, 0, none⟩ = false) (d3 : w1.frozen? ⟨s, 1, none⟩ = false) (hbw : Below s w wr) :
    SumAt w s g (k + 1) ((w1.setCell ⟨s, 0, none⟩ (.int .u64 (hiOf (tot g k + g k)))).setCell ⟨s, 1, none⟩ (.int .u64 (loOf (tot g k + g k)))) := by
  have d1' : (w1.setCell ⟨s, 0, none⟩ (.int .u64 (hiOf (tot g k + g k)))).cell? ⟨s, 1, none⟩ = some v := by
    rw [World.cell?_setCell_other _ _ _ _ (by simp)]; exact d1
  refine ⟨fun j hj => ?_, ?_, ?_, ?_, ?_, ?_, ?_⟩
  · rcases Nat.lt_or_ge j k with h | h
    · exact hM j h
    · rw [show j = k by omega]; exact hm
  · have := hb1.size; simp; omega
  · rw [World.cell?_setCell_other _ _ _ _ (by simp)]
    exact World.cell?_setCell_same _ _ _ d0
  · exact World.cell?_setCell_same _ _ _ d1'
  · simpa using d2
  · simpa using d3
  · exact ((hbw.trans (hb1.mono (by omega))).setCell (Nat.le_refl _) _).setCell (Nat.le_refl _) _
set_option maxHeartbeats 2000000 in
theorem sum_some (b off n c : Nat) (g : Nat → Int) (r : Int) (ok : Bool) (w : World) (hb : b < w.heap.size)
    (HC : Hid (∀ j, j < n → w.cell? ⟨b, off + j, none⟩ = some (.int .i64 (g j)))) (hn : n ≤ 1000000) (hnc : n ≤ c) (HR : Hid (SumIs g n r ok)) :
    Calls Try.prog 61 #[.slice (some ⟨b, off, none⟩) n c] w fun e w' => e = .returned (.tuple #[.int .i64 r, .bool ok]) ∧ Below w.heap.size w w' := by
  have H0 : Hid (hiOf 0 = 0 ∧ loOf 0 = 0) := Lib.hid (by decide)
  go_enter Try.func61, Try.ntmps61
  go_wp2
  go_loopw [9] (fun i wr => ∃ k : Nat, k ≤ n ∧ i = .int .i64 k ∧ SumAt w w.heap.size g k wr) (fun i _ => n - (intOf i).toNat)
  case atStart => exact ⟨0, Nat.zero_le _, rfl, fun j hj => by omega, by simp, by simp [tot, H0.out.1], by simp [tot, H0.out.2], by simp, by simp, (Below.refl _ _).alloc (Nat.le_refl _) _⟩
  case round =>
    obtain ⟨k, hk, rfl, hM, hs, c0, c1, f0, f1, hbw⟩ := hrel
    obtain ⟨tb1, tb2⟩ := tot_bd g k hM
    have HM := Lib.hid hM; clear hM
    by_cases hlt : k < n
    · have ck : wr.cell? ⟨b, off + k, none⟩ = some (.int .i64 (g k)) := (hbw.cell (p := ⟨b, off + k, none⟩) hb).trans (HC.out k hlt)
      by_cases hm : Mon (g k)
      · obtain ⟨m1, m2⟩ := hm
        go_wp2_with (first | (go_at_call 20; (with_reducible refine (money_yes _ _ m1 m2).mono ?_); rintro e w' ⟨rfl, rfl⟩) | (go_at_call 77; (with_reducible refine (plus_any _ _ _ (by omega) (by omega) (by omega) (by omega)).mono ?_); rintro e w1 ⟨rfl, hb1⟩; obtain ⟨hbc, hbf⟩ := bcell hb1; have d0 := (hbc w.heap.size 0 hs).trans c0; have d1 := (hbc w.heap.size 1 hs).trans c1; have d2 := (hbf w.heap.size 0 hs).trans f0; have d3 := (hbf w.heap.size 1 hs).trans f1; clear hbc hbf))
        have hm : Mon (g k) := ⟨m1, m2⟩
        go_roundw
        case rel => exact ⟨k + 1, by omega, by go_num, SumAt.next HM.out hm hs hb1 d0 d1 d2 d3 hbw⟩
        case measure => simp [intOf]; omega
      · have m1 : g k < -100000000000 ∨ 100000000000 < g k := by unfold Mon at hm; omega
        obtain ⟨e1, e2⟩ := HR.out.bad hlt hm
        have E1 := Lib.hid e1
        have E2 := Lib.hid e2
        clear e1 e2 hm
        go_wp2_with (first | (go_at_call 20; (with_reducible refine (money_no _ _ m1).mono ?_); rintro e w' ⟨rfl, rfl⟩))
        go_ret2
        exact ⟨ret_ib E2.out.symm E1.out.symm, hbw⟩
    · obtain rfl : k = n := by omega
      clear hlt
      by_cases hm : Mon (tot g k)
      · obtain ⟨e1, e2⟩ := HR.out.good HM.out hm
        have E1 := Lib.hid e1
        have E2 := Lib.hid e2
        obtain ⟨m1, m2⟩ := hm
        clear e1 e2
        go_wp2_with (go_at_call 78; (with_reducible refine (total_yes _ _ m1 m2).mono ?_); rintro e w1 ⟨rfl, hb1⟩)
        go_ret2
        exact ⟨ret_ib E2.out.symm E1.out.symm, hbw.trans (hb1.mono (by omega))⟩
      · obtain ⟨e1, e2⟩ := HR.out.big hm
        have E1 := Lib.hid e1
        have E2 := Lib.hid e2
        have m1 : tot g k < -100000000000 ∨ 100000000000 < tot g k := by unfold Mon at hm; omega
        clear e1 e2 hm
        go_wp2_with (go_at_call 78; (with_reducible refine (total_no _ _ (by omega) (by omega) m1).mono ?_); rintro e w1 ⟨rfl, hb1⟩)
        go_ret2
        exact ⟨ret_ib E2.out.symm E1.out.symm, hbw.trans (hb1.mono (by omega))⟩
end Go.Proofs.Ytmlafdehhbhbiaa

/- A row of whole numbers in a block of the call's own: read, stored, kept over calls; literal lists; sums in any order. -/
namespace Go.Proofs.Ytmlafdehhbhbiaa
open Go.RowKit

theorem SumIs.is (g : Nat → Int) (n : Nat) : ∃ r ok, SumIs g n r ok := by
  by_cases h : (∀ j, j < n → Mon (g j)) ∧ Mon (tot g n)
  · exact ⟨_, _, .inl ⟨rfl, rfl, h.2, h.1⟩⟩
  · refine ⟨0, false, .inr ⟨rfl, rfl, ?_⟩⟩
    by_cases hm : Mon (tot g n)
    · left
      have : ¬ ∀ j, j < n → Mon (g j) := fun k => h ⟨k, hm⟩
      simpa using this
    · exact .inr hm
theorem SumIs.rev {g : Nat → Int} {n : Nat} {r : Int} {ok : Bool} (h : SumIs g n r ok) : SumIs (fun j => g (n - 1 - j)) n r ok := by
  rcases h with ⟨h1, h2, h3, h4⟩ | ⟨h1, h2, ⟨j, hj, hb⟩ | hb⟩
  · exact .inl ⟨h1, by rw [tot_rev]; exact h2, by rw [tot_rev]; exact h3, fun j hj => h4 _ (by omega)⟩
  · exact .inr ⟨h1, h2, .inl ⟨n - 1 - j, by omega, by simp only []; rw [show n - 1 - (n - 1 - j) = j by omega]; exact hb⟩⟩
  · exact .inr ⟨h1, h2, .inr (by rw [tot_rev]; exact hb)⟩
theorem SumIs.ext {g h : Nat → Int} {n : Nat} {r : Int} {ok : Bool} (s : SumIs g n r ok) (e : ∀ j, j < n → g j = h j) : SumIs h n r ok := by
  unfold SumIs at *
  rw [tot_ext n e] at s
  rcases s with ⟨h1, h2, h3, h4⟩ | ⟨h1, h2, ⟨j, hj, hb⟩ | hb⟩
  · exact .inl ⟨h1, h2, h3, fun j hj => by rw [← e j hj]; exact h4 j hj⟩
  · exact .inr ⟨h1, h2, .inl ⟨j, hj, by rw [← e j hj]; exact hb⟩⟩
  · exact .inr ⟨h1, h2, .inr hb⟩
theorem sum_three : SumIs (fun j => [100000000000, 100000000000, -100000000000].getD j 0) 3 100000000000 true := by
  refine .inl ⟨rfl, by simp [tot], by simp [tot, Mon], fun j hj => ?_⟩
  rcases (show j = 0 ∨ j = 1 ∨ j = 2 by omega) with rfl | rfl | rfl <;> simp [Mon]
theorem sum_two : SumIs (fun j => [100000000000, 1].getD j 0) 2 0 false := .inr ⟨rfl, rfl, .inr (by simp [tot, Mon])⟩
end Go.Proofs.Ytmlafdehhbhbiaa

/- The statements' own answers of chapter 1, and the small numbers that they are made of: a contract for each. Both the program and the plain answers are met by the same functions of the numbers. -/
namespace Go.Proofs.Ytmlafdehhbhbiaa
open Go.RowKit

/-- may an amount (or a sum of some) and a rate be? -/
def ofB (n r : Int) : Bool := decide ((-400000000000 ≤ n ∧ n ≤ 400000000000) ∧ 0 ≤ r ∧ r ≤ 10000000)
def ofV (n r : Int) : Int := if ofB n r then rof n r else 0
def moneyB (n : Int) : Bool := decide (-100000000000 ≤ n ∧ n ≤ 100000000000)
def rightB (r : Int) : Bool := decide (0 ≤ r ∧ r ≤ 1000000)
def floorB (n r : Int) : Bool := decide ((0 ≤ n ∧ n ≤ 100000000000) ∧ 0 ≤ r ∧ r ≤ 1000000)
def floorV (n r : Int) : Int := if floorB n r then n * r / 1000000 else 0

theorem of_v (n r : Int) (w : World) :
    Calls Try.prog 46 #[.int .i64 n, .int .i64 r] w fun e w' => e = .returned (.tuple #[.int .i64 (ofV n r), .bool (ofB n r)]) ∧ w = w' := by
  by_cases h : (-400000000000 ≤ n ∧ n ≤ 400000000000) ∧ 0 ≤ r ∧ r ≤ 10000000
  · have hb : ofB n r = true := by unfold ofB; exact decide_eq_true h
    rw [ofV, hb, if_pos rfl]
    exact of_in n r w h.1.1 h.1.2 h.2.1 h.2.2
  · have hb : ofB n r = false := by unfold ofB; exact decide_eq_false h
    rw [ofV, hb]
    exact of_out n r w (by omega)
theorem floor_v (n r : Int) (w : World) :
    Calls Try.prog 64 #[.int .i64 n, .int .i64 r] w fun e w' => e = .returned (.tuple #[.int .i64 (floorV n r), .bool (floorB n r)]) ∧ w = w' := by
  by_cases h : (0 ≤ n ∧ n ≤ 100000000000) ∧ 0 ≤ r ∧ r ≤ 1000000
  · have hb : floorB n r = true := by unfold floorB; exact decide_eq_true h
    rw [floorV, hb, if_pos rfl]
    exact floor_yes n r w h.1.1 h.1.2 h.2.1 h.2.2
  · have hb : floorB n r = false := by unfold floorB; exact decide_eq_false h
    rw [floorV, hb]
    exact floor_no n r w (by omega)
theorem money_v (n : Int) (w : World) :
    Calls Try.prog 20 #[.int .i64 n] w fun e w' => e = .returned (.bool (moneyB n)) ∧ w = w' := by
  by_cases h : -100000000000 ≤ n ∧ n ≤ 100000000000
  · rw [show moneyB n = true from decide_eq_true h]; exact money_yes n w h.1 h.2
  · rw [show moneyB n = false from decide_eq_false h]; exact money_no n w (by omega)
theorem right_v (n : Int) (w : World) :
    Calls Try.prog 19 #[.int .i64 n] w fun e w' => e = .returned (.bool (rightB n)) ∧ w = w' := by
  by_cases h : 0 ≤ n ∧ n ≤ 1000000
  · rw [show rightB n = true from decide_eq_true h]; exact right_yes n w h.1 h.2
  · rw [show rightB n = false from decide_eq_false h]; exact right_no n w (by omega)

end Go.Proofs.Ytmlafdehhbhbiaa
