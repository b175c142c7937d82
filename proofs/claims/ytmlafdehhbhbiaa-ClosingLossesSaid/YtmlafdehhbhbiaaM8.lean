/- Several texts of mine in one: MsMath RMeas RMeas2 Ms AlMath Al. -/
import Derived.Test.YtmlafdehhbhbiaaM4
import Derived.Test.YtmlafdehhbhbiaaM2
import Derived.Test.YtmlafdehhbhbiaaM1
import Derived.Test.YtmlafdehhbhbiaaM5
import Derived.Test.YtmlafdehhbhbiaaM6
import Derived.WalkKit
import Derived.WalkSpells
import Derived.WalkLawsBesides
import Derived.Lib.Hide
import Derived.IntWalk
import Derived.Deep.LoopGhost
import Derived.Deep.QuietTactic
import Derived.BigQuiet
import Derived.Deep.RegionHeld3
import Derived.Test.YtmlafdehhbhbiaaTk
/- Deferred tax: which rates, how much, why there is none: mathematics alone. -/
namespace Go.Proofs.Ytmlafdehhbhbiaa

def PerOk (p : Int) : Prop := 0 ≤ p ∧ p ≤ 399
def RtOk (r : Int) : Prop := 0 ≤ r ∧ r ≤ 1000000
/-- the rates of rows, as known -/
def RatesIs (R : Nat → Rt) (n : Nat) (j : ByteArray) (g : Nat → Bk) (m : Nat) (p e : Int) (q : Nat) (r : Nat → Int) : Prop :=
  (¬ PerOk p ∧ e = 1 ∧ q = 0) ∨ (PerOk p ∧ e = 7 ∧ q = 0 ∧ ∃ i, i < m ∧ Known R n j (max (g i).y (p / 4)) p 0 false ∧ ∀ k, k < i → Known R n j (max (g k).y (p / 4)) p (r k) true) ∨
  (PerOk p ∧ e = 0 ∧ q = m ∧ ∀ i, i < m → Known R n j (max (g i).y (p / 4)) p (r i) true)
/-- the next year's rate -/
def NextIs (R : Nat → Rt) (n : Nat) (j : ByteArray) (p v e : Int) : Prop :=
  (¬ PerOk p ∧ v = 0 ∧ e = 1) ∨ (PerOk p ∧ v = 0 ∧ e = 7 ∧ Known R n j (min (p / 4 + 1) 99) p 0 false) ∨ (PerOk p ∧ e = 0 ∧ Known R n j (min (p / 4 + 1) 99) p v true)
/-- the parts of rows -/
def partU (g : Nat → Bk) (r : Nat → Int) : Nat → Int := fun i => rof (g i).a (r i)
/-- may rows and rates be? -/
def TArgs (g : Nat → Bk) (m : Nat) (r : Nat → Int) (k : Nat) : Prop := m = k ∧ ∀ i, i < m → Mon (g i).a ∧ RtOk (r i)
/-- deferred tax -/
def TempIs (g : Nat → Bk) (m : Nat) (r : Nat → Int) (k : Nat) (v e : Int) : Prop :=
  (¬ TArgs g m r k ∧ v = 0 ∧ e = 1) ∨ (TArgs g m r k ∧ ¬ Mon (-tot (partU g r) m) ∧ v = 0 ∧ e = 6) ∨ (TArgs g m r k ∧ Mon (-tot (partU g r) m) ∧ v = -tot (partU g r) m ∧ e = 0)
/-- that of losses -/
def ShareIs (a r v e : Int) : Prop := (¬ ((0 ≤ a ∧ a ≤ 100000000000) ∧ RtOk r) ∧ v = 0 ∧ e = 1) ∨ (((0 ≤ a ∧ a ≤ 100000000000) ∧ RtOk r) ∧ v = rof a r ∧ e = 0)
section
variable {R : Nat → Rt} {n m k q : Nat} {j : ByteArray} {g h : Nat → Bk} {r r' : Nat → Int} {p e v : Int}
theorem first_none (R : Nat → Rt) (n : Nat) (j : ByteArray) (y : Nat → Int) (p : Int) : ∀ m, ∃ r : Nat → Int, (∀ i, i < m → Known R n j (y i) p (r i) true) ∨ ∃ i, i < m ∧ Known R n j (y i) p 0 false ∧ ∀ k, k < i → Known R n j (y k) p (r k) true
  | 0 => ⟨fun _ => 0, .inl fun i h => by omega⟩
  | m + 1 => by
    obtain ⟨r, h⟩ := first_none R n j y p m
    rcases h with h | ⟨i, h1, h2, h3⟩
    · obtain ⟨z, ok, hz⟩ := known_any R n j (y m) p
      cases ok with
      | false =>
        refine ⟨r, .inr ⟨m, by omega, ?_, h⟩⟩
        rcases hz with ⟨h0, _⟩ | ⟨_, rfl, h0⟩
        · cases h0
        · exact .inr ⟨rfl, rfl, h0⟩
      | true =>
        refine ⟨fun i => if i = m then z else r i, .inl fun i hi => ?_⟩
        by_cases e : i = m
        · subst e; simpa using hz
        · dsimp only; rw [if_neg e]; exact h i (by omega)
    · exact ⟨r, .inr ⟨i, by omega, h2, h3⟩⟩
theorem rates_any (R : Nat → Rt) (n : Nat) (j : ByteArray) (g : Nat → Bk) (m : Nat) (p : Int) : ∃ e q r, RatesIs R n j g m p e q r := by
  by_cases hp : PerOk p
  · obtain ⟨r, h⟩ := first_none R n j (fun i => max (g i).y (p / 4)) p m
    rcases h with h | ⟨i, h1, h2, h3⟩
    · exact ⟨0, m, r, .inr (.inr ⟨hp, rfl, rfl, h⟩)⟩
    · exact ⟨7, 0, r, .inr (.inl ⟨hp, rfl, rfl, i, h1, h2, h3⟩)⟩
  · exact ⟨1, 0, fun _ => 0, .inl ⟨hp, rfl, rfl⟩⟩
theorem next_any (R : Nat → Rt) (n : Nat) (j : ByteArray) (p : Int) : ∃ v e, NextIs R n j p v e := by
  by_cases hp : PerOk p
  · obtain ⟨z, ok, hz⟩ := known_any R n j (min (p / 4 + 1) 99) p
    cases ok with
    | false =>
      rcases hz with ⟨h0, _⟩ | ⟨_, rfl, h0⟩
      · cases h0
      · exact ⟨0, 7, .inr (.inl ⟨hp, rfl, rfl, .inr ⟨rfl, rfl, h0⟩⟩)⟩
    | true => exact ⟨z, 0, .inr (.inr ⟨hp, rfl, hz⟩)⟩
  · exact ⟨0, 1, .inl ⟨hp, rfl, rfl⟩⟩
theorem temp_any (g : Nat → Bk) (m : Nat) (r : Nat → Int) (k : Nat) : ∃ v e, TempIs g m r k v e := by
  by_cases h1 : TArgs g m r k
  · by_cases h2 : Mon (-tot (partU g r) m)
    · exact ⟨_, 0, .inr (.inr ⟨h1, h2, rfl, rfl⟩)⟩
    · exact ⟨0, 6, .inr (.inl ⟨h1, h2, rfl, rfl⟩)⟩
  · exact ⟨0, 1, .inl ⟨h1, rfl, rfl⟩⟩
theorem share_any (a r : Int) : ∃ v e, ShareIs a r v e := by
  by_cases h : (0 ≤ a ∧ a ≤ 100000000000) ∧ RtOk r
  · exact ⟨_, 0, .inr ⟨h, rfl, rfl⟩⟩
  · exact ⟨0, 1, .inl ⟨h, rfl, rfl⟩⟩
/-- a part is an amount -/
theorem rof_mon {a z : Int} (ha : Mon a) (hz : RtOk z) : Mon (rof a z) := by
  unfold Mon at ha ⊢
  unfold RtOk at hz
  obtain ⟨h1, h2⟩ := mul_bd (n := a) (r := z) (A := 100000000000) ha.1 ha.2 hz.1 hz.2
  have := mul_sign (n := a) hz.1
  unfold rof; split <;> omega
theorem part_bd (h : ∀ i, i < m → Mon (g i).a ∧ RtOk (r i)) (hk : k ≤ m) : -100000000000 * (k : Int) ≤ tot (partU g r) k ∧ tot (partU g r) k ≤ 100000000000 * (k : Int) :=
  tot_bd _ k fun i hi => rof_mon (h i (by omega)).1 (h i (by omega)).2
/-- the first row or rate that may not be -/
theorem first_bad (g : Nat → Bk) (r : Nat → Int) : ∀ m, (∀ i, i < m → Mon (g i).a ∧ RtOk (r i)) ∨ ∃ i, i < m ∧ ¬ (Mon (g i).a ∧ RtOk (r i)) ∧ ∀ k, k < i → Mon (g k).a ∧ RtOk (r k)
  | 0 => .inl fun i h => by omega
  | m + 1 => by
    rcases first_bad g r m with h | ⟨i, h1, h2, h3⟩
    · by_cases z : Mon (g m).a ∧ RtOk (r m)
      · refine .inl fun i hi => ?_
        by_cases e : i = m
        · subst e; exact z
        · exact h i (by omega)
      · exact .inr ⟨m, by omega, z, h⟩
    · exact .inr ⟨i, by omega, h2, h3⟩
end
end Go.Proofs.Ytmlafdehhbhbiaa

/- The document's own measures of deferred tax: a contract for each. -/
namespace Go.Proofs.Ytmlafdehhbhbiaa
open Go.RowKit

section
variable {w : World} {O : Nat → Nat} {base t sb n : Nat} {v : Value} {R : Nat → Rt}
end
end Go.Proofs.Ytmlafdehhbhbiaa

/- The document's own deferred tax of rows: a contract. -/
namespace Go.Proofs.Ytmlafdehhbhbiaa
open Go.RowKit

end Go.Proofs.Ytmlafdehhbhbiaa

/- Package measure, the program's own: a contract for each of its calls. -/
namespace Go.Proofs.Ytmlafdehhbhbiaa
open Go.RowKit
theorem pshr_at (a r x : Int) (w : World) (h1 : -400000000000 ≤ a ∧ a ≤ 400000000000) (h2 : 0 ≤ r ∧ r ≤ 10000000) (H : Hid (rof a r = x)) :
    Calls Try.prog 71 #[.int .i64 a, .int .i64 r] w fun e' w' => e' = .returned (.int .i64 x) ∧ w = w' := by
  go_enter Try.func71, Try.ntmps71
  go_wp2_with (first | (go_at_call 46; (with_reducible refine (of_at _ _ _ _ (by omega) (by omega) (by omega) (by omega) H).mono ?_); rintro e w' ⟨rfl, rfl⟩))
  go_ret
  exact ⟨rfl, rfl⟩
theorem pshare_any (a r v e : Int) (H : ShareIs a r v e) (w : World) :
    Calls Try.prog 48 #[.int .i64 a, .int .i64 r] w fun e' w' => e' = .returned (.tuple #[.int .i64 v, .int .i64 e]) ∧ Below w.heap.size w w' := by
  rcases H with ⟨h, rfl, rfl⟩ | ⟨⟨⟨h1, h2⟩, h3, h4⟩, rfl, rfl⟩
  · unfold RtOk at h
    rcases (show a < 0 ∨ (¬ a < 0 ∧ 100000000000 < a) ∨ (¬ a < 0 ∧ a ≤ 100000000000 ∧ (r < 0 ∨ 1000000 < r)) by omega) with q | ⟨q1, q2⟩ | ⟨q1, q2, q3⟩
    · clear h
      go_enter Try.func48, Try.ntmps48
      go_wp2
      go_ret2
      exact ⟨rfl, Below.refl _ _⟩
    · clear h
      go_enter Try.func48, Try.ntmps48
      go_wp2_with (first | (go_at_call 20; (with_reducible refine (money_no _ _ (by omega)).mono ?_); rintro e w' ⟨rfl, rfl⟩))
      go_ret2
      exact ⟨rfl, Below.refl _ _⟩
    · clear h
      go_enter Try.func48, Try.ntmps48
      go_wp2_with (first | (go_at_call 20; (with_reducible refine (money_yes _ _ (by omega) (by omega)).mono ?_); rintro e w' ⟨rfl, rfl⟩) | (go_at_call 19; (with_reducible refine (right_no _ _ (by omega)).mono ?_); rintro e w' ⟨rfl, rfl⟩))
      go_ret2
      exact ⟨rfl, Below.refl _ _⟩
  · obtain ⟨x, hx⟩ : ∃ x, rof a r = x := ⟨_, rfl⟩
    have HX := Lib.hid hx
    have q1 : ¬ a < 0 := by omega
    rw [hx]
    clear hx
    go_enter Try.func48, Try.ntmps48
    go_wp2_with (first | (go_at_call 20; (with_reducible refine (money_yes _ _ (by omega) (by omega)).mono ?_); rintro e w' ⟨rfl, rfl⟩) | (go_at_call 19; (with_reducible refine (right_yes _ _ (by omega) (by omega)).mono ?_); rintro e w' ⟨rfl, rfl⟩) | (go_at_call 71; (with_reducible refine (pshr_at _ _ _ _ (by omega) (by omega) HX).mono ?_); rintro e w' ⟨rfl, rfl⟩))
    go_ret2
    exact ⟨rfl, Below.refl _ _⟩
section
variable {w : World} {O : Nat → Nat} {base t sb n : Nat} {v : Value} {R : Nat → Rt}
theorem pnext_any (s : TabV 57 w O base t sb v n R) (j : ByteArray) (p a e : Int) (H : NextIs R n j p a e) :
    Calls Try.prog 33 #[ptr sb, .string j, .int .i64 p] w fun e' w' => e' = .returned (.tuple #[.int .i64 a, .int .i64 e]) ∧ Below w.heap.size w w' := by
  rcases H with ⟨h, rfl, rfl⟩ | ⟨⟨h1, h2⟩, rfl, rfl, hk⟩ | ⟨⟨h1, h2⟩, rfl, hk⟩
  · unfold PerOk at h
    go_enter Try.func33, Try.ntmps33
    go_wp2_with (first | (go_at_call 18; (with_reducible refine (pright_no _ _ (by omega)).mono ?_); rintro e w' ⟨rfl, rfl⟩))
    go_ret2
    exact ⟨rfl, Below.refl _ _⟩
  · have C := Lib.hid (erate_any s j _ p 0 false hk)
    have q1 : ¬ 99 < p / 4 + 1 ∨ 99 < p / 4 + 1 := by omega
    clear s hk
    rcases q1 with q1 | q1
    · rw [show min (p / 4 + 1) 99 = p / 4 + 1 by omega] at C
      go_enter Try.func33, Try.ntmps33
      go_wp2_with (first | (go_at_call 18; (with_reducible refine (pright_yes _ _ (by omega) (by omega)).mono ?_); rintro e w' ⟨rfl, rfl⟩) | (go_at_call 21; (with_reducible refine (pyear_yes _ _ (by omega) (by omega)).mono ?_); rintro e w' ⟨rfl, rfl⟩) | (go_at_call 22; (with_reducible refine (C.out).mono ?_); rintro e w1 ⟨rfl, hb1⟩))
      go_ret2
      exact ⟨rfl, hb1⟩
    · rw [show min (p / 4 + 1) 99 = 99 by omega] at C
      go_enter Try.func33, Try.ntmps33
      go_wp2_with (first | (go_at_call 18; (with_reducible refine (pright_yes _ _ (by omega) (by omega)).mono ?_); rintro e w' ⟨rfl, rfl⟩) | (go_at_call 21; (with_reducible refine (pyear_yes _ _ (by omega) (by omega)).mono ?_); rintro e w' ⟨rfl, rfl⟩) | (go_at_call 22; (with_reducible refine (C.out).mono ?_); rintro e w1 ⟨rfl, hb1⟩))
      go_ret2
      exact ⟨rfl, hb1⟩
  · have C := Lib.hid (erate_any s j _ p a true hk)
    have q1 : ¬ 99 < p / 4 + 1 ∨ 99 < p / 4 + 1 := by omega
    clear s hk
    rcases q1 with q1 | q1
    · rw [show min (p / 4 + 1) 99 = p / 4 + 1 by omega] at C
      go_enter Try.func33, Try.ntmps33
      go_wp2_with (first | (go_at_call 18; (with_reducible refine (pright_yes _ _ (by omega) (by omega)).mono ?_); rintro e w' ⟨rfl, rfl⟩) | (go_at_call 21; (with_reducible refine (pyear_yes _ _ (by omega) (by omega)).mono ?_); rintro e w' ⟨rfl, rfl⟩) | (go_at_call 22; (with_reducible refine (C.out).mono ?_); rintro e w1 ⟨rfl, hb1⟩))
      go_ret2
      exact ⟨rfl, hb1⟩
    · rw [show min (p / 4 + 1) 99 = 99 by omega] at C
      go_enter Try.func33, Try.ntmps33
      go_wp2_with (first | (go_at_call 18; (with_reducible refine (pright_yes _ _ (by omega) (by omega)).mono ?_); rintro e w' ⟨rfl, rfl⟩) | (go_at_call 21; (with_reducible refine (pyear_yes _ _ (by omega) (by omega)).mono ?_); rintro e w' ⟨rfl, rfl⟩) | (go_at_call 22; (with_reducible refine (C.out).mono ?_); rintro e w1 ⟨rfl, hb1⟩))
      go_ret2
      exact ⟨rfl, hb1⟩
set_option maxHeartbeats 8000000 in
set_option maxRecDepth 100000 in
theorem prates_any (s : TabV 57 w O base t sb v n R) (j : ByteArray) (A : Option Addr) (m c : Nat) (g : Nat → Bk) (hr : AtR be 3 w A m g) (hc : m ≤ c ∧ c ≤ maxLen) (hm : m ≤ 1000) (p e : Int) (q : Nat) (r : Nat → Int) (H : RatesIs R n j g m p e q r) :
    Calls Try.prog 34 #[ptr sb, .string j, .slice A m c, .int .i64 p] w fun e' w' => ∃ v', e' = .returned (.tuple #[v', .int .i64 e]) ∧ Own w' 3 w.heap.size v' q r ∧ Below w.heap.size w w' := by
  by_cases hp : PerOk p
  · obtain ⟨L, hL, h1, h2, hres⟩ : ∃ L, L ≤ m ∧ (∀ k, k < L → Known R n j (max (g k).y (p / 4)) p (r k) true) ∧ (L < m → Known R n j (max (g L).y (p / 4)) p 0 false) ∧ ((L = m ∧ e = 0 ∧ q = m) ∨ (L < m ∧ e = 7 ∧ q = 0)) := by
      rcases H with ⟨h, _⟩ | ⟨_, rfl, rfl, i, k1, k2, k3⟩ | ⟨_, rfl, rfl, k1⟩
      · exact absurd hp h
      · exact ⟨i, by omega, k3, fun _ => k2, .inr ⟨k1, rfl, rfl⟩⟩
      · exact ⟨q, Nat.le_refl _, k1, fun h => by omega, .inl ⟨rfl, rfl, rfl⟩⟩
    obtain ⟨hp1, hp2⟩ := hp
    have hmk := run_make_row' (P := Try.prog) 35 3 (.int .i64 0) 8 Try.underlying35 int_info rfl .i64 .i64 m (by omega) (by omega)
    have HO0 := Lib.hid (own_made w m 3 w.heap.size (Nat.le_refl _) (by unfold maxLen; omega))
    have HS := Lib.hid s
    have HR := Lib.hid hr
    have H1 := Lib.hid h1
    have H2 := Lib.hid h2
    have HV := Lib.hid hres
    obtain ⟨Y, hY⟩ : ∃ Y, p / 4 = Y := ⟨_, rfl⟩
    rw [hY] at H1 H2
    have CY := Lib.hid fun w5 => pyear_yes p w5 hp1 hp2
    rw [hY] at CY
    clear s hr h1 h2 hres H hc hY
    go_enter Try.func34, Try.ntmps34
    go_wp2_with (first | (go_at_call 18; (with_reducible refine (pright_yes _ _ (by omega) (by omega)).mono ?_); rintro e w' ⟨rfl, rfl⟩))
    go_loopg [23] m (fun gh i wr => ∃ (k : Nat) (f : Nat → Int), k ≤ L ∧ gh = m - k ∧ i = .int .i64 k ∧ (∀ j, j < k → f j = r j) ∧ Own wr 3 w.heap.size (.slice (some ⟨w.heap.size, 0, none⟩) m m) m f ∧ Below w.heap.size w wr)
    case atStart => exact ⟨0, fun _ => 0, Nat.zero_le _, rfl, rfl, fun j hj => by omega, HO0.out, (Below.refl _ _).alloc (Nat.le_refl _) _⟩
    case round =>
      obtain ⟨k, f, hk, hgk, rfl, hf, ho, hbw⟩ := hrel
      have HGK := Lib.hid hgk
      have HW := Lib.hid hbw
      have HO := Lib.hid ho
      have HF := Lib.hid hf
      have hz := hbw.size
      clear hgk hbw ho hf hmk HO0
      by_cases hlt : k < m
      · obtain ⟨b, off, rfl, hb, c0, c1, c2⟩ := (HR.out.below HW.out).three hlt
        obtain ⟨y, hy⟩ : ∃ y, (g k).y = y := ⟨_, rfl⟩
        obtain ⟨y0, hy0⟩ : ∃ y0, (g k).c = y0 := ⟨_, rfl⟩
        obtain ⟨y2, hy2⟩ : ∃ y2, (g k).a = y2 := ⟨_, rfl⟩
        rw [hy] at c1
        rw [hy0] at c0
        rw [hy2] at c2
        have ba := (Below.refl wr.heap.size wr).alloc (Nat.le_refl _) (.cells #[.int .i64 y0, .int .i64 y, .int .i64 y2] 81)
        have RA1 := rec_lit wr [.int .i64 y0, .int .i64 y, .int .i64 y2] 81 wr.heap.size rfl 1 _ rfl
        have BA := Lib.hid ba.drew
        have scd : (wr.alloc (.cells #[.int .i64 y0, .int .i64 y, .int .i64 y2] 81)).drew.cell? ⟨wr.heap.size, 1, none⟩ = some (.int .i64 y) := RA1
        have SCD := Lib.hid scd
        clear RA1 ba scd hy0 hy2
        by_cases hkL : k < L
        · have hk1 := H1.out k hkL
          rw [hy] at hk1
          obtain ⟨z, hzr⟩ : ∃ z, r k = z := ⟨_, rfl⟩
          rw [hzr] at hk1
          have HZ := Lib.hid hzr
          clear hy hzr
          rcases (show Y > y ∨ ¬ Y > y by omega) with hmx | hmx
          · rw [show max y Y = Y by omega] at hk1
            have C := Lib.hid fun w5 (kb : Below wr.heap.size wr w5) => erate_any ((HS.out.below HW.out).below kb) j _ p z true hk1
            clear hk1
            go_wp2_with fail
            refine wp_region_noPanic ?_
            refine AnyTill.begin (C := fun w' => w'.cell? ⟨wr.heap.size, 1, none⟩ = some (.int .i64 y)) (q := 99) (by kernel_rfl) ?_
            have scd := SCD.out
            refine AnyTill.tk 0 scd ?_
            refine AnyTill.tk 1 scd ?_
            refine AnyTill.tk 2 scd ?_
            refine AnyTill.tk 3 scd ?_
            refine AnyTill.tk 4 scd ?_
            refine AnyTill.tc (i := 5) (v := .int .i64 Y) (f := 21) (args := #[.int .i64 p]) (hc := fun w' _ => CY.out w') (hC := scd) (h := ?_)
            refine AnyTill.tk 6 scd ?_
            refine AnyTill.tk 7 scd ?_
            refine AnyTill.on 8 fun K' hK => ?_
            go_simp
            (go_at_call 22; (with_reducible refine (C.out _ BA.out).mono ?_); rintro e w5 ⟨rfl, hb5⟩)
            have sce := cell_keep scd hb5
            refine hK.out _ _ (.inr sce) ?_
            clear hK K'
            try simp only [pt]
            have K5 := Lib.hid (BA.out.trans (hb5.mono BA.out.size))
            refine AnyTill.tk 9 sce ?_
            refine AnyTill.tk 10 sce ?_
            refine AnyTill.tk 11 sce ?_
            refine AnyTill.tk 12 sce ?_
            refine AnyTill.tk 13 sce ?_
            refine AnyTill.done (by kernel_rfl) ?_ _
            refine NoPanic.normal ?_
            have hrow := ((HO.out.below K5.out).row (by omega)).2 k hlt
            have hbz := ((HO.out.below K5.out).row (by omega)).1
            obtain ⟨fk, hfk⟩ : ∃ fk, f k = fk := ⟨_, rfl⟩
            rw [hfk] at hrow
            obtain ⟨v0, v1⟩ := hrow
            have k0 : (0 : Int) ≤ (k : Int) := by omega
            have k1 : (k : Int) < (m : Int) := by omega
            clear hfk scd sce hb5 C c0 c1 c2
            go_wp2
            go_roundg (m - (k + 1))
            case measure => have := HGK.out; omega
            case rel => exact ⟨k + 1, _, by omega, rfl, by go_num, fun j hj => by
              show (if j = k then z else f j) = r j
              by_cases e : j = k
              · rw [if_pos e, e, HZ.out]
              · rw [if_neg e]; exact HF.out j (by omega), (HO.out.below K5.out).set k z, (HW.out.trans (K5.out.mono hz)).setCell (Nat.le_refl _) _⟩
          · rw [show max y Y = y by omega] at hk1
            have C := Lib.hid fun w5 (kb : Below wr.heap.size wr w5) => erate_any ((HS.out.below HW.out).below kb) j _ p z true hk1
            clear hk1
            go_wp2_with fail
            refine wp_region_noPanic ?_
            refine AnyTill.begin (C := fun w' => w'.cell? ⟨wr.heap.size, 1, none⟩ = some (.int .i64 y)) (q := 99) (by kernel_rfl) ?_
            have scd := SCD.out
            refine AnyTill.tk 0 scd ?_
            refine AnyTill.tk 1 scd ?_
            refine AnyTill.tk 2 scd ?_
            refine AnyTill.tk 3 scd ?_
            refine AnyTill.tk 4 scd ?_
            refine AnyTill.tc (i := 5) (v := .int .i64 Y) (f := 21) (args := #[.int .i64 p]) (hc := fun w' _ => CY.out w') (hC := scd) (h := ?_)
            refine AnyTill.tk 6 scd ?_
            refine AnyTill.tk 7 scd ?_
            refine AnyTill.on 8 fun K' hK => ?_
            go_simp
            rw [if_neg (Int.not_lt.mpr hmx)]
            (go_at_call 22; (with_reducible refine (C.out _ BA.out).mono ?_); rintro e w5 ⟨rfl, hb5⟩)
            have sce := cell_keep scd hb5
            refine hK.out _ _ (.inr sce) ?_
            clear hK K'
            try simp only [pt]
            have K5 := Lib.hid (BA.out.trans (hb5.mono BA.out.size))
            refine AnyTill.tk 9 sce ?_
            refine AnyTill.tk 10 sce ?_
            refine AnyTill.tk 11 sce ?_
            refine AnyTill.tk 12 sce ?_
            refine AnyTill.tk 13 sce ?_
            refine AnyTill.done (by kernel_rfl) ?_ _
            refine NoPanic.normal ?_
            have hrow := ((HO.out.below K5.out).row (by omega)).2 k hlt
            have hbz := ((HO.out.below K5.out).row (by omega)).1
            obtain ⟨fk, hfk⟩ : ∃ fk, f k = fk := ⟨_, rfl⟩
            rw [hfk] at hrow
            obtain ⟨v0, v1⟩ := hrow
            have k0 : (0 : Int) ≤ (k : Int) := by omega
            have k1 : (k : Int) < (m : Int) := by omega
            clear hfk scd sce hb5 C c0 c1 c2
            go_wp2
            go_roundg (m - (k + 1))
            case measure => have := HGK.out; omega
            case rel => exact ⟨k + 1, _, by omega, rfl, by go_num, fun j hj => by
              show (if j = k then z else f j) = r j
              by_cases e : j = k
              · rw [if_pos e, e, HZ.out]
              · rw [if_neg e]; exact HF.out j (by omega), (HO.out.below K5.out).set k z, (HW.out.trans (K5.out.mono hz)).setCell (Nat.le_refl _) _⟩
        · obtain rfl : k = L := by omega
          have hk1 := H2.out hlt
          rw [hy] at hk1
          obtain ⟨rfl, rfl⟩ : e = 7 ∧ q = 0 := by rcases HV.out with ⟨h, _⟩ | ⟨_, h⟩; omega; exact h
          clear hy hkL HV
          rcases (show Y > y ∨ ¬ Y > y by omega) with hmx | hmx
          · rw [show max y Y = Y by omega] at hk1
            have C := Lib.hid fun w5 (kb : Below wr.heap.size wr w5) => erate_any ((HS.out.below HW.out).below kb) j _ p 0 false hk1
            clear hk1
            go_wp2_with fail
            refine wp_region_noPanic ?_
            refine AnyTill.begin (C := fun w' => w'.cell? ⟨wr.heap.size, 1, none⟩ = some (.int .i64 y)) (q := 99) (by kernel_rfl) ?_
            have scd := SCD.out
            refine AnyTill.tk 0 scd ?_
            refine AnyTill.tk 1 scd ?_
            refine AnyTill.tk 2 scd ?_
            refine AnyTill.tk 3 scd ?_
            refine AnyTill.tk 4 scd ?_
            refine AnyTill.tc (i := 5) (v := .int .i64 Y) (f := 21) (args := #[.int .i64 p]) (hc := fun w' _ => CY.out w') (hC := scd) (h := ?_)
            refine AnyTill.tk 6 scd ?_
            refine AnyTill.tk 7 scd ?_
            refine AnyTill.on 8 fun K' hK => ?_
            go_simp
            (go_at_call 22; (with_reducible refine (C.out _ BA.out).mono ?_); rintro e w5 ⟨rfl, hb5⟩)
            have sce := cell_keep scd hb5
            refine hK.out _ _ (.inr sce) ?_
            clear hK K'
            try simp only [pt]
            have K5 := Lib.hid (BA.out.trans (hb5.mono BA.out.size))
            refine AnyTill.tk 9 sce ?_
            refine AnyTill.tk 10 sce ?_
            refine AnyTill.tk 11 sce ?_
            refine AnyTill.tk 12 sce ?_
            refine AnyTill.tk 13 sce ?_
            refine AnyTill.done (by kernel_rfl) ?_ _
            refine NoPanic.normal ?_
            clear scd sce hb5 C c0 c1 c2
            go_wp2
            go_ret2
            exact ⟨_, rfl, Own.nil _ _ _ _, HW.out.trans (K5.out.mono hz)⟩
          · rw [show max y Y = y by omega] at hk1
            have C := Lib.hid fun w5 (kb : Below wr.heap.size wr w5) => erate_any ((HS.out.below HW.out).below kb) j _ p 0 false hk1
            clear hk1
            go_wp2_with fail
            refine wp_region_noPanic ?_
            refine AnyTill.begin (C := fun w' => w'.cell? ⟨wr.heap.size, 1, none⟩ = some (.int .i64 y)) (q := 99) (by kernel_rfl) ?_
            have scd := SCD.out
            refine AnyTill.tk 0 scd ?_
            refine AnyTill.tk 1 scd ?_
            refine AnyTill.tk 2 scd ?_
            refine AnyTill.tk 3 scd ?_
            refine AnyTill.tk 4 scd ?_
            refine AnyTill.tc (i := 5) (v := .int .i64 Y) (f := 21) (args := #[.int .i64 p]) (hc := fun w' _ => CY.out w') (hC := scd) (h := ?_)
            refine AnyTill.tk 6 scd ?_
            refine AnyTill.tk 7 scd ?_
            refine AnyTill.on 8 fun K' hK => ?_
            go_simp
            rw [if_neg (Int.not_lt.mpr hmx)]
            (go_at_call 22; (with_reducible refine (C.out _ BA.out).mono ?_); rintro e w5 ⟨rfl, hb5⟩)
            have sce := cell_keep scd hb5
            refine hK.out _ _ (.inr sce) ?_
            clear hK K'
            try simp only [pt]
            have K5 := Lib.hid (BA.out.trans (hb5.mono BA.out.size))
            refine AnyTill.tk 9 sce ?_
            refine AnyTill.tk 10 sce ?_
            refine AnyTill.tk 11 sce ?_
            refine AnyTill.tk 12 sce ?_
            refine AnyTill.tk 13 sce ?_
            refine AnyTill.done (by kernel_rfl) ?_ _
            refine NoPanic.normal ?_
            clear scd sce hb5 C c0 c1 c2
            go_wp2
            go_ret2
            exact ⟨_, rfl, Own.nil _ _ _ _, HW.out.trans (K5.out.mono hz)⟩
      · obtain rfl : k = m := by omega
        obtain ⟨rfl, rfl⟩ : e = 0 ∧ q = k := by rcases HV.out with ⟨_, h⟩ | ⟨h, _⟩; exact h; omega
        clear hlt HV
        go_wp2
        go_ret2
        exact ⟨_, rfl, HO.out.ext HF.out, HW.out⟩
  · obtain ⟨rfl, rfl⟩ : e = 1 ∧ q = 0 := by
      rcases H with ⟨_, h⟩ | ⟨h, _⟩ | ⟨h, _⟩
      · exact h
      · exact absurd h hp
      · exact absurd h hp
    unfold PerOk at hp
    clear H
    go_enter Try.func34, Try.ntmps34
    go_wp2_with (first | (go_at_call 18; (with_reducible refine (pright_no _ _ (by omega)).mono ?_); rintro e w' ⟨rfl, rfl⟩))
    go_ret2
    exact ⟨_, rfl, Own.nil _ _ _ _, Below.refl _ _⟩
end
theorem sumis_neg {u : Nat → Int} {m : Nat} (h : ∀ i, i < m → Mon (u i)) : (Mon (-tot u m) → SumIs (fun i => -u i) m (-tot u m) true) ∧ (¬ Mon (-tot u m) → SumIs (fun i => -u i) m 0 false) := by
  constructor
  · intro q
    exact .inl ⟨rfl, (tot_neg u m).symm, by rw [tot_neg]; exact q, fun j hj => by have := h j hj; unfold Mon at this ⊢; dsimp only; omega⟩
  · intro q
    exact .inr ⟨rfl, rfl, .inr (by rw [tot_neg]; exact q)⟩
set_option maxHeartbeats 8000000 in
set_option maxRecDepth 100000 in
theorem ptemp_any (A A' : Option Addr) (m c k0 c' : Nat) (g : Nat → Bk) (r : Nat → Int) (v e : Int) (w : World) (hr : AtR be 3 w A m g) (hr' : At w A' k0 r) (hm : m ≤ 1000) (_hc : m ≤ c ∧ c ≤ maxLen) (_hk0 : k0 ≤ c' ∧ c' ≤ maxLen) (H : TempIs g m r k0 v e) :
    Calls Try.prog 47 #[.slice A m c, .slice A' k0 c'] w fun e' w' => e' = .returned (.tuple #[.int .i64 v, .int .i64 e]) ∧ Below w.heap.size w w' := by
  by_cases hmk0 : m = k0
  · subst hmk0
    obtain ⟨L, hL, h1, h2, hres⟩ : ∃ L, L ≤ m ∧ (∀ k, k < L → Mon (g k).a ∧ RtOk (r k)) ∧ (L < m → ¬ (Mon (g L).a ∧ RtOk (r L))) ∧ ((L < m ∧ v = 0 ∧ e = 1) ∨ (L = m ∧ ((¬ Mon (-tot (partU g r) m) ∧ v = 0 ∧ e = 6) ∨ (Mon (-tot (partU g r) m) ∧ v = -tot (partU g r) m ∧ e = 0)))) := by
      rcases first_bad g r m with h | ⟨i, k1, k2, k3⟩
      · refine ⟨m, Nat.le_refl _, h, fun h => by omega, .inr ⟨rfl, ?_⟩⟩
        rcases H with ⟨q, _⟩ | ⟨_, q⟩ | ⟨_, q⟩
        · exact absurd ⟨rfl, h⟩ q
        · exact .inl q
        · exact .inr q
      · refine ⟨i, by omega, k3, fun _ => k2, .inl ⟨k1, ?_⟩⟩
        rcases H with ⟨_, q⟩ | ⟨q, _⟩ | ⟨q, _⟩
        · exact q
        · exact absurd (q.2 i k1) k2
        · exact absurd (q.2 i k1) k2
    have hmk := run_make_row' (P := Try.prog) 35 3 (.int .i64 0) 8 Try.underlying35 int_info rfl .i64 .i64 m (by omega) (by omega)
    have HO0 := Lib.hid (own_made w m 3 w.heap.size (Nat.le_refl _) (by unfold maxLen; omega))
    have HR := Lib.hid hr
    have HR' := Lib.hid hr'
    have H1 := Lib.hid h1
    have H2 := Lib.hid h2
    have HV := Lib.hid hres
    have ee : ((m : Int) != (m : Int)) = false := by simp
    clear hr hr' h1 h2 hres H _hc _hk0
    go_enter Try.func47, Try.ntmps47
    go_wp2
    go_loopg [21] m (fun gh i wr => ∃ (k : Nat) (f : Nat → Int), k ≤ L ∧ gh = m - k ∧ i = .int .i64 k ∧ w.heap.size < wr.heap.size ∧ (∀ j, j < k → f j = -partU g r j) ∧ Own wr 3 w.heap.size (.slice (some ⟨w.heap.size, 0, none⟩) m m) m f ∧ Below w.heap.size w wr)
    case atStart => exact ⟨0, fun _ => 0, Nat.zero_le _, rfl, rfl, by simp, fun j hj => by omega, HO0.out, (Below.refl _ _).alloc (Nat.le_refl _) _⟩
    case round =>
      obtain ⟨k, f, hk, hgk, rfl, hb8, hf, ho, hbw⟩ := hrel
      have HB8 := Lib.hid hb8
      have HGK := Lib.hid hgk
      have HW := Lib.hid hbw
      have HO := Lib.hid ho
      have HF := Lib.hid hf
      have hz := hbw.size
      clear hgk hbw ho hf hmk HO0 hb8
      by_cases hlt : k < m
      · obtain ⟨b, off, rfl, hb, c0, c1, c2⟩ := (HR.out.below HW.out).three hlt
        obtain ⟨b', off', rfl, hb', hc'⟩ := (HR'.out.below HW.out).some (by omega)
        have d0 := hc' k hlt
        clear hc'
        obtain ⟨a, ha⟩ : ∃ a, (g k).a = a := ⟨_, rfl⟩
        obtain ⟨y0, hy0⟩ : ∃ y0, (g k).c = y0 := ⟨_, rfl⟩
        obtain ⟨y1, hy1⟩ : ∃ y1, (g k).y = y1 := ⟨_, rfl⟩
        obtain ⟨z, hzr⟩ : ∃ z, r k = z := ⟨_, rfl⟩
        rw [ha] at c2
        rw [hy0] at c0
        rw [hy1] at c1
        rw [hzr] at d0
        have k0 : (0 : Int) ≤ (k : Int) := by omega
        have k1 : (k : Int) < (m : Int) := by omega
        clear hy0 hy1
        by_cases hkL : k < L
        · obtain ⟨hma, hrz⟩ := H1.out k hkL
          rw [ha] at hma
          rw [hzr] at hrz
          have hpm := rof_mon hma hrz
          obtain ⟨x, hx⟩ : ∃ x, rof a z = x := ⟨_, rfl⟩
          rw [hx] at hpm
          have HX := Lib.hid hx
          have EN : Hid (-partU g r k = -x) := Lib.hid (by
            show -rof (g k).a (r k) = -x
            rw [ha, hzr, hx])
          unfold Mon at hma hpm
          unfold RtOk at hrz
          have wx : IntKind.i64.wrap (-x) = -x := IntWalk.i64_in _ (by omega)
          have HMA := Lib.hid hma
          have HRZ := Lib.hid hrz
          have A1 := Lib.hid (show -400000000000 ≤ a ∧ a ≤ 400000000000 by omega)
          have Z1 := Lib.hid (show 0 ≤ z ∧ z ≤ 10000000 by omega)
          have hba := (Below.refl wr.heap.size wr).alloc (Nat.le_refl _) (.cells #[.int .i64 y0, .int .i64 y1, .int .i64 a] 81)
          have RA := rec_lit wr [.int .i64 y0, .int .i64 y1, .int .i64 a] 81 wr.heap.size rfl 2 _ rfl
          obtain ⟨wa, hwa⟩ : ∃ wa, wr.alloc (.cells #[.int .i64 y0, .int .i64 y1, .int .i64 a] 81) = wa := ⟨_, rfl⟩
          have RA2 : wa.cell? ⟨wr.heap.size, 2, none⟩ = some (.int .i64 a) := by rw [← hwa]; exact RA
          rw [hwa] at hba
          have d1 := cell_keep d0 hba
          have HA := Lib.hid hwa
          have BA := Lib.hid hba
          have D1 := Lib.hid d1
          have RR := Lib.hid RA2
          clear ha hzr hx hma hrz hpm hwa hba RA d1 RA2
          go_wp2_with (first | (go_at_call 20; (with_reducible refine (money_yes _ _ HMA.out.1 HMA.out.2).mono ?_); rintro e w' ⟨rfl, rfl⟩) | (go_at_call 19; (with_reducible refine (right_yes _ _ HRZ.out.1 HRZ.out.2).mono ?_); rintro e w' ⟨rfl, rfl⟩))
          rw [HA.out]
          clear HA c0 c1 c2 d0
          have scd : wa.drew.cell? ⟨wr.heap.size, 2, none⟩ = some (.int .i64 a) ∧ wa.drew.cell? ⟨b', off' + k, none⟩ = some (.int .i64 z) := ⟨RR.out, D1.out⟩
          have hrow := ((HO.out.below BA.out).row (by omega)).2 k hlt
          have hbz := ((HO.out.below BA.out).row (by omega)).1
          obtain ⟨fk, hfk⟩ : ∃ fk, f k = fk := ⟨_, rfl⟩
          rw [hfk] at hrow
          obtain ⟨v0, v1⟩ := hrow
          have v0' : wa.drew.cell? ⟨w.heap.size, k, none⟩ = some (.int .i64 fk) := v0
          have v1' : wa.drew.frozen? ⟨w.heap.size, k, none⟩ = false := v1
          refine wp_region_noPanic ?_
          refine AnyTill.begin (C := fun w' => w'.cell? ⟨wr.heap.size, 2, none⟩ = some (.int .i64 a) ∧ w'.cell? ⟨b', off' + k, none⟩ = some (.int .i64 z)) (q := 11) (by kernel_rfl) ?_
          refine AnyTill.tk 0 scd ?_
          refine AnyTill.tk 1 scd ?_
          refine AnyTill.tk 2 scd ?_
          refine AnyTill.tk 3 scd ?_
          refine AnyTill.tk 4 scd ?_
          refine AnyTill.tk 5 scd ?_
          refine AnyTill.tk 6 scd ?_
          refine AnyTill.tk 7 scd ?_
          refine AnyTill.tc (i := 8) (v := .int .i64 x) (f := 71) (args := #[.int .i64 a, .int .i64 z]) (hc := fun w' _ => pshr_at a z x w' A1.out Z1.out HX) (hC := scd) (h := ?_)
          refine AnyTill.tk 9 scd ?_
          refine AnyTill.tk 10 scd ?_
          refine AnyTill.on 11 fun K' hK => ?_
          go_simp
          refine hK.out _ _ (.inl rfl) ?_
          clear hK K'
          try simp only [pt]
          refine AnyTill.done (by kernel_rfl) ?_ _
          refine NoPanic.normal ?_
          clear scd hfk v0 v1 v0' v1'
          go_wp2
          go_roundg (m - (k + 1))
          case measure => have := HGK.out; omega
          case rel => exact ⟨k + 1, _, by omega, rfl, by go_num, by have := BA.out.size; have := HB8.out; simp; omega, fun j hj => by
              show (if j = k then -x else f j) = -partU g r j
              by_cases e : j = k
              · rw [if_pos e, e, EN.out]
              · rw [if_neg e]; exact HF.out j (by omega), (HO.out.below BA.out).set k (-x), (((HW.out.trans (BA.out.mono hz)).setCell (Nat.le_refl _) _)).drew⟩
        · obtain rfl : k = L := by omega
          obtain ⟨rfl, rfl⟩ : v = 0 ∧ e = 1 := by rcases HV.out with ⟨_, h⟩ | ⟨h, _⟩; exact h; omega
          have hb0 := H2.out hlt
          rw [ha, hzr] at hb0
          clear ha hzr hkL HV
          by_cases hma : Mon a
          · have hrz : ¬ (0 ≤ z ∧ z ≤ 1000000) := fun h => hb0 ⟨hma, h⟩
            unfold Mon at hma
            have HMA := Lib.hid hma
            have HRZ := Lib.hid (show z < 0 ∨ 1000000 < z by omega)
            have hba := (Below.refl wr.heap.size wr).alloc (Nat.le_refl _) (.cells #[.int .i64 y0, .int .i64 y1, .int .i64 a] 81)
            clear hma hrz hb0
            go_wp2_with (first | (go_at_call 20; (with_reducible refine (money_yes _ _ HMA.out.1 HMA.out.2).mono ?_); rintro e w' ⟨rfl, rfl⟩) | (go_at_call 19; (with_reducible refine (right_no _ _ HRZ.out).mono ?_); rintro e w' ⟨rfl, rfl⟩))
            go_ret2
            exact ⟨rfl, HW.out.alloc hz _⟩
          · have HMA := Lib.hid (show a < -100000000000 ∨ 100000000000 < a by unfold Mon at hma; omega)
            clear hma hb0
            go_wp2_with (first | (go_at_call 20; (with_reducible refine (money_no _ _ HMA.out).mono ?_); rintro e w' ⟨rfl, rfl⟩))
            go_ret2
            exact ⟨rfl, HW.out.alloc hz _⟩
      · obtain rfl : k = m := by omega
        obtain rfl : L = k := by omega
        have HSM := Lib.hid (sumis_neg (u := partU g r) (m := L) fun i hi => rof_mon (H1.out i hi).1 (H1.out i hi).2)
        have hown := (HO.out.ext HF.out).at
        obtain ⟨A7, c7, e7, _, _, hat⟩ := hown
        injection e7 with e7 _ e8
        subst e7 e8
        have hC : Hid (∀ j, j < L → wr.cell? ⟨w.heap.size, 0 + j, none⟩ = some (.int .i64 (-partU g r j))) := Lib.hid fun j hj => by
          obtain ⟨b9, o9, e9, _, hh⟩ := hat.some (by omega)
          injection e9 with e9
          injection e9 with e9 e10 _
          rw [e9, e10]; exact hh j hj
        have hb9 : w.heap.size < wr.heap.size := HB8.out
        rcases HV.out with ⟨h, _⟩ | ⟨_, ⟨h1, rfl, rfl⟩ | ⟨h1, hv, rfl⟩⟩
        · omega
        · have CS := Lib.hid (sum_some w.heap.size 0 L L (fun i => -partU g r i) 0 false wr hb9 hC (by omega) (Nat.le_refl _) (Lib.hid (HSM.out.2 h1)))
          clear hlt h1 HV
          go_wp2_with (go_at_call 61; (with_reducible refine (CS.out).mono ?_); rintro e w1 ⟨rfl, hb1⟩)
          go_ret2
          exact ⟨rfl, HW.out.trans (hb1.mono hz)⟩
        · have CS := Lib.hid (sum_some w.heap.size 0 L L (fun i => -partU g r i) (-tot (partU g r) L) true wr hb9 hC (by omega) (Nat.le_refl _) (Lib.hid (HSM.out.1 h1)))
          rw [← hv] at CS
          clear hlt h1 HV hv
          go_wp2_with (go_at_call 61; (with_reducible refine (CS.out).mono ?_); rintro e w1 ⟨rfl, hb1⟩)
          go_ret2
          exact ⟨rfl, HW.out.trans (hb1.mono hz)⟩
  · obtain ⟨rfl, rfl⟩ : v = 0 ∧ e = 1 := by
      rcases H with ⟨_, h⟩ | ⟨h, _⟩ | ⟨h, _⟩
      · exact h
      · exact absurd h.1 hmk0
      · exact absurd h.1 hmk0
    have ee : ((m : Int) != (k0 : Int)) = true := by simp; omega
    clear H hmk0
    go_enter Try.func47, Try.ntmps47
    go_wp2
    go_ret2
    exact ⟨rfl, Below.refl _ _⟩
end Go.Proofs.Ytmlafdehhbhbiaa

/- What is not expected of an asset: mathematics alone. -/
namespace Go.Proofs.Ytmlafdehhbhbiaa

/-- what is taken off an asset -/
def AlwIs (a r v e : Int) : Prop := (¬ ((0 ≤ a ∧ a ≤ 100000000000) ∧ RtOk r) ∧ v = 0 ∧ e = 1) ∨ (((0 ≤ a ∧ a ≤ 100000000000) ∧ RtOk r) ∧ v = -rof a r ∧ e = 0)
theorem alw_share {a r v e : Int} (h : ShareIs a r v e) : AlwIs a r (-v) e := by
  rcases h with ⟨h, rfl, he⟩ | ⟨h, rfl, he⟩
  · exact .inl ⟨h, rfl, he⟩
  · exact .inr ⟨h, rfl, he⟩
theorem share_low {a r v e : Int} (h : ShareIs a r v e) : 0 ≤ v ∧ v ≤ 100000000000 := by
  rcases h with ⟨_, rfl, _⟩ | ⟨h, rfl, _⟩
  · omega
  · have m := rof_mon (a := a) (z := r) (by unfold Mon; omega) h.2
    have s := (mul_sign (n := a) h.2.1).1 h.1.1
    unfold Mon at m
    refine ⟨?_, m.2⟩
    rw [rof_pos h.1.1]; omega
theorem alw_no {a r : Int} (h : ¬ ((0 ≤ a ∧ a ≤ 100000000000) ∧ RtOk r)) : AlwIs a r 0 1 := .inl ⟨h, rfl, rfl⟩
theorem alw_yes {a r : Int} (h : 0 ≤ a ∧ a ≤ 100000000000) (hr : 0 ≤ r ∧ r ≤ 1000000) : AlwIs a r (-rof a r) 0 := .inr ⟨⟨h, hr⟩, rfl, rfl⟩
/-- a part and the rest's -/
theorem rof_rest {n r : Int} (h : 0 ≤ n) (hr : 0 ≤ r ∧ r ≤ 1000000) : (0 ≤ rof n r ∧ rof n r ≤ n) ∧ (rof n r + rof n (1000000 - r) = n ∨ rof n r + rof n (1000000 - r) = n + 1) := by
  have h1 := Int.mul_nonneg h hr.1
  have h2 := Int.mul_le_mul_of_nonneg_left hr.2 h
  rw [rof_pos h, rof_pos h, Int.mul_sub]
  omega
/-- of more, or at a greater rate, no less; by no more than there is more -/
theorem rof_rises {n m r s : Int} (hn : 0 ≤ n) (hm : 0 ≤ m) (hr : 0 ≤ r ∧ r ≤ 500000) (hs : 0 ≤ s) : rof n r ≤ rof (n + m) r ∧ rof (n + m) r - rof n r ≤ m ∧ rof n r ≤ rof n (r + s) := by
  have h1 := Int.mul_nonneg hm hr.1
  have h2 := Int.mul_le_mul_of_nonneg_left hr.2 hm
  have h3 := Int.mul_nonneg hn hs
  rw [rof_pos hn, rof_pos (show 0 ≤ n + m by omega), rof_pos hn, Int.add_mul, Int.mul_add]
  omega
end Go.Proofs.Ytmlafdehhbhbiaa

/- Package allow, the program's own: a contract for each of its calls. -/
namespace Go.Proofs.Ytmlafdehhbhbiaa
open Go.RowKit
theorem palw_any (a r v e : Int) (H : AlwIs a r v e) (w : World) :
    Calls Try.prog 49 #[.int .i64 a, .int .i64 r] w fun e' w' => e' = .returned (.tuple #[.int .i64 v, .int .i64 e]) ∧ w = w' := by
  rcases H with ⟨h, rfl, rfl⟩ | ⟨⟨⟨h1, h2⟩, h3, h4⟩, rfl, rfl⟩
  · unfold RtOk at h
    rcases (show a < 0 ∨ (¬ a < 0 ∧ 100000000000 < a) ∨ (¬ a < 0 ∧ a ≤ 100000000000 ∧ (r < 0 ∨ 1000000 < r)) by omega) with q | ⟨q1, q2⟩ | ⟨q1, q2, q3⟩
    · clear h
      go_enter Try.func49, Try.ntmps49
      go_wp2
      go_ret2
      exact ⟨rfl, rfl⟩
    · clear h
      go_enter Try.func49, Try.ntmps49
      go_wp2_with (first | (go_at_call 20; (with_reducible refine (money_no _ _ (by omega)).mono ?_); rintro e w' ⟨rfl, rfl⟩))
      go_ret2
      exact ⟨rfl, rfl⟩
    · clear h
      go_enter Try.func49, Try.ntmps49
      go_wp2_with (first | (go_at_call 20; (with_reducible refine (money_yes _ _ (by omega) (by omega)).mono ?_); rintro e w' ⟨rfl, rfl⟩) | (go_at_call 19; (with_reducible refine (right_no _ _ (by omega)).mono ?_); rintro e w' ⟨rfl, rfl⟩))
      go_ret2
      exact ⟨rfl, rfl⟩
  · obtain ⟨m1, m2⟩ := (rof_rest (n := a) (r := r) h1 ⟨h3, h4⟩).1
    obtain ⟨x, hx⟩ : ∃ x, rof a r = x := ⟨_, rfl⟩
    have HX := Lib.hid hx
    have q1 : ¬ a < 0 := by omega
    rw [hx] at m1 m2
    rw [hx]
    clear hx
    go_enter Try.func49, Try.ntmps49
    go_wp2_with (first | (go_at_call 20; (with_reducible refine (money_yes _ _ (by omega) (by omega)).mono ?_); rintro e w' ⟨rfl, rfl⟩) | (go_at_call 19; (with_reducible refine (right_yes _ _ (by omega) (by omega)).mono ?_); rintro e w' ⟨rfl, rfl⟩) | (go_at_call 46; (with_reducible refine (of_at _ _ _ _ (by omega) (by omega) (by omega) (by omega) HX).mono ?_); rintro e w' ⟨rfl, rfl⟩))
    go_ret2
    exact ⟨rfl, rfl⟩
theorem pchg_any (a b : Int) (w : World) (h : -1000000000000 ≤ a - b ∧ a - b ≤ 1000000000000) :
    Calls Try.prog 55 #[.int .i64 a, .int .i64 b] w fun e w' => e = .returned (.int .i64 (a - b)) ∧ w = w' := by
  go_enter Try.func55, Try.ntmps55
  go_wp2
  go_ret
  exact ⟨rfl, rfl⟩
end Go.Proofs.Ytmlafdehhbhbiaa
