/- Floats that hold whole numbers from 0 to 2^53 - 1: what they are, sums, comparisons, back to whole numbers. No function of the program is named here. -/
import Derived.Laws.ComplexArith
import Derived.WalkKit
namespace Go.Proofs.Ytpbpflhoeidpnaa
/-- the word of a whole number from 0 to 2^53 - 1, by its rung -/
def wd (n : Nat) : Nat := if n = 0 then 0 else (n.log2 + 1022) * 2 ^ 52 + n * 2 ^ (52 - n.log2)

theorem log_bd {n : Nat} (h0 : n ≠ 0) (h : n < 2 ^ 53) : n.log2 ≤ 52 ∧ 2 ^ n.log2 ≤ n ∧ n < 2 ^ (n.log2 + 1) :=
  ⟨by have := (Nat.log2_lt h0).2 h; omega, Nat.log2_self_le h0, Nat.lt_log2_self⟩
theorem kept_bd {n : Nat} (h0 : n ≠ 0) (h : n < 2 ^ 53) : 2 ^ 52 ≤ n * 2 ^ (52 - n.log2) ∧ n * 2 ^ (52 - n.log2) < 2 ^ 53 := by
  obtain ⟨a, b, c⟩ := log_bd h0 h
  have e : 2 ^ n.log2 * 2 ^ (52 - n.log2) = 2 ^ 52 := by rw [← Nat.pow_add]; congr 1; omega
  have e2 : 2 ^ (n.log2 + 1) * 2 ^ (52 - n.log2) = 2 ^ 53 := by rw [← Nat.pow_add]; congr 1; omega
  have p : 0 < 2 ^ (52 - n.log2) := Nat.two_pow_pos _
  exact ⟨by rw [← e]; exact Nat.mul_le_mul_right _ b, by rw [← e2]; exact Nat.mul_lt_mul_of_pos_right c p⟩
theorem log_shift {n k : Nat} (h0 : n ≠ 0) : (n * 2 ^ k).log2 = n.log2 + k := by
  have p : 0 < 2 ^ k := Nat.two_pow_pos _
  have h : n * 2 ^ k ≠ 0 := Nat.mul_ne_zero h0 (by omega)
  refine (Nat.log2_eq_iff h).2 ⟨?_, ?_⟩
  · rw [Nat.pow_add]; exact Nat.mul_le_mul_right _ (Nat.log2_self_le h0)
  · rw [show n.log2 + k + 1 = n.log2 + 1 + k by omega, Nat.pow_add]; exact Nat.mul_lt_mul_of_pos_right Nat.lt_log2_self p
/-- a cut that drops zeros alone -/
theorem cut_exact (way : Ieee.Toward) (m d : Nat) (h : d ≤ (m * 2 ^ d).log2 + 2) : way.cut false (m * 2 ^ d) d = m := by
  have p : 0 < 2 ^ d := Nat.two_pow_pos _
  unfold Ieee.Toward.cut
  dsimp only
  rw [Nat.min_eq_left h, Nat.one_shiftLeft, Nat.mul_div_cancel _ p, Nat.mul_mod_left]
  cases way <;> simp
theorem rung_le {L q : Nat} (h : L ≤ 52) (hq : q < 2 ^ 53) : (L + 1022) * 2 ^ 52 + q ≤ 2047 * 2 ^ 52 := by omega
theorem nearest_exact {n K : Nat} (h : n < 2 ^ 53) : Ieee.double.nearest false (n * 2 ^ K) (-(K : Int)) = wd n := by
  by_cases h0 : n = 0
  · subst h0; simp [Ieee.Format.nearest, wd, Ieee.Format.word]
  · have p : 0 < 2 ^ K := Nat.two_pow_pos _
    have hm : n * 2 ^ K ≠ 0 := Nat.mul_ne_zero h0 (by omega)
    obtain ⟨a, b, c⟩ := log_bd h0 h
    obtain ⟨k1, k2⟩ := kept_bd h0 h
    unfold Ieee.Format.nearest
    rw [if_neg hm, log_shift h0]
    have hl : Ieee.double.leastPlace = -1074 := by decide
    have hf : Ieee.double.fractionBits = 52 := rfl
    have hlast : max (-(K : Int) + ((n.log2 + K : Nat) : Int) - (Ieee.double.fractionBits : Int)) Ieee.double.leastPlace = (n.log2 : Int) - 52 := by rw [hl, hf]; omega
    simp only [hlast]
    rw [hl]
    have hkept : Ieee.Toward.even.cut false ((n * 2 ^ K) <<< (-(K : Int) - ((n.log2 : Int) - 52)).toNat) ((n.log2 : Int) - 52 - (-(K : Int))).toNat = n * 2 ^ (52 - n.log2) := by
      rw [Nat.shiftLeft_eq]
      rcases Nat.le_total (52 - n.log2) K with q | q
      · have e1 : (-(K : Int) - ((n.log2 : Int) - 52)).toNat = 0 := by omega
        have e2 : ((n.log2 : Int) - 52 - (-(K : Int))).toNat = K - (52 - n.log2) := by omega
        rw [e1, e2]
        have e3 : n * 2 ^ K * 2 ^ 0 = (n * 2 ^ (52 - n.log2)) * 2 ^ (K - (52 - n.log2)) := by
          rw [Nat.pow_zero, Nat.mul_one, Nat.mul_assoc, ← Nat.pow_add]; congr 2; omega
        rw [e3]
        refine cut_exact _ _ _ ?_
        rw [Nat.mul_assoc, ← Nat.pow_add, log_shift h0]; omega
      · have e1 : (-(K : Int) - ((n.log2 : Int) - 52)).toNat = 52 - n.log2 - K := by omega
        have e2 : ((n.log2 : Int) - 52 - (-(K : Int))).toNat = 0 := by omega
        rw [e1, e2]
        have e3 : n * 2 ^ K * 2 ^ (52 - n.log2 - K) = (n * 2 ^ (52 - n.log2)) * 2 ^ 0 := by
          rw [Nat.pow_zero, Nat.mul_one, Nat.mul_assoc, ← Nat.pow_add]; congr 2; omega
        rw [e3]
        exact cut_exact _ _ _ (by omega)
    rw [hkept]
    have hi : Ieee.double.infRung = 2047 * 2 ^ 52 := by decide
    have hb : Ieee.double.binade = 2 ^ 52 := rfl
    rw [hi, hb]
    have e4 : ((n.log2 : Int) - 52 - -1074).toNat = n.log2 + 1022 := by omega
    rw [e4]
    unfold wd; rw [if_neg h0]
    unfold Ieee.Format.word
    simp only [Bool.false_eq_true, if_false]
    exact Nat.min_eq_left (rung_le a k2)
theorem read_zero (K : Nat) (h : K = 1074) : Ieee.double.read (wd 0) = .number false (0 * 2 ^ K) (-(K : Int)) := by
  rw [Nat.zero_mul, h]; decide
theorem read_wd {n : Nat} (h : n < 2 ^ 53) : ∃ K : Nat, Ieee.double.read (wd n) = .number false (n * 2 ^ K) (-(K : Int)) ∧ (n ≠ 0 → K ≤ 52) := by
  by_cases h0 : n = 0
  · subst h0; exact ⟨_, read_zero 1074 rfl, by simp⟩
  · obtain ⟨a, b, c⟩ := log_bd h0 h
    obtain ⟨k1, k2⟩ := kept_bd h0 h
    refine ⟨52 - n.log2, ?_, fun _ => by omega⟩
    generalize hq : n * 2 ^ (52 - n.log2) = q at k1 k2
    have hw : wd n = (n.log2 + 1023) * 2 ^ 52 + (q - 2 ^ 52) := by unfold wd; rw [if_neg h0, hq]; omega
    have hs : Ieee.double.signWeight = 2 ^ 63 := rfl
    have hi : Ieee.double.infRung = 2047 * 2 ^ 52 := by decide
    have hb : Ieee.double.binade = 2 ^ 52 := rfl
    have hl : Ieee.double.leastPlace = -1074 := by decide
    unfold Ieee.Format.read
    rw [hs, hi, hb, hl, hw]
    generalize n.log2 = L at *
    have m1 : ((L + 1023) * 2 ^ 52 + (q - 2 ^ 52)) / 2 ^ 63 % 2 = 0 := by omega
    have m2 : ((L + 1023) * 2 ^ 52 + (q - 2 ^ 52)) % 2 ^ 63 = (L + 1023) * 2 ^ 52 + (q - 2 ^ 52) := by omega
    simp only [m1, m2]
    rw [if_neg (by omega), if_pos (by omega)]
    have m3 : 2 ^ 52 + ((L + 1023) * 2 ^ 52 + (q - 2 ^ 52)) % 2 ^ 52 = q := by omega
    have m4 : ((L + 1023) * 2 ^ 52 + (q - 2 ^ 52)) / 2 ^ 52 - 1 = L + 1022 := by omega
    rw [m3, m4]
    have m5 : (-1074 : Int) + ((L + 1022 : Nat) : Int) = -((52 - L : Nat) : Int) := by omega
    rw [m5]; rfl
/-- the float of a whole number -/
abbrev fl (n : Int) : Nat := floatOfInt .f64 n
theorem fl_wd {n : Int} (h : 0 ≤ n) (h2 : n < 9007199254740992) : fl n = wd n.toNat := by
  have e := nearest_exact (n := n.toNat) (K := 0) (by omega)
  simp only [Nat.pow_zero, Nat.mul_one] at e
  rw [← e]
  show Ieee.double.nearest (decide (n < 0)) n.natAbs 0 = _
  have e1 : decide (n < 0) = false := by simpa using h
  have e2 : n.natAbs = n.toNat := by omega
  rw [e1, e2]; rfl
theorem signed_pos (m k : Nat) : Ieee.signed false m k = ((m * 2 ^ k : Nat) : Int) := by simp [Ieee.signed, Nat.shiftLeft_eq]
theorem align {n K J : Nat} (h : K ≤ J) : n * 2 ^ K * 2 ^ (-(K : Int) - -(J : Int)).toNat = n * 2 ^ J := by
  rw [show (-(K : Int) - -(J : Int)).toNat = J - K by omega, Nat.mul_assoc, ← Nat.pow_add]; congr 2; omega
theorem fl_add {a b : Int} (h1 : 0 ≤ a) (h2 : 0 ≤ b) (h3 : a + b < 9007199254740992) : floatBits .add .f64 (fl a) (fl b) = some (fl (a + b)) := by
  rw [fl_wd h1 (by omega), fl_wd h2 (by omega), fl_wd (by omega) h3]
  obtain ⟨K, r1, _⟩ := read_wd (n := a.toNat) (by omega)
  obtain ⟨J, r2, _⟩ := read_wd (n := b.toNat) (by omega)
  have e : (a + b).toNat = a.toNat + b.toNat := by omega
  rw [e]
  generalize hn : a.toNat = n at *
  generalize hm : b.toNat = m at *
  show (Ieee.double.add (wd n) (wd m)) = _
  unfold Ieee.Format.add
  rw [r1, r2]
  simp only [Ieee.Datum.sum, signed_pos]
  have hb : min (-(K : Int)) (-(J : Int)) = -((max K J : Nat) : Int) := by omega
  rw [hb, align (Nat.le_max_left ..), align (Nat.le_max_right ..)]
  generalize max K J = M
  have hs : ((n * 2 ^ M : Nat) : Int) + ((m * 2 ^ M : Nat) : Int) = (((n + m) * 2 ^ M : Nat) : Int) := by rw [Nat.add_mul, Int.natCast_add]
  rw [hs]
  simp only [Option.map_some, Int.natAbs_natCast]
  have hneg : (if (((n + m) * 2 ^ M : Nat) : Int) = 0 then (false && false) else decide ((((n + m) * 2 ^ M : Nat) : Int) < 0)) = false := by
    split
    · rfl
    · exact decide_eq_false (Int.not_lt.2 (Int.natCast_nonneg _))
  rw [hneg]
  show some (Ieee.double.nearest false ((n + m) * 2 ^ M) (-(M : Int))) = _
  rw [nearest_exact (by omega)]
theorem fl_order {a b : Int} (h1 : 0 ≤ a) (h2 : 0 ≤ b) (h3 : a < 9007199254740992) (h4 : b < 9007199254740992) : (FloatKind.f64.format.order (fl a) (fl b) == some .eq) = decide (a = b) := by
  rw [fl_wd h1 (by omega), fl_wd h2 (by omega)]
  obtain ⟨K, r1, _⟩ := read_wd (n := a.toNat) (by omega)
  obtain ⟨J, r2, _⟩ := read_wd (n := b.toNat) (by omega)
  have ea : a = (a.toNat : Int) := by omega
  have eb : b = (b.toNat : Int) := by omega
  rw [show decide (a = b) = decide (a.toNat = b.toNat) by congr 1; exact propext ⟨fun h => by rw [h], fun h => by omega⟩]
  generalize hn : a.toNat = n at *
  generalize hm : b.toNat = m at *
  show (Ieee.double.order (wd n) (wd m) == _) = _
  unfold Ieee.Format.order
  rw [r1, r2]
  simp only [Ieee.Datum.order, signed_pos]
  have hb : min (-(K : Int)) (-(J : Int)) = -((max K J : Nat) : Int) := by omega
  rw [hb, align (Nat.le_max_left ..), align (Nat.le_max_right ..)]
  have p : 0 < 2 ^ (max K J) := Nat.two_pow_pos _
  by_cases q : n = m
  · subst q; simp [compare, compareOfLessAndEq]
  · have : ¬ (((n * 2 ^ max K J : Nat) : Int) = ((m * 2 ^ max K J : Nat) : Int)) := fun h => q (Nat.eq_of_mul_eq_mul_right p (by exact_mod_cast h))
    simp only [compare, compareOfLessAndEq, this, q, if_false, decide_false]
    split <;> rfl
theorem fl_int {a : Int} (h1 : 0 ≤ a) (h3 : a < 9007199254740992) : floatToIntVal .f64 (fl a) .i64 = some a := by
  rw [fl_wd h1 (by omega)]
  obtain ⟨K, r1, hK⟩ := read_wd (n := a.toNat) (by omega)
  have ea : a = (a.toNat : Int) := by omega
  generalize hn : a.toNat = n at *
  unfold floatToIntVal
  show (match (Ieee.double.read (wd n)).toInt .zero with | some n => _ | none => _) = _
  rw [r1]
  have e : Ieee.Datum.toInt .zero (.number false (n * 2 ^ K) (-(K : Int))) = some (n : Int) := by
    unfold Ieee.Datum.toInt Ieee.Datum.integral
    simp only
    rw [show (-(K : Int)).toNat = 0 by omega, show (- -(K : Int)).toNat = K by omega]
    have : Ieee.Toward.zero.cut false ((n * 2 ^ K) <<< 0) K = n := by
      rw [Nat.shiftLeft_zero]
      by_cases h0 : n = 0
      · subst h0; simp [Ieee.Toward.cut]
      · exact cut_exact _ _ _ (by rw [log_shift h0]; omega)
    rw [this]; simp [Ieee.signed]
  rw [e, ← ea]
  simp [IntKind.min, IntKind.max, IntKind.signed, IntKind.bits]; omega
theorem fl_sum {a b c d : Int} (h1 : 0 ≤ a) (h2 : 0 ≤ b) (h3 : 0 ≤ c) (h4 : 0 ≤ d) (h5 : a + c < 9007199254740992) (h6 : b + d < 9007199254740992) :
    cSumBits .add .f64 (fl a) (fl b) (fl c) (fl d) = some (fl (a + c), fl (b + d)) := by
  unfold cSumBits; rw [fl_add h1 h3 h5, fl_add h2 h4 h6]; rfl
theorem fl_zero : fl 0 = 0 := by rw [fl_wd (by omega) (by omega)]; rfl
end Go.Proofs.Ytpbpflhoeidpnaa
