/- Several texts of mine in one: Math PerMath Tot Text Rate Mem Obj Ints Period RefP Play. -/
import Derived.WalkKit
import Derived.Laws.BytesArg
import Derived.WalkLawsBesides
import Derived.Test.YtmlafdehhbhbiaaRows
import Derived.WalkSpells
import Derived.Lib.Hide
import Derived.Deep.QuietTactic
import Derived.OpenShut
import Derived.Laws.OwnMore
import Derived.OwnWalk
import Derived.Deep.OwnRows
import Derived.Maps.AppendAt
import Derived.Deep.AppendLies
import Derived.Laws.AppendOwnNone
import Derived.BigQuiet
/- Plain mathematics of parts of amounts; no function of the program is named here. -/
namespace Go.Proofs.Ytmlafdehhbhbiaa
/-- the part of n at the rate r, rounded, halves away from 0 -/
def rof (n r : Int) : Int := if n < 0 then -((-(n * r) + 500000) / 1000000) else (n * r + 500000) / 1000000
theorem mul_bd {n r A B : Int} (h1 : -A ≤ n) (h2 : n ≤ A) (h3 : 0 ≤ r) (h4 : r ≤ B) : -(A * B) ≤ n * r ∧ n * r ≤ A * B := by
  have hA : 0 ≤ A := by omega
  have a := Int.mul_le_mul_of_nonneg_right h2 h3
  have b := Int.mul_le_mul_of_nonneg_left h4 hA
  have c := Int.mul_le_mul_of_nonneg_right h1 h3
  rw [Int.neg_mul] at c
  omega
theorem rof_bd {n r : Int} (h1 : -400000000000 ≤ n) (h2 : n ≤ 400000000000) (h3 : 0 ≤ r) (h4 : r ≤ 10000000) : -4000000000000 ≤ rof n r ∧ rof n r ≤ 4000000000000 := by
  have := mul_bd h1 h2 h3 h4
  unfold rof; split <;> omega
theorem mul_sign {n r : Int} (h3 : 0 ≤ r) : (0 ≤ n → 0 ≤ n * r) ∧ (n < 0 → n * r ≤ 0) := by
  refine ⟨fun h => Int.mul_nonneg h h3, fun h => ?_⟩
  have := Int.mul_nonneg (show 0 ≤ -n by omega) h3
  rw [Int.neg_mul] at this; omega
theorem rof_near {n r : Int} (h3 : 0 ≤ r) : -500000 ≤ n * r - rof n r * 1000000 ∧ n * r - rof n r * 1000000 ≤ 500000 ∧ (0 ≤ n → n * r - rof n r * 1000000 < 500000) ∧ (n ≤ 0 → -500000 < n * r - rof n r * 1000000) := by
  have hs := mul_sign (n := n) h3
  have h0 : n = 0 → n * r = 0 := by rintro rfl; simp
  unfold rof; split <;> omega
theorem rof_neg {n r : Int} : rof (-n) r = -rof n r := by
  have h0 : n = 0 → n * r = 0 := by rintro rfl; simp
  unfold rof; rw [Int.neg_mul]; split <;> split <;> omega
theorem rof_whole (n : Int) : rof n 1000000 = n := by unfold rof; split <;> omega
theorem rof_none (n : Int) : rof n 0 = 0 := by unfold rof; simp
theorem rof_pos {n r : Int} (h : 0 ≤ n) : rof n r = (n * r + 500000) / 1000000 := by unfold rof; rw [if_neg (by omega)]
theorem rises (N M R S : Int) (n1 : 0 ≤ N) (m1 : 0 ≤ M) (r1 : 0 ≤ R) (s1 : 0 ≤ S) (r2 : R ≤ 1000000) :
    (rof N R ≤ rof (N + M) R ∧ rof (N + M) R - rof N R ≤ M) ∧ rof N R ≤ rof N (R + S) ∧ rof N R ≤ rof N 1000000 ∧ rof N (R + S) - rof N R - rof N S ≤ 1 ∧ -1 ≤ rof N (R + S) - rof N R - rof N S := by
  have a1 : (N + M) * R = N * R + M * R := Int.add_mul ..
  have a2 : N * (R + S) = N * R + N * S := Int.mul_add ..
  have b1 := Int.mul_nonneg m1 r1
  have b2 := Int.mul_nonneg n1 s1
  have b4 := Int.mul_nonneg n1 r1
  have b3 := Int.mul_le_mul_of_nonneg_left r2 m1
  have b5 := Int.mul_le_mul_of_nonneg_left r2 n1
  rw [rof_pos n1, rof_pos n1, rof_pos n1, rof_pos n1, rof_pos (by omega), a1, a2]
  omega
theorem ret_i {k : IntKind} {a b : Int} (h : a = b) : Ending.returned (.int k a) = .returned (.int k b) := by rw [h]
theorem ret_b {a b : Bool} (h : a = b) : Ending.returned (.bool a) = .returned (.bool b) := by rw [h]
theorem ret_ib {k : IntKind} {a b : Int} {p q : Bool} (h : a = b) (g : p = q) : Ending.returned (.tuple #[.int k a, .bool p]) = .returned (.tuple #[.int k b, .bool q]) := by rw [h, g]
end Go.Proofs.Ytmlafdehhbhbiaa

/- Texts of periods, as bytes; no function of the program is named here. -/
namespace Go.Proofs.Ytmlafdehhbhbiaa
/-- the text of period p -/
def ptb (p : Int) : ByteArray := strOfNums [50, 48, 48 + p / 4 / 10, 48 + p / 4 % 10, 113, 48 + (p % 4 + 1)]
theorem bytes_inj' {xs ys : List Int} (h : (strOfNums xs).toList = (strOfNums ys).toList) (hx : ∀ x ∈ xs, 0 ≤ x ∧ x ≤ 255) (hy : ∀ y ∈ ys, 0 ≤ y ∧ y ≤ 255) : xs = ys := by
  rw [ByteArray.toList_eq, ByteArray.toList_eq, strOfNums_data, strOfNums_data] at h
  have hl : xs.length = ys.length := by simpa using congrArg List.length h
  refine List.ext_getElem hl fun i h1 h2 => ?_
  have e : (xs.map fun n => UInt8.ofNat n.toNat)[i]'(by simpa using h1) = (ys.map fun n => UInt8.ofNat n.toNat)[i]'(by simpa using h2) := by
    simp only [h]
  simp only [List.getElem_map] at e
  have e := congrArg UInt8.toNat e
  obtain ⟨a1, a2⟩ := hx _ (List.getElem_mem h1)
  obtain ⟨b1, b2⟩ := hy _ (List.getElem_mem h2)
  simp at e
  omega
theorem ptb_in {p : Int} (h1 : 0 ≤ p) (h2 : p ≤ 399) : ∀ x ∈ [50, 48, 48 + p / 4 / 10, 48 + p / 4 % 10, 113, 48 + (p % 4 + 1)], 0 ≤ x ∧ x ≤ 255 := by
  intro x hx
  simp at hx
  omega
theorem ptb_size (p : Int) : (ptb p).size = 6 := by unfold ptb; rw [strOfNums_size]; rfl
theorem ptb_inj {p q : Int} (h1 : 0 ≤ p) (h2 : p ≤ 399) (h3 : 0 ≤ q) (h4 : q ≤ 399) (h : (ptb p).toList = (ptb q).toList) : p = q := by
  have e := bytes_inj' h (ptb_in h1 h2) (ptb_in h3 h4)
  simp at e
  omega
theorem ptb_eql {p q : Int} (h1 : 0 ≤ p) (h2 : p ≤ 399) (h3 : 0 ≤ q) (h4 : q ≤ 399) : ((ptb p).toList == (ptb q).toList) = decide (p = q) := by
  rw [Bool.eq_iff_iff]
  simp
  exact ⟨fun h => ptb_inj h1 h2 h3 h4 (by simpa using h), fun h => by rw [h]⟩
theorem less_cons (a b : UInt8) (x y : List UInt8) : Op.bytesLess (a :: x) (b :: y) = (decide (a < b) || (a == b && Op.bytesLess x y)) := by rw [Op.bytesLess]
theorem u8_lt {a b : Int} (h1 : 0 ≤ a) (h2 : a ≤ 255) (h3 : 0 ≤ b) (h4 : b ≤ 255) : (UInt8.ofNat a.toNat < UInt8.ofNat b.toNat) ↔ a < b := by
  rw [UInt8.lt_iff_toNat_lt]; simp; omega
theorem u8_eq {a b : Int} (h1 : 0 ≤ a) (h2 : a ≤ 255) (h3 : 0 ≤ b) (h4 : b ≤ 255) : (UInt8.ofNat a.toNat = UInt8.ofNat b.toNat) ↔ a = b := by
  constructor
  · intro h; have := congrArg UInt8.toNat h; simp at this; omega
  · intro h; rw [h]
theorem ptb_less {p q : Int} (h1 : 0 ≤ p) (h2 : p ≤ 399) (h3 : 0 ≤ q) (h4 : q ≤ 399) : Op.bytesLess (ptb p).toList (ptb q).toList = decide (p < q) := by
  rw [ByteArray.toList_eq, ByteArray.toList_eq]
  unfold ptb
  rw [strOfNums_data, strOfNums_data]
  simp only [List.map_cons, List.map_nil, less_cons]
  rw [show Op.bytesLess [] [] = false from rfl, Bool.eq_iff_iff]
  have l1 := u8_lt (a := 48 + p / 4 / 10) (b := 48 + q / 4 / 10) (by omega) (by omega) (by omega) (by omega)
  have l2 := u8_lt (a := 48 + p / 4 % 10) (b := 48 + q / 4 % 10) (by omega) (by omega) (by omega) (by omega)
  have l3 := u8_lt (a := 48 + (p % 4 + 1)) (b := 48 + (q % 4 + 1)) (by omega) (by omega) (by omega) (by omega)
  have e1 := u8_eq (a := 48 + p / 4 / 10) (b := 48 + q / 4 / 10) (by omega) (by omega) (by omega) (by omega)
  have e2 := u8_eq (a := 48 + p / 4 % 10) (b := 48 + q / 4 % 10) (by omega) (by omega) (by omega) (by omega)
  simp only [Bool.or_eq_true, Bool.and_eq_true, decide_eq_true_eq, beq_iff_eq, Bool.false_eq_true, and_false, or_false, l1, l2, l3, e1, e2]
  have n1 : ¬ (UInt8.ofNat (50 : Int).toNat < UInt8.ofNat (50 : Int).toNat) := by decide
  have n2 : ¬ (UInt8.ofNat (48 : Int).toNat < UInt8.ofNat (48 : Int).toNat) := by decide
  have n3 : ¬ (UInt8.ofNat (113 : Int).toNat < UInt8.ofNat (113 : Int).toNat) := by decide
  simp only [n1, n2, n3, false_or, true_and]
  omega
end Go.Proofs.Ytmlafdehhbhbiaa

/- Plain mathematics: sums of the first numbers of a row; a row with one number put in place of another. -/
namespace Go.Proofs.Ytmlafdehhbhbiaa
/-- an amount -/
def Mon (x : Int) : Prop := -100000000000 ≤ x ∧ x ≤ 100000000000
/-- the sum of the first k numbers -/
def tot (g : Nat → Int) : Nat → Int
  | 0 => 0
  | k + 1 => tot g k + g k
theorem tot_bd (g : Nat → Int) : ∀ k, (∀ j, j < k → Mon (g j)) → -100000000000 * (k : Int) ≤ tot g k ∧ tot g k ≤ 100000000000 * (k : Int)
  | 0, _ => by simp [tot]
  | k + 1, h => by
    have a := tot_bd g k (fun j hj => h j (by omega))
    have b := h k (by omega)
    unfold Mon at b
    rw [tot]; omega
theorem tot_ext {g h : Nat → Int} : ∀ n, (∀ j, j < n → g j = h j) → tot g n = tot h n
  | 0, _ => rfl
  | n + 1, e => by rw [tot, tot, tot_ext n (fun j hj => e j (by omega)), e n (by omega)]
theorem tot_shift (g : Nat → Int) : ∀ n, tot g (n + 1) = g 0 + tot (fun j => g (j + 1)) n
  | 0 => by simp [tot]
  | n + 1 => by rw [tot, tot_shift g n, tot]; omega
theorem tot_rev (g : Nat → Int) : ∀ n, tot (fun j => g (n - 1 - j)) n = tot g n
  | 0 => rfl
  | n + 1 => by
    rw [tot_shift, tot]
    have := tot_rev g n
    rw [← this, Int.add_comm]
    congr 1
    refine tot_ext n fun j hj => ?_
    show g _ = g _
    congr 1; omega

theorem tot_mul (a : Int) (g : Nat → Int) : ∀ n, tot (fun j => a * g j) n = a * tot g n
  | 0 => by simp [tot]
  | n + 1 => by rw [tot, tot, tot_mul a g n, Int.mul_add]
theorem tot_add (g h : Nat → Int) : ∀ n, tot (fun j => g j + h j) n = tot g n + tot h n
  | 0 => by simp [tot]
  | n + 1 => by rw [tot, tot, tot, tot_add g h n]; omega
theorem tot_neg (g : Nat → Int) : ∀ n, tot (fun j => -g j) n = -tot g n
  | 0 => by simp [tot]
  | n + 1 => by rw [tot, tot, tot_neg g n]; omega
theorem tot_le {g h : Nat → Int} : ∀ n, (∀ j, j < n → g j ≤ h j) → tot g n ≤ tot h n
  | 0, _ => Int.le_refl _
  | n + 1, e => by rw [tot, tot]; have := tot_le (g := g) (h := h) n (fun j hj => e j (by omega)); have := e n (by omega); omega
theorem tot_zero {g : Nat → Int} : ∀ n, (∀ j, j < n → g j = 0) → tot g n = 0
  | 0, _ => rfl
  | n + 1, e => by rw [tot, tot_zero n (fun j hj => e j (by omega)), e n (by omega)]; rfl
theorem tot_const (c : Int) : ∀ n : Nat, tot (fun _ => c) n = c * n
  | 0 => by simp [tot]
  | n + 1 => by rw [tot, tot_const c n]; rw [show ((n + 1 : Nat) : Int) = (n : Int) + 1 by omega, Int.mul_add]; omega
/-- the row h with x at place k -/
def upd (h : Nat → Int) (k : Nat) (x : Int) : Nat → Int := fun j => if j = k then x else h j
theorem upd_same (h : Nat → Int) (k : Nat) (x : Int) : upd h k x k = x := if_pos rfl
theorem upd_other (h : Nat → Int) {k j : Nat} (x : Int) (e : j ≠ k) : upd h k x j = h j := if_neg e
theorem tot_upd (h : Nat → Int) (k : Nat) (x : Int) : ∀ n, k < n → tot (upd h k x) n = tot h n - h k + x
  | n + 1, hk => by
    rw [tot, tot]
    by_cases e : k = n
    · subst e
      rw [upd_same, tot_ext (h := h) k (fun j hj => upd_other h x (by omega))]; omega
    · rw [tot_upd h k x n (by omega), upd_other h x (by omega)]; omega
theorem tot_nonneg {g : Nat → Int} : ∀ n, (∀ j, j < n → 0 ≤ g j) → 0 ≤ tot g n
  | 0, _ => Int.le_refl _
  | n + 1, e => by rw [tot]; have := tot_nonneg (g := g) n (fun j hj => e j (by omega)); have := e n (by omega); omega
theorem tot_pos_ex {g : Nat → Int} : ∀ n, 0 < tot g n → ∃ j, j < n ∧ 0 < g j
  | 0, h => by simp [tot] at h
  | n + 1, h => by
    rw [tot] at h
    by_cases e : 0 < g n
    · exact ⟨n, by omega, e⟩
    · obtain ⟨j, hj, k⟩ := tot_pos_ex (g := g) n (by omega); exact ⟨j, by omega, k⟩
theorem tot_one_le {g : Nat → Int} : ∀ n, (∀ j, j < n → 0 ≤ g j) → ∀ i, i < n → g i ≤ tot g n
  | n + 1, e, i, hi => by
    rw [tot]
    by_cases h : i = n
    · subst h; have := tot_nonneg (g := g) i (fun j hj => e j (by omega)); omega
    · have := tot_one_le (g := g) n (fun j hj => e j (by omega)) i (by omega); have := e n (by omega); omega
end Go.Proofs.Ytmlafdehhbhbiaa

/- Texts: alike, or empty, or not. -/
namespace Go.Proofs.Ytmlafdehhbhbiaa

theorem bytes_is (t s : ByteArray) : (t.toList == s.toList) = true ↔ t = s := by
  rw [beq_iff_eq, ByteArray.toList_eq, ByteArray.toList_eq]
  exact ⟨fun h => Go.WideShapes.bytes_inj h, fun h => by rw [h]⟩
theorem bytes_not {t s : ByteArray} (h : t ≠ s) : (t.toList == s.toList) = false := by
  rw [Bool.eq_false_iff]; exact fun e => h ((bytes_is t s).1 e)
theorem ent_some {ent : ByteArray} (h : ent ≠ ⟨#[]⟩) : ent.toList.isEmpty = false ∧ ¬ ent.toList = [] := by
  have e : (⟨#[]⟩ : ByteArray).toList = [] := by rw [ByteArray.toList_eq]
  have k : ¬ ent.toList = [] := fun q => h ((bytes_is ent ⟨#[]⟩).1 (by rw [e, q]; rfl))
  exact ⟨by simpa using k, k⟩
end Go.Proofs.Ytmlafdehhbhbiaa

/- What package rate's functions, and the statements' own small helps, answer: a contract for each. -/
namespace Go.Proofs.Ytmlafdehhbhbiaa
open Go.RowKit

theorem within_any (v n : Int) (w : World) (h1 : 1 ≤ n) (h2 : n ≤ 4611686018427387904) :
    Calls Try.prog 7 #[.int .i64 v, .int .i64 n] w fun e w' => e = .returned (.int .i64 (v % n)) ∧ w = w' := by
  have ht := Int.tmod_eq_emod_of_nonneg (a := v) (b := n)
  have hb : v.tmod n < n ∧ -n < v.tmod n := ⟨Int.tmod_lt_of_pos v (by omega), by have := Int.lt_tmod_of_pos v (show 0 < n by omega); omega⟩
  obtain ⟨hb1, hb2⟩ := hb
  have e1 : v % n = if v.tmod n < 0 then v.tmod n + n else v.tmod n := by
    have hq : v.tmod n = v - n * v.tdiv n := by have := Int.tmod_add_mul_tdiv v n; omega
    split
    · have : (v.tmod n + n) % n = v % n := by
        rw [hq]; rw [show v - n * v.tdiv n + n = v + n * (1 - v.tdiv n) by rw [Int.mul_sub]; omega]; exact Int.add_mul_emod_self_left ..
      rw [← this]; exact (Int.emod_eq_of_lt (by omega) (by omega))
    · have : (v.tmod n) % n = v % n := by
        rw [hq]; rw [show v - n * v.tdiv n = v + n * (- v.tdiv n) by rw [Int.mul_neg]; omega]; exact Int.add_mul_emod_self_left ..
      rw [← this]; exact (Int.emod_eq_of_lt (by omega) (by omega))
  have H := Lib.hid e1; clear e1 ht
  by_cases h : v.tmod n < 0
  all_goals
    go_enter Try.func7, Try.ntmps7
    go_wp2
    go_ret
    exact ⟨ret_i (by have := H.out; first | rwa [if_pos h, eq_comm] at this | rwa [if_neg (by omega), eq_comm] at this), rfl⟩

theorem of_in (n r : Int) (w : World) (h1 : -400000000000 ≤ n) (h2 : n ≤ 400000000000) (h3 : 0 ≤ r) (h4 : r ≤ 10000000) :
    Calls Try.prog 46 #[.int .i64 n, .int .i64 r] w fun e w' => e = .returned (.tuple #[.int .i64 (rof n r), .bool true]) ∧ w = w' := by
  obtain ⟨hb1, hb2⟩ := mul_bd h1 h2 h3 h4
  obtain ⟨hs1, hs2⟩ := mul_sign (n := n) h3
  by_cases h : n < 0
  · have hz := hs2 h
    have e : (n * r + -500000).tdiv 1000000 = rof n r := by
      unfold rof; rw [if_pos h]
      rw [show n * r + -500000 = -(-(n*r) + 500000) by omega, Int.neg_tdiv, Int.tdiv_eq_ediv_of_nonneg (by omega)]
    have E := Lib.hid e; clear e hs1 hs2
    go_enter Try.func46, Try.ntmps46
    go_wp2
    go_ret2
    exact ⟨ret_ib (by first | rfl | exact E.out) rfl, rfl⟩
  · have hz := hs1 (by omega)
    have e : (n * r + 500000) / 1000000 = rof n r := by
      unfold rof; rw [if_neg h]
    have E := Lib.hid e; clear e hs1 hs2
    go_enter Try.func46, Try.ntmps46
    go_wp2
    go_ret2
    exact ⟨ret_ib (by first | rfl | exact E.out) rfl, rfl⟩

theorem of_out (n r : Int) (w : World) (h : n < -400000000000 ∨ 400000000000 < n ∨ r < 0 ∨ 10000000 < r) :
    Calls Try.prog 46 #[.int .i64 n, .int .i64 r] w fun e w' => e = .returned (.tuple #[.int .i64 0, .bool false]) ∧ w = w' := by
  by_cases a : n < -400000000000 <;> by_cases b : 400000000000 < n <;> by_cases c : r < 0 <;> by_cases d : 10000000 < r <;> first | omega | skip
  all_goals
    clear h
    go_enter Try.func46, Try.ntmps46
    go_wp2
    go_ret2
    exact ⟨rfl, rfl⟩

theorem within_at (v n x : Int) (w : World) (h1 : 1 ≤ n) (h2 : n ≤ 4611686018427387904) (H : Hid (v % n = x)) :
    Calls Try.prog 7 #[.int .i64 v, .int .i64 n] w fun e w' => e = .returned (.int .i64 x) ∧ w = w' :=
  (within_any v n w h1 h2).mono fun _ _ ⟨he, hw⟩ => ⟨by rw [he, H.out], hw⟩
theorem of_at (n r a : Int) (w : World) (h1 : -400000000000 ≤ n) (h2 : n ≤ 400000000000) (h3 : 0 ≤ r) (h4 : r ≤ 10000000) (H : Hid (rof n r = a)) :
    Calls Try.prog 46 #[.int .i64 n, .int .i64 r] w fun e w' => e = .returned (.tuple #[.int .i64 a, .bool true]) ∧ w = w' :=
  (of_in n r w h1 h2 h3 h4).mono fun _ _ ⟨he, hw⟩ => ⟨by rw [he, H.out], hw⟩

theorem money_yes (n : Int) (w : World) (h1 : -100000000000 ≤ n) (h2 : n ≤ 100000000000) :
    Calls Try.prog 20 #[.int .i64 n] w fun e w' => e = .returned (.bool true) ∧ w = w' := by
  go_enter Try.func20, Try.ntmps20
  go_wp2
  all_goals
    go_ret
    exact ⟨ret_b (by first | rfl | (simp; omega)), rfl⟩
theorem money_no (n : Int) (w : World) (h : n < -100000000000 ∨ 100000000000 < n) :
    Calls Try.prog 20 #[.int .i64 n] w fun e w' => e = .returned (.bool false) ∧ w = w' := by
  go_enter Try.func20, Try.ntmps20
  go_wp2
  all_goals
    go_ret
    exact ⟨ret_b (by first | rfl | (simp; omega)), rfl⟩
theorem right_yes (n : Int) (w : World) (h1 : 0 ≤ n) (h2 : n ≤ 1000000) :
    Calls Try.prog 19 #[.int .i64 n] w fun e w' => e = .returned (.bool true) ∧ w = w' := by
  go_enter Try.func19, Try.ntmps19
  go_wp2
  all_goals
    go_ret
    exact ⟨ret_b (by first | rfl | (simp; omega)), rfl⟩
theorem right_no (n : Int) (w : World) (h : n < 0 ∨ 1000000 < n) :
    Calls Try.prog 19 #[.int .i64 n] w fun e w' => e = .returned (.bool false) ∧ w = w' := by
  go_enter Try.func19, Try.ntmps19
  go_wp2
  all_goals
    go_ret
    exact ⟨ret_b (by first | rfl | (simp; omega)), rfl⟩
theorem floor_yes (n r : Int) (w : World) (h1 : 0 ≤ n) (h2 : n ≤ 100000000000) (h3 : 0 ≤ r) (h4 : r ≤ 1000000) :
    Calls Try.prog 64 #[.int .i64 n, .int .i64 r] w fun e w' => e = .returned (.tuple #[.int .i64 (n * r / 1000000), .bool true]) ∧ w = w' := by
  obtain ⟨hb1, hb2⟩ := mul_bd (A := 100000000000) (by omega) h2 h3 h4
  have hz := (mul_sign (n := n) h3).1 h1
  go_enter Try.func64, Try.ntmps64
  go_wp2_with (first | (go_at_call 20; refine (money_yes _ _ (by omega) (by omega)).mono ?_; rintro e w' ⟨rfl, rfl⟩) | (go_at_call 19; refine (right_yes _ _ (by omega) (by omega)).mono ?_; rintro e w' ⟨rfl, rfl⟩))
  go_ret2
  exact ⟨ret_ib rfl rfl, rfl⟩
theorem floor_no (n r : Int) (w : World) (h : n < 0 ∨ 100000000000 < n ∨ r < 0 ∨ 1000000 < r) :
    Calls Try.prog 64 #[.int .i64 n, .int .i64 r] w fun e w' => e = .returned (.tuple #[.int .i64 0, .bool false]) ∧ w = w' := by
  by_cases a : n < 0 <;> by_cases b : 100000000000 < n <;> by_cases c : r < 0 ∨ 1000000 < r <;> first | omega | skip
  all_goals
    clear h
    go_enter Try.func64, Try.ntmps64
    go_wp2_with (first | (go_at_call 20; refine (money_yes _ _ (by omega) (by omega)).mono ?_; rintro e w' ⟨rfl, rfl⟩) | (go_at_call 20; refine (money_no _ _ (by omega)).mono ?_; rintro e w' ⟨rfl, rfl⟩) | (go_at_call 19; refine (right_yes _ _ (by omega) (by omega)).mono ?_; rintro e w' ⟨rfl, rfl⟩) | (go_at_call 19; refine (right_no _ _ (by omega)).mono ?_; rintro e w' ⟨rfl, rfl⟩))
    go_ret2
    exact ⟨rfl, rfl⟩
theorem floor_at (n r a : Int) (w : World) (h1 : 0 ≤ n) (h2 : n ≤ 100000000000) (h3 : 0 ≤ r) (h4 : r ≤ 1000000) (H : Hid (n * r / 1000000 = a)) :
    Calls Try.prog 64 #[.int .i64 n, .int .i64 r] w fun e w' => e = .returned (.tuple #[.int .i64 a, .bool true]) ∧ w = w' :=
  (floor_yes n r w h1 h2 h3 h4).mono fun _ _ ⟨he, hw⟩ => ⟨by rw [he, H.out], hw⟩
end Go.Proofs.Ytmlafdehhbhbiaa

/- Words for what lies in memory: cells in a row that are read, and rows of the call's own. -/
namespace Go.Proofs.Ytmlafdehhbhbiaa
open Go.RowKit

/-- WHAT THE WALK IS TOLD OF A SLICE OF WHOLE NUMBERS THAT CAME IN (the shell of the kit's page names it so). -/
def IsRow (k : IntKind) (w : World) (a : Option Addr) (len cap : Nat) (zs : List Int) : Prop :=
  (a = none ∧ len = 0 ∧ cap = 0 ∧ zs = []) ∨
  ∃ x, a = some x ∧ len ≤ cap ∧ cap ≤ maxLen ∧ zs.length = cap ∧ (∀ i, i < zs.length → w.cell? (x.add i) = some (.int k (zs.getD i 0))) ∧ ∀ n ∈ zs, (Lit.int k n).wf = true

/-- the cells xs stand in a row from A on, below block B; of A nothing is said where there is none -/
def Cells (w : World) (B : Nat) (A : Option Addr) (xs : List Value) : Prop :=
  xs = [] ∨ ∃ b off, A = some ⟨b, off, none⟩ ∧ b < B ∧ ∀ j u, xs[j]? = some u → w.cell? ⟨b, off + j, none⟩ = some u

section
variable {w w' : World} {B B' : Nat} {A : Option Addr} {xs : List Value}
theorem Cells.below (h : Cells w B A xs) (k : Below B w w') : Cells w' B A xs := by
  rcases h with h | ⟨b, off, e, hb, hc⟩
  · exact .inl h
  · exact .inr ⟨b, off, e, hb, fun j u hu => (k.cell (p := ⟨b, off + j, none⟩) hb).trans (hc j u hu)⟩
theorem Cells.mono (h : Cells w B A xs) (k : B ≤ B') : Cells w B' A xs := by
  rcases h with h | ⟨b, off, e, hb, hc⟩
  · exact .inl h
  · exact .inr ⟨b, off, e, by omega, hc⟩
theorem Cells.take (h : Cells w B A xs) (k : Nat) : Cells w B A (xs.take k) := by
  rcases h with h | ⟨b, off, e, hb, hc⟩
  · exact .inl (by simp [h])
  · refine .inr ⟨b, off, e, hb, fun j u hu => hc j u ?_⟩
    rw [List.getElem?_take] at hu; split at hu <;> simp_all
theorem Cells.ints {zs : List Int} (h : Cells w B A (zs.map (Value.int .i64))) (hp : 0 < zs.length) :
    ∃ b off, A = some ⟨b, off, none⟩ ∧ b < B ∧ ∀ j, j < zs.length → w.cell? ⟨b, off + j, none⟩ = some (.int .i64 (zs.getD j 0)) := by
  rcases h with h | ⟨b, off, e, hb, hc⟩
  · simp at h; subst h; simp at hp
  · exact ⟨b, off, e, hb, fun j hj => hc j _ (by simp [List.getD, hj])⟩
theorem Cells.of_ints {a : Addr} {zs : List Int} (h : ∀ i, i < zs.length → w.cell? (a.add i) = some (.int .i64 (zs.getD i 0))) (hB : w.heap.size ≤ B) : Cells w B (some a) (zs.map (Value.int .i64)) := by
  rcases Nat.eq_zero_or_pos zs.length with h0 | h0
  · exact .inl (by simp [List.eq_nil_of_length_eq_zero h0])
  · obtain ⟨b, off, rfl, hc⟩ := ints_at h h0
    refine .inr ⟨b, off, rfl, ?_, fun j u hu => ?_⟩
    · have := World.block_lt_of_cell? w _ (hc 0 h0); simp at this; omega
    · rw [List.getElem?_map] at hu
      cases hj : zs[j]? with
      | none => simp [hj] at hu
      | some z =>
        simp [hj] at hu; subst hu
        have hl : j < zs.length := (List.getElem?_eq_some_iff.1 hj).1
        rw [hc j hl]; simp [List.getD, hj]
theorem Cells.of_own {base size c n : Nat} {e : TypeId} (h : w.ownsRow base e size (.slice A n c) n xs) (hB : w.heap.size ≤ B) : Cells w B A xs := by
  rcases h.2 with ⟨hv, h0⟩ | ⟨g, cap, cur, hv, _, hg, _⟩
  · exact .inl (List.eq_nil_of_length_eq_zero (by rw [h.1, h0, Nat.zero_mul]))
  · injection hv with hA _ _; subst hA
    refine .inr ⟨g, 0, rfl, ?_, fun j u hu => ?_⟩
    · have := (Array.getElem?_eq_some_iff.1 hg).1; omega
    · have := h.cells (g := g) rfl j u hu
      have e : (⟨g, 0, none⟩ : Addr).add j = ⟨g, 0 + j, none⟩ := by unfold Addr.add; split <;> simp_all
      rwa [e] at this
end
/-- what came in, as cells: the elements up to the length -/
theorem IsRow.cells {w : World} {A : Option Addr} {n c : Nat} {zs : List Int} (h : IsRow .i64 w A n c zs) :
    Cells w w.heap.size A ((zs.take n).map (Value.int .i64)) ∧ (zs.take n).length = n ∧ n ≤ c ∧ c ≤ maxLen ∧ (A = none → n = 0 ∧ c = 0) ∧ (∀ z ∈ zs.take n, (Lit.int .i64 z).wf = true) := by
  rcases h with ⟨rfl, rfl, rfl, rfl⟩ | ⟨x, rfl, h1, h2, h3, h4, h5⟩
  · exact ⟨.inl (by simp), by simp, by simp, by simp, fun _ => ⟨rfl, rfl⟩, by simp⟩
  · refine ⟨?_, by simp; omega, h1, h2, (by intro h; cases h), fun z hz => h5 z (List.mem_of_mem_take hz)⟩
    rw [List.map_take]
    exact (Cells.of_ints h4 (Nat.le_refl _)).take n
/-- a row of the call's own as an address, a length, a room -/
theorem own_form {w : World} {base n size : Nat} {e : TypeId} {v : Value} {xs : List Value} (h : w.ownsRow base e size v n xs) :
    ∃ A c, v = .slice A n c ∧ n ≤ c ∧ c ≤ maxLen ∧ (A = none → n = 0 ∧ c = 0) := by
  rcases h.2 with ⟨rfl, rfl⟩ | ⟨g, cap, cur, rfl, _, _, h1, h2, _⟩
  · exact ⟨none, 0, rfl, Nat.le_refl _, Nat.zero_le _, fun _ => ⟨rfl, rfl⟩⟩
  · exact ⟨_, cap, rfl, h1, h2, by intro h; cases h⟩
theorem bcell {w w1 : World} (hb : Below w.heap.size w w1) : (∀ b o, b < w.heap.size → w1.cell? ⟨b, o, none⟩ = w.cell? ⟨b, o, none⟩) ∧ (∀ b o, b < w.heap.size → w1.frozen? ⟨b, o, none⟩ = w.frozen? ⟨b, o, none⟩) :=
  ⟨fun b o h => hb.cell (p := ⟨b, o, none⟩) h, fun b o h => hb.frozen (p := ⟨b, o, none⟩) h⟩

theorem drewN_below (B : Nat) (w : World) (n : Nat) : Below B w (w.drewN n) := ⟨rfl, rfl, rfl, Nat.le_refl _, fun _ _ => rfl⟩
theorem below_of_drewN {w w' : World} {n : Nat} (h : Below (w.drewN n).heap.size (w.drewN n) w') : Below w.heap.size w w' := by
  have k := drewN_below w.heap.size w n
  exact k.trans (h.mono k.size)
theorem quiet_same {P : Program} {f : FuncId} {args : Array Value} {w : World} {n : Nat} {v : Value}
    (h : Calls P f args (w.drewN n) fun e w' => e = .returned v ∧ w.drewN n = w') : Calls P f args (w.drewN n) fun e w'' => e = .returned v ∧ ∃ m, w'' = w.drewN m :=
  h.mono fun _ _ ⟨he, hm⟩ => ⟨he, n, hm.symm⟩

/-- block b's first n cells are the numbers h, and none is frozen -/
def Row (w : World) (b n : Nat) (h : Nat → Int) : Prop :=
  b < w.heap.size ∧ ∀ j, j < n → w.cell? ⟨b, j, none⟩ = some (.int .i64 (h j)) ∧ w.frozen? ⟨b, j, none⟩ = false
section
variable {w w1 : World} {b n : Nat} {h : Nat → Int}
theorem Row.below (r : Row w b n h) (k : Below w.heap.size w w1) : Row w1 b n h :=
  ⟨Nat.lt_of_lt_of_le r.1 k.size, fun j hj => ⟨(k.cell (p := ⟨b, j, none⟩) r.1).trans (r.2 j hj).1, (k.frozen (p := ⟨b, j, none⟩) r.1).trans (r.2 j hj).2⟩⟩
theorem Row.ext {h' : Nat → Int} (r : Row w b n h) (e : ∀ j, j < n → h j = h' j) : Row w b n h' :=
  ⟨r.1, fun j hj => ⟨by rw [← e j hj]; exact (r.2 j hj).1, (r.2 j hj).2⟩⟩
theorem Row.set (r : Row w b n h) {k : Nat} (hk : k < n) (x : Int) : Row (w.setCell ⟨b, k, none⟩ (.int .i64 x)) b n (fun j => if j = k then x else h j) := by
  refine ⟨by simpa using r.1, fun j hj => ⟨?_, by simpa using (r.2 j hj).2⟩⟩
  by_cases e : j = k
  · subst e; simp only [if_true]; exact World.cell?_setCell_same _ _ _ (r.2 j hj).1
  · simp only [if_neg e]; rw [World.cell?_setCell_other _ _ _ _ (by intro q; injection q with _ q; exact e q.symm)]; exact (r.2 j hj).1
theorem Row.of_own {base c : Nat} {e : TypeId} {g : Nat} {zs : List Int} (o : w.ownsRow base e 1 (.slice (some ⟨g, 0, none⟩) n c) n (zs.map (Value.int .i64))) :
    base ≤ g ∧ Row w g n (fun j => zs.getD j 0) := by
  have hl := o.lt g rfl
  refine ⟨hl.1, hl.2, fun j hj => ⟨?_, o.frozenAt j⟩⟩
  have hn : zs.length = n := by have := o.1; simpa using this
  rw [o.cellAt j (by omega)]
  simp [List.getD, show j < zs.length by omega]
theorem Row.hid (r : Row w b n h) : Hid (∀ j, j < n → w.cell? ⟨b, 0 + j, none⟩ = some (.int .i64 (h j))) := Lib.hid fun j hj => by rw [Nat.zero_add]; exact (r.2 j hj).1
end
theorem own_some {w : World} {base n size : Nat} {e : TypeId} {v : Value} {xs : List Value} (h : w.ownsRow base e size v n xs) (hp : 0 < n) :
    ∃ g c, v = .slice (some ⟨g, 0, none⟩) n c ∧ n ≤ c ∧ c ≤ maxLen := by
  rcases h.2 with ⟨_, h0⟩ | ⟨g, cap, cur, rfl, _, _, h1, h2, _⟩
  · omega
  · exact ⟨g, cap, rfl, h1, h2⟩
/-- a literal list in a new block -/
theorem lit_row (w : World) (zs : List Int) (t : TypeId) : Row (w.alloc (.cells (zs.map (Value.int .i64)).toArray t)) w.heap.size zs.length (fun j => zs.getD j 0) := by
  have hh := heap_alloc_new w (.cells (zs.map (Value.int .i64)).toArray t)
  refine ⟨by simp, fun j hj => ⟨?_, ?_⟩⟩
  · rw [cell_of_row _ w.heap.size j _ t (0, 0) (heap_alloc_new w _)]
    simp [List.getD, hj]
  · simp only [World.frozen?, hh]; simp


/-- a new list of zeros -/
theorem made_row (w : World) (n : Nat) (t : TypeId) : Row (w.alloc (.cells (madeCells #[.int .i64 0] n) t)) w.heap.size n (fun _ => 0) := by
  have hh := heap_alloc_new w (.cells (madeCells #[.int .i64 0] n) t)
  refine ⟨by simp, fun j hj => ⟨?_, ?_⟩⟩
  · rw [cell_of_row _ w.heap.size j _ t (0, 0) (heap_alloc_new w _)]
    simp [madeCells, hj, Nat.mod_one]
  · simp only [World.frozen?, hh]; simp
theorem lit_row' (w : World) (zs : List Int) (t : TypeId) (b : Nat) (h : w.heap.size = b) : Row (w.alloc (.cells (zs.map (Value.int .i64)).toArray t)) b zs.length (fun j => zs.getD j 0) := h ▸ lit_row w zs t
theorem made_row' (w : World) (n : Nat) (t : TypeId) (b : Nat) (h : w.heap.size = b) : Row (w.alloc (.cells (madeCells #[.int .i64 0] n) t)) b n (fun _ => 0) := h ▸ made_row w n t
/-- n whole numbers g can be read from A on -/
def At (w : World) (A : Option Addr) (n : Nat) (g : Nat → Int) : Prop :=
  n = 0 ∨ ∃ b off, A = some ⟨b, off, none⟩ ∧ b < w.heap.size ∧ ∀ j, j < n → w.cell? ⟨b, off + j, none⟩ = some (.int .i64 (g j))
section
variable {w w1 : World} {A : Option Addr} {n b : Nat} {g : Nat → Int}
theorem At.below (r : At w A n g) (k : Below w.heap.size w w1) : At w1 A n g := by
  rcases r with h | ⟨b, off, e, hb, hc⟩
  · exact .inl h
  · exact .inr ⟨b, off, e, Nat.lt_of_lt_of_le hb k.size, fun j hj => (k.cell (p := ⟨b, off + j, none⟩) hb).trans (hc j hj)⟩
theorem At.ext {g' : Nat → Int} (r : At w A n g) (e : ∀ j, j < n → g j = g' j) : At w A n g' := by
  rcases r with h | ⟨b, off, ea, hb, hc⟩
  · exact .inl h
  · exact .inr ⟨b, off, ea, hb, fun j hj => by rw [← e j hj]; exact hc j hj⟩
theorem At.some (r : At w A n g) (hn : 0 < n) : ∃ b off, A = some ⟨b, off, none⟩ ∧ b < w.heap.size ∧ ∀ j, j < n → w.cell? ⟨b, off + j, none⟩ = some (.int .i64 (g j)) := by
  rcases r with h | h
  · omega
  · exact h
theorem Row.at (r : Row w b n g) : At w (.some ⟨b, 0, none⟩) n g := .inr ⟨b, 0, rfl, r.1, fun j hj => by rw [Nat.zero_add]; exact (r.2 j hj).1⟩
end
/-- what came in can be read -/
theorem IsRow.at {w : World} {A : Option Addr} {n c : Nat} {zs : List Int} (h : IsRow .i64 w A n c zs) :
    At w A n (fun j => zs.getD j 0) ∧ n ≤ c ∧ c ≤ maxLen ∧ (A = none → n = 0 ∧ c = 0) ∧ ∀ j, (Lit.int .i64 (zs.getD j 0)).wf = true := by
  obtain ⟨h1, h2, h3, h4, h5, h6⟩ := h.cells
  refine ⟨?_, h3, h4, h5, fun j => ?_⟩
  · rcases Nat.eq_zero_or_pos n with e | e
    · exact .inl e
    · obtain ⟨b, off, ea, hb, hc⟩ := h1.ints (by omega)
      exact .inr ⟨b, off, ea, hb, fun j hj => by rw [hc j (by omega)]; simp [List.getD, hj]⟩
  · rcases h with ⟨_, _, _, rfl⟩ | ⟨x, _, _, _, _, _, hw⟩
    · rfl
    · rw [List.getD_eq_getElem?_getD]
      cases hj : zs[j]? with
      | none => rfl
      | some z => exact hw z (List.mem_of_getElem? hj)
theorem IsRow.below {w w1 : World} {A : Option Addr} {n c : Nat} {zs : List Int} (h : IsRow .i64 w A n c zs) (k : Below w.heap.size w w1) : IsRow .i64 w1 A n c zs := by
  rcases h with h | ⟨x, rfl, h1, h2, h3, h4, h5⟩
  · exact .inl h
  · exact .inr ⟨x, rfl, h1, h2, h3, fun i hi => (World.cell?_of_block (k.block _ (World.block_lt_of_cell? _ _ (h4 i hi)))).trans (h4 i hi), h5⟩
theorem wf_i64 {z : Int} (h : (Lit.int .i64 z).wf = true) : -9223372036854775808 ≤ z ∧ z ≤ 9223372036854775807 := by
  simp [Lit.wf, IntKind.min, IntKind.max, IntKind.signed, IntKind.bits] at h; omega
/-- a slice of the call's own (from block base on): n whole numbers g -/
def Own (w : World) (E : TypeId) (base : Nat) (v : Value) (n : Nat) (g : Nat → Int) : Prop :=
  w.ownsRow base E 1 v n ((List.range n).map fun j => .int .i64 (g j))
section
variable {w w1 : World} {E : TypeId} {base n : Nat} {v : Value} {g : Nat → Int}
theorem Own.nil (w : World) (E : TypeId) (base : Nat) (g : Nat → Int) : Own w E base (.slice none 0 0) 0 g := World.ownsRow_nil _ _ _ _
theorem Own.ext {g' : Nat → Int} (o : Own w E base v n g) (e : ∀ j, j < n → g j = g' j) : Own w E base v n g' := by
  have : ((List.range n).map fun j => Value.int .i64 (g' j)) = (List.range n).map fun j => .int .i64 (g j) :=
    List.map_congr_left fun j hj => by rw [e j (by simpa using hj)]
  unfold Own; rw [this]; exact o
theorem Own.kept {row : Option Nat} (o : Own w E base v n g) (hg : w.grownBy w1 row) (hne : v.ownBlock = none ∨ v.ownBlock ≠ row) : Own w1 E base v n g := World.ownsRow.kept o hg hne
theorem Own.alloc (o : Own w E base v n g) (x : Obj) : Own (w.alloc x) E base v n g := World.ownsRow.alloc o x
theorem Own.below (o : Own w E base v n g) (k : Below w.heap.size w w1) : Own w1 E base v n g :=
  o.kept (row := none) ⟨k.os, k.tape, k.output, k.size, fun i hi _ => k.block i hi⟩ (by cases h : v.ownBlock <;> simp)
theorem Own.form (o : Own w E base v n g) : ∃ A c, v = .slice A n c ∧ n ≤ c ∧ c ≤ maxLen ∧ (A = none → n = 0 ∧ c = 0) := own_form o
theorem Own.some (o : Own w E base v n g) (hp : 0 < n) : ∃ b c, v = .slice (.some ⟨b, 0, none⟩) n c ∧ n ≤ c ∧ c ≤ maxLen ∧ base ≤ b ∧ Row w b n g := by
  obtain ⟨b, c, rfl, h1, h2⟩ := own_some o hp
  have e : ((List.range n).map fun j => Value.int .i64 (g j)) = ((List.range n).map g).map (Value.int .i64) := by simp
  have o' := o
  unfold Own at o'; rw [e] at o'
  obtain ⟨h3, h4⟩ := Row.of_own o'
  exact ⟨b, c, rfl, h1, h2, h3, h4.ext fun j hj => by simp [hj]⟩
theorem Own.row {b c : Nat} (o : Own w E base (.slice (.some ⟨b, 0, none⟩) n c) n g) (hp : 0 < n) : Row w b n g := by
  obtain ⟨b', c', e, _, _, _, r⟩ := o.some hp
  injection e with e1 _ _
  injection e1 with e1
  injection e1 with e1
  subst e1; exact r
theorem Own.at (o : Own w E base v n g) : ∃ A c, v = .slice A n c ∧ n ≤ c ∧ c ≤ maxLen ∧ At w A n g := by
  rcases Nat.eq_zero_or_pos n with e | e
  · obtain ⟨A, c, h1, h2, h3, _⟩ := o.form; exact ⟨A, c, h1, h2, h3, .inl e⟩
  · obtain ⟨b, c, h1, h2, h3, _, r⟩ := o.some e; exact ⟨_, c, h1, h2, h3, r.at⟩
end
/-- two slices do not share their arrays -/
def Apart (v v' : Value) : Prop := ∀ k, v.ownBlock = some k → v'.ownBlock ≠ some k
theorem Apart.symm {v v' : Value} (h : Apart v v') : Apart v' v := fun k a b => h k b a
theorem Apart.nil (v : Value) : Apart (.slice none 0 0) v := fun k h => by simp [Value.ownBlock] at h
/-- the one that was appended to lies where it lay, or in a new block -/
theorem Apart.push {w : World} {E : TypeId} {base n' : Nat} {v v' : Value} {g' : Nat → Int} (h : Apart v v') (o' : Own w E base v' n' g') {b n c H : Nat} (hb : v.ownBlock = some b ∨ b = H) (hH : w.heap.size ≤ H) : Apart (.slice (some ⟨b, 0, none⟩) n c) v' := by
  intro k hk
  have : b = k := by simpa [Value.ownBlock] using hk
  subst this
  rcases hb with hb | rfl
  · exact h _ hb
  · intro e; have := (World.ownsRow.lt o' _ e).2; omega
/-- an own slice stays, while another one is appended to -/
theorem Own.beside {w w1 : World} {E : TypeId} {base n : Nat} {v v' : Value} {g : Nat → Int} (o : Own w E base v n g) (hg : w.grownBy w1 v'.ownBlock) (ha : Apart v v') : Own w1 E base v n g := by
  refine o.kept hg ?_
  cases h : v.ownBlock with
  | none => exact .inl rfl
  | some k => exact .inr fun e => ha k h e.symm
/-- one number more at the end of an own slice -/
theorem wpList_push_int {P : Program} {ops : Array Oper} {rest : List Oper} {o : Oper} {a : Act} {Q : Exit → Act → World → Prop} {i : TypeInfo} {T E : TypeId} {w : World}
    (hgd : o.guard = none) (s x : Operand) (ho : o.op = .call { callee := .builtin .append, args := #[s, x], argTypes := #[T, T] })
    (ht : P.underlying T = some (.slice E)) (hi : P.info? E = some i) (hz : i.zero = some (.int .i64 0)) (hsize : i.size = 1) (hby : i.bytes = 8)
    (W : World) (base n X : Nat) (v : Value) (g : Nat → Int) (z : Int) (hs : a.eval s = v) (hx : a.eval x = .slice (some ⟨X, 0, none⟩) 1 1) (hc : w.cell? ⟨X, 0, none⟩ = some (.int .i64 z))
    (hown : Own w E base v n g) (hn : n ≤ 1000000) (hW : Below base W w) (hb : base ≤ w.heap.size) (H : Nat) (hH : w.heap.size = H)
    (h : ∀ b c w', Own w' E base (.slice (some ⟨b, 0, none⟩) (n + 1) c) (n + 1) (fun j => if j = n then z else g j) → Below base W w' → w.grownBy w' v.ownBlock → (v.ownBlock = some b ∨ b = H) → wpList P ops Q rest (a.put o.dst (.slice (some ⟨b, 0, none⟩) (n + 1) c)) w') :
    wpList P ops Q (o :: rest) a w := by
  refine wpList_append_lies _ hgd s x T ho base E i (.int .i64 0) 1 8 ht hi hz hsize hby rfl (by decide) v n _ hs hown ⟨X, 0, none⟩ 1 1 [.int .i64 z] hx rfl ?_ (ints_oneCell .i64 [z]) (by decide) (by unfold maxLen; omega) (by omega) hb H hH ?_
  · intro j u hu
    match j, hu with
    | 0, hu => simp at hu; subst hu; rw [show (⟨X, 0, none⟩ : Addr).add 0 = ⟨X, 0, none⟩ by unfold Addr.add; split <;> simp_all]; exact hc
  intro b c w' ho' hg hat _
  refine h b c w' ?_ (hW.grown hg hb (fun k hk => (World.ownsRow.lt hown k hk).1)) hg hat
  have e : ((List.range (n + 1)).map fun j => Value.int .i64 (if j = n then z else g j)) = ((List.range n).map fun j => Value.int .i64 (g j)) ++ [.int .i64 z] := by
    rw [List.range_succ, List.map_append]
    congr 1
    · refine List.map_congr_left fun j hj => ?_
      have hj' : j < n := by simpa using hj
      rw [if_neg (by omega)]
    · simp
  unfold Own; rw [e]; exact ho'
theorem Own.drew {w : World} {E : TypeId} {base n : Nat} {v : Value} {g : Nat → Int} (o : Own w E base v n g) : Own w.drew E base v n g := o
/-- one number more, at a step of a region that draws its order -/
theorem step_push_int {P : Program} {ops : Array Oper} {o : Oper} {a : Act} {K : Act → World → Prop} {Q : Exit → Act → World → Prop} {Z : Prop} {i : TypeInfo} {T E : TypeId} {w : World}
    (hgd : o.guard = none) (s x : Operand) (ho : o.op = .call { callee := .builtin .append, args := #[s, x], argTypes := #[T, T] })
    (ht : P.underlying T = some (.slice E)) (hi : P.info? E = some i) (hz : i.zero = some (.int .i64 0)) (hsize : i.size = 1) (hby : i.bytes = 8)
    (W : World) (base n X : Nat) (v : Value) (g : Nat → Int) (z : Int) (hs : a.eval s = v) (hx : a.eval x = .slice (some ⟨X, 0, none⟩) 1 1) (hc : w.cell? ⟨X, 0, none⟩ = some (.int .i64 z))
    (hown : Own w E base v n g) (hn : n ≤ 1000000) (hW : Below base W w) (hb : base ≤ w.heap.size) (H : Nat) (hH : w.heap.size = H)
    (h : ∀ b c w', Own w' E base (.slice (some ⟨b, 0, none⟩) (n + 1) c) (n + 1) (fun j => if j = n then z else g j) → Below base W w' → w.grownBy w' v.ownBlock → (v.ownBlock = some b ∨ b = H) → K (a.put o.dst (.slice (some ⟨b, 0, none⟩) (n + 1) c)) w') :
    if Region.wanted o (yielded ops a.tmps) = true then Oper.wp P o a w K Q else Z := by
  refine step_append_lies _ hgd s x T ho base E i (.int .i64 0) 1 8 ht hi hz hsize hby rfl (by decide) v n _ hs hown ⟨X, 0, none⟩ 1 1 [.int .i64 z] hx rfl ?_ (ints_oneCell .i64 [z]) (by decide) (by unfold maxLen; omega) (by omega) hb H hH ?_
  · intro j u hu
    match j, hu with
    | 0, hu => simp at hu; subst hu; rw [show (⟨X, 0, none⟩ : Addr).add 0 = ⟨X, 0, none⟩ by unfold Addr.add; split <;> simp_all]; exact hc
  intro b c w' ho' hg hat _
  refine h b c w' ?_ (hW.grown hg hb (fun k hk => (World.ownsRow.lt hown k hk).1)) hg hat
  have e : ((List.range (n + 1)).map fun j => Value.int .i64 (if j = n then z else g j)) = ((List.range n).map fun j => Value.int .i64 (g j)) ++ [.int .i64 z] := by
    rw [List.range_succ, List.map_append]
    congr 1
    · refine List.map_congr_left fun j hj => ?_
      have hj' : j < n := by simpa using hj
      rw [if_neg (by omega)]
    · simp
  unfold Own; rw [e]; exact ho'
/-- one number of an own slice is put in place of another -/
theorem Own.set {w : World} {E : TypeId} {base n b c : Nat} {g : Nat → Int} (o : Own w E base (.slice (Option.some ⟨b, 0, none⟩) n c) n g) (k : Nat) (x : Int) : Own (w.setCell ⟨b, k, none⟩ (.int .i64 x)) E base (.slice (Option.some ⟨b, 0, none⟩) n c) n (fun j => if j = k then x else g j) := by
  have h := (World.ownsRow.stored o k (.int .i64 x)).1
  unfold Own
  have e : ((List.range n).map fun j => Value.int .i64 (if j = k then x else g j)) = ((List.range n).map fun j => Value.int .i64 (g j)).set k (.int .i64 x) := by
    apply List.ext_getElem (by simp)
    intro j h1 h2
    simp at h1
    rw [List.getElem_set]
    by_cases e : k = j
    · subst e; simp
    · simp [e, show ¬ j = k from fun q => e q.symm]
  rw [e]; exact h
/-- a cell of a block that came behind an own slice stays, while that slice is appended to -/
theorem Own.far {w0 w w1 : World} {E : TypeId} {base n : Nat} {v : Value} {g : Nat → Int} (o : Own w0 E base v n g) (hg : w.grownBy w1 v.ownBlock) {X : Nat} {u : Value} (h0 : w0.heap.size ≤ X) (hc : w.cell? ⟨X, 0, none⟩ = Option.some u) : w1.cell? ⟨X, 0, none⟩ = Option.some u := by
  have hX := World.block_lt_of_cell? w _ hc
  rw [hg.cell_far ⟨X, 0, none⟩ hX ?_]
  · exact hc
  · intro e; have := (World.ownsRow.lt o _ e.symm).2; simp at this; omega
/-- a list of zeros, made by the call -/
theorem own_made (w : World) (n : Nat) (E : TypeId) (base : Nat) (hb : base ≤ w.heap.size) (hn : n ≤ maxLen) :
    Own (w.alloc (.cells (madeCells #[.int .i64 0] n) E)) E base (.slice (some ⟨w.heap.size, 0, none⟩) n n) n (fun _ => 0) := by
  have h := World.ownsRow_lit (base := base) (e := E) (size := 1) w (madeCells #[.int .i64 0] n) n hb hn (by simp [size_madeCells])
  rw [toList_madeCells_one] at h
  have e : ((List.range n).map fun _ => Value.int .i64 0) = List.replicate n (.int .i64 0) := by
    apply List.ext_getElem (by simp)
    intro j h1 h2
    simp
  unfold Own; rw [e]; exact h
end Go.Proofs.Ytmlafdehhbhbiaa

/- Objects of a call's own that live on: a mark for each block tells which calls may write it; what a call leaves; a head of cells, and rows, under one mark. -/
namespace Go.Proofs.Ytmlafdehhbhbiaa
open Go.RowKit

theorem cell_keep {w w' : World} {p : Addr} {u : Value} (h : w.cell? p = some u) (hb : Below w.heap.size w w') : w'.cell? p = some u :=
  (World.cell?_of_block (hb.block _ (World.block_lt_of_cell? _ _ h))).trans h
theorem below_drew (w : World) : Below w.heap.size w w.drew := ⟨rfl, rfl, rfl, Nat.le_refl _, fun _ _ => rfl⟩
/-- what a call leaves that may write only what bears mark t -/
structure Kept (O : Nat → Nat) (t : Nat) (w w' : World) : Prop where
  os : w'.os = w.os
  tape : w'.tape = w.tape
  output : w'.output = w.output
  size : w.heap.size ≤ w'.heap.size
  block : ∀ k, k < w.heap.size → O k ≠ t → w'.heap[k]? = w.heap[k]?
/-- nothing from before the call, and nothing that isn't made yet, bears a mark -/
def Fin0 (base : Nat) (O : Nat → Nat) (w : World) : Prop := (∀ k, k < base → O k = 0) ∧ ∀ k, w.heap.size ≤ k → O k = 0
/-- a step that writes what bears mark t -/
structure Step (base : Nat) (O : Nat → Nat) (t : Nat) (w : World) (O' : Nat → Nat) (w' : World) : Prop where
  kept : Kept O t w w'
  ext : ∀ k, k < w.heap.size → O' k = O k
  fin : Fin0 base O' w'
section
variable {base t : Nat} {O O1 O2 : Nat → Nat} {w w1 w2 : World}
theorem Fin0.below (f : Fin0 base O w) (k : Below w.heap.size w w1) : Fin0 base O w1 := ⟨f.1, fun i hi => f.2 i (Nat.le_trans k.size hi)⟩
theorem Fin0.zero (base : Nat) (w : World) : Fin0 base (fun _ => 0) w := ⟨fun _ _ => rfl, fun _ _ => rfl⟩
theorem Step.of_below (f : Fin0 base O w) (k : Below w.heap.size w w1) : Step base O t w O w1 := ⟨⟨k.os, k.tape, k.output, k.size, fun i hi _ => k.block i hi⟩, fun _ _ => rfl, f.below k⟩
theorem Step.refl (f : Fin0 base O w) : Step base O t w O w := Step.of_below f (Below.refl _ _)
theorem Step.trans (a : Step base O t w O1 w1) (b : Step base O1 t w1 O2 w2) : Step base O t w O2 w2 :=
  ⟨⟨b.kept.os.trans a.kept.os, b.kept.tape.trans a.kept.tape, b.kept.output.trans a.kept.output, Nat.le_trans a.kept.size b.kept.size, fun k hk hO => (b.kept.block k (Nat.lt_of_lt_of_le hk a.kept.size) (by rw [a.ext k hk]; exact hO)).trans (a.kept.block k hk hO)⟩,
   fun k hk => (b.ext k (Nat.lt_of_lt_of_le hk a.kept.size)).trans (a.ext k hk), b.fin⟩
theorem Step.below (s : Step base O t w O1 w1) (f : Fin0 base O w) (ht : t ≠ 0) (hb : base ≤ w.heap.size) : Below base w w1 :=
  ⟨s.kept.os, s.kept.tape, s.kept.output, s.kept.size, fun k hk => s.kept.block k (by omega) (by rw [f.1 k hk]; exact fun e => ht e.symm)⟩
end
section
variable {base t t' : Nat} {O O1 : Nat → Nat} {w w1 w2 : World}
theorem Step.alloc (f : Fin0 base O w) (x : Obj) : Step base O t w O (w.alloc x) := Step.of_below f ((Below.refl _ _).alloc (Nat.le_refl _) x)
/-- a cell of a block that bears the mark is written -/
theorem Step.set (f : Fin0 base O w) {b : Nat} (o : Nat) (x : Value) (hb : O b = t) : Step base O t w O (w.setCell ⟨b, o, none⟩ x) :=
  have z := (Below.refl 0 w).setCell (p := ⟨b, o, none⟩) (Nat.zero_le _) x
  ⟨⟨z.os, z.tape, z.output, z.size, fun k _ hk => Below.heap_setCell _ _ _ _ (by intro e; exact hk (by rw [e]; exact hb))⟩, fun _ _ => rfl, f.1, fun k hk => f.2 k (by simpa using hk)⟩
/-- the marks when block b bears t -/
def mark (O : Nat → Nat) (t b : Nat) : Nat → Nat := fun k => if k = b then t else O k
theorem mark_at (O : Nat → Nat) (t b : Nat) : mark O t b b = t := if_pos rfl
theorem mark_ne (O : Nat → Nat) (t : Nat) {b k : Nat} (h : k ≠ b) : mark O t b k = O k := if_neg h
/-- a new block that bears the mark -/
theorem Step.made (f : Fin0 base O w) (hb : base ≤ w.heap.size) (x : Obj) (t' : Nat) : Step base O t' w (mark O t w.heap.size) (w.alloc x) :=
  ⟨⟨rfl, rfl, rfl, by simp, fun k hk _ => Below.heap_alloc w _ k hk⟩, fun k hk => mark_ne _ _ (by omega), fun k hk => (mark_ne _ _ (by omega)).trans (f.1 k hk), fun k hk => by
    have hk' : w.heap.size + 1 ≤ k := by simpa using hk
    exact (mark_ne _ _ (by omega)).trans (f.2 k (by omega))⟩
/-- a row under the mark was appended to: it lies where it lay, or in a new block -/
theorem Step.grown (f : Fin0 base O w) {v : Value} (g : w.grownBy w1 v.ownBlock) (hv : ∀ b, v.ownBlock = some b → O b = t) {b H : Nat} (hat : v.ownBlock = some b ∨ b = H) (hH : w.heap.size ≤ H) (h1 : base ≤ b) (h2 : b < w1.heap.size) :
    Step base O t w (mark O t b) w1 := by
  have hO : ∀ k, k < w.heap.size → mark O t b k = O k := fun k hk => by
    by_cases q : k = b
    · rw [q, mark_at]
      rcases hat with h | h
      · exact (hv b h).symm
      · omega
    · exact mark_ne _ _ q
  refine ⟨⟨g.os, g.tape, g.output, g.size, fun k hk hne => g.block k hk fun e => hne (hv k e.symm)⟩, hO, fun k hk => ?_, fun k hk => ?_⟩
  · exact (mark_ne _ _ (by omega)).trans (f.1 k hk)
  · exact (mark_ne _ _ (by omega)).trans (f.2 k (by have := g.size; omega))
/-- a pointer to an object -/
abbrev ptr (sb : Nat) : Value := .pointer (some ⟨sb, 0, none⟩)
/-- the cells of an object's head, under mark t -/
structure Head (w : World) (O : Nat → Nat) (t sb : Nat) (xs : List Value) : Prop where
  cell : ∀ j u, xs[j]? = some u → w.cell? ⟨sb, j, none⟩ = some u
  frz : ∀ j, w.frozen? ⟨sb, j, none⟩ = false
  tag : O sb = t
  lt : sb < w.heap.size
variable {sb : Nat} {xs : List Value}
theorem Head.c0 {x : Value} {l : List Value} (h : Head w O t sb (x :: l)) : w.cell? ⟨sb, 0, none⟩ = some x := h.cell 0 _ rfl
theorem Head.c1 {x y : Value} {l : List Value} (h : Head w O t sb (x :: y :: l)) : w.cell? ⟨sb, 1, none⟩ = some y := h.cell 1 _ rfl
theorem Head.c2 {x y z : Value} {l : List Value} (h : Head w O t sb (x :: y :: z :: l)) : w.cell? ⟨sb, 2, none⟩ = some z := h.cell 2 _ rfl
theorem Head.below (h : Head w O t sb xs) (k : Below w.heap.size w w1) : Head w1 O t sb xs :=
  ⟨fun j u hu => (k.cell (p := ⟨sb, j, none⟩) h.lt).trans (h.cell j u hu), fun j => (k.frozen (p := ⟨sb, j, none⟩) h.lt).trans (h.frz j), h.tag, Nat.lt_of_lt_of_le h.lt k.size⟩
/-- a head whose block stays, stays -/
theorem Head.block (h : Head w O t sb xs) (k : w1.heap[sb]? = w.heap[sb]?) (hz : w.heap.size ≤ w1.heap.size) (hO : O1 sb = O sb) : Head w1 O1 t sb xs :=
  ⟨fun j u hu => (World.cell?_of_block (a := ⟨sb, j, none⟩) k).trans (h.cell j u hu), fun j => (World.frozen?_of_block (a := ⟨sb, j, none⟩) k).trans (h.frz j), hO.trans h.tag, Nat.lt_of_lt_of_le h.lt hz⟩
theorem Head.step (h : Head w O t sb xs) (k : Step base O t' w O1 w1) (hne : t ≠ t') : Head w1 O1 t sb xs :=
  h.block (k.kept.block sb h.lt (by rw [h.tag]; exact hne)) k.kept.size (k.ext sb h.lt)
theorem Head.set (h : Head w O t sb xs) (j : Nat) (x : Value) (hj : j < xs.length) : Head (w.setCell ⟨sb, j, none⟩ x) O t sb (xs.set j x) := by
  refine ⟨fun i u hu => ?_, fun i => by simpa using h.frz i, h.tag, by simpa using h.lt⟩
  rw [List.getElem?_set] at hu
  by_cases e : j = i
  · subst e
    rw [if_pos rfl, if_pos hj] at hu
    injection hu with hu; subst hu
    exact World.cell?_setCell_same _ _ _ (h.cell j _ (List.getElem?_eq_getElem hj))
  · rw [if_neg e] at hu
    rw [World.cell?_setCell_other _ _ _ _ (by intro q; injection q with _ q; exact e q)]
    exact h.cell i u hu
theorem Head.marked (h : Head w O t sb xs) (b : Nat) : Head w (mark O t b) t sb xs := by
  refine ⟨h.cell, h.frz, ?_, h.lt⟩
  by_cases q : sb = b
  · rw [q]; exact mark_at _ _ _
  · rw [mark_ne _ _ q]; exact h.tag
theorem Head.new (w : World) (O : Nat → Nat) (t : Nat) (xs : Array Value) (T : TypeId) : Head (w.alloc (.cells xs T)) (mark O t w.heap.size) t w.heap.size xs.toList := by
  have hh := heap_alloc_new w (.cells xs T)
  refine ⟨fun j u hu => ?_, fun j => frozen_of_row _ w.heap.size j _ T hh, mark_at _ _ _, by simp⟩
  rw [cell_of_row _ w.heap.size j _ T (0, 0) hh]; simpa using hu
/-- a row of the object's, under its mark, apart from its head -/
structure RowT (w : World) (O : Nat → Nat) (base t sb : Nat) (E : TypeId) (size : Nat) (v : Value) (n : Nat) (ys : List Value) : Prop where
  own : w.ownsRow base E size v n ys
  tag : ∀ b, v.ownBlock = some b → O b = t ∧ b ≠ sb
variable {E : TypeId} {size n : Nat} {v : Value} {ys : List Value}
theorem RowT.nil (w : World) (O : Nat → Nat) (base t sb : Nat) (E : TypeId) (size : Nat) : RowT w O base t sb E size (.slice none 0 0) 0 [] := ⟨World.ownsRow_nil _ _ _ _, fun b h => by simp [Value.ownBlock] at h⟩
theorem own_blocks {w w1 : World} (o : w.ownsRow base E size v n ys) (k : ∀ b, v.ownBlock = some b → w1.heap[b]? = w.heap[b]?) : w1.ownsRow base E size v n ys := by
  refine ⟨o.1, ?_⟩
  rcases o.2 with h | ⟨g, cap, cur, rfl, hb, hg, r⟩
  · exact .inl h
  · exact .inr ⟨g, cap, cur, rfl, hb, by rw [k g rfl]; exact hg, r⟩
theorem RowT.below (h : RowT w O base t sb E size v n ys) (k : Below w.heap.size w w1) : RowT w1 O base t sb E size v n ys :=
  ⟨own_blocks h.own fun b hb => k.block b (World.ownsRow.lt h.own b hb).2, h.tag⟩
theorem RowT.blocks (h : RowT w O base t sb E size v n ys) (k : ∀ b, v.ownBlock = some b → w1.heap[b]? = w.heap[b]? ∧ O1 b = O b) : RowT w1 O1 base t sb E size v n ys :=
  ⟨own_blocks h.own fun b hb => (k b hb).1, fun b hb => by rw [(k b hb).2]; exact h.tag b hb⟩
theorem RowT.step (h : RowT w O base t sb E size v n ys) (k : Step base O t' w O1 w1) (hne : t ≠ t') : RowT w1 O1 base t sb E size v n ys :=
  h.blocks fun b hb => ⟨k.kept.block b (World.ownsRow.lt h.own b hb).2 (by rw [(h.tag b hb).1]; exact hne), k.ext b (World.ownsRow.lt h.own b hb).2⟩
/-- the head is written: the row stays -/
theorem RowT.head (h : RowT w O base t sb E size v n ys) (j : Nat) (x : Value) : RowT (w.setCell ⟨sb, j, none⟩ x) O base t sb E size v n ys :=
  h.blocks fun b hb => ⟨Below.heap_setCell _ _ _ _ (h.tag b hb).2, rfl⟩
theorem RowT.form (h : RowT w O base t sb E size v n ys) : ∃ A c, v = .slice A n c ∧ n ≤ c ∧ c ≤ maxLen ∧ (A = none → n = 0 ∧ c = 0) := own_form h.own
/-- fewer of a row -/
theorem own_less {w : World} {A : Option Addr} {n c m : Nat} {ys : List Value} (o : w.ownsRow base E size (.slice A n c) n ys) (hm : m ≤ n) : w.ownsRow base E size (.slice A m c) m (ys.take (m * size)) := by
  refine ⟨?_, ?_⟩
  · rw [List.length_take, o.1]
    exact Nat.min_eq_left (Nat.mul_le_mul_right _ hm)
  · rcases o.2 with ⟨h, h0⟩ | ⟨g, cap, cur, hv, hb, hg, h1, h2, h3, h4⟩
    · injection h with e1 e2 e3
      subst e1 e2 e3
      have : m = 0 := by omega
      subst this
      exact .inl ⟨rfl, rfl⟩
    · injection hv with e1 e2 e3
      subst e1 e3
      refine .inr ⟨g, c, cur, rfl, hb, hg, by omega, h2, h3, ?_⟩
      rw [← h4, List.take_take, Nat.min_eq_left (Nat.mul_le_mul_right _ hm)]
end
theorem own_mono {w : World} {base base' n size : Nat} {E : TypeId} {v : Value} {ys : List Value} (o : w.ownsRow base E size v n ys) (h : base' ≤ base) : w.ownsRow base' E size v n ys := by
  refine ⟨o.1, ?_⟩
  rcases o.2 with h' | ⟨g, cap, cur, rfl, hb, r⟩
  · exact .inl h'
  · exact .inr ⟨g, cap, cur, rfl, by omega, r⟩
/-- a fresh row bears a mark from now on -/
theorem fresh_marked {base n size : Nat} {O : Nat → Nat} {w w1 : World} {E : TypeId} {v : Value} {ys : List Value} (f : Fin0 base O w) (hb : base ≤ w.heap.size) (k : Below w.heap.size w w1) (o : w1.ownsRow w.heap.size E size v n ys) (t : Nat) :
    ∃ O1, (∀ b, v.ownBlock = some b → O1 b = t ∧ b < w1.heap.size) ∧ ∀ t2, Step base O t2 w O1 w1 := by
  cases hv : v.ownBlock with
  | none => exact ⟨O, fun b h => (by cases h), fun t2 => Step.of_below f k⟩
  | some b =>
    have hl := World.ownsRow.lt o b hv
    refine ⟨mark O t b, fun b' h => (by injection h with h; subst h; exact ⟨mark_at _ _ _, hl.2⟩), fun t2 => ⟨⟨k.os, k.tape, k.output, k.size, fun i hi _ => k.block i hi⟩, fun i hi => mark_ne _ _ (by omega), fun i hi => (mark_ne _ _ (by omega)).trans (f.1 i hi), fun i hi => (mark_ne _ _ (by omega)).trans (f.2 i (by have := k.size; omega))⟩⟩
/-- a row is appended to an own one -/
theorem run_app_row {P : Program} {T ty E : TypeId} {i : TypeInfo} {w : World} {z : Value} {size bytes : Nat} (ht : P.underlying T = some (.slice E)) (hi : P.info? E = some i) (hz : i.zero = some z) (hsize : i.size = size) (hby : i.bytes = bytes) (hzs : z.cells.size = size) (hsz : 0 < size)
    (base b0 n m c : Nat) (v : Value) (A : Option Addr) (xs ys : List Value) (hown : w.ownsRow base E size v n xs) (hsrc : w.ownsRow b0 E size (.slice A m c) m ys) (h1 : ∀ u ∈ ys, u.oneCell' = true) (h63 : n + m ≤ maxLen) (hbytes : (n + m) * bytes ≤ 140737488355328) (hb : base ≤ w.heap.size) :
    ∃ v' w', (Builtin.append_ #[T, T] ty #[v, .slice A m c]).run P w = .ok v' w' ∧ w'.ownsRow base E size v' (n + m) (xs ++ ys) ∧ w.grownBy w' v.ownBlock := by
  rcases A with _ | ad
  · obtain ⟨A', c', e, _, _, hnone⟩ := own_form hsrc
    injection e with e1 _ e3
    subst e1 e3
    obtain ⟨rfl, rfl⟩ := hnone rfl
    have hy : ys = [] := List.eq_nil_of_length_eq_zero (by rw [hsrc.1, Nat.zero_mul])
    subst hy
    refine ⟨v, w, run_append_owned_none (P := P) w base T ty E i size ht hi v n _ hown, ?_, World.grownBy.refl _ _⟩
    rw [List.append_nil]; exact hown
  · obtain ⟨v', w', hr, h2, h3, _, _⟩ := run_append_own_at (P := P) w base T ty E i z size bytes ht hi hz hsize hby hzs hsz v n _ hown ad m c ys hsrc.1 (fun j u hu => by
      rcases hsrc.2 with ⟨e, _⟩ | ⟨g, cap, cur, e, _⟩
      · cases e
      · injection e with e1 _ _
        injection e1 with e1
        subst e1
        exact World.ownsRow.cells hsrc rfl j u hu) h1 h63 hbytes hb
    exact ⟨v', w', hr, h2, h3⟩
theorem wpList_app_row {P : Program} {ops : Array Oper} {rest : List Oper} {o : Oper} {a : Act} {Q : Exit → Act → World → Prop} {T E : TypeId} {i : TypeInfo} {w : World} {z : Value} {size bytes : Nat} (hgd : o.guard = none) (s x : Operand) (ho : o.op = .call { callee := .builtin .append, args := #[s, x], argTypes := #[T, T] })
    (ht : P.underlying T = some (.slice E)) (hi : P.info? E = some i) (hz : i.zero = some z) (hsize : i.size = size) (hby : i.bytes = bytes) (hzs : z.cells.size = size) (hsz : 0 < size)
    (W : World) (base b0 n m c : Nat) (v : Value) (A : Option Addr) (xs ys : List Value) (hs : a.eval s = v) (hx : a.eval x = .slice A m c) (hown : w.ownsRow base E size v n xs) (hsrc : w.ownsRow b0 E size (.slice A m c) m ys) (h1 : ∀ u ∈ ys, u.oneCell' = true) (h63 : n + m ≤ maxLen) (hbytes : (n + m) * bytes ≤ 140737488355328)
    (hW : Below base W w) (hb : base ≤ w.heap.size)
    (h : ∀ v' w', w'.ownsRow base E size v' (n + m) (xs ++ ys) → Below base W w' → w.grownBy w' v.ownBlock → wpList P ops Q rest (a.put o.dst v') w') :
    wpList P ops Q (o :: rest) a w := by
  obtain ⟨v', w', hr, h2, h3⟩ := run_app_row (P := P) (ty := o.type) ht hi hz hsize hby hzs hsz base b0 n m c v A xs ys hown hsrc h1 h63 hbytes hb
  refine wpList_plain hgd fun K hK => ?_
  unfold Oper.wp execOp
  simp only [ho, resolve, invoke, builtin, Sem.run_bind, Sem.run_pure, Result.andThen_ok, List.map_toArray, List.map_cons, List.map_nil, hs, hx, hr]
  exact hK _ _ (h v' w' h2 (hW.grown h3 hb (fun k hk => (World.ownsRow.lt hown k hk).1)) h3)
end Go.Proofs.Ytmlafdehhbhbiaa

/- Lists of whole numbers: copies, cuts, the least of some, sums: a contract for each. -/
namespace Go.Proofs.Ytmlafdehhbhbiaa
open Go.RowKit

theorem int_info : (Try.prog.info? 3).map (fun i => (i.zero, i.size, i.bytes)) = some (some (.int .i64 0), 1, 8) := by kernel_rfl

theorem ints_get (zs : List Int) (n : Nat) (h : n ≤ zs.length) : (zs.take n).map (Value.int .i64) = (List.range n).map fun j => .int .i64 (zs.getD j 0) := by
  apply List.ext_getElem (by simp; omega)
  intro j h1 h2
  simp at h1 h2
  simp [List.getD, show j < zs.length by omega]
/-- the least of the first k + 1 numbers -/
def lst (g : Nat → Int) : Nat → Int
  | 0 => g 0
  | k + 1 => min (lst g k) (g (k + 1))
/-- the least of some numbers; 0 if there is none -/
def leastOf (zs : List Int) : Int := if zs = [] then 0 else lst (fun j => zs.getD j 0) (zs.length - 1)

theorem cells_one (w : World) (z : Int) (t : TypeId) : Cells (w.alloc (.cells #[.int .i64 z] t)) (w.heap.size + 1) (some ⟨w.heap.size, 0, none⟩) ([z].map (Value.int .i64)) := by
  refine .inr ⟨_, _, rfl, by omega, fun j u hu => ?_⟩
  have := cell_one_new w (.int .i64 z) t j u (by simpa using hu)
  rwa [show (⟨w.heap.size, 0, none⟩ : Addr).add j = ⟨w.heap.size, 0 + j, none⟩ by unfold Addr.add; split <;> simp_all] at this
end Go.Proofs.Ytmlafdehhbhbiaa

/- Package period's functions: a contract for each. -/
namespace Go.Proofs.Ytmlafdehhbhbiaa
open Go.RowKit

theorem pright_yes (p : Int) (w : World) (h1 : 0 ≤ p) (h2 : p ≤ 399) : Calls Try.prog 18 #[.int .i64 p] w fun e w' => e = .returned (.bool true) ∧ w = w' := by
  go_enter Try.func18, Try.ntmps18
  go_wp2
  all_goals
    go_ret
    exact ⟨ret_b (by first | rfl | (simp; omega)), rfl⟩
theorem pright_no (p : Int) (w : World) (h : p < 0 ∨ 399 < p) : Calls Try.prog 18 #[.int .i64 p] w fun e w' => e = .returned (.bool false) ∧ w = w' := by
  go_enter Try.func18, Try.ntmps18
  go_wp2
  all_goals
    go_ret
    exact ⟨ret_b (by first | rfl | (simp; omega)), rfl⟩
theorem pyear_yes (p : Int) (w : World) (h1 : 0 ≤ p) (h2 : p ≤ 399) : Calls Try.prog 21 #[.int .i64 p] w fun e w' => e = .returned (.int .i64 (p / 4)) ∧ w = w' := by
  go_enter Try.func21, Try.ntmps21
  go_wp2_with ((go_at_call 18; (with_reducible refine (pright_yes _ _ (by omega) (by omega)).mono ?_); rintro e w' ⟨rfl, rfl⟩))
  go_ret
  exact ⟨rfl, rfl⟩
theorem pyear_no (p : Int) (w : World) (h : p < 0 ∨ 399 < p) : Calls Try.prog 21 #[.int .i64 p] w fun e w' => e = .returned (.int .i64 (-1)) ∧ w = w' := by
  go_enter Try.func21, Try.ntmps21
  go_wp2_with ((go_at_call 18; (with_reducible refine (pright_no _ _ (by omega)).mono ?_); rintro e w' ⟨rfl, rfl⟩))
  go_ret
  exact ⟨rfl, rfl⟩
/-- the period that a text of six bytes would be of -/
def pnum (s : ByteArray) (h : s.size = 6) : Int := ((((s[2]'(by omega)).toNat : Int) - 48) * 10 + (((s[3]'(by omega)).toNat : Int) - 48)) * 4 + (((s[5]'(by omega)).toNat : Int) - 48) - 1
theorem pnum_ptb {p : Int} (h1 : 0 ≤ p) (h2 : p ≤ 399) : pnum (ptb p) (ptb_size p) = p := by
  have e2 : ((ptb p)[2]'(by rw [ptb_size]; omega)) = UInt8.ofNat (48 + p / 4 / 10).toNat := rfl
  have e3 : ((ptb p)[3]'(by rw [ptb_size]; omega)) = UInt8.ofNat (48 + p / 4 % 10).toNat := rfl
  have e5 : ((ptb p)[5]'(by rw [ptb_size]; omega)) = UInt8.ofNat (48 + (p % 4 + 1)).toNat := rfl
  unfold pnum
  rw [e2, e3, e5]
  simp
  omega
theorem ptb_14 : (ptb 14).toList = [50, 48, 48, 51, 113, 51] := by
  rw [ByteArray.toList_eq]; decide
end Go.Proofs.Ytmlafdehhbhbiaa

/- The document's own answers about periods, and a text cut off: a contract for each. -/
namespace Go.Proofs.Ytmlafdehhbhbiaa
open Go.RowKit

theorem dig_at (n : Int) (h1 : 0 ≤ n) (h2 : n ≤ 9) : ((ByteArray.mk #[48, 49, 50, 51, 52, 53, 54, 55, 56, 57]).extract n.toNat 10).extract 0 1 = strOfNums [48 + n] := by
  rcases (show n = 0 ∨ n = 1 ∨ n = 2 ∨ n = 3 ∨ n = 4 ∨ n = 5 ∨ n = 6 ∨ n = 7 ∨ n = 8 ∨ n = 9 by omega) with rfl | rfl | rfl | rfl | rfl | rfl | rfl | rfl | rfl | rfl <;> rfl
theorem nums_append (xs ys : List Int) : strOfNums xs ++ strOfNums ys = strOfNums (xs ++ ys) := by
  unfold strOfNums
  rw [ByteArray.mk_append_mk, List.map_append]
theorem ptb_parts (p : Int) (h1 : 0 ≤ p) (h2 : p ≤ 399) : (ByteArray.mk #[50, 48]) ++ ((ByteArray.mk #[48, 49, 50, 51, 52, 53, 54, 55, 56, 57]).extract (p / 40).toNat 10).extract 0 1 ++ ((ByteArray.mk #[48, 49, 50, 51, 52, 53, 54, 55, 56, 57]).extract (p / 4 % 10).toNat 10).extract 0 1 ++ (ByteArray.mk #[113]) ++ ((ByteArray.mk #[48, 49, 50, 51, 52, 53, 54, 55, 56, 57]).extract (p % 4 + 1).toNat 10).extract 0 1 = ptb p := by
  rw [dig_at _ (by omega) (by omega), dig_at _ (by omega) (by omega), dig_at _ (by omega) (by omega)]
  rw [show (ByteArray.mk #[50, 48]) = strOfNums [50, 48] from rfl, show (ByteArray.mk #[113]) = strOfNums [113] from rfl, nums_append, nums_append, nums_append, nums_append]
  unfold ptb
  rw [show p / 4 / 10 = p / 40 by omega]
  rfl
/-- a text, cut off at n bytes -/
def cutb (s : ByteArray) (n : Int) : ByteArray := if n < s.size then s.extract 0 n.toNat else s
theorem cutb_size (s : ByteArray) (n : Int) (h : 0 ≤ n) : ((cutb s n).size : Int) ≤ n := by
  unfold cutb
  split
  · simp; omega
  · omega
end Go.Proofs.Ytmlafdehhbhbiaa

/- The small numbers that the statements are made of: a contract for each. -/
namespace Go.Proofs.Ytmlafdehhbhbiaa
open Go.RowKit

theorem within_some (v n : Int) (w : World) (h1 : 1 ≤ n) (h2 : n ≤ 4611686018427387904) :
    Calls Try.prog 7 #[.int .i64 v, .int .i64 n] w fun e w' => ∃ x, 0 ≤ x ∧ x < n ∧ e = .returned (.int .i64 x) ∧ w = w' :=
  (within_any v n w h1 h2).mono fun _ _ ⟨he, hw⟩ => ⟨_, Int.emod_nonneg v (by omega), Int.emod_lt_of_pos v (by omega), he, hw⟩
end Go.Proofs.Ytmlafdehhbhbiaa
