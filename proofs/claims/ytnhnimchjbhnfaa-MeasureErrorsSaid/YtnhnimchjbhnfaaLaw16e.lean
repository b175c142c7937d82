/- MeasureErrors: its walk. -/
import Derived.Test.YtnhnimchjbhnfaaLaw16d
namespace Go.Proofs.Ytnhnimchjbhnfaa
open Go.RowKit

def RE16 : Nat → Rt := fun _ => ⟨ukt, 5, 250000, 8⟩
theorem invE : TInv 1 RE16 := ⟨by omega, fun k _ => ⟨by show ukt ≠ _; decide, by show (0 : Int) ≤ 5; omega, by show (5 : Int) ≤ 99; omega, by show (0 : Int) ≤ 250000; omega, by show (250000 : Int) ≤ 1000000; omega, by show (0 : Int) ≤ 8; omega, by show (8 : Int) ≤ 399; omega⟩, fun i k hi hk _ _ _ => by omega⟩
theorem knE_no {Y q : Int} (h : ¬ (5 ≤ Y ∧ 8 ≤ q)) : Known RE16 1 ukt Y q 0 false := .inr ⟨rfl, rfl, fun _ _ hM => h ⟨hM.2.1, hM.2.2⟩⟩
theorem knE_yes {Y q : Int} (h : 5 ≤ Y ∧ 8 ≤ q) : Known RE16 1 ukt Y q 250000 true := .inl ⟨rfl, 0, by omega, ⟨rfl, h.1, h.2⟩, fun _ _ _ => .inr ⟨rfl, Int.le_refl _⟩, rfl⟩
/-- what is tried: rows, rates, their error -/
structure Try16 (w : World) (b m c : Nat) (A A' : Option Addr) (k c' : Nat) (v e : Int) : Prop where
  x : ∃ (g : Nat → Bk) (r : Nat → Int), AtR be 3 w A m g ∧ At w A' k r ∧ TempIs g m r k v e
  lm : m ≤ c ∧ c ≤ 2 ∧ k ≤ c' ∧ c' ≤ 2
theorem one_int {w : World} {B : Nat} {z : Int} (h : w.cell? ⟨B, 0, none⟩ = some (.int .i64 z)) (hb : B < w.heap.size) : At w (some ⟨B, 0, none⟩) 1 (fun _ => z) := .inr ⟨B, 0, rfl, hb, fun j hj => by
  obtain rfl : j = 0 := by omega
  exact h⟩
theorem targ_no_len {g : Nat → Bk} {m : Nat} {r : Nat → Int} {k : Nat} (h : m ≠ k) : TempIs g m r k 0 1 := .inl ⟨fun q => h q.1, rfl, rfl⟩
theorem targ_no_one {g : Nat → Bk} {m : Nat} {r : Nat → Int} {k : Nat} (i : Nat) (hi : i < m) (h : ¬ (Mon (g i).a ∧ RtOk (r i))) : TempIs g m r k 0 1 := .inl ⟨fun q => h (q.2 i hi), rfl, rfl⟩
theorem two16 (n : Int) (bn : 1 ≤ n ∧ n ≤ 1000) (i : Nat) (hi : i < 2) : Mon ((fun j => if j = 0 then (⟨1, 0, 100000000000⟩ : Bk) else ⟨2, 0, n⟩) i).a := by
  rcases (show i = 0 ∨ i = 1 by omega) with rfl | rfl
  · show Mon 100000000000; unfold Mon; omega
  · show Mon n; unfold Mon; omega
theorem over16 (n : Int) (bn : 1 ≤ n ∧ n ≤ 1000) : ¬ Mon (-tot (partU (fun j => if j = 0 then ⟨1, 0, 100000000000⟩ else ⟨2, 0, n⟩) (fun _ => 1000000)) 2) := by
  show ¬ Mon (-(0 + rof 100000000000 1000000 + rof n 1000000))
  rw [rof_whole, rof_whole]
  unfold Mon; omega
set_option maxHeartbeats 16000000 in
set_option maxRecDepth 100000 in
theorem measureErrors_walk (a0 : Int) (w : World) :
    Calls Try.prog 3 #[.int .i64 a0] w fun e w' => e = .returned (.bool true) ∧ Below w.heap.size w w' := by
  have W := Lib.hid fun w => wakes16_any w
  obtain ⟨n, hn⟩ : ∃ n, a0 % 1000 + 1 = n := ⟨_, rfl⟩
  have E1 := Lib.hid (show a0 % 1000 = n - 1 by omega)
  have bn : 1 ≤ n ∧ n ≤ 1000 := by omega
  have f1 : 1 + (n - 1) = n := by omega
  obtain ⟨n0, _⟩ := nowt_new w w (fun _ => 0) (Fin0.zero _ _) (Below.refl _ _) 63 61 1 RE16
  have CA := Lib.hid (nadd_ok n0 (by decide) (RE16 0) (pre_terr invE (by omega)))
  rw [push_same] at CA
  clear hn n0
  go_enter Try.func3, Try.ntmps3
  go_wp2_with (go_at_call 8; (with_reducible refine (within_at _ _ _ _ (by omega) (by omega) E1).mono ?_); rintro e w' ⟨rfl, rfl⟩)
  refine (enew_any _).mono ?_
  rintro e v1 ⟨rfl, rfl⟩
  go_wp2_with fail
  refine (CA.out).mono ?_
  rintro e v2 ⟨rfl, O2, n2, _⟩
  have N2 := Lib.hid n2
  have L2 := Lib.hid n2.low
  clear n2 CA f1
  have AB := Lib.hid (at_lit be_len v2 [.int .i64 1, .int .i64 5, .int .i64 n] 1 (fun _ => ⟨1, 5, n⟩) rfl 28)
  have K2 := Lib.hid ((Below.refl v2.heap.size v2).alloc (Nat.le_refl _) (.cells #[.int .i64 1, .int .i64 5, .int .i64 n] 28))
  have TR := Lib.hid fun w5 (k : Below v2.heap.size v2 w5) (A : Option Addr) (g : Nat → Bk) (q : Int) (e : Int) (q' : Nat) (r : Nat → Int) (ha : AtR be 3 w5 A 1 g) (h : RatesIs RE16 1 ukt g 1 q e q' r) => (show Calls Try.prog 11 #[ptr w.heap.size, .string ukt, .slice A 1 1, .int .i64 q] w5 fun e' w' => ∃ v', e' = .returned (.tuple #[v', .int .i64 e]) ∧ Own w' 3 w5.heap.size v' q' r ∧ Below w5.heap.size w5 w' from by
    obtain ⟨vt, st⟩ := (N2.out.below k).st
    exact prates_any st ukt A 1 1 g ha (by unfold maxLen; omega) (by omega) q e q' r h)
  go_wp2_with fail
  refine (TR.out _ K2.out _ (fun _ => ⟨1, 5, n⟩) (-1) 1 0 (fun _ => 0) AB.out (.inl ⟨by unfold PerOk; omega, rfl, rfl⟩)).mono ?_
  rintro e v3 ⟨s3, rfl, ho3, hb3⟩
  obtain ⟨A3, c3, rfl, _, _, _⟩ := ho3.at
  have K3 := Lib.hid (K2.out.trans (hb3.mono K2.out.size))
  replace AB := Lib.hid (AB.out.below hb3)
  clear ho3 hb3
  go_wp2_with fail
  refine (TR.out _ K3.out _ (fun _ => ⟨1, 5, n⟩) 7 7 0 (fun _ => 0) AB.out (.inr (.inl ⟨by unfold PerOk; omega, rfl, rfl, 0, by omega, knE_no (by omega), fun k hk => by omega⟩))).mono ?_
  rintro e v4 ⟨s4, rfl, ho4, hb4⟩
  obtain ⟨A4, c4, rfl, _, _, _⟩ := ho4.at
  have K4 := Lib.hid (K3.out.trans (hb4.mono K3.out.size))
  replace AB := Lib.hid (AB.out.below hb4)
  clear ho4 hb4
  go_wp2_with fail
  refine (TR.out _ K4.out _ (fun _ => ⟨1, 5, n⟩) 8 0 1 (fun _ => 250000) AB.out (.inr (.inr ⟨by unfold PerOk; omega, rfl, rfl, fun i hi => knE_yes ⟨by show (5 : Int) ≤ max 5 (8 / 4); omega, by omega⟩⟩))).mono ?_
  rintro e v5 ⟨s5, rfl, ho5, hb5⟩
  obtain ⟨A5, c5, rfl, _, _, hat5⟩ := ho5.at
  have K5 := Lib.hid (K4.out.trans (hb5.mono K4.out.size))
  replace AB := Lib.hid (AB.out.below hb5)
  have A5' := Lib.hid hat5
  clear ho5 hb5 hat5
  have AC := Lib.hid (at_lit be_len v5 [.int .i64 1, .int .i64 4, .int .i64 n] 1 (fun _ => ⟨1, 4, n⟩) rfl 28)
  have kc := (Below.refl v5.heap.size v5).alloc (Nat.le_refl _) (.cells #[.int .i64 1, .int .i64 4, .int .i64 n] 28)
  have K6 := Lib.hid (K5.out.trans (kc.mono K5.out.size))
  replace AB := Lib.hid (AB.out.below kc)
  replace A5' := Lib.hid (A5'.out.below kc)
  clear kc
  go_wp2_with fail
  refine (TR.out _ K6.out _ (fun _ => ⟨1, 4, n⟩) 8 7 0 (fun _ => 0) AC.out (.inr (.inl ⟨by unfold PerOk; omega, rfl, rfl, 0, by omega, knE_no (by show ¬ ((5 : Int) ≤ max 4 (8 / 4) ∧ (8 : Int) ≤ 8); omega), fun k hk => by omega⟩))).mono ?_
  rintro e v7 ⟨s7, rfl, ho7, hb7⟩
  obtain ⟨A7, c7, rfl, _, _, _⟩ := ho7.at
  have K7 := Lib.hid (K6.out.trans (hb7.mono K6.out.size))
  replace AB := Lib.hid (AB.out.below hb7)
  replace A5' := Lib.hid (A5'.out.below hb7)
  clear ho7 hb7 AC
  have LL := Lib.hid (lit_row v7 [250000] 3)
  have kl := (Below.refl v7.heap.size v7).alloc (Nat.le_refl _) (.cells #[.int .i64 250000] 3)
  have K8 := Lib.hid (K7.out.trans (kl.mono K7.out.size))
  replace AB := Lib.hid (AB.out.below kl)
  have CS := Lib.hid (same_true A5 (some ⟨v7.heap.size, 0, none⟩) 1 c5 1 _ _ _ (A5'.out.below kl) LL.out.at (by omega) (fun j hj => by
    obtain rfl : j = 0 := by omega
    rfl))
  clear kl
  go_wp2_with fail
  refine (CS.out).mono ?_
  rintro e v9 ⟨rfl, hb9⟩
  have K9 := Lib.hid (K8.out.trans (hb9.mono K8.out.size))
  replace AB := Lib.hid (AB.out.below hb9)
  clear hb9 CS LL A5' TR K2 K3 K4 K5 K6 K7 K8
  obtain ⟨u1, h1⟩ : ∃ u, v9.alloc (.cells #[.int .i64 1] 3) = u := ⟨_, rfl⟩
  have b1 := (Below.refl v9.heap.size v9).alloc (Nat.le_refl _) (.cells #[.int .i64 1] 3)
  rw [h1] at b1
  have z1 : u1.heap.size = v9.heap.size + 1 := by rw [← h1]; simp
  have y1 : u1.cell? ⟨v9.heap.size, 0, none⟩ = some (.int .i64 1) := by rw [← h1]; exact rec_lit v9 [.int .i64 1] 3 _ rfl 0 _ rfl
  obtain ⟨u2, h2⟩ : ∃ u, u1.alloc (.cells #[.int .i64 (-1)] 3) = u := ⟨_, rfl⟩
  have b2 := (Below.refl u1.heap.size u1).alloc (Nat.le_refl _) (.cells #[.int .i64 (-1)] 3)
  rw [h2] at b2
  have z2 : u2.heap.size = v9.heap.size + 1 + 1 := by rw [← h2]; simp [z1]
  have y2 : u2.cell? ⟨v9.heap.size + 1, 0, none⟩ = some (.int .i64 (-1)) := by rw [← h2]; exact rec_lit u1 [.int .i64 (-1)] 3 _ z1 0 _ rfl
  obtain ⟨u3, h3⟩ : ∃ u, u2.alloc (.cells #[.int .i64 1000001] 3) = u := ⟨_, rfl⟩
  have b3 := (Below.refl u2.heap.size u2).alloc (Nat.le_refl _) (.cells #[.int .i64 1000001] 3)
  rw [h3] at b3
  have z3 : u3.heap.size = v9.heap.size + 1 + 1 + 1 := by rw [← h3]; simp [z2]
  have y3 : u3.cell? ⟨v9.heap.size + 1 + 1, 0, none⟩ = some (.int .i64 1000001) := by rw [← h3]; exact rec_lit u2 [.int .i64 1000001] 3 _ z2 0 _ rfl
  obtain ⟨u4, h4⟩ : ∃ u, u3.alloc (.cells #[.int .i64 1, .int .i64 0, .int .i64 (100000000000 + n)] 28) = u := ⟨_, rfl⟩
  have b4 := (Below.refl u3.heap.size u3).alloc (Nat.le_refl _) (.cells #[.int .i64 1, .int .i64 0, .int .i64 (100000000000 + n)] 28)
  rw [h4] at b4
  have z4 : u4.heap.size = v9.heap.size + 1 + 1 + 1 + 1 := by rw [← h4]; simp [z3]
  have y4 : AtR be 3 u4 (some ⟨v9.heap.size + 1 + 1 + 1, 0, none⟩) 1 (fun _ => ⟨1, 0, 100000000000 + n⟩) := by
    rw [← h4, ← z3]
    exact at_lit be_len u3 [.int .i64 1, .int .i64 0, .int .i64 (100000000000 + n)] 1 _ rfl 28
  obtain ⟨u5, h5⟩ : ∃ u, u4.alloc (.cells #[.int .i64 1] 3) = u := ⟨_, rfl⟩
  have b5 := (Below.refl u4.heap.size u4).alloc (Nat.le_refl _) (.cells #[.int .i64 1] 3)
  rw [h5] at b5
  have z5 : u5.heap.size = v9.heap.size + 1 + 1 + 1 + 1 + 1 := by rw [← h5]; simp [z4]
  have y5 : u5.cell? ⟨v9.heap.size + 1 + 1 + 1 + 1, 0, none⟩ = some (.int .i64 1) := by rw [← h5]; exact rec_lit u4 [.int .i64 1] 3 _ z4 0 _ rfl
  obtain ⟨u6, h6⟩ : ∃ u, u5.alloc (.cells #[.int .i64 1, .int .i64 0, .int .i64 100000000000, .int .i64 2, .int .i64 0, .int .i64 n] 28) = u := ⟨_, rfl⟩
  have b6 := (Below.refl u5.heap.size u5).alloc (Nat.le_refl _) (.cells #[.int .i64 1, .int .i64 0, .int .i64 100000000000, .int .i64 2, .int .i64 0, .int .i64 n] 28)
  rw [h6] at b6
  have z6 : u6.heap.size = v9.heap.size + 1 + 1 + 1 + 1 + 1 + 1 := by rw [← h6]; simp [z5]
  have y6 : AtR be 3 u6 (some ⟨v9.heap.size + 1 + 1 + 1 + 1 + 1, 0, none⟩) 2 (fun j => if j = 0 then ⟨1, 0, 100000000000⟩ else ⟨2, 0, n⟩) := by
    rw [← h6, ← z5]
    exact at_lit be_len u5 [.int .i64 1, .int .i64 0, .int .i64 100000000000, .int .i64 2, .int .i64 0, .int .i64 n] 2 _ rfl 28
  obtain ⟨u7, h7⟩ : ∃ u, u6.alloc (.cells #[.int .i64 1000000, .int .i64 1000000] 3) = u := ⟨_, rfl⟩
  have b7 := (Below.refl u6.heap.size u6).alloc (Nat.le_refl _) (.cells #[.int .i64 1000000, .int .i64 1000000] 3)
  rw [h7] at b7
  have z7 : u7.heap.size = v9.heap.size + 1 + 1 + 1 + 1 + 1 + 1 + 1 := by rw [← h7]; simp [z6]
  have y7 : At u7 (some ⟨v9.heap.size + 1 + 1 + 1 + 1 + 1 + 1, 0, none⟩) 2 (fun _ => 1000000) := by
    rw [← h7, ← z6]
    exact (lit_row u6 [1000000, 1000000] 3).at.ext fun j hj => by
      rcases (show j = 0 ∨ j = 1 by have : j < 2 := hj; omega) with rfl | rfl <;> rfl
  obtain ⟨wL, h8⟩ : ∃ u, u7.alloc (.cells #[.slice (some ⟨v2.heap.size, 0, none⟩) 1 1, .slice none 0 0, .int .i64 1, .slice none 0 0, .slice (some ⟨v9.heap.size, 0, none⟩) 1 1, .int .i64 1, .slice (some ⟨v2.heap.size, 0, none⟩) 1 1, .slice (some ⟨v9.heap.size + 1, 0, none⟩) 1 1, .int .i64 1, .slice (some ⟨v2.heap.size, 0, none⟩) 1 1, .slice (some ⟨v9.heap.size + 1 + 1, 0, none⟩) 1 1, .int .i64 1, .slice (some ⟨v9.heap.size + 1 + 1 + 1, 0, none⟩) 1 1, .slice (some ⟨v9.heap.size + 1 + 1 + 1 + 1, 0, none⟩) 1 1, .int .i64 1, .slice (some ⟨v9.heap.size + 1 + 1 + 1 + 1 + 1, 0, none⟩) 2 2, .slice (some ⟨v9.heap.size + 1 + 1 + 1 + 1 + 1 + 1, 0, none⟩) 2 2, .int .i64 6, .slice none 0 0, .slice none 0 0, .int .i64 0] 34) = u := ⟨_, rfl⟩
  have b8 := (Below.refl u7.heap.size u7).alloc (Nat.le_refl _) (.cells #[.slice (some ⟨v2.heap.size, 0, none⟩) 1 1, .slice none 0 0, .int .i64 1, .slice none 0 0, .slice (some ⟨v9.heap.size, 0, none⟩) 1 1, .int .i64 1, .slice (some ⟨v2.heap.size, 0, none⟩) 1 1, .slice (some ⟨v9.heap.size + 1, 0, none⟩) 1 1, .int .i64 1, .slice (some ⟨v2.heap.size, 0, none⟩) 1 1, .slice (some ⟨v9.heap.size + 1 + 1, 0, none⟩) 1 1, .int .i64 1, .slice (some ⟨v9.heap.size + 1 + 1 + 1, 0, none⟩) 1 1, .slice (some ⟨v9.heap.size + 1 + 1 + 1 + 1, 0, none⟩) 1 1, .int .i64 1, .slice (some ⟨v9.heap.size + 1 + 1 + 1 + 1 + 1, 0, none⟩) 2 2, .slice (some ⟨v9.heap.size + 1 + 1 + 1 + 1 + 1 + 1, 0, none⟩) 2 2, .int .i64 6, .slice none 0 0, .slice none 0 0, .int .i64 0] 34)
  rw [h8] at b8
  have z8 : wL.heap.size = v9.heap.size + 1 + 1 + 1 + 1 + 1 + 1 + 1 + 1 := by rw [← h8]; simp [z7]
  have RR : ∀ j u, [.slice (some ⟨v2.heap.size, 0, none⟩) 1 1, .slice none 0 0, .int .i64 1, .slice none 0 0, .slice (some ⟨v9.heap.size, 0, none⟩) 1 1, .int .i64 1, .slice (some ⟨v2.heap.size, 0, none⟩) 1 1, .slice (some ⟨v9.heap.size + 1, 0, none⟩) 1 1, .int .i64 1, .slice (some ⟨v2.heap.size, 0, none⟩) 1 1, .slice (some ⟨v9.heap.size + 1 + 1, 0, none⟩) 1 1, .int .i64 1, .slice (some ⟨v9.heap.size + 1 + 1 + 1, 0, none⟩) 1 1, .slice (some ⟨v9.heap.size + 1 + 1 + 1 + 1, 0, none⟩) 1 1, .int .i64 1, .slice (some ⟨v9.heap.size + 1 + 1 + 1 + 1 + 1, 0, none⟩) 2 2, .slice (some ⟨v9.heap.size + 1 + 1 + 1 + 1 + 1 + 1, 0, none⟩) 2 2, .int .i64 6, .slice none 0 0, .slice none 0 0, .int .i64 0][j]? = some u → wL.cell? ⟨v9.heap.size + 1 + 1 + 1 + 1 + 1 + 1 + 1, j, none⟩ = some u := by rw [← h8]; exact rec_lit u7 [.slice (some ⟨v2.heap.size, 0, none⟩) 1 1, .slice none 0 0, .int .i64 1, .slice none 0 0, .slice (some ⟨v9.heap.size, 0, none⟩) 1 1, .int .i64 1, .slice (some ⟨v2.heap.size, 0, none⟩) 1 1, .slice (some ⟨v9.heap.size + 1, 0, none⟩) 1 1, .int .i64 1, .slice (some ⟨v2.heap.size, 0, none⟩) 1 1, .slice (some ⟨v9.heap.size + 1 + 1, 0, none⟩) 1 1, .int .i64 1, .slice (some ⟨v9.heap.size + 1 + 1 + 1, 0, none⟩) 1 1, .slice (some ⟨v9.heap.size + 1 + 1 + 1 + 1, 0, none⟩) 1 1, .int .i64 1, .slice (some ⟨v9.heap.size + 1 + 1 + 1 + 1 + 1, 0, none⟩) 2 2, .slice (some ⟨v9.heap.size + 1 + 1 + 1 + 1 + 1 + 1, 0, none⟩) 2 2, .int .i64 6, .slice none 0 0, .slice none 0 0, .int .i64 0] 34 _ z7
  have B7 := b8
  have B6 := b7.trans (B7.mono b7.size)
  have B5 := b6.trans (B6.mono b6.size)
  have B4 := b5.trans (B5.mono b5.size)
  have B3 := b4.trans (B4.mono b4.size)
  have B2 := b3.trans (B3.mono b3.size)
  have B1 := b2.trans (B2.mono b2.size)
  have B0 := b1.trans (B1.mono b1.size)
  have AL := AB.out.below B0
  have ROW : Hid (∀ k, k < 7 → ∃ (A : Option Addr) (m c : Nat) (A' : Option Addr) (k0 c' : Nat) (v e : Int), wL.cell? ⟨v9.heap.size + 1 + 1 + 1 + 1 + 1 + 1 + 1, k * 3, none⟩ = some (.slice A m c) ∧ wL.cell? ⟨v9.heap.size + 1 + 1 + 1 + 1 + 1 + 1 + 1, k * 3 + 1, none⟩ = some (.slice A' k0 c') ∧ wL.cell? ⟨v9.heap.size + 1 + 1 + 1 + 1 + 1 + 1 + 1, k * 3 + 2, none⟩ = some (.int .i64 e) ∧ (m ≤ c ∧ c ≤ 2 ∧ k0 ≤ c' ∧ c' ≤ 2) ∧ ∃ (g : Nat → Bk) (r : Nat → Int), AtR be 3 wL A m g ∧ At wL A' k0 r ∧ TempIs g m r k0 v e) := Lib.hid fun k hk => by
    rcases (show k = 0 ∨ k = 1 ∨ k = 2 ∨ k = 3 ∨ k = 4 ∨ k = 5 ∨ k = 6 by omega) with rfl | rfl | rfl | rfl | rfl | rfl | rfl
    · exact ⟨_, _, _, _, _, _, 0, 1, RR 0 _ rfl, RR 1 _ rfl, RR 2 _ rfl, by omega, _, fun _ => 0, AL, .inl rfl, targ_no_len (by decide)⟩
    · exact ⟨_, _, _, _, _, _, 0, 1, RR 3 _ rfl, RR 4 _ rfl, RR 5 _ rfl, by omega, fun _ => ⟨0, 0, 0⟩, _, .inl rfl, one_int (cell_keep y1 B1) (by have := B1.size; omega), targ_no_len (by decide)⟩
    · exact ⟨_, _, _, _, _, _, 0, 1, RR 6 _ rfl, RR 7 _ rfl, RR 8 _ rfl, by omega, _, _, AL, one_int (cell_keep y2 B2) (by have := B2.size; omega), targ_no_one 0 (by omega) (by unfold RtOk; omega)⟩
    · exact ⟨_, _, _, _, _, _, 0, 1, RR 9 _ rfl, RR 10 _ rfl, RR 11 _ rfl, by omega, _, _, AL, one_int (cell_keep y3 B3) (by have := B3.size; omega), targ_no_one 0 (by omega) (by unfold RtOk; omega)⟩
    · exact ⟨_, _, _, _, _, _, 0, 1, RR 12 _ rfl, RR 13 _ rfl, RR 14 _ rfl, by omega, _, _, y4.below B4, one_int (cell_keep y5 B5) (by have := B5.size; omega), targ_no_one 0 (by omega) (by unfold Mon; dsimp only; omega)⟩
    · exact ⟨_, _, _, _, _, _, 0, 6, RR 15 _ rfl, RR 16 _ rfl, RR 17 _ rfl, by omega, _, _, y6.below B6, y7.below B7, .inr (.inl ⟨⟨rfl, fun i hi => ⟨two16 n bn i hi, by show RtOk 1000000; unfold RtOk; omega⟩⟩, over16 n bn, rfl, rfl⟩)⟩
    · exact ⟨_, _, _, _, _, _, 0, 0, RR 18 _ rfl, RR 19 _ rfl, RR 20 _ rfl, by omega, fun _ => ⟨0, 0, 0⟩, fun _ => 0, .inl rfl, .inl rfl, .inr (.inr ⟨⟨rfl, fun i hi => by omega⟩, by simp [tot, Mon], by simp [tot], rfl⟩)⟩
  have HL := Lib.hid (show ((((((((v9.alloc (.cells #[.int .i64 1] 3)).alloc (.cells #[.int .i64 (-1)] 3)).alloc (.cells #[.int .i64 1000001] 3)).alloc (.cells #[.int .i64 1, .int .i64 0, .int .i64 (100000000000 + n)] 28)).alloc (.cells #[.int .i64 1] 3)).alloc (.cells #[.int .i64 1, .int .i64 0, .int .i64 100000000000, .int .i64 2, .int .i64 0, .int .i64 n] 28)).alloc (.cells #[.int .i64 1000000, .int .i64 1000000] 3)).alloc (.cells #[.slice (some ⟨v2.heap.size, 0, none⟩) 1 1, .slice none 0 0, .int .i64 1, .slice none 0 0, .slice (some ⟨v9.heap.size, 0, none⟩) 1 1, .int .i64 1, .slice (some ⟨v2.heap.size, 0, none⟩) 1 1, .slice (some ⟨v9.heap.size + 1, 0, none⟩) 1 1, .int .i64 1, .slice (some ⟨v2.heap.size, 0, none⟩) 1 1, .slice (some ⟨v9.heap.size + 1 + 1, 0, none⟩) 1 1, .int .i64 1, .slice (some ⟨v9.heap.size + 1 + 1 + 1, 0, none⟩) 1 1, .slice (some ⟨v9.heap.size + 1 + 1 + 1 + 1, 0, none⟩) 1 1, .int .i64 1, .slice (some ⟨v9.heap.size + 1 + 1 + 1 + 1 + 1, 0, none⟩) 2 2, .slice (some ⟨v9.heap.size + 1 + 1 + 1 + 1 + 1 + 1, 0, none⟩) 2 2, .int .i64 6, .slice none 0 0, .slice none 0 0, .int .i64 0] 34)) = wL by rw [h1, h2, h3, h4, h5, h6, h7, h8])
  have KL := Lib.hid (K9.out.trans (B0.mono K9.out.size))
  have zL : v9.heap.size + 1 + 1 + 1 + 1 + 1 + 1 + 1 < wL.heap.size := by omega
  clear h1 h2 h3 h4 h5 h6 h7 h8 b1 b2 b3 b4 b5 b6 b7 b8 z1 z2 z3 z4 z5 z6 z7 z8 y1 y2 y3 y4 y5 y6 y7 RR B0 B1 B2 B3 B4 B5 B6 B7 AL AB K9
  go_upto_block 0 with fail
  rw [HL.out]
  clear HL
  go_wp2
  go_loopg [110] 7 (fun gh i wr => ∃ k : Nat, k ≤ 7 ∧ gh = 7 - k ∧ i = .int .i64 k ∧ Below wL.heap.size wL wr)
  case atStart => exact ⟨0, by omega, rfl, rfl, Below.refl _ _⟩
  case round =>
    obtain ⟨k, hk, hgk, rfl, hbw⟩ := hrel
    have HGK := Lib.hid hgk
    have HW := Lib.hid hbw
    clear hgk hbw
    by_cases hlt : k < 7
    · obtain ⟨A, m, c, A', k0, c', v, e, c0, c1, c2, ⟨l1, l2, l3, l4⟩, g, r, hat, hat', ht⟩ := ROW.out k hlt
      replace c0 := cell_keep c0 HW.out
      replace c1 := cell_keep c1 HW.out
      replace c2 := cell_keep c2 HW.out
      have he : (e = 0) ∨ (¬ e = 0 ∧ v = 0) := by
        rcases ht with ⟨_, h1, h2⟩ | ⟨_, _, h1, h2⟩ | ⟨_, _, _, h2⟩ <;> omega
      have CT := Lib.hid fun w5 (q : Below wr.heap.size wr w5) => ptemp_any A A' m c k0 c' g r v e w5 ((hat.below HW.out).below q) ((hat'.below HW.out).below q) (by omega) ⟨l1, by unfold maxLen; omega⟩ ⟨l3, by unfold maxLen; omega⟩ ht
      have RX := Lib.hid (rec_lit wr [.slice A m c, .slice A' k0 c', .int .i64 e] 34 wr.heap.size rfl)
      have KX := Lib.hid ((Below.refl wr.heap.size wr).alloc (Nat.le_refl _) (.cells #[.slice A m c, .slice A' k0 c', .int .i64 e] 34))
      have ee : (e == e) = true := by simp
      clear hat hat' ht
      go_wp2_with fail
      refine (CT.out _ KX.out).mono ?_
      rintro e' w7 ⟨rfl, hb7⟩
      have x2 := cell_keep (RX.out 2 _ rfl) hb7
      have x8 : wr.heap.size < w7.heap.size := by have := hb7.size; simp at this; omega
      have K7 := Lib.hid (HW.out.trans ((KX.out.trans (hb7.mono KX.out.size)).mono HW.out.size))
      clear hb7 CT RX KX c0 c1 c2
      rcases he with rfl | ⟨he, rfl⟩
      all_goals
        go_wp2
        go_roundg (7 - (k + 1))
        case measure => have := HGK.out; omega
        case rel => exact ⟨k + 1, by omega, rfl, by go_num, K7.out⟩
    · obtain rfl : k = 7 := by omega
      have S1 := Lib.hid (show ShareIs (-n) 5 0 1 from .inl ⟨by omega, rfl, rfl⟩)
      have S2 := Lib.hid (show ShareIs n (-5) 0 1 from .inl ⟨by unfold RtOk; omega, rfl, rfl⟩)
      have S3 := Lib.hid (show ShareIs (100000000000 + n) 5 0 1 from .inl ⟨by omega, rfl, rfl⟩)
      have S4 := Lib.hid (show ShareIs n 1000000 n 0 from .inr ⟨⟨by omega, by unfold RtOk; omega⟩, (rof_whole n).symm, rfl⟩)
      have L1 := Lib.hid (L2.out.trans ((KL.out.trans (HW.out.mono KL.out.size)).mono L2.out.size))
      have q1 : (n == n) = true := by simp
      clear hlt HGK hk
      go_wp2_with fail
      refine (pshare_any _ _ _ _ S1.out _).mono ?_
      rintro e x1 ⟨rfl, hx1⟩
      have M1 := Lib.hid (L1.out.trans (hx1.mono L1.out.size))
      clear hx1
      go_wp2_with fail
      refine (pshare_any _ _ _ _ S2.out _).mono ?_
      rintro e x2 ⟨rfl, hx2⟩
      have M2 := Lib.hid (M1.out.trans (hx2.mono M1.out.size))
      clear hx2
      go_wp2_with fail
      refine (pshare_any _ _ _ _ S3.out _).mono ?_
      rintro e x3 ⟨rfl, hx3⟩
      have M3 := Lib.hid (M2.out.trans (hx3.mono M2.out.size))
      clear hx3
      go_wp2_with fail
      refine (pshare_any _ _ _ _ S4.out _).mono ?_
      rintro e x4 ⟨rfl, hx4⟩
      have M4 := Lib.hid (M3.out.trans (hx4.mono M3.out.size))
      clear hx4
      go_wp2_with (go_at_call 15; (with_reducible refine (W.out _).mono ?_); rintro e x5 ⟨rfl, hx5⟩; have M5 := Lib.hid (M4.out.trans (hx5.mono M4.out.size)); clear hx5)
      go_ret
      exact ⟨rfl, M5.out⟩
end Go.Proofs.Ytnhnimchjbhnfaa
