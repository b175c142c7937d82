/- RemeasureErrors: its walk (made by tools/gen17d.py). -/
import Derived.Test.YtolmdoigcaaieaaLaw17a
import Derived.BigQuiet
import Derived.Deep.CutBlock
import Derived.Laws.StructEq
namespace Go.Proofs.Ytolmdoigcaaieaa
open Go.RowKit

/-- one bucket goes, another one comes -/
def fT (n : Int) : Nat → Wy := fun j => if j = 0 then ⟨1, 1, n, -n, 0⟩ else ⟨1, 2, 0, n, n⟩
theorem two_lt {j : Nat} (h : j < 2) : j = 0 ∨ j = 1 := by omega
theorem fis_two {n : Int} (hn : n ≠ 0) : FIs (oneB 1 1 n) (oneB 1 2 n) 2 (fT n) := by
  refine ⟨⟨⟨fun j hj => ?_, fun j _ => (by show (1 : Int) ≠ 0; decide), fun i j hi hj => ?_⟩, fun c y => ?_⟩, fun j hj => ?_, fun j hj => ?_, fun j hj => ?_⟩
  · rcases two_lt hj with rfl | rfl
    · show BOk 1 1; unfold BOk; omega
    · show BOk 1 2; unfold BOk; omega
  · obtain ⟨rfl, rfl⟩ : i = 0 ∧ j = 1 := by omega
    show Bl 1 1 1 2; unfold Bl; omega
  · show 0 + bval ⟨1, 1, 1⟩ c y + bval ⟨1, 2, 1⟩ c y = both (oneB 1 1 n) (oneB 1 2 n) c y
    unfold both bval
    rw [oneB_at, oneB_at]
    by_cases h1 : (1 : Int) = c ∧ (1 : Int) = y
    · obtain ⟨rfl, rfl⟩ := h1
      simp [hn]
    · by_cases h2 : (1 : Int) = c ∧ (2 : Int) = y
      · obtain ⟨rfl, rfl⟩ := h2
        simp [hn]
      · simp [h1, h2]
  · rcases two_lt hj with rfl | rfl
    · show n = oneB 1 1 n 1 1; rw [oneB_at, if_pos ⟨rfl, rfl⟩]
    · show 0 = oneB 1 1 n 1 2; rw [oneB_at, if_neg (by omega)]
  · rcases two_lt hj with rfl | rfl
    · show 0 = oneB 1 2 n 1 1; rw [oneB_at, if_neg (by omega)]
    · show n = oneB 1 2 n 1 2; rw [oneB_at, if_pos ⟨rfl, rfl⟩]
  · rcases two_lt hj with rfl | rfl
    · show -n = 0 - n; omega
    · show n = n - 0; omega
theorem rm_len {q : Nat} {f : Nat → Wy} {k0 k1 : Nat} {o z : Nat → Int} (h : ¬ (k0 = q ∧ k1 = q)) : RmIs q f k0 o k1 z 0 0 1 := .inl ⟨fun a => h ⟨a.1, a.2.1⟩, rfl, rfl, rfl⟩
theorem rm_row {q : Nat} {f : Nat → Wy} {k0 k1 : Nat} {o z : Nat → Int} (i : Nat) (hi : i < q) (h : ¬ WayOk f o z i) : RmIs q f k0 o k1 z 0 0 1 := .inl ⟨fun a => h (a.2.2 i hi), rfl, rfl, rfl⟩
theorem rof_one {n : Int} (h : 0 ≤ n ∧ n ≤ 1000) : rof n 1 = 0 := by unfold rof; rw [if_neg (by omega), Int.mul_one]; omega
theorem rm_two {n : Int} (bn : 1 ≤ n ∧ n ≤ 1000) {o z : Nat → Int} (ho : ∀ j, j < 2 → o j = 1) (hz : ∀ j, j < 2 → z j = 1) : RmIs 2 (fT n) 2 o 2 z 0 0 0 := by
  have m0 : tot (mvU (fT n) z) 2 = 0 := by
    show 0 + (rof 0 (z 0) - rof n (z 0)) + (rof n (z 1) - rof 0 (z 1)) = 0
    rw [hz 0 (by omega), hz 1 (by omega)]; omega
  have r0 : tot (rtU (fT n) o z) 2 = 0 := by
    show 0 + (rof n (z 0) - rof n (o 0)) + (rof 0 (z 1) - rof 0 (o 1)) = 0
    rw [hz 0 (by omega), hz 1 (by omega), ho 0 (by omega), ho 1 (by omega)]; omega
  refine .inr (.inr ⟨⟨rfl, rfl, fun i hi => ⟨⟨by rw [ho i hi]; unfold RtOk; omega, by rw [hz i hi]; unfold RtOk; omega⟩, ?_⟩⟩, ⟨by rw [m0]; exact zero_mon 0 0, by rw [r0]; exact zero_mon 0 0⟩, m0.symm, r0.symm, rfl⟩)
  rcases two_lt hi with rfl | rfl
  · exact ⟨by show Mon n; unfold Mon; omega, zero_mon 0 0⟩
  · exact ⟨zero_mon 0 0, by show Mon n; unfold Mon; omega⟩
theorem rm_great : RmIs 1 (fun _ => ⟨1, 1, 100000000000, -100000000000 - 100000000000, -100000000000⟩) 1 (fun j => [1000000].getD j 0) 1 (fun j => [1000000].getD j 0) 0 0 6 := by
  refine .inr (.inl ⟨⟨rfl, rfl, fun i hi => ?_⟩, fun a => ?_, rfl, rfl, rfl⟩)
  · obtain rfl : i = 0 := by omega
    exact ⟨⟨by unfold RtOk; decide, by unfold RtOk; decide⟩, by unfold Mon; decide, by unfold Mon; decide⟩
  · have := a.1
    revert this
    unfold Mon; decide
set_option maxHeartbeats 16000000 in
set_option maxRecDepth 100000 in
theorem remeasureErrors_walk (a0 : Int) (w : World) :
    Calls Try.prog 4 #[.int .i64 a0] w fun e w' => e = .returned (.bool true) ∧ Below w.heap.size w w' := by
  have W := Lib.hid fun w => wakes17_any w
  obtain ⟨n, hn⟩ : ∃ n, a0 % 1000 + 1 = n := ⟨_, rfl⟩
  have E1 := Lib.hid (show a0 % 1000 = n - 1 by omega)
  have bn : 1 ≤ n ∧ n ≤ 1000 := by omega
  have f1 : 1 + (n - 1) = n := by omega
  clear hn
  obtain ⟨u1, h1⟩ : ∃ u, w.alloc (.cells #[.int .i64 1, .int .i64 1, .int .i64 n] 26) = u := ⟨_, rfl⟩
  have b1 := (Below.refl w.heap.size w).alloc (Nat.le_refl _) (.cells #[.int .i64 1, .int .i64 1, .int .i64 n] 26)
  rw [h1] at b1
  have z1 : u1.heap.size = w.heap.size + 1 := by rw [← h1]; simp
  have y1 : AtR be 3 u1 (some ⟨w.heap.size, 0, none⟩) 1 (fun _ => ⟨1, 1, n⟩) := at_one (fun j u hu => by rw [← h1]; exact rec_lit w (be ⟨1, 1, n⟩) 26 _ rfl j u hu) (by rw [z1]; omega)
  obtain ⟨u2, h2⟩ : ∃ u, u1.alloc (.cells #[.int .i64 1, .int .i64 2, .int .i64 n] 26) = u := ⟨_, rfl⟩
  have b2 := (Below.refl u1.heap.size u1).alloc (Nat.le_refl _) (.cells #[.int .i64 1, .int .i64 2, .int .i64 n] 26)
  rw [h2] at b2
  have z2 : u2.heap.size = w.heap.size + 1 + 1 := by rw [← h2]; simp [z1]
  have y2 : AtR be 3 u2 (some ⟨w.heap.size + 1, 0, none⟩) 1 (fun _ => ⟨1, 2, n⟩) := at_one (fun j u hu => by rw [← h2]; exact rec_lit u1 (be ⟨1, 2, n⟩) 26 _ z1 j u hu) (by rw [z2]; omega)
  obtain ⟨u3, h3⟩ : ∃ u, u2.alloc (.cells #[.int .i64 1] 3) = u := ⟨_, rfl⟩
  have b3 := (Below.refl u2.heap.size u2).alloc (Nat.le_refl _) (.cells #[.int .i64 1] 3)
  rw [h3] at b3
  have z3 : u3.heap.size = w.heap.size + 1 + 1 + 1 := by rw [← h3]; simp [z2]
  have y3 : At u3 (some ⟨w.heap.size + 1 + 1, 0, none⟩) 1 (fun j => [1].getD j 0) := by rw [← h3]; exact (lit_row' u2 [1] 3 _ z2).at
  obtain ⟨u4, h4⟩ : ∃ u, u3.alloc (.cells #[.int .i64 1] 3) = u := ⟨_, rfl⟩
  have b4 := (Below.refl u3.heap.size u3).alloc (Nat.le_refl _) (.cells #[.int .i64 1] 3)
  rw [h4] at b4
  have z4 : u4.heap.size = w.heap.size + 1 + 1 + 1 + 1 := by rw [← h4]; simp [z3]
  have y4 : At u4 (some ⟨w.heap.size + 1 + 1 + 1, 0, none⟩) 1 (fun j => [1].getD j 0) := by rw [← h4]; exact (lit_row' u3 [1] 3 _ z3).at
  obtain ⟨u5, h5⟩ : ∃ u, u4.alloc (.cells #[.int .i64 1, .int .i64 1] 3) = u := ⟨_, rfl⟩
  have b5 := (Below.refl u4.heap.size u4).alloc (Nat.le_refl _) (.cells #[.int .i64 1, .int .i64 1] 3)
  rw [h5] at b5
  have z5 : u5.heap.size = w.heap.size + 1 + 1 + 1 + 1 + 1 := by rw [← h5]; simp [z4]
  have y5 : At u5 (some ⟨w.heap.size + 1 + 1 + 1 + 1, 0, none⟩) 2 (fun j => [1, 1].getD j 0) := by rw [← h5]; exact (lit_row' u4 [1, 1] 3 _ z4).at
  obtain ⟨u6, h6⟩ : ∃ u, u5.alloc (.cells #[.int .i64 1] 3) = u := ⟨_, rfl⟩
  have b6 := (Below.refl u5.heap.size u5).alloc (Nat.le_refl _) (.cells #[.int .i64 1] 3)
  rw [h6] at b6
  have z6 : u6.heap.size = w.heap.size + 1 + 1 + 1 + 1 + 1 + 1 := by rw [← h6]; simp [z5]
  have y6 : At u6 (some ⟨w.heap.size + 1 + 1 + 1 + 1 + 1, 0, none⟩) 1 (fun j => [1].getD j 0) := by rw [← h6]; exact (lit_row' u5 [1] 3 _ z5).at
  obtain ⟨u7, h7⟩ : ∃ u, u6.alloc (.cells #[.int .i64 1, .int .i64 1] 3) = u := ⟨_, rfl⟩
  have b7 := (Below.refl u6.heap.size u6).alloc (Nat.le_refl _) (.cells #[.int .i64 1, .int .i64 1] 3)
  rw [h7] at b7
  have z7 : u7.heap.size = w.heap.size + 1 + 1 + 1 + 1 + 1 + 1 + 1 := by rw [← h7]; simp [z6]
  have y7 : At u7 (some ⟨w.heap.size + 1 + 1 + 1 + 1 + 1 + 1, 0, none⟩) 2 (fun j => [1, 1].getD j 0) := by rw [← h7]; exact (lit_row' u6 [1, 1] 3 _ z6).at
  obtain ⟨u8, h8⟩ : ∃ u, u7.alloc (.cells #[.int .i64 1, .int .i64 1, .int .i64 1] 3) = u := ⟨_, rfl⟩
  have b8 := (Below.refl u7.heap.size u7).alloc (Nat.le_refl _) (.cells #[.int .i64 1, .int .i64 1, .int .i64 1] 3)
  rw [h8] at b8
  have z8 : u8.heap.size = w.heap.size + 1 + 1 + 1 + 1 + 1 + 1 + 1 + 1 := by rw [← h8]; simp [z7]
  have y8 : At u8 (some ⟨w.heap.size + 1 + 1 + 1 + 1 + 1 + 1 + 1, 0, none⟩) 3 (fun j => [1, 1, 1].getD j 0) := by rw [← h8]; exact (lit_row' u7 [1, 1, 1] 3 _ z7).at
  obtain ⟨u9, h9⟩ : ∃ u, u8.alloc (.cells #[.int .i64 1, .int .i64 (-1)] 3) = u := ⟨_, rfl⟩
  have b9 := (Below.refl u8.heap.size u8).alloc (Nat.le_refl _) (.cells #[.int .i64 1, .int .i64 (-1)] 3)
  rw [h9] at b9
  have z9 : u9.heap.size = w.heap.size + 1 + 1 + 1 + 1 + 1 + 1 + 1 + 1 + 1 := by rw [← h9]; simp [z8]
  have y9 : At u9 (some ⟨w.heap.size + 1 + 1 + 1 + 1 + 1 + 1 + 1 + 1, 0, none⟩) 2 (fun j => [1, (-1)].getD j 0) := by rw [← h9]; exact (lit_row' u8 [1, (-1)] 3 _ z8).at
  obtain ⟨u10, h10⟩ : ∃ u, u9.alloc (.cells #[.int .i64 1, .int .i64 1] 3) = u := ⟨_, rfl⟩
  have b10 := (Below.refl u9.heap.size u9).alloc (Nat.le_refl _) (.cells #[.int .i64 1, .int .i64 1] 3)
  rw [h10] at b10
  have z10 : u10.heap.size = w.heap.size + 1 + 1 + 1 + 1 + 1 + 1 + 1 + 1 + 1 + 1 := by rw [← h10]; simp [z9]
  have y10 : At u10 (some ⟨w.heap.size + 1 + 1 + 1 + 1 + 1 + 1 + 1 + 1 + 1, 0, none⟩) 2 (fun j => [1, 1].getD j 0) := by rw [← h10]; exact (lit_row' u9 [1, 1] 3 _ z9).at
  obtain ⟨u11, h11⟩ : ∃ u, u10.alloc (.cells #[.int .i64 1, .int .i64 1] 3) = u := ⟨_, rfl⟩
  have b11 := (Below.refl u10.heap.size u10).alloc (Nat.le_refl _) (.cells #[.int .i64 1, .int .i64 1] 3)
  rw [h11] at b11
  have z11 : u11.heap.size = w.heap.size + 1 + 1 + 1 + 1 + 1 + 1 + 1 + 1 + 1 + 1 + 1 := by rw [← h11]; simp [z10]
  have y11 : At u11 (some ⟨w.heap.size + 1 + 1 + 1 + 1 + 1 + 1 + 1 + 1 + 1 + 1, 0, none⟩) 2 (fun j => [1, 1].getD j 0) := by rw [← h11]; exact (lit_row' u10 [1, 1] 3 _ z10).at
  obtain ⟨u12, h12⟩ : ∃ u, u11.alloc (.cells #[.int .i64 1000001, .int .i64 1] 3) = u := ⟨_, rfl⟩
  have b12 := (Below.refl u11.heap.size u11).alloc (Nat.le_refl _) (.cells #[.int .i64 1000001, .int .i64 1] 3)
  rw [h12] at b12
  have z12 : u12.heap.size = w.heap.size + 1 + 1 + 1 + 1 + 1 + 1 + 1 + 1 + 1 + 1 + 1 + 1 := by rw [← h12]; simp [z11]
  have y12 : At u12 (some ⟨w.heap.size + 1 + 1 + 1 + 1 + 1 + 1 + 1 + 1 + 1 + 1 + 1, 0, none⟩) 2 (fun j => [1000001, 1].getD j 0) := by rw [← h12]; exact (lit_row' u11 [1000001, 1] 3 _ z11).at
  obtain ⟨u13, h13⟩ : ∃ u, u12.alloc (.cells #[.int .i64 1, .int .i64 1] 3) = u := ⟨_, rfl⟩
  have b13 := (Below.refl u12.heap.size u12).alloc (Nat.le_refl _) (.cells #[.int .i64 1, .int .i64 1] 3)
  rw [h13] at b13
  have z13 : u13.heap.size = w.heap.size + 1 + 1 + 1 + 1 + 1 + 1 + 1 + 1 + 1 + 1 + 1 + 1 + 1 := by rw [← h13]; simp [z12]
  have y13 : At u13 (some ⟨w.heap.size + 1 + 1 + 1 + 1 + 1 + 1 + 1 + 1 + 1 + 1 + 1 + 1, 0, none⟩) 2 (fun j => [1, 1].getD j 0) := by rw [← h13]; exact (lit_row' u12 [1, 1] 3 _ z12).at
  obtain ⟨u14, h14⟩ : ∃ u, u13.alloc (.cells #[.int .i64 1, .int .i64 1] 3) = u := ⟨_, rfl⟩
  have b14 := (Below.refl u13.heap.size u13).alloc (Nat.le_refl _) (.cells #[.int .i64 1, .int .i64 1] 3)
  rw [h14] at b14
  have z14 : u14.heap.size = w.heap.size + 1 + 1 + 1 + 1 + 1 + 1 + 1 + 1 + 1 + 1 + 1 + 1 + 1 + 1 := by rw [← h14]; simp [z13]
  have y14 : At u14 (some ⟨w.heap.size + 1 + 1 + 1 + 1 + 1 + 1 + 1 + 1 + 1 + 1 + 1 + 1 + 1, 0, none⟩) 2 (fun j => [1, 1].getD j 0) := by rw [← h14]; exact (lit_row' u13 [1, 1] 3 _ z13).at
  obtain ⟨wL, h15⟩ : ∃ u, u14.alloc (.cells #[.slice none 0 0, .slice none 0 0, .int .i64 1, .slice (some ⟨w.heap.size + 1 + 1, 0, none⟩) 1 1, .slice (some ⟨w.heap.size + 1 + 1 + 1, 0, none⟩) 1 1, .int .i64 1, .slice (some ⟨w.heap.size + 1 + 1 + 1 + 1, 0, none⟩) 2 2, .slice (some ⟨w.heap.size + 1 + 1 + 1 + 1 + 1, 0, none⟩) 1 1, .int .i64 1, .slice (some ⟨w.heap.size + 1 + 1 + 1 + 1 + 1 + 1, 0, none⟩) 2 2, .slice (some ⟨w.heap.size + 1 + 1 + 1 + 1 + 1 + 1 + 1, 0, none⟩) 3 3, .int .i64 1, .slice (some ⟨w.heap.size + 1 + 1 + 1 + 1 + 1 + 1 + 1 + 1, 0, none⟩) 2 2, .slice (some ⟨w.heap.size + 1 + 1 + 1 + 1 + 1 + 1 + 1 + 1 + 1, 0, none⟩) 2 2, .int .i64 1, .slice (some ⟨w.heap.size + 1 + 1 + 1 + 1 + 1 + 1 + 1 + 1 + 1 + 1, 0, none⟩) 2 2, .slice (some ⟨w.heap.size + 1 + 1 + 1 + 1 + 1 + 1 + 1 + 1 + 1 + 1 + 1, 0, none⟩) 2 2, .int .i64 1, .slice (some ⟨w.heap.size + 1 + 1 + 1 + 1 + 1 + 1 + 1 + 1 + 1 + 1 + 1 + 1, 0, none⟩) 2 2, .slice (some ⟨w.heap.size + 1 + 1 + 1 + 1 + 1 + 1 + 1 + 1 + 1 + 1 + 1 + 1 + 1, 0, none⟩) 2 2, .int .i64 0] 35) = u := ⟨_, rfl⟩
  have b15 := (Below.refl u14.heap.size u14).alloc (Nat.le_refl _) (.cells #[.slice none 0 0, .slice none 0 0, .int .i64 1, .slice (some ⟨w.heap.size + 1 + 1, 0, none⟩) 1 1, .slice (some ⟨w.heap.size + 1 + 1 + 1, 0, none⟩) 1 1, .int .i64 1, .slice (some ⟨w.heap.size + 1 + 1 + 1 + 1, 0, none⟩) 2 2, .slice (some ⟨w.heap.size + 1 + 1 + 1 + 1 + 1, 0, none⟩) 1 1, .int .i64 1, .slice (some ⟨w.heap.size + 1 + 1 + 1 + 1 + 1 + 1, 0, none⟩) 2 2, .slice (some ⟨w.heap.size + 1 + 1 + 1 + 1 + 1 + 1 + 1, 0, none⟩) 3 3, .int .i64 1, .slice (some ⟨w.heap.size + 1 + 1 + 1 + 1 + 1 + 1 + 1 + 1, 0, none⟩) 2 2, .slice (some ⟨w.heap.size + 1 + 1 + 1 + 1 + 1 + 1 + 1 + 1 + 1, 0, none⟩) 2 2, .int .i64 1, .slice (some ⟨w.heap.size + 1 + 1 + 1 + 1 + 1 + 1 + 1 + 1 + 1 + 1, 0, none⟩) 2 2, .slice (some ⟨w.heap.size + 1 + 1 + 1 + 1 + 1 + 1 + 1 + 1 + 1 + 1 + 1, 0, none⟩) 2 2, .int .i64 1, .slice (some ⟨w.heap.size + 1 + 1 + 1 + 1 + 1 + 1 + 1 + 1 + 1 + 1 + 1 + 1, 0, none⟩) 2 2, .slice (some ⟨w.heap.size + 1 + 1 + 1 + 1 + 1 + 1 + 1 + 1 + 1 + 1 + 1 + 1 + 1, 0, none⟩) 2 2, .int .i64 0] 35)
  rw [h15] at b15
  have z15 : wL.heap.size = w.heap.size + 1 + 1 + 1 + 1 + 1 + 1 + 1 + 1 + 1 + 1 + 1 + 1 + 1 + 1 + 1 := by rw [← h15]; simp [z14]
  have RR : ∀ j u, [.slice none 0 0, .slice none 0 0, .int .i64 1, .slice (some ⟨w.heap.size + 1 + 1, 0, none⟩) 1 1, .slice (some ⟨w.heap.size + 1 + 1 + 1, 0, none⟩) 1 1, .int .i64 1, .slice (some ⟨w.heap.size + 1 + 1 + 1 + 1, 0, none⟩) 2 2, .slice (some ⟨w.heap.size + 1 + 1 + 1 + 1 + 1, 0, none⟩) 1 1, .int .i64 1, .slice (some ⟨w.heap.size + 1 + 1 + 1 + 1 + 1 + 1, 0, none⟩) 2 2, .slice (some ⟨w.heap.size + 1 + 1 + 1 + 1 + 1 + 1 + 1, 0, none⟩) 3 3, .int .i64 1, .slice (some ⟨w.heap.size + 1 + 1 + 1 + 1 + 1 + 1 + 1 + 1, 0, none⟩) 2 2, .slice (some ⟨w.heap.size + 1 + 1 + 1 + 1 + 1 + 1 + 1 + 1 + 1, 0, none⟩) 2 2, .int .i64 1, .slice (some ⟨w.heap.size + 1 + 1 + 1 + 1 + 1 + 1 + 1 + 1 + 1 + 1, 0, none⟩) 2 2, .slice (some ⟨w.heap.size + 1 + 1 + 1 + 1 + 1 + 1 + 1 + 1 + 1 + 1 + 1, 0, none⟩) 2 2, .int .i64 1, .slice (some ⟨w.heap.size + 1 + 1 + 1 + 1 + 1 + 1 + 1 + 1 + 1 + 1 + 1 + 1, 0, none⟩) 2 2, .slice (some ⟨w.heap.size + 1 + 1 + 1 + 1 + 1 + 1 + 1 + 1 + 1 + 1 + 1 + 1 + 1, 0, none⟩) 2 2, .int .i64 0][j]? = some u → wL.cell? ⟨w.heap.size + 1 + 1 + 1 + 1 + 1 + 1 + 1 + 1 + 1 + 1 + 1 + 1 + 1 + 1, j, none⟩ = some u := by rw [← h15]; exact rec_lit u14 [.slice none 0 0, .slice none 0 0, .int .i64 1, .slice (some ⟨w.heap.size + 1 + 1, 0, none⟩) 1 1, .slice (some ⟨w.heap.size + 1 + 1 + 1, 0, none⟩) 1 1, .int .i64 1, .slice (some ⟨w.heap.size + 1 + 1 + 1 + 1, 0, none⟩) 2 2, .slice (some ⟨w.heap.size + 1 + 1 + 1 + 1 + 1, 0, none⟩) 1 1, .int .i64 1, .slice (some ⟨w.heap.size + 1 + 1 + 1 + 1 + 1 + 1, 0, none⟩) 2 2, .slice (some ⟨w.heap.size + 1 + 1 + 1 + 1 + 1 + 1 + 1, 0, none⟩) 3 3, .int .i64 1, .slice (some ⟨w.heap.size + 1 + 1 + 1 + 1 + 1 + 1 + 1 + 1, 0, none⟩) 2 2, .slice (some ⟨w.heap.size + 1 + 1 + 1 + 1 + 1 + 1 + 1 + 1 + 1, 0, none⟩) 2 2, .int .i64 1, .slice (some ⟨w.heap.size + 1 + 1 + 1 + 1 + 1 + 1 + 1 + 1 + 1 + 1, 0, none⟩) 2 2, .slice (some ⟨w.heap.size + 1 + 1 + 1 + 1 + 1 + 1 + 1 + 1 + 1 + 1 + 1, 0, none⟩) 2 2, .int .i64 1, .slice (some ⟨w.heap.size + 1 + 1 + 1 + 1 + 1 + 1 + 1 + 1 + 1 + 1 + 1 + 1, 0, none⟩) 2 2, .slice (some ⟨w.heap.size + 1 + 1 + 1 + 1 + 1 + 1 + 1 + 1 + 1 + 1 + 1 + 1 + 1, 0, none⟩) 2 2, .int .i64 0] 35 _ z14
  have B14 := b15
  have B13 := b14.trans (B14.mono b14.size)
  have B12 := b13.trans (B13.mono b13.size)
  have B11 := b12.trans (B12.mono b12.size)
  have B10 := b11.trans (B11.mono b11.size)
  have B9 := b10.trans (B10.mono b10.size)
  have B8 := b9.trans (B9.mono b9.size)
  have B7 := b8.trans (B8.mono b8.size)
  have B6 := b7.trans (B7.mono b7.size)
  have B5 := b6.trans (B6.mono b6.size)
  have B4 := b5.trans (B5.mono b5.size)
  have B3 := b4.trans (B4.mono b4.size)
  have B2 := b3.trans (B3.mono b3.size)
  have B1 := b2.trans (B2.mono b2.size)
  have B0 := b1.trans (B1.mono b1.size)
  have AX := Lib.hid (y1.below B1)
  have AY := Lib.hid (y2.below B2)
  have ROW : Hid (∀ k, k < 7 → ∃ (U : Option Addr) (k0 cu : Nat) (V : Option Addr) (k1 cv : Nat) (e : Int), wL.cell? ⟨w.heap.size + 1 + 1 + 1 + 1 + 1 + 1 + 1 + 1 + 1 + 1 + 1 + 1 + 1 + 1, k * 3, none⟩ = some (.slice U k0 cu) ∧ wL.cell? ⟨w.heap.size + 1 + 1 + 1 + 1 + 1 + 1 + 1 + 1 + 1 + 1 + 1 + 1 + 1 + 1, k * 3 + 1, none⟩ = some (.slice V k1 cv) ∧ wL.cell? ⟨w.heap.size + 1 + 1 + 1 + 1 + 1 + 1 + 1 + 1 + 1 + 1 + 1 + 1 + 1 + 1, k * 3 + 2, none⟩ = some (.int .i64 e) ∧ (k0 ≤ cu ∧ cu ≤ 3 ∧ k1 ≤ cv ∧ cv ≤ 3) ∧ ∃ (o z : Nat → Int), At wL U k0 o ∧ At wL V k1 z ∧ RmIs 2 (fT n) k0 o k1 z 0 0 e) := Lib.hid fun k hk => by
    rcases (show k = 0 ∨ k = 1 ∨ k = 2 ∨ k = 3 ∨ k = 4 ∨ k = 5 ∨ k = 6 by omega) with rfl | rfl | rfl | rfl | rfl | rfl | rfl
    · exact ⟨_, _, _, _, _, _, _, RR 0 _ rfl, RR 1 _ rfl, RR 2 _ rfl, by omega, fun _ => 0, fun _ => 0, .inl rfl, .inl rfl, rm_len (by decide)⟩
    · exact ⟨_, _, _, _, _, _, _, RR 3 _ rfl, RR 4 _ rfl, RR 5 _ rfl, by omega, _, _, y3.below B3, y4.below B4, rm_len (by decide)⟩
    · exact ⟨_, _, _, _, _, _, _, RR 6 _ rfl, RR 7 _ rfl, RR 8 _ rfl, by omega, _, _, y5.below B5, y6.below B6, rm_len (by decide)⟩
    · exact ⟨_, _, _, _, _, _, _, RR 9 _ rfl, RR 10 _ rfl, RR 11 _ rfl, by omega, _, _, y7.below B7, y8.below B8, rm_len (by decide)⟩
    · exact ⟨_, _, _, _, _, _, _, RR 12 _ rfl, RR 13 _ rfl, RR 14 _ rfl, by omega, _, _, y9.below B9, y10.below B10, rm_row 1 (by omega) (fun a => by have := a.1.1.1; revert this; decide)⟩
    · exact ⟨_, _, _, _, _, _, _, RR 15 _ rfl, RR 16 _ rfl, RR 17 _ rfl, by omega, _, _, y11.below B11, y12.below B12, rm_row 0 (by omega) (fun a => by have := a.1.2.2; revert this; decide)⟩
    · exact ⟨_, _, _, _, _, _, _, RR 18 _ rfl, RR 19 _ rfl, RR 20 _ rfl, by omega, _, _, y13.below B13, y14.below B14, rm_two bn (fun j hj => by rcases two_lt hj with rfl | rfl <;> rfl) (fun j hj => by rcases two_lt hj with rfl | rfl <;> rfl)⟩
  have HL := Lib.hid (show (((((((((((((((w.alloc (.cells #[.int .i64 1, .int .i64 1, .int .i64 n] 26)).alloc (.cells #[.int .i64 1, .int .i64 2, .int .i64 n] 26)).alloc (.cells #[.int .i64 1] 3)).alloc (.cells #[.int .i64 1] 3)).alloc (.cells #[.int .i64 1, .int .i64 1] 3)).alloc (.cells #[.int .i64 1] 3)).alloc (.cells #[.int .i64 1, .int .i64 1] 3)).alloc (.cells #[.int .i64 1, .int .i64 1, .int .i64 1] 3)).alloc (.cells #[.int .i64 1, .int .i64 (-1)] 3)).alloc (.cells #[.int .i64 1, .int .i64 1] 3)).alloc (.cells #[.int .i64 1, .int .i64 1] 3)).alloc (.cells #[.int .i64 1000001, .int .i64 1] 3)).alloc (.cells #[.int .i64 1, .int .i64 1] 3)).alloc (.cells #[.int .i64 1, .int .i64 1] 3)).alloc (.cells #[.slice none 0 0, .slice none 0 0, .int .i64 1, .slice (some ⟨w.heap.size + 1 + 1, 0, none⟩) 1 1, .slice (some ⟨w.heap.size + 1 + 1 + 1, 0, none⟩) 1 1, .int .i64 1, .slice (some ⟨w.heap.size + 1 + 1 + 1 + 1, 0, none⟩) 2 2, .slice (some ⟨w.heap.size + 1 + 1 + 1 + 1 + 1, 0, none⟩) 1 1, .int .i64 1, .slice (some ⟨w.heap.size + 1 + 1 + 1 + 1 + 1 + 1, 0, none⟩) 2 2, .slice (some ⟨w.heap.size + 1 + 1 + 1 + 1 + 1 + 1 + 1, 0, none⟩) 3 3, .int .i64 1, .slice (some ⟨w.heap.size + 1 + 1 + 1 + 1 + 1 + 1 + 1 + 1, 0, none⟩) 2 2, .slice (some ⟨w.heap.size + 1 + 1 + 1 + 1 + 1 + 1 + 1 + 1 + 1, 0, none⟩) 2 2, .int .i64 1, .slice (some ⟨w.heap.size + 1 + 1 + 1 + 1 + 1 + 1 + 1 + 1 + 1 + 1, 0, none⟩) 2 2, .slice (some ⟨w.heap.size + 1 + 1 + 1 + 1 + 1 + 1 + 1 + 1 + 1 + 1 + 1, 0, none⟩) 2 2, .int .i64 1, .slice (some ⟨w.heap.size + 1 + 1 + 1 + 1 + 1 + 1 + 1 + 1 + 1 + 1 + 1 + 1, 0, none⟩) 2 2, .slice (some ⟨w.heap.size + 1 + 1 + 1 + 1 + 1 + 1 + 1 + 1 + 1 + 1 + 1 + 1 + 1, 0, none⟩) 2 2, .int .i64 0] 35)) = wL by rw [h1, h2, h3, h4, h5, h6, h7, h8, h9, h10, h11, h12, h13, h14, h15])
  have KL := Lib.hid B0
  have zL : w.heap.size + 1 + 1 + 1 + 1 + 1 + 1 + 1 + 1 + 1 + 1 + 1 + 1 + 1 + 1 < wL.heap.size := by omega
  clear h1 b1 z1 h2 b2 z2 h3 b3 z3 h4 b4 z4 h5 b5 z5 h6 b6 z6 h7 b7 z7 h8 b8 z8 h9 b9 z9 h10 b10 z10 h11 b11 z11 h12 b12 z12 h13 b13 z13 h14 b14 z14 h15 b15 z15 y1 y2 y3 y4 y5 y6 y7 y8 y9 y10 y11 y12 y13 y14 RR B0 B1 B2 B3 B4 B5 B6 B7 B8 B9 B10 B11 B12 B13 B14
  go_enter Try.func4, Try.ntmps4
  go_upto_block 0 with (go_at_call 8; (with_reducible refine (within_at _ _ _ _ (by omega) (by omega) E1).mono ?_); rintro e w' ⟨rfl, rfl⟩)
  rw [HL.out]
  clear HL
  have fw := Lib.hid ((fis_two (n := n) (by omega)).fiw (one_inv (c := 1) (y := 1) (a := n) (by unfold BOk; omega) (by omega) (by unfold Mon; omega)).mon (one_inv (c := 1) (y := 2) (a := n) (by unfold BOk; omega) (by omega) (by unfold Mon; omega)).mon)
  have I1 := Lib.hid (one_inv (c := 1) (y := 1) (a := n) (by unfold BOk; omega) (by omega) (by unfold Mon; omega))
  have I2 := Lib.hid (one_inv (c := 1) (y := 2) (a := n) (by unfold BOk; omega) (by omega) (by unfold Mon; omega))
  go_wp2
  go_loopg [41] 7 (fun gh i wr => ∃ k : Nat, k ≤ 7 ∧ gh = 7 - k ∧ i = .int .i64 k ∧ Below wL.heap.size wL wr)
  case atStart => exact ⟨0, by omega, rfl, rfl, Below.refl _ _⟩
  case round =>
    obtain ⟨k, hk, hgk, rfl, hbw⟩ := hrel
    have HGK := Lib.hid hgk
    have HW := Lib.hid hbw
    clear hgk hbw
    by_cases hlt : k < 7
    · obtain ⟨U, k0, cu, V, k1, cv, e, c0, c1, c2, ⟨l1, l2, l3, l4⟩, o, z, hat, hat', ht⟩ := ROW.out k hlt
      replace c0 := cell_keep c0 HW.out
      replace c1 := cell_keep c1 HW.out
      replace c2 := cell_keep c2 HW.out
      have he : (e = 0) ∨ (¬ e = 0) := by omega
      have CT := Lib.hid fun w5 (q : Below wr.heap.size wr w5) => prem_any (c := 1) (c' := 1) (cu := cu) (cv := cv) ((AX.out.below HW.out).below q) ((AY.out.below HW.out).below q) I1.out.is I2.out.is (by omega) (by omega) (by unfold maxLen; omega) (by unfold maxLen; omega) ((hat.below HW.out).below q) ((hat'.below HW.out).below q) ⟨l1, by unfold maxLen; omega⟩ ⟨l3, by unfold maxLen; omega⟩ fw.out ht
      have RX := Lib.hid (rec_lit wr [.slice U k0 cu, .slice V k1 cv, .int .i64 e] 35 wr.heap.size rfl)
      have KX := Lib.hid ((Below.refl wr.heap.size wr).alloc (Nat.le_refl _) (.cells #[.slice U k0 cu, .slice V k1 cv, .int .i64 e] 35))
      have ee : (e == e) = true := by simp
      clear hat hat' ht
      go_wp2_with fail
      refine (CT.out _ KX.out).mono ?_
      rintro e' w7 ⟨rfl, hb7⟩
      have x2 := cell_keep (RX.out 2 _ rfl) hb7
      have x8 : wr.heap.size < w7.heap.size := by have := hb7.size; simp at this; omega
      have K7 := Lib.hid (HW.out.trans ((KX.out.trans (hb7.mono KX.out.size)).mono HW.out.size))
      clear hb7 CT RX KX c0 c1 c2
      rcases he with rfl | he
      all_goals
        go_wp2
        go_roundg (7 - (k + 1))
        case measure => have := HGK.out; omega
        case rel => exact ⟨k + 1, by omega, rfl, by go_num, K7.out.alloc K7.out.size _⟩
    · obtain rfl : k = 7 := by omega
      have L1 := Lib.hid (KL.out.trans (HW.out.mono KL.out.size))
      clear hlt HGK hk
      obtain ⟨v1, g1⟩ : ∃ u, wr.alloc (.cells #[.int .i64 1, .int .i64 1, .int .i64 100000000000] 26) = u := ⟨_, rfl⟩
      obtain ⟨v2, g2⟩ : ∃ u, v1.alloc (.cells #[.int .i64 1, .int .i64 1, .int .i64 (-100000000000)] 26) = u := ⟨_, rfl⟩
      obtain ⟨v3, g3⟩ : ∃ u, v2.alloc (.cells #[.int .i64 1000000] 3) = u := ⟨_, rfl⟩
      obtain ⟨v4, g4⟩ : ∃ u, v3.alloc (.cells #[.int .i64 1000000] 3) = u := ⟨_, rfl⟩
      have s1 : v1.heap.size = wr.heap.size + 1 := by rw [← g1]; simp
      have s2 : v2.heap.size = wr.heap.size + 1 + 1 := by rw [← g2]; simp [s1]
      have s3 : v3.heap.size = wr.heap.size + 1 + 1 + 1 := by rw [← g3]; simp [s2]
      have s4 : v4.heap.size = wr.heap.size + 1 + 1 + 1 + 1 := by rw [← g4]; simp [s3]
      have j1 := (Below.refl wr.heap.size wr).alloc (Nat.le_refl _) (.cells #[.int .i64 1, .int .i64 1, .int .i64 100000000000] 26)
      have j2 := (Below.refl v1.heap.size v1).alloc (Nat.le_refl _) (.cells #[.int .i64 1, .int .i64 1, .int .i64 (-100000000000)] 26)
      have j3 := (Below.refl v2.heap.size v2).alloc (Nat.le_refl _) (.cells #[.int .i64 1000000] 3)
      have j4 := (Below.refl v3.heap.size v3).alloc (Nat.le_refl _) (.cells #[.int .i64 1000000] 3)
      rw [g1] at j1
      rw [g2] at j2
      rw [g3] at j3
      rw [g4] at j4
      have p1 : AtR be 3 v1 (some ⟨wr.heap.size, 0, none⟩) 1 (fun _ => ⟨1, 1, 100000000000⟩) := at_one (fun j u hu => by rw [← g1]; exact rec_lit wr (be ⟨1, 1, 100000000000⟩) 26 _ rfl j u hu) (by omega)
      have p2 : AtR be 3 v2 (some ⟨wr.heap.size + 1, 0, none⟩) 1 (fun _ => ⟨1, 1, -100000000000⟩) := at_one (fun j u hu => by rw [← g2]; exact rec_lit v1 (be ⟨1, 1, -100000000000⟩) 26 _ s1 j u hu) (by omega)
      have p3 : At v3 (some ⟨wr.heap.size + 1 + 1, 0, none⟩) 1 (fun j => [1000000].getD j 0) := by rw [← g3]; exact (lit_row' v2 [1000000] 3 _ s2).at
      have p4 : At v4 (some ⟨wr.heap.size + 1 + 1 + 1, 0, none⟩) 1 (fun j => [1000000].getD j 0) := by rw [← g4]; exact (lit_row' v3 [1000000] 3 _ s3).at
      have i1 := one_inv (c := 1) (y := 1) (a := 100000000000) (by unfold BOk; omega) (by omega) (by unfold Mon; omega)
      have i2 := one_inv (c := 1) (y := 1) (a := -100000000000) (by unfold BOk; omega) (by omega) (by unfold Mon; omega)
      have CZ := Lib.hid (prem_any (c := 1) (c' := 1) (cu := 1) (cv := 1) (((p1.below j2).below j3).below j4) ((p2.below j3).below j4) i1.is i2.is (by omega) (by omega) (by unfold maxLen; omega) (by unfold maxLen; omega) (p3.below j4) p4 (by unfold maxLen; omega) (by unfold maxLen; omega) ((fis_one (c := 1) (y := 1) (a := 100000000000) (b := -100000000000) (by unfold BOk; omega) (by omega)).fiw i1.mon i2.mon) rm_great)
      have J := Lib.hid (L1.out.trans ((((j1.trans (j2.mono j1.size)).trans (j3.mono (by omega))).trans (j4.mono (by omega))).mono L1.out.size))
      have G := Lib.hid (show (((wr.alloc (.cells #[.int .i64 1, .int .i64 1, .int .i64 100000000000] 26)).alloc (.cells #[.int .i64 1, .int .i64 1, .int .i64 (-100000000000)] 26)).alloc (.cells #[.int .i64 1000000] 3)).alloc (.cells #[.int .i64 1000000] 3) = v4 by rw [g1, g2, g3, g4])
      clear g1 g2 g3 g4 s1 s2 s3 s4 j1 j2 j3 j4 p1 p2 p3 p4 i1 i2
      go_wp2_with fail
      rw [G.out]
      refine (CZ.out).mono ?_
      rintro e v5 ⟨rfl, hb5⟩
      have J5 := Lib.hid (J.out.trans (hb5.mono J.out.size))
      clear hb5 CZ
      go_wp2_with (go_at_call 11; (with_reducible refine (W.out _).mono ?_); rintro e x5 ⟨rfl, hx5⟩; have M5 := Lib.hid hx5; clear hx5)
      go_ret
      exact ⟨rfl, (J5.out.alloc J5.out.size _).trans (M5.out.mono (J5.out.alloc J5.out.size _).size)⟩
end Go.Proofs.Ytolmdoigcaaieaa
