/- Law 11: rows told alike; a bucket's movement; the document's example. -/
import Derived.Test.YtcobenflfnmhgaaRoll3
import Derived.WalkKit
import Derived.WalkSpells
import Derived.WalkLawsBesides
import Derived.Lib.Hide
import Derived.IntWalk
import Derived.Laws.StructEq
import Derived.Deep.LoopGhost
import Derived.Deep.QuietTactic
import Derived.BigQuiet
namespace Go.Proofs.Ytcobenflfnmhgaa
open Go.RowKit

set_option maxHeartbeats 4000000 in
theorem wsame_true (A A' : Option Addr) (n c c' : Nat) (g g' : Nat → Wy) (w : World) (h : AtR we 5 w A n g) (h' : AtR we 5 w A' n g') (hn : n ≤ 1000000) (e : ∀ j, j < n → g j = g' j) :
    Calls Try.prog 15 #[.slice A n c, .slice A' n c'] w fun e' w' => e' = .returned (.bool true) ∧ Below w.heap.size w w' := by
  have H1 := Lib.hid h
  have H2 := Lib.hid (h'.ext fun j hj => (e j hj).symm)
  have ee : ((n : Int) != (n : Int)) = false := by simp
  clear h h' e
  go_enter Try.func15, Try.ntmps15
  go_wp2
  go_loopg [5] n (fun gh i wr => ∃ k : Nat, k ≤ n ∧ gh = n - k ∧ i = .int .i64 k ∧ Below w.heap.size w wr)
  case atStart => exact ⟨0, Nat.zero_le _, rfl, rfl, Below.refl _ _⟩
  case round =>
    obtain ⟨k, hk, hgk, rfl, hbw⟩ := hrel
    have HGK := Lib.hid hgk
    have HB := Lib.hid hbw
    clear hgk hbw
    by_cases hlt : k < n
    · obtain ⟨b, off, rfl, hb, c0, c1, c2, c3, c4⟩ := (H1.out.below HB.out).five hlt
      obtain ⟨b', off', rfl, hb', c0', c1', c2', c3', c4'⟩ := (H2.out.below HB.out).five hlt
      have k0 : (0 : Int) ≤ (k : Int) := by omega
      have k1 : (k : Int) < (n : Int) := by omega
      go_wp2
      go_big_quiet (fail)
      go_wp2
      go_roundg (n - (k + 1))
      case measure => have := HGK.out; omega
      case rel => exact ⟨k + 1, by omega, rfl, by go_num, below_drewN HB.out _⟩
    · obtain rfl : k = n := by omega
      clear hlt
      go_wp2
      go_ret
      exact ⟨rfl, HB.out⟩
/-- a bucket's movement among rows -/
theorem mvd_any {S S' : Int → Int → Int} (A : Option Addr) (n c : Nat) (f : Nat → Wy) (w : World) (h : AtR we 5 w A n f) (hf : FIs S S' n f) (cl y : Int) :
    Calls Try.prog 8 #[.slice A n c, .int .i64 cl, .int .i64 y] w fun e w' => e = .returned (.int .i64 (S' cl y - S cl y)) ∧ Below w.heap.size w w' := by
  have HA := Lib.hid h
  have HF := Lib.hid hf
  have hn := hf.le
  obtain ⟨V, hV⟩ : ∃ V, S' cl y - S cl y = V := ⟨_, rfl⟩
  rw [hV]
  have HV := Lib.hid hV
  clear h hf hV
  go_enter Try.func8, Try.ntmps8
  go_wp2
  go_loopg [11] n (fun gh i wr => ∃ k : Nat, k ≤ n ∧ gh = n - k ∧ i = .int .i64 k ∧ (∀ j, j < k → ¬ ((f j).c = cl ∧ (f j).y = y)) ∧ Below w.heap.size w wr)
  case atStart => exact ⟨0, Nat.zero_le _, rfl, rfl, fun j hj => absurd hj (Nat.not_lt_zero _), Below.refl _ _⟩
  case round =>
    obtain ⟨k, hk, hgk, rfl, h0, hbw⟩ := hrel
    have HGK := Lib.hid hgk
    have HW := Lib.hid hbw
    have H0 := Lib.hid h0
    clear hgk hbw h0
    by_cases hlt : k < n
    · obtain ⟨b, off, rfl, hb, c0, c1, c2, c3, c4⟩ := (HA.out.below HW.out).five hlt
      by_cases hcc : (f k).c = cl ∧ (f k).y = y
      · have HE : Hid ((f k).m = V) := Lib.hid (by rw [← HV.out, HF.out.mv_at hlt, hcc.1, hcc.2])
        have p1 : ((f k).c == cl) = true := by simpa using hcc.1
        have p2 : ((f k).y == y) = true := by simpa using hcc.2
        clear hcc
        go_wp2
        go_ret
        exact ⟨congrArg (fun x => Ending.returned (.int .i64 x)) HE.out, HW.out.alloc HW.out.size _⟩
      · have HN := Lib.hid hcc
        rcases (show ((f k).c == cl) = false ∨ (((f k).c == cl) = true ∧ ((f k).y == y) = false) from by
            by_cases q1 : (f k).c = cl
            · exact .inr ⟨by simpa using q1, by simpa using fun q2 => hcc ⟨q1, q2⟩⟩
            · exact .inl (by simpa using q1)) with p1 | ⟨p1, p2⟩
        all_goals
          clear hcc
          go_wp2
          go_roundg (n - (k + 1))
          case measure => have := HGK.out; omega
          case rel => exact ⟨k + 1, by omega, rfl, by go_num, fun j hj => by
              by_cases e : j = k
              · rw [e]; exact HN.out
              · exact H0.out j (by omega), HW.out.alloc HW.out.size _⟩
    · obtain rfl : k = n := by omega
      clear hlt
      have HE : Hid (0 = V) := Lib.hid (by
        obtain ⟨e1, e2⟩ := HF.out.none H0.out
        rw [← HV.out, e1, e2]; rfl)
      go_wp2
      go_ret
      exact ⟨congrArg (fun x => Ending.returned (.int .i64 x)) HE.out, HW.out⟩
/-- one bucket -/
def oneB (c y a : Int) : Int → Int → Int := bget (fun _ => ⟨c, y, a⟩) 1
theorem oneB_at (c y a c' y' : Int) : oneB c y a c' y' = if c = c' ∧ y = y' then a else 0 := by
  unfold oneB bget tot tot bval
  rw [Int.zero_add]
theorem one_inv {c y a : Int} (h : BOk c y) (hz : a ≠ 0) (hm : Mon a) : BInv (oneB c y a) 1 (fun _ => ⟨c, y, a⟩) := by
  refine ⟨⟨⟨fun _ _ => h, fun _ _ => hz, fun i j hi hj => by omega⟩, fun _ _ => rfl⟩, by omega, fun c' y' => ?_, ?_⟩
  · rw [oneB_at]
    split
    · exact hm
    · unfold Mon; omega
  · show Mon (0 + a)
    rw [Int.zero_add]; exact hm
theorem fis_one {c y a b : Int} (h : BOk c y) (hz : a ≠ 0 ∨ b ≠ 0) : FIs (oneB c y a) (oneB c y b) 1 (fun _ => ⟨c, y, a, b - a, b⟩) := by
  refine ⟨⟨⟨fun _ _ => h, fun _ _ => (by show (1 : Int) ≠ 0; decide), fun i j hi hj => by omega⟩, fun c' y' => ?_⟩, fun _ _ => ?_, fun _ _ => ?_, fun _ _ => rfl⟩
  · show oneB c y 1 c' y' = both _ _ c' y'
    unfold both
    rw [oneB_at, oneB_at, oneB_at]
    by_cases e : c = c' ∧ y = y'
    · rw [if_pos e, if_pos e, if_pos e, if_neg (by omega)]
    · rw [if_neg e, if_neg e, if_neg e, if_pos ⟨rfl, rfl⟩]
  · show a = oneB c y a c y
    rw [oneB_at, if_pos ⟨rfl, rfl⟩]
  · show b = oneB c y b c y
    rw [oneB_at, if_pos ⟨rfl, rfl⟩]
theorem oneB_zero (c y : Int) : oneB c y 0 = fun _ _ => 0 := by
  funext c' y'
  rw [oneB_at]; split <;> rfl
theorem fis_nothing : FIs (fun _ _ => 0) (fun _ _ => 0) 0 (fun _ => ⟨0, 0, 0, 0, 0⟩) := by
  refine ⟨?_, fun _ h => by omega, fun _ h => by omega, fun _ h => by omega⟩
  have e : both (fun _ _ => 0) (fun _ _ => 0) = fun _ _ => 0 := by
    funext c y
    exact if_pos ⟨rfl, rfl⟩
  rw [e]
  exact bis_zero _
theorem at_one {w : World} {b : Nat} {c y a : Int} (h : ∀ j u, (be ⟨c, y, a⟩)[j]? = some u → w.cell? ⟨b, j, none⟩ = some u) (hb : b < w.heap.size) : AtR be 3 w (some ⟨b, 0, none⟩) 1 (fun _ => ⟨c, y, a⟩) :=
  .inr ⟨b, 0, rfl, hb, fun j hj i u hu => by
    obtain rfl : j = 0 := by omega
    show w.cell? ⟨b, 0 + 0 * 3 + i, none⟩ = some u
    rw [Nat.zero_mul, Nat.add_zero, Nat.zero_add]; exact h i u hu⟩
theorem at_none {w : World} (A : Option Addr) (g : Nat → Bk) : AtR be 3 w A 0 g := .inl rfl
set_option maxHeartbeats 4000000 in
set_option maxRecDepth 100000 in
theorem wakes11_any (w : World) : Calls Try.prog 12 #[] w fun e w' => e = .returned (.bool true) ∧ Below w.heap.size w w' := by
  have ok : BOk 1 2 := by unfold BOk; omega
  have i1 := one_inv (a := 5) ok (by decide) (by unfold Mon; omega)
  have i2 := one_inv (a := 7) ok (by decide) (by unfold Mon; omega)
  obtain ⟨w1, hw1⟩ : ∃ w1, w1 = (w.alloc (.cells #[.int .i64 1, .int .i64 2, .int .i64 5] 40)).alloc (.cells #[.int .i64 1, .int .i64 2, .int .i64 7] 40) := ⟨_, rfl⟩
  have z1 : w1.heap.size = w.heap.size + 2 := by rw [hw1]; simp
  have B1 : Hid (Below w.heap.size w w1) := Lib.hid (by rw [hw1]; exact ((Below.refl _ _).alloc (Nat.le_refl _) _).alloc (by simp) _)
  have a1 : AtR be 3 w1 (some ⟨w.heap.size, 0, none⟩) 1 (fun _ => ⟨1, 2, 5⟩) := at_one (fun j u hu => by
    rw [hw1]; exact cell_keep (rec_lit w (be ⟨1, 2, 5⟩) 40 w.heap.size rfl j u hu) ((Below.refl _ _).alloc (Nat.le_refl _) _)) (by omega)
  have a2 : AtR be 3 w1 (some ⟨w.heap.size + 1, 0, none⟩) 1 (fun _ => ⟨1, 2, 7⟩) := at_one (fun j u hu => by
    rw [hw1]; exact rec_lit (w.alloc (.cells #[.int .i64 1, .int .i64 2, .int .i64 5] 40)) (be ⟨1, 2, 7⟩) 40 (w.heap.size + 1) (by simp) j u hu) (by omega)
  have C1 := Lib.hid (pfwd (c := 1) (c' := 1) a1 a2 i1 i2 (by unfold maxLen; omega) (by unfold maxLen; omega))
  have FO := Lib.hid (fis_one (a := 5) (b := 7) ok (by omega))
  clear i1 i2 a1 a2 ok z1
  go_enter Try.func12, Try.ntmps12
  go_wp2_with fail
  rw [← hw1]
  refine (C1.out).mono ?_
  rintro e w2 ⟨A2, q, c2, f, rfl, ho, hf, hb⟩
  obtain ⟨rfl, hf1⟩ := FO.out.uniq hf
  have hv : f 0 = ⟨1, 2, 5, 2, 7⟩ := (hf1 0 (by omega)).symm
  have B2 := Lib.hid (B1.out.trans (hb.mono B1.out.size))
  obtain ⟨_, _, e, _, _, _, hat⟩ := ho.at we_len
  injection e with e1 _ e3
  subst e1 e3
  obtain ⟨b, off, rfl, hbl, c0, c1, c2', c3, c4⟩ := hat.five (show 0 < 1 by omega)
  rw [hv] at c0 c1 c2' c3 c4
  simp only [Nat.zero_mul, Nat.add_zero] at c0 c1 c2' c3 c4
  have C2 := Lib.hid (pfwd (w := w2) (c := 0) (c' := 0) (at_none none (fun _ => ⟨0, 0, 0⟩)) (at_none none (fun _ => ⟨0, 0, 0⟩)) (BInv.zero _) (BInv.zero _) (by unfold maxLen; omega) (by unfold maxLen; omega))
  clear hw1 ho hf hb hf1 hv hat C1
  go_wp2_with fail
  refine (C2.out).mono ?_
  rintro e w3 ⟨A3, q3, c3', f3, rfl, ho3, hf3, hb3⟩
  obtain ⟨rfl, _⟩ := fis_nothing.uniq hf3
  have B3 := Lib.hid (B2.out.trans (hb3.mono B2.out.size))
  clear ho3 hf3 hb3
  go_wp2
  go_ret
  exact ⟨rfl, B3.out⟩
end Go.Proofs.Ytcobenflfnmhgaa
