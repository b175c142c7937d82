/- Rows of which one side is not 0, picked out of the ways; four lists of numbers that grow side by side. -/
import Derived.Test.YtolmdoigcaaieaaLaw17a
namespace Go.Proofs.Ytolmdoigcaaieaa
open Go.RowKit

/-- k ways are gone through: G has those where F is not 0, u their rates -/
structure Sel (f : Nat → Wy) (F : Wy → Int) (z : Nat → Int) (q k p : Nat) (G : Nat → Bk) (u : Nat → Int) : Prop where
  row : BRow p G
  val : ∀ c y, bget G p c y = bget (fun j => ⟨(f j).c, (f j).y, F (f j)⟩) k c y
  sum : tot (partU G u) p = tot (fun j => rof (F (f j)) (z j)) k
  ahead : ∀ i j, i < p → k ≤ j → j < q → Bl (G i).c (G i).y (f j).c (f j).y
  le : p ≤ k
section
variable {S S' : Int → Int → Int} {f : Nat → Wy} {F : Wy → Int} {z : Nat → Int} {q k p n : Nat} {G g : Nat → Bk} {u : Nat → Int} {x : Int}
theorem Sel.zero (f : Nat → Wy) (F : Wy → Int) (z : Nat → Int) (q : Nat) (G : Nat → Bk) (u : Nat → Int) : Sel f F z q 0 0 G u :=
  ⟨⟨fun j hj => by omega, fun j hj => by omega, fun i j _ hj => by omega⟩, fun _ _ => rfl, rfl, fun i j hi => by omega, Nat.le_refl _⟩
theorem sel_sum (x : Int) : tot (fun j => rof (F (f j)) (if j = k then x else z j)) (k + 1) = tot (fun j => rof (F (f j)) (z j)) k + rof (F (f k)) x := by
  rw [tot, if_pos rfl]
  congr 1
  exact tot_ext k fun j hj => by rw [if_neg (by omega)]
theorem Sel.skip (s : Sel f F z q k p G u) (h0 : F (f k) = 0) (x : Int) : Sel f F (fun j => if j = k then x else z j) q (k + 1) p G u := by
  refine ⟨s.row, fun c y => ?_, ?_, fun i j hi hj hq => s.ahead i j hi (by omega) hq, by have := s.le; omega⟩
  · rw [s.val, bget_succ, show bval ⟨(f k).c, (f k).y, F (f k)⟩ c y = 0 from by
      unfold bval
      split
      · exact h0
      · rfl]
    omega
  · rw [sel_sum, s.sum, h0, rof_nil]; omega
theorem Sel.keep (s : Sel f F z q k p G u) (h : FIs S S' q f) (hk : k < q) (h0 : F (f k) ≠ 0) (x : Int) : Sel f F (fun j => if j = k then x else z j) q (k + 1) (p + 1) (pushB G p ⟨(f k).c, (f k).y, F (f k)⟩) (fun j => if j = p then x else u j) := by
  refine ⟨s.row.push (h.ok hk) h0 fun i hi => s.ahead i k hi (Nat.le_refl _) hk, fun c y => ?_, ?_, fun i j hi hj hq => ?_, by have := s.le; omega⟩
  · rw [bget_push, s.val, bget_succ]
  · rw [sel_sum, tot]
    have e1 : tot (partU (pushB G p ⟨(f k).c, (f k).y, F (f k)⟩) (fun j => if j = p then x else u j)) p = tot (partU G u) p := tot_ext p fun j hj => by
      unfold partU
      dsimp only
      rw [pushB_ne G _ (by omega), if_neg (by omega)]
    rw [e1, s.sum]
    unfold partU
    dsimp only
    rw [pushB_at, if_pos rfl]
  · by_cases e : i = p
    · rw [e, pushB_at]; exact h.asc (by omega) hq
    · rw [pushB_ne G _ e]; exact s.ahead i j (by omega) (by omega) hq
/-- all are gone through: they are the side's rows -/
theorem Sel.done (s : Sel f F z q q p G u) {R : Int → Int → Int} (h : FIs S S' q f) (h1 : ∀ j, j < q → F (f j) = R (f j).c (f j).y) (h0 : ∀ c y, S c y = 0 → S' c y = 0 → R c y = 0) (b : BIs R n g) : p = n ∧ tot (partU g u) n = tot (fun j => rof (F (f j)) (z j)) q := by
  have e : BIs R p G := ⟨s.row, fun c y => by rw [s.val, h.bget F R h1 h0]⟩
  obtain ⟨rfl, eg⟩ := e.uniq b
  refine ⟨rfl, ?_⟩
  rw [← s.sum]
  exact tot_ext p fun j hj => by unfold partU; rw [eg j hj]
end
/-- four lists of numbers of the law's own, apart from one another -/
structure Quad (w : World) (base : Nat) (v1 v2 v3 v4 : Value) (n1 n2 n3 n4 : Nat) (g1 g2 g3 g4 : Nat → Int) : Prop where
  o1 : Own w 3 base v1 n1 g1
  o2 : Own w 3 base v2 n2 g2
  o3 : Own w 3 base v3 n3 g3
  o4 : Own w 3 base v4 n4 g4
  a12 : Apart v1 v2
  a13 : Apart v1 v3
  a14 : Apart v1 v4
  a23 : Apart v2 v3
  a24 : Apart v2 v4
  a34 : Apart v3 v4
section
variable {w w' : World} {base n1 n2 n3 n4 : Nat} {v1 v2 v3 v4 : Value} {g1 g2 g3 g4 : Nat → Int}
theorem Quad.below (h : Quad w base v1 v2 v3 v4 n1 n2 n3 n4 g1 g2 g3 g4) (k : Below w.heap.size w w') : Quad w' base v1 v2 v3 v4 n1 n2 n3 n4 g1 g2 g3 g4 :=
  ⟨h.o1.below k, h.o2.below k, h.o3.below k, h.o4.below k, h.a12, h.a13, h.a14, h.a23, h.a24, h.a34⟩
theorem Quad.rot (h : Quad w base v1 v2 v3 v4 n1 n2 n3 n4 g1 g2 g3 g4) : Quad w base v2 v3 v4 v1 n2 n3 n4 n1 g2 g3 g4 g1 :=
  ⟨h.o2, h.o3, h.o4, h.o1, h.a23, h.a24, h.a12.symm, h.a34, h.a13.symm, h.a14.symm⟩
theorem Quad.push (h : Quad w base v1 v2 v3 v4 n1 n2 n3 n4 g1 g2 g3 g4) {b c H : Nat} {g : Nat → Int} (ho : Own w' 3 base (.slice (some ⟨b, 0, none⟩) (n1 + 1) c) (n1 + 1) g) (hg : w.grownBy w' v1.ownBlock) (hat : v1.ownBlock = some b ∨ b = H) (hH : w.heap.size ≤ H) :
    Quad w' base (.slice (some ⟨b, 0, none⟩) (n1 + 1) c) v2 v3 v4 (n1 + 1) n2 n3 n4 g g2 g3 g4 :=
  ⟨ho, h.o2.beside hg h.a12.symm, h.o3.beside hg h.a13.symm, h.o4.beside hg h.a14.symm, h.a12.push h.o2 hat hH, h.a13.push h.o3 hat hH, h.a14.push h.o4 hat hH, h.a23, h.a24, h.a34⟩
theorem Quad.nil (w : World) (base : Nat) (g1 g2 g3 g4 : Nat → Int) : Quad w base (.slice none 0 0) (.slice none 0 0) (.slice none 0 0) (.slice none 0 0) 0 0 0 0 g1 g2 g3 g4 :=
  ⟨Own.nil _ _ _ _, Own.nil _ _ _ _, Own.nil _ _ _ _, Own.nil _ _ _ _, Apart.nil _, Apart.nil _, Apart.nil _, Apart.nil _, Apart.nil _, Apart.nil _⟩
end
end Go.Proofs.Ytolmdoigcaaieaa
