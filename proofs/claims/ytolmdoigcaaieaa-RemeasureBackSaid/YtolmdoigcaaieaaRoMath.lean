/- From opening to closing: rows of what any of two registers has, ascending; their sums; one row a class: mathematics alone. -/
import Derived.Test.YtolmdoigcaaieaaBkMath2
namespace Go.Proofs.Ytolmdoigcaaieaa

/-- a bucket's way -/
structure Wy where
  c : Int
  y : Int
  o : Int
  m : Int
  k : Int
/-- is there anything? -/
def both (S S' : Int → Int → Int) : Int → Int → Int := fun c y => if S c y = 0 ∧ S' c y = 0 then 0 else 1
/-- the rows are the way from S to S' -/
structure FIs (S S' : Int → Int → Int) (q : Nat) (f : Nat → Wy) : Prop where
  pl : BIs (both S S') q (fun j => ⟨(f j).c, (f j).y, 1⟩)
  op : ∀ j, j < q → (f j).o = S (f j).c (f j).y
  cl : ∀ j, j < q → (f j).k = S' (f j).c (f j).y
  mv : ∀ j, j < q → (f j).m = (f j).k - (f j).o
section
variable {S S' : Int → Int → Int} {q q' : Nat} {f f' : Nat → Wy}
theorem both_ne {c y : Int} : both S S' c y ≠ 0 ↔ S c y ≠ 0 ∨ S' c y ≠ 0 := by
  unfold both
  split
  · rename_i h; constructor
    · intro z; exact absurd rfl z
    · intro z; omega
  · rename_i h; constructor
    · intro _; omega
    · intro _; decide
theorem both_one (S S' : Int → Int → Int) (c y : Int) : both S S' c y = 0 ∨ both S S' c y = 1 := by unfold both; split <;> simp
theorem FIs.uniq (h : FIs S S' q f) (h' : FIs S S' q' f') : q = q' ∧ ∀ j, j < q → f j = f' j := by
  obtain ⟨e, e'⟩ := h.pl.uniq h'.pl
  subst e
  refine ⟨rfl, fun j hj => ?_⟩
  have z := e' j hj
  injection z with z1 z2 _
  have a1 := h.op j hj; have a2 := h.cl j hj; have a3 := h.mv j hj
  have b1 := h'.op j hj; have b2 := h'.cl j hj; have b3 := h'.mv j hj
  rw [z1, z2] at a1 a2
  have c1 : (f j).o = (f' j).o := a1.trans b1.symm
  have c2 : (f j).k = (f' j).k := a2.trans b2.symm
  have c3 : (f j).m = (f' j).m := by rw [a3, b3, c1, c2]
  cases hf : f j; cases hf' : f' j
  simp only [hf, hf'] at z1 z2 c1 c2 c3
  subst z1 z2 c1 c2 c3; rfl
/-- a place's row -/
theorem FIs.find (h : FIs S S' q f) {c y : Int} (hs : S c y ≠ 0 ∨ S' c y ≠ 0) : ∃ j, j < q ∧ (f j).c = c ∧ (f j).y = y := h.pl.has (both_ne.2 hs)
theorem FIs.none (h : FIs S S' q f) {c y : Int} (hs : ∀ j, j < q → ¬ ((f j).c = c ∧ (f j).y = y)) : S c y = 0 ∧ S' c y = 0 :=
  Classical.byContradiction fun z => by
    obtain ⟨j, hj, e⟩ := h.find (c := c) (y := y) (by omega)
    exact hs j hj e
theorem FIs.any (h : FIs S S' q f) {j : Nat} (hj : j < q) : (f j).o ≠ 0 ∨ (f j).k ≠ 0 := by
  rw [h.op j hj, h.cl j hj]
  exact both_ne.1 (by have := h.pl.at hj; simp only at this; rw [this]; decide)
/-- the other way -/
theorem both_comm (S S' : Int → Int → Int) : both S S' = both S' S := by
  funext c y
  unfold both
  by_cases a : S c y = 0 <;> by_cases b : S' c y = 0 <;> simp [a, b]
theorem FIs.back (h : FIs S S' q f) : FIs S' S q (fun j => ⟨(f j).c, (f j).y, (f j).k, -(f j).m, (f j).o⟩) :=
  ⟨by have := h.pl; rw [both_comm] at this; exact this, fun j hj => h.cl j hj, fun j hj => h.op j hj, fun j hj => by have := h.mv j hj; show -(f j).m = (f j).o - (f j).k; omega⟩
theorem brow_many {n : Nat} {g : Nat → Bk} (r : BRow n g) : n ≤ 900 := by
  have key : ∀ j : Nat, j < n → (j : Int) ≤ 100 * ((g j).c - 1) + (g j).y := by
    intro j
    induction j with
    | zero => intro hj; have := r.ok 0 hj; unfold BOk at this; omega
    | succ j ih =>
      intro hj
      have a := ih (by omega)
      have b := r.asc j (j + 1) (by omega) hj
      have c := r.ok j (by omega)
      have d := r.ok (j + 1) hj
      unfold Bl at b
      unfold BOk at c d
      omega
  rcases Nat.eq_zero_or_pos n with e | e
  · omega
  · have a := key (n - 1) (by omega)
    have b := r.ok (n - 1) (by omega)
    unfold BOk at b
    omega
theorem FIs.le (h : FIs S S' q f) : q ≤ 900 := brow_many h.pl.1
theorem FIs.ok (h : FIs S S' q f) {j : Nat} (hj : j < q) : BOk (f j).c (f j).y := h.pl.1.ok j hj
theorem FIs.asc (h : FIs S S' q f) {i j : Nat} (hi : i < j) (hj : j < q) : Bl (f i).c (f i).y (f j).c (f j).y := h.pl.1.asc i j hi hj
end
/-- all places, one after the other -/
def grid (S : Int → Int → Int) : Int := tot (fun i => S (1 + i / 100) (i % 100)) 900
theorem grid_add (S S' : Int → Int → Int) : grid (fun c y => S c y + S' c y) = grid S + grid S' := by
  unfold grid
  have : ∀ n, tot (fun i : Nat => S (1 + i / 100) (i % 100) + S' (1 + i / 100) (i % 100)) n = tot (fun i => S (1 + i / 100) (i % 100)) n + tot (fun i => S' (1 + i / 100) (i % 100)) n := by
    intro n
    induction n with
    | zero => rfl
    | succ n ih => rw [tot, tot, tot, ih]; omega
  exact this 900
theorem grid_one (x : Bk) (h : BOk x.c x.y) : grid (bval x) = x.a := by
  unfold grid
  unfold BOk at h
  obtain ⟨i, hi⟩ : ∃ i : Nat, (i : Int) = 100 * (x.c - 1) + x.y := ⟨(100 * (x.c - 1) + x.y).toNat, by omega⟩
  rw [tot_one _ i 900 (by omega) fun j hj hne => ?_]
  · exact if_pos ⟨by omega, by omega⟩
  · exact if_neg fun e => by
      have e1 := e.1; have e2 := e.2
      omega
/-- what rows come to is what their places come to -/
theorem btot_grid {g : Nat → Bk} : ∀ n, (∀ j, j < n → BOk (g j).c (g j).y) → btot g n = grid (bget g n)
  | 0, _ => by
    have e : grid (bget g 0) = 0 := tot_zero 900 fun j _ => rfl
    rw [e]; rfl
  | n + 1, h => by
    have e : bget g (n + 1) = fun c y => bget g n c y + bval (g n) c y := by funext c y; exact bget_succ g n c y
    rw [e, grid_add, grid_one _ (h n (by omega)), ← btot_grid n fun j hj => h j (by omega)]
    rfl
section
variable {S S' : Int → Int → Int} {q n : Nat} {f : Nat → Wy} {g : Nat → Bk}
theorem FIs.bget (h : FIs S S' q f) (F : Wy → Int) (R : Int → Int → Int) (h1 : ∀ j, j < q → F (f j) = R (f j).c (f j).y) (h0 : ∀ c y, S c y = 0 → S' c y = 0 → R c y = 0) : bget (fun j => ⟨(f j).c, (f j).y, F (f j)⟩) q = R := by
  funext c y
  by_cases hs : S c y ≠ 0 ∨ S' c y ≠ 0
  · obtain ⟨j, hj, e1, e2⟩ := h.find hs
    unfold Go.Proofs.Ytolmdoigcaaieaa.bget
    rw [tot_one _ j q hj fun i hi hne => ?_]
    · show (if (f j).c = c ∧ (f j).y = y then F (f j) else 0) = R c y
      rw [if_pos ⟨e1, e2⟩, h1 j hj, e1, e2]
    · refine if_neg fun e => hne ?_
      exact h.pl.1.inj hi hj (e.1.trans e1.symm) (e.2.trans e2.symm)
  · rw [h0 c y (by omega) (by omega)]
    refine bget_none fun j hj e => hs ?_
    have := h.any hj
    rw [h.op j hj, h.cl j hj] at this
    obtain ⟨e1, e2⟩ := e
    dsimp only at e1 e2
    rw [e1, e2] at this
    exact this
theorem FIs.sum (h : FIs S S' q f) (F : Wy → Int) (R : Int → Int → Int) (h1 : ∀ j, j < q → F (f j) = R (f j).c (f j).y) (h0 : ∀ c y, S c y = 0 → S' c y = 0 → R c y = 0) : tot (fun j => F (f j)) q = grid R := by
  have e := btot_grid (g := fun j => ⟨(f j).c, (f j).y, F (f j)⟩) q fun j hj => h.ok hj
  rw [h.bget F R h1 h0] at e
  exact e
theorem BIs.grid (b : BIs S n g) : btot g n = Go.Proofs.Ytolmdoigcaaieaa.grid S := by
  rw [btot_grid n b.1.ok, show bget g n = S from by funext c y; exact b.2 c y]
theorem FIs.opening (h : FIs S S' q f) : tot (fun j => (f j).o) q = Go.Proofs.Ytolmdoigcaaieaa.grid S := h.sum (·.o) S h.op fun _ _ z _ => z
theorem FIs.closing (h : FIs S S' q f) : tot (fun j => (f j).k) q = Go.Proofs.Ytolmdoigcaaieaa.grid S' := h.sum (·.k) S' h.cl fun _ _ _ z => z
theorem tot_sub (a b : Nat → Int) : ∀ n, tot (fun j => a j - b j) n = tot a n - tot b n
  | 0 => rfl
  | n + 1 => by rw [tot, tot, tot, tot_sub a b n]; omega
theorem FIs.moved (h : FIs S S' q f) : tot (fun j => (f j).m) q = Go.Proofs.Ytolmdoigcaaieaa.grid S' - Go.Proofs.Ytolmdoigcaaieaa.grid S := by
  rw [← h.opening, ← h.closing, ← tot_sub]
  exact tot_ext q fun j hj => h.mv j hj
/-- a bucket's movement -/
theorem FIs.mv_at (h : FIs S S' q f) {j : Nat} (hj : j < q) : (f j).m = S' (f j).c (f j).y - S (f j).c (f j).y := by rw [h.mv j hj, h.op j hj, h.cl j hj]
end
end Go.Proofs.Ytolmdoigcaaieaa
