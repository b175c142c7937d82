/- Several texts of mine in one: RoMath RoCls RoFwd RoFew RoMrg Roll Roll2. -/
import Derived.Test.YtmlafdehhbhbiaaM2
import Derived.Test.YtmlafdehhbhbiaaM5
import Derived.WalkKit
import Derived.WalkSpells
import Derived.WalkLawsBesides
import Derived.Lib.Hide
import Derived.IntWalk
import Derived.Laws.StructEq
import Derived.Deep.LoopGhost
import Derived.Deep.QuietTactic
import Derived.BigQuiet
import Derived.Test.YtmlafdehhbhbiaaM1
import Derived.Deep.RegionHeld3
/- From opening to closing: rows of what any of two registers has, ascending; their sums; one row a class: mathematics alone. -/
namespace Go.Proofs.Ytmlafdehhbhbiaa

/-- a bucket's way -/
structure Wy where
  c : Int
  y : Int
  o : Int
  m : Int
  k : Int
/-- is there anything? -/
def both (S S' : Int → Int → Int) : Int → Int → Int := fun c y => if S c y = 0 ∧ S' c y = 0 then 0 else 1
/-- the rows are the way from S to S' -/
structure FIs (S S' : Int → Int → Int) (q : Nat) (f : Nat → Wy) : Prop where
  pl : BIs (both S S') q (fun j => ⟨(f j).c, (f j).y, 1⟩)
  op : ∀ j, j < q → (f j).o = S (f j).c (f j).y
  cl : ∀ j, j < q → (f j).k = S' (f j).c (f j).y
  mv : ∀ j, j < q → (f j).m = (f j).k - (f j).o
section
variable {S S' : Int → Int → Int} {q q' : Nat} {f f' : Nat → Wy}
theorem both_ne {c y : Int} : both S S' c y ≠ 0 ↔ S c y ≠ 0 ∨ S' c y ≠ 0 := by
  unfold both
  split
  · rename_i h; constructor
    · intro z; exact absurd rfl z
    · intro z; omega
  · rename_i h; constructor
    · intro _; omega
    · intro _; decide
theorem both_one (S S' : Int → Int → Int) (c y : Int) : both S S' c y = 0 ∨ both S S' c y = 1 := by unfold both; split <;> simp
theorem FIs.uniq (h : FIs S S' q f) (h' : FIs S S' q' f') : q = q' ∧ ∀ j, j < q → f j = f' j := by
  obtain ⟨e, e'⟩ := h.pl.uniq h'.pl
  subst e
  refine ⟨rfl, fun j hj => ?_⟩
  have z := e' j hj
  injection z with z1 z2 _
  have a1 := h.op j hj; have a2 := h.cl j hj; have a3 := h.mv j hj
  have b1 := h'.op j hj; have b2 := h'.cl j hj; have b3 := h'.mv j hj
  rw [z1, z2] at a1 a2
  have c1 : (f j).o = (f' j).o := a1.trans b1.symm
  have c2 : (f j).k = (f' j).k := a2.trans b2.symm
  have c3 : (f j).m = (f' j).m := by rw [a3, b3, c1, c2]
  cases hf : f j; cases hf' : f' j
  simp only [hf, hf'] at z1 z2 c1 c2 c3
  subst z1 z2 c1 c2 c3; rfl
/-- a place's row -/
theorem FIs.find (h : FIs S S' q f) {c y : Int} (hs : S c y ≠ 0 ∨ S' c y ≠ 0) : ∃ j, j < q ∧ (f j).c = c ∧ (f j).y = y := h.pl.has (both_ne.2 hs)
theorem FIs.none (h : FIs S S' q f) {c y : Int} (hs : ∀ j, j < q → ¬ ((f j).c = c ∧ (f j).y = y)) : S c y = 0 ∧ S' c y = 0 :=
  Classical.byContradiction fun z => by
    obtain ⟨j, hj, e⟩ := h.find (c := c) (y := y) (by omega)
    exact hs j hj e
theorem FIs.any (h : FIs S S' q f) {j : Nat} (hj : j < q) : (f j).o ≠ 0 ∨ (f j).k ≠ 0 := by
  rw [h.op j hj, h.cl j hj]
  exact both_ne.1 (by have := h.pl.at hj; simp only at this; rw [this]; decide)
/-- the other way -/
theorem both_comm (S S' : Int → Int → Int) : both S S' = both S' S := by
  funext c y
  unfold both
  by_cases a : S c y = 0 <;> by_cases b : S' c y = 0 <;> simp [a, b]
theorem FIs.back (h : FIs S S' q f) : FIs S' S q (fun j => ⟨(f j).c, (f j).y, (f j).k, -(f j).m, (f j).o⟩) :=
  ⟨by have := h.pl; rw [both_comm] at this; exact this, fun j hj => h.cl j hj, fun j hj => h.op j hj, fun j hj => by have := h.mv j hj; show -(f j).m = (f j).o - (f j).k; omega⟩
theorem brow_many {n : Nat} {g : Nat → Bk} (r : BRow n g) : n ≤ 900 := by
  have key : ∀ j : Nat, j < n → (j : Int) ≤ 100 * ((g j).c - 1) + (g j).y := by
    intro j
    induction j with
    | zero => intro hj; have := r.ok 0 hj; unfold BOk at this; omega
    | succ j ih =>
      intro hj
      have a := ih (by omega)
      have b := r.asc j (j + 1) (by omega) hj
      have c := r.ok j (by omega)
      have d := r.ok (j + 1) hj
      unfold Bl at b
      unfold BOk at c d
      omega
  rcases Nat.eq_zero_or_pos n with e | e
  · omega
  · have a := key (n - 1) (by omega)
    have b := r.ok (n - 1) (by omega)
    unfold BOk at b
    omega
theorem FIs.le (h : FIs S S' q f) : q ≤ 900 := brow_many h.pl.1
theorem FIs.ok (h : FIs S S' q f) {j : Nat} (hj : j < q) : BOk (f j).c (f j).y := h.pl.1.ok j hj
theorem FIs.asc (h : FIs S S' q f) {i j : Nat} (hi : i < j) (hj : j < q) : Bl (f i).c (f i).y (f j).c (f j).y := h.pl.1.asc i j hi hj
end
/-- all places, one after the other -/
def grid (S : Int → Int → Int) : Int := tot (fun i => S (1 + i / 100) (i % 100)) 900
theorem grid_add (S S' : Int → Int → Int) : grid (fun c y => S c y + S' c y) = grid S + grid S' := by
  unfold grid
  have : ∀ n, tot (fun i : Nat => S (1 + i / 100) (i % 100) + S' (1 + i / 100) (i % 100)) n = tot (fun i => S (1 + i / 100) (i % 100)) n + tot (fun i => S' (1 + i / 100) (i % 100)) n := by
    intro n
    induction n with
    | zero => rfl
    | succ n ih => rw [tot, tot, tot, ih]; omega
  exact this 900
theorem grid_one (x : Bk) (h : BOk x.c x.y) : grid (bval x) = x.a := by
  unfold grid
  unfold BOk at h
  obtain ⟨i, hi⟩ : ∃ i : Nat, (i : Int) = 100 * (x.c - 1) + x.y := ⟨(100 * (x.c - 1) + x.y).toNat, by omega⟩
  rw [tot_one _ i 900 (by omega) fun j hj hne => ?_]
  · exact if_pos ⟨by omega, by omega⟩
  · exact if_neg fun e => by
      have e1 := e.1; have e2 := e.2
      omega
/-- what rows come to is what their places come to -/
theorem btot_grid {g : Nat → Bk} : ∀ n, (∀ j, j < n → BOk (g j).c (g j).y) → btot g n = grid (bget g n)
  | 0, _ => by
    have e : grid (bget g 0) = 0 := tot_zero 900 fun j _ => rfl
    rw [e]; rfl
  | n + 1, h => by
    have e : bget g (n + 1) = fun c y => bget g n c y + bval (g n) c y := by funext c y; exact bget_succ g n c y
    rw [e, grid_add, grid_one _ (h n (by omega)), ← btot_grid n fun j hj => h j (by omega)]
    rfl
section
variable {S S' : Int → Int → Int} {q n : Nat} {f : Nat → Wy} {g : Nat → Bk}
theorem FIs.bget (h : FIs S S' q f) (F : Wy → Int) (R : Int → Int → Int) (h1 : ∀ j, j < q → F (f j) = R (f j).c (f j).y) (h0 : ∀ c y, S c y = 0 → S' c y = 0 → R c y = 0) : bget (fun j => ⟨(f j).c, (f j).y, F (f j)⟩) q = R := by
  funext c y
  by_cases hs : S c y ≠ 0 ∨ S' c y ≠ 0
  · obtain ⟨j, hj, e1, e2⟩ := h.find hs
    unfold Go.Proofs.Ytmlafdehhbhbiaa.bget
    rw [tot_one _ j q hj fun i hi hne => ?_]
    · show (if (f j).c = c ∧ (f j).y = y then F (f j) else 0) = R c y
      rw [if_pos ⟨e1, e2⟩, h1 j hj, e1, e2]
    · refine if_neg fun e => hne ?_
      exact h.pl.1.inj hi hj (e.1.trans e1.symm) (e.2.trans e2.symm)
  · rw [h0 c y (by omega) (by omega)]
    refine bget_none fun j hj e => hs ?_
    have := h.any hj
    rw [h.op j hj, h.cl j hj] at this
    obtain ⟨e1, e2⟩ := e
    dsimp only at e1 e2
    rw [e1, e2] at this
    exact this
theorem FIs.sum (h : FIs S S' q f) (F : Wy → Int) (R : Int → Int → Int) (h1 : ∀ j, j < q → F (f j) = R (f j).c (f j).y) (h0 : ∀ c y, S c y = 0 → S' c y = 0 → R c y = 0) : tot (fun j => F (f j)) q = grid R := by
  have e := btot_grid (g := fun j => ⟨(f j).c, (f j).y, F (f j)⟩) q fun j hj => h.ok hj
  rw [h.bget F R h1 h0] at e
  exact e
theorem BIs.grid (b : BIs S n g) : btot g n = Go.Proofs.Ytmlafdehhbhbiaa.grid S := by
  rw [btot_grid n b.1.ok, show bget g n = S from by funext c y; exact b.2 c y]
theorem FIs.opening (h : FIs S S' q f) : tot (fun j => (f j).o) q = Go.Proofs.Ytmlafdehhbhbiaa.grid S := h.sum (·.o) S h.op fun _ _ z _ => z
theorem FIs.closing (h : FIs S S' q f) : tot (fun j => (f j).k) q = Go.Proofs.Ytmlafdehhbhbiaa.grid S' := h.sum (·.k) S' h.cl fun _ _ _ z => z
theorem tot_sub (a b : Nat → Int) : ∀ n, tot (fun j => a j - b j) n = tot a n - tot b n
  | 0 => rfl
  | n + 1 => by rw [tot, tot, tot, tot_sub a b n]; omega
theorem FIs.moved (h : FIs S S' q f) : tot (fun j => (f j).m) q = Go.Proofs.Ytmlafdehhbhbiaa.grid S' - Go.Proofs.Ytmlafdehhbhbiaa.grid S := by
  rw [← h.opening, ← h.closing, ← tot_sub]
  exact tot_ext q fun j hj => h.mv j hj
/-- a bucket's movement -/
theorem FIs.mv_at (h : FIs S S' q f) {j : Nat} (hj : j < q) : (f j).m = S' (f j).c (f j).y - S (f j).c (f j).y := by rw [h.mv j hj, h.op j hj, h.cl j hj]
end
end Go.Proofs.Ytmlafdehhbhbiaa

/- One row a class: mathematics alone. -/
namespace Go.Proofs.Ytmlafdehhbhbiaa

/-- the sum of something of the rows of a class -/
def cs (F : Wy → Int) (f : Nat → Wy) (c : Int) (n : Nat) : Int := tot (fun j => if (f j).c = c then F (f j) else 0) n
theorem cs_succ (F : Wy → Int) (f : Nat → Wy) (c : Int) (n : Nat) : cs F f c (n + 1) = cs F f c n + (if (f n).c = c then F (f n) else 0) := rfl
theorem cs_none {F : Wy → Int} {f : Nat → Wy} {c : Int} {n : Nat} (h : ∀ j, j < n → (f j).c ≠ c) : cs F f c n = 0 := tot_zero n fun j hj => if_neg (h j hj)
/-- one row for each class of the first q rows, rising, with their sums, and year -1 -/
structure CIs (q : Nat) (f : Nat → Wy) (m : Nat) (z : Nat → Wy) : Prop where
  asc : ∀ i j, i < j → j < m → (z i).c < (z j).c
  yr : ∀ j, j < m → (z j).y = -1
  so : ∀ j, j < m → (z j).o = cs (·.o) f (z j).c q
  sm : ∀ j, j < m → (z j).m = cs (·.m) f (z j).c q
  sk : ∀ j, j < m → (z j).k = cs (·.k) f (z j).c q
  has : ∀ j, j < m → ∃ i, i < q ∧ (f i).c = (z j).c
  all : ∀ i, i < q → ∃ j, j < m ∧ (z j).c = (f i).c
section
variable {q m m' k p : Nat} {f z z' : Nat → Wy}
theorem CIs.zero (f z : Nat → Wy) : CIs 0 f 0 z := ⟨fun i j _ hj => by omega, fun j hj => by omega, fun j hj => by omega, fun j hj => by omega, fun j hj => by omega, fun j hj => by omega, fun i hi => by omega⟩
theorem CIs.inj (h : CIs q f m z) {i j : Nat} (hi : i < m) (hj : j < m) (e : (z i).c = (z j).c) : i = j := by
  rcases Nat.lt_trichotomy i j with a | a | a
  · have := h.asc i j a hj; omega
  · exact a
  · have := h.asc j i a hi; omega
theorem cis_le (h : CIs q f m z) (h' : CIs q f m' z') : ∀ j, j < m → j < m' ∧ (z j).c = (z' j).c := by
  intro j
  induction j using Nat.strongRecOn with
  | _ j ih =>
    intro hj
    obtain ⟨i, hi, e⟩ := h.has j hj
    obtain ⟨k, hk, e'⟩ := h'.all i hi
    have ek : (z' k).c = (z j).c := e'.trans e
    have h1 : j ≤ k := by
      rcases Nat.lt_or_ge k j with a | a
      · obtain ⟨_, e2⟩ := ih k a (by omega)
        have := h.inj (by omega) hj (e2.trans ek)
        omega
      · exact a
    refine ⟨by omega, ?_⟩
    rcases Nat.lt_or_ge j k with a | a
    · exfalso
      obtain ⟨i2, hi2, e2⟩ := h'.has j (by omega)
      obtain ⟨k2, hk2, e3⟩ := h.all i2 hi2
      have lt := h'.asc j k a hk
      have ek2 : (z k2).c = (z' j).c := e3.trans e2
      rcases Nat.lt_trichotomy k2 j with b | b | b
      · obtain ⟨_, e4⟩ := ih k2 b hk2
        have := h'.inj (by omega) (by omega) (e4.symm.trans ek2)
        omega
      · rw [b] at ek2; omega
      · have := h.asc j k2 b hk2; omega
    · obtain rfl : j = k := by omega
      exact ek.symm
theorem CIs.uniq (h : CIs q f m z) (h' : CIs q f m' z') : m = m' ∧ ∀ j, j < m → z j = z' j := by
  have e : m = m' := by
    rcases Nat.lt_trichotomy m m' with a | a | a
    · have := (cis_le h' h m a).1; omega
    · exact a
    · have := (cis_le h h' m' a).1; omega
  subst e
  refine ⟨rfl, fun j hj => ?_⟩
  have ec := (cis_le h h' j hj).2
  have a1 := h.yr j hj; have a2 := h.so j hj; have a3 := h.sm j hj; have a4 := h.sk j hj
  have b1 := h'.yr j hj; have b2 := h'.so j hj; have b3 := h'.sm j hj; have b4 := h'.sk j hj
  rw [ec] at a2 a3 a4
  have c1 := a1.trans b1.symm; have c2 := a2.trans b2.symm; have c3 := a3.trans b3.symm; have c4 := a4.trans b4.symm
  cases hz : z j; cases hz' : z' j
  simp only [hz, hz'] at ec c1 c2 c3 c4
  subst ec c1 c2 c3 c4; rfl
/-- a row put in place of another, or behind the last -/
def updW (z : Nat → Wy) (p : Nat) (x : Wy) : Nat → Wy := fun j => if j = p then x else z j
theorem updW_at (z : Nat → Wy) (p : Nat) (x : Wy) : updW z p x p = x := if_pos rfl
theorem updW_ne (z : Nat → Wy) {p j : Nat} (x : Wy) (h : j ≠ p) : updW z p x j = z j := if_neg h
/-- a row of the last class -/
theorem CIs.add (h : CIs k f (p + 1) z) (hc : (z p).c = (f k).c) : CIs (k + 1) f (p + 1) (updW z p ⟨(z p).c, (z p).y, (z p).o + (f k).o, (z p).m + (f k).m, (z p).k + (f k).k⟩) := by
  obtain ⟨x, hx⟩ : ∃ x : Wy, x = ⟨(z p).c, (z p).y, (z p).o + (f k).o, (z p).m + (f k).m, (z p).k + (f k).k⟩ := ⟨_, rfl⟩
  rw [← hx]
  have hzc : ∀ j, (updW z p x j).c = (z j).c := fun j => by
    by_cases e : j = p
    · rw [e, updW_at, hx]
    · rw [updW_ne z x e]
  have other : ∀ (F : Wy → Int) j, j < p + 1 → j ≠ p → cs F f (z j).c (k + 1) = cs F f (z j).c k := fun F j hj hne => by
    rw [cs_succ, if_neg (fun e => hne (h.inj hj (by omega) (e.symm.trans hc.symm))), Int.add_zero]
  have last : ∀ (F : Wy → Int), cs F f (z p).c (k + 1) = cs F f (z p).c k + F (f k) := fun F => by rw [cs_succ, if_pos hc.symm]
  refine ⟨fun i j hi hj => by rw [hzc, hzc]; exact h.asc i j hi hj, fun j hj => ?_, fun j hj => ?_, fun j hj => ?_, fun j hj => ?_, fun j hj => ?_, fun i hi => ?_⟩
  · by_cases e : j = p
    · rw [e, updW_at, hx]; exact h.yr p (by omega)
    · rw [updW_ne z x e]; exact h.yr j hj
  · rw [hzc]
    by_cases e : j = p
    · rw [e, updW_at, last, hx, ← h.so p (by omega)]
    · rw [updW_ne z x e, other _ j hj e]; exact h.so j hj
  · rw [hzc]
    by_cases e : j = p
    · rw [e, updW_at, last, hx, ← h.sm p (by omega)]
    · rw [updW_ne z x e, other _ j hj e]; exact h.sm j hj
  · rw [hzc]
    by_cases e : j = p
    · rw [e, updW_at, last, hx, ← h.sk p (by omega)]
    · rw [updW_ne z x e, other _ j hj e]; exact h.sk j hj
  · rw [hzc]
    obtain ⟨i, hi, e⟩ := h.has j hj
    exact ⟨i, by omega, e⟩
  · by_cases e : i = k
    · exact ⟨p, by omega, by rw [hzc, e]; exact hc⟩
    · obtain ⟨j, hj, e2⟩ := h.all i (by omega)
      exact ⟨j, hj, by rw [hzc]; exact e2⟩
/-- a row of a new class, behind the others -/
theorem CIs.push (h : CIs k f p z) (hlt : ∀ j, j < p → (z j).c < (f k).c) : CIs (k + 1) f (p + 1) (updW z p ⟨(f k).c, -1, (f k).o, (f k).m, (f k).k⟩) := by
  have none : ∀ i, i < k → (f i).c ≠ (f k).c := fun i hi e => by
    obtain ⟨j, hj, e2⟩ := h.all i hi
    have := hlt j hj
    omega
  have other : ∀ (F : Wy → Int) j, j < p → cs F f (z j).c (k + 1) = cs F f (z j).c k := fun F j hj => by
    rw [cs_succ, if_neg (fun e => by have := hlt j hj; omega), Int.add_zero]
  have new : ∀ (F : Wy → Int), cs F f (f k).c (k + 1) = F (f k) := fun F => by rw [cs_succ, if_pos rfl, cs_none none, Int.zero_add]
  refine ⟨fun i j hi hj => ?_, fun j hj => ?_, fun j hj => ?_, fun j hj => ?_, fun j hj => ?_, fun j hj => ?_, fun i hi => ?_⟩
  · rw [updW_ne z _ (show i ≠ p by omega)]
    by_cases e : j = p
    · rw [e, updW_at]; exact hlt i (by omega)
    · rw [updW_ne z _ e]; exact h.asc i j hi (by omega)
  · by_cases e : j = p
    · rw [e, updW_at]
    · rw [updW_ne z _ e]; exact h.yr j (by omega)
  · by_cases e : j = p
    · rw [e, updW_at]; exact (new (·.o)).symm
    · rw [updW_ne z _ e, other _ j (by omega)]; exact h.so j (by omega)
  · by_cases e : j = p
    · rw [e, updW_at]; exact (new (·.m)).symm
    · rw [updW_ne z _ e, other _ j (by omega)]; exact h.sm j (by omega)
  · by_cases e : j = p
    · rw [e, updW_at]; exact (new (·.k)).symm
    · rw [updW_ne z _ e, other _ j (by omega)]; exact h.sk j (by omega)
  · by_cases e : j = p
    · rw [e, updW_at]; exact ⟨k, by omega, rfl⟩
    · rw [updW_ne z _ e]
      obtain ⟨i, hi, e2⟩ := h.has j (by omega)
      exact ⟨i, by omega, e2⟩
  · by_cases e : i = k
    · exact ⟨p, by omega, by rw [updW_at, e]⟩
    · obtain ⟨j, hj, e2⟩ := h.all i (by omega)
      exact ⟨j, by omega, by rw [updW_ne z _ (by omega)]; exact e2⟩
/-- small numbers make small sums -/
theorem cs_bd {F : Wy → Int} {B c : Int} : ∀ n, (∀ j, j < n → -B ≤ F (f j) ∧ F (f j) ≤ B) → 0 ≤ B → -B * (n : Int) ≤ cs F f c n ∧ cs F f c n ≤ B * (n : Int)
  | 0, _, _ => by simp [cs, tot]
  | n + 1, h, hB => by
    have a := cs_bd (c := c) n (fun j hj => h j (by omega)) hB
    have b := h n (by omega)
    have e1 : -B * ((n + 1 : Nat) : Int) = -B * (n : Int) - B := by rw [show ((n + 1 : Nat) : Int) = (n : Int) + 1 by omega, Int.mul_add]; omega
    have e2 : B * ((n + 1 : Nat) : Int) = B * (n : Int) + B := by rw [show ((n + 1 : Nat) : Int) = (n : Int) + 1 by omega, Int.mul_add]; omega
    rw [cs_succ, e1, e2]
    split <;> omega
end
end Go.Proofs.Ytmlafdehhbhbiaa

/- From opening to closing, by the document: a contract for its Forward; registers as they are read; rows told alike; a bucket's movement. -/
namespace Go.Proofs.Ytmlafdehhbhbiaa
open Go.RowKit

/-- the five cells of a way -/
def we (x : Wy) : List Value := [.int .i64 x.c, .int .i64 x.y, .int .i64 x.o, .int .i64 x.m, .int .i64 x.k]
theorem we_len (x : Wy) : (we x).length = 5 := rfl
theorem we_one (x : Wy) : ∀ u ∈ we x, u.oneCell' = true := by
  intro u hu
  unfold we at hu
  simp only [List.mem_cons, List.not_mem_nil, or_false] at hu
  rcases hu with rfl | rfl | rfl | rfl | rfl <;> rfl
theorem AtR.five {w : World} {A : Option Addr} {n : Nat} {g : Nat → Wy} (r : AtR we 5 w A n g) {k : Nat} (hk : k < n) : ∃ b off, A = Option.some ⟨b, off, none⟩ ∧ b < w.heap.size ∧ w.cell? ⟨b, off + k * 5, none⟩ = Option.some (.int .i64 (g k).c) ∧ w.cell? ⟨b, off + k * 5 + 1, none⟩ = Option.some (.int .i64 (g k).y) ∧ w.cell? ⟨b, off + k * 5 + 2, none⟩ = Option.some (.int .i64 (g k).o) ∧ w.cell? ⟨b, off + k * 5 + 3, none⟩ = Option.some (.int .i64 (g k).m) ∧ w.cell? ⟨b, off + k * 5 + 4, none⟩ = Option.some (.int .i64 (g k).k) := by
  obtain ⟨b, off, e, hb, hc⟩ := r.some (by omega)
  exact ⟨b, off, e, hb, hc k hk 0 _ rfl, hc k hk 1 _ rfl, hc k hk 2 _ rfl, hc k hk 3 _ rfl, hc k hk 4 _ rfl⟩
/-- a register that is read -/
structure RX (w : World) (sb : Nat) (A : Option Addr) (n c : Nat) (S : Int → Int → Int) (g : Nat → Bk) : Prop where
  cell : w.cell? ⟨sb, 0, none⟩ = some (.slice A n c)
  row : AtR be 3 w A n g
  iv : BInv S n g
  cap : n ≤ c ∧ c ≤ maxLen
section
variable {w w1 : World} {sb n c : Nat} {A : Option Addr} {S : Int → Int → Int} {g : Nat → Bk}
theorem RX.below (h : RX w sb A n c S g) (k : Below w.heap.size w w1) : RX w1 sb A n c S g := ⟨cell_keep h.cell k, h.row.below k, h.iv, h.cap⟩
end
/-- places so far -/
def upto (S S' : Int → Int → Int) (c y : Int) : Int → Int → Int := fun c' y' => if c' < c ∨ (c' = c ∧ y' < y) then both S S' c' y' else 0
structure FUp (S S' : Int → Int → Int) (c y : Int) (q : Nat) (f : Nat → Wy) : Prop where
  pl : BIs (upto S S' c y) q (fun j => ⟨(f j).c, (f j).y, 1⟩)
  op : ∀ j, j < q → (f j).o = S (f j).c (f j).y
  cl : ∀ j, j < q → (f j).k = S' (f j).c (f j).y
  mv : ∀ j, j < q → (f j).m = IntKind.i64.wrap ((f j).k - (f j).o)
/-- the way from S to S', however great the amounts are: what moved is what the machine makes of it -/
structure FIw (S S' : Int → Int → Int) (q : Nat) (f : Nat → Wy) : Prop where
  pl : BIs (both S S') q (fun j => ⟨(f j).c, (f j).y, 1⟩)
  op : ∀ j, j < q → (f j).o = S (f j).c (f j).y
  cl : ∀ j, j < q → (f j).k = S' (f j).c (f j).y
  mv : ∀ j, j < q → (f j).m = IntKind.i64.wrap ((f j).k - (f j).o)
theorem FIw.fis {S S' : Int → Int → Int} {q : Nat} {f : Nat → Wy} (h : FIw S S' q f) (hS : ∀ c y, Mon (S c y)) (hS' : ∀ c y, Mon (S' c y)) : FIs S S' q f :=
  ⟨h.pl, h.op, h.cl, fun j hj => by
    rw [h.mv j hj, h.op j hj, h.cl j hj]
    have h1 := hS (f j).c (f j).y
    have h2 := hS' (f j).c (f j).y
    unfold Mon at h1 h2
    exact IntWalk.i64_in _ (by omega)⟩
theorem FIw.uniq {S S' : Int → Int → Int} {q q' : Nat} {f f' : Nat → Wy} (h : FIw S S' q f) (h' : FIw S S' q' f') : q = q' ∧ ∀ j, j < q → f j = f' j := by
  obtain ⟨e, e'⟩ := h.pl.uniq h'.pl
  subst e
  refine ⟨rfl, fun j hj => ?_⟩
  have z := e' j hj
  injection z with z1 z2 _
  have a1 := h.op j hj; have a2 := h.cl j hj; have a3 := h.mv j hj
  have b1 := h'.op j hj; have b2 := h'.cl j hj; have b3 := h'.mv j hj
  rw [z1, z2] at a1 a2
  have c1 : (f j).o = (f' j).o := a1.trans b1.symm
  have c2 : (f j).k = (f' j).k := a2.trans b2.symm
  have c3 : (f j).m = (f' j).m := by rw [a3, b3, c1, c2]
  cases hf : f j; cases hf' : f' j
  simp only [hf, hf'] at z1 z2 c1 c2 c3
  subst z1 z2 c1 c2 c3; rfl
theorem FIw.le {S S' : Int → Int → Int} {q : Nat} {f : Nat → Wy} (h : FIw S S' q f) : q ≤ 900 := brow_many h.pl.1
section
variable {S S' : Int → Int → Int} {n n' q : Nat} {g g' : Nat → Bk} {f : Nat → Wy} {c y : Int}
theorem both_out (b : BIs S n g) (b' : BIs S' n' g') {c' y' : Int} (h : ¬ BOk c' y') : both S S' c' y' = 0 := if_pos ⟨b.out h, b'.out h⟩
theorem FUp.of (h : FUp S S' c y q f) {c' y' : Int} (e : upto S S' c y = upto S S' c' y') : FUp S S' c' y' q f := ⟨e ▸ h.pl, h.op, h.cl, h.mv⟩
theorem FUp.start (b : BIs S n g) (b' : BIs S' n' g') (f : Nat → Wy) : FUp S S' 1 0 0 f := by
  have e : upto S S' 1 0 = fun _ _ => 0 := by
    funext c' y'
    unfold upto
    split
    · exact both_out b b' (by unfold BOk; omega)
    · rfl
  exact ⟨by rw [e]; exact bis_zero _, fun j hj => by omega, fun j hj => by omega, fun j hj => by omega⟩
theorem FUp.skip (h : FUp S S' c y q f) (hz : S c y = 0 ∧ S' c y = 0) : FUp S S' c (y + 1) q f := h.of (by
  funext c' y'
  unfold upto
  by_cases e : c' = c ∧ y' = y
  · obtain ⟨rfl, rfl⟩ := e
    rw [if_neg (by omega), if_pos (by omega)]
    exact (if_pos hz).symm
  · by_cases e2 : c' < c ∨ (c' = c ∧ y' < y)
    · rw [if_pos e2, if_pos (by omega)]
    · rw [if_neg e2, if_neg (by omega)])
theorem FUp.class (h : FUp S S' c 100 q f) (b : BIs S n g) (b' : BIs S' n' g') : FUp S S' (c + 1) 0 q f := h.of (by
  funext c' y'
  unfold upto
  by_cases e : c' < c ∨ (c' = c ∧ y' < 100)
  · rw [if_pos e, if_pos (by omega)]
  · rw [if_neg e]
    split
    · exact (both_out b b' (by unfold BOk; omega)).symm
    · rfl)
theorem FUp.done (h : FUp S S' 10 0 q f) (b : BIs S n g) (b' : BIs S' n' g') : FIw S S' q f := by
  have e : upto S S' 10 0 = both S S' := by
    funext c' y'
    unfold upto
    split
    · rfl
    · exact (both_out b b' (by unfold BOk; omega)).symm
  exact ⟨e ▸ h.pl, h.op, h.cl, h.mv⟩
theorem FUp.push (h : FUp S S' c y q f) (hok : BOk c y) (hz : S c y ≠ 0 ∨ S' c y ≠ 0) : FUp S S' c (y + 1) (q + 1) (updW f q ⟨c, y, S c y, IntKind.i64.wrap (S' c y - S c y), S' c y⟩) := by
  have ef : (fun j => (⟨(updW f q ⟨c, y, S c y, IntKind.i64.wrap (S' c y - S c y), S' c y⟩ j).c, (updW f q ⟨c, y, S c y, IntKind.i64.wrap (S' c y - S c y), S' c y⟩ j).y, 1⟩ : Bk)) = pushB (fun j => ⟨(f j).c, (f j).y, 1⟩) q ⟨c, y, 1⟩ := by
    funext j
    by_cases e : j = q
    · rw [e, updW_at, pushB_at]
    · rw [updW_ne f _ e, pushB_ne _ _ e]
  have key : ∀ (P : Wy → Prop), P ⟨c, y, S c y, IntKind.i64.wrap (S' c y - S c y), S' c y⟩ → (∀ j, j < q → P (f j)) → ∀ j, j < q + 1 → P (updW f q ⟨c, y, S c y, IntKind.i64.wrap (S' c y - S c y), S' c y⟩ j) := fun P h1 h2 j hj => by
    by_cases e : j = q
    · rw [e, updW_at]; exact h1
    · rw [updW_ne f _ e]; exact h2 j (by omega)
  refine ⟨?_, key (fun x => x.o = S x.c x.y) rfl h.op, key (fun x => x.k = S' x.c x.y) rfl h.cl, key (fun x => x.m = IntKind.i64.wrap (x.k - x.o)) rfl h.mv⟩
  rw [ef]
  refine ⟨h.pl.1.push hok (by show (1 : Int) ≠ 0; decide) fun i hi => ?_, fun c' y' => ?_⟩
  · have e := h.pl.at hi
    have e1 : upto S S' c y (f i).c (f i).y ≠ 0 := by
      intro z
      rw [z] at e
      exact absurd (show (0 : Int) = 1 from e) (by decide)
    unfold upto at e1
    split at e1
    · rename_i z; exact z
    · exact absurd rfl e1
  · rw [bget_push, h.pl.2]
    unfold upto
    by_cases e : c' = c ∧ y' = y
    · obtain ⟨rfl, rfl⟩ := e
      have eb : bval ⟨c', y', 1⟩ c' y' = 1 := if_pos ⟨rfl, rfl⟩
      rw [if_neg (by omega), if_pos (by omega), eb]
      unfold both
      rw [if_neg (by omega)]; rfl
    · have eb : bval ⟨c, y, 1⟩ c' y' = 0 := if_neg fun z => e ⟨z.1.symm, z.2.symm⟩
      rw [eb, Int.add_zero]
      by_cases e2 : c' < c ∨ (c' = c ∧ y' < y)
      · rw [if_pos e2, if_pos (by omega)]
      · rw [if_neg e2, if_neg (by omega)]
end
end Go.Proofs.Ytmlafdehhbhbiaa

/- Ways that are told outright: nothing moves, all is new, all is gone; there is a way from any rows to any others: mathematics alone. -/
namespace Go.Proofs.Ytmlafdehhbhbiaa
theorem FIs.fiw {S S' : Int → Int → Int} {q : Nat} {f : Nat → Wy} (h : FIs S S' q f) (hS : ∀ c y, Mon (S c y)) (hS' : ∀ c y, Mon (S' c y)) : FIw S S' q f :=
  ⟨h.pl, h.op, h.cl, fun j hj => by
    rw [h.mv j hj, h.op j hj, h.cl j hj]
    have h1 := hS (f j).c (f j).y
    have h2 := hS' (f j).c (f j).y
    unfold Mon at h1 h2
    exact (IntWalk.i64_in _ (by omega)).symm⟩
theorem zero_mon (c y : Int) : Mon ((fun _ _ => 0 : Int → Int → Int) c y) := ⟨by show (-100000000000 : Int) ≤ 0; decide, by show (0 : Int) ≤ 100000000000; decide⟩
theorem rof_nil (z : Int) : rof 0 z = 0 := by unfold rof; simp
/-- nothing moves -/
theorem fis_still {S : Int → Int → Int} {n : Nat} {g : Nat → Bk} (b : BIs S n g) : FIs S S n (fun j => ⟨(g j).c, (g j).y, (g j).a, 0, (g j).a⟩) := by
  refine ⟨⟨⟨b.1.ok, fun _ _ => (by show (1 : Int) ≠ 0; decide), b.1.asc⟩, fun c y => ?_⟩, fun j hj => (b.at hj).symm, fun j hj => (b.at hj).symm, fun j _ => by show (0 : Int) = (g j).a - (g j).a; omega⟩
  unfold both
  by_cases h : S c y = 0
  · rw [if_pos ⟨h, h⟩]
    refine bget_none fun j hj e => ?_
    have := b.at hj
    rw [e.1, e.2, h] at this
    exact b.1.nz j hj this.symm
  · rw [if_neg fun q => h q.1]
    obtain ⟨j, hj, e1, e2⟩ := b.has h
    unfold bget
    rw [tot_one _ j n hj fun i hi hne => ?_]
    · exact if_pos ⟨e1, e2⟩
    · exact if_neg fun e => hne (b.1.inj hi hj (e.1.trans e1.symm) (e.2.trans e2.symm))
theorem both_nil (S : Int → Int → Int) : both (fun _ _ => 0) S = both S S := by
  funext c y
  unfold both
  by_cases h : S c y = 0
  · rw [if_pos ⟨rfl, h⟩, if_pos ⟨h, h⟩]
  · rw [if_neg fun q => h q.2, if_neg fun q => h q.1]
/-- all is new -/
theorem fis_fresh {S : Int → Int → Int} {n : Nat} {g : Nat → Bk} (b : BIs S n g) : FIs (fun _ _ => 0) S n (fun j => ⟨(g j).c, (g j).y, 0, (g j).a, (g j).a⟩) :=
  ⟨by rw [both_nil]; exact (fis_still b).pl, fun _ _ => rfl, fun j hj => (b.at hj).symm, fun j _ => by show (g j).a = (g j).a - 0; omega⟩
/-- all is gone -/
theorem fis_gone {S : Int → Int → Int} {n : Nat} {g : Nat → Bk} (b : BIs S n g) : FIs S (fun _ _ => 0) n (fun j => ⟨(g j).c, (g j).y, (g j).a, -(g j).a, 0⟩) :=
  ⟨by rw [both_comm, both_nil]; exact (fis_still b).pl, fun j hj => (b.at hj).symm, fun _ _ => rfl, fun j _ => by show -(g j).a = 0 - (g j).a; omega⟩
theorem fup_any {S S' : Int → Int → Int} {n n' : Nat} {g g' : Nat → Bk} (b : BIs S n g) (b' : BIs S' n' g') : ∀ i : Nat, i ≤ 900 → ∃ q f, FUp S S' (1 + (i : Int) / 100) ((i : Int) % 100) q f
  | 0, _ => ⟨0, fun _ => ⟨0, 0, 0, 0, 0⟩, FUp.start b b' _⟩
  | i + 1, h => by
    obtain ⟨q, f, u⟩ := fup_any b b' i (by omega)
    have ok : BOk (1 + (i : Int) / 100) ((i : Int) % 100) := by unfold BOk; omega
    have key : ∃ q f, FUp S S' (1 + (i : Int) / 100) ((i : Int) % 100 + 1) q f := by
      by_cases hz : S (1 + (i : Int) / 100) ((i : Int) % 100) = 0 ∧ S' (1 + (i : Int) / 100) ((i : Int) % 100) = 0
      · exact ⟨q, f, u.skip hz⟩
      · exact ⟨_, _, u.push ok (by omega)⟩
    obtain ⟨q2, f2, u2⟩ := key
    by_cases e : (i : Int) % 100 = 99
    · rw [e] at u2
      have := u2.class b b'
      rw [show 1 + ((i + 1 : Nat) : Int) / 100 = 1 + (i : Int) / 100 + 1 by omega, show ((i + 1 : Nat) : Int) % 100 = 0 by omega]
      exact ⟨q2, f2, this⟩
    · rw [show 1 + ((i + 1 : Nat) : Int) / 100 = 1 + (i : Int) / 100 by omega, show ((i + 1 : Nat) : Int) % 100 = (i : Int) % 100 + 1 by omega]
      exact ⟨q2, f2, u2⟩
theorem fiw_any {S S' : Int → Int → Int} {n n' : Nat} {g g' : Nat → Bk} (b : BIs S n g) (b' : BIs S' n' g') : ∃ q f, FIw S S' q f := by
  obtain ⟨q, f, u⟩ := fup_any b b' 900 (Nat.le_refl _)
  exact ⟨q, f, FUp.done u b b'⟩
end Go.Proofs.Ytmlafdehhbhbiaa

/- Two lists of buckets, walked side by side: what of each is behind the place that was reached; rows in any order make the same classes: mathematics alone. -/
namespace Go.Proofs.Ytmlafdehhbhbiaa

/-- k rows are behind a place, the others are not -/
structure Mg (n : Nat) (g : Nat → Bk) (k : Nat) (c y : Int) : Prop where
  le : k ≤ n
  lo : ∀ j, j < k → Bl (g j).c (g j).y c y
  hi : ∀ j, k ≤ j → j < n → ¬ Bl (g j).c (g j).y c y
/-- what is taken of a list for a bucket -/
def Taken (n : Nat) (g : Nat → Bk) (x : Bk) (a : Int) (m o : Nat) : Prop := (0 < n ∧ bkc (g 0) x = 0 ∧ a = (g 0).a ∧ m + 1 = n ∧ o = 1) ∨ (¬ (0 < n ∧ bkc (g 0) x = 0) ∧ a = 0 ∧ m = n ∧ o = 0)
/-- the bucket that comes first -/
def Fst (n : Nat) (g : Nat → Bk) (n' : Nat) (g' : Nat → Bk) (x : Bk) : Prop := (0 < n ∧ x = g 0 ∧ (0 < n' → Bl (g 0).c (g 0).y (g' 0).c (g' 0).y)) ∨ (0 < n' ∧ x = g' 0 ∧ (0 < n → ¬ Bl (g 0).c (g 0).y (g' 0).c (g' 0).y))
section
variable {S S' : Int → Int → Int} {n n' k k' q m m' o o' : Nat} {g g' : Nat → Bk} {f : Nat → Wy} {c y a a' : Int} {x : Bk}
theorem Mg.start (b : BRow n g) : Mg n g 0 1 0 := ⟨Nat.zero_le _, fun j hj => by omega, fun j _ hj => by have := b.ok j hj; unfold BOk Bl at *; omega⟩
theorem Fst.ge (h : Fst n g n' g' x) : (0 < n → ¬ Bl (g 0).c (g 0).y x.c x.y) ∧ (0 < n' → ¬ Bl (g' 0).c (g' 0).y x.c x.y) := by
  rcases h with ⟨h1, rfl, h2⟩ | ⟨h1, rfl, h2⟩
  · exact ⟨fun _ => by unfold Bl; omega, fun h => by have := h2 h; unfold Bl at *; omega⟩
  · exact ⟨fun h => by have := h2 h; unfold Bl at *; omega, fun _ => by unfold Bl; omega⟩
/-- nothing lies between -/
theorem Mg.none (h : Mg n g k c y) (b : BIs S n g) (hx : 0 < n - k → ¬ Bl (g (k + 0)).c (g (k + 0)).y x.c x.y) {c' y' : Int} (h1 : ¬ Bl c' y' c y) (h2 : Bl c' y' x.c x.y) : S c' y' = 0 := by
  refine Classical.byContradiction fun z => ?_
  obtain ⟨j, hj, e1, e2⟩ := b.has z
  subst e1 e2
  by_cases hk : j < k
  · exact h1 (h.lo j hk)
  · have a := hx (by omega)
    rw [Nat.add_zero] at a
    by_cases e : j = k
    · subst e; exact a h2
    · have := b.1.asc k j (by omega) hj
      unfold Bl at *; omega
/-- a place further on -/
theorem Mg.step (h : Mg n g k c y) (b : BIs S n g) (hx : 0 < n - k → ¬ Bl (g (k + 0)).c (g (k + 0)).y x.c x.y) (hc : ¬ Bl x.c x.y c y) (t : Taken (n - k) (fun j => g (k + j)) x a m o) :
    Mg n g (k + o) x.c (x.y + 1) ∧ S x.c x.y = a ∧ n - (k + o) = m := by
  rcases t with ⟨h0, he, ha, hm, ho⟩ | ⟨h0, ha, hm, ho⟩
  · subst ho
    dsimp only at he ha
    rw [Nat.add_zero] at he ha
    obtain ⟨e1, e2⟩ := bkc_zero.1 he
    refine ⟨⟨by omega, fun j hj => ?_, fun j h1 h2 => ?_⟩, ?_, by omega⟩
    · by_cases e : j = k
      · subst e; rw [e1, e2]; unfold Bl; omega
      · have := h.lo j (by omega)
        unfold Bl at *; omega
    · have := b.1.asc k j (by omega) h2
      rw [e1, e2] at this
      unfold Bl at *; omega
    · rw [← e1, ← e2, b.at (by omega), ha]
  · subst ho hm ha
    have key : ∀ j, k ≤ j → j < n → Bl x.c x.y (g j).c (g j).y := fun j h1 h2 => by
      have a1 := hx (by omega)
      have a2 : ¬ ((g k).c = x.c ∧ (g k).y = x.y) := fun e => h0 ⟨by omega, bkc_zero.2 (show (g (k + 0)).c = x.c ∧ (g (k + 0)).y = x.y by rw [Nat.add_zero]; exact e)⟩
      rw [Nat.add_zero] at a1
      by_cases e : j = k
      · subst e; unfold Bl at *; omega
      · have := b.1.asc k j (by omega) h2
        unfold Bl at *; omega
    refine ⟨⟨h.le, fun j hj => ?_, fun j h1 h2 => ?_⟩, ?_, rfl⟩
    · have := h.lo j hj
      unfold Bl at *; omega
    · have := key j h1 h2
      unfold Bl at *; omega
    · refine Classical.byContradiction fun z => ?_
      obtain ⟨j, hj, e1, e2⟩ := b.has z
      by_cases hk : j < k
      · have := h.lo j hk
        rw [e1, e2] at this
        exact hc this
      · have := key j (by omega) hj
        rw [e1, e2] at this
        unfold Bl at this; omega
theorem FUp.jump (h : FUp S S' c y q f) (hle : ¬ Bl x.c x.y c y) (hz : ∀ c' y', ¬ Bl c' y' c y → Bl c' y' x.c x.y → S c' y' = 0 ∧ S' c' y' = 0) : FUp S S' x.c x.y q f := h.of (by
  funext c' y'
  unfold upto
  by_cases e : c' < c ∨ (c' = c ∧ y' < y)
  · rw [if_pos e, if_pos (by unfold Bl at hle; omega)]
  · rw [if_neg e]
    split
    · rename_i e2
      exact (if_pos (hz c' y' e e2)).symm
    · rfl)
theorem FUp.fin (h : FUp S S' c y q f) (b : BIs S n g) (b' : BIs S' n' g') (hm : Mg n g n c y) (hm' : Mg n' g' n' c y) : FIw S S' q f := by
  have e : upto S S' c y = both S S' := by
    funext c' y'
    unfold upto
    split
    · rfl
    · rename_i e
      refine (if_pos ⟨?_, ?_⟩).symm
      · refine Classical.byContradiction fun z => ?_
        obtain ⟨j, hj, e1, e2⟩ := b.has z
        exact e (e1 ▸ e2 ▸ hm.lo j hj)
      · refine Classical.byContradiction fun z => ?_
        obtain ⟨j, hj, e1, e2⟩ := b'.has z
        exact e (e1 ▸ e2 ▸ hm'.lo j hj)
  exact ⟨e ▸ h.pl, h.op, h.cl, h.mv⟩
/-- one round: a bucket's row -/
theorem FUp.round (h : FUp S S' c y q f) (b : BIs S n g) (b' : BIs S' n' g') (hm : Mg n g k c y) (hm' : Mg n' g' k' c y) (hf : Fst (n - k) (fun j => g (k + j)) (n' - k') (fun j => g' (k' + j)) x)
    (t : Taken (n - k) (fun j => g (k + j)) x a m o) (t' : Taken (n' - k') (fun j => g' (k' + j)) x a' m' o') :
    Mg n g (k + o) x.c (x.y + 1) ∧ Mg n' g' (k' + o') x.c (x.y + 1) ∧ n - (k + o) = m ∧ n' - (k' + o') = m' ∧ FUp S S' x.c (x.y + 1) (q + 1) (updW f q ⟨x.c, x.y, a, IntKind.i64.wrap (a' - a), a'⟩) ∧ S x.c x.y = a ∧ S' x.c x.y = a' ∧ m + m' < n - k + (n' - k') := by
  have ge := hf.ge
  have hc : ¬ Bl x.c x.y c y ∧ BOk x.c x.y ∧ (S x.c x.y ≠ 0 ∨ S' x.c x.y ≠ 0) := by
    rcases hf with ⟨h1, rfl, _⟩ | ⟨h1, rfl, _⟩
    · exact ⟨hm.hi _ (by omega) (by omega), b.1.ok _ (by omega), .inl (by rw [b.at (by omega)]; exact b.1.nz _ (by omega))⟩
    · exact ⟨hm'.hi _ (by omega) (by omega), b'.1.ok _ (by omega), .inr (by rw [b'.at (by omega)]; exact b'.1.nz _ (by omega))⟩
  obtain ⟨a1, a2, a3⟩ := hm.step b ge.1 hc.1 t
  obtain ⟨b1, b2, b3⟩ := hm'.step b' ge.2 hc.1 t'
  have j := (h.jump hc.1 fun c' y' z1 z2 => ⟨hm.none b ge.1 z1 z2, hm'.none b' ge.2 z1 z2⟩).push hc.2.1 hc.2.2
  rw [a2, b2] at j
  refine ⟨a1, b1, a3, b3, j, a2, b2, ?_⟩
  rcases hf with ⟨h1, rfl, _⟩ | ⟨h1, rfl, _⟩
  · have : o = 1 := by
      rcases t with ⟨_, _, _, _, z⟩ | ⟨z, _⟩
      · exact z
      · exact absurd ⟨h1, bkc_zero.2 ⟨rfl, rfl⟩⟩ z
    omega
  · have : o' = 1 := by
      rcases t' with ⟨_, _, _, _, z⟩ | ⟨z, _⟩
      · exact z
      · exact absurd ⟨h1, bkc_zero.2 ⟨rfl, rfl⟩⟩ z
    omega
end
/-- rows in another order -/
def Turned (q : Nat) (f f' : Nat → Wy) : Prop := ((List.range q).map f).Perm ((List.range q).map f')
theorem cs_list (F : Wy → Int) (f : Nat → Wy) (c : Int) : ∀ n, cs F f c n = (((List.range n).map f).map fun x => if x.c = c then F x else 0).sum
  | 0 => rfl
  | n + 1 => by rw [cs_succ, cs_list F f c n, List.range_succ]; simp [List.sum_append]
theorem sum_perm {l l' : List Int} (h : l.Perm l') : l.sum = l'.sum := by
  induction h with
  | nil => rfl
  | cons x _ ih => simp [ih]
  | swap x y l => simp; omega
  | trans _ _ h1 h2 => exact h1.trans h2
section
variable {q m : Nat} {f f' z : Nat → Wy}
theorem Turned.cs (h : Turned q f f') (F : Wy → Int) (c : Int) : cs F f c q = Go.Proofs.Ytmlafdehhbhbiaa.cs F f' c q := by rw [cs_list, cs_list]; exact sum_perm (h.map _)
theorem Turned.mem (h : Turned q f f') {i : Nat} (hi : i < q) : ∃ j, j < q ∧ f' j = f i := by
  have : f i ∈ (List.range q).map f := List.mem_map.2 ⟨i, List.mem_range.2 hi, rfl⟩
  obtain ⟨j, hj, e⟩ := List.mem_map.1 (h.mem_iff.1 this)
  exact ⟨j, List.mem_range.1 hj, e⟩
theorem Turned.symm (h : Turned q f f') : Turned q f' f := List.Perm.symm h
theorem Turned.cis (h : Turned q f f') (c : CIs q f' m z) : CIs q f m z :=
  ⟨c.asc, c.yr, fun j hj => by rw [h.cs]; exact c.so j hj, fun j hj => by rw [h.cs]; exact c.sm j hj, fun j hj => by rw [h.cs]; exact c.sk j hj,
    fun j hj => by
      obtain ⟨i, hi, e⟩ := c.has j hj
      obtain ⟨i', hi', e'⟩ := h.symm.mem hi
      exact ⟨i', hi', by rw [e', e]⟩,
    fun i hi => by
      obtain ⟨i', hi', e⟩ := h.mem hi
      obtain ⟨j, hj, e'⟩ := c.all i' hi'
      exact ⟨j, hj, by rw [e', e]⟩⟩
theorem CIs.le (h : CIs q f m z) : m ≤ q := by
  have key : ∀ j, j ≤ m → ∃ l : List Nat, l.length = j ∧ l.Nodup ∧ ∀ i, i ∈ l → i < q ∧ ∃ a, a < j ∧ (f i).c = (z a).c := by
    intro j
    induction j with
    | zero => exact fun _ => ⟨[], rfl, List.nodup_nil, fun i hi => absurd hi (List.not_mem_nil)⟩
    | succ j ih =>
      intro hj
      obtain ⟨l, hl, hn, hm⟩ := ih (by omega)
      obtain ⟨i, hi, e⟩ := h.has j (by omega)
      refine ⟨i :: l, by simp [hl], List.nodup_cons.2 ⟨fun q => ?_, hn⟩, fun x hx => ?_⟩
      · obtain ⟨_, a, ha, e2⟩ := hm i q
        have := h.asc a j ha (by omega)
        omega
      · rcases List.mem_cons.1 hx with rfl | hx
        · exact ⟨hi, j, by omega, e⟩
        · obtain ⟨a, b, c, d⟩ := hm x hx
          exact ⟨a, b, by omega, d⟩
  obtain ⟨l, hl, hn, hm⟩ := key m (Nat.le_refl _)
  have := List.Nodup.length_le_of_subset hn (l₂ := List.range q) fun i hi => List.mem_range.2 (hm i hi).1
  rw [hl, List.length_range] at this
  exact this
end
end Go.Proofs.Ytmlafdehhbhbiaa

/- Package roll: how two buckets compare, which one comes first, what is taken of a list for it; the way from opening to closing, what moved: a contract for each. -/
namespace Go.Proofs.Ytmlafdehhbhbiaa
open Go.RowKit

set_option maxHeartbeats 2000000 in
theorem rcmp_any (x z : Bk) (w : World) : Calls Try.prog 76 #[ba x, ba z] w fun e w' => e = .returned (.int .i64 (bkc x z)) ∧ Below w.heap.size w w' := by
  obtain ⟨xc, xy, xa⟩ := x
  obtain ⟨zc, zy, za⟩ := z
  simp only [ba, bkc] at *
  go_enter Try.func76, Try.ntmps76
  go_wp2
  obtain ⟨w1, hw1⟩ : ∃ w1, w1 = (w.alloc (.cells #[.int .i64 xc, .int .i64 xy, .int .i64 xa] 81)).alloc (.cells #[.int .i64 zc, .int .i64 zy, .int .i64 za] 81) := ⟨_, rfl⟩
  have hs : w1.heap.size = w.heap.size + 2 := by rw [hw1]; simp
  have HB1 : Hid (Below w.heap.size w w1) := Lib.hid (by rw [hw1]; exact ((Below.refl _ _).alloc (Nat.le_refl _) _).alloc (by simp) _)
  have N1 := rec_lit w [.int .i64 xc, .int .i64 xy, .int .i64 xa] 81 w.heap.size rfl
  have N2 := rec_lit (w.alloc (.cells #[.int .i64 xc, .int .i64 xy, .int .i64 xa] 81)) [.int .i64 zc, .int .i64 zy, .int .i64 za] 81 (w.heap.size + 1) (by simp)
  have x0 : w1.cell? ⟨w.heap.size, 0, none⟩ = some (.int .i64 xc) := by rw [hw1]; exact cell_keep (N1 0 _ rfl) ((Below.refl _ _).alloc (Nat.le_refl _) _)
  have x1 : w1.cell? ⟨w.heap.size, 1, none⟩ = some (.int .i64 xy) := by rw [hw1]; exact cell_keep (N1 1 _ rfl) ((Below.refl _ _).alloc (Nat.le_refl _) _)
  have z0 : w1.cell? ⟨w.heap.size + 1, 0, none⟩ = some (.int .i64 zc) := by rw [hw1]; exact N2 0 _ rfl
  have z1 : w1.cell? ⟨w.heap.size + 1, 1, none⟩ = some (.int .i64 zy) := by rw [hw1]; exact N2 1 _ rfl
  rw [← hw1]
  clear hw1 N1 N2
  have M0 := rec_lit w1 [.int .i64 (cmpc xc zc), .int .i64 (cmpc xy zy)] 3 (w.heap.size + 2) hs 0 _ rfl
  have M1 := rec_lit w1 [.int .i64 (cmpc xc zc), .int .i64 (cmpc xy zy)] 3 (w.heap.size + 2) hs 1 _ rfl
  have CO := Lib.hid (cmpor_any (w.heap.size + 2) (cmpc xc zc) (cmpc xy zy) (w1.alloc (.cells #[.int .i64 (cmpc xc zc), .int .i64 (cmpc xy zy)] 3)).drew M0 M1)
  have BA : Hid (Below w1.heap.size w1 (w1.alloc (.cells #[.int .i64 (cmpc xc zc), .int .i64 (cmpc xy zy)] 3)).drew) := Lib.hid ((Below.refl _ _).alloc (Nat.le_refl _) _).drew
  clear M0 M1
  go_region_held3 (fun w' => w'.cell? ⟨w.heap.size, 0, none⟩ = some (.int .i64 xc) ∧ w'.cell? ⟨w.heap.size, 1, none⟩ = some (.int .i64 xy) ∧ w'.cell? ⟨w.heap.size + 1, 0, none⟩ = some (.int .i64 zc) ∧ w'.cell? ⟨w.heap.size + 1, 1, none⟩ = some (.int .i64 zy)) (first | go_keep) (first | (go_at_call 85; (with_reducible refine (cmpi_any _ _ _).mono ?_); rintro e w' ⟨rfl, rfl⟩) | (go_at_call 84; (refine (CO.out).mono ?_); rintro e w2 ⟨rfl, hb2⟩; have hbb := BA.out.trans (hb2.mono BA.out.size); have k0 := cell_keep x0 hbb; have k1 := cell_keep x1 hbb; have k2 := cell_keep z0 hbb; have k3 := cell_keep z1 hbb; have HB2 := Lib.hid (HB1.out.trans (hbb.mono HB1.out.size)); clear hbb hb2))
  go_wp2
  go_ret
  exact ⟨rfl, HB2.out⟩
theorem frz_lit (w : World) (l : List Value) (T : TypeId) (j : Nat) : (w.alloc (.cells l.toArray T)).frozen? ⟨w.heap.size, j, none⟩ = false := by
  have hh := heap_alloc_new w (.cells l.toArray T)
  simp only [World.frozen?, hh]; simp
theorem frz_keep {w w1 : World} {b j : Nat} (h : w.frozen? ⟨b, j, none⟩ = false) (hb : b < w.heap.size) (k : Below w.heap.size w w1) : w1.frozen? ⟨b, j, none⟩ = false := (k.frozen hb).trans h
/-- a bucket's cells as one value -/
theorem load_b {w : World} {b o : Nat} {x : Bk} (c0 : w.cell? ⟨b, o, none⟩ = some (.int .i64 x.c)) (c1 : w.cell? ⟨b, o + 1, none⟩ = some (.int .i64 x.y)) (c2 : w.cell? ⟨b, o + 2, none⟩ = some (.int .i64 x.a)) : (loadVar 81 ⟨b, o, none⟩).run Try.prog w = .ok (ba x) w := by
  go_simp
theorem results_b {fn : Func} {p : Tmp} (h : fn.results = #[.cell p 81]) (tmps : Array Value) (w : World) (b o : Nat) (x : Bk) (hp : tmps.getD p undef = .pointer (some ⟨b, o, none⟩)) (c0 : w.cell? ⟨b, o, none⟩ = some (.int .i64 x.c)) (c1 : w.cell? ⟨b, o + 1, none⟩ = some (.int .i64 x.y)) (c2 : w.cell? ⟨b, o + 2, none⟩ = some (.int .i64 x.a)) :
    (results fn tmps).run Try.prog w = .ok (ba x) w := by
  have hp' : tmps[p]?.getD undef = .pointer (some ⟨b, o, none⟩) := by simpa using hp
  simp [results, h, hp', asAddr, load_b c0 c1 c2]
set_option maxHeartbeats 4000000 in
/-- the bucket that comes first -/
theorem pfirst11 {w : World} {A A' : Option Addr} {n c n' c' : Nat} {g g' : Nat → Bk} (h : AtR be 3 w A n g) (h' : AtR be 3 w A' n' g') (hn : 0 < n ∨ 0 < n') :
    Calls Try.prog 59 #[.slice A n c, .slice A' n' c'] w fun e w' => ∃ x, e = .returned (ba x) ∧ Fst n g n' g' x ∧ Below w.heap.size w w' := by
  by_cases h0 : n = 0
  · subst h0
    obtain ⟨b', off', rfl, hb', c0', c1', c2'⟩ := h'.three (show 0 < n' by omega)
    rw [Nat.zero_mul, Nat.add_zero] at c0' c1' c2'
    have HF : Hid (Fst 0 g n' g' (g' 0)) := Lib.hid (.inr ⟨by omega, rfl, fun h => by omega⟩)
    have k1 : (0 : Int) < (n' : Int) := by omega
    clear h h'
    go_enter Try.func59, Try.ntmps59
    go_wp2
    exact bodyPost_ret (results_b rfl _ _ w.heap.size 0 (g' 0) rfl (by go_simp) (by go_simp) (by go_simp)) rfl ⟨_, rfl, HF.out, (Below.refl _ _).alloc (Nat.le_refl _) _⟩
  obtain ⟨b, off, rfl, hb, c0, c1, c2⟩ := h.three (show 0 < n by omega)
  rw [Nat.zero_mul, Nat.add_zero] at c0 c1 c2
  have kz : (0 : Int) < (n : Int) := by omega
  have kn : 0 < n := by omega
  have p0 : ((n : Int) == 0) = false := by simpa using h0
  have KB := Lib.hid fun W (k : Below w.heap.size w W) => And.intro (cell_keep c0 k) (And.intro (cell_keep c1 k) (cell_keep c2 k))
  by_cases h0' : n' = 0
  · subst h0'
    have HF : Hid (Fst n g 0 g' (g 0)) := Lib.hid (.inl ⟨by omega, rfl, fun h => by omega⟩)
    clear h h'
    have p0' : ((0 : Int) == 0) = true := rfl
    go_enter Try.func59, Try.ntmps59
    go_wp2
    go_big_quiet (fail)
    go_wp2
    refine bodyPost_ret (results_b rfl _ _ w.heap.size 0 (g 0) rfl (by go_simp) (by go_simp) (by go_simp)) rfl ⟨_, rfl, HF.out, ?_⟩
    have B := below_drewN ((Below.refl w.heap.size w).alloc (Nat.le_refl _) (.cells #[.int .i64 0, .int .i64 0, .int .i64 0] 81)) nq
    exact ((B.setCell (Nat.le_refl _) _).setCell (Nat.le_refl _) _).setCell (Nat.le_refl _) _
  · have p1 : ((n' : Int) == 0) = false := by simpa using h0'
    obtain ⟨b', off', rfl, hb', c0', c1', c2'⟩ := h'.three (show 0 < n' by omega)
    rw [Nat.zero_mul, Nat.add_zero] at c0' c1' c2'
    have CC := Lib.hid fun w => rcmp_any (g 0) (g' 0) w
    have kz' : (0 : Int) < (n' : Int) := by omega
    have kn' : 0 < n' := by omega
    clear h h'
    obtain ⟨w1, hw1⟩ : ∃ w1, w1 = w.alloc (.cells #[.int .i64 0, .int .i64 0, .int .i64 0] 81) := ⟨_, rfl⟩
    have HB1 : Hid (Below w.heap.size w w1) := Lib.hid (by rw [hw1]; exact (Below.refl _ _).alloc (Nat.le_refl _) _)
    have N1 := rec_lit w [.int .i64 0, .int .i64 0, .int .i64 0] 81 w.heap.size rfl
    rw [← hw1] at N1
    have e0 := N1 0 _ rfl
    have e1 := N1 1 _ rfl
    have e2 := N1 2 _ rfl
    have d0 := cell_keep c0 HB1.out
    have d1 := cell_keep c1 HB1.out
    have d2 := cell_keep c2 HB1.out
    have d0' := cell_keep c0' HB1.out
    have d1' := cell_keep c1' HB1.out
    have d2' := cell_keep c2' HB1.out
    have z1 : w.heap.size < w1.heap.size := by rw [hw1]; simp
    have z0 := frz_lit w [.int .i64 0, .int .i64 0, .int .i64 0] 81 0
    have z2 := frz_lit w [.int .i64 0, .int .i64 0, .int .i64 0] 81 1
    have z3 := frz_lit w [.int .i64 0, .int .i64 0, .int .i64 0] 81 2
    rw [← hw1] at z0 z2 z3
    have FZ := Lib.hid fun W (k : Below w1.heap.size w1 W) => And.intro (frz_keep z0 z1 k) (And.intro (frz_keep z2 z1 k) (frz_keep z3 z1 k))
    clear N1 c0 c1 c2 c0' c1' c2' KB z0 z1 z2 z3
    rcases (show bkc (g 0) (g' 0) < 0 ∨ ¬ bkc (g 0) (g' 0) < 0 by omega) with hlt | hlt
    · have HF : Hid (Fst n g n' g' (g 0)) := Lib.hid (.inl ⟨by omega, rfl, fun _ => bkc_neg.1 hlt⟩)
      have hlt' : decide (bkc (g 0) (g' 0) < 0) = true := by simpa using hlt
      clear hlt hn h0 h0'
      go_enter Try.func59, Try.ntmps59
      go_wp2
      rw [← hw1]
      clear hw1
      go_region_held3 (fun w' => w'.cell? ⟨b, off, none⟩ = some (.int .i64 (g 0).c) ∧ w'.cell? ⟨b, off + 1, none⟩ = some (.int .i64 (g 0).y) ∧ w'.cell? ⟨b, off + 2, none⟩ = some (.int .i64 (g 0).a) ∧ w'.cell? ⟨b', off', none⟩ = some (.int .i64 (g' 0).c) ∧ w'.cell? ⟨b', off' + 1, none⟩ = some (.int .i64 (g' 0).y) ∧ w'.cell? ⟨b', off' + 2, none⟩ = some (.int .i64 (g' 0).a)) (first | go_keep) (first | (go_at_call 76; (refine (CC.out _).mono ?_); rintro e w2 ⟨rfl, hb2⟩; have k0 := cell_keep (w := w1.drew) d0 hb2; have k1 := cell_keep (w := w1.drew) d1 hb2; have k2 := cell_keep (w := w1.drew) d2 hb2; have k3 := cell_keep (w := w1.drew) d0' hb2; have k4 := cell_keep (w := w1.drew) d1' hb2; have k5 := cell_keep (w := w1.drew) d2' hb2; have k6 := cell_keep (w := w1.drew) e0 hb2; have k7 := cell_keep (w := w1.drew) e1 hb2; have k8 := cell_keep (w := w1.drew) e2 hb2; obtain ⟨z0, z1, z2⟩ := FZ.out _ ((below_drew w1).trans hb2); have HB2 := Lib.hid (HB1.out.trans (((below_drew w1).trans hb2).mono HB1.out.size)); clear hb2))
      go_wp2
      refine bodyPost_ret (results_b rfl _ _ w.heap.size 0 (g 0) rfl (by go_simp) (by go_simp) (by go_simp)) rfl ⟨_, rfl, HF.out, ?_⟩
      exact ((HB2.out.setCell (Nat.le_refl _) _).setCell (Nat.le_refl _) _).setCell (Nat.le_refl _) _
    · have HF : Hid (Fst n g n' g' (g' 0)) := Lib.hid (.inr ⟨by omega, rfl, fun _ q => hlt (bkc_neg.2 q)⟩)
      have hlt' : decide (bkc (g 0) (g' 0) < 0) = false := by simpa using hlt
      clear hlt hn h0 h0'
      go_enter Try.func59, Try.ntmps59
      go_wp2
      rw [← hw1]
      clear hw1
      go_region_held3 (fun w' => w'.cell? ⟨b, off, none⟩ = some (.int .i64 (g 0).c) ∧ w'.cell? ⟨b, off + 1, none⟩ = some (.int .i64 (g 0).y) ∧ w'.cell? ⟨b, off + 2, none⟩ = some (.int .i64 (g 0).a) ∧ w'.cell? ⟨b', off', none⟩ = some (.int .i64 (g' 0).c) ∧ w'.cell? ⟨b', off' + 1, none⟩ = some (.int .i64 (g' 0).y) ∧ w'.cell? ⟨b', off' + 2, none⟩ = some (.int .i64 (g' 0).a)) (first | go_keep) (first | (go_at_call 76; (refine (CC.out _).mono ?_); rintro e w2 ⟨rfl, hb2⟩; have k0 := cell_keep (w := w1.drew) d0 hb2; have k1 := cell_keep (w := w1.drew) d1 hb2; have k2 := cell_keep (w := w1.drew) d2 hb2; have k3 := cell_keep (w := w1.drew) d0' hb2; have k4 := cell_keep (w := w1.drew) d1' hb2; have k5 := cell_keep (w := w1.drew) d2' hb2; have k6 := cell_keep (w := w1.drew) e0 hb2; have k7 := cell_keep (w := w1.drew) e1 hb2; have k8 := cell_keep (w := w1.drew) e2 hb2; obtain ⟨z0, z1, z2⟩ := FZ.out _ ((below_drew w1).trans hb2); have HB2 := Lib.hid (HB1.out.trans (((below_drew w1).trans hb2).mono HB1.out.size)); clear hb2))
      go_wp2
      refine bodyPost_ret (results_b rfl _ _ w.heap.size 0 (g' 0) rfl (by go_simp) (by go_simp) (by go_simp)) rfl ⟨_, rfl, HF.out, ?_⟩
      exact ((HB2.out.setCell (Nat.le_refl _) _).setCell (Nat.le_refl _) _).setCell (Nat.le_refl _) _
theorem AtR.tail {α : Type} {enc : α → List Value} {k : Nat} {w : World} {b off n : Nat} {g : Nat → α} (h : AtR enc k w (Option.some ⟨b, off, none⟩) n g) (hn : 0 < n) : AtR enc k w (Option.some ⟨b, off + k, none⟩) (n - 1) (fun j => g (1 + j)) := by
  obtain ⟨b', off', e, hb, hc⟩ := h.some hn
  injection e with e
  injection e with e1 e2
  subst e1 e2
  refine .inr ⟨b, off + k, rfl, hb, fun j hj i u hu => ?_⟩
  have := hc (1 + j) (by omega) i u hu
  rw [Nat.add_mul, Nat.one_mul] at this
  rw [show off + k + j * k + i = off + (k + j * k) + i by omega]
  exact this
/-- a part of a list -/
def Sub (A : Option Addr) (n : Nat) (g : Nat → Bk) (A2 : Option Addr) (m : Nat) (h : Nat → Bk) : Prop := ∀ W, AtR be 3 W A n g → AtR be 3 W A2 m h
set_option maxHeartbeats 4000000 in
/-- what is taken of a list for a bucket -/
theorem ptake11 {w : World} {A : Option Addr} {n c : Nat} {g : Nat → Bk} (h : AtR be 3 w A n g) (hc : n ≤ c ∧ c ≤ maxLen) (x : Bk) :
    Calls Try.prog 60 #[.slice A n c, ba x] w fun e w' => ∃ a m o A2 c2, e = .returned (.tuple #[.int .i64 a, .slice A2 m c2]) ∧ Taken n g x a m o ∧ Sub A n g A2 m (fun j => g (o + j)) ∧ (m ≤ c2 ∧ c2 ≤ maxLen) ∧ Below w.heap.size w w' := by
  obtain ⟨xc, xy, xa⟩ := x
  have HC := Lib.hid hc
  simp only [ba] at *
  obtain ⟨w1, hw1⟩ : ∃ w1, w1 = w.alloc (.cells #[.int .i64 xc, .int .i64 xy, .int .i64 xa] 81) := ⟨_, rfl⟩
  have HB1 : Hid (Below w.heap.size w w1) := Lib.hid (by rw [hw1]; exact (Below.refl _ _).alloc (Nat.le_refl _) _)
  have N1 := rec_lit w [.int .i64 xc, .int .i64 xy, .int .i64 xa] 81 w.heap.size rfl
  rw [← hw1] at N1
  have e0 := N1 0 _ rfl
  have e1 := N1 1 _ rfl
  have e2 := N1 2 _ rfl
  clear N1
  by_cases h0 : n = 0
  · subst h0
    have HT : Hid (Taken 0 g ⟨xc, xy, xa⟩ 0 0 0) := Lib.hid (.inr ⟨fun q => absurd q.1 (by omega), rfl, rfl, rfl⟩)
    clear h hc
    go_enter Try.func60, Try.ntmps60
    go_wp2
    rw [← hw1]
    clear hw1
    go_big_quiet (fail)
    go_wp2
    go_ret2
    exact ⟨_, _, _, _, _, rfl, HT.out, fun _ _ => .inl rfl, HC.out, below_drewN HB1.out _⟩
  obtain ⟨b, off, rfl, hb, c0, c1, c2⟩ := h.three (show 0 < n by omega)
  rw [Nat.zero_mul, Nat.add_zero] at c0 c1 c2
  have kz : (0 : Int) < (n : Int) := by omega
  have kn : 0 < n := by omega
  have p0 : ((n : Int) == 0) = false := by simpa using h0
  have d0 := cell_keep c0 HB1.out
  have d1 := cell_keep c1 HB1.out
  have d2 := cell_keep c2 HB1.out
  have CC := Lib.hid fun w => rcmp_any (g 0) ⟨xc, xy, xa⟩ w
  clear c0 c1 c2 h
  by_cases hq : bkc (g 0) ⟨xc, xy, xa⟩ = 0
  · have HT : Hid (Taken n g ⟨xc, xy, xa⟩ (g 0).a (n - 1) 1) := Lib.hid (.inl ⟨kn, hq, rfl, by omega, rfl⟩)
    have hq' : (bkc (g 0) ⟨xc, xy, xa⟩ != 0) = false := by simpa using hq
    have q1 : (0 : Int) ≤ 1 := by decide
    have q2 : (1 : Int) ≤ (n : Int) := by omega
    have q3 : 1 ≤ n := by omega
    have q4 : (n : Int) ≤ (c : Int) := by omega
    have q5 : n ≤ c := by omega
    by_cases hc1 : c = 1
    · obtain rfl : n = 1 := by omega
      subst hc1
      clear hq h0 hc
      go_enter Try.func60, Try.ntmps60
      go_wp2
      rw [← hw1]
      clear hw1
      go_region_held3 (fun w' => w'.cell? ⟨b, off, none⟩ = some (.int .i64 (g 0).c) ∧ w'.cell? ⟨b, off + 1, none⟩ = some (.int .i64 (g 0).y) ∧ w'.cell? ⟨b, off + 2, none⟩ = some (.int .i64 (g 0).a) ∧ w'.cell? ⟨w.heap.size, 0, none⟩ = some (.int .i64 xc) ∧ w'.cell? ⟨w.heap.size, 1, none⟩ = some (.int .i64 xy) ∧ w'.cell? ⟨w.heap.size, 2, none⟩ = some (.int .i64 xa)) (first | go_keep) (first | (go_at_call 76; (refine (CC.out _).mono ?_); rintro e w2 ⟨rfl, hb2⟩; have k0 := cell_keep (w := w1.drew) d0 hb2; have k1 := cell_keep (w := w1.drew) d1 hb2; have k2 := cell_keep (w := w1.drew) d2 hb2; have k3 := cell_keep (w := w1.drew) e0 hb2; have k4 := cell_keep (w := w1.drew) e1 hb2; have k5 := cell_keep (w := w1.drew) e2 hb2; have HB2 := Lib.hid (HB1.out.trans (((below_drew w1).trans hb2).mono HB1.out.size)); clear hb2))
      go_wp2
      go_big_quiet (fail)
      go_wp2
      go_ret2
      exact ⟨_, _, _, _, _, rfl, HT.out, fun _ _ => .inl rfl, by unfold maxLen; omega, below_drewN HB2.out _⟩
    · have q6 : ¬ (c = 1) := hc1
      have q7 : 1 < c := by omega
      clear hq h0 hc hc1
      go_enter Try.func60, Try.ntmps60
      go_wp2
      rw [← hw1]
      clear hw1
      go_region_held3 (fun w' => w'.cell? ⟨b, off, none⟩ = some (.int .i64 (g 0).c) ∧ w'.cell? ⟨b, off + 1, none⟩ = some (.int .i64 (g 0).y) ∧ w'.cell? ⟨b, off + 2, none⟩ = some (.int .i64 (g 0).a) ∧ w'.cell? ⟨w.heap.size, 0, none⟩ = some (.int .i64 xc) ∧ w'.cell? ⟨w.heap.size, 1, none⟩ = some (.int .i64 xy) ∧ w'.cell? ⟨w.heap.size, 2, none⟩ = some (.int .i64 xa)) (first | go_keep) (first | (go_at_call 76; (refine (CC.out _).mono ?_); rintro e w2 ⟨rfl, hb2⟩; have k0 := cell_keep (w := w1.drew) d0 hb2; have k1 := cell_keep (w := w1.drew) d1 hb2; have k2 := cell_keep (w := w1.drew) d2 hb2; have k3 := cell_keep (w := w1.drew) e0 hb2; have k4 := cell_keep (w := w1.drew) e1 hb2; have k5 := cell_keep (w := w1.drew) e2 hb2; have HB2 := Lib.hid (HB1.out.trans (((below_drew w1).trans hb2).mono HB1.out.size)); clear hb2))
      go_wp2
      go_big_quiet (fail)
      go_wp2
      go_ret2
      exact ⟨_, _, _, _, _, rfl, HT.out, fun _ h => h.tail kn, by have := HC.out; omega, below_drewN HB2.out _⟩
  · have HT : Hid (Taken n g ⟨xc, xy, xa⟩ 0 n 0) := Lib.hid (.inr ⟨fun q => hq q.2, rfl, rfl, rfl⟩)
    have hq' : (bkc (g 0) ⟨xc, xy, xa⟩ != 0) = true := by simpa using hq
    clear hq h0 hc
    go_enter Try.func60, Try.ntmps60
    go_wp2
    rw [← hw1]
    clear hw1
    go_region_held3 (fun w' => w'.cell? ⟨b, off, none⟩ = some (.int .i64 (g 0).c) ∧ w'.cell? ⟨b, off + 1, none⟩ = some (.int .i64 (g 0).y) ∧ w'.cell? ⟨b, off + 2, none⟩ = some (.int .i64 (g 0).a) ∧ w'.cell? ⟨w.heap.size, 0, none⟩ = some (.int .i64 xc) ∧ w'.cell? ⟨w.heap.size, 1, none⟩ = some (.int .i64 xy) ∧ w'.cell? ⟨w.heap.size, 2, none⟩ = some (.int .i64 xa)) (first | go_keep) (first | (go_at_call 76; (refine (CC.out _).mono ?_); rintro e w2 ⟨rfl, hb2⟩; have k0 := cell_keep (w := w1.drew) d0 hb2; have k1 := cell_keep (w := w1.drew) d1 hb2; have k2 := cell_keep (w := w1.drew) d2 hb2; have k3 := cell_keep (w := w1.drew) e0 hb2; have k4 := cell_keep (w := w1.drew) e1 hb2; have k5 := cell_keep (w := w1.drew) e2 hb2; have HB2 := Lib.hid (HB1.out.trans (((below_drew w1).trans hb2).mono HB1.out.size)); clear hb2))
    go_wp2
    go_ret2
    exact ⟨_, _, _, _, _, rfl, HT.out, fun _ h => (by simpa only [Nat.zero_add] using h), HC.out, HB2.out⟩
end Go.Proofs.Ytmlafdehhbhbiaa

/- Package roll: the way from opening to closing; what moved: a contract for each. -/
namespace Go.Proofs.Ytmlafdehhbhbiaa
open Go.RowKit

theorem wyrow_info : (Try.prog.info? 92).map (fun i => (i.zero, i.size, i.bytes)) = some (some (.agg #[.int .i64 0, .int .i64 0, .int .i64 0, .int .i64 0, .int .i64 0]), 5, 40) := by kernel_rfl
theorem wyrow_type : Try.prog.underlying 40 = some (.slice 92) := Try.underlying40
/-- a bucket in a block, and its row in the next one -/
structure NR (X : Nat) (c y a o m k : Int) (w : World) : Prop where
  lt : X + 1 < w.heap.size
  nx : ∀ j u, (be ⟨c, y, a⟩)[j]? = some u → w.cell? ⟨X, j, none⟩ = some u
  rw : ∀ j u, (we ⟨c, y, o, m, k⟩)[j]? = some u → w.cell? ⟨X + 1, j, none⟩ = some u
  fz : ∀ j, w.frozen? ⟨X + 1, j, none⟩ = false
section
variable {X : Nat} {c y a o m k : Int} {w w1 : World}
theorem NR.keep (h : NR X c y a o m k w) (b : Below w.heap.size w w1) : NR X c y a o m k w1 :=
  ⟨Nat.lt_of_lt_of_le h.lt b.size, fun j u hu => cell_keep (h.nx j u hu) b, fun j u hu => cell_keep (h.rw j u hu) b, fun j => frz_keep (h.fz j) h.lt b⟩
theorem NR.r5 (h : NR X c y a o m k w) : w.cell? ⟨X + 1, 0, none⟩ = some (.int .i64 c) ∧ w.cell? ⟨X + 1, 1, none⟩ = some (.int .i64 y) ∧ w.cell? ⟨X + 1, 2, none⟩ = some (.int .i64 o) ∧ w.cell? ⟨X + 1, 3, none⟩ = some (.int .i64 m) ∧ w.cell? ⟨X + 1, 4, none⟩ = some (.int .i64 k) :=
  ⟨h.rw 0 _ rfl, h.rw 1 _ rfl, h.rw 2 _ rfl, h.rw 3 _ rfl, h.rw 4 _ rfl⟩
theorem NR.b3 (h : NR X c y a o m k w) : w.cell? ⟨X, 0, none⟩ = some (.int .i64 c) ∧ w.cell? ⟨X, 1, none⟩ = some (.int .i64 y) ∧ w.cell? ⟨X, 2, none⟩ = some (.int .i64 a) :=
  ⟨h.nx 0 _ rfl, h.nx 1 _ rfl, h.nx 2 _ rfl⟩
/-- a number of the row is stored -/
theorem NR.put (h : NR X c y a o m k w) (i : Nat) (v o' m' k' : Int) (he : ∀ j, j ≠ i → (we ⟨c, y, o', m', k'⟩)[j]? = (we ⟨c, y, o, m, k⟩)[j]?) (hi : (we ⟨c, y, o', m', k'⟩)[i]? = some (.int .i64 v)) : NR X c y a o' m' k' (w.setCell ⟨X + 1, i, none⟩ (.int .i64 v)) := by
  have hex : ∃ u, (we ⟨c, y, o, m, k⟩)[i]? = some u := by
    have h5 : i < (we ⟨c, y, o', m', k'⟩).length := (List.getElem?_eq_some_iff.1 hi).1
    exact ⟨_, List.getElem?_eq_getElem (by rw [we_len] at *; exact h5)⟩
  obtain ⟨u0, hu0⟩ := hex
  refine ⟨by rw [World.size_setCell]; exact h.lt, fun j u hu => ?_, fun j u hu => ?_, fun j => by rw [World.frozen?_setCell]; exact h.fz j⟩
  · rw [World.cell?_setCell_far _ _ _ _ (by show X + 1 ≠ X; omega)]; exact h.nx j u hu
  · by_cases e : j = i
    · subst e
      rw [hi] at hu
      rw [World.cell?_setCell_same _ _ _ (h.rw j u0 hu0)]; exact hu
    · rw [World.cell?_setCell_other _ _ _ _ (by intro e2; injection e2 with _ e2 _; exact e e2.symm)]
      exact h.rw j u (by rw [← he j e]; exact hu)
end
set_option maxHeartbeats 8000000 in
set_option maxRecDepth 100000 in
/-- the way from opening to closing -/
theorem pfwd_w {w : World} {A A' : Option Addr} {n c n' c' : Nat} {g g' : Nat → Bk} {S S' : Int → Int → Int} (h : AtR be 3 w A n g) (h' : AtR be 3 w A' n' g') (iv : BIs S n g) (iv' : BIs S' n' g') (hn : n ≤ 1000) (hn' : n' ≤ 1000) (hc : n ≤ c ∧ c ≤ maxLen) (hc' : n' ≤ c' ∧ c' ≤ maxLen) :
    Calls Try.prog 35 #[.slice A n c, .slice A' n' c'] w fun e w' => ∃ A2 q c2 f, e = .returned (.slice A2 q c2) ∧ OwnR we 5 w' 92 w.heap.size (.slice A2 q c2) q f ∧ FIw S S' q f ∧ Below w.heap.size w w' := by
  obtain ⟨i0, hi, hz0, hz1, hz2⟩ := info_parts wyrow_info
  have HA := Lib.hid h
  have HA' := Lib.hid h'
  have IV := Lib.hid iv
  have IV' := Lib.hid iv'
  have HC := Lib.hid hc
  have HC' := Lib.hid hc'
  have HN := Lib.hid hn
  have HN' := Lib.hid hn'
  clear h h' iv iv' hc hc' hn hn'
  go_enter Try.func35, Try.ntmps35
  go_wp2
  go_loopg [0, 1, 5] (n + n') (fun gh s0 s1 s5 wr => ∃ (k k' q : Nat) (f : Nat → Wy) (cc cy : Int) (A1 A1' : Option Addr) (c1 c1' : Nat), gh = n - k + (n' - k') ∧ s0 = .slice A1 (n - k : Nat) c1 ∧ s1 = .slice A1' (n' - k' : Nat) c1' ∧ Sub A n g A1 (n - k) (fun j => g (k + j)) ∧ Sub A' n' g' A1' (n' - k') (fun j => g' (k' + j)) ∧ (n - k ≤ c1 ∧ c1 ≤ maxLen) ∧ (n' - k' ≤ c1' ∧ c1' ≤ maxLen) ∧ Mg n g k cc cy ∧ Mg n' g' k' cc cy ∧ OwnR we 5 wr 92 w.heap.size s5 q f ∧ FUp S S' cc cy q f ∧ q ≤ k + k' ∧ Below w.heap.size w wr)
  case atStart => exact ⟨0, 0, 0, fun _ => ⟨0, 0, 0, 0, 0⟩, 1, 0, A, A', c, c', rfl, rfl, rfl, fun W q => by simpa only [Nat.zero_add, Nat.sub_zero] using q, fun W q => by simpa only [Nat.zero_add, Nat.sub_zero] using q, HC.out, HC'.out, Mg.start IV.out.1, Mg.start IV'.out.1, OwnR.nil _ _ _ _ _ _, FUp.start IV.out IV'.out _, by omega, Below.refl _ _⟩
  case round =>
    obtain ⟨k, k', q, f, cc, cy, A1, A1', c1, c1', hgk, rfl, rfl, hs, hs', hb1, hb1', hm, hm', ho, hu, hq, hb⟩ := hrel
    have HS := Lib.hid hs
    have HS' := Lib.hid hs'
    have ha := hs _ (HA.out.below hb)
    have ha' := hs' _ (HA'.out.below hb)
    clear hs hs'
    have HGK := Lib.hid hgk
    have HB := Lib.hid hb
    have HM := Lib.hid hm
    have HM' := Lib.hid hm'
    have HO := Lib.hid ho
    have HU := Lib.hid hu
    have HQ := Lib.hid hq
    obtain ⟨m, hmm⟩ : ∃ m, m = n - k := ⟨_, rfl⟩
    obtain ⟨m', hmm'⟩ : ∃ m', m' = n' - k' := ⟨_, rfl⟩
    rw [← hmm] at ha hb1
    rw [← hmm'] at ha' hb1'
    have HMM := Lib.hid hmm
    have HMM' := Lib.hid hmm'
    rw [← hmm, ← hmm']
    by_cases h0 : m = 0 ∧ m' = 0
    · obtain ⟨rfl, rfl⟩ := h0
      have HF : Hid (FIw S S' q f) := Lib.hid (by
        have e1 : k = n := by have := HM.out.le; omega
        have e2 : k' = n' := by have := HM'.out.le; omega
        subst e1 e2
        exact HU.out.fin IV.out IV'.out HM.out HM'.out)
      obtain ⟨A2, c2, rfl, _⟩ := ho.form
      clear hgk hb hm hm' ho hu hq hmm hmm' ha ha' hb1 hb1'
      go_wp2
      go_ret
      exact ⟨_, _, _, _, rfl, HO.out, HF.out, HB.out⟩
    · have C1 := Lib.hid fun W (kb : Below wr.heap.size wr W) => pfirst11 (c := c1) (c' := c1') (ha.below kb) (ha'.below kb) (by omega)
      have HA1 := Lib.hid ha
      have HA1' := Lib.hid ha'
      have HB1 := Lib.hid hb1
      have HB1' := Lib.hid hb1'
      rcases (show (m = 0 ∧ decide (0 < m') = true) ∨ decide (0 < m) = true by
          by_cases e : m = 0
          · exact .inl ⟨e, by simpa using (show 0 < m' by omega)⟩
          · exact .inr (by simpa using (show 0 < m by omega))) with ⟨rfl, pm⟩ | pm
      all_goals
        clear h0 hgk hb hm hm' ho hu hq hmm hmm' ha ha' hb1 hb1'
        go_wp2_with fail
        refine (C1.out _ (Below.refl _ _)).mono ?_
        rintro e w2 ⟨x, rfl, hF, hb2⟩
        have HF := Lib.hid hF
        have HB2 := Lib.hid (HB.out.trans (hb2.mono HB.out.size))
        have HA2 := Lib.hid (HA1.out.below hb2)
        have HA2' := Lib.hid (HA1'.out.below hb2)
        have HO2 := Lib.hid (HO.out.below hb2)
        obtain ⟨xc, xy, xa⟩ := x
        clear hF hb2 C1 HA1 HA1' HO pm
        go_wp2_with fail
        obtain ⟨w3, hw3⟩ : ∃ w3, w3 = (w2.alloc (.cells #[.int .i64 xc, .int .i64 xy, .int .i64 xa] 81)).alloc (.cells #[.int .i64 xc, .int .i64 xy, .int .i64 0, .int .i64 0, .int .i64 0] 92) := ⟨_, rfl⟩
        rw [← hw3]
        have HK3 : Hid (Below w2.heap.size w2 w3) := Lib.hid (by rw [hw3]; exact ((Below.refl _ _).alloc (Nat.le_refl _) _).alloc (by simp) _)
        have FX : Hid (NR w2.heap.size xc xy xa 0 0 0 w3) := Lib.hid (by
          rw [hw3]
          exact ⟨by simp, fun j u hu => cell_keep (rec_lit w2 (be ⟨xc, xy, xa⟩) 81 w2.heap.size rfl j u hu) ((Below.refl _ _).alloc (Nat.le_refl _) _),
            fun j u hu => rec_lit (w2.alloc (.cells #[.int .i64 xc, .int .i64 xy, .int .i64 xa] 81)) (we ⟨xc, xy, 0, 0, 0⟩) 92 (w2.heap.size + 1) (by simp) j u hu,
            fun j => (by have := frz_lit (w2.alloc (.cells #[.int .i64 xc, .int .i64 xy, .int .i64 xa] 81)) (we ⟨xc, xy, 0, 0, 0⟩) 92 j; simp only [World.size_alloc] at this; exact this)⟩)
        have C2 := Lib.hid (ptake11 (HA2.out.below HK3.out) HB1.out ⟨xc, xy, xa⟩)
        clear hw3
        refine (C2.out).mono ?_
        rintro e w4 ⟨a, m1, o1, A2, c2, rfl, hT, hat, hcap, hb4⟩
        have HT := Lib.hid hT
        have TS := Lib.hid hat
        have HCAP := Lib.hid hcap
        have HK4 : Hid (Below w2.heap.size w2 w4) := Lib.hid (HK3.out.trans (hb4.mono HK3.out.size))
        have FX4 := Lib.hid (FX.out.keep hb4)
        obtain ⟨g0, g1, g2, g3, g4⟩ := FX4.out.r5
        have g5 := FX4.out.fz 2
        obtain ⟨y0, y1, y2⟩ := FX4.out.b3
        clear hT hat hcap hb4 C2 FX HK3 HA2
        go_wp2_with fail
        obtain ⟨w5, hw5⟩ : ∃ w5, w5 = w4.setCell ⟨w2.heap.size + 1, 2, none⟩ (.int .i64 a) := ⟨_, rfl⟩
        rw [← hw5]
        have HK5 : Hid (Below w2.heap.size w2 w5) := Lib.hid (by rw [hw5]; exact HK4.out.setCell (by simp) _)
        have FX5 : Hid (NR w2.heap.size xc xy xa a 0 0 w5) := Lib.hid (by
          rw [hw5]
          exact FX4.out.put 2 a a 0 0 (fun j hj => by rcases j with _ | _ | _ | j <;> first | rfl | (exact absurd rfl hj)) rfl)
        have C3 := Lib.hid (ptake11 (HA2'.out.below HK5.out) HB1'.out ⟨xc, xy, xa⟩)
        clear hw5 g0 g1 g2 g3 g4 g5 y0 y1 y2 FX4 HK4
        refine (C3.out).mono ?_
        rintro e w6 ⟨a', m1', o1', A2', c2', rfl, hT, hat, hcap, hb6⟩
        have HT' := Lib.hid hT
        have TS' := Lib.hid hat
        have HCAP' := Lib.hid hcap
        have HK6 : Hid (Below w2.heap.size w2 w6) := Lib.hid (HK5.out.trans (hb6.mono HK5.out.size))
        have RD := Lib.hid (HU.out.round IV.out IV'.out HM.out HM'.out (by rw [← HMM.out, ← HMM'.out]; exact HF.out) (by rw [← HMM.out]; exact HT.out) (by rw [← HMM'.out]; exact HT'.out))
        obtain ⟨D, hw⟩ : ∃ D, IntKind.i64.wrap (a' - a) = D := ⟨_, rfl⟩
        rw [hw] at RD
        have FX6 := Lib.hid (FX5.out.keep hb6)
        have FX7 := Lib.hid (FX6.out.put 4 a' a 0 a' (fun j hj => by rcases j with _ | _ | _ | _ | _ | j <;> first | rfl | (exact absurd rfl hj)) rfl)
        have FX8 := Lib.hid (FX7.out.put 3 D a D a' (fun j hj => by rcases j with _ | _ | _ | _ | j <;> first | rfl | (exact absurd rfl hj)) rfl)
        obtain ⟨g0, g1, g2, g3, g4⟩ := FX6.out.r5
        have g5 := FX6.out.fz 4
        have g6 := FX6.out.fz 3
        obtain ⟨w8, hw8⟩ : ∃ w8, w8 = (w6.setCell ⟨w2.heap.size + 1, 4, none⟩ (.int .i64 a')).setCell ⟨w2.heap.size + 1, 3, none⟩ (.int .i64 D) := ⟨_, rfl⟩
        have HK8 : Hid (Below w2.heap.size w2 w8) := Lib.hid (by rw [hw8]; exact (HK6.out.setCell (by simp) _).setCell (by simp) _)
        have HS8 : Hid (w8.heap.size = w6.heap.size) := Lib.hid (by rw [hw8]; simp)
        have HO8 := Lib.hid ((HO2.out.below HK8.out).alloc (.cells (we ⟨xc, xy, a, D, a'⟩).toArray 92))
        have HB8 := Lib.hid (HB2.out.trans (HK8.out.mono HB2.out.size))
        have HC8 := Lib.hid (rec_lit w8 (we ⟨xc, xy, a, D, a'⟩) 92 w6.heap.size HS8.out)
        have HQN : Hid (q ≤ 1000000) := Lib.hid (by have := HQ.out; have := HM.out.le; have := HM'.out.le; have := HN.out; have := HN'.out; omega)
        clear hT hat hcap hb6 C3 FX5 HK5 HA2' HF
        go_wp2_with (at_builtin; rw [← hw8]; (refine wpList_push_r rfl (.tmp 44) (.tmp 46) rfl wyrow_type hi hz0 hz1 hz2 (by decide) rfl (by decide) we_len we_one w w.heap.size q w6.heap.size _ f ⟨xc, xy, a, D, a'⟩ rfl rfl HC8.out HO8.out HQN.out (HB8.out.alloc HB8.out.size _) (by have := HB8.out.size; simp; omega) _ rfl ?_; intro b9 c9 w9 ho9 hb9 hg9 hat9; have HO9 := Lib.hid ho9; have HB9 := Lib.hid hb9; have HK9 := Lib.hid hg9; clear ho9 hb9 hg9 hat9))
        go_roundg (m1 + m1')
        case measure => have := RD.out.2.2.2.2.2.2.2; have := HGK.out; omega
        case rel =>
          obtain ⟨r1, r2, r3, r4, r5, _, _, r8⟩ := RD.out
          refine ⟨k + o1, k' + o1', q + 1, _, xc, xy + 1, A2, A2', c2, c2', by omega, by rw [r3], by rw [r4], ?_, ?_, by rw [r3]; exact HCAP.out, by rw [r4]; exact HCAP'.out, r1, r2, HO9.out, r5, ?_, HB9.out⟩
          · intro W hW
            have := TS.out W (by have z := HS.out W hW; rw [← HMM.out] at z; exact z)
            rw [r3]
            simpa only [Nat.add_assoc] using this
          · intro W hW
            have := TS'.out W (by have z := HS'.out W hW; rw [← HMM'.out] at z; exact z)
            rw [r4]
            simpa only [Nat.add_assoc] using this
          · have h1 := HQ.out
            by_cases e : o1 = 0 ∧ o1' = 0
            · exfalso
              rw [e.1, Nat.add_zero] at r3
              rw [e.2, Nat.add_zero] at r4
              omega
            · omega
/-- .. of registers -/
theorem pfwd {w : World} {A A' : Option Addr} {n c n' c' : Nat} {g g' : Nat → Bk} {S S' : Int → Int → Int} (h : AtR be 3 w A n g) (h' : AtR be 3 w A' n' g') (iv : BInv S n g) (iv' : BInv S' n' g') (hc : n ≤ c ∧ c ≤ maxLen) (hc' : n' ≤ c' ∧ c' ≤ maxLen) :
    Calls Try.prog 35 #[.slice A n c, .slice A' n' c'] w fun e w' => ∃ A2 q c2 f, e = .returned (.slice A2 q c2) ∧ OwnR we 5 w' 92 w.heap.size (.slice A2 q c2) q f ∧ FIs S S' q f ∧ Below w.heap.size w w' := by
  refine (pfwd_w h h' iv.is iv'.is (by have := iv.le; omega) (by have := iv'.le; omega) hc hc').mono ?_
  rintro e w' ⟨A2, q, c2, f, rfl, ho, hf, hb⟩
  exact ⟨A2, q, c2, f, rfl, ho, hf.fis iv.mon iv'.mon, hb⟩
set_option maxHeartbeats 4000000 in
/-- what moved -/
theorem pmvd {w : World} {A A' : Option Addr} {n c n' c' : Nat} {g g' : Nat → Bk} {S S' : Int → Int → Int} (h : AtR be 3 w A n g) (h' : AtR be 3 w A' n' g') (iv : BInv S n g) (iv' : BInv S' n' g') (hc : n ≤ c ∧ c ≤ maxLen) (hc' : n' ≤ c' ∧ c' ≤ maxLen) :
    Calls Try.prog 24 #[.slice A n c, .slice A' n' c'] w fun e w' => e = .returned (.int .i64 (btot g' n' - btot g n)) ∧ Below w.heap.size w w' := by
  have C1 := Lib.hid (pfwd h h' iv iv' hc hc')
  have MB : Hid (∀ q f, FIs S S' q f → ∀ k, k ≤ q → -200000000000000 ≤ tot (fun j => (f j).m) k ∧ tot (fun j => (f j).m) k ≤ 200000000000000) := Lib.hid fun q f hf k hk => by
    have h1 := tot_bd (fun j => (f j).o) k fun j hj => by rw [hf.op j (by omega)]; exact iv.mon _ _
    have h2 := tot_bd (fun j => (f j).k) k fun j hj => by rw [hf.cl j (by omega)]; exact iv'.mon _ _
    have e : tot (fun j => (f j).m) k = tot (fun j => (f j).k) k - tot (fun j => (f j).o) k := by
      rw [← tot_sub]
      exact tot_ext k fun j hj => hf.mv j (by omega)
    have := hf.le
    omega
  have ET : Hid (∀ q f, FIs S S' q f → tot (fun j => (f j).m) q = btot g' n' - btot g n) := Lib.hid fun q f hf => by rw [hf.moved, iv.is.grid, iv'.is.grid]
  clear h h' iv iv' hc hc'
  go_enter Try.func24, Try.ntmps24
  go_wp2_with fail
  refine (C1.out).mono ?_
  rintro e w1 ⟨A2, q, c2, f, rfl, ho, hf, hb⟩
  obtain ⟨_, _, e, _, _, _, hat⟩ := ho.at we_len
  injection e with e1 _ e3
  subst e1 e3
  have HA := Lib.hid hat
  have HF := Lib.hid hf
  have HB := Lib.hid hb
  have HQ := Lib.hid hf.le
  clear ho hf hb hat C1
  go_wp2
  go_loopg [5, 12] q (fun gh s5 s12 wr => ∃ k : Nat, k ≤ q ∧ gh = q - k ∧ s5 = .int .i64 (tot (fun j => (f j).m) k) ∧ s12 = .int .i64 k ∧ Below w1.heap.size w1 wr)
  case atStart => exact ⟨0, Nat.zero_le _, rfl, rfl, rfl, Below.refl _ _⟩
  case round =>
    obtain ⟨k, hk, hgk, rfl, rfl, hbw⟩ := hrel
    have HGK := Lib.hid hgk
    have HW := Lib.hid hbw
    clear hgk hbw
    by_cases hlt : k < q
    · obtain ⟨b, off, rfl, hb, c0, c1, c2, c3, c4⟩ := (HA.out.below HW.out).five hlt
      have hw : IntKind.i64.wrap (tot (fun j => (f j).m) k + (f k).m) = tot (fun j => (f j).m) k + (f k).m := IntWalk.i64_in _ (by
        have h1 := MB.out _ _ HF.out (k + 1) (by omega)
        rw [tot] at h1
        omega)
      have hw2 : IntKind.i64.wrap ((k : Int) + 1) = (k : Int) + 1 := IntWalk.i64_in _ (by have := HQ.out; omega)
      go_wp2
      go_roundg (q - (k + 1))
      case measure => have := HGK.out; omega
      case rel => exact ⟨k + 1, by omega, rfl, rfl, by go_num, HW.out.alloc HW.out.size _⟩
    · obtain rfl : k = q := by omega
      have HE := Lib.hid (ET.out _ _ HF.out)
      clear hlt
      go_wp2
      go_ret
      exact ⟨congrArg (fun x => Ending.returned (.int .i64 x)) HE.out, HB.out.trans (HW.out.mono HB.out.size)⟩
end Go.Proofs.Ytmlafdehhbhbiaa
