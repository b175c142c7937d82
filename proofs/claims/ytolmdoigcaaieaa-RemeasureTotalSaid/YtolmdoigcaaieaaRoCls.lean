/- One row a class: mathematics alone. -/
import Derived.Test.YtolmdoigcaaieaaRoMath
namespace Go.Proofs.Ytolmdoigcaaieaa

/-- the sum of something of the rows of a class -/
def cs (F : Wy → Int) (f : Nat → Wy) (c : Int) (n : Nat) : Int := tot (fun j => if (f j).c = c then F (f j) else 0) n
theorem cs_succ (F : Wy → Int) (f : Nat → Wy) (c : Int) (n : Nat) : cs F f c (n + 1) = cs F f c n + (if (f n).c = c then F (f n) else 0) := rfl
theorem cs_none {F : Wy → Int} {f : Nat → Wy} {c : Int} {n : Nat} (h : ∀ j, j < n → (f j).c ≠ c) : cs F f c n = 0 := tot_zero n fun j hj => if_neg (h j hj)
/-- one row for each class of the first q rows, rising, with their sums, and year -1 -/
structure CIs (q : Nat) (f : Nat → Wy) (m : Nat) (z : Nat → Wy) : Prop where
  asc : ∀ i j, i < j → j < m → (z i).c < (z j).c
  yr : ∀ j, j < m → (z j).y = -1
  so : ∀ j, j < m → (z j).o = cs (·.o) f (z j).c q
  sm : ∀ j, j < m → (z j).m = cs (·.m) f (z j).c q
  sk : ∀ j, j < m → (z j).k = cs (·.k) f (z j).c q
  has : ∀ j, j < m → ∃ i, i < q ∧ (f i).c = (z j).c
  all : ∀ i, i < q → ∃ j, j < m ∧ (z j).c = (f i).c
section
variable {q m m' k p : Nat} {f z z' : Nat → Wy}
theorem CIs.zero (f z : Nat → Wy) : CIs 0 f 0 z := ⟨fun i j _ hj => by omega, fun j hj => by omega, fun j hj => by omega, fun j hj => by omega, fun j hj => by omega, fun j hj => by omega, fun i hi => by omega⟩
theorem CIs.inj (h : CIs q f m z) {i j : Nat} (hi : i < m) (hj : j < m) (e : (z i).c = (z j).c) : i = j := by
  rcases Nat.lt_trichotomy i j with a | a | a
  · have := h.asc i j a hj; omega
  · exact a
  · have := h.asc j i a hi; omega
theorem cis_le (h : CIs q f m z) (h' : CIs q f m' z') : ∀ j, j < m → j < m' ∧ (z j).c = (z' j).c := by
  intro j
  induction j using Nat.strongRecOn with
  | _ j ih =>
    intro hj
    obtain ⟨i, hi, e⟩ := h.has j hj
    obtain ⟨k, hk, e'⟩ := h'.all i hi
    have ek : (z' k).c = (z j).c := e'.trans e
    have h1 : j ≤ k := by
      rcases Nat.lt_or_ge k j with a | a
      · obtain ⟨_, e2⟩ := ih k a (by omega)
        have := h.inj (by omega) hj (e2.trans ek)
        omega
      · exact a
    refine ⟨by omega, ?_⟩
    rcases Nat.lt_or_ge j k with a | a
    · exfalso
      obtain ⟨i2, hi2, e2⟩ := h'.has j (by omega)
      obtain ⟨k2, hk2, e3⟩ := h.all i2 hi2
      have lt := h'.asc j k a hk
      have ek2 : (z k2).c = (z' j).c := e3.trans e2
      rcases Nat.lt_trichotomy k2 j with b | b | b
      · obtain ⟨_, e4⟩ := ih k2 b hk2
        have := h'.inj (by omega) (by omega) (e4.symm.trans ek2)
        omega
      · rw [b] at ek2; omega
      · have := h.asc j k2 b hk2; omega
    · obtain rfl : j = k := by omega
      exact ek.symm
theorem CIs.uniq (h : CIs q f m z) (h' : CIs q f m' z') : m = m' ∧ ∀ j, j < m → z j = z' j := by
  have e : m = m' := by
    rcases Nat.lt_trichotomy m m' with a | a | a
    · have := (cis_le h' h m a).1; omega
    · exact a
    · have := (cis_le h h' m' a).1; omega
  subst e
  refine ⟨rfl, fun j hj => ?_⟩
  have ec := (cis_le h h' j hj).2
  have a1 := h.yr j hj; have a2 := h.so j hj; have a3 := h.sm j hj; have a4 := h.sk j hj
  have b1 := h'.yr j hj; have b2 := h'.so j hj; have b3 := h'.sm j hj; have b4 := h'.sk j hj
  rw [ec] at a2 a3 a4
  have c1 := a1.trans b1.symm; have c2 := a2.trans b2.symm; have c3 := a3.trans b3.symm; have c4 := a4.trans b4.symm
  cases hz : z j; cases hz' : z' j
  simp only [hz, hz'] at ec c1 c2 c3 c4
  subst ec c1 c2 c3 c4; rfl
/-- a row put in place of another, or behind the last -/
def updW (z : Nat → Wy) (p : Nat) (x : Wy) : Nat → Wy := fun j => if j = p then x else z j
theorem updW_at (z : Nat → Wy) (p : Nat) (x : Wy) : updW z p x p = x := if_pos rfl
theorem updW_ne (z : Nat → Wy) {p j : Nat} (x : Wy) (h : j ≠ p) : updW z p x j = z j := if_neg h
/-- a row of the last class -/
theorem CIs.add (h : CIs k f (p + 1) z) (hc : (z p).c = (f k).c) : CIs (k + 1) f (p + 1) (updW z p ⟨(z p).c, (z p).y, (z p).o + (f k).o, (z p).m + (f k).m, (z p).k + (f k).k⟩) := by
  obtain ⟨x, hx⟩ : ∃ x : Wy, x = ⟨(z p).c, (z p).y, (z p).o + (f k).o, (z p).m + (f k).m, (z p).k + (f k).k⟩ := ⟨_, rfl⟩
  rw [← hx]
  have hzc : ∀ j, (updW z p x j).c = (z j).c := fun j => by
    by_cases e : j = p
    · rw [e, updW_at, hx]
    · rw [updW_ne z x e]
  have other : ∀ (F : Wy → Int) j, j < p + 1 → j ≠ p → cs F f (z j).c (k + 1) = cs F f (z j).c k := fun F j hj hne => by
    rw [cs_succ, if_neg (fun e => hne (h.inj hj (by omega) (e.symm.trans hc.symm))), Int.add_zero]
  have last : ∀ (F : Wy → Int), cs F f (z p).c (k + 1) = cs F f (z p).c k + F (f k) := fun F => by rw [cs_succ, if_pos hc.symm]
  refine ⟨fun i j hi hj => by rw [hzc, hzc]; exact h.asc i j hi hj, fun j hj => ?_, fun j hj => ?_, fun j hj => ?_, fun j hj => ?_, fun j hj => ?_, fun i hi => ?_⟩
  · by_cases e : j = p
    · rw [e, updW_at, hx]; exact h.yr p (by omega)
    · rw [updW_ne z x e]; exact h.yr j hj
  · rw [hzc]
    by_cases e : j = p
    · rw [e, updW_at, last, hx, ← h.so p (by omega)]
    · rw [updW_ne z x e, other _ j hj e]; exact h.so j hj
  · rw [hzc]
    by_cases e : j = p
    · rw [e, updW_at, last, hx, ← h.sm p (by omega)]
    · rw [updW_ne z x e, other _ j hj e]; exact h.sm j hj
  · rw [hzc]
    by_cases e : j = p
    · rw [e, updW_at, last, hx, ← h.sk p (by omega)]
    · rw [updW_ne z x e, other _ j hj e]; exact h.sk j hj
  · rw [hzc]
    obtain ⟨i, hi, e⟩ := h.has j hj
    exact ⟨i, by omega, e⟩
  · by_cases e : i = k
    · exact ⟨p, by omega, by rw [hzc, e]; exact hc⟩
    · obtain ⟨j, hj, e2⟩ := h.all i (by omega)
      exact ⟨j, hj, by rw [hzc]; exact e2⟩
/-- a row of a new class, behind the others -/
theorem CIs.push (h : CIs k f p z) (hlt : ∀ j, j < p → (z j).c < (f k).c) : CIs (k + 1) f (p + 1) (updW z p ⟨(f k).c, -1, (f k).o, (f k).m, (f k).k⟩) := by
  have none : ∀ i, i < k → (f i).c ≠ (f k).c := fun i hi e => by
    obtain ⟨j, hj, e2⟩ := h.all i hi
    have := hlt j hj
    omega
  have other : ∀ (F : Wy → Int) j, j < p → cs F f (z j).c (k + 1) = cs F f (z j).c k := fun F j hj => by
    rw [cs_succ, if_neg (fun e => by have := hlt j hj; omega), Int.add_zero]
  have new : ∀ (F : Wy → Int), cs F f (f k).c (k + 1) = F (f k) := fun F => by rw [cs_succ, if_pos rfl, cs_none none, Int.zero_add]
  refine ⟨fun i j hi hj => ?_, fun j hj => ?_, fun j hj => ?_, fun j hj => ?_, fun j hj => ?_, fun j hj => ?_, fun i hi => ?_⟩
  · rw [updW_ne z _ (show i ≠ p by omega)]
    by_cases e : j = p
    · rw [e, updW_at]; exact hlt i (by omega)
    · rw [updW_ne z _ e]; exact h.asc i j hi (by omega)
  · by_cases e : j = p
    · rw [e, updW_at]
    · rw [updW_ne z _ e]; exact h.yr j (by omega)
  · by_cases e : j = p
    · rw [e, updW_at]; exact (new (·.o)).symm
    · rw [updW_ne z _ e, other _ j (by omega)]; exact h.so j (by omega)
  · by_cases e : j = p
    · rw [e, updW_at]; exact (new (·.m)).symm
    · rw [updW_ne z _ e, other _ j (by omega)]; exact h.sm j (by omega)
  · by_cases e : j = p
    · rw [e, updW_at]; exact (new (·.k)).symm
    · rw [updW_ne z _ e, other _ j (by omega)]; exact h.sk j (by omega)
  · by_cases e : j = p
    · rw [e, updW_at]; exact ⟨k, by omega, rfl⟩
    · rw [updW_ne z _ e]
      obtain ⟨i, hi, e2⟩ := h.has j (by omega)
      exact ⟨i, by omega, e2⟩
  · by_cases e : i = k
    · exact ⟨p, by omega, by rw [updW_at, e]⟩
    · obtain ⟨j, hj, e2⟩ := h.all i (by omega)
      exact ⟨j, by omega, by rw [updW_ne z _ (by omega)]; exact e2⟩
/-- small numbers make small sums -/
theorem cs_bd {F : Wy → Int} {B c : Int} : ∀ n, (∀ j, j < n → -B ≤ F (f j) ∧ F (f j) ≤ B) → 0 ≤ B → -B * (n : Int) ≤ cs F f c n ∧ cs F f c n ≤ B * (n : Int)
  | 0, _, _ => by simp [cs, tot]
  | n + 1, h, hB => by
    have a := cs_bd (c := c) n (fun j hj => h j (by omega)) hB
    have b := h n (by omega)
    have e1 : -B * ((n + 1 : Nat) : Int) = -B * (n : Int) - B := by rw [show ((n + 1 : Nat) : Int) = (n : Int) + 1 by omega, Int.mul_add]; omega
    have e2 : B * ((n + 1 : Nat) : Int) = B * (n : Int) + B := by rw [show ((n + 1 : Nat) : Int) = (n : Int) + 1 by omega, Int.mul_add]; omega
    rw [cs_succ, e1, e2]
    split <;> omega
end
end Go.Proofs.Ytolmdoigcaaieaa
