/- Buckets: rows of what is not 0, ascending, of a function of class and year; one of them set: mathematics alone. -/
import Derived.Test.YtdchihhekmbeiaaM1
namespace Go.Proofs.Ytdchihhekmbeiaa

/-- a bucket -/
structure Bk where
  c : Int
  y : Int
  a : Int
/-- one place comes ahead of another -/
def Bl (c y c' y' : Int) : Prop := c < c' ∨ (c = c' ∧ y < y')
/-- a place that may be -/
def BOk (c y : Int) : Prop := 1 ≤ c ∧ c ≤ 9 ∧ 0 ≤ y ∧ y ≤ 99
/-- rows of buckets: none of them 0, ascending -/
structure BRow (n : Nat) (g : Nat → Bk) : Prop where
  ok : ∀ j, j < n → BOk (g j).c (g j).y
  nz : ∀ j, j < n → (g j).a ≠ 0
  asc : ∀ i j, i < j → j < n → Bl (g i).c (g i).y (g j).c (g j).y
/-- what a place has -/
def bval (x : Bk) (c y : Int) : Int := if x.c = c ∧ x.y = y then x.a else 0
def bget (g : Nat → Bk) (n : Nat) (c y : Int) : Int := tot (fun j => bval (g j) c y) n
def btot (g : Nat → Bk) (n : Nat) : Int := tot (fun j => (g j).a) n
/-- the rows are those of S -/
def BIs (S : Int → Int → Int) (n : Nat) (g : Nat → Bk) : Prop := BRow n g ∧ ∀ c y, bget g n c y = S c y
/-- another S -/
def upS (S : Int → Int → Int) (c y v : Int) : Int → Int → Int := fun c' y' => if c' = c ∧ y' = y then v else S c' y'
theorem upS_at (S : Int → Int → Int) (c y v : Int) : upS S c y v c y = v := if_pos ⟨rfl, rfl⟩
theorem upS_same (S : Int → Int → Int) (c y : Int) : upS S c y (S c y) = S := by
  funext c' y'
  unfold upS
  split
  · rename_i h; rw [h.1, h.2]
  · rfl
theorem tot_one (f : Nat → Int) (i : Nat) : ∀ n, i < n → (∀ j, j < n → j ≠ i → f j = 0) → tot f n = f i
  | n + 1, hi, h => by
    rw [tot]
    by_cases e : i = n
    · subst e
      rw [tot_zero i fun j hj => h j (by omega) (by omega)]; omega
    · rw [tot_one f i n (by omega) fun j hj => h j (by omega), h n (by omega) (by omega)]; omega
/-- one number more, in the midst -/
theorem tot_ins (f : Nat → Int) (p : Nat) (x : Int) : ∀ n, p ≤ n → tot (fun j => if j < p then f j else if j = p then x else f (j - 1)) (n + 1) = tot f n + x := by
  intro n
  induction n with
  | zero =>
    intro h
    obtain rfl : p = 0 := by omega
    simp [tot]
  | succ n ih =>
    intro h
    rw [tot]
    by_cases e : p = n + 1
    · subst e
      rw [if_neg (by omega), if_pos rfl, tot_ext (h := f) (n + 1) fun j hj => if_pos hj]
    · rw [ih (by omega), if_neg (by omega), if_neg (by omega), Nat.add_sub_cancel, tot]; omega
/-- one number less -/
theorem tot_del (f : Nat → Int) (p : Nat) : ∀ n, p ≤ n → tot (fun j => if j < p then f j else f (j + 1)) n + f p = tot f (n + 1) := by
  intro n
  induction n with
  | zero =>
    intro h
    obtain rfl : p = 0 := by omega
    simp [tot]
  | succ n ih =>
    intro h
    rw [tot, tot]
    by_cases e : p = n + 1
    · subst e
      rw [if_pos (by omega), tot_ext (h := f) n fun j hj => if_pos (by omega), tot]
    · have := ih (by omega)
      rw [if_neg (by omega)]; omega
section
variable {S : Int → Int → Int} {n m p : Nat} {g h : Nat → Bk} {c y v : Int}
theorem bl_irr (c y : Int) : ¬ Bl c y c y := by unfold Bl; omega
/-- no two rows are of one place -/
theorem BRow.inj (r : BRow n g) {i j : Nat} (hi : i < n) (hj : j < n) (h1 : (g i).c = (g j).c) (h2 : (g i).y = (g j).y) : i = j := by
  rcases Nat.lt_trichotomy i j with q | q | q
  · have := r.asc i j q hj; rw [h1, h2] at this; exact absurd this (bl_irr _ _)
  · exact q
  · have := r.asc j i q hi; rw [h1, h2] at this; exact absurd this (bl_irr _ _)
theorem bget_at (r : BRow n g) {i : Nat} (hi : i < n) : bget g n (g i).c (g i).y = (g i).a := by
  unfold bget
  rw [tot_one _ i n hi fun j hj hne => ?_]
  · exact if_pos ⟨rfl, rfl⟩
  · exact if_neg fun e => hne (r.inj hj hi e.1 e.2)
theorem bget_none (h : ∀ j, j < n → ¬ ((g j).c = c ∧ (g j).y = y)) : bget g n c y = 0 := tot_zero n fun j hj => if_neg (h j hj)
theorem bget_some (h : bget g n c y ≠ 0) : ∃ j, j < n ∧ (g j).c = c ∧ (g j).y = y :=
  Classical.byContradiction fun q => h (bget_none fun j hj e => q ⟨j, hj, e⟩)
theorem BIs.at (b : BIs S n g) {i : Nat} (hi : i < n) : S (g i).c (g i).y = (g i).a := (b.2 _ _).symm.trans (bget_at b.1 hi)
theorem BIs.has (b : BIs S n g) (h : S c y ≠ 0) : ∃ j, j < n ∧ (g j).c = c ∧ (g j).y = y := bget_some (by rw [b.2]; exact h)
theorem BIs.out (b : BIs S n g) (h : ¬ BOk c y) : S c y = 0 := by
  refine Classical.byContradiction fun q => ?_
  obtain ⟨j, hj, e1, e2⟩ := b.has q
  have := b.1.ok j hj
  rw [e1, e2] at this
  exact h this
theorem bis_zero (g : Nat → Bk) : BIs (fun _ _ => 0) 0 g := ⟨⟨fun j hj => by omega, fun j hj => by omega, fun i j _ hj => by omega⟩, fun _ _ => rfl⟩
/-- the rows of S are told by S -/
theorem bis_le (b : BIs S n g) (b' : BIs S m h) : ∀ j, j < n → j < m ∧ g j = h j := by
  intro j
  induction j using Nat.strongRecOn with
  | _ j ih =>
    intro hj
    have same : ∀ i k, i < n → k < m → (g i).c = (h k).c → (g i).y = (h k).y → (g i).a = (h k).a := fun i k hi hk e1 e2 => by
      rw [← b.at hi, ← b'.at hk, e1, e2]
    obtain ⟨k, hk, e1, e2⟩ := b'.has (c := (g j).c) (y := (g j).y) (by rw [b.at hj]; exact b.1.nz j hj)
    have hjk : j ≤ k := by
      rcases Nat.lt_or_ge k j with q | q
      · obtain ⟨_, e⟩ := ih k q (by omega)
        have := b.1.inj (i := k) (j := j) (by omega) hj (by rw [e]; exact e1) (by rw [e]; exact e2)
        omega
      · exact q
    refine ⟨by omega, ?_⟩
    rcases Nat.lt_or_ge j k with q | q
    · exfalso
      have lt := b'.1.asc j k q hk
      rw [e1, e2] at lt
      obtain ⟨i, hi, f1, f2⟩ := b.has (c := (h j).c) (y := (h j).y) (by rw [b'.at (show j < m by omega)]; exact b'.1.nz j (by omega))
      rcases Nat.lt_trichotomy i j with z | z | z
      · obtain ⟨_, e⟩ := ih i z hi
        have := b'.1.inj (i := i) (j := j) (by omega) (by omega) (by rw [← e]; exact f1) (by rw [← e]; exact f2)
        omega
      · subst z
        rw [f1, f2] at lt
        exact bl_irr _ _ lt
      · have l2 := b.1.asc j i z hi
        rw [f1, f2] at l2
        unfold Bl at lt l2; omega
    · obtain rfl : j = k := by omega
      have e3 := same j j hj hk e1.symm e2.symm
      cases hg : g j; cases hh : h j
      simp only [hg, hh] at e1 e2 e3
      subst e1 e2 e3; rfl
theorem BIs.uniq (b : BIs S n g) (b' : BIs S m h) : n = m ∧ ∀ j, j < n → g j = h j := by
  refine ⟨?_, fun j hj => (bis_le b b' j hj).2⟩
  rcases Nat.lt_trichotomy n m with q | q | q
  · have := (bis_le b' b n q).1; omega
  · exact q
  · have := (bis_le b b' m q).1; omega
theorem BIs.total (b : BIs S n g) (b' : BIs S m h) : btot g n = btot h m := by
  obtain ⟨rfl, e⟩ := b.uniq b'
  exact tot_ext n fun j hj => by show (g j).a = (h j).a; rw [e j hj]
/-- where a place belongs -/
theorem place (r : BRow n g) (c y : Int) : ∃ p, p ≤ n ∧ (∀ j, j < p → Bl (g j).c (g j).y c y) ∧ ∀ j, p ≤ j → j < n → ((g j).c = c ∧ (g j).y = y) ∨ Bl c y (g j).c (g j).y := by
  induction n with
  | zero => exact ⟨0, by omega, fun j hj => by omega, fun j _ hj => by omega⟩
  | succ n ih =>
    obtain ⟨p, h1, h2, h3⟩ := ih ⟨fun j hj => r.ok j (by omega), fun j hj => r.nz j (by omega), fun i j hi hj => r.asc i j hi (by omega)⟩
    by_cases q : p < n
    · refine ⟨p, by omega, h2, fun j hp hj => ?_⟩
      by_cases e : j = n
      · subst e
        have := r.asc p j q hj
        rcases h3 p (Nat.le_refl _) q with ⟨rfl, rfl⟩ | z
        · exact .inr this
        · right; unfold Bl at *; omega
      · exact h3 j hp (by omega)
    · obtain rfl : p = n := by omega
      by_cases z : Bl (g p).c (g p).y c y
      · refine ⟨p + 1, Nat.le_refl _, fun j hj => ?_, fun j hp hj => by omega⟩
        by_cases e : j = p
        · rw [e]; exact z
        · exact h2 j (by omega)
      · refine ⟨p, by omega, h2, fun j hp hj => ?_⟩
        obtain rfl : j = p := by omega
        unfold Bl at *; omega
/-- an amount put in place of another -/
def repB (g : Nat → Bk) (p : Nat) (x : Bk) : Nat → Bk := fun j => if j = p then x else g j
/-- a row struck out -/
def delB (g : Nat → Bk) (p : Nat) : Nat → Bk := fun j => if j < p then g j else g (j + 1)
/-- a row put in -/
def insB (g : Nat → Bk) (p : Nat) (x : Bk) : Nat → Bk := fun j => if j < p then g j else if j = p then x else g (j - 1)
theorem tot_rep (f : Nat → Int) (p : Nat) (x : Int) : ∀ n, p < n → tot (fun j => if j = p then x else f j) n = tot f n - f p + x := fun n hp => tot_upd f p x n hp
theorem bis_rep (b : BIs S n g) (hp : p < n) (hv : v ≠ 0) : BIs (upS S (g p).c (g p).y v) n (repB g p ⟨(g p).c, (g p).y, v⟩) ∧ btot (repB g p ⟨(g p).c, (g p).y, v⟩) n = btot g n - (g p).a + v := by
  have hc : ∀ j, (repB g p ⟨(g p).c, (g p).y, v⟩ j).c = (g j).c ∧ (repB g p ⟨(g p).c, (g p).y, v⟩ j).y = (g j).y := fun j => by
    unfold repB
    split
    · rename_i e; subst e; exact ⟨rfl, rfl⟩
    · exact ⟨rfl, rfl⟩
  refine ⟨⟨⟨fun j hj => ?_, fun j hj => ?_, fun i j hi hj => ?_⟩, fun c y => ?_⟩, ?_⟩
  · rw [(hc j).1, (hc j).2]; exact b.1.ok j hj
  · unfold repB
    split
    · exact hv
    · exact b.1.nz j hj
  · rw [(hc i).1, (hc i).2, (hc j).1, (hc j).2]; exact b.1.asc i j hi hj
  · have e : bget (repB g p ⟨(g p).c, (g p).y, v⟩) n c y = bget g n c y - bval (g p) c y + bval ⟨(g p).c, (g p).y, v⟩ c y := by
      unfold bget
      rw [← tot_rep (fun j => bval (g j) c y) p _ n hp]
      refine tot_ext n fun j _ => ?_
      unfold repB
      split <;> rfl
    rw [e, b.2]
    unfold upS bval
    by_cases q : (g p).c = c ∧ (g p).y = y
    · have q' : c = (g p).c ∧ y = (g p).y := ⟨q.1.symm, q.2.symm⟩
      rw [if_pos q, if_pos q, if_pos q', ← b.at hp, q.1, q.2]; dsimp only; omega
    · have q' : ¬ (c = (g p).c ∧ y = (g p).y) := fun z => q ⟨z.1.symm, z.2.symm⟩
      rw [if_neg q, if_neg q, if_neg q']; omega
  · unfold btot
    rw [← tot_rep (fun j => (g j).a) p v n hp]
    refine tot_ext n fun j _ => ?_
    unfold repB
    split <;> rfl
theorem bis_del (b : BIs S (n + 1) g) (hp : p < n + 1) : BIs (upS S (g p).c (g p).y 0) n (delB g p) ∧ btot (delB g p) n = btot g (n + 1) - (g p).a := by
  have hd : ∀ j, j < n → delB g p j = g (if j < p then j else j + 1) := fun j _ => by
    unfold delB
    split <;> rfl
  have hlt : ∀ j, j < n → (if j < p then j else j + 1) < n + 1 := fun j hj => by split <;> omega
  refine ⟨⟨⟨fun j hj => ?_, fun j hj => ?_, fun i j hi hj => ?_⟩, fun c y => ?_⟩, ?_⟩
  · rw [hd j hj]; exact b.1.ok _ (hlt j hj)
  · rw [hd j hj]; exact b.1.nz _ (hlt j hj)
  · rw [hd i (by omega), hd j hj]
    exact b.1.asc _ _ (by split <;> split <;> omega) (hlt j hj)
  · have e := tot_del (fun j => bval (g j) c y) p n (by omega)
    have e' : bget (delB g p) n c y = tot (fun j => if j < p then bval (g j) c y else bval (g (j + 1)) c y) n := by
      unfold bget
      refine tot_ext n fun j _ => ?_
      unfold delB
      split <;> rfl
    have e2 := b.2 c y
    unfold bget at e2
    rw [e']
    unfold upS
    by_cases q : (g p).c = c ∧ (g p).y = y
    · have q' : c = (g p).c ∧ y = (g p).y := ⟨q.1.symm, q.2.symm⟩
      have z : bval (g p) c y = (g p).a := if_pos q
      have za := b.at hp
      rw [q.1, q.2] at za
      rw [if_pos q']
      simp only [z] at e; omega
    · have q' : ¬ (c = (g p).c ∧ y = (g p).y) := fun z => q ⟨z.1.symm, z.2.symm⟩
      have z : bval (g p) c y = 0 := if_neg q
      rw [if_neg q']
      simp only [z] at e; omega
  · have e := tot_del (fun j => (g j).a) p n (by omega)
    have e' : btot (delB g p) n = tot (fun j => if j < p then (g j).a else (g (j + 1)).a) n := by
      unfold btot
      refine tot_ext n fun j _ => ?_
      unfold delB
      split <;> rfl
    rw [e']
    unfold btot
    omega
theorem bis_ins (b : BIs S n g) (hp : p ≤ n) (hok : BOk c y) (hv : v ≠ 0) (h1 : ∀ j, j < p → Bl (g j).c (g j).y c y) (h2 : ∀ j, p ≤ j → j < n → Bl c y (g j).c (g j).y) :
    BIs (upS S c y v) (n + 1) (insB g p ⟨c, y, v⟩) ∧ btot (insB g p ⟨c, y, v⟩) (n + 1) = btot g n + v ∧ S c y = 0 := by
  have hS : S c y = 0 := by
    rw [← b.2]
    refine bget_none fun j hj e => ?_
    by_cases q : j < p
    · have := h1 j q; rw [e.1, e.2] at this; exact bl_irr _ _ this
    · have := h2 j (by omega) hj; rw [e.1, e.2] at this; exact bl_irr _ _ this
  refine ⟨⟨⟨fun j hj => ?_, fun j hj => ?_, fun i j hi hj => ?_⟩, fun c' y' => ?_⟩, ?_, hS⟩
  · unfold insB
    split
    · exact b.1.ok j (by omega)
    · split
      · exact hok
      · exact b.1.ok _ (by omega)
  · unfold insB
    split
    · exact b.1.nz j (by omega)
    · split
      · exact hv
      · exact b.1.nz _ (by omega)
  · unfold insB
    by_cases q1 : i < p
    · rw [if_pos q1]
      by_cases q2 : j < p
      · rw [if_pos q2]; exact b.1.asc i j hi (by omega)
      · rw [if_neg q2]
        by_cases q3 : j = p
        · rw [if_pos q3]; exact h1 i q1
        · rw [if_neg q3]; exact b.1.asc i (j - 1) (by omega) (by omega)
    · rw [if_neg q1, if_neg (show ¬ j < p by omega), if_neg (show ¬ j = p by omega)]
      by_cases q3 : i = p
      · rw [if_pos q3]; exact h2 (j - 1) (by omega) (by omega)
      · rw [if_neg q3]; exact b.1.asc (i - 1) (j - 1) (by omega) (by omega)
  · have e := tot_ins (fun j => bval (g j) c' y') p (bval ⟨c, y, v⟩ c' y') n hp
    have e' : bget (insB g p ⟨c, y, v⟩) (n + 1) c' y' = tot (fun j => if j < p then bval (g j) c' y' else if j = p then bval ⟨c, y, v⟩ c' y' else bval (g (j - 1)) c' y') (n + 1) := by
      unfold bget
      refine tot_ext (n + 1) fun j _ => ?_
      unfold insB
      split
      · rfl
      · split <;> rfl
    have e2 := b.2 c' y'
    unfold bget at e2
    rw [e', e, e2]
    unfold upS bval
    by_cases q : c' = c ∧ y' = y
    · rw [if_pos q, if_pos ⟨q.1.symm, q.2.symm⟩, q.1, q.2, hS]; dsimp only; omega
    · rw [if_neg q, if_neg fun z => q ⟨z.1.symm, z.2.symm⟩]; omega
  · unfold btot
    rw [← tot_ins (fun j => (g j).a) p v n hp]
    refine tot_ext (n + 1) fun j _ => ?_
    unfold insB
    split
    · rfl
    · split <;> rfl
/-- a bucket is set: there are such rows -/
theorem bis_set (b : BIs S n g) (hok : BOk c y) (v : Int) : ∃ m h, BIs (upS S c y v) m h ∧ btot h m = btot g n - S c y + v ∧ (m : Int) = n - (if S c y = 0 then 0 else 1) + (if v = 0 then 0 else 1) := by
  by_cases q : S c y = 0
  · by_cases hv : v = 0
    · subst hv
      have e := upS_same S c y
      rw [q] at e
      exact ⟨n, g, by rw [e]; exact b, by omega, by rw [if_pos q, if_pos rfl]; omega⟩
    · obtain ⟨p, h1, h2, h3⟩ := place b.1 c y
      obtain ⟨k1, k2, _⟩ := bis_ins b h1 hok hv h2 fun j hp hj => (h3 j hp hj).resolve_left fun e => by
        have := b.at hj
        rw [e.1, e.2, q] at this
        exact b.1.nz j hj this.symm
      exact ⟨n + 1, _, k1, by omega, by rw [if_pos q, if_neg hv]; omega⟩
  · obtain ⟨p, hp, rfl, rfl⟩ := b.has q
    have ha := b.at hp
    by_cases hv : v = 0
    · subst hv
      obtain ⟨n', rfl⟩ : ∃ n', n = n' + 1 := ⟨n - 1, by omega⟩
      obtain ⟨k1, k2⟩ := bis_del b hp
      exact ⟨n', _, k1, by omega, by rw [if_neg q, if_pos rfl]; omega⟩
    · obtain ⟨k1, k2⟩ := bis_rep b hp hv
      exact ⟨n, _, k1, by omega, by rw [if_neg q, if_neg hv]; omega⟩
end
end Go.Proofs.Ytdchihhekmbeiaa
