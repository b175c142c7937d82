/- Two lists of buckets, walked side by side: what of each is behind the place that was reached; rows in any order make the same classes: mathematics alone. -/
import Derived.Test.YtolmdoigcaaieaaRoFwd
import Derived.Test.YtolmdoigcaaieaaBkCmp
namespace Go.Proofs.Ytolmdoigcaaieaa

/-- k rows are behind a place, the others are not -/
structure Mg (n : Nat) (g : Nat → Bk) (k : Nat) (c y : Int) : Prop where
  le : k ≤ n
  lo : ∀ j, j < k → Bl (g j).c (g j).y c y
  hi : ∀ j, k ≤ j → j < n → ¬ Bl (g j).c (g j).y c y
/-- what is taken of a list for a bucket -/
def Taken (n : Nat) (g : Nat → Bk) (x : Bk) (a : Int) (m o : Nat) : Prop := (0 < n ∧ bkc (g 0) x = 0 ∧ a = (g 0).a ∧ m + 1 = n ∧ o = 1) ∨ (¬ (0 < n ∧ bkc (g 0) x = 0) ∧ a = 0 ∧ m = n ∧ o = 0)
/-- the bucket that comes first -/
def Fst (n : Nat) (g : Nat → Bk) (n' : Nat) (g' : Nat → Bk) (x : Bk) : Prop := (0 < n ∧ x = g 0 ∧ (0 < n' → Bl (g 0).c (g 0).y (g' 0).c (g' 0).y)) ∨ (0 < n' ∧ x = g' 0 ∧ (0 < n → ¬ Bl (g 0).c (g 0).y (g' 0).c (g' 0).y))
section
variable {S S' : Int → Int → Int} {n n' k k' q m m' o o' : Nat} {g g' : Nat → Bk} {f : Nat → Wy} {c y a a' : Int} {x : Bk}
theorem Mg.start (b : BRow n g) : Mg n g 0 1 0 := ⟨Nat.zero_le _, fun j hj => by omega, fun j _ hj => by have := b.ok j hj; unfold BOk Bl at *; omega⟩
theorem Fst.ge (h : Fst n g n' g' x) : (0 < n → ¬ Bl (g 0).c (g 0).y x.c x.y) ∧ (0 < n' → ¬ Bl (g' 0).c (g' 0).y x.c x.y) := by
  rcases h with ⟨h1, rfl, h2⟩ | ⟨h1, rfl, h2⟩
  · exact ⟨fun _ => by unfold Bl; omega, fun h => by have := h2 h; unfold Bl at *; omega⟩
  · exact ⟨fun h => by have := h2 h; unfold Bl at *; omega, fun _ => by unfold Bl; omega⟩
/-- nothing lies between -/
theorem Mg.none (h : Mg n g k c y) (b : BIs S n g) (hx : 0 < n - k → ¬ Bl (g (k + 0)).c (g (k + 0)).y x.c x.y) {c' y' : Int} (h1 : ¬ Bl c' y' c y) (h2 : Bl c' y' x.c x.y) : S c' y' = 0 := by
  refine Classical.byContradiction fun z => ?_
  obtain ⟨j, hj, e1, e2⟩ := b.has z
  subst e1 e2
  by_cases hk : j < k
  · exact h1 (h.lo j hk)
  · have a := hx (by omega)
    rw [Nat.add_zero] at a
    by_cases e : j = k
    · subst e; exact a h2
    · have := b.1.asc k j (by omega) hj
      unfold Bl at *; omega
/-- a place further on -/
theorem Mg.step (h : Mg n g k c y) (b : BIs S n g) (hx : 0 < n - k → ¬ Bl (g (k + 0)).c (g (k + 0)).y x.c x.y) (hc : ¬ Bl x.c x.y c y) (t : Taken (n - k) (fun j => g (k + j)) x a m o) :
    Mg n g (k + o) x.c (x.y + 1) ∧ S x.c x.y = a ∧ n - (k + o) = m := by
  rcases t with ⟨h0, he, ha, hm, ho⟩ | ⟨h0, ha, hm, ho⟩
  · subst ho
    dsimp only at he ha
    rw [Nat.add_zero] at he ha
    obtain ⟨e1, e2⟩ := bkc_zero.1 he
    refine ⟨⟨by omega, fun j hj => ?_, fun j h1 h2 => ?_⟩, ?_, by omega⟩
    · by_cases e : j = k
      · subst e; rw [e1, e2]; unfold Bl; omega
      · have := h.lo j (by omega)
        unfold Bl at *; omega
    · have := b.1.asc k j (by omega) h2
      rw [e1, e2] at this
      unfold Bl at *; omega
    · rw [← e1, ← e2, b.at (by omega), ha]
  · subst ho hm ha
    have key : ∀ j, k ≤ j → j < n → Bl x.c x.y (g j).c (g j).y := fun j h1 h2 => by
      have a1 := hx (by omega)
      have a2 : ¬ ((g k).c = x.c ∧ (g k).y = x.y) := fun e => h0 ⟨by omega, bkc_zero.2 (show (g (k + 0)).c = x.c ∧ (g (k + 0)).y = x.y by rw [Nat.add_zero]; exact e)⟩
      rw [Nat.add_zero] at a1
      by_cases e : j = k
      · subst e; unfold Bl at *; omega
      · have := b.1.asc k j (by omega) h2
        unfold Bl at *; omega
    refine ⟨⟨h.le, fun j hj => ?_, fun j h1 h2 => ?_⟩, ?_, rfl⟩
    · have := h.lo j hj
      unfold Bl at *; omega
    · have := key j h1 h2
      unfold Bl at *; omega
    · refine Classical.byContradiction fun z => ?_
      obtain ⟨j, hj, e1, e2⟩ := b.has z
      by_cases hk : j < k
      · have := h.lo j hk
        rw [e1, e2] at this
        exact hc this
      · have := key j (by omega) hj
        rw [e1, e2] at this
        unfold Bl at this; omega
theorem FUp.jump (h : FUp S S' c y q f) (hle : ¬ Bl x.c x.y c y) (hz : ∀ c' y', ¬ Bl c' y' c y → Bl c' y' x.c x.y → S c' y' = 0 ∧ S' c' y' = 0) : FUp S S' x.c x.y q f := h.of (by
  funext c' y'
  unfold upto
  by_cases e : c' < c ∨ (c' = c ∧ y' < y)
  · rw [if_pos e, if_pos (by unfold Bl at hle; omega)]
  · rw [if_neg e]
    split
    · rename_i e2
      exact (if_pos (hz c' y' e e2)).symm
    · rfl)
theorem FUp.fin (h : FUp S S' c y q f) (b : BIs S n g) (b' : BIs S' n' g') (hm : Mg n g n c y) (hm' : Mg n' g' n' c y) : FIw S S' q f := by
  have e : upto S S' c y = both S S' := by
    funext c' y'
    unfold upto
    split
    · rfl
    · rename_i e
      refine (if_pos ⟨?_, ?_⟩).symm
      · refine Classical.byContradiction fun z => ?_
        obtain ⟨j, hj, e1, e2⟩ := b.has z
        exact e (e1 ▸ e2 ▸ hm.lo j hj)
      · refine Classical.byContradiction fun z => ?_
        obtain ⟨j, hj, e1, e2⟩ := b'.has z
        exact e (e1 ▸ e2 ▸ hm'.lo j hj)
  exact ⟨e ▸ h.pl, h.op, h.cl, h.mv⟩
/-- one round: a bucket's row -/
theorem FUp.round (h : FUp S S' c y q f) (b : BIs S n g) (b' : BIs S' n' g') (hm : Mg n g k c y) (hm' : Mg n' g' k' c y) (hf : Fst (n - k) (fun j => g (k + j)) (n' - k') (fun j => g' (k' + j)) x)
    (t : Taken (n - k) (fun j => g (k + j)) x a m o) (t' : Taken (n' - k') (fun j => g' (k' + j)) x a' m' o') :
    Mg n g (k + o) x.c (x.y + 1) ∧ Mg n' g' (k' + o') x.c (x.y + 1) ∧ n - (k + o) = m ∧ n' - (k' + o') = m' ∧ FUp S S' x.c (x.y + 1) (q + 1) (updW f q ⟨x.c, x.y, a, IntKind.i64.wrap (a' - a), a'⟩) ∧ S x.c x.y = a ∧ S' x.c x.y = a' ∧ m + m' < n - k + (n' - k') := by
  have ge := hf.ge
  have hc : ¬ Bl x.c x.y c y ∧ BOk x.c x.y ∧ (S x.c x.y ≠ 0 ∨ S' x.c x.y ≠ 0) := by
    rcases hf with ⟨h1, rfl, _⟩ | ⟨h1, rfl, _⟩
    · exact ⟨hm.hi _ (by omega) (by omega), b.1.ok _ (by omega), .inl (by rw [b.at (by omega)]; exact b.1.nz _ (by omega))⟩
    · exact ⟨hm'.hi _ (by omega) (by omega), b'.1.ok _ (by omega), .inr (by rw [b'.at (by omega)]; exact b'.1.nz _ (by omega))⟩
  obtain ⟨a1, a2, a3⟩ := hm.step b ge.1 hc.1 t
  obtain ⟨b1, b2, b3⟩ := hm'.step b' ge.2 hc.1 t'
  have j := (h.jump hc.1 fun c' y' z1 z2 => ⟨hm.none b ge.1 z1 z2, hm'.none b' ge.2 z1 z2⟩).push hc.2.1 hc.2.2
  rw [a2, b2] at j
  refine ⟨a1, b1, a3, b3, j, a2, b2, ?_⟩
  rcases hf with ⟨h1, rfl, _⟩ | ⟨h1, rfl, _⟩
  · have : o = 1 := by
      rcases t with ⟨_, _, _, _, z⟩ | ⟨z, _⟩
      · exact z
      · exact absurd ⟨h1, bkc_zero.2 ⟨rfl, rfl⟩⟩ z
    omega
  · have : o' = 1 := by
      rcases t' with ⟨_, _, _, _, z⟩ | ⟨z, _⟩
      · exact z
      · exact absurd ⟨h1, bkc_zero.2 ⟨rfl, rfl⟩⟩ z
    omega
end
/-- rows in another order -/
def Turned (q : Nat) (f f' : Nat → Wy) : Prop := ((List.range q).map f).Perm ((List.range q).map f')
theorem cs_list (F : Wy → Int) (f : Nat → Wy) (c : Int) : ∀ n, cs F f c n = (((List.range n).map f).map fun x => if x.c = c then F x else 0).sum
  | 0 => rfl
  | n + 1 => by rw [cs_succ, cs_list F f c n, List.range_succ]; simp [List.sum_append]
theorem sum_perm {l l' : List Int} (h : l.Perm l') : l.sum = l'.sum := by
  induction h with
  | nil => rfl
  | cons x _ ih => simp [ih]
  | swap x y l => simp; omega
  | trans _ _ h1 h2 => exact h1.trans h2
section
variable {q m : Nat} {f f' z : Nat → Wy}
theorem Turned.cs (h : Turned q f f') (F : Wy → Int) (c : Int) : cs F f c q = Go.Proofs.Ytolmdoigcaaieaa.cs F f' c q := by rw [cs_list, cs_list]; exact sum_perm (h.map _)
theorem Turned.mem (h : Turned q f f') {i : Nat} (hi : i < q) : ∃ j, j < q ∧ f' j = f i := by
  have : f i ∈ (List.range q).map f := List.mem_map.2 ⟨i, List.mem_range.2 hi, rfl⟩
  obtain ⟨j, hj, e⟩ := List.mem_map.1 (h.mem_iff.1 this)
  exact ⟨j, List.mem_range.1 hj, e⟩
theorem Turned.symm (h : Turned q f f') : Turned q f' f := List.Perm.symm h
theorem Turned.cis (h : Turned q f f') (c : CIs q f' m z) : CIs q f m z :=
  ⟨c.asc, c.yr, fun j hj => by rw [h.cs]; exact c.so j hj, fun j hj => by rw [h.cs]; exact c.sm j hj, fun j hj => by rw [h.cs]; exact c.sk j hj,
    fun j hj => by
      obtain ⟨i, hi, e⟩ := c.has j hj
      obtain ⟨i', hi', e'⟩ := h.symm.mem hi
      exact ⟨i', hi', by rw [e', e]⟩,
    fun i hi => by
      obtain ⟨i', hi', e⟩ := h.mem hi
      obtain ⟨j, hj, e'⟩ := c.all i' hi'
      exact ⟨j, hj, by rw [e', e]⟩⟩
theorem CIs.le (h : CIs q f m z) : m ≤ q := by
  have key : ∀ j, j ≤ m → ∃ l : List Nat, l.length = j ∧ l.Nodup ∧ ∀ i, i ∈ l → i < q ∧ ∃ a, a < j ∧ (f i).c = (z a).c := by
    intro j
    induction j with
    | zero => exact fun _ => ⟨[], rfl, List.nodup_nil, fun i hi => absurd hi (List.not_mem_nil)⟩
    | succ j ih =>
      intro hj
      obtain ⟨l, hl, hn, hm⟩ := ih (by omega)
      obtain ⟨i, hi, e⟩ := h.has j (by omega)
      refine ⟨i :: l, by simp [hl], List.nodup_cons.2 ⟨fun q => ?_, hn⟩, fun x hx => ?_⟩
      · obtain ⟨_, a, ha, e2⟩ := hm i q
        have := h.asc a j ha (by omega)
        omega
      · rcases List.mem_cons.1 hx with rfl | hx
        · exact ⟨hi, j, by omega, e⟩
        · obtain ⟨a, b, c, d⟩ := hm x hx
          exact ⟨a, b, by omega, d⟩
  obtain ⟨l, hl, hn, hm⟩ := key m (Nat.le_refl _)
  have := List.Nodup.length_le_of_subset hn (l₂ := List.range q) fun i hi => List.mem_range.2 (hm i hi).1
  rw [hl, List.length_range] at this
  exact this
end
end Go.Proofs.Ytolmdoigcaaieaa
