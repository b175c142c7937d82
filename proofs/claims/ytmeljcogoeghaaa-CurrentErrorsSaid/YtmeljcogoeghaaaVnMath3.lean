/- A loss more, row by row: mathematics alone. -/
import Derived.Test.YtmeljcogoeghaaaVnMath2
namespace Go.Proofs.Ytmeljcogoeghaaa

/-- k rows are gone through; the loss stands in its place, or its place was not met -/
structure AIn (g : Nat → Bk) (n k : Nat) (c y X : Int) (ins : Bool) (m : Nat) (h : Nat → Bk) : Prop where
  set : VSet g n k c y X ins m h
  new : ins = false → ∀ j, j < k → ¬ ((g j).c = c ∧ (g j).y = y)
section
variable {S : Int → Int → Int} {n m k : Nat} {g h : Nat → Bk} {c y a X : Int} {ins : Bool}
theorem AIn.zero (g : Nat → Bk) (n : Nat) (c y X : Int) (h : Nat → Bk) : AIn g n 0 c y X false 0 h := ⟨VSet.zero _ _ _ _ _ _, fun _ j hj => by omega⟩
theorem AIn.fresh (s : AIn g n k c y X ins m h) (hk : k < n) (hx : (g k).c = c ∧ (g k).y = y) : ins = false := by
  cases e : ins with
  | false => rfl
  | true =>
    exfalso
    subst e
    have hv := s.set.val c y
    rw [if_pos ⟨rfl, rfl⟩, if_pos rfl] at hv
    obtain ⟨i, hi, e1, e2⟩ := bget_some (g := h) (n := m) (c := c) (y := y) (by rw [hv]; exact s.set.insv rfl)
    have := s.set.ahead i k hi (Nat.le_refl _) hk
    rw [e1, e2, hx.1, hx.2] at this
    exact bl_irr _ _ this
theorem AIn.same (s : AIn g n k c y X ins m h) (b : VIs S n g) (hX : X = S c y + a) (h0 : X ≠ 0) (hok : VOk c y) (hk : k < n) (hx : (g k).c = c ∧ (g k).y = y) :
    AIn g n (k + 1) c y X true (m + 1) (pushB h m ⟨c, y, X⟩) ∧ (g k).a + a = X := by
  have e := s.fresh hk hx
  subst e
  refine ⟨⟨(s.set.skip hx).put hok h0 fun j hj hn => ?_, fun e => by cases e⟩, ?_⟩
  · have := b.1.asc k j (by omega) hn
    rw [hx.1, hx.2] at this
    exact this
  · have := b.at hk
    rw [hx.1, hx.2] at this
    omega
theorem AIn.ahead (s : AIn g n k c y X ins m h) (b : VIs S n g) (hk : k < n) (hx : ¬ ((g k).c = c ∧ (g k).y = y)) (hd : ins = true ∨ ¬ Bl c y (g k).c (g k).y) : AIn g n (k + 1) c y X ins (m + 1) (pushB h m (g k)) :=
  ⟨s.set.keep b.1 hk hx (.inr hd), fun e j hj => by
    by_cases q : j = k
    · rw [q]; exact hx
    · exact s.new e j (by omega)⟩
theorem AIn.none (s : AIn g n k c y X false m h) (b : VIs S n g) (hl : ∀ j, k ≤ j → j < n → Bl c y (g j).c (g j).y) : S c y = 0 := by
  refine Classical.byContradiction fun z => ?_
  obtain ⟨j, hj, e1, e2⟩ := b.has z
  by_cases q : j < k
  · exact s.new rfl j q ⟨e1, e2⟩
  · have := hl j (by omega) hj
    rw [e1, e2] at this
    exact bl_irr _ _ this
theorem AIn.between (s : AIn g n k c y X false m h) (b : VIs S n g) (hX : X = S c y + a) (h0 : X ≠ 0) (hok : VOk c y) (hk : k < n) (hl : Bl c y (g k).c (g k).y) :
    a = X ∧ AIn g n (k + 1) c y X true (m + 1 + 1) (pushB (pushB h m ⟨c, y, X⟩) (m + 1) (g k)) := by
  have hb := vbehind b.1 hl
  have z := s.none b hb
  refine ⟨by omega, ⟨(s.set.put hok h0 hb).keep b.1 hk (fun e => ?_) (.inr (.inl rfl)), fun e => by cases e⟩⟩
  rw [e.1, e.2] at hl
  exact bl_irr _ _ hl
theorem AIn.last (s : AIn g n n c y X false m h) (b : VIs S n g) (hX : X = S c y + a) (h0 : X ≠ 0) (hok : VOk c y) : a = X ∧ VIs (upS S c y X) (m + 1) (pushB h m ⟨c, y, X⟩) := by
  have z := s.none b fun j hj hn => by omega
  exact ⟨by omega, (s.set.put hok h0 fun j hj hn => by omega).done b (.inr rfl)⟩
theorem AIn.fin (s : AIn g n n c y X true m h) (b : VIs S n g) : VIs (upS S c y X) m h := s.set.done b (.inr rfl)
end
end Go.Proofs.Ytmeljcogoeghaaa
