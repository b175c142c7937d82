/- Rates as they are known: mathematics alone. -/
import Derived.WalkKit
namespace Go.Proofs.Ytdchihhekmbeiaa

/-- a rate of a place, from a year on, enacted in a period -/
structure Rt where
  j : ByteArray
  y : Int
  r : Int
  p : Int
/-- it says something of a place and a year, as known at a period -/
def Mt (x : Rt) (j : ByteArray) (y p : Int) : Prop := x.j = j ∧ x.y ≤ y ∧ x.p ≤ p
/-- .. no more than another one does -/
def Le (x b : Rt) : Prop := x.y < b.y ∨ (x.y = b.y ∧ x.p ≤ b.p)
/-- what is known -/
def Known (R : Nat → Rt) (n : Nat) (j : ByteArray) (y p r : Int) (ok : Bool) : Prop :=
  (ok = true ∧ ∃ b, b < n ∧ Mt (R b) j y p ∧ (∀ k, k < n → Mt (R k) j y p → Le (R k) (R b)) ∧ r = (R b).r) ∨ (ok = false ∧ r = 0 ∧ ∀ k, k < n → ¬ Mt (R k) j y p)
/-- which row counts, so far: -1: none -/
def BestAt (R : Nat → Rt) (n : Nat) (j : ByteArray) (y p b : Int) : Prop :=
  (b = -1 ∧ ∀ k, k < n → ¬ Mt (R k) j y p) ∨ ∃ i : Nat, b = i ∧ i < n ∧ Mt (R i) j y p ∧ ∀ k, k < n → Mt (R k) j y p → Le (R k) (R i)
/-- no two rows are of one place, year and period -/
def Uniq (R : Nat → Rt) (n : Nat) : Prop := ∀ i k, i < n → k < n → (R i).j = (R k).j → (R i).y = (R k).y → (R i).p = (R k).p → i = k
/-- a row that may be -/
def ROk (j : ByteArray) (y r p : Int) : Prop := j ≠ ⟨#[]⟩ ∧ 0 ≤ y ∧ y ≤ 99 ∧ 0 ≤ r ∧ r ≤ 1000000 ∧ 0 ≤ p ∧ p ≤ 399
def pushT (R : Nat → Rt) (n : Nat) (x : Rt) : Nat → Rt := fun k => if k = n then x else R k
theorem pushT_at (R : Nat → Rt) (n : Nat) (x : Rt) : pushT R n x n = x := if_pos rfl
theorem pushT_ne (R : Nat → Rt) {n k : Nat} (x : Rt) (h : k ≠ n) : pushT R n x k = R k := if_neg h
structure TInv (n : Nat) (R : Nat → Rt) : Prop where
  le : n ≤ 24
  ok : ∀ k, k < n → ROk (R k).j (R k).y (R k).r (R k).p
  uniq : Uniq R n
theorem TInv.nil (R : Nat → Rt) : TInv 0 R := ⟨by omega, fun k h => by omega, fun i k h => by omega⟩
/-- there is such a row -/
def TThere (R : Nat → Rt) (n : Nat) (j : ByteArray) (y p : Int) : Prop := ∃ k, k < n ∧ (R k).j = j ∧ (R k).y = y ∧ (R k).p = p
/-- why a rate is refused: 0: it is not -/
inductive TErr (R : Nat → Rt) (n : Nat) (j : ByteArray) (y r p : Int) : Int → Prop
  | arg : ¬ ROk j y r p → TErr R n j y r p 1
  | there : ROk j y r p → TThere R n j y p → TErr R n j y r p 4
  | limit : ROk j y r p → ¬ TThere R n j y p → n = 24 → TErr R n j y r p 5
  | ok : ROk j y r p → ¬ TThere R n j y p → n < 24 → TErr R n j y r p 0
section
variable {R S : Nat → Rt} {n m : Nat} {j : ByteArray} {y p r r' : Int} {ok ok' : Bool}
theorem terr_any (hn : n ≤ 24) (j : ByteArray) (y r p : Int) : ∃ e, TErr R n j y r p e := by
  by_cases h1 : ROk j y r p
  · by_cases h2 : TThere R n j y p
    · exact ⟨_, .there h1 h2⟩
    · by_cases h3 : n = 24
      · exact ⟨_, .limit h1 h2 h3⟩
      · exact ⟨_, .ok h1 h2 (by omega)⟩
  · exact ⟨_, .arg h1⟩
theorem TErr.uniq {e e' : Int} (h : TErr R n j y r p e) (h' : TErr R n j y r p e') : e = e' := by
  cases h <;> cases h' <;> first | rfl | contradiction | omega
theorem TErr.row (h : TErr R n j y r p 0) : ROk j y r p ∧ ¬ TThere R n j y p ∧ n < 24 := by
  cases h; exact ⟨‹_›, ‹_›, ‹_›⟩
theorem TInv.push (h : TInv n R) (e : TErr R n j y r p 0) : TInv (n + 1) (pushT R n ⟨j, y, r, p⟩) := by
  obtain ⟨h1, h2, h3⟩ := e.row
  refine ⟨by omega, fun k hk => ?_, fun i k hi hk e1 e2 e3 => ?_⟩
  · by_cases q : k = n
    · subst q; rw [pushT_at]; exact h1
    · rw [pushT_ne R _ q]; exact h.ok k (by omega)
  · by_cases q : i = n
    · by_cases q' : k = n
      · omega
      · rw [q, pushT_at, pushT_ne R _ q'] at e1 e2 e3
        exact absurd ⟨k, by omega, e1.symm, e2.symm, e3.symm⟩ h2
    · by_cases q' : k = n
      · rw [q', pushT_at, pushT_ne R _ q] at e1 e2 e3
        exact absurd ⟨i, by omega, e1, e2, e3⟩ h2
      · rw [pushT_ne R _ q, pushT_ne R _ q'] at e1 e2 e3
        exact h.uniq i k (by omega) (by omega) e1 e2 e3
theorem Known.uniq (hu : Uniq R n) (h : Known R n j y p r ok) (h' : Known R n j y p r' ok') : r = r' ∧ ok = ok' := by
  rcases h with ⟨rfl, b, b1, b2, b3, rfl⟩ | ⟨rfl, rfl, h0⟩
  · rcases h' with ⟨rfl, c, c1, c2, c3, rfl⟩ | ⟨rfl, rfl, h0⟩
    · have l1 := b3 c c1 c2
      have l2 := c3 b b1 b2
      have : b = c := by
        unfold Le at l1 l2
        exact hu b c b1 c1 (b2.1.trans c2.1.symm) (by omega) (by omega)
      subst this; exact ⟨rfl, rfl⟩
    · exact absurd b2 (h0 b b1)
  · rcases h' with ⟨rfl, c, c1, c2, c3, rfl⟩ | ⟨rfl, rfl, _⟩
    · exact absurd c2 (h0 c c1)
    · exact ⟨rfl, rfl⟩
theorem BestAt.zero (R : Nat → Rt) (j : ByteArray) (y p : Int) : BestAt R 0 j y p (-1) := .inl ⟨rfl, fun k h => by omega⟩
theorem BestAt.bd {b : Int} (h : BestAt R n j y p b) : -1 ≤ b ∧ b < n := by
  rcases h with ⟨rfl, _⟩ | ⟨i, rfl, h, _⟩ <;> omega
/-- a row that says nothing -/
theorem BestAt.skip {b : Int} (h : BestAt R n j y p b) (hm : ¬ Mt (R n) j y p) : BestAt R (n + 1) j y p b := by
  rcases h with ⟨rfl, h0⟩ | ⟨i, rfl, h1, h2, h3⟩
  · refine .inl ⟨rfl, fun k hk => ?_⟩
    by_cases q : k = n
    · rw [q]; exact hm
    · exact h0 k (by omega)
  · refine .inr ⟨i, rfl, by omega, h2, fun k hk hM => ?_⟩
    by_cases q : k = n
    · rw [q] at hM; exact absurd hM hm
    · exact h3 k (by omega) hM
/-- a row that counts -/
theorem BestAt.take {b : Int} (h : BestAt R n j y p b) (hm : Mt (R n) j y p) (hb : ∀ i : Nat, b = i → Le (R i) (R n)) : BestAt R (n + 1) j y p n := by
  refine .inr ⟨n, rfl, by omega, hm, fun k hk hM => ?_⟩
  by_cases q : k = n
  · rw [q]; exact .inr ⟨rfl, Int.le_refl _⟩
  · rcases h with ⟨rfl, h0⟩ | ⟨i, rfl, h1, h2, h3⟩
    · exact absurd hM (h0 k (by omega))
    · have l1 := h3 k (by omega) hM
      have l2 := hb i rfl
      unfold Le at *; omega
/-- a row that says no more than the one that counts -/
theorem BestAt.keep {i : Nat} (h : BestAt R n j y p i) (hl : Le (R n) (R i)) : BestAt R (n + 1) j y p i := by
  rcases h with ⟨h, _⟩ | ⟨i', e, h1, h2, h3⟩
  · omega
  · obtain rfl : i = i' := by omega
    refine .inr ⟨i, rfl, by omega, h2, fun k hk hM => ?_⟩
    by_cases q : k = n
    · rw [q]; exact hl
    · exact h3 k (by omega) hM
theorem BestAt.none (h : BestAt R n j y p (-1)) : Known R n j y p 0 false := by
  rcases h with ⟨_, h0⟩ | ⟨i, e, _⟩
  · exact .inr ⟨rfl, rfl, h0⟩
  · omega
theorem BestAt.some {i : Nat} (h : BestAt R n j y p i) : i < n ∧ Known R n j y p (R i).r true := by
  rcases h with ⟨h, _⟩ | ⟨i', e, h1, h2, h3⟩
  · omega
  · obtain rfl : i = i' := by omega
    exact ⟨h1, .inl ⟨rfl, i, h1, h2, h3, rfl⟩⟩
theorem le_total (x b : Rt) : Le x b ∨ (b.y < x.y ∨ (x.y = b.y ∧ b.p < x.p)) := by unfold Le; omega
theorem best_any (R : Nat → Rt) (n : Nat) (j : ByteArray) (y p : Int) : ∃ b, BestAt R n j y p b := by
  induction n with
  | zero => exact ⟨_, .zero R j y p⟩
  | succ n ih =>
    obtain ⟨b, h⟩ := ih
    by_cases hm : Mt (R n) j y p
    · by_cases hb : b = -1
      · exact ⟨_, h.take hm fun i e => by omega⟩
      · obtain ⟨i, rfl⟩ : ∃ i : Nat, b = i := ⟨b.toNat, by have := h.bd; omega⟩
        rcases le_total (R n) (R i) with q | q
        · exact ⟨_, h.keep q⟩
        · exact ⟨_, h.take hm fun i' e => by
            obtain rfl : i = i' := by omega
            unfold Le; omega⟩
    · exact ⟨_, h.skip hm⟩
theorem known_any (R : Nat → Rt) (n : Nat) (j : ByteArray) (y p : Int) : ∃ r ok, Known R n j y p r ok := by
  obtain ⟨b, h⟩ := best_any R n j y p
  by_cases hb : b = -1
  · subst hb; exact ⟨_, _, h.none⟩
  · obtain ⟨i, rfl⟩ : ∃ i : Nat, b = i := ⟨b.toNat, by have := h.bd; omega⟩
    exact ⟨_, _, h.some.2⟩
/-- what is known hangs on which rows there are alone -/
theorem Known.rows (h : Known R n j y p r ok) (h1 : ∀ k, k < n → ∃ i, i < m ∧ S i = R k) (h2 : ∀ i, i < m → ∃ k, k < n ∧ R k = S i) : Known S m j y p r ok := by
  rcases h with ⟨rfl, b, b1, b2, b3, rfl⟩ | ⟨rfl, rfl, h0⟩
  · obtain ⟨i, i1, e⟩ := h1 b b1
    refine .inl ⟨rfl, i, i1, by rw [e]; exact b2, fun k hk hM => ?_, by rw [e]⟩
    obtain ⟨c, c1, e'⟩ := h2 k hk
    rw [← e'] at hM ⊢
    rw [e]; exact b3 c c1 hM
  · refine .inr ⟨rfl, rfl, fun k hk hM => ?_⟩
    obtain ⟨c, c1, e'⟩ := h2 k hk
    rw [← e'] at hM
    exact h0 c c1 hM
/-- a row more that says nothing there changes nothing -/
theorem Known.more (h : Known R n j y p r ok) (x : Rt) (hx : ¬ Mt x j y p) : Known (pushT R n x) (n + 1) j y p r ok := by
  rcases h with ⟨rfl, b, b1, b2, b3, rfl⟩ | ⟨rfl, rfl, h0⟩
  · refine .inl ⟨rfl, b, by omega, by rw [pushT_ne R x (by omega)]; exact b2, fun k hk hM => ?_, by rw [pushT_ne R x (by omega)]⟩
    rw [pushT_ne R x (show b ≠ n by omega)]
    by_cases q : k = n
    · rw [q, pushT_at] at hM; exact absurd hM hx
    · rw [pushT_ne R x q] at hM ⊢; exact b3 k (by omega) hM
  · refine .inr ⟨rfl, rfl, fun k hk hM => ?_⟩
    by_cases q : k = n
    · rw [q, pushT_at] at hM; exact hx hM
    · rw [pushT_ne R x q] at hM; exact h0 k (by omega) hM
/-- a row that says most -/
theorem Known.last (x : Rt) (hx : Mt x j y p) (hl : ∀ k, k < n → Mt (R k) j y p → Le (R k) x) : Known (pushT R n x) (n + 1) j y p x.r true := by
  refine .inl ⟨rfl, n, by omega, by rw [pushT_at]; exact hx, fun k hk hM => ?_, by rw [pushT_at]⟩
  rw [pushT_at]
  by_cases q : k = n
  · rw [q, pushT_at]; exact .inr ⟨rfl, Int.le_refl _⟩
  · rw [pushT_ne R x q] at hM ⊢; exact hl k (by omega) hM
end
end Go.Proofs.Ytdchihhekmbeiaa
