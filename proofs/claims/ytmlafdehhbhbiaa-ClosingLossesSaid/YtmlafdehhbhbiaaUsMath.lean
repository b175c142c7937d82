/- Which losses are used: what may be, in their order, till the room is used up; the only way to do so; in two steps as in one: mathematics alone. -/
import Derived.Test.YtmlafdehhbhbiaaM3
namespace Go.Proofs.Ytmlafdehhbhbiaa

/-- what may be used of a row in a year -/
def eU (g : Nat → Bk) (year : Int) : Nat → Int := fun j => if (g j).c < year then 0 else (g j).a
/-- of the first k rows -/
def EU (g : Nat → Bk) (year : Int) (k : Nat) : Int := tot (eU g year) k
/-- what is used of a row, for so much room -/
def vU (g : Nat → Bk) (year R : Int) : Nat → Int := fun k => min (EU g year (k + 1)) R - min (EU g year k) R
/-- room below 0 counts as none -/
def usU (g : Nat → Bk) (year room : Int) : Nat → Int := vU g year (max room 0)
section
variable {g h : Nat → Bk} {year R R' room : Int} {n k : Nat} {u : Nat → Int}
theorem EU_succ (g : Nat → Bk) (year : Int) (k : Nat) : EU g year (k + 1) = EU g year k + eU g year k := rfl
theorem eU_nonneg (pos : ∀ j, j < n → 0 ≤ (g j).a) {j : Nat} (hj : j < n) : 0 ≤ eU g year j ∧ eU g year j ≤ (g j).a := by
  have := pos j hj
  unfold eU; split <;> omega
theorem EU_nonneg (pos : ∀ j, j < n → 0 ≤ (g j).a) (hk : k ≤ n) : 0 ≤ EU g year k := tot_nonneg k fun j hj => (eU_nonneg pos (by omega)).1
theorem EU_mono (pos : ∀ j, j < n → 0 ≤ (g j).a) {i : Nat} (hi : i ≤ k) (hk : k ≤ n) : EU g year i ≤ EU g year k := by
  obtain ⟨d, rfl⟩ := Nat.exists_eq_add_of_le hi
  clear hi
  induction d with
  | zero => exact Int.le_refl _
  | succ d ih =>
    have a := ih (by omega)
    have b := (eU_nonneg (year := year) pos (show i + d < n by omega)).1
    rw [show i + (d + 1) = i + d + 1 by omega, EU_succ]; omega
theorem EU_all (pos : ∀ j, j < n → 0 ≤ (g j).a) : EU g year n ≤ btot g n := tot_le n fun _ hj => (eU_nonneg pos hj).2
theorem vU_tot (g : Nat → Bk) (year : Int) (hR : 0 ≤ R) : ∀ k, tot (vU g year R) k = min (EU g year k) R
  | 0 => by show (0 : Int) = min 0 R; omega
  | k + 1 => by
    have := vU_tot g year hR k
    show tot (vU g year R) k + (min (EU g year (k + 1)) R - min (EU g year k) R) = _
    omega
theorem us_tot (g : Nat → Bk) (year room : Int) (k : Nat) : tot (usU g year room) k = min (EU g year k) (max room 0) := vU_tot g year (by omega) k
/-- one row -/
theorem us_step (pos : ∀ j, j < n → 0 ≤ (g j).a) (hk : k < n) : usU g year room k = if (g k).c < year then 0 else min (g k).a (max (room - tot (usU g year room) k) 0) := by
  rw [us_tot]
  have h0 := EU_nonneg (year := year) pos (show k ≤ n by omega)
  have h1 := pos k hk
  unfold usU vU
  rw [EU_succ]
  unfold eU
  split <;> omega
theorem us_in (pos : ∀ j, j < n → 0 ≤ (g j).a) (hk : k < n) : 0 ≤ usU g year room k ∧ usU g year room k ≤ (g k).a ∧ ((g k).c < year → usU g year room k = 0) := by
  have h0 := EU_nonneg (year := year) pos (show k ≤ n by omega)
  have h1 := pos k hk
  unfold usU vU
  rw [EU_succ]
  unfold eU
  split <;> omega
/-- the room that is left on the way -/
theorem us_room (pos : ∀ j, j < n → 0 ≤ (g j).a) (hk : k ≤ n) : 0 ≤ tot (usU g year room) k ∧ tot (usU g year room) k ≤ max room 0 := by
  rw [us_tot]
  have h0 := EU_nonneg (year := year) pos hk
  omega
/-- with more room no less of any row -/
theorem us_more (pos : ∀ j, j < n → 0 ≤ (g j).a) (hk : k < n) (h : room ≤ R) : usU g year room k ≤ usU g year R k := by
  have h0 := EU_nonneg (year := year) pos (show k ≤ n by omega)
  have h1 := (eU_nonneg (year := year) pos hk).1
  unfold usU vU
  rw [EU_succ]; omega
theorem us_none (pos : ∀ j, j < n → 0 ≤ (g j).a) (hk : k < n) (h : room ≤ 0) : usU g year room k = 0 := by
  have h0 := EU_nonneg (year := year) pos (show k ≤ n by omega)
  have h1 := (eU_nonneg (year := year) pos hk).1
  unfold usU vU
  rw [EU_succ]; omega
theorem us_all (pos : ∀ j, j < n → 0 ≤ (g j).a) (hk : k < n) (h : btot g n ≤ room) : usU g year room k = eU g year k := by
  have h0 := EU_nonneg (year := year) pos (show k ≤ n by omega)
  have h1 := (eU_nonneg (year := year) pos hk).1
  have h2 := EU_mono (year := year) pos (show k + 1 ≤ n by omega) (Nat.le_refl n)
  have h3 := EU_all (year := year) pos
  unfold usU vU
  rw [EU_succ] at *; omega
/-- are all rows ahead of row k used up, those that did not expire? -/
def Whole (g : Nat → Bk) (year : Int) (u : Nat → Int) (k : Nat) : Prop := ∀ j, j < k → year ≤ (g j).c → u j = (g j).a
/-- row k keeps what is asked -/
def RowOk (g : Nat → Bk) (year : Int) (u : Nat → Int) (k : Nat) : Prop := 0 ≤ u k ∧ u k ≤ (g k).a ∧ ((g k).c < year → u k = 0) ∧ (0 < u k → Whole g year u k)
/-- all rows do, and nothing more could be used -/
def RightU (g : Nat → Bk) (year room : Int) (n : Nat) (u : Nat → Int) : Prop := (∀ k, k < n → RowOk g year u k) ∧ tot u n = min (EU g year n) room
theorem right_upto (h : ∀ k, k < n → RowOk g year u k) : ∀ k, k ≤ n → (Whole g year u k → tot u k = EU g year k) ∧ tot u k ≤ EU g year k ∧ 0 ≤ tot u k := by
  intro k
  induction k with
  | zero => intro _; exact ⟨fun _ => rfl, Int.le_refl _, Int.le_refl _⟩
  | succ k ih =>
    intro hk
    obtain ⟨i1, i2, i3⟩ := ih (by omega)
    obtain ⟨r1, r2, r3, _⟩ := h k (by omega)
    have e : tot u (k + 1) = tot u k + u k := rfl
    rw [e, EU_succ]
    unfold eU
    by_cases q : (g k).c < year
    · rw [if_pos q, r3 q]
      exact ⟨fun w => by rw [i1 fun j hj => w j (by omega)], by omega, by omega⟩
    · rw [if_neg q]
      exact ⟨fun w => by rw [i1 fun j hj => w j (by omega), w k (by omega) (by omega)], by omega, by omega⟩
theorem right_rest (h : ∀ k, k < n → RowOk g year u k) {k : Nat} (hw : ¬ Whole g year u k) : ∀ d, k + d ≤ n → tot u (k + d) = tot u k
  | 0, _ => rfl
  | d + 1, hd => by
    have e := right_rest h hw d (by omega)
    obtain ⟨r1, _, _, r4⟩ := h (k + d) (by omega)
    show tot u (k + d) + u (k + d) = _
    have : u (k + d) = 0 := by
      by_cases z : 0 < u (k + d)
      · exact absurd (fun j hj hy => r4 z j (by omega) hy) hw
      · omega
    omega
theorem tot_rise {u : Nat → Int} {n k : Nat} (h : ∀ j, j < n → 0 ≤ u j) (hk : k ≤ n) : tot u k ≤ tot u n := by
  induction n with
  | zero =>
    obtain rfl : k = 0 := by omega
    exact Int.le_refl _
  | succ n ih =>
    by_cases e : k = n + 1
    · rw [e]; exact Int.le_refl _
    · have a := ih (fun j hj => h j (by omega)) (by omega)
      have b := h n (by omega)
      show tot u k ≤ tot u n + u n
      omega
theorem right_tot (pos : ∀ j, j < n → 0 ≤ (g j).a) (h : RightU g year room n u) (hk : k ≤ n) : tot u k = min (EU g year k) room := by
  have hm := EU_mono (year := year) pos hk (Nat.le_refl n)
  obtain ⟨a1, a2, _⟩ := right_upto h.1 k hk
  have hmu := tot_rise (fun j hj => (h.1 j hj).1) hk
  have h2 := h.2
  by_cases w : Whole g year u k
  · have := a1 w
    omega
  · obtain ⟨d, rfl⟩ := Nat.exists_eq_add_of_le hk
    have := right_rest h.1 w d (Nat.le_refl _)
    omega
/-- only one vector is right -/
theorem right_is (pos : ∀ j, j < n → 0 ≤ (g j).a) (hr : 0 ≤ room) (h : RightU g year room n u) : ∀ k, k < n → u k = usU g year room k := fun k hk => by
  have a := right_tot pos h (show k ≤ n by omega)
  have b := right_tot pos h (show k + 1 ≤ n by omega)
  have e : tot u (k + 1) = tot u k + u k := rfl
  unfold usU vU
  omega
theorem us_right (pos : ∀ j, j < n → 0 ≤ (g j).a) (hr : 0 ≤ room) : RightU g year room n (usU g year room) := by
  refine ⟨fun k hk => ?_, by rw [us_tot]; omega⟩
  obtain ⟨h1, h2, h3⟩ := us_in (year := year) (room := room) pos hk
  refine ⟨h1, h2, h3, fun h j hj hy => ?_⟩
  have hm := EU_mono (year := year) pos (show j + 1 ≤ k by omega) (by omega)
  have hm2 := EU_mono (year := year) pos (show j ≤ k by omega) (by omega)
  unfold usU vU at h ⊢
  have e : eU g year j = (g j).a := if_neg (by omega)
  have e2 := EU_succ g year j
  omega
theorem right_ext {u' : Nat → Int} (h : RightU g year room n u) (e : ∀ j, j < n → u j = u' j) : RightU g year room n u' := by
  refine ⟨fun k hk => ?_, by rw [← h.2]; exact (tot_ext n e).symm⟩
  obtain ⟨h1, h2, h3, h4⟩ := h.1 k hk
  rw [e k hk] at h1 h2 h3 h4
  exact ⟨h1, h2, h3, fun z j hj hy => by rw [← e j (by omega)]; exact h4 z j hj hy⟩
theorem right_iff (pos : ∀ j, j < n → 0 ≤ (g j).a) (hr : 0 ≤ room) : RightU g year room n u ↔ ∀ k, k < n → usU g year room k = u k :=
  ⟨fun h k hk => (right_is pos hr h k hk).symm, fun h => right_ext (us_right pos hr) h⟩
/-- what the first step leaves of k rows -/
def DU (g : Nat → Bk) (year one : Int) (k : Nat) : Int := EU g year k - min (EU g year k) one
/-- the rows of which something is left behind the first step, and where they were -/
structure Rest (g : Nat → Bk) (year one : Int) (k m : Nat) (h : Nat → Bk) (p : Nat → Nat) : Prop where
  at_ : ∀ i, i < m → p i < k ∧ h i = ⟨(g (p i)).c, (g (p i)).y, (g (p i)).a - usU g year one (p i)⟩
  mono : ∀ i j, i < j → j < m → p i < p j
  out : ∀ j, j < k → (∀ i, i < m → p i ≠ j) → DU g year one (j + 1) = DU g year one j
  sum : ∀ i, i < m → EU h year i = DU g year one (p i) ∧ EU h year (i + 1) = DU g year one (p i + 1)
  all : EU h year m = DU g year one k
  le : m ≤ k
variable {m : Nat} {p : Nat → Nat} {one two : Int}
theorem Rest.zero (g : Nat → Bk) (year : Int) {one : Int} (h1 : 0 ≤ one) (h : Nat → Bk) (p : Nat → Nat) : Rest g year one 0 0 h p :=
  ⟨fun i hi => by omega, fun i j _ hj => by omega, fun j hj => by omega, fun i hi => by omega, by show (0 : Int) = 0 - min 0 one; omega, Nat.le_refl _⟩
theorem du_succ (_pos : ∀ j, j < n → 0 ≤ (g j).a) (_hk : k < n) (h1 : 0 ≤ one) : DU g year one (k + 1) = DU g year one k + (eU g year k - usU g year one k) := by
  have e := EU_succ g year k
  unfold DU usU vU
  omega
theorem EU_ext {h' : Nat → Bk} (e : ∀ j, j < k → h j = h' j) : EU h year k = EU h' year k := tot_ext k fun j hj => by unfold eU; rw [e j hj]
theorem Rest.keep (r : Rest g year one k m h p) (pos : ∀ j, j < n → 0 ≤ (g j).a) (hk : k < n) (h1 : 0 ≤ one) :
    Rest g year one (k + 1) (m + 1) (pushB h m ⟨(g k).c, (g k).y, (g k).a - usU g year one k⟩) (fun i => if i = m then k else p i) := by
  have hx : ∀ i, i ≤ m → EU (pushB h m ⟨(g k).c, (g k).y, (g k).a - usU g year one k⟩) year i = EU h year i := fun i hi => EU_ext fun j hj => pushB_ne h _ (by omega)
  have hlast : EU (pushB h m ⟨(g k).c, (g k).y, (g k).a - usU g year one k⟩) year (m + 1) = DU g year one (k + 1) := by
    rw [EU_succ, hx m (Nat.le_refl _), r.all, du_succ pos hk h1]
    have e : eU (pushB h m ⟨(g k).c, (g k).y, (g k).a - usU g year one k⟩) year m = eU g year k - usU g year one k := by
      unfold eU
      rw [pushB_at]
      dsimp only
      split
      · rw [(us_in (room := one) pos hk).2.2 (by assumption)]; rfl
      · rfl
    rw [e]
  refine ⟨fun i hi => ?_, fun i j hi hj => ?_, fun j hj hne => ?_, fun i hi => ?_, hlast, by have := r.le; omega⟩
  · by_cases e : i = m
    · subst e
      rw [if_pos rfl, pushB_at]; exact ⟨by omega, rfl⟩
    · rw [if_neg e, pushB_ne h _ e]
      obtain ⟨a, b⟩ := r.at_ i (by omega)
      exact ⟨by omega, b⟩
  · rw [if_neg (show i ≠ m by omega)]
    by_cases e : j = m
    · rw [if_pos e]; exact (r.at_ i (by omega)).1
    · rw [if_neg e]; exact r.mono i j hi (by omega)
  · have hj' : j ≠ k := fun e => hne m (by omega) (by rw [if_pos rfl, e])
    exact r.out j (by omega) fun i hi e => hne i (by omega) (by rw [if_neg (by omega), e])
  · by_cases e : i = m
    · subst e
      rw [if_pos rfl, hx i (Nat.le_refl _)]
      exact ⟨r.all, hlast⟩
    · rw [if_neg e, hx i (by omega), hx (i + 1) (by omega)]
      exact r.sum i (by omega)
theorem Rest.skip (r : Rest g year one k m h p) (pos : ∀ j, j < n → 1 ≤ (g j).a) (hk : k < n) (h1 : 0 ≤ one) (hz : ¬ usU g year one k < (g k).a) : Rest g year one (k + 1) m h p := by
  have pos0 : ∀ j, j < n → 0 ≤ (g j).a := fun j hj => by have := pos j hj; omega
  have hd : DU g year one (k + 1) = DU g year one k := by
    rw [du_succ pos0 hk h1]
    obtain ⟨_, a2, a3⟩ := us_in (year := year) (room := one) pos0 hk
    have := pos k hk
    unfold eU
    split
    · have := a3 (by assumption); omega
    · omega
  refine ⟨fun i hi => ?_, r.mono, fun j hj hne => ?_, r.sum, by rw [hd]; exact r.all, by have := r.le; omega⟩
  · obtain ⟨a, b⟩ := r.at_ i hi
    exact ⟨by omega, b⟩
  · by_cases e : j = k
    · rw [e]; exact hd
    · exact r.out j (by omega) hne
theorem Rest.pos (r : Rest g year one n m h p) (pos : ∀ j, j < n → 0 ≤ (g j).a) : ∀ i, i < m → 0 ≤ (h i).a ∧ (h i).a ≤ (g (p i)).a := fun i hi => by
  obtain ⟨a, b⟩ := r.at_ i hi
  have := us_in (year := year) (room := one) pos a
  rw [b]; dsimp only; omega
/-- in two steps as in one -/
theorem Rest.both (r : Rest g year one n m h p) (h1 : 0 ≤ one) (h2 : 0 ≤ two) {i : Nat} (hi : i < m) : usU g year one (p i) + usU h year two i = usU g year (one + two) (p i) := by
  obtain ⟨a, b⟩ := r.sum i hi
  unfold usU vU
  rw [a, b]
  unfold DU
  omega
theorem Rest.alone (r : Rest g year one n m h p) (h1 : 0 ≤ one) (h2 : 0 ≤ two) {j : Nat} (hj : j < n) (hne : ∀ i, i < m → p i ≠ j) : usU g year one j = usU g year (one + two) j := by
  have e := r.out j hj hne
  unfold DU at e
  unfold usU vU
  omega
/-- where the first step did not use all its room, nothing is left for the second one -/
theorem Rest.short (r : Rest g year one n m h p) (pos : ∀ j, j < n → 0 ≤ (g j).a) (h1 : 0 ≤ one) (hs : tot (usU g year one) n < one) : tot (usU h year two) m = 0 ∧ ∀ two, 0 ≤ two → ∀ j, j < n → usU g year one j = usU g year (one + two) j := by
  rw [us_tot] at hs
  refine ⟨?_, fun two h2 j hj => ?_⟩
  · rw [us_tot, r.all]
    unfold DU
    omega
  · have a := EU_mono (year := year) pos (show j ≤ n by omega) (Nat.le_refl n)
    have b := EU_mono (year := year) pos (show j + 1 ≤ n by omega) (Nat.le_refl n)
    unfold usU vU
    omega
end
end Go.Proofs.Ytmlafdehhbhbiaa
