/- Buckets: rows built anew, one behind the other, with one bucket set: mathematics alone; why a move, and a move from one into another, is refused. -/
import Derived.Test.YtdchihhekmbeiaaBkMath
namespace Go.Proofs.Ytdchihhekmbeiaa

def pushB (h : Nat → Bk) (m : Nat) (x : Bk) : Nat → Bk := fun j => if j = m then x else h j
section
variable {S : Int → Int → Int} {n m k : Nat} {g h : Nat → Bk} {c y v : Int} {x : Bk} {ins : Bool}
theorem pushB_at (h : Nat → Bk) (m : Nat) (x : Bk) : pushB h m x m = x := if_pos rfl
theorem pushB_ne (h : Nat → Bk) {m j : Nat} (x : Bk) (e : j ≠ m) : pushB h m x j = h j := if_neg e
theorem BRow.push (r : BRow m h) (hok : BOk x.c x.y) (hnz : x.a ≠ 0) (hlt : ∀ i, i < m → Bl (h i).c (h i).y x.c x.y) : BRow (m + 1) (pushB h m x) := by
  refine ⟨fun j hj => ?_, fun j hj => ?_, fun i j hi hj => ?_⟩
  · by_cases e : j = m
    · rw [e, pushB_at]; exact hok
    · rw [pushB_ne h x e]; exact r.ok j (by omega)
  · by_cases e : j = m
    · rw [e, pushB_at]; exact hnz
    · rw [pushB_ne h x e]; exact r.nz j (by omega)
  · rw [pushB_ne h x (show i ≠ m by omega)]
    by_cases e : j = m
    · rw [e, pushB_at]; exact hlt i (by omega)
    · rw [pushB_ne h x e]; exact r.asc i j hi (by omega)
theorem bget_push (h : Nat → Bk) (m : Nat) (x : Bk) (c y : Int) : bget (pushB h m x) (m + 1) c y = bget h m c y + bval x c y := by
  unfold bget
  rw [tot, pushB_at, tot_ext (h := fun j => bval (h j) c y) m fun j hj => by rw [pushB_ne h x (by omega)]]
theorem bget_succ (g : Nat → Bk) (k : Nat) (c y : Int) : bget g (k + 1) c y = bget g k c y + bval (g k) c y := rfl
/-- k rows of g are gone through; v stands at its place, or not yet -/
structure SetInv (g : Nat → Bk) (n k : Nat) (c y v : Int) (ins : Bool) (m : Nat) (h : Nat → Bk) : Prop where
  row : BRow m h
  val : ∀ c' y', bget h m c' y' = if c' = c ∧ y' = y then (if ins = true then v else 0) else bget g k c' y'
  ahead : ∀ i j, i < m → k ≤ j → j < n → Bl (h i).c (h i).y (g j).c (g j).y
  low : v ≠ 0 → ins = false → ∀ i, i < m → Bl (h i).c (h i).y c y
  insv : ins = true → v ≠ 0
  size : m ≤ k + 1 ∧ (ins = false → m ≤ k)
theorem SetInv.zero (g : Nat → Bk) (n : Nat) (c y v : Int) (h : Nat → Bk) : SetInv g n 0 c y v false 0 h :=
  ⟨⟨fun j hj => by omega, fun j hj => by omega, fun i j _ hj => by omega⟩, fun c' y' => by
    rw [if_neg (show ¬ (false = true) by decide)]
    split <;> rfl, fun i j hi => by omega, fun _ _ i hi => by omega, fun e => (by cases e), by omega, fun _ => by omega⟩
/-- the row of the place itself is left out -/
theorem SetInv.skip (s : SetInv g n k c y v ins m h) (hx : (g k).c = c ∧ (g k).y = y) : SetInv g n (k + 1) c y v ins m h := by
  refine ⟨s.row, fun c' y' => ?_, fun i j hi hj => s.ahead i j hi (by omega), s.low, s.insv, by have := s.size.1; omega, fun e => by have := s.size.2 e; omega⟩
  rw [s.val]
  split
  · rfl
  · rename_i q
    rw [bget_succ, show bval (g k) c' y' = 0 from if_neg fun e => q ⟨e.1.symm.trans hx.1, e.2.symm.trans hx.2⟩]; omega
/-- a row as it is -/
theorem SetInv.keep (s : SetInv g n k c y v ins m h) (r : BRow n g) (hk : k < n) (hx : ¬ ((g k).c = c ∧ (g k).y = y)) (hd : v = 0 ∨ ins = true ∨ ¬ Bl c y (g k).c (g k).y) : SetInv g n (k + 1) c y v ins (m + 1) (pushB h m (g k)) := by
  refine ⟨s.row.push (r.ok k hk) (r.nz k hk) fun i hi => s.ahead i k hi (Nat.le_refl _) hk, fun c' y' => ?_, fun i j hi hj hn => ?_, fun hv hi0 i hi => ?_, s.insv, by have := s.size.1; omega, fun e => by have := s.size.2 e; omega⟩
  · rw [bget_push, s.val]
    split
    · rename_i q
      rw [show bval (g k) c' y' = 0 from if_neg fun e => hx ⟨e.1.trans q.1, e.2.trans q.2⟩]; omega
    · rw [bget_succ]
  · by_cases e : i = m
    · rw [e, pushB_at]; exact r.asc k j (by omega) hn
    · rw [pushB_ne h _ e]; exact s.ahead i j (by omega) (by omega) hn
  · by_cases e : i = m
    · rw [e, pushB_at]
      rcases hd with h0 | h1 | h2
      · exact absurd h0 hv
      · rw [hi0] at h1; cases h1
      · unfold Bl at *
        omega
    · rw [pushB_ne h _ e]; exact s.low hv hi0 i (by omega)
/-- the place itself, ahead of a row that comes behind it -/
theorem SetInv.put (s : SetInv g n k c y v false m h) (hok : BOk c y) (hv : v ≠ 0) (hlt : ∀ j, k ≤ j → j < n → Bl c y (g j).c (g j).y) : SetInv g n k c y v true (m + 1) (pushB h m ⟨c, y, v⟩) := by
  refine ⟨s.row.push hok hv fun i hi => s.low hv rfl i hi, fun c' y' => ?_, fun i j hi hj hn => ?_, fun _ e => (by cases e), fun _ => hv, by have := s.size.2 rfl; omega, fun e => by cases e⟩
  · rw [bget_push, s.val]
    by_cases q : c' = c ∧ y' = y
    · have z : bval ⟨c, y, v⟩ c' y' = v := if_pos ⟨q.1.symm, q.2.symm⟩
      rw [if_pos q, if_pos q, z, if_neg (show ¬ (false = true) by decide), if_pos rfl]; omega
    · have z : bval ⟨c, y, v⟩ c' y' = 0 := if_neg fun e => q ⟨e.1.symm, e.2.symm⟩
      rw [if_neg q, if_neg q, z]; omega
  · by_cases e : i = m
    · rw [e, pushB_at]; exact hlt j hj hn
    · rw [pushB_ne h _ e]; exact s.ahead i j (by omega) hj hn
/-- what comes behind a row that comes behind the place, does so too -/
theorem behind (r : BRow n g) (hx : Bl c y (g k).c (g k).y) : ∀ j, k ≤ j → j < n → Bl c y (g j).c (g j).y := fun j hj hn => by
  rcases Nat.lt_or_ge k j with q | q
  · have := r.asc k j q hn
    unfold Bl at *; omega
  · obtain rfl : j = k := by omega
    exact hx
/-- all rows are gone through -/
theorem SetInv.done (s : SetInv g n n c y v ins m h) (b : BIs S n g) (hd : v = 0 ∨ ins = true) : BIs (upS S c y v) m h := by
  refine ⟨s.row, fun c' y' => ?_⟩
  rw [s.val, b.2]
  unfold upS
  split
  · split
    · rfl
    · rename_i q
      exact (hd.resolve_right q).symm
  · rfl
end
theorem BIs.mon {S : Int → Int → Int} {n : Nat} {g : Nat → Bk} (b : BIs S n g) (hS : ∀ c y, Mon (S c y)) {j : Nat} (hj : j < n) : Mon (g j).a := by
  rw [← b.at hj]; exact hS _ _
/-- a register: its rows, that they are not too many, that no bucket is too great, and all of them together not -/
structure BInv (S : Int → Int → Int) (n : Nat) (g : Nat → Bk) : Prop where
  is : BIs S n g
  le : n ≤ 12
  mon : ∀ c y, Mon (S c y)
  all : Mon (btot g n)
theorem BInv.zero (g : Nat → Bk) : BInv (fun _ _ => 0) 0 g := ⟨bis_zero g, by omega, fun _ _ => by unfold Mon; omega, by unfold btot Mon; simp [tot]⟩
/-- how many rows there are, when one bucket becomes another -/
def cntB (n : Nat) (old new : Int) : Int := n - (if old = 0 then 0 else 1) + (if new = 0 then 0 else 1)
/-- .. when so much goes from one into another -/
def cntR (n : Nat) (V U a : Int) : Int := cntB n V (V - a) - (if U = 0 then 0 else 1) + (if U + a = 0 then 0 else 1)
/-- why a move is refused: 0: it is not -/
inductive MErr (S : Int → Int → Int) (n : Nat) (T : Int) (c y a : Int) : Int → Prop
  | arg : ¬ (BOk c y ∧ Mon a) → MErr S n T c y a 1
  | over : BOk c y ∧ Mon a → ¬ (Mon (S c y + a) ∧ Mon (T + a)) → MErr S n T c y a 6
  | limit : BOk c y ∧ Mon a → Mon (S c y + a) ∧ Mon (T + a) → 12 < cntB n (S c y) (S c y + a) → MErr S n T c y a 5
  | ok : BOk c y ∧ Mon a → Mon (S c y + a) ∧ Mon (T + a) → cntB n (S c y) (S c y + a) ≤ 12 → MErr S n T c y a 0
/-- .. from one bucket into another -/
inductive RErr (S : Int → Int → Int) (n : Nat) (c y c' y' a : Int) : Int → Prop
  | arg : ¬ (BOk c y ∧ BOk c' y' ∧ Mon a ∧ ¬ (c = c' ∧ y = y')) → RErr S n c y c' y' a 1
  | over : (BOk c y ∧ BOk c' y' ∧ Mon a ∧ ¬ (c = c' ∧ y = y')) → ¬ (Mon (S c y - a) ∧ Mon (S c' y' + a)) → RErr S n c y c' y' a 6
  | limit : (BOk c y ∧ BOk c' y' ∧ Mon a ∧ ¬ (c = c' ∧ y = y')) → Mon (S c y - a) ∧ Mon (S c' y' + a) → 12 < cntR n (S c y) (S c' y') a → RErr S n c y c' y' a 5
  | ok : (BOk c y ∧ BOk c' y' ∧ Mon a ∧ ¬ (c = c' ∧ y = y')) → Mon (S c y - a) ∧ Mon (S c' y' + a) → cntR n (S c y) (S c' y') a ≤ 12 → RErr S n c y c' y' a 0
theorem merr_any (S : Int → Int → Int) (n : Nat) (T c y a : Int) : ∃ e, MErr S n T c y a e := by
  by_cases h1 : BOk c y ∧ Mon a
  · by_cases h2 : Mon (S c y + a) ∧ Mon (T + a)
    · by_cases h3 : cntB n (S c y) (S c y + a) ≤ 12
      · exact ⟨_, .ok h1 h2 h3⟩
      · exact ⟨_, .limit h1 h2 (by omega)⟩
    · exact ⟨_, .over h1 h2⟩
  · exact ⟨_, .arg h1⟩
theorem rerr_any (S : Int → Int → Int) (n : Nat) (c y c' y' a : Int) : ∃ e, RErr S n c y c' y' a e := by
  by_cases h1 : BOk c y ∧ BOk c' y' ∧ Mon a ∧ ¬ (c = c' ∧ y = y')
  · by_cases h2 : Mon (S c y - a) ∧ Mon (S c' y' + a)
    · by_cases h3 : cntR n (S c y) (S c' y') a ≤ 12
      · exact ⟨_, .ok h1 h2 h3⟩
      · exact ⟨_, .limit h1 h2 (by omega)⟩
    · exact ⟨_, .over h1 h2⟩
  · exact ⟨_, .arg h1⟩
theorem MErr.uniq {S : Int → Int → Int} {n : Nat} {T c y a e e' : Int} (h : MErr S n T c y a e) (h' : MErr S n T c y a e') : e = e' := by
  cases h <;> cases h' <;> first | rfl | contradiction | omega
theorem RErr.uniq {S : Int → Int → Int} {n : Nat} {c y c' y' a e e' : Int} (h : RErr S n c y c' y' a e) (h' : RErr S n c y c' y' a e') : e = e' := by
  cases h <;> cases h' <;> first | rfl | contradiction | omega
/-- the rows behind a set bucket are as many as that -/
theorem bis_count {S : Int → Int → Int} {n m : Nat} {g h : Nat → Bk} {c y v : Int} (b : BIs S n g) (hok : BOk c y) (b' : BIs (upS S c y v) m h) : (m : Int) = cntB n (S c y) v ∧ btot h m = btot g n - S c y + v := by
  obtain ⟨m', h', k1, k2, k3⟩ := bis_set b hok v
  obtain ⟨rfl, _⟩ := b'.uniq k1
  exact ⟨k3, (b'.total k1).trans k2⟩
end Go.Proofs.Ytdchihhekmbeiaa
