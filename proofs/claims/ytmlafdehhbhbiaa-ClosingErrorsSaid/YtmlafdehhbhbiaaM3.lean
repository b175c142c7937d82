/- Several texts of mine in one: VnMath VnMath2 VnMath3 RVint RVint2 RVint3 RVint4 RVint5. -/
import Derived.Test.YtmlafdehhbhbiaaM2
import Derived.Test.YtmlafdehhbhbiaaRows
import Derived.WalkKit
import Derived.WalkSpells
import Derived.WalkLawsBesides
import Derived.Lib.Hide
import Derived.IntWalk
import Derived.Deep.LoopGhost
import Derived.BigQuiet
import Derived.Deep.RegionLaw
import Derived.Deep.QuietTactic
import Derived.Laws.StructEq
/- Losses, as far as they are left: rows of them (a row's c is its expiry, its y its origin, its a what is left), ascending, none of them nothing; what a place has; one more, one changed, one gone: mathematics alone. -/
namespace Go.Proofs.Ytmlafdehhbhbiaa

/-- a place that may be -/
def VOk (c y : Int) : Prop := 0 ≤ y ∧ y ≤ 99 ∧ y ≤ c ∧ c ≤ 198
/-- rows of buckets: none of them 0, ascending -/
structure VRow (n : Nat) (g : Nat → Bk) : Prop where
  ok : ∀ j, j < n → VOk (g j).c (g j).y
  nz : ∀ j, j < n → (g j).a ≠ 0
  asc : ∀ i j, i < j → j < n → Bl (g i).c (g i).y (g j).c (g j).y
/-- the rows are those of S -/
def VIs (S : Int → Int → Int) (n : Nat) (g : Nat → Bk) : Prop := VRow n g ∧ ∀ c y, bget g n c y = S c y
section
variable {S : Int → Int → Int} {n m p : Nat} {g h : Nat → Bk} {c y v : Int}
/-- no two rows are of one place -/
theorem VRow.inj (r : VRow n g) {i j : Nat} (hi : i < n) (hj : j < n) (h1 : (g i).c = (g j).c) (h2 : (g i).y = (g j).y) : i = j := by
  rcases Nat.lt_trichotomy i j with q | q | q
  · have := r.asc i j q hj; rw [h1, h2] at this; exact absurd this (bl_irr _ _)
  · exact q
  · have := r.asc j i q hi; rw [h1, h2] at this; exact absurd this (bl_irr _ _)
theorem vget_at (r : VRow n g) {i : Nat} (hi : i < n) : bget g n (g i).c (g i).y = (g i).a := by
  unfold bget
  rw [tot_one _ i n hi fun j hj hne => ?_]
  · exact if_pos ⟨rfl, rfl⟩
  · exact if_neg fun e => hne (r.inj hj hi e.1 e.2)
theorem VIs.at (b : VIs S n g) {i : Nat} (hi : i < n) : S (g i).c (g i).y = (g i).a := (b.2 _ _).symm.trans (vget_at b.1 hi)
theorem VIs.has (b : VIs S n g) (h : S c y ≠ 0) : ∃ j, j < n ∧ (g j).c = c ∧ (g j).y = y := bget_some (by rw [b.2]; exact h)
theorem VIs.out (b : VIs S n g) (h : ¬ VOk c y) : S c y = 0 := by
  refine Classical.byContradiction fun q => ?_
  obtain ⟨j, hj, e1, e2⟩ := b.has q
  have := b.1.ok j hj
  rw [e1, e2] at this
  exact h this
theorem vis_zero (g : Nat → Bk) : VIs (fun _ _ => 0) 0 g := ⟨⟨fun j hj => by omega, fun j hj => by omega, fun i j _ hj => by omega⟩, fun _ _ => rfl⟩
/-- the rows of S are told by S -/
theorem vis_le (b : VIs S n g) (b' : VIs S m h) : ∀ j, j < n → j < m ∧ g j = h j := by
  intro j
  induction j using Nat.strongRecOn with
  | _ j ih =>
    intro hj
    have same : ∀ i k, i < n → k < m → (g i).c = (h k).c → (g i).y = (h k).y → (g i).a = (h k).a := fun i k hi hk e1 e2 => by
      rw [← b.at hi, ← b'.at hk, e1, e2]
    obtain ⟨k, hk, e1, e2⟩ := b'.has (c := (g j).c) (y := (g j).y) (by rw [b.at hj]; exact b.1.nz j hj)
    have hjk : j ≤ k := by
      rcases Nat.lt_or_ge k j with q | q
      · obtain ⟨_, e⟩ := ih k q (by omega)
        have := b.1.inj (i := k) (j := j) (by omega) hj (by rw [e]; exact e1) (by rw [e]; exact e2)
        omega
      · exact q
    refine ⟨by omega, ?_⟩
    rcases Nat.lt_or_ge j k with q | q
    · exfalso
      have lt := b'.1.asc j k q hk
      rw [e1, e2] at lt
      obtain ⟨i, hi, f1, f2⟩ := b.has (c := (h j).c) (y := (h j).y) (by rw [b'.at (show j < m by omega)]; exact b'.1.nz j (by omega))
      rcases Nat.lt_trichotomy i j with z | z | z
      · obtain ⟨_, e⟩ := ih i z hi
        have := b'.1.inj (i := i) (j := j) (by omega) (by omega) (by rw [← e]; exact f1) (by rw [← e]; exact f2)
        omega
      · subst z
        rw [f1, f2] at lt
        exact bl_irr _ _ lt
      · have l2 := b.1.asc j i z hi
        rw [f1, f2] at l2
        unfold Bl at lt l2; omega
    · obtain rfl : j = k := by omega
      have e3 := same j j hj hk e1.symm e2.symm
      cases hg : g j; cases hh : h j
      simp only [hg, hh] at e1 e2 e3
      subst e1 e2 e3; rfl
theorem VIs.uniq (b : VIs S n g) (b' : VIs S m h) : n = m ∧ ∀ j, j < n → g j = h j := by
  refine ⟨?_, fun j hj => (vis_le b b' j hj).2⟩
  rcases Nat.lt_trichotomy n m with q | q | q
  · have := (vis_le b' b n q).1; omega
  · exact q
  · have := (vis_le b b' m q).1; omega
theorem VIs.total (b : VIs S n g) (b' : VIs S m h) : btot g n = btot h m := by
  obtain ⟨rfl, e⟩ := b.uniq b'
  exact tot_ext n fun j hj => by show (g j).a = (h j).a; rw [e j hj]
/-- where a place belongs -/
theorem vplace (r : VRow n g) (c y : Int) : ∃ p, p ≤ n ∧ (∀ j, j < p → Bl (g j).c (g j).y c y) ∧ ∀ j, p ≤ j → j < n → ((g j).c = c ∧ (g j).y = y) ∨ Bl c y (g j).c (g j).y := by
  induction n with
  | zero => exact ⟨0, by omega, fun j hj => by omega, fun j _ hj => by omega⟩
  | succ n ih =>
    obtain ⟨p, h1, h2, h3⟩ := ih ⟨fun j hj => r.ok j (by omega), fun j hj => r.nz j (by omega), fun i j hi hj => r.asc i j hi (by omega)⟩
    by_cases q : p < n
    · refine ⟨p, by omega, h2, fun j hp hj => ?_⟩
      by_cases e : j = n
      · subst e
        have := r.asc p j q hj
        rcases h3 p (Nat.le_refl _) q with ⟨rfl, rfl⟩ | z
        · exact .inr this
        · right; unfold Bl at *; omega
      · exact h3 j hp (by omega)
    · obtain rfl : p = n := by omega
      by_cases z : Bl (g p).c (g p).y c y
      · refine ⟨p + 1, Nat.le_refl _, fun j hj => ?_, fun j hp hj => by omega⟩
        by_cases e : j = p
        · rw [e]; exact z
        · exact h2 j (by omega)
      · refine ⟨p, by omega, h2, fun j hp hj => ?_⟩
        obtain rfl : j = p := by omega
        unfold Bl at *; omega
/-- an amount put in vplace of another -/
theorem vis_rep (b : VIs S n g) (hp : p < n) (hv : v ≠ 0) : VIs (upS S (g p).c (g p).y v) n (repB g p ⟨(g p).c, (g p).y, v⟩) ∧ btot (repB g p ⟨(g p).c, (g p).y, v⟩) n = btot g n - (g p).a + v := by
  have hc : ∀ j, (repB g p ⟨(g p).c, (g p).y, v⟩ j).c = (g j).c ∧ (repB g p ⟨(g p).c, (g p).y, v⟩ j).y = (g j).y := fun j => by
    unfold repB
    split
    · rename_i e; subst e; exact ⟨rfl, rfl⟩
    · exact ⟨rfl, rfl⟩
  refine ⟨⟨⟨fun j hj => ?_, fun j hj => ?_, fun i j hi hj => ?_⟩, fun c y => ?_⟩, ?_⟩
  · rw [(hc j).1, (hc j).2]; exact b.1.ok j hj
  · unfold repB
    split
    · exact hv
    · exact b.1.nz j hj
  · rw [(hc i).1, (hc i).2, (hc j).1, (hc j).2]; exact b.1.asc i j hi hj
  · have e : bget (repB g p ⟨(g p).c, (g p).y, v⟩) n c y = bget g n c y - bval (g p) c y + bval ⟨(g p).c, (g p).y, v⟩ c y := by
      unfold bget
      rw [← tot_rep (fun j => bval (g j) c y) p _ n hp]
      refine tot_ext n fun j _ => ?_
      unfold repB
      split <;> rfl
    rw [e, b.2]
    unfold upS bval
    by_cases q : (g p).c = c ∧ (g p).y = y
    · have q' : c = (g p).c ∧ y = (g p).y := ⟨q.1.symm, q.2.symm⟩
      rw [if_pos q, if_pos q, if_pos q', ← b.at hp, q.1, q.2]; dsimp only; omega
    · have q' : ¬ (c = (g p).c ∧ y = (g p).y) := fun z => q ⟨z.1.symm, z.2.symm⟩
      rw [if_neg q, if_neg q, if_neg q']; omega
  · unfold btot
    rw [← tot_rep (fun j => (g j).a) p v n hp]
    refine tot_ext n fun j _ => ?_
    unfold repB
    split <;> rfl
theorem vis_del (b : VIs S (n + 1) g) (hp : p < n + 1) : VIs (upS S (g p).c (g p).y 0) n (delB g p) ∧ btot (delB g p) n = btot g (n + 1) - (g p).a := by
  have hd : ∀ j, j < n → delB g p j = g (if j < p then j else j + 1) := fun j _ => by
    unfold delB
    split <;> rfl
  have hlt : ∀ j, j < n → (if j < p then j else j + 1) < n + 1 := fun j hj => by split <;> omega
  refine ⟨⟨⟨fun j hj => ?_, fun j hj => ?_, fun i j hi hj => ?_⟩, fun c y => ?_⟩, ?_⟩
  · rw [hd j hj]; exact b.1.ok _ (hlt j hj)
  · rw [hd j hj]; exact b.1.nz _ (hlt j hj)
  · rw [hd i (by omega), hd j hj]
    exact b.1.asc _ _ (by split <;> split <;> omega) (hlt j hj)
  · have e := tot_del (fun j => bval (g j) c y) p n (by omega)
    have e' : bget (delB g p) n c y = tot (fun j => if j < p then bval (g j) c y else bval (g (j + 1)) c y) n := by
      unfold bget
      refine tot_ext n fun j _ => ?_
      unfold delB
      split <;> rfl
    have e2 := b.2 c y
    unfold bget at e2
    rw [e']
    unfold upS
    by_cases q : (g p).c = c ∧ (g p).y = y
    · have q' : c = (g p).c ∧ y = (g p).y := ⟨q.1.symm, q.2.symm⟩
      have z : bval (g p) c y = (g p).a := if_pos q
      have za := b.at hp
      rw [q.1, q.2] at za
      rw [if_pos q']
      simp only [z] at e; omega
    · have q' : ¬ (c = (g p).c ∧ y = (g p).y) := fun z => q ⟨z.1.symm, z.2.symm⟩
      have z : bval (g p) c y = 0 := if_neg q
      rw [if_neg q']
      simp only [z] at e; omega
  · have e := tot_del (fun j => (g j).a) p n (by omega)
    have e' : btot (delB g p) n = tot (fun j => if j < p then (g j).a else (g (j + 1)).a) n := by
      unfold btot
      refine tot_ext n fun j _ => ?_
      unfold delB
      split <;> rfl
    rw [e']
    unfold btot
    omega
theorem vis_ins (b : VIs S n g) (hp : p ≤ n) (hok : VOk c y) (hv : v ≠ 0) (h1 : ∀ j, j < p → Bl (g j).c (g j).y c y) (h2 : ∀ j, p ≤ j → j < n → Bl c y (g j).c (g j).y) :
    VIs (upS S c y v) (n + 1) (insB g p ⟨c, y, v⟩) ∧ btot (insB g p ⟨c, y, v⟩) (n + 1) = btot g n + v ∧ S c y = 0 := by
  have hS : S c y = 0 := by
    rw [← b.2]
    refine bget_none fun j hj e => ?_
    by_cases q : j < p
    · have := h1 j q; rw [e.1, e.2] at this; exact bl_irr _ _ this
    · have := h2 j (by omega) hj; rw [e.1, e.2] at this; exact bl_irr _ _ this
  refine ⟨⟨⟨fun j hj => ?_, fun j hj => ?_, fun i j hi hj => ?_⟩, fun c' y' => ?_⟩, ?_, hS⟩
  · unfold insB
    split
    · exact b.1.ok j (by omega)
    · split
      · exact hok
      · exact b.1.ok _ (by omega)
  · unfold insB
    split
    · exact b.1.nz j (by omega)
    · split
      · exact hv
      · exact b.1.nz _ (by omega)
  · unfold insB
    by_cases q1 : i < p
    · rw [if_pos q1]
      by_cases q2 : j < p
      · rw [if_pos q2]; exact b.1.asc i j hi (by omega)
      · rw [if_neg q2]
        by_cases q3 : j = p
        · rw [if_pos q3]; exact h1 i q1
        · rw [if_neg q3]; exact b.1.asc i (j - 1) (by omega) (by omega)
    · rw [if_neg q1, if_neg (show ¬ j < p by omega), if_neg (show ¬ j = p by omega)]
      by_cases q3 : i = p
      · rw [if_pos q3]; exact h2 (j - 1) (by omega) (by omega)
      · rw [if_neg q3]; exact b.1.asc (i - 1) (j - 1) (by omega) (by omega)
  · have e := tot_ins (fun j => bval (g j) c' y') p (bval ⟨c, y, v⟩ c' y') n hp
    have e' : bget (insB g p ⟨c, y, v⟩) (n + 1) c' y' = tot (fun j => if j < p then bval (g j) c' y' else if j = p then bval ⟨c, y, v⟩ c' y' else bval (g (j - 1)) c' y') (n + 1) := by
      unfold bget
      refine tot_ext (n + 1) fun j _ => ?_
      unfold insB
      split
      · rfl
      · split <;> rfl
    have e2 := b.2 c' y'
    unfold bget at e2
    rw [e', e, e2]
    unfold upS bval
    by_cases q : c' = c ∧ y' = y
    · rw [if_pos q, if_pos ⟨q.1.symm, q.2.symm⟩, q.1, q.2, hS]; dsimp only; omega
    · rw [if_neg q, if_neg fun z => q ⟨z.1.symm, z.2.symm⟩]; omega
  · unfold btot
    rw [← tot_ins (fun j => (g j).a) p v n hp]
    refine tot_ext (n + 1) fun j _ => ?_
    unfold insB
    split
    · rfl
    · split <;> rfl
/-- a bucket is set: there are such rows -/
theorem vis_set (b : VIs S n g) (hok : VOk c y) (v : Int) : ∃ m h, VIs (upS S c y v) m h ∧ btot h m = btot g n - S c y + v ∧ (m : Int) = n - (if S c y = 0 then 0 else 1) + (if v = 0 then 0 else 1) := by
  by_cases q : S c y = 0
  · by_cases hv : v = 0
    · subst hv
      have e := upS_same S c y
      rw [q] at e
      exact ⟨n, g, by rw [e]; exact b, by omega, by rw [if_pos q, if_pos rfl]; omega⟩
    · obtain ⟨p, h1, h2, h3⟩ := vplace b.1 c y
      obtain ⟨k1, k2, _⟩ := vis_ins b h1 hok hv h2 fun j hp hj => (h3 j hp hj).resolve_left fun e => by
        have := b.at hj
        rw [e.1, e.2, q] at this
        exact b.1.nz j hj this.symm
      exact ⟨n + 1, _, k1, by omega, by rw [if_pos q, if_neg hv]; omega⟩
  · obtain ⟨p, hp, rfl, rfl⟩ := b.has q
    have ha := b.at hp
    by_cases hv : v = 0
    · subst hv
      obtain ⟨n', rfl⟩ : ∃ n', n = n' + 1 := ⟨n - 1, by omega⟩
      obtain ⟨k1, k2⟩ := vis_del b hp
      exact ⟨n', _, k1, by omega, by rw [if_neg q, if_pos rfl]; omega⟩
    · obtain ⟨k1, k2⟩ := vis_rep b hp hv
      exact ⟨n, _, k1, by omega, by rw [if_neg q, if_neg hv]; omega⟩
end
section
variable {S : Int → Int → Int} {n m k : Nat} {g h : Nat → Bk} {c y v : Int} {x : Bk} {ins : Bool}
theorem VRow.push (r : VRow m h) (hok : VOk x.c x.y) (hnz : x.a ≠ 0) (hlt : ∀ i, i < m → Bl (h i).c (h i).y x.c x.y) : VRow (m + 1) (pushB h m x) := by
  refine ⟨fun j hj => ?_, fun j hj => ?_, fun i j hi hj => ?_⟩
  · by_cases e : j = m
    · rw [e, pushB_at]; exact hok
    · rw [pushB_ne h x e]; exact r.ok j (by omega)
  · by_cases e : j = m
    · rw [e, pushB_at]; exact hnz
    · rw [pushB_ne h x e]; exact r.nz j (by omega)
  · rw [pushB_ne h x (show i ≠ m by omega)]
    by_cases e : j = m
    · rw [e, pushB_at]; exact hlt i (by omega)
    · rw [pushB_ne h x e]; exact r.asc i j hi (by omega)
/-- k rows of g are gone through; v stands at its place, or not yet -/
structure VSet (g : Nat → Bk) (n k : Nat) (c y v : Int) (ins : Bool) (m : Nat) (h : Nat → Bk) : Prop where
  row : VRow m h
  val : ∀ c' y', bget h m c' y' = if c' = c ∧ y' = y then (if ins = true then v else 0) else bget g k c' y'
  ahead : ∀ i j, i < m → k ≤ j → j < n → Bl (h i).c (h i).y (g j).c (g j).y
  low : v ≠ 0 → ins = false → ∀ i, i < m → Bl (h i).c (h i).y c y
  insv : ins = true → v ≠ 0
  size : m ≤ k + 1 ∧ (ins = false → m ≤ k)
theorem VSet.zero (g : Nat → Bk) (n : Nat) (c y v : Int) (h : Nat → Bk) : VSet g n 0 c y v false 0 h :=
  ⟨⟨fun j hj => by omega, fun j hj => by omega, fun i j _ hj => by omega⟩, fun c' y' => by
    rw [if_neg (show ¬ (false = true) by decide)]
    split <;> rfl, fun i j hi => by omega, fun _ _ i hi => by omega, fun e => (by cases e), by omega, fun _ => by omega⟩
/-- the row of the place itself is left out -/
theorem VSet.skip (s : VSet g n k c y v ins m h) (hx : (g k).c = c ∧ (g k).y = y) : VSet g n (k + 1) c y v ins m h := by
  refine ⟨s.row, fun c' y' => ?_, fun i j hi hj => s.ahead i j hi (by omega), s.low, s.insv, by have := s.size.1; omega, fun e => by have := s.size.2 e; omega⟩
  rw [s.val]
  split
  · rfl
  · rename_i q
    rw [bget_succ, show bval (g k) c' y' = 0 from if_neg fun e => q ⟨e.1.symm.trans hx.1, e.2.symm.trans hx.2⟩]; omega
/-- a row as it is -/
theorem VSet.keep (s : VSet g n k c y v ins m h) (r : VRow n g) (hk : k < n) (hx : ¬ ((g k).c = c ∧ (g k).y = y)) (hd : v = 0 ∨ ins = true ∨ ¬ Bl c y (g k).c (g k).y) : VSet g n (k + 1) c y v ins (m + 1) (pushB h m (g k)) := by
  refine ⟨s.row.push (r.ok k hk) (r.nz k hk) fun i hi => s.ahead i k hi (Nat.le_refl _) hk, fun c' y' => ?_, fun i j hi hj hn => ?_, fun hv hi0 i hi => ?_, s.insv, by have := s.size.1; omega, fun e => by have := s.size.2 e; omega⟩
  · rw [bget_push, s.val]
    split
    · rename_i q
      rw [show bval (g k) c' y' = 0 from if_neg fun e => hx ⟨e.1.trans q.1, e.2.trans q.2⟩]; omega
    · rw [bget_succ]
  · by_cases e : i = m
    · rw [e, pushB_at]; exact r.asc k j (by omega) hn
    · rw [pushB_ne h _ e]; exact s.ahead i j (by omega) (by omega) hn
  · by_cases e : i = m
    · rw [e, pushB_at]
      rcases hd with h0 | h1 | h2
      · exact absurd h0 hv
      · rw [hi0] at h1; cases h1
      · unfold Bl at *
        omega
    · rw [pushB_ne h _ e]; exact s.low hv hi0 i (by omega)
/-- the place itself, ahead of a row that comes vbehind it -/
theorem VSet.put (s : VSet g n k c y v false m h) (hok : VOk c y) (hv : v ≠ 0) (hlt : ∀ j, k ≤ j → j < n → Bl c y (g j).c (g j).y) : VSet g n k c y v true (m + 1) (pushB h m ⟨c, y, v⟩) := by
  refine ⟨s.row.push hok hv fun i hi => s.low hv rfl i hi, fun c' y' => ?_, fun i j hi hj hn => ?_, fun _ e => (by cases e), fun _ => hv, by have := s.size.2 rfl; omega, fun e => by cases e⟩
  · rw [bget_push, s.val]
    by_cases q : c' = c ∧ y' = y
    · have z : bval ⟨c, y, v⟩ c' y' = v := if_pos ⟨q.1.symm, q.2.symm⟩
      rw [if_pos q, if_pos q, z, if_neg (show ¬ (false = true) by decide), if_pos rfl]; omega
    · have z : bval ⟨c, y, v⟩ c' y' = 0 := if_neg fun e => q ⟨e.1.symm, e.2.symm⟩
      rw [if_neg q, if_neg q, z]; omega
  · by_cases e : i = m
    · rw [e, pushB_at]; exact hlt j hj hn
    · rw [pushB_ne h _ e]; exact s.ahead i j (by omega) hj hn
/-- what comes vbehind a row that comes vbehind the vplace, does so too -/
theorem vbehind (r : VRow n g) (hx : Bl c y (g k).c (g k).y) : ∀ j, k ≤ j → j < n → Bl c y (g j).c (g j).y := fun j hj hn => by
  rcases Nat.lt_or_ge k j with q | q
  · have := r.asc k j q hn
    unfold Bl at *; omega
  · obtain rfl : j = k := by omega
    exact hx
/-- all rows are gone through -/
theorem VSet.done (s : VSet g n n c y v ins m h) (b : VIs S n g) (hd : v = 0 ∨ ins = true) : VIs (upS S c y v) m h := by
  refine ⟨s.row, fun c' y' => ?_⟩
  rw [s.val, b.2]
  unfold upS
  split
  · split
    · rfl
    · rename_i q
      exact (hd.resolve_right q).symm
  · rfl
end
theorem VIs.mon {S : Int → Int → Int} {n : Nat} {g : Nat → Bk} (b : VIs S n g) (hS : ∀ c y, Mon (S c y)) {j : Nat} (hj : j < n) : Mon (g j).a := by
  rw [← b.at hj]; exact hS _ _
/-- the rows vbehind a set bucket are as many as that -/
theorem vis_count {S : Int → Int → Int} {n m : Nat} {g h : Nat → Bk} {c y v : Int} (b : VIs S n g) (hok : VOk c y) (b' : VIs (upS S c y v) m h) : (m : Int) = cntB n (S c y) v ∧ btot h m = btot g n - S c y + v := by
  obtain ⟨m', h', k1, k2, k3⟩ := vis_set b hok v
  obtain ⟨rfl, _⟩ := b'.uniq k1
  exact ⟨k3, (b'.total k1).trans k2⟩
end Go.Proofs.Ytmlafdehhbhbiaa

/- Losses: what may be; a loss more; some less, some gone: mathematics alone. -/
namespace Go.Proofs.Ytmlafdehhbhbiaa

/-- losses as they may be -/
structure VInv (S : Int → Int → Int) (n : Nat) (g : Nat → Bk) : Prop where
  is : VIs S n g
  le : n ≤ 12
  pos : ∀ j, j < n → 0 ≤ (g j).a
  all : btot g n ≤ 100000000000
theorem VInv.zero (g : Nat → Bk) : VInv (fun _ _ => 0) 0 g := ⟨vis_zero g, by omega, fun j hj => by omega, by unfold btot; simp [tot]⟩
section
variable {S : Int → Int → Int} {n m k : Nat} {g h G : Nat → Bk} {c y a e e' : Int}
theorem VInv.low (iv : VInv S n g) : 0 ≤ btot g n := tot_nonneg n fun j hj => iv.pos j hj
theorem VInv.one (iv : VInv S n g) {j : Nat} (hj : j < n) : 1 ≤ (g j).a ∧ (g j).a ≤ btot g n := by
  have h1 := iv.pos j hj
  have h2 := iv.is.1.nz j hj
  have h3 := tot_one_le (g := fun j => (g j).a) n (fun j hj => iv.pos j hj) j hj
  exact ⟨by omega, h3⟩
theorem VInv.mon (iv : VInv S n g) {j : Nat} (hj : j < n) : Mon (g j).a := by
  have := iv.one hj
  have := iv.all
  unfold Mon; omega
/-- what a place has is not below 0, and not more than all -/
theorem VInv.at (iv : VInv S n g) (c y : Int) : 0 ≤ S c y ∧ S c y ≤ btot g n := by
  by_cases z : S c y = 0
  · rw [z]; exact ⟨Int.le_refl _, iv.low⟩
  · obtain ⟨j, hj, e1, e2⟩ := iv.is.has z
    have := iv.is.at hj
    rw [e1, e2] at this
    rw [this]
    have := iv.one hj
    omega
/-- why a loss may not be, or that it may -/
inductive AErr (S : Int → Int → Int) (n : Nat) (T c y a : Int) : Int → Prop
  | arg : ¬ (VOk c y ∧ 1 ≤ a ∧ a ≤ 100000000000) → AErr S n T c y a 1
  | over : VOk c y ∧ 1 ≤ a ∧ a ≤ 100000000000 → 100000000000 < T + a → AErr S n T c y a 6
  | limit : VOk c y ∧ 1 ≤ a ∧ a ≤ 100000000000 → T + a ≤ 100000000000 → S c y = 0 → 12 ≤ n → AErr S n T c y a 5
  | ok : VOk c y ∧ 1 ≤ a ∧ a ≤ 100000000000 → T + a ≤ 100000000000 → (S c y ≠ 0 ∨ n < 12) → AErr S n T c y a 0
theorem aerr_any (S : Int → Int → Int) (n : Nat) (T c y a : Int) : ∃ e, AErr S n T c y a e := by
  by_cases h1 : VOk c y ∧ 1 ≤ a ∧ a ≤ 100000000000
  · by_cases h2 : T + a ≤ 100000000000
    · by_cases h3 : S c y = 0 ∧ 12 ≤ n
      · exact ⟨5, .limit h1 h2 h3.1 h3.2⟩
      · exact ⟨0, .ok h1 h2 (by omega)⟩
    · exact ⟨6, .over h1 (by omega)⟩
  · exact ⟨1, .arg h1⟩
theorem AErr.uniq {T : Int} (h : AErr S n T c y a e) (h' : AErr S n T c y a e') : e = e' := by
  cases h with
  | arg p => cases h' with
    | arg _ => rfl
    | over q _ => exact absurd q p
    | limit q _ _ _ => exact absurd q p
    | ok q _ _ => exact absurd q p
  | over p p2 => cases h' with
    | arg q => exact absurd p q
    | over _ _ => rfl
    | limit _ q2 _ _ => omega
    | ok _ q2 _ => omega
  | limit p p2 p3 p4 => cases h' with
    | arg q => exact absurd p q
    | over _ q2 => omega
    | limit _ _ _ _ => rfl
    | ok _ _ q3 => omega
  | ok p p2 p3 => cases h' with
    | arg q => exact absurd p q
    | over _ q2 => omega
    | limit _ _ q3 q4 => omega
    | ok _ _ _ => rfl
/-- a loss more -/
theorem VInv.add (iv : VInv S n g) (h1 : VOk c y ∧ 1 ≤ a ∧ a ≤ 100000000000) (h2 : btot g n + a ≤ 100000000000) (h3 : S c y ≠ 0 ∨ n < 12) (b : VIs (upS S c y (S c y + a)) m h) : VInv (upS S c y (S c y + a)) m h ∧ btot h m = btot g n + a := by
  obtain ⟨k1, k2⟩ := vis_count iv.is h1.1 b
  have hs := iv.at c y
  have hn := iv.le
  refine ⟨⟨b, ?_, fun j hj => ?_, by omega⟩, by omega⟩
  · unfold cntB at k1
    rw [if_neg (show ¬ S c y + a = 0 by omega)] at k1
    rcases h3 with h3 | h3
    · rw [if_neg h3] at k1; omega
    · split at k1 <;> omega
  · rw [← b.at hj]
    unfold upS
    split
    · omega
    · exact (iv.at _ _).1
/-- some rows are kept, of those that have something -/
structure Flt (n : Nat) (G : Nat → Bk) (k m : Nat) (h : Nat → Bk) : Prop where
  row : VRow m h
  val : ∀ c y, bget h m c y = bget G k c y
  sum : btot h m = btot G k
  ahead : ∀ i j, i < m → k ≤ j → j < n → Bl (h i).c (h i).y (G j).c (G j).y
  le : m ≤ k
theorem Flt.zero (n : Nat) (G h : Nat → Bk) : Flt n G 0 0 h := ⟨⟨fun j hj => by omega, fun j hj => by omega, fun i j _ hj => by omega⟩, fun _ _ => rfl, rfl, fun i j hi => by omega, Nat.le_refl _⟩
theorem Flt.skip (f : Flt n G k m h) (hz : (G k).a = 0) : Flt n G (k + 1) m h :=
  ⟨f.row, fun c y => by
    rw [bget_succ, f.val, show bval (G k) c y = 0 by unfold bval; split <;> first | exact hz | rfl]; omega,
    by rw [f.sum]; show btot G k = btot G k + (G k).a; omega, fun i j hi hj => f.ahead i j hi (by omega), by have := f.le; omega⟩
theorem Flt.keep (f : Flt n G k m h) (hk : k < n) (hok : ∀ j, j < n → VOk (G j).c (G j).y) (hasc : ∀ i j, i < j → j < n → Bl (G i).c (G i).y (G j).c (G j).y) (hz : (G k).a ≠ 0) : Flt n G (k + 1) (m + 1) (pushB h m (G k)) := by
  refine ⟨f.row.push (hok k hk) hz fun i hi => f.ahead i k hi (Nat.le_refl _) hk, fun c y => by rw [bget_push, f.val, bget_succ], ?_, fun i j hi hj hn => ?_, by have := f.le; omega⟩
  · show btot (pushB h m (G k)) m + (pushB h m (G k) m).a = btot G k + (G k).a
    rw [pushB_at, ← f.sum]
    refine congrArg (· + (G k).a) (tot_ext m fun j hj => ?_)
    rw [pushB_ne h _ (show j ≠ m by omega)]
  · by_cases e : i = m
    · rw [e, pushB_at]; exact hasc k j (by omega) hn
    · rw [pushB_ne h _ e]; exact f.ahead i j (by omega) (by omega) hn
theorem Flt.done (f : Flt n G n m h) : VIs (bget G n) m h := ⟨f.row, f.val⟩
theorem flt_any (hok : ∀ j, j < n → VOk (G j).c (G j).y) (hasc : ∀ i j, i < j → j < n → Bl (G i).c (G i).y (G j).c (G j).y) (h0 : Nat → Bk) : ∀ k, k ≤ n → ∃ m h, Flt n G k m h
  | 0, _ => ⟨0, h0, Flt.zero _ _ _⟩
  | k + 1, hk => by
    obtain ⟨m, h, f⟩ := flt_any hok hasc h0 k (by omega)
    by_cases z : (G k).a = 0
    · exact ⟨m, h, f.skip z⟩
    · exact ⟨m + 1, _, f.keep (by omega) hok hasc z⟩
/-- what is left of losses, each some less -/
def lessG (g : Nat → Bk) (u : Nat → Int) : Nat → Bk := fun j => ⟨(g j).c, (g j).y, (g j).a - u j⟩
theorem VInv.less (iv : VInv S n g) {u : Nat → Int} (hu : ∀ j, j < n → 0 ≤ u j ∧ u j ≤ (g j).a) (f : Flt n (lessG g u) n m h) : VInv (bget (lessG g u) n) m h ∧ btot h m = btot g n - tot u n := by
  have e : btot (lessG g u) n = btot g n - tot u n := by
    unfold btot
    have : ∀ k, tot (fun j => (lessG g u j).a) k = tot (fun j => (g j).a) k - tot u k := by
      intro k
      induction k with
      | zero => rfl
      | succ k ih => rw [tot, tot, tot, ih]; show _ + ((g k).a - u k) = _; omega
    exact this n
  have hu0 : 0 ≤ tot u n := tot_nonneg n fun j hj => (hu j hj).1
  have hl := f.le
  have hle := iv.le
  have hal := iv.all
  refine ⟨⟨f.done, by omega, fun j hj => ?_, by rw [f.sum, e]; omega⟩, by rw [f.sum, e]⟩
  rw [← f.done.at hj]
  show 0 ≤ bget (lessG g u) n (h j).c (h j).y
  refine tot_nonneg n fun i hi => ?_
  show 0 ≤ bval (lessG g u i) _ _
  unfold bval
  split
  · show 0 ≤ (g i).a - u i
    have := hu i hi; omega
  · exact Int.le_refl _
/-- what expires ahead of a year -/
def goneU (g : Nat → Bk) (year : Int) : Nat → Int := fun j => if (g j).c < year then (g j).a else 0
theorem VInv.gone (iv : VInv S n g) (year : Int) : ∀ j, j < n → 0 ≤ goneU g year j ∧ goneU g year j ≤ (g j).a := fun j hj => by
  have := iv.one hj
  unfold goneU; split <;> omega
end
end Go.Proofs.Ytmlafdehhbhbiaa

/- A loss more, row by row: mathematics alone. -/
namespace Go.Proofs.Ytmlafdehhbhbiaa

/-- k rows are gone through; the loss stands in its place, or its place was not met -/
structure AIn (g : Nat → Bk) (n k : Nat) (c y X : Int) (ins : Bool) (m : Nat) (h : Nat → Bk) : Prop where
  set : VSet g n k c y X ins m h
  new : ins = false → ∀ j, j < k → ¬ ((g j).c = c ∧ (g j).y = y)
section
variable {S : Int → Int → Int} {n m k : Nat} {g h : Nat → Bk} {c y a X : Int} {ins : Bool}
theorem AIn.zero (g : Nat → Bk) (n : Nat) (c y X : Int) (h : Nat → Bk) : AIn g n 0 c y X false 0 h := ⟨VSet.zero _ _ _ _ _ _, fun _ j hj => by omega⟩
theorem AIn.fresh (s : AIn g n k c y X ins m h) (hk : k < n) (hx : (g k).c = c ∧ (g k).y = y) : ins = false := by
  cases e : ins with
  | false => rfl
  | true =>
    exfalso
    subst e
    have hv := s.set.val c y
    rw [if_pos ⟨rfl, rfl⟩, if_pos rfl] at hv
    obtain ⟨i, hi, e1, e2⟩ := bget_some (g := h) (n := m) (c := c) (y := y) (by rw [hv]; exact s.set.insv rfl)
    have := s.set.ahead i k hi (Nat.le_refl _) hk
    rw [e1, e2, hx.1, hx.2] at this
    exact bl_irr _ _ this
theorem AIn.same (s : AIn g n k c y X ins m h) (b : VIs S n g) (hX : X = S c y + a) (h0 : X ≠ 0) (hok : VOk c y) (hk : k < n) (hx : (g k).c = c ∧ (g k).y = y) :
    AIn g n (k + 1) c y X true (m + 1) (pushB h m ⟨c, y, X⟩) ∧ (g k).a + a = X := by
  have e := s.fresh hk hx
  subst e
  refine ⟨⟨(s.set.skip hx).put hok h0 fun j hj hn => ?_, fun e => by cases e⟩, ?_⟩
  · have := b.1.asc k j (by omega) hn
    rw [hx.1, hx.2] at this
    exact this
  · have := b.at hk
    rw [hx.1, hx.2] at this
    omega
theorem AIn.ahead (s : AIn g n k c y X ins m h) (b : VIs S n g) (hk : k < n) (hx : ¬ ((g k).c = c ∧ (g k).y = y)) (hd : ins = true ∨ ¬ Bl c y (g k).c (g k).y) : AIn g n (k + 1) c y X ins (m + 1) (pushB h m (g k)) :=
  ⟨s.set.keep b.1 hk hx (.inr hd), fun e j hj => by
    by_cases q : j = k
    · rw [q]; exact hx
    · exact s.new e j (by omega)⟩
theorem AIn.none (s : AIn g n k c y X false m h) (b : VIs S n g) (hl : ∀ j, k ≤ j → j < n → Bl c y (g j).c (g j).y) : S c y = 0 := by
  refine Classical.byContradiction fun z => ?_
  obtain ⟨j, hj, e1, e2⟩ := b.has z
  by_cases q : j < k
  · exact s.new rfl j q ⟨e1, e2⟩
  · have := hl j (by omega) hj
    rw [e1, e2] at this
    exact bl_irr _ _ this
theorem AIn.between (s : AIn g n k c y X false m h) (b : VIs S n g) (hX : X = S c y + a) (h0 : X ≠ 0) (hok : VOk c y) (hk : k < n) (hl : Bl c y (g k).c (g k).y) :
    a = X ∧ AIn g n (k + 1) c y X true (m + 1 + 1) (pushB (pushB h m ⟨c, y, X⟩) (m + 1) (g k)) := by
  have hb := vbehind b.1 hl
  have z := s.none b hb
  refine ⟨by omega, ⟨(s.set.put hok h0 hb).keep b.1 hk (fun e => ?_) (.inr (.inl rfl)), fun e => by cases e⟩⟩
  rw [e.1, e.2] at hl
  exact bl_irr _ _ hl
theorem AIn.last (s : AIn g n n c y X false m h) (b : VIs S n g) (hX : X = S c y + a) (h0 : X ≠ 0) (hok : VOk c y) : a = X ∧ VIs (upS S c y X) (m + 1) (pushB h m ⟨c, y, X⟩) := by
  have z := s.none b fun j hj hn => by omega
  exact ⟨by omega, (s.set.put hok h0 fun j hj hn => by omega).done b (.inr rfl)⟩
theorem AIn.fin (s : AIn g n n c y X true m h) (b : VIs S n g) : VIs (upS S c y X) m h := s.set.done b (.inr rfl)
end
end Go.Proofs.Ytmlafdehhbhbiaa

/- The document's own losses: what is left, a copy: a contract for each; its rows. -/
namespace Go.Proofs.Ytmlafdehhbhbiaa
open Go.RowKit

/-- the three cells of a loss -/
def ve (x : Bk) : List Value := [.int .i64 x.y, .int .i64 x.c, .int .i64 x.a]
theorem ve_len (x : Bk) : (ve x).length = 3 := rfl
theorem ve_one (x : Bk) : ∀ u ∈ ve x, u.oneCell' = true := by
  intro u hu
  unfold ve at hu
  simp only [List.mem_cons, List.not_mem_nil, or_false] at hu
  rcases hu with rfl | rfl | rfl <;> rfl
theorem vn_info : (Try.prog.info? 78).map (fun i => (i.zero, i.size, i.bytes)) = some (some (.agg #[.int .i64 0, .int .i64 0, .int .i64 0]), 3, 24) := by kernel_rfl
theorem vn_type : Try.prog.underlying 74 = some (.slice 78) := Try.underlying74
/-- losses behind block sb, whose mark is t: rows of them -/
structure LV (w : World) (O : Nat → Nat) (base t sb : Nat) (v : Value) (n : Nat) (g : Nat → Bk) : Prop where
  hd : Head w O t sb [v]
  row : RowT w O base t sb 78 3 v n (rl ve g n)
section
variable {w w1 : World} {O O1 : Nat → Nat} {base t t' sb n : Nat} {v : Value} {g : Nat → Bk} {S : Int → Int → Int}
theorem LV.below (s : LV w O base t sb v n g) (k : Below w.heap.size w w1) : LV w1 O base t sb v n g := ⟨s.hd.below k, s.row.below k⟩
theorem LV.step (s : LV w O base t sb v n g) (k : Step base O t' w O1 w1) (h : t ≠ t') : LV w1 O1 base t sb v n g := ⟨s.hd.step k h, s.row.step k h⟩
theorem LV.own (s : LV w O base t sb v n g) : OwnR ve 3 w 78 base v n g := s.row.own
theorem LV.new (fn : Fin0 base O w) (hb : base ≤ w.heap.size) (T : TypeId) (g : Nat → Bk) :
    LV (w.alloc (.cells #[.slice none 0 0] T)) (mark O t w.heap.size) base t w.heap.size (.slice none 0 0) 0 g ∧ ∀ t', Step base O t' w (mark O t w.heap.size) (w.alloc (.cells #[.slice none 0 0] T)) :=
  ⟨⟨Head.new w O t _ T, RowT.nil _ _ _ _ _ _ _⟩, fun t' => Step.made fn hb _ t'⟩
theorem LV.at (s : LV w O base t sb v n g) : ∃ A c, v = .slice A n c ∧ n ≤ c ∧ c ≤ maxLen ∧ (A = none → n = 0 ∧ c = 0) ∧ AtR ve 3 w A n g := s.own.at ve_len
theorem AtR.threeV {A : Option Addr} (r : AtR ve 3 w A n g) {k : Nat} (hk : k < n) : ∃ b off, A = Option.some ⟨b, off, none⟩ ∧ b < w.heap.size ∧ w.cell? ⟨b, off + k * 3, none⟩ = Option.some (.int .i64 (g k).y) ∧ w.cell? ⟨b, off + k * 3 + 1, none⟩ = Option.some (.int .i64 (g k).c) ∧ w.cell? ⟨b, off + k * 3 + 2, none⟩ = Option.some (.int .i64 (g k).a) := by
  obtain ⟨b, off, e, hb, hc⟩ := r.some (by omega)
  exact ⟨b, off, e, hb, hc k hk 0 _ rfl, hc k hk 1 _ rfl, hc k hk 2 _ rfl⟩
/-- rows of the call's own become the losses' -/
theorem LV.takes (s : LV w O base t sb v n g) (fn : Fin0 base O w) (hb : base ≤ w.heap.size) (b : Below w.heap.size w w1) {v' : Value} {m : Nat} {h : Nat → Bk} (o : OwnR ve 3 w1 78 w.heap.size v' m h) :
    ∃ O', LV (w1.setCell ⟨sb, 0, none⟩ v') O' base t sb v' m h ∧ Step base O t w O' (w1.setCell ⟨sb, 0, none⟩ v') := by
  obtain ⟨O1, m1, st1⟩ := fresh_marked fn hb b o t
  have hd1 : Head w1 O1 t sb [v] := (s.hd.below b).block (O1 := O1) rfl (Nat.le_refl _) ((st1 t).ext sb s.hd.lt)
  have lt := s.hd.lt
  have k2 := Step.set (t := t) (st1 t).fin 0 v' hd1.tag
  refine ⟨O1, ⟨hd1.set 0 v' (by simp), ⟨?_, fun x hx => ⟨(m1 x hx).1, ?_⟩⟩⟩, (st1 t).trans k2⟩
  · refine own_blocks (own_mono o hb) fun x hx => Below.heap_setCell _ _ _ _ ?_
    have := (World.ownsRow.lt o x hx).1
    show x ≠ sb
    omega
  · have := (World.ownsRow.lt o x hx).1
    omega
end
end Go.Proofs.Ytmlafdehhbhbiaa

/- The document's own losses: Add: a contract. -/
namespace Go.Proofs.Ytmlafdehhbhbiaa
open Go.RowKit

section
variable {w w1 : World} {O O1 : Nat → Nat} {base t t' sb n : Nat} {v : Value} {g : Nat → Bk} {S : Int → Int → Int}
end
end Go.Proofs.Ytmlafdehhbhbiaa

/- The document's own losses: Expire: a contract. -/
namespace Go.Proofs.Ytmlafdehhbhbiaa
open Go.RowKit

theorem tot_upto {g : Nat → Int} {n k : Nat} (h : ∀ j, j < n → 0 ≤ g j) (hk : k ≤ n) : 0 ≤ tot g k ∧ tot g k ≤ tot g n := by
  refine ⟨tot_nonneg k fun j hj => h j (by omega), ?_⟩
  obtain ⟨d, rfl⟩ : ∃ d, n = k + d := ⟨n - k, by omega⟩
  clear hk
  induction d with
  | zero => exact Int.le_refl _
  | succ d ih =>
    have a := ih fun j hj => h j (by omega)
    have b := h (k + d) (by omega)
    show tot g k ≤ tot g (k + d) + g (k + d)
    omega
section
variable {w w1 : World} {O O1 : Nat → Nat} {base t t' sb n : Nat} {v : Value} {g : Nat → Bk} {S : Int → Int → Int}
/-- what goes is not more than there is -/
theorem VInv.goes (iv : VInv S n g) {u : Nat → Int} (hu : ∀ j, j < n → 0 ≤ u j ∧ u j ≤ (g j).a) {k : Nat} (hk : k ≤ n) : 0 ≤ tot u k ∧ tot u k ≤ 100000000000 := by
  have h1 := tot_upto (g := u) (fun j hj => (hu j hj).1) hk
  have h2 : tot u n ≤ btot g n := tot_le n fun j hj => (hu j hj).2
  have h3 := iv.all
  omega
end
end Go.Proofs.Ytmlafdehhbhbiaa

/- The document's own losses: Take: a contract. -/
namespace Go.Proofs.Ytmlafdehhbhbiaa
open Go.RowKit

section
variable {w w1 : World} {O O1 : Nat → Nat} {base t t' sb n : Nat} {v : Value} {g : Nat → Bk} {S : Int → Int → Int}
/-- as many numbers as there are losses, each within what is left -/
def UOk (n : Nat) (g : Nat → Bk) (q : Nat) (u : Nat → Int) : Prop := q = n ∧ ∀ j, j < n → 0 ≤ u j ∧ u j ≤ (g j).a
end
end Go.Proofs.Ytmlafdehhbhbiaa

/- The document's losses in a law's hands: a contract for each call; rows told alike. -/
namespace Go.Proofs.Ytmlafdehhbhbiaa
open Go.RowKit

/-- what is in the losses behind an answer -/
def adS (e : Int) (S : Int → Int → Int) (c y a : Int) : Int → Int → Int := if e = 0 then upS S c y (S c y + a) else S
def xpS (S : Int → Int → Int) (year : Int) : Int → Int → Int := fun c y => if c < year then 0 else S c y
def tkS (r : Int) (S : Int → Int → Int) (m : Nat) (g : Nat → Bk) (u : Nat → Int) : Int → Int → Int := if r = 0 then bget (lessG g u) m else S
/-- may it be taken? -/
def TkErr (m : Nat) (g : Nat → Bk) (q : Nat) (u : Nat → Int) (r : Int) : Prop := (UOk m g q u ∧ r = 0) ∨ (¬ UOk m g q u ∧ r = 1)
theorem tkerr_any (m : Nat) (g : Nat → Bk) (q : Nat) (u : Nat → Int) : ∃ r, TkErr m g q u r := by
  by_cases h : UOk m g q u
  · exact ⟨0, .inl ⟨h, rfl⟩⟩
  · exact ⟨1, .inr ⟨h, rfl⟩⟩
theorem bget_ext {g h : Nat → Bk} {n : Nat} (e : ∀ j, j < n → g j = h j) : bget g n = bget h n := by
  funext c y
  exact tot_ext n fun j hj => by rw [e j hj]
theorem less_ext {g h : Nat → Bk} {n : Nat} (u : Nat → Int) (e : ∀ j, j < n → g j = h j) : bget (lessG g u) n = bget (lessG h u) n := bget_ext fun j hj => by unfold lessG; rw [e j hj]
theorem less_gone {S : Int → Int → Int} {n : Nat} {g : Nat → Bk} (b : VIs S n g) (year : Int) : bget (lessG g (goneU g year)) n = xpS S year := by
  funext c y
  unfold xpS
  split
  · rename_i h
    refine tot_zero n fun j _ => ?_
    show bval (lessG g (goneU g year) j) c y = 0
    unfold bval lessG goneU
    dsimp only
    split
    · rename_i q
      rw [if_pos (by omega)]; omega
    · rfl
  · rename_i h
    rw [← b.2]
    refine tot_ext n fun j _ => ?_
    show bval (lessG g (goneU g year) j) c y = bval (g j) c y
    unfold bval lessG goneU
    dsimp only
    split
    · rename_i q
      rw [if_neg (by omega)]; omega
    · rfl
/-- the document's losses in a law's hands -/
structure NowL (w0 w : World) (O : Nat → Nat) (t sb : Nat) (S : Int → Int → Int) : Prop where
  st : ∃ v n g, LV w O w0.heap.size t sb v n g ∧ VInv S n g
  fin : Fin0 w0.heap.size O w
  low : Below w0.heap.size w0 w
section
variable {w0 w w1 : World} {O O1 : Nat → Nat} {t t' sb n : Nat} {g : Nat → Bk} {S : Int → Int → Int}
theorem NowL.below (h : NowL w0 w O t sb S) (k : Below w.heap.size w w1) : NowL w0 w1 O t sb S := by
  obtain ⟨v, n, g, s, iv⟩ := h.st
  exact ⟨⟨v, n, g, s.below k, iv⟩, h.fin.below k, h.low.trans (k.mono h.low.size)⟩
theorem NowL.step (h : NowL w0 w O t sb S) (k : Step w0.heap.size O t' w O1 w1) (h1 : t ≠ t') (h2 : t' ≠ 0) : NowL w0 w1 O1 t sb S := by
  obtain ⟨v, n, g, s, iv⟩ := h.st
  exact ⟨⟨v, n, g, s.step k h1, iv⟩, k.fin, h.low.trans (k.below h.fin h2 h.low.size)⟩
theorem nowl_new (w0 w : World) (O : Nat → Nat) (fn : Fin0 w0.heap.size O w) (lo : Below w0.heap.size w0 w) (T : TypeId) (t : Nat) :
    NowL w0 (w.alloc (.cells #[.slice none 0 0] T)) (mark O t w.heap.size) t w.heap.size (fun _ _ => 0) ∧ ∀ t', Step w0.heap.size O t' w (mark O t w.heap.size) (w.alloc (.cells #[.slice none 0 0] T)) := by
  obtain ⟨a, b⟩ := LV.new (t := t) fn lo.size T (fun _ => ⟨0, 0, 0⟩)
  exact ⟨⟨⟨_, _, _, a, VInv.zero _⟩, (b 0).fin, lo.alloc lo.size _⟩, b⟩
/-- what there is -/
theorem NowL.told (h : NowL w0 w O t sb S) : ∃ n g, VInv S n g := by
  obtain ⟨v, n, g, _, iv⟩ := h.st
  exact ⟨n, g, iv⟩
end
end Go.Proofs.Ytmlafdehhbhbiaa
