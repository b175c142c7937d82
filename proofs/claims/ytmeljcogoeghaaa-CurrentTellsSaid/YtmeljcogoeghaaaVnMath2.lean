/- Losses: what may be; a loss more; some less, some gone: mathematics alone. -/
import Derived.Test.YtmeljcogoeghaaaVnMath
namespace Go.Proofs.Ytmeljcogoeghaaa

/-- losses as they may be -/
structure VInv (S : Int → Int → Int) (n : Nat) (g : Nat → Bk) : Prop where
  is : VIs S n g
  le : n ≤ 12
  pos : ∀ j, j < n → 0 ≤ (g j).a
  all : btot g n ≤ 100000000000
theorem VInv.zero (g : Nat → Bk) : VInv (fun _ _ => 0) 0 g := ⟨vis_zero g, by omega, fun j hj => by omega, by unfold btot; simp [tot]⟩
section
variable {S : Int → Int → Int} {n m k : Nat} {g h G : Nat → Bk} {c y a e e' : Int}
theorem VInv.low (iv : VInv S n g) : 0 ≤ btot g n := tot_nonneg n fun j hj => iv.pos j hj
theorem VInv.one (iv : VInv S n g) {j : Nat} (hj : j < n) : 1 ≤ (g j).a ∧ (g j).a ≤ btot g n := by
  have h1 := iv.pos j hj
  have h2 := iv.is.1.nz j hj
  have h3 := tot_one_le (g := fun j => (g j).a) n (fun j hj => iv.pos j hj) j hj
  exact ⟨by omega, h3⟩
theorem VInv.mon (iv : VInv S n g) {j : Nat} (hj : j < n) : Mon (g j).a := by
  have := iv.one hj
  have := iv.all
  unfold Mon; omega
/-- what a place has is not below 0, and not more than all -/
theorem VInv.at (iv : VInv S n g) (c y : Int) : 0 ≤ S c y ∧ S c y ≤ btot g n := by
  by_cases z : S c y = 0
  · rw [z]; exact ⟨Int.le_refl _, iv.low⟩
  · obtain ⟨j, hj, e1, e2⟩ := iv.is.has z
    have := iv.is.at hj
    rw [e1, e2] at this
    rw [this]
    have := iv.one hj
    omega
/-- why a loss may not be, or that it may -/
inductive AErr (S : Int → Int → Int) (n : Nat) (T c y a : Int) : Int → Prop
  | arg : ¬ (VOk c y ∧ 1 ≤ a ∧ a ≤ 100000000000) → AErr S n T c y a 1
  | over : VOk c y ∧ 1 ≤ a ∧ a ≤ 100000000000 → 100000000000 < T + a → AErr S n T c y a 6
  | limit : VOk c y ∧ 1 ≤ a ∧ a ≤ 100000000000 → T + a ≤ 100000000000 → S c y = 0 → 12 ≤ n → AErr S n T c y a 5
  | ok : VOk c y ∧ 1 ≤ a ∧ a ≤ 100000000000 → T + a ≤ 100000000000 → (S c y ≠ 0 ∨ n < 12) → AErr S n T c y a 0
theorem aerr_any (S : Int → Int → Int) (n : Nat) (T c y a : Int) : ∃ e, AErr S n T c y a e := by
  by_cases h1 : VOk c y ∧ 1 ≤ a ∧ a ≤ 100000000000
  · by_cases h2 : T + a ≤ 100000000000
    · by_cases h3 : S c y = 0 ∧ 12 ≤ n
      · exact ⟨5, .limit h1 h2 h3.1 h3.2⟩
      · exact ⟨0, .ok h1 h2 (by omega)⟩
    · exact ⟨6, .over h1 (by omega)⟩
  · exact ⟨1, .arg h1⟩
theorem AErr.uniq {T : Int} (h : AErr S n T c y a e) (h' : AErr S n T c y a e') : e = e' := by
  cases h with
  | arg p => cases h' with
    | arg _ => rfl
    | over q _ => exact absurd q p
    | limit q _ _ _ => exact absurd q p
    | ok q _ _ => exact absurd q p
  | over p p2 => cases h' with
    | arg q => exact absurd p q
    | over _ _ => rfl
    | limit _ q2 _ _ => omega
    | ok _ q2 _ => omega
  | limit p p2 p3 p4 => cases h' with
    | arg q => exact absurd p q
    | over _ q2 => omega
    | limit _ _ _ _ => rfl
    | ok _ _ q3 => omega
  | ok p p2 p3 => cases h' with
    | arg q => exact absurd p q
    | over _ q2 => omega
    | limit _ _ q3 q4 => omega
    | ok _ _ _ => rfl
/-- a loss more -/
theorem VInv.add (iv : VInv S n g) (h1 : VOk c y ∧ 1 ≤ a ∧ a ≤ 100000000000) (h2 : btot g n + a ≤ 100000000000) (h3 : S c y ≠ 0 ∨ n < 12) (b : VIs (upS S c y (S c y + a)) m h) : VInv (upS S c y (S c y + a)) m h ∧ btot h m = btot g n + a := by
  obtain ⟨k1, k2⟩ := vis_count iv.is h1.1 b
  have hs := iv.at c y
  have hn := iv.le
  refine ⟨⟨b, ?_, fun j hj => ?_, by omega⟩, by omega⟩
  · unfold cntB at k1
    rw [if_neg (show ¬ S c y + a = 0 by omega)] at k1
    rcases h3 with h3 | h3
    · rw [if_neg h3] at k1; omega
    · split at k1 <;> omega
  · rw [← b.at hj]
    unfold upS
    split
    · omega
    · exact (iv.at _ _).1
/-- some rows are kept, of those that have something -/
structure Flt (n : Nat) (G : Nat → Bk) (k m : Nat) (h : Nat → Bk) : Prop where
  row : VRow m h
  val : ∀ c y, bget h m c y = bget G k c y
  sum : btot h m = btot G k
  ahead : ∀ i j, i < m → k ≤ j → j < n → Bl (h i).c (h i).y (G j).c (G j).y
  le : m ≤ k
theorem Flt.zero (n : Nat) (G h : Nat → Bk) : Flt n G 0 0 h := ⟨⟨fun j hj => by omega, fun j hj => by omega, fun i j _ hj => by omega⟩, fun _ _ => rfl, rfl, fun i j hi => by omega, Nat.le_refl _⟩
theorem Flt.skip (f : Flt n G k m h) (hz : (G k).a = 0) : Flt n G (k + 1) m h :=
  ⟨f.row, fun c y => by
    rw [bget_succ, f.val, show bval (G k) c y = 0 by unfold bval; split <;> first | exact hz | rfl]; omega,
    by rw [f.sum]; show btot G k = btot G k + (G k).a; omega, fun i j hi hj => f.ahead i j hi (by omega), by have := f.le; omega⟩
theorem Flt.keep (f : Flt n G k m h) (hk : k < n) (hok : ∀ j, j < n → VOk (G j).c (G j).y) (hasc : ∀ i j, i < j → j < n → Bl (G i).c (G i).y (G j).c (G j).y) (hz : (G k).a ≠ 0) : Flt n G (k + 1) (m + 1) (pushB h m (G k)) := by
  refine ⟨f.row.push (hok k hk) hz fun i hi => f.ahead i k hi (Nat.le_refl _) hk, fun c y => by rw [bget_push, f.val, bget_succ], ?_, fun i j hi hj hn => ?_, by have := f.le; omega⟩
  · show btot (pushB h m (G k)) m + (pushB h m (G k) m).a = btot G k + (G k).a
    rw [pushB_at, ← f.sum]
    refine congrArg (· + (G k).a) (tot_ext m fun j hj => ?_)
    rw [pushB_ne h _ (show j ≠ m by omega)]
  · by_cases e : i = m
    · rw [e, pushB_at]; exact hasc k j (by omega) hn
    · rw [pushB_ne h _ e]; exact f.ahead i j (by omega) (by omega) hn
theorem Flt.done (f : Flt n G n m h) : VIs (bget G n) m h := ⟨f.row, f.val⟩
theorem flt_any (hok : ∀ j, j < n → VOk (G j).c (G j).y) (hasc : ∀ i j, i < j → j < n → Bl (G i).c (G i).y (G j).c (G j).y) (h0 : Nat → Bk) : ∀ k, k ≤ n → ∃ m h, Flt n G k m h
  | 0, _ => ⟨0, h0, Flt.zero _ _ _⟩
  | k + 1, hk => by
    obtain ⟨m, h, f⟩ := flt_any hok hasc h0 k (by omega)
    by_cases z : (G k).a = 0
    · exact ⟨m, h, f.skip z⟩
    · exact ⟨m + 1, _, f.keep (by omega) hok hasc z⟩
/-- what is left of losses, each some less -/
def lessG (g : Nat → Bk) (u : Nat → Int) : Nat → Bk := fun j => ⟨(g j).c, (g j).y, (g j).a - u j⟩
theorem VInv.less (iv : VInv S n g) {u : Nat → Int} (hu : ∀ j, j < n → 0 ≤ u j ∧ u j ≤ (g j).a) (f : Flt n (lessG g u) n m h) : VInv (bget (lessG g u) n) m h ∧ btot h m = btot g n - tot u n := by
  have e : btot (lessG g u) n = btot g n - tot u n := by
    unfold btot
    have : ∀ k, tot (fun j => (lessG g u j).a) k = tot (fun j => (g j).a) k - tot u k := by
      intro k
      induction k with
      | zero => rfl
      | succ k ih => rw [tot, tot, tot, ih]; show _ + ((g k).a - u k) = _; omega
    exact this n
  have hu0 : 0 ≤ tot u n := tot_nonneg n fun j hj => (hu j hj).1
  have hl := f.le
  have hle := iv.le
  have hal := iv.all
  refine ⟨⟨f.done, by omega, fun j hj => ?_, by rw [f.sum, e]; omega⟩, by rw [f.sum, e]⟩
  rw [← f.done.at hj]
  show 0 ≤ bget (lessG g u) n (h j).c (h j).y
  refine tot_nonneg n fun i hi => ?_
  show 0 ≤ bval (lessG g u i) _ _
  unfold bval
  split
  · show 0 ≤ (g i).a - u i
    have := hu i hi; omega
  · exact Int.le_refl _
/-- what expires ahead of a year -/
def goneU (g : Nat → Bk) (year : Int) : Nat → Int := fun j => if (g j).c < year then (g j).a else 0
theorem VInv.gone (iv : VInv S n g) (year : Int) : ∀ j, j < n → 0 ≤ goneU g year j ∧ goneU g year j ≤ (g j).a := fun j hj => by
  have := iv.one hj
  unfold goneU; split <;> omega
end
end Go.Proofs.Ytmeljcogoeghaaa
