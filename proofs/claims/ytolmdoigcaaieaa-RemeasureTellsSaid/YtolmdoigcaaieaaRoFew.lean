/- Ways that are told outright: nothing moves, all is new, all is gone; there is a way from any rows to any others: mathematics alone. -/
import Derived.Test.YtolmdoigcaaieaaRoFwd
namespace Go.Proofs.Ytolmdoigcaaieaa
theorem FIs.fiw {S S' : Int → Int → Int} {q : Nat} {f : Nat → Wy} (h : FIs S S' q f) (hS : ∀ c y, Mon (S c y)) (hS' : ∀ c y, Mon (S' c y)) : FIw S S' q f :=
  ⟨h.pl, h.op, h.cl, fun j hj => by
    rw [h.mv j hj, h.op j hj, h.cl j hj]
    have h1 := hS (f j).c (f j).y
    have h2 := hS' (f j).c (f j).y
    unfold Mon at h1 h2
    exact (IntWalk.i64_in _ (by omega)).symm⟩
theorem zero_mon (c y : Int) : Mon ((fun _ _ => 0 : Int → Int → Int) c y) := ⟨by show (-100000000000 : Int) ≤ 0; decide, by show (0 : Int) ≤ 100000000000; decide⟩
theorem rof_nil (z : Int) : rof 0 z = 0 := by unfold rof; simp
/-- nothing moves -/
theorem fis_still {S : Int → Int → Int} {n : Nat} {g : Nat → Bk} (b : BIs S n g) : FIs S S n (fun j => ⟨(g j).c, (g j).y, (g j).a, 0, (g j).a⟩) := by
  refine ⟨⟨⟨b.1.ok, fun _ _ => (by show (1 : Int) ≠ 0; decide), b.1.asc⟩, fun c y => ?_⟩, fun j hj => (b.at hj).symm, fun j hj => (b.at hj).symm, fun j _ => by show (0 : Int) = (g j).a - (g j).a; omega⟩
  unfold both
  by_cases h : S c y = 0
  · rw [if_pos ⟨h, h⟩]
    refine bget_none fun j hj e => ?_
    have := b.at hj
    rw [e.1, e.2, h] at this
    exact b.1.nz j hj this.symm
  · rw [if_neg fun q => h q.1]
    obtain ⟨j, hj, e1, e2⟩ := b.has h
    unfold bget
    rw [tot_one _ j n hj fun i hi hne => ?_]
    · exact if_pos ⟨e1, e2⟩
    · exact if_neg fun e => hne (b.1.inj hi hj (e.1.trans e1.symm) (e.2.trans e2.symm))
theorem both_nil (S : Int → Int → Int) : both (fun _ _ => 0) S = both S S := by
  funext c y
  unfold both
  by_cases h : S c y = 0
  · rw [if_pos ⟨rfl, h⟩, if_pos ⟨h, h⟩]
  · rw [if_neg fun q => h q.2, if_neg fun q => h q.1]
/-- all is new -/
theorem fis_fresh {S : Int → Int → Int} {n : Nat} {g : Nat → Bk} (b : BIs S n g) : FIs (fun _ _ => 0) S n (fun j => ⟨(g j).c, (g j).y, 0, (g j).a, (g j).a⟩) :=
  ⟨by rw [both_nil]; exact (fis_still b).pl, fun _ _ => rfl, fun j hj => (b.at hj).symm, fun j _ => by show (g j).a = (g j).a - 0; omega⟩
/-- all is gone -/
theorem fis_gone {S : Int → Int → Int} {n : Nat} {g : Nat → Bk} (b : BIs S n g) : FIs S (fun _ _ => 0) n (fun j => ⟨(g j).c, (g j).y, (g j).a, -(g j).a, 0⟩) :=
  ⟨by rw [both_comm, both_nil]; exact (fis_still b).pl, fun j hj => (b.at hj).symm, fun _ _ => rfl, fun j _ => by show -(g j).a = 0 - (g j).a; omega⟩
theorem fup_any {S S' : Int → Int → Int} {n n' : Nat} {g g' : Nat → Bk} (b : BIs S n g) (b' : BIs S' n' g') : ∀ i : Nat, i ≤ 900 → ∃ q f, FUp S S' (1 + (i : Int) / 100) ((i : Int) % 100) q f
  | 0, _ => ⟨0, fun _ => ⟨0, 0, 0, 0, 0⟩, FUp.start b b' _⟩
  | i + 1, h => by
    obtain ⟨q, f, u⟩ := fup_any b b' i (by omega)
    have ok : BOk (1 + (i : Int) / 100) ((i : Int) % 100) := by unfold BOk; omega
    have key : ∃ q f, FUp S S' (1 + (i : Int) / 100) ((i : Int) % 100 + 1) q f := by
      by_cases hz : S (1 + (i : Int) / 100) ((i : Int) % 100) = 0 ∧ S' (1 + (i : Int) / 100) ((i : Int) % 100) = 0
      · exact ⟨q, f, u.skip hz⟩
      · exact ⟨_, _, u.push ok (by omega)⟩
    obtain ⟨q2, f2, u2⟩ := key
    by_cases e : (i : Int) % 100 = 99
    · rw [e] at u2
      have := u2.class b b'
      rw [show 1 + ((i + 1 : Nat) : Int) / 100 = 1 + (i : Int) / 100 + 1 by omega, show ((i + 1 : Nat) : Int) % 100 = 0 by omega]
      exact ⟨q2, f2, this⟩
    · rw [show 1 + ((i + 1 : Nat) : Int) / 100 = 1 + (i : Int) / 100 by omega, show ((i + 1 : Nat) : Int) % 100 = (i : Int) % 100 + 1 by omega]
      exact ⟨q2, f2, u2⟩
theorem fiw_any {S S' : Int → Int → Int} {n n' : Nat} {g g' : Nat → Bk} (b : BIs S n g) (b' : BIs S' n' g') : ∃ q f, FIw S S' q f := by
  obtain ⟨q, f, u⟩ := fup_any b b' 900 (Nat.le_refl _)
  exact ⟨q, f, FUp.done u b b'⟩
end Go.Proofs.Ytolmdoigcaaieaa
