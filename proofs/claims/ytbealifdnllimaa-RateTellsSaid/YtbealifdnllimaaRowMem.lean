/- A row of whole numbers in a block of the call's own: read, stored, kept over calls; literal lists; sums in any order. -/
import Derived.Test.YtbealifdnllimaaSumLoop
import Derived.WalkKit
import Derived.Lib.Hide
namespace Go.Proofs.Ytbealifdnllimaa
open Go.RowKit

/-- block b's first n cells are the numbers h, and none is frozen -/
def Row (w : World) (b n : Nat) (h : Nat → Int) : Prop :=
  b < w.heap.size ∧ ∀ j, j < n → w.cell? ⟨b, j, none⟩ = some (.int .i64 (h j)) ∧ w.frozen? ⟨b, j, none⟩ = false
section
variable {w w1 : World} {b n : Nat} {h : Nat → Int}
theorem Row.below (r : Row w b n h) (k : Below w.heap.size w w1) : Row w1 b n h :=
  ⟨Nat.lt_of_lt_of_le r.1 k.size, fun j hj => ⟨(k.cell (p := ⟨b, j, none⟩) r.1).trans (r.2 j hj).1, (k.frozen (p := ⟨b, j, none⟩) r.1).trans (r.2 j hj).2⟩⟩
theorem Row.ext {h' : Nat → Int} (r : Row w b n h) (e : ∀ j, j < n → h j = h' j) : Row w b n h' :=
  ⟨r.1, fun j hj => ⟨by rw [← e j hj]; exact (r.2 j hj).1, (r.2 j hj).2⟩⟩
theorem Row.set (r : Row w b n h) {k : Nat} (hk : k < n) (x : Int) : Row (w.setCell ⟨b, k, none⟩ (.int .i64 x)) b n (fun j => if j = k then x else h j) := by
  refine ⟨by simpa using r.1, fun j hj => ⟨?_, by simpa using (r.2 j hj).2⟩⟩
  by_cases e : j = k
  · subst e; simp only [if_true]; exact World.cell?_setCell_same _ _ _ (r.2 j hj).1
  · simp only [if_neg e]; rw [World.cell?_setCell_other _ _ _ _ (by intro q; injection q with _ q; exact e q.symm)]; exact (r.2 j hj).1
theorem Row.of_own {base c : Nat} {e : TypeId} {g : Nat} {zs : List Int} (o : w.ownsRow base e 1 (.slice (some ⟨g, 0, none⟩) n c) n (zs.map (Value.int .i64))) :
    base ≤ g ∧ Row w g n (fun j => zs.getD j 0) := by
  have hl := o.lt g rfl
  refine ⟨hl.1, hl.2, fun j hj => ⟨?_, o.frozenAt j⟩⟩
  have hn : zs.length = n := by have := o.1; simpa using this
  rw [o.cellAt j (by omega)]
  simp [List.getD, show j < zs.length by omega]
theorem Row.hid (r : Row w b n h) : Hid (∀ j, j < n → w.cell? ⟨b, 0 + j, none⟩ = some (.int .i64 (h j))) := Lib.hid fun j hj => by rw [Nat.zero_add]; exact (r.2 j hj).1
end
theorem own_some {w : World} {base n size : Nat} {e : TypeId} {v : Value} {xs : List Value} (h : w.ownsRow base e size v n xs) (hp : 0 < n) :
    ∃ g c, v = .slice (some ⟨g, 0, none⟩) n c ∧ n ≤ c ∧ c ≤ maxLen := by
  rcases h.2 with ⟨_, h0⟩ | ⟨g, cap, cur, rfl, _, _, h1, h2, _⟩
  · omega
  · exact ⟨g, cap, rfl, h1, h2⟩
/-- a literal list in a new block -/
theorem lit_row (w : World) (zs : List Int) (t : TypeId) : Row (w.alloc (.cells (zs.map (Value.int .i64)).toArray t)) w.heap.size zs.length (fun j => zs.getD j 0) := by
  have hh := heap_alloc_new w (.cells (zs.map (Value.int .i64)).toArray t)
  refine ⟨by simp, fun j hj => ⟨?_, ?_⟩⟩
  · rw [cell_of_row _ w.heap.size j _ t (0, 0) (heap_alloc_new w _)]
    simp [List.getD, hj]
  · simp only [World.frozen?, hh]; simp

theorem SumIs.is (g : Nat → Int) (n : Nat) : ∃ r ok, SumIs g n r ok := by
  by_cases h : (∀ j, j < n → Mon (g j)) ∧ Mon (tot g n)
  · exact ⟨_, _, .inl ⟨rfl, rfl, h.2, h.1⟩⟩
  · refine ⟨0, false, .inr ⟨rfl, rfl, ?_⟩⟩
    by_cases hm : Mon (tot g n)
    · left
      have : ¬ ∀ j, j < n → Mon (g j) := fun k => h ⟨k, hm⟩
      simpa using this
    · exact .inr hm
theorem tot_ext {g h : Nat → Int} : ∀ n, (∀ j, j < n → g j = h j) → tot g n = tot h n
  | 0, _ => rfl
  | n + 1, e => by rw [tot, tot, tot_ext n (fun j hj => e j (by omega)), e n (by omega)]
theorem tot_shift (g : Nat → Int) : ∀ n, tot g (n + 1) = g 0 + tot (fun j => g (j + 1)) n
  | 0 => by simp [tot]
  | n + 1 => by rw [tot, tot_shift g n, tot]; omega
theorem tot_rev (g : Nat → Int) : ∀ n, tot (fun j => g (n - 1 - j)) n = tot g n
  | 0 => rfl
  | n + 1 => by
    rw [tot_shift, tot]
    have := tot_rev g n
    rw [← this, Int.add_comm]
    congr 1
    refine tot_ext n fun j hj => ?_
    show g _ = g _
    congr 1; omega
theorem SumIs.rev {g : Nat → Int} {n : Nat} {r : Int} {ok : Bool} (h : SumIs g n r ok) : SumIs (fun j => g (n - 1 - j)) n r ok := by
  rcases h with ⟨h1, h2, h3, h4⟩ | ⟨h1, h2, ⟨j, hj, hb⟩ | hb⟩
  · exact .inl ⟨h1, by rw [tot_rev]; exact h2, by rw [tot_rev]; exact h3, fun j hj => h4 _ (by omega)⟩
  · exact .inr ⟨h1, h2, .inl ⟨n - 1 - j, by omega, by simp only []; rw [show n - 1 - (n - 1 - j) = j by omega]; exact hb⟩⟩
  · exact .inr ⟨h1, h2, .inr (by rw [tot_rev]; exact hb)⟩
theorem SumIs.ext {g h : Nat → Int} {n : Nat} {r : Int} {ok : Bool} (s : SumIs g n r ok) (e : ∀ j, j < n → g j = h j) : SumIs h n r ok := by
  unfold SumIs at *
  rw [tot_ext n e] at s
  rcases s with ⟨h1, h2, h3, h4⟩ | ⟨h1, h2, ⟨j, hj, hb⟩ | hb⟩
  · exact .inl ⟨h1, h2, h3, fun j hj => by rw [← e j hj]; exact h4 j hj⟩
  · exact .inr ⟨h1, h2, .inl ⟨j, hj, by rw [← e j hj]; exact hb⟩⟩
  · exact .inr ⟨h1, h2, .inr hb⟩
theorem sum_three : SumIs (fun j => [100000000000, 100000000000, -100000000000].getD j 0) 3 100000000000 true := by
  refine .inl ⟨rfl, by simp [tot], by simp [tot, Mon], fun j hj => ?_⟩
  rcases (show j = 0 ∨ j = 1 ∨ j = 2 by omega) with rfl | rfl | rfl <;> simp [Mon]
theorem sum_two : SumIs (fun j => [100000000000, 1].getD j 0) 2 0 false := .inr ⟨rfl, rfl, .inr (by simp [tot, Mon])⟩
end Go.Proofs.Ytbealifdnllimaa
