/- Words for what lies in memory: cells in a row that are read, and rows of the call's own. -/
import Derived.WalkKit
import Derived.OpenShut
import Derived.Laws.OwnMore
namespace Go.Proofs.Ytbealifdnllimaa
open Go.RowKit

/-- WHAT THE WALK IS TOLD OF A SLICE OF WHOLE NUMBERS THAT CAME IN (the shell of the kit's page names it so). -/
def IsRow (k : IntKind) (w : World) (a : Option Addr) (len cap : Nat) (zs : List Int) : Prop :=
  (a = none ∧ len = 0 ∧ cap = 0 ∧ zs = []) ∨
  ∃ x, a = some x ∧ len ≤ cap ∧ cap ≤ maxLen ∧ zs.length = cap ∧ (∀ i, i < zs.length → w.cell? (x.add i) = some (.int k (zs.getD i 0))) ∧ ∀ n ∈ zs, (Lit.int k n).wf = true

/-- the cells xs stand in a row from A on, below block B; of A nothing is said where there is none -/
def Cells (w : World) (B : Nat) (A : Option Addr) (xs : List Value) : Prop :=
  xs = [] ∨ ∃ b off, A = some ⟨b, off, none⟩ ∧ b < B ∧ ∀ j u, xs[j]? = some u → w.cell? ⟨b, off + j, none⟩ = some u

section
variable {w w' : World} {B B' : Nat} {A : Option Addr} {xs : List Value}
theorem Cells.below (h : Cells w B A xs) (k : Below B w w') : Cells w' B A xs := by
  rcases h with h | ⟨b, off, e, hb, hc⟩
  · exact .inl h
  · exact .inr ⟨b, off, e, hb, fun j u hu => (k.cell (p := ⟨b, off + j, none⟩) hb).trans (hc j u hu)⟩
theorem Cells.mono (h : Cells w B A xs) (k : B ≤ B') : Cells w B' A xs := by
  rcases h with h | ⟨b, off, e, hb, hc⟩
  · exact .inl h
  · exact .inr ⟨b, off, e, by omega, hc⟩
theorem Cells.take (h : Cells w B A xs) (k : Nat) : Cells w B A (xs.take k) := by
  rcases h with h | ⟨b, off, e, hb, hc⟩
  · exact .inl (by simp [h])
  · refine .inr ⟨b, off, e, hb, fun j u hu => hc j u ?_⟩
    rw [List.getElem?_take] at hu; split at hu <;> simp_all
theorem Cells.ints {zs : List Int} (h : Cells w B A (zs.map (Value.int .i64))) (hp : 0 < zs.length) :
    ∃ b off, A = some ⟨b, off, none⟩ ∧ b < B ∧ ∀ j, j < zs.length → w.cell? ⟨b, off + j, none⟩ = some (.int .i64 (zs.getD j 0)) := by
  rcases h with h | ⟨b, off, e, hb, hc⟩
  · simp at h; subst h; simp at hp
  · exact ⟨b, off, e, hb, fun j hj => hc j _ (by simp [List.getD, hj])⟩
theorem Cells.of_ints {a : Addr} {zs : List Int} (h : ∀ i, i < zs.length → w.cell? (a.add i) = some (.int .i64 (zs.getD i 0))) (hB : w.heap.size ≤ B) : Cells w B (some a) (zs.map (Value.int .i64)) := by
  rcases Nat.eq_zero_or_pos zs.length with h0 | h0
  · exact .inl (by simp [List.eq_nil_of_length_eq_zero h0])
  · obtain ⟨b, off, rfl, hc⟩ := ints_at h h0
    refine .inr ⟨b, off, rfl, ?_, fun j u hu => ?_⟩
    · have := World.block_lt_of_cell? w _ (hc 0 h0); simp at this; omega
    · rw [List.getElem?_map] at hu
      cases hj : zs[j]? with
      | none => simp [hj] at hu
      | some z =>
        simp [hj] at hu; subst hu
        have hl : j < zs.length := (List.getElem?_eq_some_iff.1 hj).1
        rw [hc j hl]; simp [List.getD, hj]
theorem Cells.of_own {base size c n : Nat} {e : TypeId} (h : w.ownsRow base e size (.slice A n c) n xs) (hB : w.heap.size ≤ B) : Cells w B A xs := by
  rcases h.2 with ⟨hv, h0⟩ | ⟨g, cap, cur, hv, _, hg, _⟩
  · exact .inl (List.eq_nil_of_length_eq_zero (by rw [h.1, h0, Nat.zero_mul]))
  · injection hv with hA _ _; subst hA
    refine .inr ⟨g, 0, rfl, ?_, fun j u hu => ?_⟩
    · have := (Array.getElem?_eq_some_iff.1 hg).1; omega
    · have := h.cells (g := g) rfl j u hu
      have e : (⟨g, 0, none⟩ : Addr).add j = ⟨g, 0 + j, none⟩ := by unfold Addr.add; split <;> simp_all
      rwa [e] at this
end
/-- what came in, as cells: the elements up to the length -/
theorem IsRow.cells {w : World} {A : Option Addr} {n c : Nat} {zs : List Int} (h : IsRow .i64 w A n c zs) :
    Cells w w.heap.size A ((zs.take n).map (Value.int .i64)) ∧ (zs.take n).length = n ∧ n ≤ c ∧ c ≤ maxLen ∧ (A = none → n = 0 ∧ c = 0) ∧ (∀ z ∈ zs.take n, (Lit.int .i64 z).wf = true) := by
  rcases h with ⟨rfl, rfl, rfl, rfl⟩ | ⟨x, rfl, h1, h2, h3, h4, h5⟩
  · exact ⟨.inl (by simp), by simp, by simp, by simp, fun _ => ⟨rfl, rfl⟩, by simp⟩
  · refine ⟨?_, by simp; omega, h1, h2, (by intro h; cases h), fun z hz => h5 z (List.mem_of_mem_take hz)⟩
    rw [List.map_take]
    exact (Cells.of_ints h4 (Nat.le_refl _)).take n
/-- a row of the call's own as an address, a length, a room -/
theorem own_form {w : World} {base n size : Nat} {e : TypeId} {v : Value} {xs : List Value} (h : w.ownsRow base e size v n xs) :
    ∃ A c, v = .slice A n c ∧ n ≤ c ∧ c ≤ maxLen ∧ (A = none → n = 0 ∧ c = 0) := by
  rcases h.2 with ⟨rfl, rfl⟩ | ⟨g, cap, cur, rfl, _, _, h1, h2, _⟩
  · exact ⟨none, 0, rfl, Nat.le_refl _, Nat.zero_le _, fun _ => ⟨rfl, rfl⟩⟩
  · exact ⟨_, cap, rfl, h1, h2, by intro h; cases h⟩
end Go.Proofs.Ytbealifdnllimaa
