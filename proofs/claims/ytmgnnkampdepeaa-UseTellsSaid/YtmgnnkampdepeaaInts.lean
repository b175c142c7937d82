/- Lists of whole numbers: copies, cuts, the least of some, sums: a contract for each. -/
import Derived.Test.YtmgnnkampdepeaaRate
import Derived.Test.YtmgnnkampdepeaaMem
import Derived.WalkKit
import Derived.WalkSpells
import Derived.WalkLawsBesides
import Derived.Lib.Hide
import Derived.Laws.AppendOwnNone
namespace Go.Proofs.Ytmgnnkampdepeaa
open Go.RowKit

theorem int_info : (Try.prog.info? 3).map (fun i => (i.zero, i.size, i.bytes)) = some (some (.int .i64 0), 1, 8) := by kernel_rfl

theorem copy_ints (A : Option Addr) (n c B : Nat) (zs : List Int) (w : World) (h : Cells w B A (zs.map (Value.int .i64))) (hz : zs.length = n) (hr : n * 8 ≤ 140737488355328) (hA : A = none → n = 0 ∧ c = 0) :
    Calls Try.prog 14 #[.slice A n c] w fun e w' => ∃ v, e = .returned v ∧ w'.ownsRow w.heap.size 3 1 v n (zs.map (Value.int .i64)) ∧ w.grownBy w' none := by
  obtain ⟨i0, hi, hz0, hz1, hz2⟩ := info_parts int_info
  have hl : (zs.map (Value.int .i64)).length = n := by simp [hz]
  rcases A with _ | a
  · obtain ⟨rfl, rfl⟩ := hA rfl
    obtain rfl := List.eq_nil_of_length_eq_zero hz
    go_enter Try.func14, Try.ntmps14
    go_wp2_with (at_builtin; refine wpList_append_own_none rfl _ _ 22 rfl w.heap.size 3 i0 1 Try.underlying22 hi hz1 _ _ _ rfl (World.ownsRow_nil _ _ _ _) rfl ?_)
    go_ret
    exact ⟨_, rfl, by simpa using World.ownsRow_nil _ _ _ _, World.grownBy.refl _ _⟩
  · have hc : ∀ j u, (zs.map (Value.int .i64))[j]? = some u → w.cell? (a.add j) = some u := by
      intro j u hu
      rcases h with h | ⟨b, off, e, _, h⟩
      · simp [h] at hu
      · injection e with e; subst e
        have := h j u hu
        rwa [show (⟨b, off + j, none⟩ : Addr) = (⟨b, off, none⟩ : Addr).add j by unfold Addr.add; split <;> simp_all] at this
    have hc := Lib.hid hc
    have hl := Lib.hid hl
    clear hA hz
    go_enter Try.func14, Try.ntmps14
    go_wp2_with (at_builtin; refine wpList_append_own _ rfl _ _ 22 rfl w.heap.size 3 i0 (.int .i64 0) 1 8 Try.underlying22 hi hz0 hz1 hz2 rfl (by decide) _ _ _ rfl (World.ownsRow_nil _ _ _ _) a n c _ rfl (by have := hl.out; omega) hc.out (ints_oneCell _ _) (by unfold maxLen; omega) (by omega) (Nat.le_refl _) ?_)
    intro v' w1 hown hg _
    go_wp2
    go_ret
    exact ⟨_, rfl, hown, hg⟩

theorem ints_get (zs : List Int) (n : Nat) (h : n ≤ zs.length) : (zs.take n).map (Value.int .i64) = (List.range n).map fun j => .int .i64 (zs.getD j 0) := by
  apply List.ext_getElem (by simp; omega)
  intro j h1 h2
  simp at h1 h2
  simp [List.getD, show j < zs.length by omega]
/-- a copy of a list of the call's own -/
theorem copy_own (v : Value) (n base : Nat) (g : Nat → Int) (w : World) (h : Own w 3 base v n g) (hn : n ≤ 1000000) :
    Calls Try.prog 14 #[v] w fun e w' => ∃ v, e = .returned v ∧ Own w' 3 w.heap.size v n g ∧ Below w.heap.size w w' := by
  obtain ⟨A, c, rfl, h1, h2, h3⟩ := h.form
  have e : ((List.range n).map fun j => Value.int .i64 (g j)) = ((List.range n).map g).map (Value.int .i64) := by simp
  have hc := Cells.of_own h (Nat.le_refl _)
  rw [e] at hc
  refine (copy_ints A n c _ _ w hc (by simp) (by omega) h3).mono ?_
  rintro _ w' ⟨v, rfl, ho, hg⟩
  exact ⟨v, rfl, by unfold Own; rw [e]; exact ho, (Below.refl _ _).grown hg (Nat.le_refl _) (by simp)⟩
/-- the least of the first k + 1 numbers -/
def lst (g : Nat → Int) : Nat → Int
  | 0 => g 0
  | k + 1 => min (lst g k) (g (k + 1))
/-- the least of some numbers; 0 if there is none -/
def leastOf (zs : List Int) : Int := if zs = [] then 0 else lst (fun j => zs.getD j 0) (zs.length - 1)

theorem cells_one (w : World) (z : Int) (t : TypeId) : Cells (w.alloc (.cells #[.int .i64 z] t)) (w.heap.size + 1) (some ⟨w.heap.size, 0, none⟩) ([z].map (Value.int .i64)) := by
  refine .inr ⟨_, _, rfl, by omega, fun j u hu => ?_⟩
  have := cell_one_new w (.int .i64 z) t j u (by simpa using hu)
  rwa [show (⟨w.heap.size, 0, none⟩ : Addr).add j = ⟨w.heap.size, 0 + j, none⟩ by unfold Addr.add; split <;> simp_all] at this
end Go.Proofs.Ytmgnnkampdepeaa
