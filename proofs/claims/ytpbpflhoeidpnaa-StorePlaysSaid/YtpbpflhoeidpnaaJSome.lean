/- Merged lines: what Net and Merge make of them; the lines of law 6 where they are right ones: a contract for each. -/
import Derived.Test.YtpbpflhoeidpnaaLaw06a
import Derived.WalkKit
import Derived.WalkSpells
import Derived.WalkLawsBesides
import Derived.Lib.Hide
namespace Go.Proofs.Ytpbpflhoeidpnaa
open Go.RowKit

theorem OwnL.by {w : World} {E : TypeId} {b : Nat} {v : Value} {S T : Int → Int} (o : OwnL w E b v (mc S 7) (ma S 7) (mm S 7)) (h : ∀ a : Int, 1 ≤ a → a ≤ (7 : Nat) → S a = T a) : OwnL w E b v (mc T 7) (ma T 7) (mm T 7) := by
  have e := ma_congr 7 h
  have q := o.ext fun j hj => ⟨congrFun e.2 j, mm_congr h j hj⟩
  rw [e.1] at q; exact q
/-- a merged row's accounts all have money -/
def MonS (S : Int → Int) : Prop := ∀ a : Int, 1 ≤ a → a ≤ 7 → Mon (S a)
theorem RightS.mon {S : Int → Int} (h : RightS S) : MonS S := fun a h1 h2 => by have := h.1 a h1 h2; unfold Mon; omega
theorem MonS.row {S : Int → Int} (h : MonS S) (j : Nat) (hj : j < mc S 7) : Mon (mm S 7 j) := by
  obtain ⟨a, b, _⟩ := ma_spec S 7 j hj
  exact h _ a b
theorem MonS.summ {S : Int → Int} (h : MonS S) : Summ (mc S 7) (mm S 7) := ⟨by have := mc_le S 7; omega, fun j hj => h.row j hj⟩
theorem mnet (A : Option Addr) (c : Nat) (S : Int → Int) (a : Int) (w : World) (hA : AtL w A (mc S 7) (ma S 7) (mm S 7)) (hM : MonS S) (h1 : 1 ≤ a) (h2 : a ≤ 7) :
    Calls Try.prog 49 #[.slice A (mc S 7) c, .int .i64 a] w fun e w' => e = .returned (.int .i64 (S a)) ∧ Below w.heap.size w w' := by
  have := jnet_yes A _ c _ _ a w hA (Lib.hid hM.summ)
  rwa [show sm a (ma S 7) (mm S 7) (mc S 7) = S a from smf_mrg S a h1 (by omega)] at this
/-- a merged row, put together again, is the same -/
theorem mmerge (A : Option Addr) (c : Nat) (S : Int → Int) (w : World) (hA : AtL w A (mc S 7) (ma S 7) (mm S 7)) (hM : MonS S) :
    Calls Try.prog 29 #[.slice A (mc S 7) c] w fun e w' => ∃ v, e = .returned v ∧ OwnL w' 26 w.heap.size v (mc S 7) (ma S 7) (mm S 7) ∧ Below w.heap.size w w' := by
  refine (jmerge_yes A _ c _ _ w hA (Lib.hid hM.summ)).mono ?_
  rintro e w' ⟨v, rfl, ho, hb⟩
  exact ⟨v, rfl, ho.by (smf_mrg S), hb⟩
/-- two rows, one behind the other, put together -/
theorem mjoin (A : Option Addr) (c n m : Nat) (fa fm ga gm : Nat → Int) (T : Int → Int) (w : World) (hA : AtL w A (n + m) (cat n fa ga) (cat n fm gm)) (hn : n + m ≤ 40) (h1 : ∀ j, j < n → Mon (fm j)) (h2 : ∀ j, j < m → Mon (gm j)) (hT : ∀ a : Int, 1 ≤ a → a ≤ 7 → sm a fa fm n + sm a ga gm m = T a) :
    Calls Try.prog 29 #[.slice A (n + m) c] w fun e w' => ∃ v, e = .returned v ∧ OwnL w' 26 w.heap.size v (mc T 7) (ma T 7) (mm T 7) ∧ Below w.heap.size w w' := by
  refine (jmerge_yes A _ c _ _ w hA (Lib.hid ⟨hn, fun j hj => ?_⟩)).mono ?_
  · by_cases q : j < n
    · rw [cat_lt q]; exact h1 j q
    · rw [cat_ge (by omega)]; exact h2 _ (by omega)
  rintro e w' ⟨v, rfl, ho, hb⟩
  exact ⟨v, rfl, ho.by fun a q1 q2 => by unfold smf; rw [sm_cat]; exact hT a q1 (by omega), hb⟩
set_option maxHeartbeats 4000000 in
set_option maxRecDepth 100000 in
theorem some_right (A0 A1 : Option Addr) (n0 c0 n1 c1 : Nat) (g0 g1 : Nat → Int) (w : World) (h0 : At w A0 n0 g0) (h1 : At w A1 n1 g1) :
    Calls Try.prog 22 #[.slice A0 n0 c0, .slice A1 n1 c1, .int .i64 0, .int .i64 9, .bool false] w fun e w' => ∃ v S, e = .returned v ∧ RightS S ∧ OwnL w' 26 w.heap.size v (mc S 7) (ma S 7) (mm S 7) ∧ Below w.heap.size w w' := by
  have HR := Lib.hid (right_any A0 A1 n0 c0 n1 c1 g0 g1 w h0 h1)
  have H9 : Hid ((9 : Int) % 12 = 9) := Lib.hid (by decide)
  clear h0 h1
  go_enter Try.func22, Try.ntmps22
  go_wp2_with fail
  refine (HR.out).mono ?_
  rintro e w2 ⟨v, S, rfl, hS, ho, hb⟩
  obtain ⟨A3, c3, rfl, pc, pcm, _, _⟩ := ho.cut
  have HO := Lib.hid ho
  have HB := Lib.hid hb
  have HS := Lib.hid hS
  have h7 := mc_le S 7
  clear ho hb hS
  by_cases hq : mc S 7 = 0
  · have hq1 : ((mc S 7 : Int) == 0) = true := by simp [hq]
    clear hq
    go_wp2_with fail
    go_ret
    exact ⟨_, S, rfl, HS.out, HO.out, HB.out⟩
  · have hq1 : ((mc S 7 : Int) == 0) = false := by simp [hq]
    have hq2 : 1 ≤ mc S 7 := by omega
    clear hq
    go_wp2_with fail
    refine (within_some _ _ _ (by omega) (by omega)).mono ?_
    rintro e w' ⟨x, x1, x2, rfl, rfl⟩
    go_wp2_with (go_at_call 13; (with_reducible refine (within_at _ _ _ _ (by omega) (by omega) H9).mono ?_); rintro e w' ⟨rfl, rfl⟩)
    go_ret
    exact ⟨_, S, rfl, HS.out, HO.out, HB.out⟩
end Go.Proofs.Ytpbpflhoeidpnaa
