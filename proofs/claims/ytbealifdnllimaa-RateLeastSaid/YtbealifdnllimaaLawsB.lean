/- The statements of stage 1 over lists: their walks. -/
import Derived.Test.YtbealifdnllimaaInts
import Derived.WalkKit
import Derived.WalkSpells
import Derived.WalkLawsBesides
import Derived.Lib.Hide
namespace Go.Proofs.Ytbealifdnllimaa
open Go.RowKit

theorem lst_ext {g h : Nat → Int} : ∀ k, (∀ j, j ≤ k → g j = h j) → lst g k = lst h k
  | 0, e => e 0 (Nat.le_refl _)
  | k + 1, e => by rw [lst, lst, lst_ext k (fun j hj => e j (by omega)), e (k + 1) (Nat.le_refl _)]
theorem leastOf_snoc (zs : List Int) (x : Int) : leastOf (zs ++ [x]) = if zs = [] then x else min (leastOf zs) x := by
  by_cases h : zs = []
  · subst h; simp [leastOf, lst]
  · rw [if_neg h]
    obtain ⟨m, hm⟩ : ∃ m, zs.length = m + 1 := ⟨zs.length - 1, by have := List.length_pos_iff.2 h; omega⟩
    unfold leastOf
    rw [if_neg (by simp), if_neg h]
    simp only [List.length_append, List.length_cons, List.length_nil, hm]
    rw [show m + 1 + (0 + 1) - 1 = m + 1 by omega, show m + 1 - 1 = m by omega, lst]
    congr 1
    · refine lst_ext _ fun j hj => ?_
      simp [List.getD, List.getElem?_append_left (show j < zs.length by omega)]
    · simp [List.getD, ← hm]

theorem rateLeast_walk (a0 : Option Addr) (len0 cap0 : Nat) (z0 : List Int) (a1 : Int) (w : World) (w0 : IsRow .i64 w a0 len0 cap0 z0) (_w1 : (Lit.int .i64 a1).wf = true) (r0 : cap0 * 8 ≤ 140737488351232) :
    Calls Try.prog 5 #[.slice a0 len0 cap0, .int .i64 a1] w fun e w' => e = .returned (.bool true) ∧ Below w.heap.size w w' := by
  obtain ⟨hc, hl, hlc, hcm, hA, hwf⟩ := w0.cells
  clear hwf
  obtain ⟨zs, hzs⟩ : ∃ zs, zs = z0.take len0 := ⟨_, rfl⟩
  rw [← hzs] at hc hl
  clear hzs w0
  clear z0
  obtain ⟨i0, hi, hz0, hz1, hz2⟩ := info_parts int_info
  have HC := Lib.hid hc
  have HL := Lib.hid hl
  have HA := Lib.hid hA
  clear hc hl hA
  have hm := hcm
  unfold maxLen at hm
  have HO : Hid ([a1].length = 1) := Lib.hid rfl
  have HM : Hid (1 ≤ maxLen) := Lib.hid (by unfold maxLen; omega)
  have H1 : Hid (leastOf [a1] = a1) := Lib.hid (by simp [leastOf, lst])
  by_cases h0 : len0 = 0
  · obtain rfl := h0
    have H2 : Hid (leastOf (zs ++ [a1]) = a1) := Lib.hid (by rw [leastOf_snoc, if_pos (List.eq_nil_of_length_eq_zero HL.out)])
    go_enter Try.func5, Try.ntmps5
    go_wp2_with (first | (go_at_call 16; (with_reducible refine (least_none _ _ _).mono ?_); rintro e w' ⟨rfl, rfl⟩) | (go_at_call 17; (with_reducible refine (copy_ints _ _ _ _ zs _ HC.out HL.out (by omega) (fun e => ⟨rfl, (HA.out e).2⟩)).mono ?_); rintro e w1 ⟨v, rfl, hown, hg⟩) | (at_builtin; (refine wpList_append_own _ rfl (.tmp 19) (.tmp 21) 29 rfl w.heap.size 3 i0 (.int .i64 0) 1 8 Try.underlying29 hi hz0 hz1 hz2 rfl (by decide) v 0 (zs.map (Value.int .i64)) rfl (hown.alloc _) ⟨w1.heap.size, 0, none⟩ 1 1 [.int .i64 a1] rfl rfl (cell_one_new _ _ _) (ints_oneCell .i64 [a1]) (by unfold maxLen; omega) (by omega) (by have := hg.size; simp; omega) ?_; intro v2 w2 hown2 hg2 hx; clear hx; obtain ⟨A2, c2, rfl, f1, f2, f3⟩ := own_form hown2; have hcc : Hid (Cells w2 w2.heap.size A2 ((zs ++ [a1]).map (Value.int .i64))) := Lib.hid (by simpa using Cells.of_own hown2 (Nat.le_refl _)); have hll : Hid ((zs ++ [a1]).length = 1) := Lib.hid (by simp [HL.out]); have hb : Hid (Below w.heap.size w (w2.alloc (.cells #[.int .i64 a1] 3))) := Lib.hid (((((Below.refl _ w).grown hg (Nat.le_refl _) (by simp)).alloc hg.size _).grown hg2 (by have := hg.size; simp; omega) (fun k hk => (hown.lt k hk).1)).alloc (by have := hg.size; have := hg2.size; simp at this; omega) _); clear f3)) | (go_at_call 16; (with_reducible refine (least_at _ _ _ _ (zs ++ [a1]) _ _ hcc.out hll.out (by omega) f1 f2 H2).mono ?_); rintro e w' ⟨rfl, rfl⟩) | (go_at_call 16; (with_reducible refine (least_at _ _ _ _ [a1] _ _ (cells_one _ _ _) HO.out (by omega) (by omega) HM.out H1).mono ?_); rintro e w' ⟨rfl, rfl⟩) | (go_at_call 15; (with_reducible refine (wakes_any _).mono ?_); rintro e w' ⟨rfl, rfl⟩))
    go_ret
    exact ⟨rfl, hb.out⟩
  · have H2 : Hid (leastOf (zs ++ [a1]) = if a1 < leastOf zs then a1 else leastOf zs) := Lib.hid (by rw [leastOf_snoc, if_neg (by intro e; subst e; have := HL.out; simp at this; omega)]; split <;> omega)
    obtain ⟨L, hL⟩ : ∃ L, leastOf zs = L := ⟨_, rfl⟩
    rw [hL] at H2
    have H0 := Lib.hid hL; clear hL
    go_enter Try.func5, Try.ntmps5
    go_wp2_with (first | (go_at_call 16; (with_reducible refine (least_at _ _ _ _ zs _ _ HC.out HL.out (by omega) (by omega) (by omega) H0).mono ?_); rintro e w' ⟨rfl, rfl⟩) | (go_at_call 17; (with_reducible refine (copy_ints _ _ _ _ zs _ HC.out HL.out (by omega) HA.out).mono ?_); rintro e w1 ⟨v, rfl, hown, hg⟩) | (at_builtin; (refine wpList_append_own _ rfl (.tmp 19) (.tmp 21) 29 rfl w.heap.size 3 i0 (.int .i64 0) 1 8 Try.underlying29 hi hz0 hz1 hz2 rfl (by decide) v len0 (zs.map (Value.int .i64)) rfl (hown.alloc _) ⟨w1.heap.size, 0, none⟩ 1 1 [.int .i64 a1] rfl rfl (cell_one_new _ _ _) (ints_oneCell .i64 [a1]) (by unfold maxLen; omega) (by omega) (by have := hg.size; simp; omega) ?_; intro v2 w2 hown2 hg2 hx; clear hx; obtain ⟨A2, c2, rfl, f1, f2, f3⟩ := own_form hown2; have hcc : Hid (Cells w2 w2.heap.size A2 ((zs ++ [a1]).map (Value.int .i64))) := Lib.hid (by simpa using Cells.of_own hown2 (Nat.le_refl _)); have hll : Hid ((zs ++ [a1]).length = len0 + 1) := Lib.hid (by simp [HL.out]); have hb : Hid (Below w.heap.size w (w2.alloc (.cells #[.int .i64 a1] 3))) := Lib.hid (((((Below.refl _ w).grown hg (Nat.le_refl _) (by simp)).alloc hg.size _).grown hg2 (by have := hg.size; simp; omega) (fun k hk => (hown.lt k hk).1)).alloc (by have := hg.size; have := hg2.size; simp at this; omega) _); clear f3)) | (go_at_call 16; (with_reducible refine (least_at _ _ _ _ (zs ++ [a1]) _ _ hcc.out hll.out (by omega) f1 f2 H2).mono ?_); rintro e w' ⟨rfl, rfl⟩) | (go_at_call 16; (with_reducible refine (least_at _ _ _ _ [a1] _ _ (cells_one _ _ _) HO.out (by omega) (by omega) HM.out H1).mono ?_); rintro e w' ⟨rfl, rfl⟩) | (go_at_call 15; (with_reducible refine (wakes_any _).mono ?_); rintro e w' ⟨rfl, rfl⟩))
    all_goals
      go_ret
      exact ⟨rfl, hb.out⟩
end Go.Proofs.Ytbealifdnllimaa
