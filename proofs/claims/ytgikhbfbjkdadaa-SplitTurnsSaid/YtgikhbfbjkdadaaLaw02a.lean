/- SplitTurns: its walk. -/
import Derived.Test.YtgikhbfbjkdadaaWakes02
import Derived.WalkKit
import Derived.WalkSpells
import Derived.WalkLawsBesides
import Derived.Lib.Hide
import Derived.Deep.QuietTactic
import Derived.BigQuiet
namespace Go.Proofs.Ytgikhbfbjkdadaa
open Go.RowKit

/-- the weights of SplitTurns -/
def wTurns (g : Nat → Int) : Nat → Int := fun j => if j = 0 then 0 else if j = 1 then 1 else g (j - 2) % 50
theorem wTurns_bd (g : Nat → Int) (j : Nat) : 0 ≤ wTurns g j ∧ wTurns g j ≤ 1000000 := by
  unfold wTurns
  by_cases h : j = 0
  · simp [h]
  · by_cases h' : j = 1
    · simp [h']
    · rw [if_neg h, if_neg h']; omega
theorem wTurns_tot (g : Nat → Int) (k : Nat) : 0 < tot (wTurns g) (k + 2) := by
  have := tot_one_le (g := wTurns g) (k + 2) (fun j _ => (wTurns_bd g j).1) 1 (by omega)
  have e : wTurns g 1 = 1 := by simp [wTurns]
  omega
theorem lit_own {w : World} {E : TypeId} (zs : List Int) (hm : zs.length ≤ maxLen) : Own (w.alloc (.cells (zs.map (Value.int .i64)).toArray E)) E w.heap.size (.slice (some ⟨w.heap.size, 0, none⟩) zs.length zs.length) zs.length (fun j => zs.getD j 0) := by
  have h := World.ownsRow_lit (base := w.heap.size) (e := E) (size := 1) w (zs.map (Value.int .i64)).toArray zs.length (Nat.le_refl _) hm (by simp)
  have e : ((List.range zs.length).map fun j => Value.int .i64 (zs.getD j 0)) = zs.map (Value.int .i64) := by
    apply List.ext_getElem (by simp)
    intro j h1 h2
    simp at h1
    simp [List.getD, h1]
  unfold Own; rw [e]; simpa using h
theorem splitV_neg {n : Int} {len : Nat} {g : Nat → Int} (hn : 0 ≤ n) (hT : 0 < tot g len) {j : Nat} (hj : j < len) : splitV (-n) len g j = -splitV n len g j := by
  rw [splitV, splitV, if_neg (show ¬ n < 0 by omega)]
  by_cases h : n = 0
  · subst h
    rw [if_neg (by omega)]
    have : splitF 0 (tot g len) len g j = 0 := by
      rcases splitF_each (n := 0) hT rfl hj with e | ⟨_, e⟩
      · rw [e]; simp
      · simp at e
    simp [this]
  · rw [if_pos (by omega), Int.neg_neg]
/-- what SplitTurns asks of each part -/
theorem turns_part (n : Int) (k : Nat) (g : Nat → Int) (hn : 0 ≤ n) (j : Nat) (hj : j < k + 2) :
    0 ≤ splitV n (k + 2) (wTurns g) j ∧ (wTurns g j = 0 → splitV n (k + 2) (wTurns g) j = 0) := by
  rw [splitV, if_neg (by omega)]
  exact ⟨splitF_nonneg (wTurns_tot g k) rfl hn hj (wTurns_bd g j).1, splitF_none (wTurns_tot g k) rfl hj⟩
theorem splitOk_one {n : Int} (h1 : 0 ≤ n) (h2 : n ≤ 100000000000) : SplitOk n 1 (fun j => [77].getD j 0) := by
  refine ⟨⟨by omega, by omega⟩, by omega, fun j hj => ?_, by simp [tot]⟩
  obtain rfl : j = 0 := by omega
  simp
theorem splitF_one {n T : Int} (hT : 0 < T) {g : Nat → Int} (hg : g 0 = T) : splitF n T 1 g 0 = n := by
  have := splitF_tot (n := n) (len := 1) (g := g) hT (by simp [tot, hg])
  simpa [tot] using this

set_option maxHeartbeats 4000000 in
set_option maxRecDepth 100000 in
theorem splitTurns_walk (a0 : Int) (a1 : Option Addr) (len1 cap1 : Nat) (z1 : List Int) (w : World) (_w0 : (Lit.int .i64 a0).wf = true) (w1 : IsRow .i64 w a1 len1 cap1 z1) :
    Calls Try.prog 7 #[.int .i64 a0, .slice a1 len1 cap1] w fun e w' => e = .returned (.bool true) ∧ Below w.heap.size w w' := by
  obtain ⟨hAt, hlc, hcm, hA, hwf⟩ := w1.at
  unfold maxLen at hcm
  obtain ⟨g, hg⟩ : ∃ g : Nat → Int, g = fun j => z1.getD j 0 := ⟨_, rfl⟩
  rw [← hg] at hAt
  have HAt := Lib.hid hAt
  clear hwf w1 hg hA hAt
  obtain ⟨N, hN⟩ : ∃ N, a0 % 100000000001 = N := ⟨_, rfl⟩
  have n1 : 0 ≤ N := by omega
  have n2 : N ≤ 100000000000 := by omega
  have HN := Lib.hid hN; clear hN
  obtain ⟨i0, hi, hz0, hz1, hz2⟩ := info_parts int_info
  have hmk : ∀ w : World, (Instr.makeSlice 22 (.int .i64 17) (.int .i64 17)).run Try.prog w = .ok (.slice (some ⟨w.heap.size, 0, none⟩) 17 17) (w.alloc (.cells (madeCells #[.int .i64 0] 17) 3)) :=
    fun w => run_make_row' (P := Try.prog) 22 3 (.int .i64 0) 8 Try.underlying22 int_info rfl .i64 .i64 17 (by omega) (by omega) w
  go_enter Try.func7, Try.ntmps7
  go_wp2_with (go_at_call 8; (with_reducible refine (within_at _ _ _ _ (by omega) (by omega) HN).mono ?_); rintro e w' ⟨rfl, rfl⟩)
  have O0 : Own (w.alloc (.cells #[.int .i64 0, .int .i64 1] 3)) 3 w.heap.size (.slice (some ⟨w.heap.size, 0, none⟩) 2 2) 2 (wTurns g) :=
    (lit_own [0, 1] (by unfold maxLen; simp)).ext fun j hj => by rcases (show j = 0 ∨ j = 1 by simp at hj; omega) with rfl | rfl <;> simp [wTurns]
  have B0 := (Below.refl w.heap.size w).alloc (Nat.le_refl _) (.cells #[.int .i64 0, .int .i64 1] 3)
  go_loopw [5, 6] (fun v i wr => ∃ k : Nat, k ≤ len1 ∧ k ≤ 13 ∧ i = .int .i64 k ∧ Own wr 3 w.heap.size v (k + 2) (wTurns g) ∧ Below w.heap.size w wr) (fun _ i _ => 13 - (intOf i).toNat)
  case atStart => exact ⟨0, Nat.zero_le _, by omega, rfl, O0, B0⟩
  case round =>
    obtain ⟨k, hk, hk13, rfl, ho, hbw⟩ := hrel
    clear O0 B0
    by_cases hlt : k < len1 ∧ k < 13
    · obtain ⟨h1, h2⟩ := hlt
      obtain ⟨b0, c0, rfl, oc, ocm, _, _⟩ := ho.some (by omega)
      unfold maxLen at ocm
      obtain ⟨b, off, rfl, hb, hc⟩ := HAt.out.some (by omega)
      have ck : wr.cell? ⟨b, off + k, none⟩ = some (.int .i64 (g k)) := (hbw.cell (p := ⟨b, off + k, none⟩) hb).trans (hc k h1)
      obtain ⟨x, hx⟩ : ∃ x, g k % 50 = x := ⟨_, rfl⟩
      have HX := Lib.hid hx
      have HO := Lib.hid ho
      clear hc hx ho
      go_wp2_with (first | (go_at_call 8; (with_reducible refine (within_at _ _ _ _ (by omega) (by omega) HX).mono ?_); rintro e w' ⟨rfl, rfl⟩) | (at_builtin; (refine wpList_push_int rfl (.tmp 35) (.tmp 41) rfl Try.underlying22 hi hz0 hz1 hz2 w w.heap.size (k + 2) wr.heap.size (.slice (some ⟨b0, 0, none⟩) (k + 2) c0) (wTurns g) x rfl rfl (by simp) (HO.out.alloc _) (by omega) (hbw.alloc hbw.size _) (by have := hbw.size; simp; omega) _ rfl ?_; intro b1 c1 w' ho' hb' hg' hat'; have HO' := Lib.hid ho'; clear ho' hg' hat')))
      go_roundw
      case rel =>
        refine ⟨k + 1, by omega, by omega, by go_num, HO'.out.ext fun j hj => ?_, hb'⟩
        by_cases e : j = k + 2
        · subst e; simp [wTurns, HX.out]
        · rw [if_neg e]
      case measure => simp [intOf]; omega
    · obtain ⟨b0, c0, rfl, oc, ocm, ob, orow⟩ := ho.some (by omega)
      unfold maxLen at ocm
      have R0 := Lib.hid orow
      have hS : SplitOk N (k + 2) (wTurns g) := ⟨⟨by omega, by omega⟩, by omega, fun j _ => wTurns_bd g j, wTurns_tot g k⟩
      have hS' : SplitOk (-N) (k + 2) (wTurns g) := ⟨⟨by omega, by omega⟩, by omega, fun j _ => wTurns_bd g j, wTurns_tot g k⟩
      have HS := Lib.hid hS
      have HS' := Lib.hid hS'
      have HB := Lib.hid hbw
      clear hS hS' ho orow hbw ob
      rcases (show ¬ k < len1 ∨ (k < len1 ∧ ¬ k < 13) by omega) with hq | ⟨hq1, hq⟩
      all_goals
        clear hlt
        go_wp2_with fail
        refine (split_yes N b0 0 (k + 2) c0 _ _ R0.out.1 R0.out.hid HS).mono ?_; rintro e w2 ⟨B2, rfl, hB2, hr2, hb2⟩
        (replace R0 := Lib.hid (R0.out.below hb2))
        have HB2 := Lib.hid (HB.out.trans (hb2.mono HB.out.size))
        have R2 := Lib.hid hr2
        clear HB hb2 hB2 hr2
        go_wp2_with fail
        refine (split_yes (-N) b0 0 (k + 2) c0 _ _ R0.out.1 R0.out.hid HS').mono ?_; rintro e w3 ⟨B3, rfl, hB3, hr3, hb3⟩
        (replace R0 := Lib.hid (R0.out.below hb3); replace R2 := Lib.hid (R2.out.below hb3))
        have HB3 := Lib.hid (HB2.out.trans (hb3.mono HB2.out.size))
        have R3 := Lib.hid hr3
        clear HB2 hb3 hB3 hr3
        go_wp2_with fail
        have L4 := Lib.hid (lit_row w3 [77] 3)
        have hb4 := (Below.refl w3.heap.size w3).alloc (Nat.le_refl _) (.cells #[.int .i64 77] 3)
        (replace R0 := Lib.hid (R0.out.below hb4); replace R2 := Lib.hid (R2.out.below hb4); replace R3 := Lib.hid (R3.out.below hb4))
        have HB4 := Lib.hid (HB3.out.trans (hb4.mono HB3.out.size))
        clear hb4 HB3
        have HS4 := Lib.hid (splitOk_one n1 n2)
        refine (split_yes N w3.heap.size 0 1 1 _ _ L4.out.1 L4.out.hid HS4).mono ?_; rintro e w5 ⟨B5, rfl, hB5, hr5, hb5⟩
        (replace R0 := Lib.hid (R0.out.below hb5); replace R2 := Lib.hid (R2.out.below hb5); replace R3 := Lib.hid (R3.out.below hb5))
        have HB5 := Lib.hid (HB4.out.trans (hb5.mono HB4.out.size))
        have R5 : Hid (Row w5 B5 1 (fun _ => N)) := Lib.hid (hr5.ext fun j hj => by
          obtain rfl : j = 0 := by omega
          rw [splitV, if_neg (by omega)]; exact splitF_one (by simp [tot]) (by simp [tot]))
        clear HB4 hb5 hB5 hr5 HS4 L4
        go_wp2_with fail
        have L6 := Lib.hid (lit_row w5 [N] 3)
        have hb6 := (Below.refl w5.heap.size w5).alloc (Nat.le_refl _) (.cells #[.int .i64 N] 3)
        (replace R0 := Lib.hid (R0.out.below hb6); replace R2 := Lib.hid (R2.out.below hb6); replace R3 := Lib.hid (R3.out.below hb6); replace R5 := Lib.hid (R5.out.below hb6))
        have HB6 := Lib.hid (HB5.out.trans (hb6.mono HB5.out.size))
        clear hb6 HB5
        refine (same_true _ _ 1 1 1 _ _ _ R5.out.at L6.out.at (by omega) (fun j hj => by
          obtain rfl : j = 0 := by omega
          simp)).mono ?_; rintro e w7 ⟨rfl, hb7⟩
        (replace R0 := Lib.hid (R0.out.below hb7); replace R2 := Lib.hid (R2.out.below hb7); replace R3 := Lib.hid (R3.out.below hb7))
        have HB7 := Lib.hid (HB6.out.trans (hb7.mono HB6.out.size))
        clear HB6 hb7 R5 L6
        go_wp2_with fail
        go_loopw [95] (fun i wr => ∃ m : Nat, m ≤ k + 2 ∧ i = .int .i64 m ∧ Below w7.heap.size w7 wr) (fun i _ => k + 2 - (intOf i).toNat)
        case atStart => exact ⟨0, Nat.zero_le _, rfl, Below.refl _ _⟩
        case round =>
          obtain ⟨m, hm, rfl, hbr⟩ := hrel
          by_cases hmk' : m < k + 2
          · obtain ⟨c1, _⟩ := (R0.out.below hbr).2 m hmk'
            obtain ⟨c2, _⟩ := (R2.out.below hbr).2 m hmk'
            obtain ⟨c3, _⟩ := (R3.out.below hbr).2 m hmk'
            rw [splitV_neg n1 (wTurns_tot g k) hmk'] at c3
            obtain ⟨t1, t2⟩ := turns_part N k g n1 m hmk'
            have bd : splitV N (k + 2) (wTurns g) m ≤ 100000000000 := by
              have := splitF_bd (n := N) (wTurns_tot g k) rfl n1 n2 (fun j _ => wTurns_bd g j) hmk'
              rw [splitV, if_neg (by omega)]; exact this.2
            obtain ⟨x, hx⟩ : ∃ x, splitV N (k + 2) (wTurns g) m = x := ⟨_, rfl⟩
            obtain ⟨y, hy⟩ : ∃ y, wTurns g m = y := ⟨_, rfl⟩
            rw [hx] at c2 c3 t1 t2 bd
            rw [hy] at c1 t2
            have HBR := Lib.hid hbr
            clear hx hy hbr hmk
            have HMK := Lib.hid hmk'
            by_cases hy0 : y = 0
            · subst hy0
              obtain rfl := t2 rfl
              clear t2
              go_wp2
              go_big_quiet (fail)
              go_wp2
              go_roundw
              case rel => exact ⟨m + 1, by omega, by go_num, below_drawn HBR.out _⟩
              case measure => simp [intOf]; omega
            · clear t2
              have hd : (y == 0) = false := by simpa using hy0
              have hx' : decide (x < 0) = false := decide_eq_false (by omega)
              go_wp2
              go_big_quiet (fail)
              go_wp2
              go_roundw
              case rel => exact ⟨m + 1, by omega, by go_num, below_drawn HBR.out _⟩
              case measure => simp [intOf]; omega
          · obtain rfl : m = k + 2 := by omega
            have HB8 := Lib.hid (HB7.out.trans (hbr.mono HB7.out.size))
            clear R0 R2 R3 HB7 hbr hmk'
            have HN0 : Hid (¬ SplitOk N 0 (fun _ => 0)) := Lib.hid fun h => by have := h.2.2.2; simp [tot] at this
            have HN1 : Hid (¬ SplitOk N 2 (fun j => [1, -1].getD j 0)) := Lib.hid fun h => by have := (h.2.2.1 1 (by omega)).1; simp at this
            have HN2 : Hid (¬ SplitOk N 1 (fun j => [1000001].getD j 0)) := Lib.hid fun h => by have := (h.2.2.1 0 (by omega)).2; simp at this
            have HN3 : Hid (¬ SplitOk N 17 (fun _ => 0)) := Lib.hid fun h => by have := h.2.1; omega
            go_wp2_with fail
            refine (split_no N none 0 0 (fun _ => 0) _ (.inl rfl) HN0).mono ?_; rintro e w' ⟨rfl, rfl⟩
            go_wp2_with fail
            have L9 := Lib.hid (lit_row wr [1, -1] 3)
            have HB9 := Lib.hid (HB8.out.alloc HB8.out.size (.cells #[.int .i64 1, .int .i64 (-1)] 3))
            clear HB8
            refine (split_no N _ 2 2 _ _ L9.out.at HN1).mono ?_; rintro e w' ⟨rfl, rfl⟩
            clear L9
            go_wp2_with fail
            have L10 := Lib.hid (lit_row' (wr.alloc (.cells #[.int .i64 1, .int .i64 (-1)] 3)) [1000001] 3 (wr.heap.size + 1) (by simp))
            have HB10 := Lib.hid (HB9.out.alloc HB9.out.size (.cells #[.int .i64 1000001] 3))
            clear HB9
            refine (split_no N _ 1 1 _ _ L10.out.at HN2).mono ?_; rintro e w' ⟨rfl, rfl⟩
            clear L10
            go_wp2_with fail
            have L11 := Lib.hid (made_row' ((wr.alloc (.cells #[.int .i64 1, .int .i64 (-1)] 3)).alloc (.cells #[.int .i64 1000001] 3)) 17 3 (wr.heap.size + 2) (by simp))
            have HB11 := Lib.hid (HB10.out.alloc HB10.out.size (.cells (madeCells #[.int .i64 0] 17) 3))
            clear HB10
            refine (split_no N _ 17 17 _ _ L11.out.at HN3).mono ?_; rintro e w' ⟨rfl, rfl⟩
            clear L11
            go_wp2_with fail
            refine (wakes2_any _).mono ?_; rintro e w12 ⟨rfl, hb12⟩
            have HB12 := Lib.hid (HB11.out.trans (hb12.mono HB11.out.size))
            clear HB11 hb12
            go_wp2
            go_ret
            exact ⟨rfl, HB12.out⟩
end Go.Proofs.Ytgikhbfbjkdadaa
