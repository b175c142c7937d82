/- journal.Reverse; Copy and Same of lines: a contract for each. -/
import Derived.Test.YtpbpflhoeidpnaaJour2
import Derived.WalkKit
import Derived.WalkSpells
import Derived.WalkLawsBesides
import Derived.Lib.Hide
import Derived.Deep.LoopGhost
import Derived.Deep.QuietTactic
import Derived.BigQuiet
import Derived.Laws.StructEq
namespace Go.Proofs.Ytpbpflhoeidpnaa
open Go.RowKit

theorem copyl_any (A : Option Addr) (n c : Nat) (ga gm : Nat → Int) (w : World) (hA : AtL w A n ga gm) (hn : n ≤ 1000000) (hN : A = none → n = 0 ∧ c = 0) :
    Calls Try.prog 20 #[.slice A n c] w fun e w' => ∃ v, e = .returned v ∧ OwnL w' 26 w.heap.size v n ga gm ∧ Below w.heap.size w w' := by
  obtain ⟨i0, hi, hz0, hz1, hz2⟩ := info_parts line_info
  have HA := Lib.hid hA
  have HN := Lib.hid hN
  clear hA hN
  go_enter Try.func20, Try.ntmps20
  go_wp2_with (at_builtin; (refine wpList_app_l rfl _ (.tmp 3) rfl line_type hi hz0 hz1 hz2 w w.heap.size 0 n c (.slice none 0 0) A (fun _ => 0) (fun _ => 0) ga gm rfl rfl (OwnL.nil _ _ _ _ _) HA.out HN.out (by omega) hn (Below.refl _ _) (Nat.le_refl _) ?_; intro v' w' ho' hb' hg'; have HO' := Lib.hid ho'; have HB' := Lib.hid hb'; clear ho' hb' hg'))
  go_ret
  exact ⟨_, rfl, by have := HO'.out; rw [Nat.zero_add] at this; exact this.ext fun j hj => ⟨cat_ge (by omega), cat_ge (by omega)⟩, HB'.out⟩
set_option maxHeartbeats 4000000 in
set_option maxRecDepth 100000 in
theorem samel_true (A A' : Option Addr) (n c c' : Nat) (ga gm ga' gm' : Nat → Int) (w : World) (h : AtL w A n ga gm) (h' : AtL w A' n ga' gm') (hn : n ≤ 1000000) (e : ∀ j, j < n → ga j = ga' j ∧ gm j = gm' j) :
    Calls Try.prog 21 #[.slice A n c, .slice A' n c'] w fun e w' => e = .returned (.bool true) ∧ Below w.heap.size w w' := by
  rcases Nat.eq_zero_or_pos n with h0 | h0
  · subst h0
    clear h h' e
    go_enter Try.func21, Try.ntmps21
    go_wp2
    refine wp_loop_rounds 1 ?_; rw [rounds_succ]
    go_wp2
    go_ret
    exact ⟨rfl, Below.refl _ _⟩
  · obtain ⟨b, off, rfl, hb, hc⟩ := h.some h0
    obtain ⟨b', off', rfl, hb', hc'⟩ := h'.some h0
    have HC := Lib.hid hc
    have HC' := Lib.hid hc'
    have HE := Lib.hid e
    clear hc hc' e h h'
    go_enter Try.func21, Try.ntmps21
    go_wp2
    go_loopw [5] (fun i wr => ∃ k : Nat, k ≤ n ∧ i = .int .i64 k ∧ Below w.heap.size w wr) (fun i _ => n - (intOf i).toNat)
    case atStart => exact ⟨0, Nat.zero_le _, rfl, Below.refl _ _⟩
    case round =>
      obtain ⟨k, hk, rfl, hbw⟩ := hrel
      by_cases hlt : k < n
      · have ck : wr.cell? ⟨b, off + k * 2, none⟩ = some (.int .i64 (ga' k)) := by rw [← (HE.out k hlt).1]; exact (hbw.cell (p := ⟨b, off + k * 2, none⟩) hb).trans (HC.out k hlt).1
        have dk : wr.cell? ⟨b, off + k * 2 + 1, none⟩ = some (.int .i64 (gm' k)) := by rw [← (HE.out k hlt).2]; exact (hbw.cell (p := ⟨b, off + k * 2 + 1, none⟩) hb).trans (HC.out k hlt).2
        have ck' : wr.cell? ⟨b', off' + k * 2, none⟩ = some (.int .i64 (ga' k)) := (hbw.cell (p := ⟨b', off' + k * 2, none⟩) hb').trans (HC'.out k hlt).1
        have dk' : wr.cell? ⟨b', off' + k * 2 + 1, none⟩ = some (.int .i64 (gm' k)) := (hbw.cell (p := ⟨b', off' + k * 2 + 1, none⟩) hb').trans (HC'.out k hlt).2
        go_wp2
        go_quiet (fail)
        go_wp2
        go_roundw
        case rel => exact ⟨k + 1, by omega, by go_num, below_drewN hbw _⟩
        case measure => simp [intOf]; omega
      · obtain rfl : k = n := by omega
        go_wp2
        go_ret
        exact ⟨rfl, hbw⟩
set_option maxHeartbeats 4000000 in
set_option maxRecDepth 100000 in
theorem jrev_any (A : Option Addr) (n c : Nat) (ga gm : Nat → Int) (w : World) (hA : AtL w A n ga gm) (hn : n ≤ 1000000) :
    Calls Try.prog 30 #[.slice A n c] w fun e w' => ∃ v, e = .returned v ∧ OwnL w' 26 w.heap.size v n ga (fun j => wrap64 (-gm j)) ∧ Below w.heap.size w w' := by
  obtain ⟨i0, hi, hz0, hz1, hz2⟩ := info_parts line_info
  have hmk := make_l (P := Try.prog) line_type hi hz0 hz1 hz2 n hn
  have HA := Lib.hid hA
  clear hA
  have HO1 := Lib.hid (made_l w 26 n hn)
  have HB1 := Lib.hid ((Below.refl w.heap.size w).alloc (Nat.le_refl _) (.cells (madeCells #[.int .i64 0, .int .i64 0] (n * 2)) 26))
  go_enter Try.func30, Try.ntmps30
  go_wp2
  go_loopg [11] n (fun gh i wr => ∃ k : Nat, k ≤ n ∧ gh = n - k ∧ i = .int .i64 k ∧ OwnL wr 26 w.heap.size (.slice (some ⟨w.heap.size, 0, none⟩) n n) n (fun j => if j < k then ga j else 0) (fun j => if j < k then wrap64 (-gm j) else 0) ∧ Below w.heap.size w wr)
  case atStart => exact ⟨0, Nat.zero_le _, by omega, rfl, HO1.out.ext fun j hj => ⟨(if_neg (by omega)).symm, (if_neg (by omega)).symm⟩, HB1.out⟩
  case round =>
    obtain ⟨k, hk, hgk, rfl, ho, hbw⟩ := hrel
    have HGK := Lib.hid hgk
    have HB := Lib.hid hbw
    have HO := Lib.hid ho
    clear hgk hbw ho
    by_cases hlt : k < n
    · obtain ⟨b, off, rfl, hb, hc⟩ := HA.out.some (by omega)
      have ck := (HB.out.cell (p := ⟨b, off + k * 2, none⟩) hb).trans (hc k hlt).1
      have ck' := (HB.out.cell (p := ⟨b, off + k * 2 + 1, none⟩) hb).trans (hc k hlt).2
      obtain ⟨b', c', e', _, _, _, hlt', hcell⟩ := HO.out.some (by omega)
      injection e' with e1 e2 e3
      injection e1 with e1
      injection e1 with e1
      subst e1
      have d1 := (hcell k hlt).1
      have d2 := (hcell k hlt).2
      rw [if_neg (by omega)] at d1 d2
      have f1 := World.ownsRow.frozenAt HO.out (k * 2)
      have f2 := World.ownsRow.frozenAt HO.out (k * 2 + 1)
      clear hc hcell e2 e3
      go_wp2
      go_roundg (n - (k + 1))
      case measure => have := HGK.out; omega
      case rel =>
        refine ⟨k + 1, by omega, rfl, by go_num, ?_, ?_⟩
        · refine (((HO.out.setA k (ga k)).setM k (wrap64 (-gm k))).alloc (.cells #[.int .i64 (ga k), .int .i64 (gm k)] 26)).ext fun j hj => ?_
          by_cases q : j = k
          · rw [q]; simp
          · by_cases p : j < k
            · simp [q, p, show j < k + 1 by omega]
            · simp [q, p, show ¬ j < k + 1 by omega]
        · exact ((HB.out.setCell (p := ⟨w.heap.size, k * 2, none⟩) (Nat.le_refl _) _).setCell (p := ⟨w.heap.size, k * 2 + 1, none⟩) (Nat.le_refl _) _).alloc (by have := HB.out.size; simpa using this) _
    · obtain rfl : k = n := by omega
      clear hlt
      go_wp2
      go_ret
      exact ⟨_, rfl, HO.out.ext fun j hj => ⟨if_pos hj, if_pos hj⟩, HB.out⟩
end Go.Proofs.Ytpbpflhoeidpnaa
