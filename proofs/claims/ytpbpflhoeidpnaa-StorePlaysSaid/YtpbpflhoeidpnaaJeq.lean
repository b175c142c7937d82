/- Journals held against journals by law 7: a contract. -/
import Derived.Test.YtpbpflhoeidpnaaStore6
import Derived.Test.YtpbpflhoeidpnaaJour3
import Derived.WalkKit
import Derived.WalkSpells
import Derived.WalkLawsBesides
import Derived.Lib.Hide
import Derived.Deep.LoopGhost
import Derived.Deep.QuietTactic
import Derived.BigQuiet
import Derived.Laws.StructEq
namespace Go.Proofs.Ytpbpflhoeidpnaa
open Go.RowKit

/-- journals that can be read, with their lines -/
def AtJ (w : World) (v : Value) (n : Nat) (js : Nat → Jn) : Prop := ∃ (A : Option Addr) (c : Nat) (L : Nat → Value), v = .slice A n c ∧ (0 < n → ∃ b, A = some ⟨b, 0, none⟩ ∧ b < w.heap.size ∧ ∀ k, k < n → JC w b (k * 6) (js k) (L k)) ∧ ∀ k, k < n → SomeL (L k) w (js k).n (js k).ga (js k).gm
theorem AtJ.below {w w1 : World} {v : Value} {n : Nat} {js : Nat → Jn} (h : AtJ w v n js) (k : Below w.heap.size w w1) : AtJ w1 v n js := by
  obtain ⟨A, c, L, e, h1, h2⟩ := h
  refine ⟨A, c, L, e, fun hn => ?_, fun j hj => (h2 j hj).below k⟩
  obtain ⟨b, e1, hb, hc⟩ := h1 hn
  exact ⟨b, e1, Nat.lt_of_lt_of_le hb k.size, fun j hj => (hc j hj).below hb k⟩
theorem OwnJ.atJ {w : World} {base n : Nat} {v : Value} {L : Nat → Value} {js : Nat → Jn} (o : OwnJ w base v n L js) (h : ∀ k, k < n → SomeL (L k) w (js k).n (js k).ga (js k).gm) : AtJ w v n js := by
  obtain ⟨A, c, rfl, _⟩ := o.form
  refine ⟨A, c, L, rfl, fun hn => ?_, h⟩
  obtain ⟨b, c', e, _, _, _, hb, hc⟩ := o.some hn
  injection e with e1 _ _
  exact ⟨b, e1, hb, hc⟩
set_option maxHeartbeats 4000000 in
set_option maxRecDepth 100000 in
/-- the same lines: told by draws alone -/
theorem samel_q (A A' : Option Addr) (n c c' : Nat) (ga gm : Nat → Int) (w : World) (h : AtL w A n ga gm) (h' : AtL w A' n ga gm) (hn : n ≤ 1000000) :
    Calls Try.prog 21 #[.slice A n c, .slice A' n c'] w fun e w' => e = .returned (.bool true) ∧ ∃ m, w' = w.drewN m := by
  rcases Nat.eq_zero_or_pos n with h0 | h0
  · subst h0
    clear h h'
    go_enter Try.func21, Try.ntmps21
    go_wp2
    refine wp_loop_rounds 1 ?_; rw [rounds_succ]
    go_wp2
    go_ret
    exact ⟨rfl, 0, rfl⟩
  · obtain ⟨b, off, rfl, hb, hc⟩ := h.some h0
    obtain ⟨b', off', rfl, hb', hc'⟩ := h'.some h0
    have HC := Lib.hid hc
    have HC' := Lib.hid hc'
    clear hc hc' h h'
    go_enter Try.func21, Try.ntmps21
    go_wp2
    go_loopw [5] (fun i wr => ∃ k m : Nat, k ≤ n ∧ i = .int .i64 k ∧ wr = w.drewN m) (fun i _ => n - (intOf i).toNat)
    case atStart => exact ⟨0, 0, Nat.zero_le _, rfl, rfl⟩
    case round =>
      obtain ⟨k, m, hk, rfl, rfl⟩ := hrel
      by_cases hlt : k < n
      · have ck : (w.drewN m).cell? ⟨b, off + k * 2, none⟩ = some (.int .i64 (ga k)) := (HC.out k hlt).1
        have dk : (w.drewN m).cell? ⟨b, off + k * 2 + 1, none⟩ = some (.int .i64 (gm k)) := (HC.out k hlt).2
        have ck' : (w.drewN m).cell? ⟨b', off' + k * 2, none⟩ = some (.int .i64 (ga k)) := (HC'.out k hlt).1
        have dk' : (w.drewN m).cell? ⟨b', off' + k * 2 + 1, none⟩ = some (.int .i64 (gm k)) := (HC'.out k hlt).2
        obtain ⟨w1, hw1⟩ : ∃ w1, w.drewN m = w1 := ⟨_, rfl⟩
        rw [hw1] at ck dk ck' dk' ⊢
        have HW1 := Lib.hid hw1
        clear hw1
        go_wp2
        go_quiet (fail)
        go_wp2
        go_roundw
        case rel => exact ⟨k + 1, _, by omega, by go_num, by rw [← HW1.out, World.drewN_drewN]⟩
        case measure => simp [intOf]; omega
      · obtain rfl : k = n := by omega
        go_wp2
        go_ret
        exact ⟨rfl, m, rfl⟩
theorem samel_at (A A' : Option Addr) (n c c' q : Nat) (ga gm : Nat → Int) (w : World) (h : AtL w A n ga gm) (h' : AtL w A' n ga gm) (hn : n ≤ 1000000) :
    Calls Try.prog 21 #[.slice A n c, .slice A' n c'] (w.drewN q) fun e w' => e = .returned (.bool true) ∧ ∃ m, w' = w.drewN m :=
  (samel_q A A' n c c' ga gm (w.drewN q) (h.below (drewN_below _ _ _)) (h'.below (drewN_below _ _ _)) hn).mono fun _ _ ⟨he, m, hm⟩ => ⟨he, q + m, by rw [hm, World.drewN_drewN]⟩
set_option maxHeartbeats 8000000 in
set_option maxRecDepth 100000 in
theorem jeq_true (v v' : Value) (n : Nat) (js : Nat → Jn) (w : World) (h : AtJ w v n js) (h' : AtJ w v' n js) (hn : n ≤ 200) (hg : ∀ k, k < n → (js k).n ≤ 1000) :
    Calls Try.prog 26 #[v, v'] w fun e w' => e = .returned (.bool true) ∧ Below w.heap.size w w' := by
  obtain ⟨A, c, L, rfl, h1, h2⟩ := h
  obtain ⟨A', c', L', rfl, h1', h2'⟩ := h'
  have H1 := Lib.hid h1
  have H2 := Lib.hid h2
  have H1' := Lib.hid h1'
  have H2' := Lib.hid h2'
  have HG := Lib.hid hg
  clear h1 h2 h1' h2' hg
  go_enter Try.func26, Try.ntmps26
  go_wp2
  go_loopg [13] n (fun gh i wr => ∃ k : Nat, k ≤ n ∧ gh = n - k ∧ i = .int .i64 k ∧ Below w.heap.size w wr)
  case atStart => exact ⟨0, Nat.zero_le _, by omega, rfl, Below.refl _ _⟩
  case round =>
    obtain ⟨k, hk, hgk, rfl, hbw⟩ := hrel
    have HGK := Lib.hid hgk
    have HB := Lib.hid hbw
    clear hgk hbw
    by_cases hlt : k < n
    · obtain ⟨b, rfl, hb, hc⟩ := H1.out (by omega)
      obtain ⟨b', rfl, hb', hc'⟩ := H1'.out (by omega)
      obtain ⟨c0, c1, c2, c3, c4, c5⟩ := (hc k hlt).below hb HB.out
      obtain ⟨d0, d1, d2, d3, d4, d5⟩ := (hc' k hlt).below hb' HB.out
      obtain ⟨Ak, ck, hL, _, _, _, hA⟩ := (H2.out k hlt).below HB.out
      obtain ⟨Ak', ck', hL', _, _, _, hA'⟩ := (H2'.out k hlt).below HB.out
      rw [hL] at c5
      rw [hL'] at d5
      have HA := Lib.hid hA
      have HA' := Lib.hid hA'
      have hm := HG.out k hlt
      have q1 := (bytes_is (js k).ent (js k).ent).2 rfl
      clear hc hc' hL hL' hA hA'
      go_wp2_with fail
      go_quiet ((go_at_call 21; exact samel_at _ _ _ _ _ _ _ _ _ HA.out HA'.out (by omega)))
      go_wp2
      go_roundg (n - (k + 1))
      case measure => have := HGK.out; omega
      case rel => exact ⟨k + 1, by omega, rfl, by go_num, below_drewN HB.out _⟩
    · obtain rfl : k = n := by omega
      clear hlt
      go_wp2
      go_ret
      exact ⟨rfl, HB.out⟩
end Go.Proofs.Ytpbpflhoeidpnaa
