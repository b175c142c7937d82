/- PeriodTells: its walk. -/
import Derived.Test.YtecknkbjgleocaaPeriod
import Derived.Test.YtecknkbjgleocaaRefP
import Derived.WalkKit
import Derived.WalkSpells
import Derived.WalkLawsBesides
import Derived.Lib.Hide
import Derived.Deep.LoopGhost
namespace Go.Proofs.Ytecknkbjgleocaa
open Go.RowKit

/-- what is told of a number p, by the program and by the document -/
structure Told (p : Int) (b : Bool) (y : Int) (t : ByteArray) : Prop where
  right : ∀ w, Calls Try.prog 12 #[.int .i64 p] w fun e w' => e = .returned (.bool b) ∧ w = w'
  rright : ∀ w, Calls Try.prog 13 #[.int .i64 p] w fun e w' => e = .returned (.bool b) ∧ w = w'
  year : ∀ w, Calls Try.prog 9 #[.int .i64 p] w fun e w' => e = .returned (.int .i64 y) ∧ w = w'
  ryear : ∀ w, Calls Try.prog 14 #[.int .i64 p] w fun e w' => e = .returned (.int .i64 y) ∧ w = w'
  text : ∀ w, Calls Try.prog 8 #[.int .i64 p] w fun e w' => e = .returned (.string t) ∧ Below w.heap.size w w'
  rtext : ∀ w, Calls Try.prog 15 #[.int .i64 p] w fun e w' => e = .returned (.string t) ∧ Below w.heap.size w w'
theorem told (p : Int) : ∃ b y t, Told p b y t := by
  by_cases h : 0 ≤ p ∧ p ≤ 399
  · obtain ⟨h1, h2⟩ := h
    exact ⟨true, p / 4, ptb p, fun w => pright_yes p w h1 h2, fun w => rperiod_yes p w h1 h2, fun w => pyear_yes p w h1 h2, fun w => ryear_yes p w h1 h2, fun w => ptext_yes p w h1 h2,
      fun w => (rtext_yes p w h1 h2).mono fun e w' ⟨he, n, hn⟩ => ⟨he, by rw [hn]; exact drewN_below _ _ _⟩⟩
  · have h' : p < 0 ∨ 399 < p := by omega
    exact ⟨false, -1, ⟨#[]⟩, fun w => pright_no p w h', fun w => rperiod_no p w h', fun w => pyear_no p w h', fun w => ryear_no p w h', fun w => (ptext_no p w h').mono fun e w' ⟨he, hn⟩ => ⟨he, hn ▸ Below.refl _ _⟩,
      fun w => (rtext_no p w h').mono fun e w' ⟨he, hn⟩ => ⟨he, hn ▸ Below.refl _ _⟩⟩
/-- of the first k periods: which one's text is t, if one's is -/
def Found (t : ByteArray) (k : Int) (n : Int) (b : Bool) : Prop :=
  (b = true ∧ 0 ≤ n ∧ n < k ∧ ptb n = t) ∨ (b = false ∧ n = 0 ∧ ∀ j, 0 ≤ j → j < k → ptb j ≠ t)
theorem Found.start (t : ByteArray) : Found t 0 0 false := .inr ⟨rfl, rfl, fun j _ _ => by omega⟩
theorem Found.yes {t : ByteArray} {k : Int} (hk : 0 ≤ k) (h : ptb k = t) : Found t (k + 1) k true := .inl ⟨rfl, hk, by omega, h⟩
theorem Found.no {t : ByteArray} {k n : Int} {b : Bool} (f : Found t k n b) (h : ptb k ≠ t) : Found t (k + 1) n b := by
  rcases f with ⟨e, h1, h2, h3⟩ | ⟨e, h1, h2⟩
  · exact .inl ⟨e, h1, by omega, h3⟩
  · refine .inr ⟨e, h1, fun j a c => ?_⟩
    by_cases hj : j = k
    · subst hj; exact h
    · exact h2 j a (by omega)
theorem Found.parse {t : ByteArray} {n : Int} {b : Bool} (f : Found t 400 n b) (w : World) : Calls Try.prog 17 #[.string t] w fun e w' => e = .returned (.tuple #[.int .i64 n, .bool b]) ∧ Below w.heap.size w w' := by
  rcases f with ⟨rfl, h1, h2, rfl⟩ | ⟨rfl, rfl, h2⟩
  · exact parse_yes n w h1 (by omega)
  · exact parse_no t w fun p a c => h2 p a (by omega)
theorem ptb_is (k : Int) (t : ByteArray) : ((ptb k).toList == t.toList) = true ↔ ptb k = t := by
  rw [beq_iff_eq, ByteArray.toList_eq, ByteArray.toList_eq]
  exact ⟨fun h => Go.WideShapes.bytes_inj h, fun h => by rw [h]⟩
set_option maxHeartbeats 2000000 in
theorem periodTells_walk (a0 a1 : Int) (a2 : ByteArray) (a3 : Bool) (w : World) (_w0 : (Lit.int .i64 a0).wf = true) (_w1 : (Lit.int .i64 a1).wf = true) (w2 : a2.size ≤ maxLen) :
    Calls Try.prog 4 #[.int .i64 a0, .int .i64 a1, .string a2, .bool a3] w fun e w' => e = .returned (.bool true) ∧ Below w.heap.size w w' := by
  obtain ⟨t, ht⟩ : ∃ t, cutb a2 8 = t := ⟨_, rfl⟩
  have HT := Lib.hid ht
  clear ht
  have KT : Hid (∀ w, Calls Try.prog 16 #[.string a2, .int .i64 8] w fun e w' => e = .returned (.string t) ∧ w = w') := Lib.hid fun w => by
    have := ktext_any a2 8 w (by omega) (by omega) w2
    rw [HT.out] at this; exact this
  clear w2 HT
  have HB := Lib.hid (Below.refl w.heap.size w)
  obtain ⟨p, y, hpy⟩ : ∃ p y, (a3 = true → p = a0 ∧ y = a1) ∧ (a3 = false → (a0 % 402 = p + 1 ∧ -1 ≤ p ∧ p ≤ 400) ∧ (a1 % 102 = y + 1 ∧ -1 ≤ y ∧ y ≤ 100)) := by
    cases a3
    · exact ⟨a0 % 402 - 1, a1 % 102 - 1, by simp, fun _ => by omega⟩
    · exact ⟨a0, a1, by simp, by simp⟩
  have HPY := Lib.hid hpy
  clear hpy
  obtain ⟨b, py, tx, T⟩ := told p
  have TR := Lib.hid T.right
  have TRR := Lib.hid T.rright
  have TY := Lib.hid T.year
  have TYY := Lib.hid T.ryear
  have TX := Lib.hid T.text
  have TXX := Lib.hid T.rtext
  clear T
  obtain ⟨f, hf⟩ : ∃ f, f = if 0 ≤ y ∧ y ≤ 99 then y * 4 else -1 := ⟨_, rfl⟩
  have hf1 : ∀ w, Calls Try.prog 10 #[.int .i64 y] w fun e w' => e = .returned (.int .i64 f) ∧ w = w' := fun w => by
    rw [hf]
    by_cases h : 0 ≤ y ∧ y ≤ 99
    · rw [if_pos h]; exact pfirst_yes y w h.1 h.2
    · rw [if_neg h]; exact pfirst_no y w (by omega)
  have TF := Lib.hid hf1
  have HF := Lib.hid hf
  clear hf hf1
  obtain ⟨G, hG⟩ : ∃ G : Prop, G = ((0 ≤ y ∧ y ≤ 99 ∧ (f != 4 * y) = false) ∨ (y < 0 ∧ (f != -1) = false) ∨ (99 < y ∧ (f != -1) = false)) := ⟨_, rfl⟩
  have g : G := by
    rw [hG, HF.out]
    by_cases h : 0 ≤ y ∧ y ≤ 99
    · refine .inl ⟨h.1, h.2, ?_⟩; rw [if_pos h]; simp; omega
    · rw [if_neg h]; simp; omega
  clear HF
  rw [hG] at g
  clear hG
  rcases g with ⟨y1, y2, hf⟩ | ⟨y1, hf⟩ | ⟨y1, hf⟩
  all_goals cases a3
  all_goals first
    | (obtain ⟨rfl, rfl⟩ := HPY.out.1 rfl; clear HPY)
    | (obtain ⟨⟨h1, h2, h3⟩, h4, h5, h6⟩ := HPY.out.2 rfl; have H1 := Lib.hid h1; have H4 := Lib.hid h4; clear h1 h4 HPY)
  all_goals
    go_enter Try.func4, Try.ntmps4
    go_wp2_with (first
      | (go_at_call 7; (with_reducible refine (within_at _ _ _ _ (by omega) (by omega) H1).mono ?_); rintro e w' ⟨rfl, rfl⟩)
      | (go_at_call 7; (with_reducible refine (within_at _ _ _ _ (by omega) (by omega) H4).mono ?_); rintro e w' ⟨rfl, rfl⟩)
      | (go_at_call 12; (with_reducible refine (TR.out _).mono ?_); rintro e w' ⟨rfl, rfl⟩)
      | (go_at_call 13; (with_reducible refine (TRR.out _).mono ?_); rintro e w' ⟨rfl, rfl⟩)
      | (go_at_call 9; (with_reducible refine (TY.out _).mono ?_); rintro e w' ⟨rfl, rfl⟩)
      | (go_at_call 14; (with_reducible refine (TYY.out _).mono ?_); rintro e w' ⟨rfl, rfl⟩)
      | (go_at_call 10; (with_reducible refine (TF.out _).mono ?_); rintro e w' ⟨rfl, rfl⟩)
      | (go_at_call 16; (with_reducible refine (KT.out _).mono ?_); rintro e w' ⟨rfl, rfl⟩)
      | (go_at_call 8; (with_reducible refine (TX.out _).mono ?_); rintro e w2 ⟨rfl, hb2⟩; replace HB := Lib.hid (HB.out.trans (hb2.mono HB.out.size)); clear hb2)
      | (go_at_call 15; (with_reducible refine (TXX.out _).mono ?_); rintro e w2 ⟨rfl, hb2⟩; replace HB := Lib.hid (HB.out.trans (hb2.mono HB.out.size)); clear hb2))
    go_loopg [10, 11, 12] 400 (fun gh u v i wr => ∃ (k : Nat) (n : Int) (b : Bool), k ≤ 400 ∧ gh = 400 - k ∧ u = .int .i64 n ∧ v = .bool b ∧ i = .int .i64 k ∧ Found t k n b ∧ Below w.heap.size w wr)
    case atStart => exact ⟨0, 0, false, Nat.zero_le _, rfl, rfl, rfl, rfl, Found.start t, HB.out⟩
    case round =>
      obtain ⟨k, n, b, hk, hgk, rfl, rfl, rfl, hF, hbw⟩ := hrel
      have HGK := Lib.hid hgk
      have HF := Lib.hid hF
      have HB := Lib.hid hbw
      clear hgk hbw hF TR TRR TY TYY TX TXX TF
      by_cases hlt : k < 400
      · have RT := Lib.hid (rtext_yes k · (by omega) (by omega))
        by_cases hq : ptb k = t
        · have hq1 : ((ptb k).toList == t.toList) = true := (ptb_is k t).2 hq
          have HQ := Lib.hid hq
          clear hq
          go_wp2_with (go_at_call 15; (with_reducible refine (RT.out _).mono ?_); rintro e w2 ⟨rfl, hn2⟩; obtain ⟨nn, hn2⟩ := hn2; have HB2 := Lib.hid (HB.out.trans (hn2 ▸ drewN_below _ _ _)); clear hn2)
          go_roundg (400 - (k + 1))
          case measure => have := HGK.out; omega
          case rel => exact ⟨k + 1, k, true, by omega, rfl, rfl, rfl, by go_num, Found.yes (by omega) HQ.out, HB2.out⟩
        · have hq1 : ((ptb k).toList == t.toList) = false := by rw [Bool.eq_false_iff]; exact fun h => hq ((ptb_is k t).1 h)
          have HQ := Lib.hid hq
          clear hq
          go_wp2_with (go_at_call 15; (with_reducible refine (RT.out _).mono ?_); rintro e w2 ⟨rfl, hn2⟩; obtain ⟨nn, hn2⟩ := hn2; have HB2 := Lib.hid (HB.out.trans (hn2 ▸ drewN_below _ _ _)); clear hn2)
          go_roundg (400 - (k + 1))
          case measure => have := HGK.out; omega
          case rel => exact ⟨k + 1, n, b, by omega, rfl, rfl, rfl, by go_num, HF.out.no HQ.out, HB2.out⟩
      · obtain rfl : k = 400 := by omega
        have FP := Lib.hid HF.out.parse
        clear hlt hk HGK HF
        go_wp2_with (first | (go_at_call 17; (with_reducible refine (FP.out _).mono ?_); rintro e w2 ⟨rfl, hb2⟩; replace HB := Lib.hid (HB.out.trans (hb2.mono HB.out.size)); clear hb2) | (go_at_call 11; refine (wakes3_any _).mono ?_; rintro e w3 ⟨rfl, hb3⟩; replace HB := Lib.hid (HB.out.trans (hb3.mono HB.out.size)); clear hb3))
        go_ret
        exact ⟨ret_b (by first | rfl | simp), HB.out⟩
end Go.Proofs.Ytecknkbjgleocaa
