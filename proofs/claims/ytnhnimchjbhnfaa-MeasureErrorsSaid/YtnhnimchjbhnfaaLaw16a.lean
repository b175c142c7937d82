/- Law 16: registers opened; the document's example; MeasureTells: its walk. -/
import Derived.Test.YtnhnimchjbhnfaaMs
import Derived.Test.YtnhnimchjbhnfaaTab16
import Derived.Test.YtnhnimchjbhnfaaRBucket6
import Derived.Test.YtnhnimchjbhnfaaSeq
import Derived.WalkKit
import Derived.WalkSpells
import Derived.WalkLawsBesides
import Derived.Lib.Hide
import Derived.IntWalk
import Derived.Deep.LoopGhost
import Derived.Deep.DeepCutAuto
import Derived.Deep.CutBlock
namespace Go.Proofs.Ytnhnimchjbhnfaa
open Go.RowKit

/-- some register, its rows at hand -/
theorem preg_open (A : Option Addr) (n c : Nat) (zs : List Int) (w : World) (h : IsRow .i64 w A n c zs) :
    Calls Try.prog 18 #[.slice A n c] w fun e w' => ∃ sb A' c' m g, e = .returned (ptr sb) ∧ w'.cell? ⟨sb, 0, none⟩ = some (.slice A' m c') ∧ m ≤ c' ∧ c' ≤ maxLen ∧ m ≤ 12 ∧ (∀ j, j < m → Mon (g j).a) ∧ Mon (btot g m) ∧ OwnR be 3 w' 28 w.heap.size (.slice A' m c') m g ∧ Below w.heap.size w w' := by
  refine (preg_some A n c zs w h).mono ?_
  rintro e w' ⟨sb, S, O, rfl, nb⟩
  obtain ⟨v, m, g, s, iv⟩ := nb.st
  obtain ⟨A', c', rfl, h1, h2, _⟩ := s.own.form
  exact ⟨sb, A', c', m, g, rfl, s.hd.c0, h1, h2, iv.le, fun j hj => iv.is.mon iv.mon hj, iv.all, s.own, nb.low⟩
theorem wakes16_any (w : World) : Calls Try.prog 15 #[] w fun e w' => e = .returned (.bool true) ∧ Below w.heap.size w w' := by
  have RB := rec_lit w (be ⟨1, 5, 100⟩) 28 w.heap.size rfl
  have kb := (Below.refl w.heap.size w).alloc (Nat.le_refl _) (.cells #[.int .i64 1, .int .i64 5, .int .i64 100] 28)
  have L := lit_row' (w.alloc (.cells #[.int .i64 1, .int .i64 5, .int .i64 100] 28)) [250000] 3 (w.heap.size + 1) (by simp)
  have C := Lib.hid (ptemp_any (some ⟨w.heap.size, 0, none⟩) (some ⟨w.heap.size + 1, 0, none⟩) 1 1 1 1 (fun _ => ⟨1, 5, 100⟩) (fun j => [250000].getD j 0) (-25) 0 ((w.alloc (.cells #[.int .i64 1, .int .i64 5, .int .i64 100] 28)).alloc (.cells #[.int .i64 250000] 3)) (.inr ⟨w.heap.size, 0, rfl, by simp; omega, fun j hj i u hu => by
      obtain rfl : j = 0 := by omega
      rw [Nat.zero_mul, Nat.add_zero, Nat.zero_add]
      exact cell_keep (RB i u hu) ((Below.refl _ _).alloc (Nat.le_refl _) _)⟩) L.at (by omega) (by unfold maxLen; omega) (by unfold maxLen; omega) (.inr (.inr ⟨⟨rfl, fun i hi => by
      obtain rfl : i = 0 := by omega
      exact ⟨by unfold Mon; decide, by unfold RtOk; decide⟩⟩, by unfold Mon; decide, by decide, rfl⟩)))
  have K := Lib.hid (kb.alloc kb.size (.cells #[.int .i64 250000] 3))
  clear RB kb L
  go_enter Try.func15, Try.ntmps15
  go_wp2_with fail
  refine (C.out).mono ?_
  rintro e w1 ⟨rfl, hb⟩
  have K1 := Lib.hid (K.out.trans (hb.mono K.out.size))
  clear hb C
  go_wp2
  go_ret
  exact ⟨rfl, K1.out⟩
end Go.Proofs.Ytnhnimchjbhnfaa
