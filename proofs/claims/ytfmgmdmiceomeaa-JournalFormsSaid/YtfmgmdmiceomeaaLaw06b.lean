/- JournalForms: its walk. -/
import Derived.Test.YtfmgmdmiceomeaaLaw06a
import Derived.WalkKit
import Derived.WalkSpells
import Derived.WalkLawsBesides
import Derived.Lib.Hide
import Derived.Deep.LoopGhost
import Derived.Deep.RegionHeld3
namespace Go.Proofs.Ytfmgmdmiceomeaa
open Go.RowKit

set_option maxHeartbeats 4000000 in
set_option maxRecDepth 100000 in
theorem journalForms_walk (a0 : Int) (w : World) :
    Calls Try.prog 3 #[.int .i64 a0] w fun e w' => e = .returned (.bool true) ∧ Below w.heap.size w w' := by
  go_enter Try.func3, Try.ntmps3
  go_wp2_with fail
  refine (within_some _ _ _ (by omega) (by omega)).mono ?_
  rintro e w' ⟨x, x1, x2, rfl, rfl⟩
  have hf := forms_at (1 + x) w 24 (by omega) (by omega)
  rw [fmW_size] at hf
  have HF := Lib.hid hf
  have HB0 := Lib.hid (fm_below (1 + x) w (.cells (fmC w.heap.size) 24))
  clear hf
  go_wp2_with fail
  go_loopg [70] 10 (fun gh i wr => ∃ k : Nat, k ≤ 10 ∧ gh = 10 - k ∧ i = .int .i64 k ∧ FormsAt wr (w.heap.size + 1 + 1 + 1 + 1 + 1 + 1 + 1 + 1 + 1) 10 ∧ Below w.heap.size w wr)
  case atStart => exact ⟨0, by omega, rfl, rfl, HF.out, HB0.out⟩
  case round =>
    obtain ⟨k, hk, hgk, rfl, hfm, hbw⟩ := hrel
    have HGK := Lib.hid hgk
    have HB := Lib.hid hbw
    have HFM := Lib.hid hfm
    clear hgk hbw hfm
    by_cases hlt : k < 10
    · obtain ⟨A, m, c, q, ga, gm, c1, c2, c3, c4, c5, c6⟩ := HFM.out.2 k hlt
      have HAT := Lib.hid (c3.alloc (.cells #[.slice A m c, .bool q] 24))
      have HBA := Lib.hid (HB.out.alloc HB.out.size (.cells #[.slice A m c, .bool q] 24))
      have HFA := Lib.hid (HFM.out.below ((Below.refl _ _).alloc (Nat.le_refl _) (.cells #[.slice A m c, .bool q] 24)))
      have H5 := Lib.hid c5
      have H6 := Lib.hid c6
      clear c3 c5 c6
      go_wp2_with fail
      generalize hw1 : wr.alloc (.cells #[.slice A m c, .bool q] 24) = w1 at *
      have d1 : w1.cell? ⟨wr.heap.size, 0, none⟩ = some (.slice A m c) := by rw [← hw1]; simp
      have d2 : w1.cell? ⟨wr.heap.size, 1, none⟩ = some (.bool q) := by rw [← hw1]; simp
      clear c1 c2 hw1
      have hdr := (keep_drew d1 d2).2.2
      cases q
      · go_region_held3 (fun w' => w'.cell? ⟨wr.heap.size, 0, none⟩ = some (.slice A m c) ∧ w'.cell? ⟨wr.heap.size, 1, none⟩ = some (.bool false) ∧ Below w1.heap.size w1 w') (first | go_keep) (first | (go_at_call 8; (with_reducible refine (jcheck_no _ _ _ ga gm _ (HAT.out.below (by assumption)) (by omega) (Lib.hid (H6.out rfl))).mono ?_); rintro e w2 ⟨rfl, hb2⟩; obtain ⟨k1, k2, k3⟩ := keep_call (p := ⟨wr.heap.size, 0, none⟩) (r := ⟨wr.heap.size, 1, none⟩) (w1 := w1) (by assumption) (by assumption) (by assumption) hb2))
        have HB3 := Lib.hid k3
        clear k1 k2 k3 hb2
        go_wp2
        go_roundg (10 - (k + 1))
        case measure => have := HGK.out; omega
        case rel => exact ⟨k + 1, by omega, rfl, by go_num, HFA.out.below HB3.out, HBA.out.trans (HB3.out.mono HBA.out.size)⟩
      · go_region_held3 (fun w' => w'.cell? ⟨wr.heap.size, 0, none⟩ = some (.slice A m c) ∧ w'.cell? ⟨wr.heap.size, 1, none⟩ = some (.bool true) ∧ Below w1.heap.size w1 w') (first | go_keep) (first | (go_at_call 8; (with_reducible refine (jcheck_yes _ _ _ ga gm _ (HAT.out.below (by assumption)) (Lib.hid (H5.out rfl))).mono ?_); rintro e w2 ⟨rfl, hb2⟩; obtain ⟨k1, k2, k3⟩ := keep_call (p := ⟨wr.heap.size, 0, none⟩) (r := ⟨wr.heap.size, 1, none⟩) (w1 := w1) (by assumption) (by assumption) (by assumption) hb2))
        have HB3 := Lib.hid k3
        clear k1 k2 k3 hb2
        go_wp2
        go_roundg (10 - (k + 1))
        case measure => have := HGK.out; omega
        case rel => exact ⟨k + 1, by omega, rfl, by go_num, HFA.out.below HB3.out, HBA.out.trans (HB3.out.mono HBA.out.size)⟩
    · go_wp2_with (go_at_call 9; (with_reducible refine (wakes6_any _).mono ?_); rintro e w2 ⟨rfl, hb2⟩; have HB2 := Lib.hid hb2; clear hb2)
      go_ret
      exact ⟨rfl, HB.out.trans (HB2.out.mono HB.out.size)⟩
end Go.Proofs.Ytfmgmdmiceomeaa
