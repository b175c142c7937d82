/- Registers of numbers, made by the document's own moves: some register. -/
import Derived.Test.YtolmdoigcaaieaaRBucket5
import Derived.Test.YtolmdoigcaaieaaM1
import Derived.WalkKit
import Derived.WalkSpells
import Derived.WalkLawsBesides
import Derived.Lib.Hide
import Derived.IntWalk
import Derived.Deep.LoopGhost
import Derived.Deep.RegionHeld3
namespace Go.Proofs.Ytolmdoigcaaieaa
open Go.RowKit

theorem nbmove_some {w0 w : World} {O : Nat → Nat} {t sb : Nat} {S : Int → Int → Int} (h : NowB w0 w O t sb S) (ht : t ≠ 0) (c y a : Int) :
    Calls Try.prog 22 #[ptr sb, .int .i64 c, .int .i64 y, .int .i64 a] w fun e' w' => ∃ e S' O', e' = .returned (.int .i64 e) ∧ NowB w0 w' O' t sb S' ∧ Step w0.heap.size O t w O' w' := by
  obtain ⟨n, g, iv⟩ := h.told
  obtain ⟨e, he⟩ := merr_any S n (btot g n) c y a
  refine (nbmove h ht iv.is c y a e he).mono ?_
  rintro e' w' ⟨rfl, O', h', st⟩
  exact ⟨e, _, O', rfl, h', st⟩
set_option maxHeartbeats 4000000 in
set_option maxRecDepth 100000 in
theorem preg_some (A : Option Addr) (n c : Nat) (zs : List Int) (w : World) (h : IsRow .i64 w A n c zs) :
    Calls Try.prog 12 #[.slice A n c] w fun e w' => ∃ sb S O', e = .returned (ptr sb) ∧ NowB w w' O' 2 sb S := by
  have HR := Lib.hid h.at.1
  obtain ⟨f, hf⟩ : ∃ f : Nat → Int, (fun j => zs.getD j 0) = f := ⟨_, rfl⟩
  rw [hf] at HR
  clear h hf
  go_enter Try.func12, Try.ntmps12
  go_wp2
  obtain ⟨nw, _⟩ := nowb_new w w (fun _ => 0) (Fin0.zero _ _) (Below.refl _ _) 39 2
  have N0 := Lib.hid nw
  clear nw
  go_loopg [4] 10 (fun gh i wr => ∃ (k : Nat) (S : Int → Int → Int) (O : Nat → Nat), k ≤ 10 ∧ gh = 10 - k ∧ i = .int .i64 k ∧ NowB w wr O 2 w.heap.size S)
  case atStart => exact ⟨0, _, _, by omega, rfl, rfl, N0.out⟩
  case round =>
    obtain ⟨k, S, O, hk, hgk, rfl, hn1⟩ := hrel
    have HGK := Lib.hid hgk
    have N1 := Lib.hid hn1
    clear hgk hn1 N0
    by_cases hlt : k < n ∧ k < 10
    · obtain ⟨l0, l1⟩ := hlt
      obtain ⟨b, off, rfl, hb, hc⟩ := HR.out.some (by omega)
      have low := N1.out.low
      have c0 := cell_keep (hc k l0) low
      obtain ⟨z, hz⟩ : ∃ z, f k = z := ⟨_, rfl⟩
      rw [hz] at c0
      have k0 : (0 : Int) ≤ (k : Int) := by omega
      have k1 : (k : Int) < (n : Int) := by omega
      have CL := Lib.hid fun (x y a : Int) => nbmove_some (N1.out.below (below_drew wr)) (by decide) x y a
      have HC := Lib.hid (show w.cell? ⟨b, off + k, none⟩ = some (.int .i64 z) by rw [← hz]; exact hc k l0)
      clear hc hz low
      go_wp2
      go_region_held3 (fun w' => w'.cell? ⟨b, off + k, none⟩ = some (.int .i64 z)) (first | go_keep) (first | (go_at_call 8; (with_reducible refine (within_some _ _ _ (by omega) (by omega)).mono ?_); rintro e w' ⟨x, x1, x2, rfl, rfl⟩) | (go_at_call 15; (with_reducible refine (amount_some _ _).mono ?_); rintro e w' ⟨a9, rfl, rfl⟩) | (go_at_call 22; (refine (CL.out _ _ _).mono ?_); rintro e w5 ⟨q5, S5, O5, rfl, hn5, _⟩; have d1 := cell_keep HC.out hn5.low; have N5 := Lib.hid hn5; clear hn5))
      go_wp2
      go_roundg (10 - (k + 1))
      case measure => have := HGK.out; omega
      case rel => exact ⟨k + 1, _, _, by omega, rfl, by go_num, N5.out⟩
    · rcases (show ¬ k < n ∨ (k < n ∧ ¬ k < 10) by omega) with hq | ⟨hq1, hq⟩
      all_goals
        clear hlt
        go_wp2
        go_ret
        exact ⟨_, S, O, rfl, N1.out⟩
end Go.Proofs.Ytolmdoigcaaieaa
