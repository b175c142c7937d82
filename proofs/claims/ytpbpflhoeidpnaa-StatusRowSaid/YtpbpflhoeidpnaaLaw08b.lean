/- StatusRow: its walk. -/
import Derived.Test.YtpbpflhoeidpnaaLaw08a
import Derived.WalkKit
import Derived.WalkSpells
import Derived.WalkLawsBesides
import Derived.Lib.Hide
import Derived.IntWalk
import Derived.Deep.LoopGhost
import Derived.Deep.DeepCutAuto
import Derived.Deep.CutBlock
namespace Go.Proofs.Ytpbpflhoeidpnaa
open Go.RowKit

theorem nreopen_at0 {w0 w : World} {O : Nat → Nat} {t sb n : Nat} {first : Int} {f : Nat → Bool} (h : NowS w0 w O t sb first n f) (hn : n = 0) :
    Calls Try.prog 36 #[ptr sb] w fun e w' => e = .returned (.int .i64 3) ∧ w = w' := by
  subst hn; exact nreopen_none h
theorem nreopen_at {w0 w : World} {O : Nat → Nat} {t sb n : Nat} {first : Int} {f : Nat → Bool} (h : NowS w0 w O t sb first n f) (ht : t ≠ 0) (p : Nat) (hn : n = p + 1) (hf : f n = false) :
    Calls Try.prog 36 #[ptr sb] w fun e w' => e = .returned (.int .i64 0) ∧ NowS w0 w' O t sb first p f ∧ Step w0.heap.size O t w O w' := by
  subst hn; exact nreopen_ok h ht hf
set_option maxHeartbeats 4000000 in
set_option maxRecDepth 100000 in
theorem statusRow_walk (a0 : Int) (a1 : Option Addr) (len1 cap1 : Nat) (z1 : List Int) (w : World) (_w0 : (Lit.int .i64 a0).wf = true) (w1 : IsRow .i64 w a1 len1 cap1 z1) :
    Calls Try.prog 9 #[.int .i64 a0, .slice a1 len1 cap1] w fun e w' => e = .returned (.bool true) ∧ Below w.heap.size w w' := by
  have I1 := Lib.hid w1.at.1
  obtain ⟨g1, hg1⟩ : ∃ g : Nat → Int, (fun j => z1.getD j 0) = g := ⟨_, rfl⟩
  rw [hg1] at I1
  clear _w0 w1 hg1
  go_enter Try.func9, Try.ntmps9
  go_wp2_with fail
  refine (within_some _ _ _ (by omega) (by omega)).mono ?_
  rintro e w' ⟨fi, f1, f2, rfl, rfl⟩
  go_wp2_with fail
  refine (tnew_yes fi _ (by omega) (by omega)).mono ?_
  rintro e w1 ⟨rfl, rfl⟩
  obtain ⟨nw, _⟩ := nows_new w w (fun _ => 0) (Fin0.zero _ _) (Below.refl _ _) 1 fi (by omega) (by omega)
  have NN := Lib.hid nw
  clear nw
  go_wp2
  go_loopg [7] 40 (fun gh i wr => ∃ (k m : Nat) (O : Nat → Nat) (f : Nat → Bool), k ≤ 40 ∧ m ≤ k ∧ gh = 40 - k ∧ i = .int .i64 k ∧ NowS w wr O 1 w.heap.size fi m f)
  case atStart => exact ⟨0, 0, _, _, by omega, by omega, rfl, rfl, NN.out⟩
  case round =>
    obtain ⟨k, m, O, f, hk, hm, hgk, rfl, hn1⟩ := hrel
    have HGK := Lib.hid hgk
    have N1 := Lib.hid hn1
    clear hgk hn1 NN
    by_cases hlt : k < len1 ∧ k < 40
    · obtain ⟨l0, l1⟩ := hlt
      go_wp2_with fail
      refine (nopen_yes N1.out (fi + (m : Int)) rfl (by omega)).mono ?_
      rintro e w2 ⟨rfl, hb⟩
      have N2 := Lib.hid (N1.out.below hb)
      clear hb
      go_wp2_with fail
      refine (nclosed N2.out).mono ?_
      rintro e w3 ⟨rfl, _, hb⟩
      have N3 := Lib.hid (N2.out.below hb)
      clear hb
      obtain ⟨b, off, rfl, hb, hc⟩ := I1.out.some (by omega)
      have ck : w3.cell? ⟨b, off + k, none⟩ = some (.int .i64 (g1 k)) := (N3.out.low.cell (p := ⟨b, off + k, none⟩) hb).trans (hc k l0)
      clear hc
      go_wp2_with fail
      refine (within_some _ _ _ (by omega) (by omega)).mono ?_
      rintro e w' ⟨x, x1, x2, rfl, rfl⟩
      clear ck
      go_upto_block 2 with fail
      go_cut [11, 12] (fun s0 s1 wx => ∃ (e st : Int) (m' : Nat) (O' : Nat → Nat) (f' : Nat → Bool), s0 = .int .i64 e ∧ s1 = .int .i64 st ∧ m' ≤ m + 1 ∧ ((e = 0 ∧ (m' : Int) = m + st) ∨ (e ≠ 0 ∧ m' = m)) ∧ NowS w wx O' 1 w.heap.size fi m' f')
      case first =>
        rcases (show x = 0 ∨ x = 1 ∨ x = 2 ∨ x = 3 by omega) with rfl | rfl | rfl | rfl
        · go_wp2_with fail
          refine (nclose_yes N3.out (by decide) (by omega)).mono ?_
          rintro e w4 ⟨rfl, O4, n4, _⟩
          have N4 := Lib.hid n4
          clear n4
          go_wp2
          go_meet
          exact ⟨0, 1, m + 1, O4, _, rfl, rfl, Nat.le_refl _, .inl ⟨rfl, by omega⟩, N4.out⟩
        · go_wp2_with fail
          refine (nclose_yes N3.out (by decide) (by omega)).mono ?_
          rintro e w4 ⟨rfl, O4, n4, _⟩
          have N4 := Lib.hid n4
          clear n4
          go_wp2
          go_meet
          exact ⟨0, 1, m + 1, O4, _, rfl, rfl, Nat.le_refl _, .inl ⟨rfl, by omega⟩, N4.out⟩
        · by_cases hm0 : m = 0
          · have M0 := Lib.hid hm0
            clear hm0
            go_wp2_with fail
            refine (nreopen_at0 N3.out M0.out).mono ?_
            rintro e w4 ⟨rfl, rfl⟩
            go_wp2
            go_meet
            exact ⟨3, -1, m, O, f, rfl, rfl, by omega, .inr ⟨by omega, rfl⟩, N3.out⟩
          · cases hfm : f m
            · obtain ⟨p, hp⟩ : ∃ p, m = p + 1 := ⟨m - 1, by omega⟩
              have HP := Lib.hid hp
              have FM := Lib.hid hfm
              clear hp
              clear hfm hm0
              go_wp2_with fail
              refine (nreopen_at N3.out (by decide) p HP.out FM.out).mono ?_
              rintro e w4 ⟨rfl, n4, _⟩
              have N4 := Lib.hid n4
              clear n4
              go_wp2
              go_meet
              have := HP.out
              exact ⟨0, -1, p, O, f, rfl, rfl, by omega, .inl ⟨rfl, by omega⟩, N4.out⟩
            · have FM := Lib.hid hfm
              clear hfm
              go_wp2_with fail
              refine (nreopen_held N3.out (by omega) FM.out).mono ?_
              rintro e w4 ⟨rfl, rfl⟩
              go_wp2
              go_meet
              exact ⟨8, -1, m, O, f, rfl, rfl, by omega, .inr ⟨by omega, rfl⟩, N3.out⟩
        · go_wp2_with fail
          refine (ntouch_yes N3.out (by decide) (by omega)).mono ?_
          rintro e w4 ⟨rfl, n4, _⟩
          have N4 := Lib.hid n4
          clear n4
          go_wp2
          go_meet
          exact ⟨0, 0, m, O, _, rfl, rfl, by omega, .inl ⟨rfl, by omega⟩, N4.out⟩
      case rest =>
        obtain ⟨e, st, m', O', f', rfl, rfl, hm', hst, hn4⟩ := hcut
        have N4 := Lib.hid hn4
        clear hn4 N1 N2 N3
        rcases hst with ⟨rfl, hst⟩ | ⟨he, rfl⟩
        · have u1 : IntKind.i64.wrap (fi + (m : Int) + st) = fi + (m' : Int) := by rw [show fi + (m : Int) + st = fi + (m' : Int) by omega]; exact IntWalk.i64_in _ (by omega)
          have u2 : IntKind.i64.wrap ((m : Int) + st) = (m' : Int) := by rw [← hst]; exact IntWalk.i64_in _ (by omega)
          have u3 : IntKind.i64.wrap (fi + (m' : Int) - fi) = (m' : Int) := (IntWalk.i64_in _ (by omega)).trans (by omega)
          clear hst
          go_wp2_with fail
          refine (nopen_yes N4.out (fi + (m' : Int)) rfl (by omega)).mono ?_
          rintro e w5 ⟨rfl, hb⟩
          have N5 := Lib.hid (N4.out.below hb)
          clear hb
          go_wp2_with fail
          refine (nclosed N5.out).mono ?_
          rintro e w6 ⟨rfl, hr, hb⟩
          have N6 := Lib.hid (N5.out.below hb)
          have HR := Lib.hid hr
          clear hb hr
          go_wp2
          go_loopg [100] m' (fun gh i wx => ∃ j : Nat, j ≤ m' ∧ gh = m' - j ∧ i = .int .i64 j ∧ wx = w6)
          case atStart => exact ⟨0, Nat.zero_le _, rfl, rfl, rfl⟩
          case round =>
            obtain ⟨j, hj, hgj, rfl, rfl⟩ := hrel
            have HGJ := Lib.hid hgj
            clear hgj u1 u2 u3
            by_cases hlj : j < m'
            · have cj := (HR.out.2 j hlj).1
              have u4 : IntKind.i64.wrap (fi + (j : Int)) = fi + (j : Int) := IntWalk.i64_in _ (by omega)
              go_wp2
              go_roundg (m' - (j + 1))
              case measure => have := HGJ.out; omega
              case rel => exact ⟨j + 1, by omega, rfl, by go_num, rfl⟩
            · obtain rfl : j = m' := by omega
              clear hlj
              go_wp2
              go_roundg (40 - (k + 1))
              case measure => have := HGK.out; omega
              case rel => exact ⟨k + 1, j, O', f', by omega, by omega, rfl, by go_num, N6.out⟩
        · have b1 : (e == 0) = false := by simpa using he
          have u1 : IntKind.i64.wrap (fi + (m' : Int)) = fi + (m' : Int) := IntWalk.i64_in _ (by omega)
          have u2 : IntKind.i64.wrap (m' : Int) = (m' : Int) := IntWalk.i64_in _ (by omega)
          have u3 : IntKind.i64.wrap (fi + (m' : Int) - fi) = (m' : Int) := (IntWalk.i64_in _ (by omega)).trans (by omega)
          go_wp2_with fail
          refine (nopen_yes N4.out (fi + (m' : Int)) rfl (by omega)).mono ?_
          rintro e w5 ⟨rfl, hb⟩
          have N5 := Lib.hid (N4.out.below hb)
          clear hb
          go_wp2_with fail
          refine (nclosed N5.out).mono ?_
          rintro e w6 ⟨rfl, hr, hb⟩
          have N6 := Lib.hid (N5.out.below hb)
          have HR := Lib.hid hr
          clear hb hr
          go_wp2
          go_loopg [100] m' (fun gh i wx => ∃ j : Nat, j ≤ m' ∧ gh = m' - j ∧ i = .int .i64 j ∧ wx = w6)
          case atStart => exact ⟨0, Nat.zero_le _, rfl, rfl, rfl⟩
          case round =>
            obtain ⟨j, hj, hgj, rfl, rfl⟩ := hrel
            have HGJ := Lib.hid hgj
            clear hgj u1 u2 u3
            by_cases hlj : j < m'
            · have cj := (HR.out.2 j hlj).1
              have u4 : IntKind.i64.wrap (fi + (j : Int)) = fi + (j : Int) := IntWalk.i64_in _ (by omega)
              go_wp2
              go_roundg (m' - (j + 1))
              case measure => have := HGJ.out; omega
              case rel => exact ⟨j + 1, by omega, rfl, by go_num, rfl⟩
            · obtain rfl : j = m' := by omega
              clear hlj
              go_wp2
              go_roundg (40 - (k + 1))
              case measure => have := HGK.out; omega
              case rel => exact ⟨k + 1, j, O', f', by omega, by omega, rfl, by go_num, N6.out⟩
    · rcases (show ¬ k < len1 ∨ (k < len1 ∧ ¬ k < 40) by omega) with hq | ⟨hq1, hq⟩
      all_goals
        clear hlt
        go_wp2_with fail
        refine (wakes8_any _).mono ?_
        rintro e w10 ⟨rfl, hb⟩
        have HL := Lib.hid (N1.out.low.trans (hb.mono N1.out.low.size))
        clear hb
        go_wp2
        go_ret
        exact ⟨rfl, HL.out⟩
end Go.Proofs.Ytpbpflhoeidpnaa
