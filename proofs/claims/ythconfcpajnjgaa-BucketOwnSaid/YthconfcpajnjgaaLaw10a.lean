/- The document's example of chapter 10; BucketPlays: its walk. -/
import Derived.Test.YthconfcpajnjgaaBucket2
import Derived.Test.YthconfcpajnjgaaActs10
import Derived.Test.YthconfcpajnjgaaPlay
import Derived.WalkKit
import Derived.WalkSpells
import Derived.WalkLawsBesides
import Derived.Lib.Hide
import Derived.IntWalk
import Derived.Deep.LoopGhost
import Derived.Deep.QuietTactic
import Derived.BigQuiet
import Derived.Deep.RegionHeld3
import Derived.Deep.DeepCutAuto
import Derived.Deep.CutBlock
namespace Go.Proofs.Ythconfcpajnjgaa
open Go.RowKit

/-- nothing in the buckets -/
def S0 : Int → Int → Int := fun _ _ => 0
theorem move_one : MErr S0 0 (btot (fun _ => ⟨0, 0, 0⟩) 0) 1 5 100 0 := .ok ⟨by unfold BOk; omega, by unfold Mon; omega⟩ (by unfold S0 btot Mon tot; omega) (by unfold cntB S0; decide)
theorem one_told {m : Nat} {g : Nat → Bk} (b : BIs (mvS 0 S0 1 5 100) m g) : m = 1 ∧ btot g m = 100 := by
  obtain ⟨h1, h2⟩ := bis_count (bis_zero (fun _ => ⟨0, 0, 0⟩)) (c := 1) (y := 5) (by unfold BOk; omega) (v := 100) b
  exact ⟨by have : (m : Int) = 1 := h1; omega, h2⟩
set_option maxHeartbeats 4000000 in
set_option maxRecDepth 100000 in
theorem wakes10_any (w : World) : Calls Try.prog 15 #[] w fun e w' => e = .returned (.bool true) ∧ Below w.heap.size w w' := by
  have CN := Lib.hid (pbnew w w (fun _ => 0) (Fin0.zero _ _) (Below.refl _ _) 1)
  go_enter Try.func15, Try.ntmps15
  go_wp2_with fail
  refine (CN.out).mono ?_
  rintro e w1 ⟨sb, O1, rfl, n1, _⟩
  have N1 : Hid (NowP w w1 O1 1 sb S0) := Lib.hid n1
  clear n1 CN
  have C1 := Lib.hid (pbget N1.out 1 5)
  go_wp2_with fail
  refine (C1.out).mono ?_
  rintro e w2 ⟨rfl, hb⟩
  replace N1 := Lib.hid (N1.out.below hb)
  clear hb C1
  have C2 := Lib.hid (pbmove N1.out (by decide) (bis_zero (fun _ => ⟨0, 0, 0⟩)) 1 5 100 0 move_one)
  have es : S0 1 5 = 0 := rfl
  rw [es]
  go_wp2_with fail
  refine (C2.out).mono ?_
  rintro e w3 ⟨rfl, O3, n3, _⟩
  have N3 := Lib.hid n3
  clear n3 C2 N1
  obtain ⟨m, g, iv⟩ := N3.out.told
  obtain ⟨e1, e2⟩ := one_told iv.is
  have C3 := Lib.hid (pbtotal N3.out iv.is)
  have C4 := Lib.hid fun w9 (h : Below w3.heap.size w3 w9) => pbrows (N3.out.below h) iv.is
  rw [e2] at C3
  subst e1
  clear iv e2
  go_wp2_with fail
  refine (C3.out).mono ?_
  rintro e w4 ⟨rfl, hb⟩
  have C5 := Lib.hid (C4.out w4 hb)
  replace N3 := Lib.hid (N3.out.below hb)
  clear hb C3 C4
  go_wp2_with fail
  refine (C5.out).mono ?_
  rintro e w5 ⟨A, cc, rfl, _, _, _, hb⟩
  replace N3 := Lib.hid (N3.out.below hb)
  clear hb
  go_wp2
  go_ret
  exact ⟨rfl, N3.out.low⟩
/-- what bears no mark stays as it is -/
theorem free_step {base t X o : Nat} {O O1 : Nat → Nat} {w w1 : World} {u : Value} (s : Step base O t w O1 w1) (h : O X = 0) (ht : t ≠ 0) (c : w.cell? ⟨X, o, none⟩ = some u) : O1 X = 0 ∧ w1.cell? ⟨X, o, none⟩ = some u := by
  have lt := World.block_lt_of_cell? _ _ c
  exact ⟨(s.ext X lt).trans h, (World.cell?_of_block (a := ⟨X, o, none⟩) (s.kept.block X lt (by rw [h]; exact fun e => ht e.symm))).trans c⟩
set_option maxHeartbeats 8000000 in
set_option maxRecDepth 100000 in
theorem bucketPlays_walk (a0 : Option Addr) (len0 cap0 : Nat) (w : World) (w0 : Acts10 w a0 len0) :
    Calls Try.prog 5 #[.slice a0 len0 cap0] w fun e w' => e = .returned (.bool true) ∧ Below w.heap.size w w' := by
  have HA := Lib.hid w0
  clear w0
  have CN := Lib.hid (pbnew w w (fun _ => 0) (Fin0.zero _ _) (Below.refl _ _) 1)
  go_enter Try.func5, Try.ntmps5
  go_wp2_with fail
  refine (CN.out).mono ?_
  rintro e wa ⟨pb, O1, rfl, n1, _⟩
  obtain ⟨nb, st⟩ := nowb_new w wa O1 n1.fin n1.low 42 2
  have NA := Lib.hid (n1.step (st 4) (by decide) (by decide))
  have NB := Lib.hid nb
  clear n1 nb st CN
  go_wp2
  go_loopg [5] 24 (fun gh i wr => ∃ (k : Nat) (S : Int → Int → Int) (O : Nat → Nat), k ≤ 24 ∧ gh = 24 - k ∧ i = .int .i64 k ∧ NowP w wr O 1 pb S ∧ NowB w wr O 2 wa.heap.size S)
  case atStart => exact ⟨0, _, _, by omega, rfl, rfl, NA.out, NB.out⟩
  case round =>
    obtain ⟨k, S, O, hk, hgk, rfl, hn1, hn2⟩ := hrel
    have HGK := Lib.hid hgk
    have N1 := Lib.hid hn1
    have N2 := Lib.hid hn2
    clear hgk hn1 hn2 NA NB
    by_cases hlt : k < len0 ∧ k < 24
    · obtain ⟨l0, l1⟩ := hlt
      obtain ⟨b, off, d, c, y, c2, y2, a, rfl, hb, ha⟩ := HA.out.some l0
      replace ha := ha.below N1.out.low
      obtain ⟨d0, d1, d2, d3, d4, d5, _⟩ := ha
      have e24 : decide ((k : Int) < 24) = true := by simp; omega
      have HXO : Hid (O wr.heap.size = 0) := Lib.hid (N1.out.fin.2 _ (Nat.le_refl _))
      have kl := (Below.refl wr.heap.size wr).alloc (Nat.le_refl _) (.cells #[.int .i64 d, .int .i64 c, .int .i64 y, .int .i64 c2, .int .i64 y2, .int .i64 a] 35)
      have NL := rec_lit wr [.int .i64 d, .int .i64 c, .int .i64 y, .int .i64 c2, .int .i64 y2, .int .i64 a] 35 wr.heap.size rfl
      have x0 := NL 0 _ rfl
      have x1 := NL 1 _ rfl
      have x2 := NL 2 _ rfl
      have x3 := NL 3 _ rfl
      have x4 := NL 4 _ rfl
      have x5 := NL 5 _ rfl
      replace N1 := Lib.hid (N1.out.below kl)
      replace N2 := Lib.hid (N2.out.below kl)
      clear kl NL
      go_wp2
      go_cut [7, 8, 9, 10, 11] (fun s7 s8 s9 s10 s11 wx => ∃ p q p2 q2 u : Int, s7 = .int .i64 p ∧ s8 = .int .i64 q ∧ s9 = .int .i64 p2 ∧ s10 = .int .i64 q2 ∧ s11 = .int .i64 u ∧ Below (wr.alloc (.cells #[.int .i64 d, .int .i64 c, .int .i64 y, .int .i64 c2, .int .i64 y2, .int .i64 a] 35)).heap.size (wr.alloc (.cells #[.int .i64 d, .int .i64 c, .int .i64 y, .int .i64 c2, .int .i64 y2, .int .i64 a] 35)) wx)
      case first =>
        go_region_held3 (fun w' => w'.cell? ⟨wr.heap.size, 1, none⟩ = some (.int .i64 c) ∧ w'.cell? ⟨wr.heap.size, 2, none⟩ = some (.int .i64 y) ∧ w'.cell? ⟨wr.heap.size, 3, none⟩ = some (.int .i64 c2) ∧ w'.cell? ⟨wr.heap.size, 4, none⟩ = some (.int .i64 y2) ∧ w'.cell? ⟨wr.heap.size, 5, none⟩ = some (.int .i64 a)) (first | go_keep) (first | (go_at_call 9; (with_reducible refine (within_some _ _ _ (by omega) (by omega)).mono ?_); rintro e w' ⟨x, x1, x2, rfl, rfl⟩) | (go_at_call 17; (with_reducible refine (amount_some _ _).mono ?_); rintro e w' ⟨a9, rfl, rfl⟩))
        go_wp2
        go_meet
        exact ⟨_, _, _, _, _, rfl, rfl, rfl, rfl, rfl, (Below.refl _ _).drew⟩
      case rest =>
        obtain ⟨p, q, p2, q2, u, rfl, rfl, rfl, rfl, rfl, hbc⟩ := hcut
        replace N1 := Lib.hid (N1.out.below hbc)
        replace N2 := Lib.hid (N2.out.below hbc)
        replace x0 := cell_keep x0 hbc
        replace x1 := cell_keep x1 hbc
        replace x2 := cell_keep x2 hbc
        replace x3 := cell_keep x3 hbc
        replace x4 := cell_keep x4 hbc
        replace x5 := cell_keep x5 hbc
        have HX := HXO
        obtain ⟨X, hX⟩ : ∃ X, wr.heap.size = X := ⟨_, rfl⟩
        rw [hX] at x0 x1 x2 x3 x4 x5 HX ⊢
        clear hbc hX d0 d1 d2 d3 d4 d5
        go_upto_if 50 with fail
        go_cut [7, 8, 9, 10] (fun s7 s8 s9 s10 wx => ∃ p q p2 q2 : Int, s7 = .int .i64 p ∧ s8 = .int .i64 q ∧ s9 = .int .i64 p2 ∧ s10 = .int .i64 q2 ∧ Below wc.heap.size wc wx)
        case first =>
          by_cases hq : Int.tmod d 13 = 12
          · go_wp2
            go_big_quiet (fail)
            go_wp2
            go_meet
            exact ⟨_, _, _, _, rfl, rfl, rfl, rfl, drewN_below _ _ _⟩
          · go_wp2
            go_meet
            exact ⟨_, _, _, _, rfl, rfl, rfl, rfl, Below.refl _ _⟩
        case rest =>
          clear p q p2 q2
          obtain ⟨p, q, p2, q2, rfl, rfl, rfl, rfl, hbd⟩ := hcut
          replace N1 := Lib.hid (N1.out.below hbd)
          replace N2 := Lib.hid (N2.out.below hbd)
          replace x0 := cell_keep x0 hbd
          clear hbd x1 x2 x3 x4 x5 HXO
          go_upto_if 60 with fail
          go_cut [12] (fun _ wx => ∃ O' : Nat → Nat, NowP w wx O' 1 pb S ∧ NowB w wx O' 2 wa.heap.size S ∧ wx.cell? ⟨X, 0, none⟩ = some (.int .i64 d))
          case first =>
            by_cases h9 : k = 9
            · have e9 : ((k : Int) == 9) = true := by simp; omega
              clear h9
              have C0 := Lib.hid (pbclone N1.out 3)
              go_wp2_with fail
              refine (C0.out).mono ?_
              rintro e w6 ⟨cb, O6, rfl, n6, s6⟩
              obtain ⟨z0, z1⟩ := free_step (s6 4) HX.out (by decide) x0
              replace N1 := Lib.hid (N1.out.step (s6 4) (by decide) (by decide))
              replace N2 := Lib.hid (N2.out.step (s6 4) (by decide) (by decide))
              obtain ⟨m6, g6, iv6⟩ := n6.told
              obtain ⟨e6, he6⟩ := merr_any S m6 (btot g6 m6) 1 1 77
              have C6 := Lib.hid (pbmove n6 (by decide) iv6.is 1 1 77 e6 he6)
              have Z0 := Lib.hid z0
              clear n6 s6 C0 iv6 he6 z0 x0
              go_wp2_with fail
              refine (C6.out).mono ?_
              rintro e w7 ⟨rfl, O7, _, s7⟩
              obtain ⟨_, z2⟩ := free_step s7 Z0.out (by decide) z1
              replace N1 := Lib.hid (N1.out.step s7 (by decide) (by decide))
              replace N2 := Lib.hid (N2.out.step s7 (by decide) (by decide))
              clear s7 C6 z1
              go_wp2
              go_meet
              exact ⟨O7, N1.out, N2.out, z2⟩
            · have e9 : ((k : Int) == 9) = false := by simp; omega
              clear h9
              go_wp2
              go_meet
              exact ⟨O, N1.out, N2.out, x0⟩
          case rest =>
            clear N1 N2 x0 HX
            obtain ⟨O', hn1, hn2, x0⟩ := hcut
            have N1 := Lib.hid hn1
            have N2 := Lib.hid hn2
            clear hn1 hn2
            go_wp2_with fail
            refine (within_some _ _ _ (by omega) (by omega)).mono ?_
            rintro e w' ⟨r, r1, r2, rfl, rfl⟩
            clear x0
            go_upto_if 70 with fail
            go_cut [75] (fun _ wx => ∃ (S' : Int → Int → Int) (O2 : Nat → Nat), NowP w wx O2 1 pb S' ∧ NowB w wx O2 2 wa.heap.size S')
            case first =>
              obtain ⟨m, g, iv⟩ := N1.out.told
              by_cases hr : r < 2
              · obtain ⟨e0, he0⟩ := merr_any S m (btot g m) p q u
                have CA := Lib.hid (pbmove N1.out (by decide) iv.is p q u e0 he0)
                have CB := Lib.hid fun (O9 : Nat → Nat) w9 (s9 : Step w.heap.size O' 1 _ O9 w9) => nbmove (N2.out.step s9 (by decide) (by decide)) (by decide) iv.is p q u e0 he0
                clear iv he0
                go_wp2_with fail
                refine (CA.out).mono ?_
                rintro e w6 ⟨rfl, O6, n6, s6⟩
                have N6 := Lib.hid n6
                have CC := Lib.hid (CB.out O6 w6 s6)
                clear n6 s6 CA CB
                go_wp2_with fail
                refine (CC.out).mono ?_
                rintro e w7 ⟨rfl, O7, n7, s7⟩
                have N7 := Lib.hid n7
                replace N6 := Lib.hid (N6.out.step s7 (by decide) (by decide))
                have ee : (e0 != e0) = false := by simp
                clear n7 s7 CC
                go_wp2
                go_meet
                exact ⟨_, O7, N6.out, N7.out⟩
              · obtain ⟨e0, he0⟩ := rerr_any S m p q p2 q2 u
                have CA := Lib.hid (pbrec N1.out (by decide) iv.is p q p2 q2 u e0 he0)
                have CB := Lib.hid fun (O9 : Nat → Nat) w9 (s9 : Step w.heap.size O' 1 _ O9 w9) => nbrec (N2.out.step s9 (by decide) (by decide)) (by decide) iv.is p q p2 q2 u e0 he0
                clear iv he0
                go_wp2_with fail
                refine (CA.out).mono ?_
                rintro e w6 ⟨rfl, O6, n6, s6⟩
                have N6 := Lib.hid n6
                have CC := Lib.hid (CB.out O6 w6 s6)
                clear n6 s6 CA CB
                go_wp2_with fail
                refine (CC.out).mono ?_
                rintro e w7 ⟨rfl, O7, n7, s7⟩
                have N7 := Lib.hid n7
                replace N6 := Lib.hid (N6.out.step s7 (by decide) (by decide))
                have ee : (e0 != e0) = false := by simp
                clear n7 s7 CC
                go_wp2
                go_meet
                exact ⟨_, O7, N6.out, N7.out⟩
            case rest =>
              clear N1 N2
              obtain ⟨S', O2, hn1, hn2⟩ := hcut
              have N1 := Lib.hid hn1
              have N2 := Lib.hid hn2
              obtain ⟨v2, m, g, s2, iv⟩ := hn2.st
              have hm12 := iv.le
              have t0 := s2.hd.c0
              have tl := s2.hd.lt
              obtain ⟨A2, cp2, rfl, h3, h4, _, hdr⟩ := s2.at
              have HD := Lib.hid hdr
              obtain ⟨T, eT⟩ : ∃ T, btot g m = T := ⟨_, rfl⟩
              obtain ⟨V, eV⟩ : ∃ V, S' p q = V := ⟨_, rfl⟩
              have C1 := Lib.hid (pbrows (N1.out.below (below_drew wc)) iv.is)
              have C2 := Lib.hid fun (A : Option Addr) (cc : Nat) (w9 : World) (h : Below wc.heap.size wc w9) (h' : AtR be 3 w9 A m g) => bsame_true A A2 m cc cp2 g g w9 h' (HD.out.below h) (by omega) (fun _ _ => rfl)
              have C3 := Lib.hid fun (w9 : World) (h : Below wc.heap.size wc w9) => pbtotal (N1.out.below h) iv.is
              have C4 := Lib.hid fun (w9 : World) (h : Below wc.heap.size wc w9) => nbtotal (N2.out.below h) iv.is
              have C5 := Lib.hid fun (w9 : World) (h : Below wc.heap.size wc w9) => pbget (N1.out.below h) p q
              have C6 := Lib.hid fun (w9 : World) (h : Below wc.heap.size wc w9) => nbget (N2.out.below h) p q
              simp only [eT] at C3 C4
              simp only [eV] at C5 C6
              have eT1 : (T != T) = false := by simp
              have eV1 : (V != V) = false := by simp
              clear hn1 hn2 s2 hdr iv eT eV
              go_wp2
              go_region_held3 (fun w' => w'.cell? ⟨wa.heap.size, 0, none⟩ = some (.slice A2 m cp2)) (first | go_keep) (first | (go_at_call 14; (refine (C1.out).mono ?_); rintro e y1 ⟨A1, cc1, rfl, _, _, ho1, hb1⟩; have g1 := cell_keep (w := wc.drew) t0 hb1; have BB1 := Lib.hid ((below_drew wc).trans hb1); have hat : AtR be 3 y1 A1 m g := (by obtain ⟨A', c', e', _, _, _, h⟩ := ho1.at be_len; injection e' with e1 _ e3; subst e1 e3; exact h); have AT1 := Lib.hid hat; clear ho1 hb1 hat) | (go_at_call 16; (refine (C2.out _ _ _ BB1.out AT1.out).mono ?_); rintro e y2 ⟨rfl, hb2⟩; have g2 := cell_keep g1 hb2; have BB2 := Lib.hid (BB1.out.trans (hb2.mono BB1.out.size)); clear hb2) | (go_at_call 11; (refine (C3.out _ BB2.out).mono ?_); rintro e y3 ⟨rfl, hb3⟩; have g3 := cell_keep g2 hb3; have BB3 := Lib.hid (BB2.out.trans (hb3.mono BB2.out.size)); clear hb3) | (go_at_call 21; (refine (C4.out _ BB3.out).mono ?_); rintro e y4 ⟨rfl, hb4⟩; have g4 := cell_keep g3 hb4; have BB4 := Lib.hid (BB3.out.trans (hb4.mono BB3.out.size)); clear hb4) | (go_at_call 13; (refine (C5.out _ BB4.out).mono ?_); rintro e y5 ⟨rfl, hb5⟩; have g5 := cell_keep g4 hb5; have BB5 := Lib.hid (BB4.out.trans (hb5.mono BB4.out.size)); clear hb5) | (go_at_call 22; (refine (C6.out _ BB5.out).mono ?_); rintro e y6 ⟨rfl, hb6⟩; have g6 := cell_keep g5 hb6; have BB6 := Lib.hid (BB5.out.trans (hb6.mono BB5.out.size)); clear hb6))
              go_wp2
              go_roundg (24 - (k + 1))
              case measure => have := HGK.out; omega
              case rel => exact ⟨k + 1, S', O2, by omega, rfl, by go_num, N1.out.below BB6.out, N2.out.below BB6.out⟩
    · rcases (show ¬ k < len0 ∨ (k < len0 ∧ ¬ k < 24) by omega) with hq | ⟨hq1, hq⟩
      all_goals
        clear hlt
        go_wp2_with fail
        refine (wakes10_any _).mono ?_
        rintro e w8 ⟨rfl, hb⟩
        have L8 := Lib.hid (N1.out.low.trans (hb.mono N1.out.low.size))
        clear hb
        go_wp2
        go_ret
        exact ⟨rfl, L8.out⟩
end Go.Proofs.Ythconfcpajnjgaa
