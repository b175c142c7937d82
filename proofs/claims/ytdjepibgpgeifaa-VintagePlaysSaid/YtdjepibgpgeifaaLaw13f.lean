/- VintagePlays: its walk. -/
import Derived.Test.YtdjepibgpgeifaaQv13
import Derived.Test.YtdjepibgpgeifaaPlay
import Derived.Test.YtdjepibgpgeifaaInts
import Derived.Test.YtdjepibgpgeifaaSeq
import Derived.Test.YtdjepibgpgeifaaOrd2
import Derived.WalkKit
import Derived.WalkSpells
import Derived.WalkLawsBesides
import Derived.Lib.Hide
import Derived.IntWalk
import Derived.BigQuiet
import Derived.Deep.LoopGhost
import Derived.Deep.QuietTactic
import Derived.Deep.RegionHeld3
import Derived.Deep.RegionLaw
import Derived.Deep.DeepCutAuto
import Derived.Deep.CutBlock
namespace Go.Proofs.Ytdjepibgpgeifaa
open Go.RowKit

/-- numbers of the call's own under a mark -/
structure LTI (w : World) (O : Nat → Nat) (base t : Nat) (v : Value) (n : Nat) (f : Nat → Int) : Prop where
  own : Own w 3 base v n f
  tag : ∀ b, v.ownBlock = some b → O b = t
section
variable {w w1 : World} {O O1 : Nat → Nat} {base b0 t t' n : Nat} {v : Value} {f : Nat → Int}
theorem LTI.below (h : LTI w O base t v n f) (k : Below w.heap.size w w1) : LTI w1 O base t v n f := ⟨h.own.below k, h.tag⟩
theorem LTI.step (h : LTI w O base t v n f) (k : Step b0 O t' w O1 w1) (hne : t ≠ t') : LTI w1 O1 base t v n f :=
  ⟨own_blocks h.own fun b hb => k.kept.block b (World.ownsRow.lt h.own b hb).2 (by rw [h.tag b hb]; exact hne), fun b hb => (k.ext b (World.ownsRow.lt h.own b hb).2).trans (h.tag b hb)⟩
end
set_option maxHeartbeats 8000000 in
set_option maxRecDepth 100000 in
theorem vintagePlays_walk (a0 : Option Addr) (len0 cap0 : Nat) (w : World) (w0 : Acts13 w a0 len0) :
    Calls Try.prog 5 #[.slice a0 len0 cap0] w fun e w' => e = .returned (.bool true) ∧ Below w.heap.size w w' := by
  have AC := Lib.hid w0
  clear w0
  have CN := Lib.hid (pvnew w w (fun _ => 0) (Fin0.zero _ _) (Below.refl _ _) 1)
  go_enter Try.func5, Try.ntmps5
  go_wp2_with fail
  refine (CN.out).mono ?_
  rintro e wa ⟨pb, O1, rfl, n1, _⟩
  obtain ⟨nb, st⟩ := nowl_new w wa O1 n1.fin n1.low 45 2
  have NA := Lib.hid (n1.step (st 4) (by decide) (by decide))
  have NB := Lib.hid nb
  clear n1 nb st CN
  go_wp2
  go_loopg [5] 24 (fun gh i wr => ∃ (k : Nat) (S : Int → Int → Int) (O : Nat → Nat), k ≤ 24 ∧ gh = 24 - k ∧ i = .int .i64 k ∧ NowV w wr O 1 pb S ∧ NowL w wr O 2 wa.heap.size S)
  case atStart => exact ⟨0, _, _, by omega, rfl, rfl, NA.out, NB.out⟩
  case round =>
    obtain ⟨k, S, O, hk, hgk, rfl, hn1, hn2⟩ := hrel
    have HGK := Lib.hid hgk
    have N1 := Lib.hid hn1
    have N2 := Lib.hid hn2
    clear hgk hn1 hn2 NA NB
    by_cases hlt : k < len0 ∧ k < 24
    · obtain ⟨l0, l1⟩ := hlt
      obtain ⟨b, off, d, o, l, a, A1, m1, c1, z1, rfl, hb, ha⟩ := AC.out.some l0
      have HAct := Lib.hid (ha.below N1.out.low)
      obtain ⟨x0, x1, x2, x3, x4, _, _⟩ := HAct.out
      have e1 : ((k : Int) < (len0 : Int)) := by omega
      have e24 : decide ((k : Int) < 24) = true := by simp; omega
      obtain ⟨W, hW⟩ : ∃ W, W = wr.alloc (.cells #[.int .i64 d, .int .i64 o, .int .i64 l, .int .i64 a, .slice A1 m1 c1] 40) := ⟨_, rfl⟩
      have M1 := Lib.hid (show NowV w W O 1 pb S by rw [hW]; exact N1.out.below ((Below.refl _ _).alloc (Nat.le_refl _) _))
      have M2 := Lib.hid (show NowL w W O 2 wa.heap.size S by rw [hW]; exact N2.out.below ((Below.refl _ _).alloc (Nat.le_refl _) _))
      have CX : Hid (∀ j u, [Value.int .i64 d, .int .i64 o, .int .i64 l, .int .i64 a, .slice A1 m1 c1][j]? = some u → W.cell? ⟨wr.heap.size, j, none⟩ = some u) := Lib.hid (by rw [hW]; exact rec_lit wr _ 40 wr.heap.size rfl)
      have RA := Lib.hid ha.r1
      have HSZ : Hid (wr.heap.size < W.heap.size) := Lib.hid (by rw [hW]; simp)
      have HXO : Hid (O wr.heap.size = 0) := Lib.hid (N1.out.fin.2 _ (Nat.le_refl _))
      obtain ⟨X, hX⟩ : ∃ X, wr.heap.size = X := ⟨_, rfl⟩
      rw [hX] at CX HSZ HXO
      have HX := Lib.hid hX
      clear ha hk hX
      go_wp2_with fail
      rw [← hW, HX.out]
      clear hW x0 x1 x2 x3 x4 N1 N2 HAct
      go_cut [7, 8, 9] (fun s7 s8 s9 wx => ∃ p q u : Int, s7 = .int .i64 p ∧ s8 = .int .i64 q ∧ s9 = .int .i64 u ∧ Below W.heap.size W wx)
      case first =>
        have y1 := CX.out 1 _ rfl
        have y2 := CX.out 2 _ rfl
        have y3 := CX.out 3 _ rfl
        go_region_held3 (fun w' => w'.cell? ⟨X, 1, none⟩ = some (.int .i64 o) ∧ w'.cell? ⟨X, 2, none⟩ = some (.int .i64 l) ∧ w'.cell? ⟨X, 3, none⟩ = some (.int .i64 a)) (first | go_keep) (first | (go_at_call 9; (with_reducible refine (within_some _ _ _ (by omega) (by omega)).mono ?_); rintro e w' ⟨x, x1, x2, rfl, rfl⟩) | (go_at_call 17; (with_reducible refine (amount_some _ _).mono ?_); rintro e w' ⟨a9, rfl, rfl⟩))
        all_goals
          go_wp2
          all_goals
            go_meet
            exact ⟨_, _, _, rfl, rfl, rfl, (Below.refl _ _).drew⟩
      case rest =>
        obtain ⟨p, q, u, rfl, rfl, rfl, hbc⟩ := hcut
        replace M1 := Lib.hid (M1.out.below hbc)
        replace M2 := Lib.hid (M2.out.below hbc)
        have CX2 : Hid (∀ j u, [Value.int .i64 d, .int .i64 o, .int .i64 l, .int .i64 a, .slice A1 m1 c1][j]? = some u → wc.cell? ⟨X, j, none⟩ = some u) := Lib.hid fun j u hu => cell_keep (CX.out j u hu) hbc
        clear hbc CX HSZ
        have y0 := CX2.out 0 _ rfl
        go_upto_if 50 with fail
        go_cut [7, 8, 9] (fun s7 s8 s9 wx => ∃ p q u : Int, s7 = .int .i64 p ∧ s8 = .int .i64 q ∧ s9 = .int .i64 u ∧ Below wc.heap.size wc wx)
        case first =>
          have y1 := CX2.out 1 _ rfl
          have y2 := CX2.out 2 _ rfl
          have y3 := CX2.out 3 _ rfl
          by_cases hq : Int.tmod d 11 = 10
          · go_wp2
            go_big_quiet (fail)
            go_wp2
            go_meet
            exact ⟨_, _, _, rfl, rfl, rfl, drewN_below _ _ _⟩
          · go_wp2
            go_meet
            exact ⟨_, _, _, rfl, rfl, rfl, Below.refl _ _⟩
        case rest =>
          clear p q u
          obtain ⟨p, q, u, rfl, rfl, rfl, hbd⟩ := hcut
          replace M1 := Lib.hid (M1.out.below hbd)
          replace M2 := Lib.hid (M2.out.below hbd)
          have CX3 : Hid (∀ j u, [Value.int .i64 d, .int .i64 o, .int .i64 l, .int .i64 a, .slice A1 m1 c1][j]? = some u → wc.cell? ⟨X, j, none⟩ = some u) := Lib.hid fun j u hu => cell_keep (CX2.out j u hu) hbd
          clear hbd CX2 y0
          go_upto_if 58 with fail
          go_cut [10] (fun _ wx => ∃ O' : Nat → Nat, NowV w wx O' 1 pb S ∧ NowL w wx O' 2 wa.heap.size S ∧ (∀ j u, [Value.int .i64 d, .int .i64 o, .int .i64 l, .int .i64 a, .slice A1 m1 c1][j]? = some u → wx.cell? ⟨X, j, none⟩ = some u) ∧ O' X = 0)
          case first =>
            by_cases h9 : k = 9
            · have e9 : ((k : Int) == 9) = true := by simp; omega
              clear h9
              have C0 := Lib.hid (pvclone M1.out 3)
              go_wp2_with fail
              refine (C0.out).mono ?_
              rintro e w6 ⟨cb, O6, rfl, n6, s6⟩
              obtain ⟨z0, _⟩ := free_step13 (s6 4) HXO.out (by decide) (CX3.out 0 _ rfl)
              have CX4 : Hid (∀ j u, [Value.int .i64 d, .int .i64 o, .int .i64 l, .int .i64 a, .slice A1 m1 c1][j]? = some u → w6.cell? ⟨X, j, none⟩ = some u) := Lib.hid fun j u hu => (free_step13 (s6 4) HXO.out (by decide) (CX3.out j u hu)).2
              replace M1 := Lib.hid (M1.out.step (s6 4) (by decide) (by decide))
              replace M2 := Lib.hid (M2.out.step (s6 4) (by decide) (by decide))
              obtain ⟨m6, g6, iv6⟩ := n6.told
              obtain ⟨e6, he6⟩ := aerr_any S m6 (btot g6 m6) 2 1 5
              have C6 := Lib.hid (pvadd n6 (by decide) iv6.is 2 1 5 e6 he6)
              have Z0 := Lib.hid z0
              clear n6 s6 C0 iv6 he6 z0
              go_wp2_with fail
              refine (C6.out).mono ?_
              rintro e w7 ⟨rfl, O7, n7, s7⟩
              obtain ⟨z0, _⟩ := free_step13 s7 Z0.out (by decide) (CX4.out 0 _ rfl)
              have CX5 : Hid (∀ j u, [Value.int .i64 d, .int .i64 o, .int .i64 l, .int .i64 a, .slice A1 m1 c1][j]? = some u → w7.cell? ⟨X, j, none⟩ = some u) := Lib.hid fun j u hu => (free_step13 s7 Z0.out (by decide) (CX4.out j u hu)).2
              replace M1 := Lib.hid (M1.out.step s7 (by decide) (by decide))
              replace M2 := Lib.hid (M2.out.step s7 (by decide) (by decide))
              obtain ⟨m7, g7, iv7⟩ := n7.told
              have C7 := Lib.hid (pvexp n7 (by decide) iv7.is 50)
              have Z7 := Lib.hid z0
              clear n7 s7 C6 iv7 z0 Z0
              go_wp2_with fail
              refine (C7.out).mono ?_
              rintro e w8 ⟨rfl, O8, n8, s8⟩
              obtain ⟨z0, _⟩ := free_step13 s8 Z7.out (by decide) (CX5.out 0 _ rfl)
              have CX6 : Hid (∀ j u, [Value.int .i64 d, .int .i64 o, .int .i64 l, .int .i64 a, .slice A1 m1 c1][j]? = some u → w8.cell? ⟨X, j, none⟩ = some u) := Lib.hid fun j u hu => (free_step13 s8 Z7.out (by decide) (CX5.out j u hu)).2
              replace M1 := Lib.hid (M1.out.step s8 (by decide) (by decide))
              replace M2 := Lib.hid (M2.out.step s8 (by decide) (by decide))
              have Z8 := Lib.hid z0
              clear n8 s8 C7 z0 Z7
              go_wp2
              go_meet
              exact ⟨O8, M1.out, M2.out, CX6.out, Z8.out⟩
            · have e9 : ((k : Int) == 9) = false := by simp; omega
              clear h9
              go_wp2
              go_meet
              exact ⟨O, M1.out, M2.out, CX3.out, HXO.out⟩
          case rest =>
            clear M1 M2 CX3 HXO
            obtain ⟨O', hn1, hn2, hcx, hxo⟩ := hcut
            have M1 := Lib.hid hn1
            have M2 := Lib.hid hn2
            have CX := Lib.hid hcx
            have HXO := Lib.hid hxo
            have x0 := hcx 0 _ rfl
            clear hn1 hn2 hcx hxo
            go_wp2_with fail
            refine (within_some _ _ _ (by omega) (by omega)).mono ?_
            rintro e w' ⟨r, r1, r2, rfl, rfl⟩
            clear x0
            go_upto_block 2 with fail
            go_cut [13] (fun _ wx => ∃ (S' : Int → Int → Int) (O2 : Nat → Nat), NowV w wx O2 1 pb S' ∧ NowL w wx O2 2 wa.heap.size S')
            case first =>
              obtain ⟨m, g, iv⟩ := M1.out.told
              by_cases h4 : r < 4
              · obtain ⟨e0, he0⟩ := aerr_any S m (btot g m) q p u
                have CA := Lib.hid (pvadd M1.out (by decide) iv.is q p u e0 he0)
                have CB := Lib.hid fun (O9 : Nat → Nat) w9 (s9 : Step w.heap.size O' 1 _ O9 w9) => nladd (M2.out.step s9 (by decide) (by decide)) (by decide) iv.is q p u e0 he0
                clear iv he0
                rcases (show r = 0 ∨ r = 1 ∨ r = 2 ∨ r = 3 by omega) with rfl | rfl | rfl | rfl
                all_goals
                  clear h4 r1 r2
                  go_wp2_with fail
                  refine (CA.out).mono ?_
                  rintro e w6 ⟨rfl, O6, n6, s6⟩
                  have N6 := Lib.hid n6
                  have CC := Lib.hid (CB.out O6 w6 s6)
                  clear n6 s6 CA CB
                  go_wp2_with fail
                  refine (CC.out).mono ?_
                  rintro e w7 ⟨rfl, O7, n7, s7⟩
                  have N7 := Lib.hid n7
                  replace N6 := Lib.hid (N6.out.step s7 (by decide) (by decide))
                  have ee : (e0 != e0) = false := by simp
                  clear n7 s7 CC
                  go_wp2
                  go_meet
                  exact ⟨_, O7, N6.out, N7.out⟩
              · by_cases h5 : r = 4
                · subst h5
                  have x2 := CX.out 2 _ rfl
                  clear h4 r1 r2
                  obtain ⟨Y, hY⟩ : ∃ z, l % 12 = z := ⟨_, rfl⟩
                  have HY := Lib.hid hY
                  have Dx2 : Hid (wc.drew.cell? ⟨X, 2, none⟩ = some (.int .i64 l)) := Lib.hid x2
                  have CA := Lib.hid (pvexp (M1.out.below (below_drew wc)) (by decide) iv.is Y)
                  have CB := Lib.hid fun (O9 : Nat → Nat) w9 (s9 : Step w.heap.size O' 1 wc.drew O9 w9) => nlexp ((M2.out.below (below_drew wc)).step s9 (by decide) (by decide)) (by decide) iv.is Y
                  obtain ⟨G, hG⟩ : ∃ z, tot (goneU g Y) m = z := ⟨_, rfl⟩
                  rw [hG] at CA CB
                  have ee : (G != G) = false := by simp
                  clear iv hY hG
                  go_wp2_with fail
                  go_region_held3 (fun w' => w'.cell? ⟨X, 2, none⟩ = some (.int .i64 l)) (first | go_keep) (first | (go_at_call 9; (with_reducible refine (within_at l 12 Y _ (by omega) (by omega) HY).mono ?_); rintro e w' ⟨rfl, rfl⟩) | (go_at_call 14; (with_reducible refine (CA.out).mono ?_); rintro e w5 ⟨rfl, O5, q5, s5⟩; have N5 := Lib.hid q5; have ux2 := (free_step13 s5 HXO.out (by decide) Dx2.out).2; have CC := Lib.hid (CB.out O5 w5 s5); have Z5 := Lib.hid (free_step13 s5 HXO.out (by decide) Dx2.out).1; clear q5 s5 CA CB) | (go_at_call 20; (refine (CC.out).mono ?_); rintro e w6 ⟨rfl, O6, q6, s6⟩; have N6 := Lib.hid (N5.out.step s6 (by decide) (by decide)); have N7 := Lib.hid q6; have vx2 := (free_step13 s6 Z5.out (by decide) ux2).2; clear q6 s6))
                  go_wp2
                  go_meet
                  exact ⟨_, O6, N6.out, N7.out⟩
                · have q0 : (r == 0) = false := by simp; omega
                  have q1 : (r == 1) = false := by simp; omega
                  have q2 : (r == 2) = false := by simp; omega
                  have q3 : (r == 3) = false := by simp; omega
                  have q4 : (r == 4) = false := by simp; omega
                  have x3 := CX.out 3 _ rfl
                  have x4 := CX.out 4 _ rfl
                  clear h4 h5 r1 r2
                  obtain ⟨v2, m2, g2, s2, iv2⟩ := M2.out.st
                  have t0 := s2.hd.c0
                  obtain ⟨A2, cp2, rfl, h3, h4', _, hdr⟩ := s2.at
                  have hm12 := iv2.le
                  obtain ⟨xx, hxx⟩ : ∃ xx : Nat, a % 2 = xx := ⟨(a % 2).toNat, by omega⟩
                  have hx2 : xx < 2 := by omega
                  have HXX := Lib.hid hxx
                  have ewx : IntKind.i64.wrap ((m2 : Int) + (xx : Int)) = ((m2 + xx : Nat) : Int) := by rw [IntWalk.i64_in _ (by omega)]; omega
                  have IV2 := Lib.hid iv2
                  have CU := Lib.hid fun (w9 : World) (h9 : Below wc.heap.size wc w9) => cut_row A1 m1 c1 (m2 + xx) z1 w9 (isrow_below RA.out (M1.out.low.trans (h9.mono M1.out.low.size))) (by omega)
                  clear hxx s2 iv2 hdr iv
                  go_wp2_with fail
                  go_region_held3 (fun w' => w'.cell? ⟨X, 4, none⟩ = some (.slice A1 m1 c1) ∧ w'.cell? ⟨X, 3, none⟩ = some (.int .i64 a) ∧ w'.cell? ⟨wa.heap.size, 0, none⟩ = some (.slice A2 m2 cp2)) (first | go_keep) (first | (go_at_call 9; (with_reducible refine (within_at a 2 (xx : Int) _ (by omega) (by omega) HXX).mono ?_); rintro e w' ⟨rfl, rfl⟩) | (go_at_call 21; (refine (CU.out _ (below_drew wc)).mono ?_); rintro e w5 ⟨v5, rfl, ho5, hb5⟩; have g4 := cell_keep (w := wc.drew) x4 hb5; have g3 := cell_keep (w := wc.drew) x3 hb5; have g0 := cell_keep (w := wc.drew) t0 hb5; have B5 : Hid (Below wc.heap.size wc w5) := Lib.hid ((below_drew wc).trans hb5); have O5 : Hid (Own w5 3 wc.heap.size v5 (min m1 (m2 + xx)) (fun j => z1.getD j 0)) := Lib.hid ho5; clear ho5 hb5 CU))
                  obtain ⟨A5, c5, rfl, h5a, h5b, _⟩ := O5.out.form
                  obtain ⟨O6, mk6, st6⟩ := fresh_marked M1.out.fin M1.out.low.size B5.out O5.out 3
                  have P1 := Lib.hid (M1.out.step (st6 4) (by decide) (by decide))
                  have P2 := Lib.hid (M2.out.step (st6 4) (by decide) (by decide))
                  have P3 : Hid (LTI w5 O6 wc.heap.size 3 (.slice A5 (min m1 (m2 + xx)) c5) (min m1 (m2 + xx)) (fun j => z1.getD j 0)) := Lib.hid ⟨O5.out, fun b hb => (mk6 b hb).1⟩
                  have PX : Hid (O6 X = 0 ∧ w5.cell? ⟨X, 3, none⟩ = some (.int .i64 a)) := Lib.hid (free_step13 (st6 4) HXO.out (by decide) x3)
                  obtain ⟨n5, hn5⟩ : ∃ n5, min m1 (m2 + xx) = n5 := ⟨_, rfl⟩
                  obtain ⟨H, hH⟩ : ∃ H, wc.heap.size = H := ⟨_, rfl⟩
                  rw [hn5] at P3 h5a ⊢
                  rw [hH] at P3
                  have hn5b : n5 ≤ 14 := by omega
                  clear mk6 st6 g4 g3 g0 B5 O5 hn5 hH x3 x4 t0 M1 M2 HXO CX
                  go_wp2
                  go_loopg [84] n5 (fun gh s84 wx => ∃ (j : Nat) (f : Nat → Int), j ≤ n5 ∧ gh = n5 - j ∧ s84 = .int .i64 j ∧ NowV w wx O6 1 pb S ∧ NowL w wx O6 2 wa.heap.size S ∧ LTI wx O6 H 3 (.slice A5 n5 c5) n5 f ∧ wx.cell? ⟨X, 3, none⟩ = some (.int .i64 a))
                  case atStart => exact ⟨0, _, by omega, rfl, rfl, P1.out, P2.out, P3.out, PX.out.2⟩
                  case round => as_aux_lemma =>
                    obtain ⟨j, f, hj, hgj, rfl, hp1, hp2, hp3, hx3⟩ := hrel
                    have HGJ := Lib.hid hgj
                    have R1 := Lib.hid hp1
                    have R2 := Lib.hid hp2
                    have R3 := Lib.hid hp3
                    clear hgj hp1 hp2 hp3 P1 P2 P3
                    by_cases hjn : j < n5
                    · obtain ⟨b5, c5', e, _, _, hb5, hrow⟩ := R3.out.own.some (by omega)
                      injection e with e1 _ e3
                      subst e1 e3
                      obtain ⟨cu, fu⟩ := hrow.2 j hjn
                      have hb5l := hrow.1
                      obtain ⟨v3, m3, g3, s3, iv3⟩ := R2.out.st
                      obtain ⟨e3, eg3⟩ := iv3.is.uniq IV2.out.is
                      subst e3
                      have t0 := s3.hd.c0
                      obtain ⟨A3, cp3, rfl, _, _, _, hdr⟩ := s3.at
                      have HDR := Lib.hid hdr
                      have tg := R3.out.tag b5 rfl
                      have nx : b5 ≠ X := fun e => by have := PX.out.1; rw [← e, tg] at this; exact absurd this (by decide)
                      have nw : b5 ≠ wa.heap.size := fun e => by have := s3.hd.tag; rw [← e, tg] at this; exact absurd this (by decide)
                      clear s3 iv3 hdr hrow
                      have j1 : (j : Int) < (n5 : Int) := by omega
                      by_cases hjm : j < m3
                      · by_cases hta : Int.tmod a 5 = 0
                        · have j2 : decide (j < m3) = true := by simpa using hjm
                          have j3 : (Int.tmod a 5 != 0) = false := by simp [hta]
                          clear hta hjm
                          go_wp2
                          go_roundg (n5 - (j + 1))
                          case measure => have := HGJ.out; omega
                          case rel => exact ⟨j + 1, f, by omega, rfl, by go_num, R1.out, R2.out, R3.out, hx3⟩
                        · have j2 : decide (j < m3) = true := by simpa using hjm
                          have j3 : (Int.tmod a 5 != 0) = true := by simp [hta]
                          obtain ⟨b7, off7, rfl, hb7, k0, k1, k2⟩ := HDR.out.threeV hjm
                          have j4 : (j : Int) < (m3 : Int) := by omega
                          have hab := IV2.out.one hjm
                          have hall := IV2.out.all
                          rw [eg3 j hjm] at k2
                          obtain ⟨L, hL⟩ : ∃ L, (g2 j).a = L := ⟨_, rfl⟩
                          rw [hL] at k2 hab
                          obtain ⟨z, hz⟩ : ∃ z, f j = z := ⟨_, rfl⟩
                          rw [hz] at cu
                          have ewL : IntKind.i64.wrap (L + 1) = L + 1 := IntWalk.i64_in _ (by omega)
                          obtain ⟨y, hy⟩ : ∃ y, z % (L + 1) = y := ⟨_, rfl⟩
                          have HYZ := Lib.hid hy
                          have HL1 : 1 ≤ L + 1 ∧ L + 1 ≤ 100000000001 := by omega
                          obtain ⟨HL1, HL2⟩ := HL1
                          have st := Step.set (t := 3) R1.out.fin j (.int .i64 y) tg
                          have D1 : Hid (NowV w (wr.setCell ⟨b5, j, none⟩ (.int .i64 y)).drew O6 1 pb S) := Lib.hid ((R1.out.step st (by decide) (by decide)).below (below_drew _))
                          have D2 : Hid (NowL w (wr.setCell ⟨b5, j, none⟩ (.int .i64 y)).drew O6 2 wa.heap.size S) := Lib.hid ((R2.out.step st (by decide) (by decide)).below (below_drew _))
                          have D3 : Hid (LTI (wr.setCell ⟨b5, j, none⟩ (.int .i64 y)).drew O6 H 3 (.slice (some ⟨b5, 0, none⟩) n5 c5) n5 (fun i => if i = j then y else f i)) := Lib.hid ⟨(R3.out.own.set j y).drew, R3.out.tag⟩
                          have D4 : Hid ((wr.setCell ⟨b5, j, none⟩ (.int .i64 y)).drew.cell? ⟨X, 3, none⟩ = some (.int .i64 a)) := Lib.hid ((World.cell?_setCell_other _ _ _ _ (by intro q; injection q with q _; exact nx q)).trans hx3)
                          clear hta hjm hab hall hL hz hy k0 k1 st
                          go_wp2
                          refine wp_region_noPanic ?_
                          refine AnyTill.begin (C := fun w' => w'.cell? ⟨b5, j, none⟩ = some (.int .i64 z) ∧ w'.cell? ⟨wa.heap.size, 0, none⟩ = some (.slice (some ⟨b7, off7, none⟩) m3 cp3) ∧ w'.cell? ⟨b7, off7 + j * 3 + 2, none⟩ = some (.int .i64 L)) (q := 17) (by kernel_rfl) ?_
                          have scd : wr.drew.cell? ⟨b5, j, none⟩ = some (.int .i64 z) ∧ wr.drew.cell? ⟨wa.heap.size, 0, none⟩ = some (.slice (some ⟨b7, off7, none⟩) m3 cp3) ∧ wr.drew.cell? ⟨b7, off7 + j * 3 + 2, none⟩ = some (.int .i64 L) := ⟨cu, t0, k2⟩
                          refine AnyTill.take (i := 0) (v := ?_) (by simp only [List.getElem?_toArray, List.getElem?_cons_zero]; rfl) (by kernel_rfl) (by kernel_rfl) (by kernel_rfl) (by kernel_rfl) (fun _ _ _ h => h) (Or.inl ⟨by rfl, ?_⟩) scd ?_
                          rotate_left
                          · intro w' hw'; (try dsimp only at hw'); go_simp <;> with_reducible rfl
                          try simp only [Act.put, List.setIfInBounds_toArray, List.set_cons_zero, List.set_cons_succ]
                          refine AnyTill.take (i := 1) (v := ?_) (by simp only [List.getElem?_toArray, List.getElem?_cons_succ, List.getElem?_cons_zero]; rfl) (by kernel_rfl) (by kernel_rfl) (by kernel_rfl) (by kernel_rfl) (fun _ _ _ h => h) (Or.inl ⟨by rfl, ?_⟩) scd ?_
                          rotate_left
                          · intro w' hw'; (try dsimp only at hw'); go_simp <;> with_reducible rfl
                          try simp only [Act.put, List.setIfInBounds_toArray, List.set_cons_zero, List.set_cons_succ]
                          refine AnyTill.take (i := 2) (v := ?_) (by simp only [List.getElem?_toArray, List.getElem?_cons_succ, List.getElem?_cons_zero]; rfl) (by kernel_rfl) (by kernel_rfl) (by kernel_rfl) (by kernel_rfl) (fun _ _ _ h => h) (Or.inl ⟨by rfl, ?_⟩) scd ?_
                          rotate_left
                          · intro w' hw'; (try dsimp only at hw'); go_simp <;> with_reducible rfl
                          try simp only [Act.put, List.setIfInBounds_toArray, List.set_cons_zero, List.set_cons_succ]
                          refine AnyTill.take (i := 3) (v := ?_) (by simp only [List.getElem?_toArray, List.getElem?_cons_succ, List.getElem?_cons_zero]; rfl) (by kernel_rfl) (by kernel_rfl) (by kernel_rfl) (by kernel_rfl) (fun _ _ _ h => h) (Or.inl ⟨by rfl, ?_⟩) scd ?_
                          rotate_left
                          · intro w' hw'; (try dsimp only at hw'); go_simp <;> with_reducible rfl
                          try simp only [Act.put, List.setIfInBounds_toArray, List.set_cons_zero, List.set_cons_succ]
                          refine AnyTill.take (i := 4) (v := ?_) (by simp only [List.getElem?_toArray, List.getElem?_cons_succ, List.getElem?_cons_zero]; rfl) (by kernel_rfl) (by kernel_rfl) (by kernel_rfl) (by kernel_rfl) (fun _ _ _ h => h) (Or.inl ⟨by rfl, ?_⟩) scd ?_
                          rotate_left
                          · intro w' hw'; (try dsimp only at hw'); go_simp <;> with_reducible rfl
                          try simp only [Act.put, List.setIfInBounds_toArray, List.set_cons_zero, List.set_cons_succ]
                          refine AnyTill.take (i := 5) (v := ?_) (by simp only [List.getElem?_toArray, List.getElem?_cons_succ, List.getElem?_cons_zero]; rfl) (by kernel_rfl) (by kernel_rfl) (by kernel_rfl) (by kernel_rfl) (fun _ _ _ h => h) (Or.inl ⟨by rfl, ?_⟩) scd ?_
                          rotate_left
                          · intro w' hw'; (try dsimp only at hw'); go_simp <;> with_reducible rfl
                          try simp only [Act.put, List.setIfInBounds_toArray, List.set_cons_zero, List.set_cons_succ]
                          refine AnyTill.take (i := 6) (v := ?_) (by simp only [List.getElem?_toArray, List.getElem?_cons_succ, List.getElem?_cons_zero]; rfl) (by kernel_rfl) (by kernel_rfl) (by kernel_rfl) (by kernel_rfl) (fun _ _ _ h => h) (Or.inl ⟨by rfl, ?_⟩) scd ?_
                          rotate_left
                          · intro w' hw'; (try dsimp only at hw'); go_simp <;> with_reducible rfl
                          try simp only [Act.put, List.setIfInBounds_toArray, List.set_cons_zero, List.set_cons_succ]
                          refine AnyTill.take (i := 7) (v := ?_) (by simp only [List.getElem?_toArray, List.getElem?_cons_succ, List.getElem?_cons_zero]; rfl) (by kernel_rfl) (by kernel_rfl) (by kernel_rfl) (by kernel_rfl) (fun _ _ _ h => h) (Or.inl ⟨by rfl, ?_⟩) scd ?_
                          rotate_left
                          · intro w' hw'; (try dsimp only at hw'); go_simp <;> with_reducible rfl
                          try simp only [Act.put, List.setIfInBounds_toArray, List.set_cons_zero, List.set_cons_succ]
                          refine AnyTill.take (i := 8) (v := ?_) (by simp only [List.getElem?_toArray, List.getElem?_cons_succ, List.getElem?_cons_zero]; rfl) (by kernel_rfl) (by kernel_rfl) (by kernel_rfl) (by kernel_rfl) (fun _ _ _ h => h) (Or.inl ⟨by rfl, ?_⟩) scd ?_
                          rotate_left
                          · intro w' hw'; (try dsimp only at hw'); go_simp <;> with_reducible rfl
                          try simp only [Act.put, List.setIfInBounds_toArray, List.set_cons_zero, List.set_cons_succ]
                          refine AnyTill.take (i := 9) (v := ?_) (by simp only [List.getElem?_toArray, List.getElem?_cons_succ, List.getElem?_cons_zero]; rfl) (by kernel_rfl) (by kernel_rfl) (by kernel_rfl) (by kernel_rfl) (fun _ _ _ h => h) (Or.inl ⟨by rfl, ?_⟩) scd ?_
                          rotate_left
                          · intro w' hw'; (try dsimp only at hw'); go_simp <;> with_reducible rfl
                          try simp only [Act.put, List.setIfInBounds_toArray, List.set_cons_zero, List.set_cons_succ]
                          refine AnyTill.take (i := 10) (v := ?_) (by simp only [List.getElem?_toArray, List.getElem?_cons_succ, List.getElem?_cons_zero]; rfl) (by kernel_rfl) (by kernel_rfl) (by kernel_rfl) (by kernel_rfl) (fun _ _ _ h => h) (Or.inl ⟨by rfl, ?_⟩) scd ?_
                          rotate_left
                          · intro w' hw'; (try dsimp only at hw'); go_simp <;> with_reducible rfl
                          try simp only [Act.put, List.setIfInBounds_toArray, List.set_cons_zero, List.set_cons_succ]
                          refine AnyTill.take (i := 11) (v := ?_) (by simp only [List.getElem?_toArray, List.getElem?_cons_succ, List.getElem?_cons_zero]; rfl) (by kernel_rfl) (by kernel_rfl) (by kernel_rfl) (by kernel_rfl) (fun _ _ _ h => h) (Or.inl ⟨by rfl, ?_⟩) scd ?_
                          rotate_left
                          · intro w' hw'; (try dsimp only at hw'); go_simp <;> with_reducible rfl
                          try simp only [Act.put, List.setIfInBounds_toArray, List.set_cons_zero, List.set_cons_succ]
                          refine AnyTill.take (i := 12) (v := ?_) (by simp only [List.getElem?_toArray, List.getElem?_cons_succ, List.getElem?_cons_zero]; rfl) (by kernel_rfl) (by kernel_rfl) (by kernel_rfl) (by kernel_rfl) (fun _ _ _ h => h) (Or.inl ⟨by rfl, ?_⟩) scd ?_
                          rotate_left
                          · intro w' hw'; (try dsimp only at hw'); go_simp <;> with_reducible rfl
                          try simp only [Act.put, List.setIfInBounds_toArray, List.set_cons_zero, List.set_cons_succ]
                          refine AnyTill.take (i := 13) (v := ?_) (by simp only [List.getElem?_toArray, List.getElem?_cons_succ, List.getElem?_cons_zero]; rfl) (by kernel_rfl) (by kernel_rfl) (by kernel_rfl) (by kernel_rfl) (fun _ _ _ h => h) (Or.inl ⟨by rfl, ?_⟩) scd ?_
                          rotate_left
                          · intro w' hw'; (try dsimp only at hw'); go_simp <;> with_reducible rfl
                          try simp only [Act.put, List.setIfInBounds_toArray, List.set_cons_zero, List.set_cons_succ]
                          refine AnyTill.take (i := 14) (v := ?_) (by simp only [List.getElem?_toArray, List.getElem?_cons_succ, List.getElem?_cons_zero]; rfl) (by kernel_rfl) (by kernel_rfl) (by kernel_rfl) (by kernel_rfl) (fun _ _ _ h => h) (Or.inl ⟨by rfl, ?_⟩) scd ?_
                          rotate_left
                          · intro w' hw'; (try dsimp only at hw'); go_simp <;> with_reducible rfl
                          try simp only [Act.put, List.setIfInBounds_toArray, List.set_cons_zero, List.set_cons_succ]
                          refine AnyTill.takeC (i := 15) (v := .int .i64 y) (by simp only [List.getElem?_toArray, List.getElem?_cons_succ, List.getElem?_cons_zero]; rfl) (by kernel_rfl) (by kernel_rfl) (by kernel_rfl) (by kernel_rfl) (fun _ _ _ h => h) ⟨by rfl, 9, #[.int .i64 z, .int .i64 (L + 1)], fun w' hw' => ?_, fun w' _ => within_at z (L + 1) y w' (by omega) (by omega) HYZ⟩ scd ?_
                          · (try dsimp only at hw'); go_simp <;> with_reducible rfl
                          try simp only [Act.put, List.setIfInBounds_toArray, List.set_cons_zero, List.set_cons_succ]
                          refine AnyTill.take (i := 16) (v := ?_) (by simp only [List.getElem?_toArray, List.getElem?_cons_succ, List.getElem?_cons_zero]; rfl) (by kernel_rfl) (by kernel_rfl) (by kernel_rfl) (by kernel_rfl) (fun _ _ _ h => h) (Or.inl ⟨by rfl, ?_⟩) scd ?_
                          rotate_left
                          · intro w' hw'; (try dsimp only at hw'); go_simp <;> with_reducible rfl
                          try simp only [Act.put, List.setIfInBounds_toArray, List.set_cons_zero, List.set_cons_succ]
                          refine' AnyTill.one (i := 17) (o := _) (by kernel_rfl) ?vp1h (fun K' hK => ?vp1k)
                          case vp1h => (simp only [List.getElem?_toArray, List.getElem?_cons_succ, List.getElem?_cons_zero]; rfl)
                          go_simp
                          refine hK.out _ _ (.inl rfl) ?_
                          clear hK K'
                          try simp only [Act.put, List.setIfInBounds_toArray, List.set_cons_zero, List.set_cons_succ]
                          refine AnyTill.done (by kernel_rfl) ?_ _
                          refine NoPanic.normal ?_
                          go_wp2
                          go_roundg (n5 - (j + 1))
                          case measure => have := HGJ.out; omega
                          case rel => exact ⟨j + 1, fun i => if i = j then y else f i, by omega, rfl, by go_num, D1.out, D2.out, D3.out, D4.out⟩
                      · have j2 : decide (j < m3) = false := by simpa using hjm
                        clear hjm
                        go_wp2
                        go_roundg (n5 - (j + 1))
                        case measure => have := HGJ.out; omega
                        case rel => exact ⟨j + 1, f, by omega, rfl, by go_num, R1.out, R2.out, R3.out, hx3⟩
                    · obtain rfl : j = n5 := by omega
                      clear hjn
                      go_wp2_with fail
                      refine (copy_own _ j H f wr R3.out.own (by omega)).mono ?_
                      rintro e w6 ⟨v6, rfl, ho6, hb6⟩
                      obtain ⟨O7, mk7, st7⟩ := fresh_marked R1.out.fin R1.out.low.size hb6 ho6 5
                      have T1 := Lib.hid (R1.out.step (st7 4) (by decide) (by decide))
                      have T2 := Lib.hid (R2.out.step (st7 4) (by decide) (by decide))
                      have T3 := Lib.hid (R3.out.step (st7 4) (by decide))
                      have T6 : Hid (LTI w6 O7 wr.heap.size 5 v6 j f) := Lib.hid ⟨ho6, fun b hb => (mk7 b hb).1⟩
                      obtain ⟨t, ht⟩ := terr_any m2 g2 j f
                      obtain ⟨_, _, e, hq1, hq2, hat⟩ := T3.out.own.at
                      injection e with e1 _ e3
                      subst e1 e3
                      have CA := Lib.hid (pvtake (c := c5) T1.out (by decide) IV2.out.is hat (fun b off e => by rw [T3.out.tag b (by rw [e]; rfl)]; decide) t ht)
                      have CB := Lib.hid fun (O9 : Nat → Nat) w9 (s9 : Step w.heap.size O7 1 w6 O9 w9) (h9 : At w9 A5 j f) => nltake (c := c5) (T2.out.step s9 (by decide) (by decide)) (by decide) IV2.out.is h9 (by omega) t ht
                      have ee : (t != t) = false := by simp
                      clear ho6 hb6 mk7 st7 hat ht hx3 hq1 hq2
                      go_wp2_with fail
                      refine (CA.out).mono ?_
                      rintro e w7 ⟨rfl, O8, n7, s7⟩
                      have N7 := Lib.hid n7
                      have T3b := Lib.hid (T3.out.step s7 (by decide))
                      have T6b := Lib.hid (T6.out.step s7 (by decide))
                      obtain ⟨_, _, e, _, _, hat⟩ := T3b.out.own.at
                      injection e with e1 _ e3
                      subst e1 e3
                      have CC := Lib.hid (CB.out O8 w7 s7 hat)
                      clear n7 s7 CA CB hat
                      go_wp2_with fail
                      refine (CC.out).mono ?_
                      rintro e w8 ⟨rfl, O9, n8, s8⟩
                      have N8 := Lib.hid n8
                      have N9 := Lib.hid (N7.out.step s8 (by decide) (by decide))
                      have T3c := Lib.hid (T3b.out.step s8 (by decide))
                      have T6c := Lib.hid (T6b.out.step s8 (by decide))
                      obtain ⟨_, _, e, _, _, hat⟩ := T3c.out.own.at
                      injection e with e1 _ e3
                      subst e1 e3
                      obtain ⟨A6, c6, rfl, _, _, hat6⟩ := T6c.out.own.at
                      have CD := Lib.hid (same_true A5 A6 j c5 c6 f f w8 hat hat6 (by omega) fun _ _ => rfl)
                      clear n8 s8 CC hat hat6
                      go_wp2_with fail
                      refine (CD.out).mono ?_
                      rintro e w9 ⟨rfl, hb9⟩
                      have Q1 := Lib.hid (N9.out.below hb9)
                      have Q2 := Lib.hid (N8.out.below hb9)
                      clear hb9 CD
                      go_wp2
                      go_meet
                      exact ⟨_, O9, Q1.out, Q2.out⟩
            case rest => as_aux_lemma =>
              clear M1 M2 CX HXO
              obtain ⟨S', O2, hn1, hn2⟩ := hcut
              have N1 := Lib.hid hn1
              have N2 := Lib.hid hn2
              obtain ⟨v2, m, g, s2, iv⟩ := hn2.st
              have hm12 := iv.le
              have t0 := s2.hd.c0
              have tl := s2.hd.lt
              obtain ⟨A2, cp2, rfl, h3, h4, _, hdr⟩ := s2.at
              have HD := Lib.hid hdr
              obtain ⟨T, eT⟩ : ∃ T, btot g m = T := ⟨_, rfl⟩
              have C1 := Lib.hid (pvrows (N1.out.below (below_drew wc)) iv.is)
              have C2 := Lib.hid fun (A : Option Addr) (cc : Nat) (w9 : World) (h : Below wc.heap.size wc w9) (h' : AtR ve 3 w9 A m g) => vsame_true A A2 m cc cp2 g g w9 h' (HD.out.below h) (by omega) (fun _ _ => rfl)
              have C3 := Lib.hid fun (w9 : World) (h : Below wc.heap.size wc w9) => pvleft (N1.out.below h) iv.is
              have C4 := Lib.hid fun (w9 : World) (h : Below wc.heap.size wc w9) => nlleft (N2.out.below h) iv.is
              simp only [eT] at C3 C4
              have eT1 : (T != T) = false := by simp
              clear hn1 hn2 s2 hdr iv eT
              go_wp2
              go_region_held3 (fun w' => w'.cell? ⟨wa.heap.size, 0, none⟩ = some (.slice A2 m cp2)) (first | go_keep) (first | (go_at_call 12; (refine (C1.out).mono ?_); rintro e y1 ⟨A1, cc1, rfl, _, _, ho1, hb1⟩; have g1 := cell_keep (w := wc.drew) t0 hb1; have BB1 := Lib.hid ((below_drew wc).trans hb1); have hat : AtR ve 3 y1 A1 m g := (by obtain ⟨A', c', e', _, _, _, h⟩ := ho1.at ve_len; injection e' with e1 _ e3; subst e1 e3; exact h); have AT1 := Lib.hid hat; clear ho1 hb1 hat) | (go_at_call 16; (refine (C2.out _ _ _ BB1.out AT1.out).mono ?_); rintro e y2 ⟨rfl, hb2⟩; have g2 := cell_keep g1 hb2; have BB2 := Lib.hid (BB1.out.trans (hb2.mono BB1.out.size)); clear hb2) | (go_at_call 11; (refine (C3.out _ BB2.out).mono ?_); rintro e y3 ⟨rfl, hb3⟩; have g3 := cell_keep g2 hb3; have BB3 := Lib.hid (BB2.out.trans (hb3.mono BB2.out.size)); clear hb3) | (go_at_call 25; (refine (C4.out _ BB3.out).mono ?_); rintro e y4 ⟨rfl, hb4⟩; have g4 := cell_keep g3 hb4; have BB4 := Lib.hid (BB3.out.trans (hb4.mono BB3.out.size)); clear hb4))
              go_wp2
              go_roundg (24 - (k + 1))
              case measure => have := HGK.out; omega
              case rel => exact ⟨k + 1, S', O2, by omega, rfl, by go_num, N1.out.below BB4.out, N2.out.below BB4.out⟩
    · rcases (show ¬ k < len0 ∨ (k < len0 ∧ ¬ k < 24) by omega) with hq | ⟨hq1, hq⟩
      all_goals
        clear hlt
        go_wp2_with fail
        refine (wakes13_any _).mono ?_
        rintro e w8 ⟨rfl, hb⟩
        have L8 := Lib.hid (N1.out.low.trans (hb.mono N1.out.low.size))
        clear hb
        go_wp2
        go_ret
        exact ⟨rfl, L8.out⟩
end Go.Proofs.Ytdjepibgpgeifaa
