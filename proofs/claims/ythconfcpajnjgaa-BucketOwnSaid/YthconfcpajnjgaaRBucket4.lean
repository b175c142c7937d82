/- The document's own register of buckets: Reclass: a contract, by why it is refused. -/
import Derived.Test.YthconfcpajnjgaaRBucket3
import Derived.WalkKit
import Derived.WalkSpells
import Derived.WalkLawsBesides
import Derived.Lib.Hide
import Derived.IntWalk
namespace Go.Proofs.Ythconfcpajnjgaa
open Go.RowKit

section
variable {w w1 : World} {O O1 : Nat → Nat} {base t t' sb n : Nat} {v : Value} {g : Nat → Bk} {S : Int → Int → Int}
/-- two places are not one -/
theorem not_one {c y c' y' : Int} (h : ¬ (c = c' ∧ y = y')) : (c == c') = false ∨ ((c == c') = true ∧ (y == y') = false) := by
  by_cases q : c = c'
  · exact .inr ⟨by simpa using q, by simpa using fun z => h ⟨q, z⟩⟩
  · exact .inl (by simpa using q)
set_option maxHeartbeats 4000000 in
set_option maxRecDepth 100000 in
theorem rbrec_no (s : BV w O base t sb v n g) (iv : BInv S n g) (c y c' y' a e : Int) (he : RErr S n c y c' y' a e) (h1 : e = 1 ∨ e = 6) :
    Calls Try.prog 20 #[ptr sb, .int .i64 c, .int .i64 y, .int .i64 c', .int .i64 y', .int .i64 a] w fun e' w' => e' = .returned (.int .i64 e) ∧ Below w.heap.size w w' := by
  have HS := Lib.hid s
  have HI := Lib.hid iv
  have hn : n ≤ 1000 := by have := iv.le; omega
  cases he
  case ok => omega
  case limit => omega
  case arg ha =>
    clear s iv h1
    by_cases hb : BOk c y
    · have R1 := Lib.hid fun w => rbk_yes c y w hb
      by_cases hb2 : BOk c' y'
      · have R2 := Lib.hid fun w => rbk_yes c' y' w hb2
        by_cases hm : Mon a
        · have R3 := Lib.hid fun w => rmny_yes a w hm
          have hq : c = c' ∧ y = y' := Classical.byContradiction fun q => ha ⟨hb, hb2, hm, q⟩
          obtain ⟨rfl, rfl⟩ := hq
          have p1 : (c == c) = true := by simp
          have p2 : (y == y) = true := by simp
          clear ha hb hb2 hm
          go_enter Try.func20, Try.ntmps20
          go_wp2_with (first | (go_at_call 32; (with_reducible refine (R1.out _).mono ?_); rintro e w' ⟨rfl, rfl⟩) | (go_at_call 33; (with_reducible refine (R3.out _).mono ?_); rintro e w' ⟨rfl, rfl⟩))
          go_ret
          exact ⟨rfl, Below.refl _ _⟩
        · have R3 := Lib.hid fun w => rmny_no a w hm
          clear ha hb hb2 hm
          go_enter Try.func20, Try.ntmps20
          go_wp2_with (first | (go_at_call 32; (with_reducible refine (R1.out _).mono ?_); rintro e w' ⟨rfl, rfl⟩) | (go_at_call 32; (with_reducible refine (R2.out _).mono ?_); rintro e w' ⟨rfl, rfl⟩) | (go_at_call 33; (with_reducible refine (R3.out _).mono ?_); rintro e w' ⟨rfl, rfl⟩))
          go_ret
          exact ⟨rfl, Below.refl _ _⟩
      · have R2 := Lib.hid fun w => rbk_no c' y' w hb2
        clear ha hb hb2
        go_enter Try.func20, Try.ntmps20
        go_wp2_with (first | (go_at_call 32; (with_reducible refine (R1.out _).mono ?_); rintro e w' ⟨rfl, rfl⟩) | (go_at_call 32; (with_reducible refine (R2.out _).mono ?_); rintro e w' ⟨rfl, rfl⟩))
        go_ret
        exact ⟨rfl, Below.refl _ _⟩
    · have R1 := Lib.hid fun w => rbk_no c y w hb
      clear ha hb
      go_enter Try.func20, Try.ntmps20
      go_wp2_with (go_at_call 32; (with_reducible refine (R1.out _).mono ?_); rintro e w' ⟨rfl, rfl⟩)
      go_ret
      exact ⟨rfl, Below.refl _ _⟩
  case over ha ho =>
    obtain ⟨h2, h3, h4, h5⟩ := ha
    have R1 := Lib.hid fun w => rbk_yes c y w h2
    have R2 := Lib.hid fun w => rbk_yes c' y' w h3
    have R3 := Lib.hid fun w => rmny_yes a w h4
    have hw5 := not_one h5
    have hV := iv.mon c y
    have hU := iv.mon c' y'
    have CG := Lib.hid (rbget s iv.is hn c y)
    have CH := Lib.hid fun w1 (h : Below w.heap.size w w1) => rbget (s.below h) iv.is hn c' y'
    obtain ⟨V, eV⟩ : ∃ V, S c y = V := ⟨_, rfl⟩
    obtain ⟨U, eU⟩ : ∃ U, S c' y' = U := ⟨_, rfl⟩
    rw [eV] at hV ho CG
    simp only [eU] at hU ho CH
    unfold Mon at hV hU h4
    have ew1 : IntKind.i64.wrap (V - a) = V - a := IntWalk.i64_in _ (by omega)
    have ew2 : IntKind.i64.wrap (U + a) = U + a := IntWalk.i64_in _ (by omega)
    clear s iv h1 h2 h3 h4 h5 hV hU eV eU
    by_cases q : Mon (V - a)
    · have R4 := Lib.hid fun w => rmny_yes (V - a) w q
      have R5 := Lib.hid fun w => rmny_no (U + a) w fun z => ho ⟨q, z⟩
      clear ho q
      rcases hw5 with p1 | ⟨p1, p2⟩
      all_goals
        go_enter Try.func20, Try.ntmps20
        go_wp2_with (first | (go_at_call 32; (with_reducible refine (R1.out _).mono ?_); rintro e w' ⟨rfl, rfl⟩) | (go_at_call 32; (with_reducible refine (R2.out _).mono ?_); rintro e w' ⟨rfl, rfl⟩) | (go_at_call 33; (with_reducible refine (R3.out _).mono ?_); rintro e w' ⟨rfl, rfl⟩))
        refine (CG.out).mono ?_
        rintro e w1 ⟨rfl, hb1⟩
        have HB1 := Lib.hid hb1
        clear hb1
        go_wp2_with (go_at_call 33; (with_reducible refine (R4.out _).mono ?_); rintro e w' ⟨rfl, rfl⟩)
        refine (CH.out _ HB1.out).mono ?_
        rintro e w2 ⟨rfl, hb2⟩
        have HB2 := Lib.hid (HB1.out.trans (hb2.mono HB1.out.size))
        clear hb2
        go_wp2_with (go_at_call 33; (with_reducible refine (R5.out _).mono ?_); rintro e w' ⟨rfl, rfl⟩)
        go_ret
        exact ⟨rfl, HB2.out⟩
    · have R4 := Lib.hid fun w => rmny_no (V - a) w q
      clear ho q
      rcases hw5 with p1 | ⟨p1, p2⟩
      all_goals
        go_enter Try.func20, Try.ntmps20
        go_wp2_with (first | (go_at_call 32; (with_reducible refine (R1.out _).mono ?_); rintro e w' ⟨rfl, rfl⟩) | (go_at_call 32; (with_reducible refine (R2.out _).mono ?_); rintro e w' ⟨rfl, rfl⟩) | (go_at_call 33; (with_reducible refine (R3.out _).mono ?_); rintro e w' ⟨rfl, rfl⟩))
        refine (CG.out).mono ?_
        rintro e w1 ⟨rfl, hb1⟩
        have HB1 := Lib.hid hb1
        clear hb1
        go_wp2_with (go_at_call 33; (with_reducible refine (R4.out _).mono ?_); rintro e w' ⟨rfl, rfl⟩)
        go_ret
        exact ⟨rfl, HB1.out⟩
set_option maxHeartbeats 8000000 in
set_option maxRecDepth 100000 in
theorem rbrec_right (s : BV w O base t sb v n g) (iv : BInv S n g) (fn : Fin0 base O w) (hbase : base ≤ w.heap.size) (c y c' y' a : Int) (h1 : BOk c y ∧ BOk c' y' ∧ Mon a ∧ ¬ (c = c' ∧ y = y')) (h2 : Mon (S c y - a) ∧ Mon (S c' y' + a)) :
    Calls Try.prog 20 #[ptr sb, .int .i64 c, .int .i64 y, .int .i64 c', .int .i64 y', .int .i64 a] w fun e' w' =>
      (12 < cntR n (S c y) (S c' y') a ∧ e' = .returned (.int .i64 5) ∧ Below w.heap.size w w') ∨
      (cntR n (S c y) (S c' y') a ≤ 12 ∧ e' = .returned (.int .i64 0) ∧ ∃ v' m h O', BV w' O' base t sb v' m h ∧ BInv (upS (upS S c y (S c y - a)) c' y' (S c' y' + a)) m h ∧ Step base O t w O' w') := by
  have hn : n ≤ 1000 := by have := iv.le; omega
  have hn12 := iv.le
  obtain ⟨b1, b2, b3, b4⟩ := h1
  have HS := Lib.hid s
  have HI := Lib.hid iv
  have HF := Lib.hid fn
  have OK1 := Lib.hid b1
  have OK2 := Lib.hid b2
  have R1 := Lib.hid fun w => rbk_yes c y w b1
  have R2 := Lib.hid fun w => rbk_yes c' y' w b2
  have R3 := Lib.hid fun w => rmny_yes a w b3
  have hw5 := not_one b4
  have NE : Hid (upS S c y (S c y - a) c' y' = S c' y') := Lib.hid (if_neg fun z => b4 ⟨z.1.symm, z.2.symm⟩)
  have hV := iv.mon c y
  have hU := iv.mon c' y'
  have CG := Lib.hid fun w1 (h : Below w.heap.size w w1) => rbget (s.below h) iv.is hn c y
  have CH := Lib.hid fun w1 (h : Below w.heap.size w w1) => rbget (s.below h) iv.is hn c' y'
  obtain ⟨V, eV⟩ : ∃ V, S c y = V := ⟨_, rfl⟩
  obtain ⟨U, eU⟩ : ∃ U, S c' y' = U := ⟨_, rfl⟩
  simp only [eV] at hV h2 CG NE ⊢
  simp only [eU] at hU h2 CH NE ⊢
  have HM := Lib.hid h2
  have R4 := Lib.hid fun w => rmny_yes (V - a) w h2.1
  have R5 := Lib.hid fun w => rmny_yes (U + a) w h2.2
  unfold Mon at hV hU b3
  have ew1 : IntKind.i64.wrap (V - a) = V - a := IntWalk.i64_in _ (by omega)
  have ew2 : IntKind.i64.wrap (U + a) = U + a := IntWalk.i64_in _ (by omega)
  have HV := Lib.hid eV
  have HU := Lib.hid eU
  have c0 := s.hd.c0
  have lt0 := s.hd.lt
  have g0 := s.hd.frz 0
  clear s iv b1 b2 b3 b4 h2 hV hU eV eU fn
  rcases hw5 with p1 | ⟨p1, p2⟩
  all_goals
    go_enter Try.func20, Try.ntmps20
    go_wp2_with (first | (go_at_call 32; (with_reducible refine (R1.out _).mono ?_); rintro e w' ⟨rfl, rfl⟩) | (go_at_call 32; (with_reducible refine (R2.out _).mono ?_); rintro e w' ⟨rfl, rfl⟩) | (go_at_call 33; (with_reducible refine (R3.out _).mono ?_); rintro e w' ⟨rfl, rfl⟩))
    refine (CG.out w (Below.refl _ _)).mono ?_
    rintro e w1 ⟨rfl, hb1⟩
    have HB1 := Lib.hid hb1
    clear hb1
    go_wp2_with (go_at_call 33; (with_reducible refine (R4.out _).mono ?_); rintro e w' ⟨rfl, rfl⟩)
    refine (CH.out w1 HB1.out).mono ?_
    rintro e w2 ⟨rfl, hb2⟩
    have HB2 := Lib.hid (HB1.out.trans (hb2.mono HB1.out.size))
    clear hb2
    have CC := Lib.hid (rbcopy (HS.out.below HB2.out) hn (Fin0.zero w.heap.size w2) HB2.out.size 1)
    go_wp2_with (go_at_call 33; (with_reducible refine (R5.out _).mono ?_); rintro e w' ⟨rfl, rfl⟩)
    refine (CC.out).mono ?_
    rintro e w3 ⟨v3, xb, O3, rfl, x3, hxb, s3⟩
    have X3 := Lib.hid x3
    have HB3 := Lib.hid (HB2.out.trans ((s3 1).below (Fin0.zero w.heap.size w2) (by decide) HB2.out.size))
    have F3 := Lib.hid (s3 1).fin
    clear x3 s3 CC hxb
    go_wp2_with fail
    refine (CG.out w3 HB3.out).mono ?_
    rintro e w4 ⟨rfl, hb4⟩
    have HB4 := Lib.hid (HB3.out.trans (hb4.mono HB3.out.size))
    have CS := Lib.hid (rbset (X3.out.below hb4) HI.out.is (F3.out.below hb4) HB4.out.size hn c y (V - a) OK1.out)
    have F4 := Lib.hid (F3.out.below hb4)
    clear hb4
    go_wp2_with fail
    refine (CS.out).mono ?_
    rintro e w5 ⟨u, rfl, v5, m, h, O5, x5, b5, hm5, s5⟩
    have HB5 := Lib.hid (HB4.out.trans (s5.below F4.out (by decide) HB4.out.size))
    have X5 := Lib.hid x5
    have B5 := Lib.hid b5
    have F5 := Lib.hid s5.fin
    clear x5 b5 s5 CS
    go_wp2_with fail
    refine (CH.out w5 HB5.out).mono ?_
    rintro e w6 ⟨rfl, hb6⟩
    have HB6 := Lib.hid (HB5.out.trans (hb6.mono HB5.out.size))
    have CT := Lib.hid (rbset (X5.out.below hb6) B5.out (F5.out.below hb6) HB6.out.size (by omega) c' y' (U + a) OK2.out)
    have F6 := Lib.hid (F5.out.below hb6)
    clear hb6
    go_wp2_with fail
    refine (CT.out).mono ?_
    rintro e w7 ⟨u7, rfl, v7, m7, h7, O7, x7, b7, hm7, s7⟩
    have HB7 := Lib.hid (HB6.out.trans (s7.below F6.out (by decide) HB6.out.size))
    have X7 := Lib.hid x7
    have hxc := x7.hd.c0
    obtain ⟨A7, c7, rfl, _, _, _⟩ := x7.row.form
    obtain ⟨k1, k2⟩ := bis_count HI.out.is OK1.out B5.out
    obtain ⟨k3, k4⟩ := bis_count B5.out OK2.out b7
    rw [HV.out] at k1 k2
    rw [NE.out] at k3 k4
    have B7 := Lib.hid b7
    have HTT : Hid (btot h7 m7 = btot g n) := Lib.hid (by omega)
    have HC : Hid ((m7 : Int) = cntR n V U a) := Lib.hid (by unfold cntR; rw [k3, ← k1]; rfl)
    have d0 := cell_keep c0 HB7.out
    have f0 := (HB7.out.frozen (p := ⟨sb, 0, none⟩) lt0).trans g0
    clear x7 b7 s7 CT k1 k2 k3 k4
    by_cases hm : m7 ≤ 12
    · have hm' : ¬ (12 : Int) < (m7 : Int) := by omega
      go_wp2
      go_ret
      obtain ⟨O', q1, q2⟩ := BV.takes HS.out HF.out hbase HB7.out X7.out.own
      refine .inr ⟨by rw [← HC.out]; omega, rfl, _, _, _, O', q1, ⟨B7.out, hm, fun z z' => ?_, by rw [HTT.out]; exact HI.out.all⟩, q2⟩
      unfold upS
      split
      · exact HM.out.2
      · split
        · exact HM.out.1
        · exact HI.out.mon z z'
    · go_wp2
      go_ret
      exact .inl ⟨by rw [← HC.out]; omega, rfl, HB7.out⟩
end
end Go.Proofs.Ythconfcpajnjgaa
