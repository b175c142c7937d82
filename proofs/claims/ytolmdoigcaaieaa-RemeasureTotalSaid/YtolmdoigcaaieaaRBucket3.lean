/- The document's own register of buckets: Move, Reclass: a contract for each, by why they are refused. -/
import Derived.Test.YtolmdoigcaaieaaRBucket2
import Derived.WalkKit
import Derived.WalkSpells
import Derived.WalkLawsBesides
import Derived.Lib.Hide
import Derived.IntWalk
import Derived.Deep.LoopGhost
namespace Go.Proofs.Ytolmdoigcaaieaa
open Go.RowKit

section
variable {w w1 : World} {O O1 : Nat → Nat} {base t t' sb n : Nat} {v : Value} {g : Nat → Bk} {S : Int → Int → Int}
set_option maxHeartbeats 4000000 in
set_option maxRecDepth 100000 in
/-- a move that is refused ahead of all -/
theorem rbmove_no (s : BV w O base t sb v n g) (iv : BInv S n g) (c y a e : Int) (he : MErr S n (btot g n) c y a e) (h1 : e = 1 ∨ e = 6) :
    Calls Try.prog 22 #[ptr sb, .int .i64 c, .int .i64 y, .int .i64 a] w fun e' w' => e' = .returned (.int .i64 e) ∧ Below w.heap.size w w' := by
  have HS := Lib.hid s
  have HI := Lib.hid iv
  have hn : n ≤ 1000 := by have := iv.le; omega
  cases he
  case ok => omega
  case limit => omega
  case arg ha =>
    clear s iv h1
    by_cases hb : BOk c y
    · have R1 := Lib.hid fun w => rbk_yes c y w hb
      have R2 := Lib.hid fun w => rmny_no a w fun q => ha ⟨hb, q⟩
      clear ha hb
      go_enter Try.func22, Try.ntmps22
      go_wp2_with (first | (go_at_call 36; (with_reducible refine (R1.out _).mono ?_); rintro e w' ⟨rfl, rfl⟩) | (go_at_call 26; (with_reducible refine (R2.out _).mono ?_); rintro e w' ⟨rfl, rfl⟩))
      go_ret
      exact ⟨rfl, Below.refl _ _⟩
    · have R1 := Lib.hid fun w => rbk_no c y w hb
      clear ha hb
      go_enter Try.func22, Try.ntmps22
      go_wp2_with (go_at_call 36; (with_reducible refine (R1.out _).mono ?_); rintro e w' ⟨rfl, rfl⟩)
      go_ret
      exact ⟨rfl, Below.refl _ _⟩
  case over ha ho =>
    have R1 := Lib.hid fun w => rbk_yes c y w ha.1
    have R2 := Lib.hid fun w => rmny_yes a w ha.2
    have hV := iv.mon c y
    have hT := iv.all
    have hA := ha.2
    have CG := Lib.hid (rbget s iv.is hn c y)
    obtain ⟨V, eV⟩ : ∃ V, S c y = V := ⟨_, rfl⟩
    obtain ⟨T, eT⟩ : ∃ T, btot g n = T := ⟨_, rfl⟩
    rw [eV] at hV ho CG
    rw [eT] at hT ho
    unfold Mon at hV hT hA
    have ew1 : IntKind.i64.wrap (V + a) = V + a := IntWalk.i64_in _ (by omega)
    have ew2 : IntKind.i64.wrap (T + a) = T + a := IntWalk.i64_in _ (by omega)
    have HT := Lib.hid eT
    have hg : Hid (∀ j, j < n → Mon (g j).a) := Lib.hid fun j hj => iv.is.mon iv.mon hj
    clear s iv h1 ha hV hT hA eV eT
    by_cases q : Mon (V + a)
    · have R3 := Lib.hid fun w => rmny_yes (V + a) w q
      have R4 := Lib.hid fun w => rmny_no (T + a) w fun z => ho ⟨q, z⟩
      clear ho q
      go_enter Try.func22, Try.ntmps22
      go_wp2_with (first | (go_at_call 36; (with_reducible refine (R1.out _).mono ?_); rintro e w' ⟨rfl, rfl⟩) | (go_at_call 26; (with_reducible refine (R2.out _).mono ?_); rintro e w' ⟨rfl, rfl⟩))
      refine (CG.out).mono ?_
      rintro e w1 ⟨rfl, hb1⟩
      have HB1 := Lib.hid hb1
      have CT := Lib.hid (rbtotal (HS.out.below hb1) hn hg.out)
      rw [HT.out] at CT
      clear hb1
      go_wp2_with (go_at_call 26; (with_reducible refine (R3.out _).mono ?_); rintro e w' ⟨rfl, rfl⟩)
      refine (CT.out).mono ?_
      rintro e w2 ⟨rfl, hb2⟩
      have HB2 := Lib.hid (HB1.out.trans (hb2.mono HB1.out.size))
      clear hb2 CT
      go_wp2_with (go_at_call 26; (with_reducible refine (R4.out _).mono ?_); rintro e w' ⟨rfl, rfl⟩)
      go_ret
      exact ⟨rfl, HB2.out⟩
    · have R3 := Lib.hid fun w => rmny_no (V + a) w q
      clear ho q
      go_enter Try.func22, Try.ntmps22
      go_wp2_with (first | (go_at_call 36; (with_reducible refine (R1.out _).mono ?_); rintro e w' ⟨rfl, rfl⟩) | (go_at_call 26; (with_reducible refine (R2.out _).mono ?_); rintro e w' ⟨rfl, rfl⟩))
      refine (CG.out).mono ?_
      rintro e w1 ⟨rfl, hb1⟩
      have HB1 := Lib.hid hb1
      clear hb1
      go_wp2_with (go_at_call 26; (with_reducible refine (R3.out _).mono ?_); rintro e w' ⟨rfl, rfl⟩)
      go_ret
      exact ⟨rfl, HB1.out⟩
set_option maxHeartbeats 4000000 in
set_option maxRecDepth 100000 in
/-- a move of which the rows are made: there are too many, or not -/
theorem rbmove_right (s : BV w O base t sb v n g) (iv : BInv S n g) (fn : Fin0 base O w) (hbase : base ≤ w.heap.size) (c y a : Int) (h1 : BOk c y ∧ Mon a) (h2 : Mon (S c y + a) ∧ Mon (btot g n + a)) :
    Calls Try.prog 22 #[ptr sb, .int .i64 c, .int .i64 y, .int .i64 a] w fun e' w' =>
      (12 < cntB n (S c y) (S c y + a) ∧ e' = .returned (.int .i64 5) ∧ Below w.heap.size w w') ∨
      (cntB n (S c y) (S c y + a) ≤ 12 ∧ e' = .returned (.int .i64 0) ∧ ∃ v' m h O', BV w' O' base t sb v' m h ∧ BInv (upS S c y (S c y + a)) m h ∧ Step base O t w O' w') := by
  have hn : n ≤ 1000 := by have := iv.le; omega
  have hn12 := iv.le
  have HS := Lib.hid s
  have HI := Lib.hid iv
  have HF := Lib.hid fn
  have OK := Lib.hid h1.1
  have R1 := Lib.hid fun w => rbk_yes c y w h1.1
  have R2 := Lib.hid fun w => rmny_yes a w h1.2
  have hV := iv.mon c y
  have hT := iv.all
  have hA := h1.2
  have CG := Lib.hid fun w1 (h : Below w.heap.size w w1) => rbget (s.below h) iv.is hn c y
  obtain ⟨V, eV⟩ : ∃ V, S c y = V := ⟨_, rfl⟩
  obtain ⟨T, eT⟩ : ∃ T, btot g n = T := ⟨_, rfl⟩
  simp only [eV] at hV h2 CG ⊢
  rw [eT] at hT h2
  have HM := Lib.hid h2
  have R3 := Lib.hid fun w => rmny_yes (V + a) w h2.1
  have R4 := Lib.hid fun w => rmny_yes (T + a) w h2.2
  unfold Mon at hV hT hA
  have ew1 : IntKind.i64.wrap (V + a) = V + a := IntWalk.i64_in _ (by omega)
  have ew2 : IntKind.i64.wrap (T + a) = T + a := IntWalk.i64_in _ (by omega)
  have HT := Lib.hid eT
  have HV := Lib.hid eV
  have hg : Hid (∀ j, j < n → Mon (g j).a) := Lib.hid fun j hj => iv.is.mon iv.mon hj
  have c0 := s.hd.c0
  have lt0 := s.hd.lt
  have g0 := s.hd.frz 0
  clear s iv h1 h2 hV hT hA eV eT fn
  go_enter Try.func22, Try.ntmps22
  go_wp2_with (first | (go_at_call 36; (with_reducible refine (R1.out _).mono ?_); rintro e w' ⟨rfl, rfl⟩) | (go_at_call 26; (with_reducible refine (R2.out _).mono ?_); rintro e w' ⟨rfl, rfl⟩))
  refine (CG.out w (Below.refl _ _)).mono ?_
  rintro e w1 ⟨rfl, hb1⟩
  have HB1 := Lib.hid hb1
  have CT := Lib.hid (rbtotal (HS.out.below hb1) hn hg.out)
  rw [HT.out] at CT
  clear hb1
  go_wp2_with (go_at_call 26; (with_reducible refine (R3.out _).mono ?_); rintro e w' ⟨rfl, rfl⟩)
  refine (CT.out).mono ?_
  rintro e w2 ⟨rfl, hb2⟩
  have HB2 := Lib.hid (HB1.out.trans (hb2.mono HB1.out.size))
  clear hb2 CT
  have CC := Lib.hid (rbcopy (HS.out.below HB2.out) hn (Fin0.zero w.heap.size w2) HB2.out.size 1)
  go_wp2_with (go_at_call 26; (with_reducible refine (R4.out _).mono ?_); rintro e w' ⟨rfl, rfl⟩)
  refine (CC.out).mono ?_
  rintro e w3 ⟨v3, xb, O3, rfl, x3, hxb, s3⟩
  have X3 := Lib.hid x3
  have HB3 := Lib.hid (HB2.out.trans ((s3 1).below (Fin0.zero w.heap.size w2) (by decide) HB2.out.size))
  have F3 := Lib.hid (s3 1).fin
  clear x3 s3 CC hxb
  go_wp2_with fail
  refine (CG.out w3 HB3.out).mono ?_
  rintro e w4 ⟨rfl, hb4⟩
  have HB4 := Lib.hid (HB3.out.trans (hb4.mono HB3.out.size))
  have CS := Lib.hid (rbset (X3.out.below hb4) HI.out.is (F3.out.below hb4) HB4.out.size hn c y (V + a) OK.out)
  have F4 := Lib.hid (F3.out.below hb4)
  clear hb4
  go_wp2_with fail
  refine (CS.out).mono ?_
  rintro e w5 ⟨u, rfl, v5, m, h, O5, x5, b5, hm5, s5⟩
  have HB5 := Lib.hid (HB4.out.trans (s5.below F4.out (by decide) HB4.out.size))
  have X5 := Lib.hid x5
  have hxc := x5.hd.c0
  obtain ⟨A5, c5, rfl, _, _, _⟩ := x5.row.form
  obtain ⟨hcnt, htot⟩ := bis_count HI.out.is OK.out b5
  rw [HV.out] at hcnt htot
  have B5 := Lib.hid b5
  have HTT := Lib.hid htot
  have HC := Lib.hid hcnt
  have d0 := cell_keep c0 HB5.out
  have f0 := (HB5.out.frozen (p := ⟨sb, 0, none⟩) lt0).trans g0
  clear x5 b5 s5 CS hcnt htot
  by_cases hm : m ≤ 12
  · have hm' : ¬ (12 : Int) < (m : Int) := by omega
    go_wp2
    go_ret
    obtain ⟨O', q1, q2⟩ := BV.takes HS.out HF.out hbase HB5.out X5.out.own
    refine .inr ⟨by rw [← HC.out]; omega, rfl, _, _, _, O', q1, ⟨B5.out, hm, fun c' y' => ?_, by rw [HTT.out, HT.out, show T - V + (V + a) = T + a by omega]; exact HM.out.2⟩, q2⟩
    unfold upS
    split
    · exact HM.out.1
    · exact HI.out.mon c' y'
  · go_wp2
    go_ret
    exact .inl ⟨by rw [← HC.out]; omega, rfl, HB5.out⟩
end
end Go.Proofs.Ytolmdoigcaaieaa
