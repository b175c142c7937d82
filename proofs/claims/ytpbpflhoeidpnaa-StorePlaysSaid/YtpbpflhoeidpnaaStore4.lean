/- Package store: check, Post: a contract for each. -/
import Derived.Test.YtpbpflhoeidpnaaStore3
import Derived.WalkKit
import Derived.WalkSpells
import Derived.WalkLawsBesides
import Derived.Lib.Hide
import Derived.Deep.RegionLaw
namespace Go.Proofs.Ytpbpflhoeidpnaa
open Go.RowKit

section
variable {w : World} {O : Nat → Nat} {base t sb n : Nat} {v : Value} {L : Nat → Value} {js : Nat → Jn}
set_option maxHeartbeats 4000000 in
set_option maxRecDepth 100000 in
theorem check_any (s : StV w O base t sb v L n js) (x : Jn) (l : Value) (e : Int) (hl : SomeL l w x.n x.ga x.gm) (hln : x.n ≤ 1000000) (h : PErr js n x.ent x.per x.kind x.of x.n x.ga x.gm e) :
    Calls Try.prog 47 #[ptr sb, ja x l] w fun r w' => r = .returned (.int .i64 e) ∧ Below w.heap.size w w' := by
  obtain ⟨s0, ent, p, kd, of, m, ga, gm⟩ := x
  have HSL := Lib.hid hl
  obtain ⟨A, c, rfl, hmc, hcm, hN, hA⟩ := hl
  obtain ⟨A0, c0, rfl, hnc, hcm0, _⟩ := s.own.form
  simp only [ja] at *
  have hn := s.inv.1
  have HS := Lib.hid s
  have HA := Lib.hid hA
  have HJ := Lib.hid s.inv.2.1
  clear s hA hN
  cases h
  case arg ha =>
    have HARG := Lib.hid ha
    clear ha
    go_enter Try.func47, Try.ntmps47
    go_wp2_with fail
    refine (right_no7 ⟨s0, ent, p, kd, of, m, ga, gm⟩ (.slice A m c) _ HARG.out).mono ?_
    rintro e w1 ⟨rfl, hb1⟩
    obtain ⟨hc, _, hz, hb⟩ := one_cells hb1
    have HB := Lib.hid hb
    have HX : Hid (JC w1 w.heap.size 0 ⟨s0, ent, p, kd, of, m, ga, gm⟩ (.slice A m c)) := Lib.hid ⟨hc 0, hc 1, hc 2, hc 3, hc 4, hc 5⟩
    obtain ⟨c0, c1, c2, c3, c4, c5⟩ := JC.six HX.out
    clear hc hb hb1
    go_wp2
    go_ret
    exact ⟨rfl, HB.out⟩
  case none ha hk hno =>
    subst hk
    have HARG := Lib.hid ha
    have HNO := Lib.hid hno
    clear ha hno
    go_enter Try.func47, Try.ntmps47
    go_wp2_with fail
    refine (right_yes7 ⟨s0, ent, p, 2, of, m, ga, gm⟩ (.slice A m c) _ HARG.out).mono ?_
    rintro e w1 ⟨rfl, hb1⟩
    obtain ⟨hc, _, hz, hb⟩ := one_cells hb1
    have HB := Lib.hid hb
    have HX : Hid (JC w1 w.heap.size 0 ⟨s0, ent, p, 2, of, m, ga, gm⟩ (.slice A m c)) := Lib.hid ⟨hc 0, hc 1, hc 2, hc 3, hc 4, hc 5⟩
    obtain ⟨c0, c1, c2, c3, c4, c5⟩ := JC.six HX.out
    clear hc hb hb1
    go_wp2_with fail
    clear c0 c1 c2 c3 c4 c5
    refine (rev_none (HS.out.below HB.out) ⟨s0, ent, p, 2, of, m, ga, gm⟩ (.slice A m c) HNO.out).mono ?_
    rintro e w2 ⟨rfl, hb2⟩
    replace HX := Lib.hid (HX.out.below hz hb2)
    replace hz := Nat.lt_of_lt_of_le hz hb2.size
    replace HB := Lib.hid (HB.out.trans (hb2.mono HB.out.size))
    obtain ⟨c0, c1, c2, c3, c4, c5⟩ := JC.six HX.out
    clear hb2
    go_wp2
    go_ret
    exact ⟨rfl, HB.out⟩
  case there k ha hk ho hp hth =>
    subst hk ho
    have HARG := Lib.hid ha
    have HIS := Lib.hid hp
    have HT := Lib.hid hth
    clear hth
    clear ha hp
    go_enter Try.func47, Try.ntmps47
    go_wp2_with fail
    refine (right_yes7 ⟨s0, ent, p, 2, (k : Int) + 1, m, ga, gm⟩ (.slice A m c) _ HARG.out).mono ?_
    rintro e w1 ⟨rfl, hb1⟩
    obtain ⟨hc, _, hz, hb⟩ := one_cells hb1
    have HB := Lib.hid hb
    have HX : Hid (JC w1 w.heap.size 0 ⟨s0, ent, p, 2, (k : Int) + 1, m, ga, gm⟩ (.slice A m c)) := Lib.hid ⟨hc 0, hc 1, hc 2, hc 3, hc 4, hc 5⟩
    obtain ⟨c0, c1, c2, c3, c4, c5⟩ := JC.six HX.out
    clear hc hb hb1
    go_wp2_with fail
    clear c0 c1 c2 c3 c4 c5
    refine (rev_there (HS.out.below HB.out) ⟨s0, ent, p, 2, (k : Int) + 1, m, ga, gm⟩ (.slice A m c) k rfl HIS.out HT.out).mono ?_
    rintro e w2 ⟨rfl, hb2⟩
    replace HX := Lib.hid (HX.out.below hz hb2)
    replace hz := Nat.lt_of_lt_of_le hz hb2.size
    replace HB := Lib.hid (HB.out.trans (hb2.mono HB.out.size))
    obtain ⟨c0, c1, c2, c3, c4, c5⟩ := JC.six HX.out
    clear hb2
    go_wp2
    go_ret
    exact ⟨rfl, HB.out⟩
  case form1 ha hk hg =>
    subst hk
    have HARG := Lib.hid ha
    have HG := Lib.hid hg
    clear hg
    clear ha
    go_enter Try.func47, Try.ntmps47
    go_wp2_with fail
    refine (right_yes7 ⟨s0, ent, p, 1, of, m, ga, gm⟩ (.slice A m c) _ HARG.out).mono ?_
    rintro e w1 ⟨rfl, hb1⟩
    obtain ⟨hc, _, hz, hb⟩ := one_cells hb1
    have HB := Lib.hid hb
    have HX : Hid (JC w1 w.heap.size 0 ⟨s0, ent, p, 1, of, m, ga, gm⟩ (.slice A m c)) := Lib.hid ⟨hc 0, hc 1, hc 2, hc 3, hc 4, hc 5⟩
    obtain ⟨c0, c1, c2, c3, c4, c5⟩ := JC.six HX.out
    clear hc hb hb1
    go_wp2_with fail
    clear c0 c1 c2 c3 c4 c5
    refine (jcheck_no A m c ga gm _ (HA.out.below HB.out) hln HG).mono ?_
    rintro e w2 ⟨rfl, hb2⟩
    replace HX := Lib.hid (HX.out.below hz hb2)
    replace hz := Nat.lt_of_lt_of_le hz hb2.size
    replace HB := Lib.hid (HB.out.trans (hb2.mono HB.out.size))
    obtain ⟨c0, c1, c2, c3, c4, c5⟩ := JC.six HX.out
    clear hb2
    go_wp2
    go_ret
    exact ⟨rfl, HB.out⟩
  case form2 k ha hk ho hp hth hf =>
    subst hk ho
    have HARG := Lib.hid ha
    have HIS := Lib.hid hp
    have HT := Lib.hid hth
    clear ha hp hth
    by_cases hg : Good m ga gm
    · have hu : ¬ PUndo (js k) m ga gm := fun q => hf ⟨hg, q⟩
      have HG := Lib.hid hg
      have HU := Lib.hid hu
      clear hg hu hf
      go_enter Try.func47, Try.ntmps47
      go_wp2_with fail
      refine (right_yes7 ⟨s0, ent, p, 2, (k : Int) + 1, m, ga, gm⟩ (.slice A m c) _ HARG.out).mono ?_
      rintro e w1 ⟨rfl, hb1⟩
      obtain ⟨hc, _, hz, hb⟩ := one_cells hb1
      have HB := Lib.hid hb
      have HX : Hid (JC w1 w.heap.size 0 ⟨s0, ent, p, 2, (k : Int) + 1, m, ga, gm⟩ (.slice A m c)) := Lib.hid ⟨hc 0, hc 1, hc 2, hc 3, hc 4, hc 5⟩
      obtain ⟨c0, c1, c2, c3, c4, c5⟩ := JC.six HX.out
      clear hc hb hb1
      go_wp2_with fail
      clear c0 c1 c2 c3 c4 c5
      refine (rev_ok (HS.out.below HB.out) ⟨s0, ent, p, 2, (k : Int) + 1, m, ga, gm⟩ (.slice A m c) k rfl HIS.out HT.out).mono ?_
      rintro e w2 ⟨rfl, hb2⟩
      replace HX := Lib.hid (HX.out.below hz hb2)
      replace hz := Nat.lt_of_lt_of_le hz hb2.size
      replace HB := Lib.hid (HB.out.trans (hb2.mono HB.out.size))
      obtain ⟨c0, c1, c2, c3, c4, c5⟩ := JC.six HX.out
      clear hb2
      go_wp2_with fail
      clear c0 c1 c2 c3 c4 c5
      refine (jcheck_yes A m c ga gm _ (HA.out.below HB.out) HG).mono ?_
      rintro e w2 ⟨rfl, hb2⟩
      replace HX := Lib.hid (HX.out.below hz hb2)
      replace hz := Nat.lt_of_lt_of_le hz hb2.size
      replace HB := Lib.hid (HB.out.trans (hb2.mono HB.out.size))
      obtain ⟨c0, c1, c2, c3, c4, c5⟩ := JC.six HX.out
      clear hb2
      go_wp2_with fail
      clear c0 c1 c2 c3 c4 c5
      refine (undoes_any (HS.out.below HB.out) ⟨s0, ent, p, 2, (k : Int) + 1, m, ga, gm⟩ (.slice A m c) k (HSL.out.below HB.out) hln rfl HIS.out.1 false (by simp only [Bool.false_eq_true, false_iff]; exact HU.out)).mono ?_
      rintro e w2 ⟨rfl, hb2⟩
      replace HX := Lib.hid (HX.out.below hz hb2)
      replace hz := Nat.lt_of_lt_of_le hz hb2.size
      replace HB := Lib.hid (HB.out.trans (hb2.mono HB.out.size))
      obtain ⟨c0, c1, c2, c3, c4, c5⟩ := JC.six HX.out
      clear hb2
      go_wp2
      go_ret
      exact ⟨rfl, HB.out⟩
    · have HG := Lib.hid hg
      clear hg hf
      go_enter Try.func47, Try.ntmps47
      go_wp2_with fail
      refine (right_yes7 ⟨s0, ent, p, 2, (k : Int) + 1, m, ga, gm⟩ (.slice A m c) _ HARG.out).mono ?_
      rintro e w1 ⟨rfl, hb1⟩
      obtain ⟨hc, _, hz, hb⟩ := one_cells hb1
      have HB := Lib.hid hb
      have HX : Hid (JC w1 w.heap.size 0 ⟨s0, ent, p, 2, (k : Int) + 1, m, ga, gm⟩ (.slice A m c)) := Lib.hid ⟨hc 0, hc 1, hc 2, hc 3, hc 4, hc 5⟩
      obtain ⟨c0, c1, c2, c3, c4, c5⟩ := JC.six HX.out
      clear hc hb hb1
      go_wp2_with fail
      clear c0 c1 c2 c3 c4 c5
      refine (rev_ok (HS.out.below HB.out) ⟨s0, ent, p, 2, (k : Int) + 1, m, ga, gm⟩ (.slice A m c) k rfl HIS.out HT.out).mono ?_
      rintro e w2 ⟨rfl, hb2⟩
      replace HX := Lib.hid (HX.out.below hz hb2)
      replace hz := Nat.lt_of_lt_of_le hz hb2.size
      replace HB := Lib.hid (HB.out.trans (hb2.mono HB.out.size))
      obtain ⟨c0, c1, c2, c3, c4, c5⟩ := JC.six HX.out
      clear hb2
      go_wp2_with fail
      clear c0 c1 c2 c3 c4 c5
      refine (jcheck_no A m c ga gm _ (HA.out.below HB.out) hln HG).mono ?_
      rintro e w2 ⟨rfl, hb2⟩
      replace HX := Lib.hid (HX.out.below hz hb2)
      replace hz := Nat.lt_of_lt_of_le hz hb2.size
      replace HB := Lib.hid (HB.out.trans (hb2.mono HB.out.size))
      obtain ⟨c0, c1, c2, c3, c4, c5⟩ := JC.six HX.out
      clear hb2
      go_wp2
      go_ret
      exact ⟨rfl, HB.out⟩
  case limit1 ha hk hg hl =>
    subst hk
    have HARG := Lib.hid ha
    have HG := Lib.hid hg
    clear hg
    clear ha
    go_enter Try.func47, Try.ntmps47
    go_wp2_with fail
    refine (right_yes7 ⟨s0, ent, p, 1, of, m, ga, gm⟩ (.slice A m c) _ HARG.out).mono ?_
    rintro e w1 ⟨rfl, hb1⟩
    obtain ⟨hc, _, hz, hb⟩ := one_cells hb1
    have HB := Lib.hid hb
    have HX : Hid (JC w1 w.heap.size 0 ⟨s0, ent, p, 1, of, m, ga, gm⟩ (.slice A m c)) := Lib.hid ⟨hc 0, hc 1, hc 2, hc 3, hc 4, hc 5⟩
    obtain ⟨c0, c1, c2, c3, c4, c5⟩ := JC.six HX.out
    clear hc hb hb1
    go_wp2_with fail
    clear c0 c1 c2 c3 c4 c5
    refine (jcheck_yes A m c ga gm _ (HA.out.below HB.out) HG).mono ?_
    rintro e w2 ⟨rfl, hb2⟩
    replace HX := Lib.hid (HX.out.below hz hb2)
    replace hz := Nat.lt_of_lt_of_le hz hb2.size
    replace HB := Lib.hid (HB.out.trans (hb2.mono HB.out.size))
    obtain ⟨c0, c1, c2, c3, c4, c5⟩ := JC.six HX.out
    clear hb2
    have sc := (HS.out.below HB.out).cell
    go_wp2
    go_ret
    exact ⟨rfl, HB.out⟩
  case limit2 k ha hk ho hp hth hg hu hl =>
    subst hk ho
    have HARG := Lib.hid ha
    have HIS := Lib.hid hp
    have HT := Lib.hid hth
    have HG := Lib.hid hg
    have HU := Lib.hid hu
    clear hth hg hu
    clear ha hp
    go_enter Try.func47, Try.ntmps47
    go_wp2_with fail
    refine (right_yes7 ⟨s0, ent, p, 2, (k : Int) + 1, m, ga, gm⟩ (.slice A m c) _ HARG.out).mono ?_
    rintro e w1 ⟨rfl, hb1⟩
    obtain ⟨hc, _, hz, hb⟩ := one_cells hb1
    have HB := Lib.hid hb
    have HX : Hid (JC w1 w.heap.size 0 ⟨s0, ent, p, 2, (k : Int) + 1, m, ga, gm⟩ (.slice A m c)) := Lib.hid ⟨hc 0, hc 1, hc 2, hc 3, hc 4, hc 5⟩
    obtain ⟨c0, c1, c2, c3, c4, c5⟩ := JC.six HX.out
    clear hc hb hb1
    go_wp2_with fail
    clear c0 c1 c2 c3 c4 c5
    refine (rev_ok (HS.out.below HB.out) ⟨s0, ent, p, 2, (k : Int) + 1, m, ga, gm⟩ (.slice A m c) k rfl HIS.out HT.out).mono ?_
    rintro e w2 ⟨rfl, hb2⟩
    replace HX := Lib.hid (HX.out.below hz hb2)
    replace hz := Nat.lt_of_lt_of_le hz hb2.size
    replace HB := Lib.hid (HB.out.trans (hb2.mono HB.out.size))
    obtain ⟨c0, c1, c2, c3, c4, c5⟩ := JC.six HX.out
    clear hb2
    go_wp2_with fail
    clear c0 c1 c2 c3 c4 c5
    refine (jcheck_yes A m c ga gm _ (HA.out.below HB.out) HG).mono ?_
    rintro e w2 ⟨rfl, hb2⟩
    replace HX := Lib.hid (HX.out.below hz hb2)
    replace hz := Nat.lt_of_lt_of_le hz hb2.size
    replace HB := Lib.hid (HB.out.trans (hb2.mono HB.out.size))
    obtain ⟨c0, c1, c2, c3, c4, c5⟩ := JC.six HX.out
    clear hb2
    go_wp2_with fail
    clear c0 c1 c2 c3 c4 c5
    refine (undoes_any (HS.out.below HB.out) ⟨s0, ent, p, 2, (k : Int) + 1, m, ga, gm⟩ (.slice A m c) k (HSL.out.below HB.out) hln rfl HIS.out.1 true (by simp only [true_iff]; exact HU.out)).mono ?_
    rintro e w2 ⟨rfl, hb2⟩
    replace HX := Lib.hid (HX.out.below hz hb2)
    replace hz := Nat.lt_of_lt_of_le hz hb2.size
    replace HB := Lib.hid (HB.out.trans (hb2.mono HB.out.size))
    obtain ⟨c0, c1, c2, c3, c4, c5⟩ := JC.six HX.out
    clear hb2
    have sc := (HS.out.below HB.out).cell
    go_wp2
    go_ret
    exact ⟨rfl, HB.out⟩
  case over1 ha hk hg hl ho =>
    subst hk
    have HARG := Lib.hid ha
    have HG := Lib.hid hg
    have HOV := Lib.hid ho
    clear hg ho
    clear ha
    go_enter Try.func47, Try.ntmps47
    go_wp2_with fail
    refine (right_yes7 ⟨s0, ent, p, 1, of, m, ga, gm⟩ (.slice A m c) _ HARG.out).mono ?_
    rintro e w1 ⟨rfl, hb1⟩
    obtain ⟨hc, _, hz, hb⟩ := one_cells hb1
    have HB := Lib.hid hb
    have HX : Hid (JC w1 w.heap.size 0 ⟨s0, ent, p, 1, of, m, ga, gm⟩ (.slice A m c)) := Lib.hid ⟨hc 0, hc 1, hc 2, hc 3, hc 4, hc 5⟩
    obtain ⟨c0, c1, c2, c3, c4, c5⟩ := JC.six HX.out
    clear hc hb hb1
    go_wp2_with fail
    clear c0 c1 c2 c3 c4 c5
    refine (jcheck_yes A m c ga gm _ (HA.out.below HB.out) HG).mono ?_
    rintro e w2 ⟨rfl, hb2⟩
    replace HX := Lib.hid (HX.out.below hz hb2)
    replace hz := Nat.lt_of_lt_of_le hz hb2.size
    replace HB := Lib.hid (HB.out.trans (hb2.mono HB.out.size))
    obtain ⟨c0, c1, c2, c3, c4, c5⟩ := JC.six HX.out
    clear hb2
    have sc := (HS.out.below HB.out).cell
    go_wp2_with fail
    clear c0 c1 c2 c3 c4 c5
    refine (over_yes (HS.out.below HB.out) ⟨s0, ent, p, 1, of, m, ga, gm⟩ (.slice A m c) (HSL.out.below HB.out) HG.out HOV.out).mono ?_
    rintro e w2 ⟨rfl, hb2⟩
    replace HX := Lib.hid (HX.out.below hz hb2)
    replace hz := Nat.lt_of_lt_of_le hz hb2.size
    replace HB := Lib.hid (HB.out.trans (hb2.mono HB.out.size))
    obtain ⟨c0, c1, c2, c3, c4, c5⟩ := JC.six HX.out
    clear hb2
    go_wp2
    go_ret
    exact ⟨rfl, HB.out⟩
  case over2 k ha hk ho hp hth hg hu hl ho2 =>
    subst hk ho
    have HARG := Lib.hid ha
    have HIS := Lib.hid hp
    have HT := Lib.hid hth
    have HG := Lib.hid hg
    have HU := Lib.hid hu
    have HOV := Lib.hid ho2
    clear hth hg hu ho2
    clear ha hp
    go_enter Try.func47, Try.ntmps47
    go_wp2_with fail
    refine (right_yes7 ⟨s0, ent, p, 2, (k : Int) + 1, m, ga, gm⟩ (.slice A m c) _ HARG.out).mono ?_
    rintro e w1 ⟨rfl, hb1⟩
    obtain ⟨hc, _, hz, hb⟩ := one_cells hb1
    have HB := Lib.hid hb
    have HX : Hid (JC w1 w.heap.size 0 ⟨s0, ent, p, 2, (k : Int) + 1, m, ga, gm⟩ (.slice A m c)) := Lib.hid ⟨hc 0, hc 1, hc 2, hc 3, hc 4, hc 5⟩
    obtain ⟨c0, c1, c2, c3, c4, c5⟩ := JC.six HX.out
    clear hc hb hb1
    go_wp2_with fail
    clear c0 c1 c2 c3 c4 c5
    refine (rev_ok (HS.out.below HB.out) ⟨s0, ent, p, 2, (k : Int) + 1, m, ga, gm⟩ (.slice A m c) k rfl HIS.out HT.out).mono ?_
    rintro e w2 ⟨rfl, hb2⟩
    replace HX := Lib.hid (HX.out.below hz hb2)
    replace hz := Nat.lt_of_lt_of_le hz hb2.size
    replace HB := Lib.hid (HB.out.trans (hb2.mono HB.out.size))
    obtain ⟨c0, c1, c2, c3, c4, c5⟩ := JC.six HX.out
    clear hb2
    go_wp2_with fail
    clear c0 c1 c2 c3 c4 c5
    refine (jcheck_yes A m c ga gm _ (HA.out.below HB.out) HG).mono ?_
    rintro e w2 ⟨rfl, hb2⟩
    replace HX := Lib.hid (HX.out.below hz hb2)
    replace hz := Nat.lt_of_lt_of_le hz hb2.size
    replace HB := Lib.hid (HB.out.trans (hb2.mono HB.out.size))
    obtain ⟨c0, c1, c2, c3, c4, c5⟩ := JC.six HX.out
    clear hb2
    go_wp2_with fail
    clear c0 c1 c2 c3 c4 c5
    refine (undoes_any (HS.out.below HB.out) ⟨s0, ent, p, 2, (k : Int) + 1, m, ga, gm⟩ (.slice A m c) k (HSL.out.below HB.out) hln rfl HIS.out.1 true (by simp only [true_iff]; exact HU.out)).mono ?_
    rintro e w2 ⟨rfl, hb2⟩
    replace HX := Lib.hid (HX.out.below hz hb2)
    replace hz := Nat.lt_of_lt_of_le hz hb2.size
    replace HB := Lib.hid (HB.out.trans (hb2.mono HB.out.size))
    obtain ⟨c0, c1, c2, c3, c4, c5⟩ := JC.six HX.out
    clear hb2
    have sc := (HS.out.below HB.out).cell
    go_wp2_with fail
    clear c0 c1 c2 c3 c4 c5
    refine (over_yes (HS.out.below HB.out) ⟨s0, ent, p, 2, (k : Int) + 1, m, ga, gm⟩ (.slice A m c) (HSL.out.below HB.out) HG.out HOV.out).mono ?_
    rintro e w2 ⟨rfl, hb2⟩
    replace HX := Lib.hid (HX.out.below hz hb2)
    replace hz := Nat.lt_of_lt_of_le hz hb2.size
    replace HB := Lib.hid (HB.out.trans (hb2.mono HB.out.size))
    obtain ⟨c0, c1, c2, c3, c4, c5⟩ := JC.six HX.out
    clear hb2
    go_wp2
    go_ret
    exact ⟨rfl, HB.out⟩
  case ok1 ha hk hg hl ho =>
    subst hk
    have HARG := Lib.hid ha
    have HG := Lib.hid hg
    have HOV := Lib.hid ho
    clear hg ho
    clear ha
    go_enter Try.func47, Try.ntmps47
    go_wp2_with fail
    refine (right_yes7 ⟨s0, ent, p, 1, of, m, ga, gm⟩ (.slice A m c) _ HARG.out).mono ?_
    rintro e w1 ⟨rfl, hb1⟩
    obtain ⟨hc, _, hz, hb⟩ := one_cells hb1
    have HB := Lib.hid hb
    have HX : Hid (JC w1 w.heap.size 0 ⟨s0, ent, p, 1, of, m, ga, gm⟩ (.slice A m c)) := Lib.hid ⟨hc 0, hc 1, hc 2, hc 3, hc 4, hc 5⟩
    obtain ⟨c0, c1, c2, c3, c4, c5⟩ := JC.six HX.out
    clear hc hb hb1
    go_wp2_with fail
    clear c0 c1 c2 c3 c4 c5
    refine (jcheck_yes A m c ga gm _ (HA.out.below HB.out) HG).mono ?_
    rintro e w2 ⟨rfl, hb2⟩
    replace HX := Lib.hid (HX.out.below hz hb2)
    replace hz := Nat.lt_of_lt_of_le hz hb2.size
    replace HB := Lib.hid (HB.out.trans (hb2.mono HB.out.size))
    obtain ⟨c0, c1, c2, c3, c4, c5⟩ := JC.six HX.out
    clear hb2
    have sc := (HS.out.below HB.out).cell
    go_wp2_with fail
    clear c0 c1 c2 c3 c4 c5
    refine (over_no (HS.out.below HB.out) ⟨s0, ent, p, 1, of, m, ga, gm⟩ (.slice A m c) (HSL.out.below HB.out) HG.out HOV.out).mono ?_
    rintro e w2 ⟨rfl, hb2⟩
    replace HX := Lib.hid (HX.out.below hz hb2)
    replace hz := Nat.lt_of_lt_of_le hz hb2.size
    replace HB := Lib.hid (HB.out.trans (hb2.mono HB.out.size))
    obtain ⟨c0, c1, c2, c3, c4, c5⟩ := JC.six HX.out
    clear hb2
    go_wp2
    go_ret
    exact ⟨rfl, HB.out⟩
  case ok2 k ha hk ho hp hth hg hu hl ho2 =>
    subst hk ho
    have HARG := Lib.hid ha
    have HIS := Lib.hid hp
    have HT := Lib.hid hth
    have HG := Lib.hid hg
    have HU := Lib.hid hu
    have HOV := Lib.hid ho2
    clear hth hg hu ho2
    clear ha hp
    go_enter Try.func47, Try.ntmps47
    go_wp2_with fail
    refine (right_yes7 ⟨s0, ent, p, 2, (k : Int) + 1, m, ga, gm⟩ (.slice A m c) _ HARG.out).mono ?_
    rintro e w1 ⟨rfl, hb1⟩
    obtain ⟨hc, _, hz, hb⟩ := one_cells hb1
    have HB := Lib.hid hb
    have HX : Hid (JC w1 w.heap.size 0 ⟨s0, ent, p, 2, (k : Int) + 1, m, ga, gm⟩ (.slice A m c)) := Lib.hid ⟨hc 0, hc 1, hc 2, hc 3, hc 4, hc 5⟩
    obtain ⟨c0, c1, c2, c3, c4, c5⟩ := JC.six HX.out
    clear hc hb hb1
    go_wp2_with fail
    clear c0 c1 c2 c3 c4 c5
    refine (rev_ok (HS.out.below HB.out) ⟨s0, ent, p, 2, (k : Int) + 1, m, ga, gm⟩ (.slice A m c) k rfl HIS.out HT.out).mono ?_
    rintro e w2 ⟨rfl, hb2⟩
    replace HX := Lib.hid (HX.out.below hz hb2)
    replace hz := Nat.lt_of_lt_of_le hz hb2.size
    replace HB := Lib.hid (HB.out.trans (hb2.mono HB.out.size))
    obtain ⟨c0, c1, c2, c3, c4, c5⟩ := JC.six HX.out
    clear hb2
    go_wp2_with fail
    clear c0 c1 c2 c3 c4 c5
    refine (jcheck_yes A m c ga gm _ (HA.out.below HB.out) HG).mono ?_
    rintro e w2 ⟨rfl, hb2⟩
    replace HX := Lib.hid (HX.out.below hz hb2)
    replace hz := Nat.lt_of_lt_of_le hz hb2.size
    replace HB := Lib.hid (HB.out.trans (hb2.mono HB.out.size))
    obtain ⟨c0, c1, c2, c3, c4, c5⟩ := JC.six HX.out
    clear hb2
    go_wp2_with fail
    clear c0 c1 c2 c3 c4 c5
    refine (undoes_any (HS.out.below HB.out) ⟨s0, ent, p, 2, (k : Int) + 1, m, ga, gm⟩ (.slice A m c) k (HSL.out.below HB.out) hln rfl HIS.out.1 true (by simp only [true_iff]; exact HU.out)).mono ?_
    rintro e w2 ⟨rfl, hb2⟩
    replace HX := Lib.hid (HX.out.below hz hb2)
    replace hz := Nat.lt_of_lt_of_le hz hb2.size
    replace HB := Lib.hid (HB.out.trans (hb2.mono HB.out.size))
    obtain ⟨c0, c1, c2, c3, c4, c5⟩ := JC.six HX.out
    clear hb2
    have sc := (HS.out.below HB.out).cell
    go_wp2_with fail
    clear c0 c1 c2 c3 c4 c5
    refine (over_no (HS.out.below HB.out) ⟨s0, ent, p, 2, (k : Int) + 1, m, ga, gm⟩ (.slice A m c) (HSL.out.below HB.out) HG.out HOV.out).mono ?_
    rintro e w2 ⟨rfl, hb2⟩
    replace HX := Lib.hid (HX.out.below hz hb2)
    replace hz := Nat.lt_of_lt_of_le hz hb2.size
    replace HB := Lib.hid (HB.out.trans (hb2.mono HB.out.size))
    obtain ⟨c0, c1, c2, c3, c4, c5⟩ := JC.six HX.out
    clear hb2
    go_wp2
    go_ret
    exact ⟨rfl, HB.out⟩
end
end Go.Proofs.Ytpbpflhoeidpnaa
