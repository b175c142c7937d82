/- The statements' own division of an amount by weights: a contract; it answers what package split answers. -/
import Derived.Test.YtgikhbfbjkdadaaRef01
import Derived.Test.YtgikhbfbjkdadaaSplit
import Derived.WalkKit
import Derived.WalkSpells
import Derived.WalkLawsBesides
import Derived.Lib.Hide
import Derived.Deep.QuietTactic
import Derived.BigQuiet
import Derived.Deep.LoopGhost
import Derived.Deep.RegionLaw
import Derived.IntWalk
namespace Go.Proofs.Ytgikhbfbjkdadaa
open Go.RowKit

/-- at the head of a round: the units that are still to be given -/
def RGive (w : World) (b1 b2 len : Nat) (R : Nat → Int) (m : Nat) (p r : Nat → Int) (wr : World) : Prop :=
  Below w.heap.size w wr ∧ Row wr b1 len p ∧ Row wr b2 len r ∧ gv (-1) len m p r = R ∧ ∀ j, j < len → 0 ≤ p j ∧ p j + m ≤ 200000000000
theorem RGive.below {w wr wr' : World} {b1 b2 len m : Nat} {R p r : Nat → Int} (d : RGive w b1 b2 len R m p r wr) (h : Below wr.heap.size wr wr') : RGive w b1 b2 len R m p r wr' :=
  ⟨d.1.trans (h.mono d.1.size), d.2.1.below h, d.2.2.1.below h, d.2.2.2⟩
theorem RGive.next {w wr : World} {b1 b2 len m : Nat} {R p r : Nat → Int} (d : RGive w b1 b2 len R (m + 1) p r wr) (h1 : w.heap.size ≤ b1) (h2 : w.heap.size ≤ b2) (hne : b1 ≠ b2) {i : Nat} (hi : i < len) (e : bst r len = i) :
    RGive w b1 b2 len R m (upd p i (p i + 1)) (upd r i (-1)) ((wr.setCell ⟨b1, i, none⟩ (.int .i64 (p i + 1))).setCell ⟨b2, i, none⟩ (.int .i64 (-1))) := by
  obtain ⟨d1, d2, d3, d4, d5⟩ := d
  refine ⟨(d1.setCell h1 _).setCell h2 _, (d2.set hi _).set_other (by simpa using hne.symm) _, (d3.set_other (by simpa using hne) _).set hi _, by rw [← d4, gv, e], fun j hj => ?_⟩
  have := d5 j hj
  unfold upd; split
  · rename_i e; subst e; omega
  · omega

set_option maxHeartbeats 4000000 in
set_option maxRecDepth 100000 in
theorem rsplit_pos (n : Int) (b off len c : Nat) (g : Nat → Int) (w : World) (hb : b < w.heap.size) (HC : Hid (∀ j, j < len → w.cell? ⟨b, off + j, none⟩ = some (.int .i64 (g j)))) (H : Hid (SplitOk n len g)) (hn : 0 ≤ n) :
    Calls Try.prog 15 #[.int .i64 n, .slice (some ⟨b, off, none⟩) len c] w fun e w' => ∃ B C, e = .returned (.tuple #[.slice (some ⟨B, 0, none⟩) len C, .bool true]) ∧ w.heap.size ≤ B ∧ Row w' B len (splitV n len g) ∧ len ≤ C ∧ Below w.heap.size w w' := by
  obtain ⟨⟨n1, n2⟩, h16, h3, h4⟩ := H.out
  have hp : 0 < len := by rcases Nat.eq_zero_or_pos len with e | e; · subst e; simp [tot] at h4
                          · exact e
  have HMon : Hid (Mon n) := Lib.hid ⟨n1, n2⟩
  have HW : Hid (∀ j, j < len → Wgt (g j)) := Lib.hid h3
  obtain ⟨T, hT⟩ : ∃ T, tot g len = T := ⟨_, rfl⟩
  have tT := wgt_tot len h3
  rw [hT] at h4 tT
  have T2 : T ≤ 16000000 := by omega
  have HT := Lib.hid hT
  obtain ⟨q, hq⟩ : ∃ q : Nat → Int, q = fun j => n * g j / T := ⟨_, rfl⟩
  obtain ⟨r, hr⟩ : ∃ r : Nat → Int, r = fun j => n * g j % T := ⟨_, rfl⟩
  have hm := missing_bd (n := n) h4 HT.out
  have hq0 : ∀ j, j < len → 0 ≤ q j ∧ q j ≤ 100000000000 := by
    intro j hj
    obtain ⟨g1, g2⟩ := HW.out j hj
    have a := Int.ediv_nonneg (Int.mul_nonneg hn g1) (show 0 ≤ T by omega)
    have le := tot_one_le len (fun j hj => (HW.out j hj).1) j hj
    rw [HT.out] at le
    have b : n * g j / T ≤ n := Int.ediv_le_of_le_mul (by omega) (Int.mul_le_mul_of_nonneg_left le hn)
    rw [hq]; exact ⟨a, by show n * g j / T ≤ _; omega⟩
  have hR : splitV n len g = gv (-1) len (n - tot q len).toNat q r := by
    rw [splitV, if_neg (by omega), HT.out, splitF, ← hq, ← hr]
    rw [← hq, ← hr] at hm
    exact gv_agree (by omega) (by omega) _ _ _ _ (fun _ _ _ => rfl) hm.2
  obtain ⟨R, hR'⟩ : ∃ R, R = splitV n len g := ⟨_, rfl⟩
  rw [← hR'] at hR ⊢
  rw [← hq] at hm
  have hm1 := Lib.hid hm.1
  have qe : ∀ j, n * g j / T = q j := fun j => by rw [hq]
  have re : ∀ j, n * g j % T = r j := fun j => by rw [hr]
  have HQ := Lib.hid hq0
  have HR := Lib.hid hR
  have QE := Lib.hid qe
  have RE := Lib.hid re
  have hz' : (T == 0) = false := by simp; omega
  clear hq hr hm hq0 hR hR' qe re hT h3 H tT
  have tb : Hid (∀ k, k ≤ len → 0 ≤ tot q k ∧ tot q k ≤ 1600000000000) := Lib.hid fun k hk => by
    refine ⟨tot_nonneg k fun j hj => (HQ.out j (by omega)).1, ?_⟩
    have := tot_le (h := fun _ => 100000000000) k fun j hj => (HQ.out j (by omega)).2
    rw [tot_const] at this; omega
  obtain ⟨i0, hi, hz0, hz1, hz2⟩ := info_parts int_info
  go_enter Try.func15, Try.ntmps15
  go_wp2
  go_loop [6, 21] (fun t i => ∃ k : Nat, k ≤ len ∧ i = .int .i64 k ∧ t = .int .i64 (tot g k)) (fun _ i => len - (intOf i).toNat)
  case atStart => exact ⟨0, Nat.zero_le _, rfl, rfl⟩
  case round =>
    obtain ⟨k, hk, rfl, rfl⟩ := hrel
    obtain ⟨tb1, tb2⟩ := wgt_tot k fun j hj => HW.out j (by omega)
    by_cases hlt : k < len
    · have ck := HC.out k hlt
      obtain ⟨m1, m2⟩ := HW.out k hlt
      go_wp2
      go_round
      case rel => exact ⟨k + 1, by omega, by go_num, rfl⟩
      case measure => simp [intOf]; omega
    · obtain rfl : k = len := by omega
      clear hlt tb1 tb2
      rw [HT.out]
      have e1 : decide ((k : Int) < 1) = false := decide_eq_false (by omega)
      have e2 : decide ((16 : Int) < k) = false := decide_eq_false (by omega)
      go_wp2_with (go_at_call 20; (with_reducible refine (rmoney_yes _ _ HMon.out).mono ?_); rintro e w' ⟨rfl, rfl⟩)
      go_loopg [12, 13, 14, 79] k (fun gh v u t i w2 => ∃ j : Nat, j ≤ k ∧ gh = k - j ∧ i = .int .i64 j ∧ t = .int .i64 (n - tot q j) ∧ ∃ A A' c c', v = .slice A j c ∧ u = .slice A' j c' ∧ Own w2 3 w.heap.size v j q ∧ Own w2 3 w.heap.size u j r ∧ Apart v u ∧ Below w.heap.size w w2)
      case atStart => exact ⟨0, Nat.zero_le _, rfl, rfl, by simp [tot], _, _, _, _, rfl, rfl, Own.nil _ _ _ _, Own.nil _ _ _ _, Apart.nil _, Below.refl _ _⟩
      case round =>
        obtain ⟨j, hj, hgj, rfl, rfl, A, A', c, c', rfl, rfl, ho, hu, ha, hbw⟩ := hrel
        have HGJ := Lib.hid hgj
        have HO := Lib.hid ho
        have HU := Lib.hid hu
        have HA := Lib.hid ha
        clear hgj ho hu ha
        obtain ⟨tb1, tb2⟩ := tb.out j hj
        by_cases hlt : j < k
        · have hqj := QE.out j
          have hrj := RE.out j
          obtain ⟨g1, g2⟩ := HW.out j hlt
          obtain ⟨q1, q2⟩ := HQ.out j hlt
          obtain ⟨tb3, tb4⟩ := tb.out (j + 1) (by omega)
          have ck : wr.cell? ⟨b, off + j, none⟩ = some (.int .i64 (g j)) := (hbw.cell (p := ⟨b, off + j, none⟩) hb).trans (HC.out j hlt)
          obtain ⟨x, hx⟩ : ∃ x, g j = x := ⟨_, rfl⟩
          rw [hx] at ck g1 g2 hqj hrj
          obtain ⟨p1, p2⟩ := mul_bd (A := 100000000000) (by omega) n2 g1 g2
          have p3 := Int.mul_nonneg hn g1
          obtain ⟨y, hy⟩ : ∃ y, q j = y := ⟨_, rfl⟩
          obtain ⟨z, hz⟩ : ∃ z, r j = z := ⟨_, rfl⟩
          have ht : tot q (j + 1) = tot q j + q j := rfl
          rw [ht] at tb3 tb4
          rw [hy] at hqj q1 q2 tb3 tb4
          rw [hz] at hrj
          have z1 : 0 ≤ z := by rw [← hrj]; exact Int.emod_nonneg _ (by omega)
          have z2 : z < T := by rw [← hrj]; exact Int.emod_lt_of_pos _ (by omega)
          have HX := Lib.hid hx
          have HY := Lib.hid hy
          have HZ := Lib.hid hz
          have HT' := Lib.hid ht
          have HB := Lib.hid hbw
          clear hx hy hz ht hbw
          have e1 : IntKind.i64.wrap (n * x) = n * x := IntWalk.i64_in _ (by omega)
          have e2 : (n * x).tdiv T = y := by rw [← hqj]; exact Int.tdiv_eq_ediv_of_nonneg p3
          have e3 : (n * x).tmod T = z := by rw [← hrj]; exact Int.tmod_eq_emod_of_nonneg p3
          have e4 : IntKind.i64.wrap y = y := IntWalk.i64_in _ (by omega)
          have e5 : IntKind.i64.wrap z = z := IntWalk.i64_in _ (by omega)
          have bs := HB.out.size
          have hT0 : ¬ T = 0 := by omega
          go_wp2
          go_region_law ((first | (refine step_push_int rfl (.tmp 83) (.tmp 89) rfl Try.underlying22 hi hz0 hz1 hz2 w w.heap.size j _ (.slice A j c) q y rfl rfl (by simp) (by first | exact HO.out.drew.alloc _ | exact (HO.out.drew.alloc _).alloc _) (by omega) (by first | exact HB.out.drew.alloc (by simp; omega) _ | exact (HB.out.drew.alloc (by simp; omega) _).alloc (by simp; omega) _) (by simp; omega) _ rfl ?_; intro b1 c1 w1 ho1 hb1 hg1 hat1; have HO1 := Lib.hid ho1; have HB1 := Lib.hid hb1; have HU1 : Hid (Own w1 3 w.heap.size (.slice A' j c') j r) := Lib.hid (by first | exact (HU.out.drew.alloc _).beside hg1 HA.out.symm | exact ((HU.out.drew.alloc _).alloc _).beside hg1 HA.out.symm); have HA1 := Lib.hid (HA.out.push (n := j + 1) (c := c1) HU.out hat1 (by simp; try omega)); have HCX := Lib.hid (fun X u (h0 : wr.heap.size ≤ X) h => HO.out.far (X := X) (u := u) hg1 h0 h); clear ho1 hb1 hg1 hat1) | (refine step_push_int rfl (.tmp 91) (.tmp 97) rfl Try.underlying22 hi hz0 hz1 hz2 w w.heap.size j _ (.slice A' j c') r z rfl rfl (by first | (refine HCX.out _ _ ?_ ?_ <;> first | omega | (simp; done)) | (simp; done)) (by first | exact HU1.out | exact HU1.out.alloc _) (by omega) (by first | exact HB1.out | exact HB1.out.alloc HB1.out.size _) (by first | exact HB1.out.size | (have := HB1.out.size; simp; omega)) _ rfl ?_; intro b2 c2 w2 ho2 hb2 hg2 hat2; have HU2 := Lib.hid ho2; have HB2 := Lib.hid hb2; have HO2 : Hid (Own w2 3 w.heap.size (.slice (some ⟨b1, 0, none⟩) (j + 1) c1) (j + 1) _) := Lib.hid (by first | exact HO1.out.beside hg2 HA1.out | exact (HO1.out.alloc _).beside hg2 HA1.out); have HA2 := Lib.hid (HA1.out.symm.push (n := j + 1) (c := c2) HO1.out hat2 (by simp)).symm; clear ho2 hb2 hg2 hat2)))
          all_goals
            go_wp2
            go_roundg (k - (j + 1))
            case measure => have := HGJ.out; omega
            case rel =>
              refine ⟨j + 1, by omega, rfl, by go_num, by rw [HT'.out, HY.out]; go_num, _, _, _, _, rfl, rfl, HO2.out.ext fun i hi => ?_, HU2.out.ext fun i hi => ?_, HA2.out, HB2.out⟩
              · by_cases e : i = j
                · subst e; simp [HY.out]
                · simp only [if_neg e]
              · by_cases e : i = j
                · subst e; simp [HZ.out]
                · simp only [if_neg e]
        · obtain rfl : j = k := by omega
          obtain ⟨b1, c1, e1', oc1, om1, ob1, or1⟩ := HO.out.some hp
          obtain ⟨b2, c2, e2', oc2, om2, ob2, or2⟩ := HU.out.some hp
          injection e1' with e11 _ e12
          injection e2' with e21 _ e22
          subst e11; subst e12; subst e21; subst e22
          have hne : b1 ≠ b2 := fun e => HA.out b1 rfl (by rw [e]; rfl)
          have HNE := Lib.hid hne
          unfold maxLen at om1 om2
          have hg : ∃ m : Nat, n - tot q j = m ∧ RGive w b1 b2 j R m q r wr := by
            refine ⟨(n - tot q j).toNat, by have := hm1.out; omega, hbw, or1, or2, HR.out.symm, fun i hi => ?_⟩
            have := HQ.out i hi
            have := hm1.out
            omega
          obtain ⟨m, hm, hg⟩ := hg
          rw [hm]
          have HGV := Lib.hid hg
          clear hg hm hbw or1 or2 HO HU HA hlt tb1 tb2 HGJ hne
          go_wp2
          go_loopg [14] m (fun gh t wr => ∃ p s, t = .int .i64 gh ∧ RGive w b1 b2 j R gh p s wr)
          case atStart => exact ⟨q, r, rfl, HGV.out⟩
          case round =>
            obtain ⟨p, s, rfl, hd⟩ := hrel
            clear HGV
            rcases gk with _ | m
            · obtain ⟨d1, d2, d3, d4, d5⟩ := hd
              have d4' : p = R := by rw [← d4]; rfl
              subst d4'
              clear d4
              go_wp2
              go_ret2
              exact ⟨_, _, rfl, ob1, d2, oc1, d1⟩
            · obtain ⟨wo, rfl⟩ : ∃ wo, wo = wr := ⟨_, rfl⟩
              have HD := Lib.hid hd
              clear hd
              go_wp2
              go_loopg [17, 113] j (fun gh t i wr2 => ∃ e : Nat, e ≤ j ∧ gh = j - e ∧ i = .int .i64 e ∧ t = .int .i64 (bst s e : Nat) ∧ Below wo.heap.size wo wr2)
              case atStart => exact ⟨0, Nat.zero_le _, rfl, rfl, rfl, Below.refl _ _⟩
              case round =>
                obtain ⟨e, he, hge, rfl, rfl, hbr⟩ := hrel
                have HGE := Lib.hid hge
                clear hge
                have hbl : bst s e < j := by
                  have := bst_le s e
                  by_cases l : e < j
                  · omega
                  · obtain rfl : e = j := by omega
                    exact bst_lt s e hp
                by_cases hej : e < j
                · obtain ⟨c1', _⟩ := (HD.out.2.2.1.below hbr).2 e hej
                  obtain ⟨c2', _⟩ := (HD.out.2.2.1.below hbr).2 _ hbl
                  obtain ⟨i, hi'⟩ : ∃ i, bst s e = i := ⟨_, rfl⟩
                  rw [hi'] at c2' hbl ⊢
                  have HI := Lib.hid hi'
                  have HBR := Lib.hid hbr
                  clear hi' hbr
                  by_cases hx : s i < s e
                  · go_wp2
                    go_big_quiet (fail)
                    go_wp2
                    go_roundg (j - (e + 1))
                    case measure => have := HGE.out; omega
                    case rel => exact ⟨e + 1, by omega, rfl, by go_num, by rw [bst, HI.out, if_pos hx], below_drawn HBR.out _⟩
                  · go_wp2
                    go_big_quiet (fail)
                    go_wp2
                    go_roundg (j - (e + 1))
                    case measure => have := HGE.out; omega
                    case rel => exact ⟨e + 1, by omega, rfl, by go_num, by rw [bst, HI.out, if_neg (by omega)], below_drawn HBR.out _⟩
                · obtain rfl : e = j := by omega
                  have HD2 := Lib.hid (HD.out.below hbr)
                  obtain ⟨i, hi'⟩ : ∃ i, bst s e = i := ⟨_, rfl⟩
                  rw [hi'] at hbl ⊢
                  obtain ⟨c1', f1'⟩ := HD2.out.2.1.2 i hbl
                  obtain ⟨c2', f2'⟩ := HD2.out.2.2.1.2 i hbl
                  obtain ⟨b1', b2'⟩ := HD2.out.2.2.2.2 i hbl
                  have HI := Lib.hid hi'
                  have hne := HNE.out
                  clear hi' hbr hej HD
                  go_wp2
                  go_roundg m
                  case measure => omega
                  case rel => exact ⟨_, _, by go_num, HD2.out.next ob1 ob2 HNE.out hbl HI.out⟩

set_option maxHeartbeats 4000000 in
set_option maxRecDepth 100000 in
theorem rsplit_neg (n : Int) (b off len c : Nat) (g : Nat → Int) (w : World) (hb : b < w.heap.size) (HC : Hid (∀ j, j < len → w.cell? ⟨b, off + j, none⟩ = some (.int .i64 (g j)))) (H : Hid (SplitOk n len g)) (hn : n < 0) :
    Calls Try.prog 15 #[.int .i64 n, .slice (some ⟨b, off, none⟩) len c] w fun e w' => ∃ B C, e = .returned (.tuple #[.slice (some ⟨B, 0, none⟩) len C, .bool true]) ∧ w.heap.size ≤ B ∧ Row w' B len (splitV n len g) ∧ len ≤ C ∧ Below w.heap.size w w' := by
  obtain ⟨⟨n1, n2⟩, h16, h3, h4⟩ := H.out
  have hp : 0 < len := by rcases Nat.eq_zero_or_pos len with e | e; · subst e; simp [tot] at h4
                          · exact e
  have HMon : Hid (Mon n) := Lib.hid ⟨n1, n2⟩
  have HW : Hid (∀ j, j < len → Wgt (g j)) := Lib.hid h3
  have HS : Hid (SplitOk (-n) len g) := Lib.hid ⟨⟨by omega, by omega⟩, h16, h3, h4⟩
  have HV : Hid (∀ j, splitV n len g j = -splitV (-n) len g j) := Lib.hid fun j => by
    rw [splitV, splitV, if_pos hn, if_neg (show ¬ -n < 0 by omega)]
  have HVB : Hid (∀ j, j < len → Mon (splitV (-n) len g j)) := Lib.hid fun j hj => splitV_bd h4 ⟨by omega, by omega⟩ h3 hj
  obtain ⟨T, hT⟩ : ∃ T, tot g len = T := ⟨_, rfl⟩
  rw [hT] at h4
  have HT := Lib.hid hT
  have hz' : (T == 0) = false := by simp; omega
  clear hT h3 H
  go_enter Try.func15, Try.ntmps15
  go_wp2
  go_loop [6, 21] (fun t i => ∃ k : Nat, k ≤ len ∧ i = .int .i64 k ∧ t = .int .i64 (tot g k)) (fun _ i => len - (intOf i).toNat)
  case atStart => exact ⟨0, Nat.zero_le _, rfl, rfl⟩
  case round =>
    obtain ⟨k, hk, rfl, rfl⟩ := hrel
    obtain ⟨tb1, tb2⟩ := wgt_tot k fun j hj => HW.out j (by omega)
    by_cases hlt : k < len
    · have ck := HC.out k hlt
      obtain ⟨m1, m2⟩ := HW.out k hlt
      go_wp2
      go_round
      case rel => exact ⟨k + 1, by omega, by go_num, rfl⟩
      case measure => simp [intOf]; omega
    · obtain rfl : k = len := by omega
      clear hlt tb1 tb2
      rw [HT.out]
      have e1 : decide ((k : Int) < 1) = false := decide_eq_false (by omega)
      have e2 : decide ((16 : Int) < k) = false := decide_eq_false (by omega)
      go_wp2_with (first | (go_at_call 20; (with_reducible refine (rmoney_yes _ _ HMon.out).mono ?_); rintro e w' ⟨rfl, rfl⟩) | (go_at_call 15; (with_reducible refine (rsplit_pos (-n) b off k c g w hb HC HS (by omega)).mono ?_); rintro e w2 ⟨B, C, rfl, hB, hr, hC, hb2⟩; have HR := Lib.hid hr; clear hr))
      go_loopg [63] k (fun gh i wr => ∃ j : Nat, j ≤ k ∧ gh = k - j ∧ i = .int .i64 j ∧ Below w.heap.size w wr ∧ Row wr B k (fun i => if i < j then -splitV (-n) k g i else splitV (-n) k g i))
      case atStart => exact ⟨0, Nat.zero_le _, rfl, rfl, hb2, HR.out.ext fun j _ => by simp⟩
      case round =>
        obtain ⟨j, hj, hgj, rfl, hbw, hrow⟩ := hrel
        have HGJ := Lib.hid hgj
        clear hgj hb2 HR
        by_cases hlt : j < k
        · obtain ⟨c1, f1⟩ := hrow.2 j hlt
          simp only [if_neg (show ¬ j < j by omega)] at c1
          obtain ⟨v1, v2⟩ := HVB.out j hlt
          obtain ⟨x, hx⟩ : ∃ x, splitV (-n) k g j = x := ⟨_, rfl⟩
          rw [hx] at c1 v1 v2
          have HX := Lib.hid hx
          have HRW := Lib.hid hrow
          clear hx hrow
          go_wp2
          go_roundg (k - (j + 1))
          case measure => have := HGJ.out; omega
          case rel =>
            refine ⟨j + 1, by omega, rfl, by go_num, hbw.setCell hB _, (HRW.out.set hlt (-x)).ext fun i _ => ?_⟩
            by_cases e : i = j
            · subst e; simp [HX.out]
            · by_cases l : i < j
              · rw [if_neg e, if_pos l, if_pos (by omega)]
              · rw [if_neg e, if_neg l, if_neg (by omega)]
        · obtain rfl : j = k := by omega
          have HRW := Lib.hid hrow
          clear hlt hrow
          go_wp2
          go_ret2
          exact ⟨_, _, rfl, hB, HRW.out.ext fun i hi => by rw [if_pos hi, HV.out], hC, hbw⟩

set_option maxHeartbeats 1000000 in
theorem rsplit_no (n : Int) (A : Option Addr) (len c : Nat) (g : Nat → Int) (w : World) (hA : At w A len g) (hl : len ≤ 1000000) (H : Hid (¬ SplitOk n len g)) :
    Calls Try.prog 15 #[.int .i64 n, .slice A len c] w fun e w' => e = .returned (.tuple #[.slice none 0 0, .bool false]) ∧ w = w' := by
  rcases Nat.eq_zero_or_pos len with h0 | hp
  · subst h0
    clear hA H
    by_cases hm : Mon n
    · have HM := Lib.hid hm
      clear hm
      go_enter Try.func15, Try.ntmps15
      go_wp2
      refine wp_loop_rounds 1 ?_; rw [rounds_succ]
      go_wp2_with (go_at_call 20; (with_reducible refine (rmoney_yes _ _ HM.out).mono ?_); rintro e w' ⟨rfl, rfl⟩)
      go_ret2
      exact ⟨rfl, rfl⟩
    · have HM := Lib.hid hm
      clear hm
      go_enter Try.func15, Try.ntmps15
      go_wp2
      refine wp_loop_rounds 1 ?_; rw [rounds_succ]
      go_wp2_with (go_at_call 20; (with_reducible refine (rmoney_no _ _ HM.out).mono ?_); rintro e w' ⟨rfl, rfl⟩)
      go_ret2
      exact ⟨rfl, rfl⟩
  · obtain ⟨b, off, rfl, hb, hc⟩ := hA.some hp
    have HC := Lib.hid hc
    clear hc
    go_enter Try.func15, Try.ntmps15
    go_wp2
    go_loop [6, 21] (fun t i => ∃ k : Nat, k ≤ len ∧ i = .int .i64 k ∧ t = .int .i64 (tot g k) ∧ Hid (∀ j, j < k → Wgt (g j))) (fun _ i => len - (intOf i).toNat)
    case atStart => exact ⟨0, Nat.zero_le _, rfl, rfl, Lib.hid fun j hj => by omega⟩
    case round =>
      obtain ⟨k, hk, rfl, rfl, HM⟩ := hrel
      obtain ⟨tb1, tb2⟩ := wgt_tot k HM.out
      by_cases hlt : k < len
      · have ck := HC.out k hlt
        obtain ⟨x, hx⟩ : ∃ x, g k = x := ⟨_, rfl⟩
        rw [hx] at ck
        have HX := Lib.hid hx; clear hx
        by_cases hm : Wgt x
        · obtain ⟨m1, m2⟩ := hm
          have HM' : Hid (∀ j, j < k + 1 → Wgt (g j)) := Lib.hid fun j hj => by
            rcases Nat.lt_or_ge j k with h | h
            · exact HM.out j h
            · rw [show j = k by omega, HX.out]; exact ⟨m1, m2⟩
          go_wp2
          go_round
          case rel => exact ⟨k + 1, by omega, by go_num, by rw [tot, HX.out], HM'⟩
          case measure => simp [intOf]; omega
        · by_cases m1 : x < 0
          · clear hm
            go_wp2
            go_ret2
            exact ⟨rfl, rfl⟩
          · have m2 : 1000000 < x := by unfold Wgt at hm; omega
            clear hm
            go_wp2
            go_ret2
            exact ⟨rfl, rfl⟩
      · obtain rfl : k = len := by omega
        clear hlt
        by_cases hm : Mon n
        · have HMN := Lib.hid hm
          clear hm
          by_cases h16 : k ≤ 16
          · have hz : tot g k = 0 := by
              have : ¬ 0 < tot g k := fun h => H.out ⟨HMN.out, h16, HM.out, h⟩
              omega
            rw [hz]
            have e1 : decide ((k : Int) < 1) = false := decide_eq_false (by omega)
            have e2 : decide ((16 : Int) < k) = false := decide_eq_false (by omega)
            clear hz
            go_wp2_with (go_at_call 20; (with_reducible refine (rmoney_yes _ _ HMN.out).mono ?_); rintro e w' ⟨rfl, rfl⟩)
            go_ret2
            exact ⟨rfl, rfl⟩
          · have e1 : decide ((k : Int) < 1) = false := decide_eq_false (by omega)
            have e2 : decide ((16 : Int) < k) = true := decide_eq_true (by omega)
            go_wp2_with (go_at_call 20; (with_reducible refine (rmoney_yes _ _ HMN.out).mono ?_); rintro e w' ⟨rfl, rfl⟩)
            go_ret2
            exact ⟨rfl, rfl⟩
        · have HMN := Lib.hid hm
          clear hm
          go_wp2_with (go_at_call 20; (with_reducible refine (rmoney_no _ _ HMN.out).mono ?_); rintro e w' ⟨rfl, rfl⟩)
          go_ret2
          exact ⟨rfl, rfl⟩
end Go.Proofs.Ytgikhbfbjkdadaa
