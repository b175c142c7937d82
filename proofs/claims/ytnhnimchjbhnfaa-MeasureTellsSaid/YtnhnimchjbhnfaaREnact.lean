/- The document's own table of rates: Add, Rate: a contract for each. -/
import Derived.Test.YtnhnimchjbhnfaaEnact3
import Derived.Test.YtnhnimchjbhnfaaRefP
import Derived.Test.YtnhnimchjbhnfaaRef9
import Derived.WalkKit
import Derived.WalkSpells
import Derived.WalkLawsBesides
import Derived.Lib.Hide
import Derived.IntWalk
import Derived.Deep.LoopGhost
import Derived.Deep.QuietTactic
import Derived.BigQuiet
import Derived.Deep.RegionLaw
namespace Go.Proofs.Ytnhnimchjbhnfaa
open Go.RowKit

theorem rrow_info : (Try.prog.info? 68).map (fun i => (i.zero, i.size, i.bytes)) = some (some (.agg #[.string ⟨#[]⟩, .int .i64 0, .int .i64 0, .int .i64 0]), 4, 40) := by kernel_rfl
theorem rrow_type : Try.prog.underlying 55 = some (.slice 68) := Try.underlying55
section
variable {w w1 : World} {O O1 : Nat → Nat} {base t t' sb n : Nat} {v : Value} {R : Nat → Rt} {E : TypeId}
theorem radd_arg (sb : Nat) (x : Rt) (w : World) (h : ¬ ROk x.j x.y x.r x.p) : Calls Try.prog 26 #[ptr sb, .string x.j, .int .i64 x.y, .int .i64 x.r, .int .i64 x.p] w fun e' w' => e' = .returned (.int .i64 1) ∧ w = w' := by
  obtain ⟨j, y, r, p⟩ := x
  simp only [] at *
  by_cases h1 : j = ⟨#[]⟩
  · subst h1
    go_enter Try.func26, Try.ntmps26
    go_wp2
    go_ret
    exact ⟨rfl, rfl⟩
  obtain ⟨q1, q1'⟩ := ent_some h1
  by_cases h2 : 0 ≤ y ∧ y ≤ 99
  · have R1 := Lib.hid fun w => ryr_yes y w h2.1 h2.2
    by_cases h4 : 0 ≤ r ∧ r ≤ 1000000
    · have R2 := Lib.hid fun w => rrt_yes r w h4.1 h4.2
      have h5 : p < 0 ∨ 399 < p := by
        by_cases q : 0 ≤ p ∧ p ≤ 399
        · exact absurd ⟨h1, h2.1, h2.2, h4.1, h4.2, q.1, q.2⟩ h
        · omega
      have R3 := Lib.hid fun w => rperiod_no p w h5
      clear h h1 h2 h4 h5
      go_enter Try.func26, Try.ntmps26
      go_wp2_with (first | (go_at_call 42; (with_reducible refine (R1.out _).mono ?_); rintro e w' ⟨rfl, rfl⟩) | (go_at_call 40; (with_reducible refine (R2.out _).mono ?_); rintro e w' ⟨rfl, rfl⟩) | (go_at_call 37; (with_reducible refine (R3.out _).mono ?_); rintro e w' ⟨rfl, rfl⟩))
      go_ret
      exact ⟨rfl, rfl⟩
    · have R2 := Lib.hid fun w => rrt_no r w (by omega)
      clear h h1 h2 h4
      go_enter Try.func26, Try.ntmps26
      go_wp2_with (first | (go_at_call 42; (with_reducible refine (R1.out _).mono ?_); rintro e w' ⟨rfl, rfl⟩) | (go_at_call 40; (with_reducible refine (R2.out _).mono ?_); rintro e w' ⟨rfl, rfl⟩))
      go_ret
      exact ⟨rfl, rfl⟩
  · have R1 := Lib.hid fun w => ryr_no y w (by omega)
    clear h h1 h2
    go_enter Try.func26, Try.ntmps26
    go_wp2_with (go_at_call 42; (with_reducible refine (R1.out _).mono ?_); rintro e w' ⟨rfl, rfl⟩)
    go_ret
    exact ⟨rfl, rfl⟩
set_option maxHeartbeats 4000000 in
set_option maxRecDepth 100000 in
theorem radd_right (s : TabV 68 w O base t sb v n R) (fn : Fin0 base O w) (hbase : base ≤ w.heap.size) (x : Rt) (e : Int) (he : TErr R n x.j x.y x.r x.p e) (hok : ROk x.j x.y x.r x.p) :
    Calls Try.prog 26 #[ptr sb, .string x.j, .int .i64 x.y, .int .i64 x.r, .int .i64 x.p] w fun e' w' => e' = .returned (.int .i64 e) ∧ ((e ≠ 0 ∧ Below w.heap.size w w') ∨ (e = 0 ∧ ∃ v' O', TabV 68 w' O' base t sb v' (n + 1) (pushT R n x) ∧ Step base O t w O' w')) := by
  obtain ⟨i0, hi, hz0, hz1, hz2⟩ := info_parts rrow_info
  obtain ⟨h1, h2, h3, h4, h5, h6, h7⟩ := hok
  obtain ⟨q1, q1'⟩ := ent_some h1
  have OK := Lib.hid (show ROk x.j x.y x.r x.p from ⟨h1, h2, h3, h4, h5, h6, h7⟩)
  have R1 := Lib.hid fun w => ryr_yes x.y w h2 h3
  have R2 := Lib.hid fun w => rrt_yes x.r w h4 h5
  have R3 := Lib.hid fun w => rperiod_yes x.p w h6 h7
  have HS := Lib.hid s
  have HF := Lib.hid fn
  have HE := Lib.hid he
  have hn := s.inv.le
  have c0 := s.hd.c0
  have lt0 := s.hd.lt
  obtain ⟨A, c, rfl, hc, hm, _, ha⟩ := s.at
  have HA := Lib.hid ha
  clear s ha h1 h2 h3 h4 h5 h6 h7 fn he
  go_enter Try.func26, Try.ntmps26
  go_wp2_with (first | (go_at_call 42; (with_reducible refine (R1.out _).mono ?_); rintro e w' ⟨rfl, rfl⟩) | (go_at_call 40; (with_reducible refine (R2.out _).mono ?_); rintro e w' ⟨rfl, rfl⟩) | (go_at_call 37; (with_reducible refine (R3.out _).mono ?_); rintro e w' ⟨rfl, rfl⟩))
  go_loopg [35] n (fun gh i wr => ∃ k : Nat, k ≤ n ∧ gh = n - k ∧ i = .int .i64 k ∧ (∀ j, j < k → ¬ ((R j).j = x.j ∧ (R j).y = x.y ∧ (R j).p = x.p)) ∧ Below w.heap.size w wr)
  case atStart => exact ⟨0, Nat.zero_le _, rfl, rfl, fun j hj => absurd hj (Nat.not_lt_zero _), Below.refl _ _⟩
  case round =>
    obtain ⟨k, hk, hgk, rfl, h0, hbw⟩ := hrel
    have HGK := Lib.hid hgk
    have HB := Lib.hid hbw
    have H0 := Lib.hid h0
    clear hgk hbw h0
    by_cases hlt : k < n
    · obtain ⟨b, off, rfl, hb, c0, c1, c2, c3⟩ := (HA.out.below HB.out).four hlt
      by_cases hcc : (R k).j = x.j ∧ (R k).y = x.y ∧ (R k).p = x.p
      · have e4 : e = 4 := HE.out.uniq (.there OK.out ⟨k, hlt, hcc⟩)
        have p1 := (bytes_is _ _).2 hcc.1
        have p2 : ((R k).y == x.y) = true := by simpa using hcc.2.1
        have p3 : ((R k).p == x.p) = true := by simpa using hcc.2.2
        clear hcc
        subst e4
        go_wp2
        go_ret
        exact ⟨rfl, .inl ⟨by decide, HB.out.alloc HB.out.size _⟩⟩
      · have HN := Lib.hid hcc
        rcases (show ((R k).j.toList == x.j.toList) = false ∨ (((R k).j.toList == x.j.toList) = true ∧ ((R k).y == x.y) = false) ∨ (((R k).j.toList == x.j.toList) = true ∧ ((R k).y == x.y) = true ∧ ((R k).p == x.p) = false) from by
            by_cases q1 : (R k).j = x.j
            · have q1' := (bytes_is _ _).2 q1
              by_cases q2 : (R k).y = x.y
              · by_cases q3 : (R k).p = x.p
                · exact absurd ⟨q1, q2, q3⟩ hcc
                · exact .inr (.inr ⟨q1', by simpa using q2, by simpa using q3⟩)
              · exact .inr (.inl ⟨q1', by simpa using q2⟩)
            · exact .inl (bytes_not q1)) with p1 | ⟨p1, p2⟩ | ⟨p1, p2, p3⟩
        all_goals
          clear hcc
          go_wp2
          go_roundg (n - (k + 1))
          case measure => have := HGK.out; omega
          case rel => exact ⟨k + 1, by omega, rfl, by go_num, fun j hj => by
              by_cases e : j = k
              · rw [e]; exact HN.out
              · exact H0.out j (by omega), HB.out.alloc HB.out.size _⟩
    · obtain rfl : k = n := by omega
      clear hlt
      have HT : Hid (¬ TThere R k x.j x.y x.p) := Lib.hid fun ⟨j, hj, e⟩ => H0.out j hj e
      have d0 := cell_keep c0 HB.out
      by_cases h24 : k = 24
      · have e5 : e = 5 := HE.out.uniq (.limit OK.out HT.out h24)
        subst e5
        go_wp2
        go_ret
        exact ⟨rfl, .inl ⟨by decide, HB.out⟩⟩
      · have h24' : k < 24 := by omega
        have e0 : e = 0 := HE.out.uniq (.ok OK.out HT.out h24')
        subst e0
        have S1 := Lib.hid (HS.out.below HB.out)
        have F1 := Lib.hid (HF.out.below HB.out)
        have B1 := Lib.hid (Step.of_below (t := t) HF.out HB.out)
        have z1 : base ≤ wr.heap.size := by have := HB.out.size; omega
        have lt1 := S1.out.hd.lt
        have g0 := S1.out.hd.frz 0
        go_wp2_with (at_builtin; (refine wpList_push_r rfl (.tmp 66) (.tmp 72) rfl rrow_type hi hz0 hz1 hz2 (by decide) rfl (by decide) re_len re_one wr base k wr.heap.size _ R x rfl rfl (rec_lit wr (re x) 68 _ rfl) (World.ownsRow.alloc S1.out.own _) (by omega) ((Below.refl _ _).alloc z1 _) (by simp; omega) _ rfl ?_; intro b2 c3 w3 ho2 hb2 hg2 hat2; have hd2 : Head w3 O t sb _ := Head.block (O1 := O) (S1.out.hd.below ((Below.refl _ _).alloc (Nat.le_refl _) _)) (hg2.block sb (by simp; omega) (fun e => (S1.out.row.tag sb e.symm).2 rfl)) hg2.size rfl; have d0 := hd2.c0; have e0 := hd2.frz 0; have HD2 := Lib.hid hd2; have HO2 := Lib.hid ho2; have HG2 := Lib.hid hg2; have HAT := Lib.hid hat2; clear hd2 ho2 hb2 hg2 hat2))
        go_ret
        obtain ⟨q1, q2⟩ := TabV.pushed S1.out F1.out HE.out ((Below.refl _ _).alloc (Nat.le_refl _) _) HG2.out HO2.out HAT.out (by simp)
        first | exact ⟨rfl, _, _, q1, B1.out.trans q2⟩ | exact ⟨rfl, .inr ⟨rfl, _, _, q1, B1.out.trans q2⟩⟩
theorem radd_no (s : TabV 68 w O base t sb v n R) (fn : Fin0 base O w) (hbase : base ≤ w.heap.size) (x : Rt) (e : Int) (he : TErr R n x.j x.y x.r x.p e) (h0 : e ≠ 0) :
    Calls Try.prog 26 #[ptr sb, .string x.j, .int .i64 x.y, .int .i64 x.r, .int .i64 x.p] w fun e' w' => e' = .returned (.int .i64 e) ∧ Below w.heap.size w w' := by
  by_cases h : ROk x.j x.y x.r x.p
  · refine (radd_right s fn hbase x e he h).mono ?_
    rintro e' w' ⟨rfl, ⟨_, hb⟩ | ⟨e0, _⟩⟩
    · exact ⟨rfl, hb⟩
    · exact absurd e0 h0
  · obtain rfl : e = 1 := he.uniq (.arg h)
    refine (radd_arg sb x w h).mono ?_
    rintro e' w' ⟨rfl, rfl⟩
    exact ⟨rfl, Below.refl _ _⟩
theorem radd_ok (s : TabV 68 w O base t sb v n R) (fn : Fin0 base O w) (hbase : base ≤ w.heap.size) (x : Rt) (he : TErr R n x.j x.y x.r x.p 0) :
    Calls Try.prog 26 #[ptr sb, .string x.j, .int .i64 x.y, .int .i64 x.r, .int .i64 x.p] w fun e' w' => e' = .returned (.int .i64 0) ∧ ∃ v' O', TabV 68 w' O' base t sb v' (n + 1) (pushT R n x) ∧ Step base O t w O' w' := by
  refine (radd_right s fn hbase x 0 he he.row.1).mono ?_
  rintro e' w' ⟨rfl, ⟨h, _⟩ | ⟨_, h⟩⟩
  · exact absurd rfl h
  · exact ⟨rfl, h⟩
set_option maxHeartbeats 4000000 in
set_option maxRecDepth 100000 in
theorem rrate_any (s : TabV 68 w O base t sb v n R) (j : ByteArray) (y p r : Int) (ok : Bool) (hk : Known R n j y p r ok) :
    Calls Try.prog 38 #[ptr sb, .string j, .int .i64 y, .int .i64 p] w fun e w' => e = .returned (.tuple #[.int .i64 r, .bool ok]) ∧ Below w.heap.size w w' := by
  have c0 := s.hd.c0
  have lt := s.hd.lt
  have hn := s.inv.le
  have HU := Lib.hid s.inv.uniq
  have HK := Lib.hid hk
  obtain ⟨A, c, rfl, hc, hm, _, ha⟩ := s.at
  have HA := Lib.hid ha
  have C0 := Lib.hid c0
  clear s ha hk
  go_enter Try.func38, Try.ntmps38
  go_wp2
  clear c0
  go_loopg [10, 18] n (fun gh bv i wr => ∃ (k : Nat) (bi : Int), k ≤ n ∧ gh = n - k ∧ i = .int .i64 k ∧ bv = .int .i64 bi ∧ BestAt R k j y p bi ∧ Below w.heap.size w wr)
  case atStart => exact ⟨0, -1, Nat.zero_le _, rfl, rfl, rfl, BestAt.zero _ _ _ _, Below.refl _ _⟩
  case round =>
    obtain ⟨k, bi, hk, hgk, rfl, rfl, hbest, hbw⟩ := hrel
    have HGK := Lib.hid hgk
    have HB := Lib.hid hbw
    have HM := Lib.hid hbest
    have d0 := cell_keep C0.out hbw
    have lt1 : sb < wr.heap.size := Nat.lt_of_lt_of_le lt hbw.size
    clear hgk hbest hbw
    by_cases hlt : k < n
    · obtain ⟨b, off, rfl, hb, c0, c1, c2, c3⟩ := (HA.out.below HB.out).four hlt
      have hb1 : b ≠ wr.heap.size := by omega
      have sb1 : sb ≠ wr.heap.size := by omega
      by_cases hcc : Mt (R k) j y p
      rotate_left
      · have hM := Lib.hid hcc
        rcases (show ((R k).j.toList == j.toList) = false ∨ (((R k).j.toList == j.toList) = true ∧ p < (R k).p) ∨ (((R k).j.toList == j.toList) = true ∧ (R k).p ≤ p ∧ y < (R k).y) from by
            by_cases q1 : (R k).j = j
            · have q1' := (bytes_is _ _).2 q1
              by_cases q2 : (R k).p ≤ p
              · by_cases q3 : (R k).y ≤ y
                · exact absurd ⟨q1, q3, q2⟩ hM.out
                · exact .inr (.inr ⟨q1', q2, by omega⟩)
              · exact .inr (.inl ⟨q1', by omega⟩)
            · exact .inl (bytes_not q1)) with q1 | ⟨q1, q2⟩ | ⟨q1, q2, q3⟩
        all_goals
          clear hcc
          go_wp2
          go_roundg (n - (k + 1))
          case measure => have := HGK.out; omega
          case rel => exact ⟨k + 1, bi, by omega, rfl, by go_num, rfl, HM.out.skip hM.out, HB.out.alloc HB.out.size _⟩
      · have hM := Lib.hid hcc
        obtain ⟨q1, q3, q2⟩ := hM.out
        replace q1 := (bytes_is _ _).2 q1
        clear hcc
        by_cases hbi : bi < 0
        · have HBI := Lib.hid hbi
          have g1 : decide (bi < 0) = true := by simpa using hbi
          clear hbi
          go_wp2
          go_big_quiet (fail)
          go_wp2
          go_roundg (n - (k + 1))
          case measure => have := HGK.out; omega
          case rel => exact ⟨k + 1, k, by omega, rfl, by go_num, rfl, HM.out.take hM.out (fun i e => by have := HBI.out; omega), (HB.out.alloc HB.out.size _).trans (drewN_below _ _ _)⟩
        · obtain ⟨i, rfl⟩ : ∃ i : Nat, bi = i := ⟨bi.toNat, by omega⟩
          have hin : i < n := by have := HM.out.bd; omega
          have hir : (i : Int) < (n : Int) := by omega
          have g1 : decide ((i : Int) < 0) = false := by simp
          obtain ⟨b', off', e', _, b0, b1, b2, b3⟩ := (HA.out.below HB.out).four hin
          injection e' with e'; injection e' with e1 e2
          subst e1 e2
          clear hbi
          rcases (show (R i).y < (R k).y ∨ (¬ (R i).y < (R k).y ∧ ¬ (R k).y = (R i).y) ∨ (¬ (R i).y < (R k).y ∧ (R k).y = (R i).y ∧ (R i).p < (R k).p) ∨ (¬ (R i).y < (R k).y ∧ (R k).y = (R i).y ∧ ¬ (R i).p < (R k).p) by omega) with z1 | ⟨z1, z2⟩ | ⟨z1, z2, z3⟩ | ⟨z1, z2, z3⟩
          · have L : Hid (∀ i' : Nat, (i : Int) = i' → Le (R i') (R k)) := by
              refine Lib.hid fun i' e => ?_
              obtain rfl : i = i' := by omega
              unfold Le; omega
            have y1 : decide ((R i).y < (R k).y) = true := by simpa using z1
            clear z1
            go_wp2
            go_big_quiet (fail)
            go_wp2
            go_roundg (n - (k + 1))
            case measure => have := HGK.out; omega
            case rel => exact ⟨k + 1, k, by omega, rfl, by go_num, rfl, HM.out.take hM.out L.out, (HB.out.alloc HB.out.size _).trans (drewN_below _ _ _)⟩
          · have L := Lib.hid (show Le (R k) (R i) by unfold Le; omega)
            have y1 : decide ((R i).y < (R k).y) = false := by simpa using z1
            have y2 : ((R k).y == (R i).y) = false := by simpa using z2
            clear z1 z2
            go_wp2
            go_big_quiet (fail)
            go_wp2
            go_roundg (n - (k + 1))
            case measure => have := HGK.out; omega
            case rel => exact ⟨k + 1, i, by omega, rfl, by go_num, rfl, HM.out.keep L.out, (HB.out.alloc HB.out.size _).trans (drewN_below _ _ _)⟩
          · have L : Hid (∀ i' : Nat, (i : Int) = i' → Le (R i') (R k)) := by
              refine Lib.hid fun i' e => ?_
              obtain rfl : i = i' := by omega
              unfold Le; omega
            have y1 : decide ((R i).y < (R k).y) = false := by simpa using z1
            have y2 : ((R k).y == (R i).y) = true := by simpa using z2
            have y3 : decide ((R i).p < (R k).p) = true := by simpa using z3
            clear z1 z2 z3
            go_wp2
            go_big_quiet (fail)
            go_wp2
            go_roundg (n - (k + 1))
            case measure => have := HGK.out; omega
            case rel => exact ⟨k + 1, k, by omega, rfl, by go_num, rfl, HM.out.take hM.out L.out, (HB.out.alloc HB.out.size _).trans (drewN_below _ _ _)⟩
          · have L := Lib.hid (show Le (R k) (R i) by unfold Le; omega)
            have y1 : decide ((R i).y < (R k).y) = false := by simpa using z1
            have y2 : ((R k).y == (R i).y) = true := by simpa using z2
            have y3 : decide ((R i).p < (R k).p) = false := by simpa using z3
            clear z1 z2 z3
            go_wp2
            go_big_quiet (fail)
            go_wp2
            go_roundg (n - (k + 1))
            case measure => have := HGK.out; omega
            case rel => exact ⟨k + 1, i, by omega, rfl, by go_num, rfl, HM.out.keep L.out, (HB.out.alloc HB.out.size _).trans (drewN_below _ _ _)⟩
    · obtain rfl : k = n := by omega
      clear hlt
      by_cases hbi : bi < 0
      · obtain rfl : bi = -1 := by have := HM.out.bd; omega
        go_wp2
        go_ret2
        refine ⟨?_, HB.out⟩
        obtain ⟨rfl, rfl⟩ := HK.out.uniq HU.out HM.out.none
        rfl
      · obtain ⟨i, rfl⟩ : ∃ i : Nat, bi = i := ⟨bi.toNat, by omega⟩
        have hin : i < k := by have := HM.out.bd; omega
        obtain ⟨b, off, rfl, hb, b0, b1, b2, b3⟩ := (HA.out.below HB.out).four hin
        have hir : (i : Int) < (k : Int) := by omega
        go_wp2
        go_ret2
        refine ⟨?_, HB.out⟩
        obtain ⟨rfl, rfl⟩ := HK.out.uniq HU.out HM.out.some.2
        rfl
end
end Go.Proofs.Ytnhnimchjbhnfaa
