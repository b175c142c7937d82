/- CurrentLaws: its walk. -/
import Derived.Test.YtmeljcogoeghaaaLaw15a
import Derived.WalkKit
import Derived.WalkSpells
import Derived.WalkLawsBesides
import Derived.Lib.Hide
import Derived.IntWalk
import Derived.Deep.LoopGhost
import Derived.Deep.RegionHeld3
import Derived.Deep.DeepCutAuto
import Derived.Deep.CutBlock
namespace Go.Proofs.Ytmeljcogoeghaaa
open Go.RowKit

theorem rof_in {n r : Int} (h1 : 0 ≤ n) (h2 : n ≤ 100000000000) (h3 : 0 ≤ r) (h4 : r ≤ 1000000) : 0 ≤ rof n r ∧ rof n r ≤ n := by
  have a := Int.mul_nonneg h1 h3
  have b := Int.mul_le_mul_of_nonneg_left h4 h1
  rw [rof_pos h1]
  omega
/-- what CurrentLaws asks of a tax -/
theorem laws15 {S S' : Int → Int → Int} {n n' : Nat} {g g' : Nat → Bk} {B P M cap life year r : Int} {x : Tx} (H : TOk S n g ⟨B, P, M, cap, life, year, r⟩ x S') (iv : VInv S n g) (iv' : VInv S' n' g') :
    (x.inc = B + P - M ∧ -100000000000 ≤ x.inc ∧ x.inc ≤ 100000000000) ∧ (0 ≤ btot g n ∧ btot g n ≤ 100000000000) ∧ (0 ≤ btot g' n' ∧ btot g' n' ≤ 100000000000) ∧ btot g n + x.new = btot g' n' + x.used + x.exp ∧ (0 ≤ x.exp ∧ x.exp ≤ 100000000000) ∧ (0 ≤ x.used ∧ x.used ≤ 100000000000) ∧ (0 ≤ x.new ∧ x.new ≤ 100000000000) ∧ (0 ≤ x.txb ∧ x.txb ≤ 100000000000) ∧ (0 ≤ x.tax ∧ x.tax ≤ x.txb) ∧
    (-1000000 ≤ 2 * (x.txb * r - x.tax * 1000000) ∧ 2 * (x.txb * r - x.tax * 1000000) ≤ 1000000) ∧ ((0 < x.inc ∧ x.txb = x.inc - x.used ∧ x.new = 0 ∧ x.used * 1000000 ≤ x.inc * cap) ∨ (¬ 0 < x.inc ∧ x.txb = 0 ∧ x.tax = 0 ∧ x.used = 0 ∧ x.new = -x.inc ∧ x.q = 0)) := by
  obtain ⟨hm, he, hu0, hu1, hn0, hn1, htx, b1, b2, b3, hq⟩ := H.bd iv
  obtain ⟨_, hj⟩ := inc_mon H.inc
  obtain ⟨n2, g2, iv2, hs⟩ := H.left iv
  have ht := iv'.is.total iv2.is
  have l1 := iv.low
  have l2 := iv'.low
  have l3 := iv.all
  have l4 := iv'.all
  have hr := H.arg.2.1
  have ha := H.tax
  dsimp only at *
  unfold Mon at hm
  have k1 := rof_in (n := x.txb) (r := r) (by omega) (by omega) hr.1 hr.2
  have k2 := rof_near (n := x.txb) (r := r) hr.1
  rw [← ha] at k1 k2
  refine ⟨⟨hj, by omega, by omega⟩, by omega, by omega, by omega, by omega, by omega, by omega, by omega, by omega, by omega, ?_⟩
  by_cases q : 0 < x.inc
  · exact .inl ⟨q, by omega, b3 q, b1 q⟩
  · obtain ⟨m, h, tl, nx⟩ := H.next
    have hz : x.txb = 0 := by omega
    refine .inr ⟨q, hz, by omega, by omega, by omega, ?_⟩
    rcases nx with ⟨q', _⟩ | ⟨_, q', _⟩ | ⟨_, q', _⟩
    · omega
    · exact q'
    · exact q'
theorem laws15_no {S : Int → Int → Int} {n : Nat} {g : Nat → Bk} {B P M cap life year r er : Int} (H : TNo S n g ⟨B, P, M, cap, life, year, r⟩ er) (h1 : -10000 ≤ B ∧ B ≤ 10000) (h2 : -1000 ≤ P ∧ P ≤ 1000) (h3 : -1000 ≤ M ∧ M ≤ 1000) (h4 : TArg ⟨B, P, M, cap, life, year, r⟩) : er = 5 ∨ er = 6 := by
  cases H with
  | arg q => exact absurd h4 q
  | over _ q =>
    rcases q with ⟨_, _, _, _, q, _⟩ | ⟨q, _⟩
    · cases q
    · exact absurd (by dsimp only; unfold Mon; omega) q
  | add _ hi hn tl ha h0 =>
    obtain ⟨hm, _⟩ := inc_mon hi
    obtain ⟨_, _, a3, a4⟩ := h4
    dsimp only at *
    unfold Mon at hm
    cases ha with
    | arg q => exact absurd (by unfold VOk; omega) q
    | over => exact .inr rfl
    | limit => exact .inl rfl
    | ok => exact absurd rfl h0
set_option maxHeartbeats 16000000 in
set_option maxRecDepth 100000 in
theorem currentLaws_walk (a0 : Option Addr) (len0 cap0 : Nat) (z0 : List Int) (a1 a2 a3 a4 a5 a6 a7 : Int) (w : World) (w0 : IsRow .i64 w a0 len0 cap0 z0) (_k1 : (Lit.int .i64 a1).wf = true) (_k2 : (Lit.int .i64 a2).wf = true) (_k3 : (Lit.int .i64 a3).wf = true) (_k4 : (Lit.int .i64 a4).wf = true) (_k5 : (Lit.int .i64 a5).wf = true) (_k6 : (Lit.int .i64 a6).wf = true) (_k7 : (Lit.int .i64 a7).wf = true) :
    Calls Try.prog 6 #[.slice a0 len0 cap0, .int .i64 a1, .int .i64 a2, .int .i64 a3, .int .i64 a4, .int .i64 a5, .int .i64 a6, .int .i64 a7] w fun e w' => e = .returned (.bool true) ∧ Below w.heap.size w w' := by
  have W := Lib.hid fun w => wakes15_any w
  have CL := Lib.hid (plosses_some a0 len0 cap0 z0 w w0)
  obtain ⟨B, hB⟩ : ∃ B, a1 % 20001 - 10000 = B := ⟨_, rfl⟩
  obtain ⟨P, hP⟩ : ∃ P, a2 % 2001 - 1000 = P := ⟨_, rfl⟩
  obtain ⟨M, hM⟩ : ∃ M, a3 % 2001 - 1000 = M := ⟨_, rfl⟩
  obtain ⟨cap, hc⟩ : ∃ cap, a4 % 1000001 = cap := ⟨_, rfl⟩
  obtain ⟨r, hr⟩ : ∃ r, a7 % 1000001 = r := ⟨_, rfl⟩
  obtain ⟨life, hl⟩ : ∃ life, a5 % 5 = life := ⟨_, rfl⟩
  obtain ⟨year, hy⟩ : ∃ year, a6 % 9 = year := ⟨_, rfl⟩
  have E1 := Lib.hid (show a1 % 20001 = B + 10000 by omega)
  have E2 := Lib.hid (show a2 % 2001 = P + 1000 by omega)
  have E3 := Lib.hid (show a3 % 2001 = M + 1000 by omega)
  have E4 := Lib.hid hc
  have E5 := Lib.hid hl
  have E6 := Lib.hid hy
  have E7 := Lib.hid hr
  have bB : -10000 ≤ B ∧ B ≤ 10000 := by omega
  have bP : -1000 ≤ P ∧ P ≤ 1000 := by omega
  have bM : -1000 ≤ M ∧ M ≤ 1000 := by omega
  have bc : 0 ≤ cap ∧ cap ≤ 1000000 := by omega
  have br : 0 ≤ r ∧ r ≤ 1000000 := by omega
  have bl : 0 ≤ life ∧ life ≤ 4 := by omega
  have by' : 0 ≤ year ∧ year ≤ 8 := by omega
  have f1 : B + 10000 - 10000 = B := by omega
  have f2 : P + 1000 - 1000 = P := by omega
  have f3 : M + 1000 - 1000 = M := by omega
  clear w0 _k1 _k2 _k3 _k4 _k5 _k6 _k7 hB hP hM hc hr hl hy
  go_enter Try.func6, Try.ntmps6
  go_wp2_with fail
  refine (CL.out).mono ?_
  rintro e w1 ⟨sbx, S, Ox, rfl, nx⟩
  have L1 := Lib.hid nx.low
  have CO := Lib.hid (pof nx)
  obtain ⟨n, g, iv⟩ := nx.told
  have IV := Lib.hid iv
  clear nx iv CL
  go_wp2_with fail
  refine (CO.out).mono ?_
  rintro e w2 ⟨sbv, Ov, rfl, nv, hb2⟩
  have NV := Lib.hid nv
  have L2 := Lib.hid (L1.out.trans (hb2.mono L1.out.size))
  clear nv hb2 CO L1
  go_wp2_with (go_at_call 7; (first | (with_reducible refine (within_at _ _ _ _ (by omega) (by omega) E1).mono ?_) | (with_reducible refine (within_at _ _ _ _ (by omega) (by omega) E2).mono ?_) | (with_reducible refine (within_at _ _ _ _ (by omega) (by omega) E3).mono ?_) | (with_reducible refine (within_at _ _ _ _ (by omega) (by omega) E4).mono ?_) | (with_reducible refine (within_at _ _ _ _ (by omega) (by omega) E5).mono ?_) | (with_reducible refine (within_at _ _ _ _ (by omega) (by omega) E6).mono ?_) | (with_reducible refine (within_at _ _ _ _ (by omega) (by omega) E7).mono ?_)); rintro e w' ⟨rfl, rfl⟩)
  clear f1 f2 f3
  rcases tax_any IV.out ⟨B, P, M, cap, life, year, r⟩ with ⟨er, he0, hno⟩ | ⟨x, S', hok⟩
  · have h56 := laws15_no hno bB bP bM (by unfold TArg; dsimp only; omega)
    have CP := Lib.hid (ptax_no NV.out IV.out ⟨B, P, M, cap, life, year, r⟩ (by dsimp only; omega) hno)
    unfold txa at CP
    dsimp only at CP
    refine (CP.out).mono ?_
    rintro e w5 ⟨rfl, hb5⟩
    have K5 := Lib.hid (L2.out.trans (hb5.mono L2.out.size))
    clear hb5 CP hno he0
    rcases h56 with rfl | rfl
    all_goals
      go_wp2_with (go_at_call 12; (with_reducible refine (W.out _).mono ?_); rintro e w6 ⟨rfl, hb6⟩; have K6 := Lib.hid ((K5.out.alloc K5.out.size _).trans (hb6.mono (K5.out.alloc K5.out.size _).size)); clear hb6)
      go_ret
      exact ⟨rfl, K6.out⟩
  · have CP := Lib.hid (ptax_ok NV.out IV.out ⟨B, P, M, cap, life, year, r⟩ (by dsimp only; omega) x hok)
    obtain ⟨n', g', iv', _⟩ := hok.left IV.out
    have FA := Lib.hid (laws15 hok IV.out iv')
    have IV' := Lib.hid iv'
    clear hok iv'
    obtain ⟨inc, ex, used, nw, txb, tax, q, u⟩ := x
    unfold txa at CP
    dsimp only at CP FA
    refine (CP.out).mono ?_
    rintro e w5 ⟨sbb, Ob, U, cu, rfl, nb, _, _, hb5⟩
    have NB := Lib.hid nb
    have K5 := Lib.hid hb5
    obtain ⟨w6, hw6⟩ : ∃ w6, w5.alloc (.cells (txl inc ex used nw txb tax (.slice U q cu)).toArray 25) = w6 := ⟨_, rfl⟩
    have R5 := rec_lit w5 (txl inc ex used nw txb tax (.slice U q cu)) 25 w5.heap.size rfl
    have hb6 := (Below.refl w5.heap.size w5).alloc (Nat.le_refl _) (.cells (txl inc ex used nw txb tax (.slice U q cu)).toArray 25)
    rw [hw6] at R5 hb6
    have NB6 := Lib.hid (NB.out.below hb6)
    have NV6 := Lib.hid (NV.out.below (hb5.trans (hb6.mono hb5.size)))
    have L6 := Lib.hid (L2.out.trans ((hb5.trans (hb6.mono hb5.size)).mono L2.out.size))
    have z0 := R5 0 _ rfl
    have z1 := R5 1 _ rfl
    have z2 := R5 2 _ rfl
    have z3 := R5 3 _ rfl
    have z4 := R5 4 _ rfl
    have z5 := R5 5 _ rfl
    have z6 := R5 6 _ rfl
    have W6 := Lib.hid (show w5.alloc (.cells #[.int .i64 inc, .int .i64 ex, .int .i64 used, .int .i64 nw, .int .i64 txb, .int .i64 tax, .slice U q cu] 25) = w6 from hw6)
    obtain ⟨⟨hi, i1, i2⟩, ⟨t1, t2⟩, ⟨t3, t4⟩, hsum, ⟨e1, e2⟩, ⟨u1, u2⟩, ⟨n1, n2⟩, ⟨x1, x2⟩, ⟨y1, y2⟩, ⟨o1, o2⟩, hcase⟩ := FA.out
    obtain ⟨T, hT⟩ : ∃ T, btot g n = T := ⟨_, rfl⟩
    obtain ⟨T', hT'⟩ : ∃ T', btot g' n' = T' := ⟨_, rfl⟩
    have PL := Lib.hid fun w7 (k : Below w6.drew.heap.size w6.drew w7) => pvleft ((NV6.out.below (below_drew w6)).below k) IV.out.is
    have BL := Lib.hid fun w7 (k : Below w6.drew.heap.size w6.drew w7) => pvleft ((NB6.out.below (below_drew w6)).below k) IV'.out.is
    rw [hT] at PL t1 t2 hsum
    rw [hT'] at BL t3 t4 hsum
    have ZK := Lib.hid fun w7 (k : Below w6.drew.heap.size w6.drew w7) => And.intro (cell_keep (w := w6.drew) z0 k) (And.intro (cell_keep (w := w6.drew) z1 k) (And.intro (cell_keep (w := w6.drew) z2 k) (And.intro (cell_keep (w := w6.drew) z3 k) (And.intro (cell_keep (w := w6.drew) z4 k) (And.intro (cell_keep (w := w6.drew) z5 k) (cell_keep (w := w6.drew) z6 k))))))
    have s1 : IntKind.i64.wrap (B + P) = B + P := IntWalk.i64_in _ (by omega)
    have s2 : IntKind.i64.wrap (B + P - M) = inc := by rw [IntWalk.i64_in _ (by omega)]; omega
    have s3 : IntKind.i64.wrap (T + nw) = T + nw := IntWalk.i64_in _ (by omega)
    have s4 : IntKind.i64.wrap (T' + used) = T' + used := IntWalk.i64_in _ (by omega)
    have s5 : IntKind.i64.wrap (T' + used + ex) = T + nw := by rw [IntWalk.i64_in _ (by omega)]; omega
    have g1 : decide (txb < 0) = false := by simp; omega
    have g2 : decide (tax < 0) = false := by simp; omega
    have g3 : decide (txb < tax) = false := by simp; omega
    have g4 : decide (used < 0) = false := by simp; omega
    have g5 : decide (nw < 0) = false := by simp; omega
    have g6 : decide (ex < 0) = false := by simp; omega
    have OB := Lib.hid (And.intro o1 o2)
    have HC := Lib.hid hcase
    have XB := Lib.hid (show (0 ≤ txb ∧ txb ≤ 100000000000) ∧ (0 ≤ tax ∧ tax ≤ 100000000000) ∧ (0 ≤ used ∧ used ≤ 100000000000) ∧ (-100000000000 ≤ inc ∧ inc ≤ 100000000000) by omega)
    have B6 := Lib.hid (below_drew w6)
    clear nb hb5 hb6 R5 CP hw6 FA hi i1 i2 t1 t2 t3 t4 hsum e1 e2 u1 u2 n1 n2 x1 x2 y1 y2 o1 o2 hcase hT hT'
    go_wp2_with fail
    rw [W6.out]
    clear W6
    go_region_held3 (fun w' => w'.cell? ⟨w5.heap.size, 0, none⟩ = some (.int .i64 inc) ∧ w'.cell? ⟨w5.heap.size, 1, none⟩ = some (.int .i64 ex) ∧ w'.cell? ⟨w5.heap.size, 2, none⟩ = some (.int .i64 used) ∧ w'.cell? ⟨w5.heap.size, 3, none⟩ = some (.int .i64 nw) ∧ w'.cell? ⟨w5.heap.size, 4, none⟩ = some (.int .i64 txb) ∧ w'.cell? ⟨w5.heap.size, 5, none⟩ = some (.int .i64 tax)) (first | go_keep) (first | (go_at_call 10; (with_reducible refine (PL.out _ (Below.refl _ _)).mono ?_); rintro e w7 ⟨rfl, hb7⟩; obtain ⟨d0, d1, d2, d3, d4, d5, d6⟩ := ZK.out _ hb7; have B7 := Lib.hid hb7; clear hb7) | (go_at_call 10; (with_reducible refine (BL.out _ B7.out).mono ?_); rintro e w8 ⟨rfl, hb8⟩; have B8 := Lib.hid (B7.out.trans (hb8.mono B7.out.size)); obtain ⟨d0', d1', d2', d3', d4', d5', d6'⟩ := ZK.out _ B8.out; clear hb8))
    have L8 := Lib.hid (L6.out.trans ((B6.out.trans (B8.out.mono B6.out.size)).mono L6.out.size))
    obtain ⟨⟨p1, p2⟩, ⟨p3, p4⟩, ⟨p5, p6⟩, p7, p8⟩ := XB.out
    obtain ⟨q1, q2⟩ := OB.out
    clear g1 g2 g3 g4 g5 g6 s1 s2 s3 s4 s5 z0 z1 z2 z3 z4 z5 z6 d0 d1 d2 d3 d4 d5 d6 PL BL ZK XB OB
    rcases HC.out with ⟨h1, h2, h3, h4⟩ | ⟨h1, h2, h3, h4, h5, h6⟩
    · obtain ⟨r1, r2⟩ := mul_bd (n := inc) (r := cap) (A := 100000000000) (by omega) p8 bc.1 bc.2
      obtain ⟨r3, r4⟩ := mul_bd (n := txb) (r := r) (A := 100000000000) (by omega) p2 br.1 br.2
      obtain ⟨Q, hQ⟩ : ∃ Q, inc * cap = Q := ⟨_, rfl⟩
      obtain ⟨R, hR⟩ : ∃ R, txb * r = R := ⟨_, rfl⟩
      rw [hQ] at r1 r2 h4
      rw [hR] at r3 r4 q1 q2
      have e1 : inc - used = txb := by omega
      subst h3
      clear h2 HC
      go_wp2_with (first | (go_at_call 12; (with_reducible refine (W.out _).mono ?_); rintro e w9 ⟨rfl, hb9⟩; have K9 := Lib.hid (L8.out.trans (hb9.mono L8.out.size)); clear hb9))
      go_ret
      exact ⟨rfl, K9.out⟩
    · subst h2 h3 h4 h5 h6
      clear HC q1 q2
      go_wp2_with (first | (go_at_call 12; (with_reducible refine (W.out _).mono ?_); rintro e w9 ⟨rfl, hb9⟩; have K9 := Lib.hid (L8.out.trans (hb9.mono L8.out.size)); clear hb9))
      go_ret
      exact ⟨rfl, K9.out⟩
end Go.Proofs.Ytmeljcogoeghaaa
