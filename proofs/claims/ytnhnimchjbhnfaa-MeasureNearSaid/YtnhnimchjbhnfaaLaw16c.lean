/- MeasureNear: its walk. -/
import Derived.Test.YtnhnimchjbhnfaaLaw16a
import Derived.BigQuiet
import Derived.Deep.QuietTactic
namespace Go.Proofs.Ytnhnimchjbhnfaa
open Go.RowKit

/-- without rounding -/
def exU (g : Nat → Bk) (r : Nat → Int) : Nat → Int := fun i => (g i).a * r i
theorem near_off (g : Nat → Bk) (r : Nat → Int) : ∀ k : Nat, (∀ i, i < k → RtOk (r i)) → -500000 * (k : Int) ≤ tot (exU g r) k - tot (partU g r) k * 1000000 ∧ tot (exU g r) k - tot (partU g r) k * 1000000 ≤ 500000 * (k : Int)
  | 0, _ => by simp [tot]
  | k + 1, h => by
    have a := near_off g r k fun i hi => h i (by omega)
    have b := rof_near (n := (g k).a) (r := r k) (h k (by omega)).1
    have e1 : tot (exU g r) (k + 1) = tot (exU g r) k + (g k).a * r k := rfl
    have e2 : tot (partU g r) (k + 1) = tot (partU g r) k + rof (g k).a (r k) := rfl
    rw [e1, e2]
    omega
/-- small amounts -/
def SmA (x : Int) : Prop := -999998 ≤ x ∧ x ≤ 1000000
theorem ex_bd (g : Nat → Bk) (r : Nat → Int) : ∀ k : Nat, (∀ i, i < k → SmA (g i).a ∧ RtOk (r i)) → -1000000000000 * (k : Int) ≤ tot (exU g r) k ∧ tot (exU g r) k ≤ 1000000000000 * (k : Int)
  | 0, _ => by simp [tot]
  | k + 1, h => by
    have a := ex_bd g r k fun i hi => h i (by omega)
    obtain ⟨⟨h1, h2⟩, h3, h4⟩ := h k (by omega)
    have b := mul_bd (n := (g k).a) (r := r k) (A := 1000000) (by omega) h2 h3 h4
    have e1 : tot (exU g r) (k + 1) = tot (exU g r) k + (g k).a * r k := rfl
    rw [e1]
    omega
theorem smp_bd (g : Nat → Bk) (r : Nat → Int) : ∀ k : Nat, (∀ i, i < k → SmA (g i).a ∧ RtOk (r i)) → -1000000 * (k : Int) ≤ tot (partU g r) k ∧ tot (partU g r) k ≤ 1000000 * (k : Int)
  | 0, _ => by simp [tot]
  | k + 1, h => by
    have a := smp_bd g r k fun i hi => h i (by omega)
    obtain ⟨⟨h1, h2⟩, h3, h4⟩ := h k (by omega)
    obtain ⟨b1, b2⟩ := mul_bd (n := (g k).a) (r := r k) (A := 1000000) (by omega) h2 h3 h4
    have bs := mul_sign (n := (g k).a) h3
    have e2 : tot (partU g r) (k + 1) = tot (partU g r) k + rof (g k).a (r k) := rfl
    have hr : -1000000 ≤ rof (g k).a (r k) ∧ rof (g k).a (r k) ≤ 1000000 := by unfold rof; split <;> omega
    rw [e2]
    omega
theorem tmodM (a : Int) : -999999 ≤ Int.tmod a 1000000 ∧ Int.tmod a 1000000 ≤ 999999 := by
  by_cases h : 0 ≤ a
  · rw [Int.tmod_eq_emod_of_nonneg h]; omega
  · have e : Int.tmod a 1000000 = -Int.tmod (-a) 1000000 := by rw [Int.neg_tmod, Int.neg_neg]
    rw [e, Int.tmod_eq_emod_of_nonneg (by omega)]; omega
/-- rows that are written, rates that are written -/
structure NearAt (v w : World) (b B c m k : Nat) (g : Nat → Bk) (f : Nat → Int) : Prop where
  rows : OwnR be 3 w 28 v.heap.size (.slice (some ⟨b, 0, none⟩) m c) m g
  rates : Own w 3 v.heap.size (.slice (some ⟨B, 0, none⟩) m m) m f
  ne : b ≠ B
  low : Below v.heap.size v w
  good : ∀ i, i < k → SmA (g i).a ∧ RtOk (f i)
section
variable {v w w1 : World} {b B c m k : Nat} {g : Nat → Bk} {f : Nat → Int}
theorem NearAt.below (h : NearAt v w b B c m k g f) (kb : Below w.heap.size w w1) : NearAt v w1 b B c m k g f := by
  refine ⟨own_blocks h.rows fun x hx => kb.block x (World.ownsRow.lt h.rows x hx).2, h.rates.below kb, h.ne, h.low.trans (kb.mono h.low.size), h.good⟩
theorem NearAt.row (h : NearAt v w b B c m k g f) (hk : k < m) (x : Int) : NearAt v (w.setCell ⟨b, k * 3 + 2, none⟩ (.int .i64 x)) b B c m k (fun j => if j = k then ⟨(g k).c, (g k).y, x⟩ else g j) f := by
  have hb := (World.ownsRow.lt h.rows b rfl).1
  refine ⟨h.rows.setc be_len k 2 ⟨(g k).c, (g k).y, x⟩ (.int .i64 x) hk (by decide) (fun d hd => by
    match d, hd with
    | 0, _ => rfl
    | 1, _ => rfl
    | 2, h => exact absurd rfl h
    | d + 3, _ => rfl) rfl, own_blocks h.rates fun y hy => ?_, h.ne, h.low.setCell hb _, fun i hi => ?_⟩
  · refine Below.heap_setCell _ _ _ _ ?_
    have : B = y := by simpa [Value.ownBlock] using hy
    subst this
    exact fun e => h.ne e.symm
  · rw [if_neg (by omega)]; exact h.good i hi
theorem NearAt.rate (h : NearAt v w b B c m k g f) (x : Int) : NearAt v (w.setCell ⟨B, k, none⟩ (.int .i64 x)) b B c m k g (fun j => if j = k then x else f j) := by
  have hb := (World.ownsRow.lt h.rates B rfl).1
  refine ⟨own_blocks h.rows fun y hy => ?_, h.rates.set k x, h.ne, h.low.setCell hb _, fun i hi => ?_⟩
  · refine Below.heap_setCell _ _ _ _ ?_
    have : b = y := by simpa [Value.ownBlock] using hy
    subst this
    exact h.ne
  · rw [if_neg (show ¬ i = k by omega)]; exact h.good i hi
theorem NearAt.cells (h : NearAt v w b B c m k g f) (hk : k < m) : w.cell? ⟨b, k * 3, none⟩ = some (.int .i64 (g k).c) ∧ w.cell? ⟨b, k * 3 + 1, none⟩ = some (.int .i64 (g k).y) ∧ w.cell? ⟨b, k * 3 + 2, none⟩ = some (.int .i64 (g k).a) ∧ w.frozen? ⟨b, k * 3 + 2, none⟩ = false ∧ w.cell? ⟨B, k, none⟩ = some (.int .i64 (f k)) ∧ w.frozen? ⟨B, k, none⟩ = false := by
  obtain ⟨b', c', e, _, _, _, _, hc, hf⟩ := h.rows.some be_len (show 0 < m by omega)
  injection e with e _ _
  injection e with e
  injection e with e
  subst e
  obtain ⟨r1, r2⟩ := (h.rates.row (show 0 < m by omega)).2 k hk
  exact ⟨hc k hk 0 _ rfl, hc k hk 1 _ rfl, hc k hk 2 _ rfl, hf _, r1, r2⟩
end
set_option maxHeartbeats 16000000 in
set_option maxRecDepth 100000 in
theorem measureNear_walk (a0 : Option Addr) (len0 cap0 : Nat) (z0 : List Int) (a1 : Option Addr) (len1 cap1 : Nat) (z1 : List Int) (w : World) (w0 : IsRow .i64 w a0 len0 cap0 z0) (w1 : IsRow .i64 w a1 len1 cap1 z1) :
    Calls Try.prog 7 #[.slice a0 len0 cap0, .slice a1 len1 cap1] w fun e w' => e = .returned (.bool true) ∧ Below w.heap.size w w' := by
  have W := Lib.hid fun w => wakes16_any w
  have CG := Lib.hid (preg_open a0 len0 cap0 z0 w w0)
  have HA2 := Lib.hid w1.at.1
  obtain ⟨f2, hf2⟩ : ∃ f : Nat → Int, (fun j => z1.getD j 0) = f := ⟨_, rfl⟩
  rw [hf2] at HA2
  clear w0 w1 hf2
  go_enter Try.func7, Try.ntmps7
  go_wp2_with fail
  refine (CG.out).mono ?_
  rintro e v3 ⟨sbr, A, c, m, g, rfl, c0, hc, hcm, hm, hmon, _, ho, hb3⟩
  have hmk := run_make_row' (P := Try.prog) 30 3 (.int .i64 0) 8 Try.underlying30 int_info rfl .i64 .i64 m (by omega) (by omega)
  have OM := own_made v3 m 3 w.heap.size hb3.size (by unfold maxLen; omega)
  have KM := hb3.alloc hb3.size (.cells (madeCells #[.int .i64 0] m) 3)
  have HO3 := Lib.hid ho
  have HB3 := Lib.hid hb3
  clear CG hmon
  have st0 : Hid ((m = 0 ∧ Below w.heap.size w (v3.alloc (.cells (madeCells #[.int .i64 0] m) 3))) ∨ ∃ b, A = some ⟨b, 0, none⟩ ∧ NearAt w (v3.alloc (.cells (madeCells #[.int .i64 0] m) 3)) b v3.heap.size c m 0 g (fun _ => 0)) := Lib.hid (by
    rcases Nat.eq_zero_or_pos m with hm0 | hm0
    · exact .inl ⟨hm0, KM⟩
    · obtain ⟨b, cc, e, _, _, hbb, hbz, _, _⟩ := ho.some be_len hm0
      injection e with e1 _ e2
      subst e1 e2
      exact .inr ⟨b, rfl, own_blocks ho fun x hx => Below.heap_alloc _ _ x (World.ownsRow.lt ho x hx).2, OM, by omega, KM, fun i hi => by omega⟩)
  clear ho hb3 OM KM HO3
  go_wp2
  go_loopg [7, 23] m (fun gh s7 i wr => ∃ (k : Nat) (g' : Nat → Bk) (f : Nat → Int), k ≤ m ∧ gh = m - k ∧ i = .int .i64 k ∧ s7 = .int .i64 (-tot (exU g' f) k) ∧ ((m = 0 ∧ Below w.heap.size w wr) ∨ ∃ b, A = some ⟨b, 0, none⟩ ∧ NearAt w wr b v3.heap.size c m k g' f))
  case atStart => exact ⟨0, g, _, by omega, rfl, rfl, rfl, st0.out⟩
  case round =>
    obtain ⟨k, g', f, hk, hgk, rfl, rfl, hor⟩ := hrel
    have HGK := Lib.hid hgk
    clear hgk st0 hmk
    by_cases hlt : k < m
    · obtain ⟨b, rfl, hna⟩ : ∃ b, A = some ⟨b, 0, none⟩ ∧ NearAt w wr b v3.heap.size c m k g' f := by
        rcases hor with ⟨h, _⟩ | h
        · omega
        · exact h
      have HN := Lib.hid hna
      have zb := (World.ownsRow.lt hna.rows b rfl).2
      have zB := (World.ownsRow.lt hna.rates v3.heap.size rfl).2
      have hne : ¬ b = v3.heap.size := hna.ne
      have hne2 : ¬ v3.heap.size = b := fun e => hna.ne e.symm
      clear hor
      obtain ⟨c1, c2, c3, f3, c4, f4⟩ := hna.cells hlt
      obtain ⟨X, hX⟩ : ∃ X, -tot (exU g' f) k = X := ⟨_, rfl⟩
      have xb := ex_bd g' f k hna.good
      rw [hX]
      have HX := Lib.hid hX
      have hXb : -13000000000000 ≤ X ∧ X ≤ 13000000000000 := by omega
      obtain ⟨a, ha⟩ : ∃ a, (g' k).a = a := ⟨_, rfl⟩
      rw [ha] at c3
      have tb := tmodM a
      obtain ⟨z, hz⟩ : ∃ z, Int.tmod a 1000000 = z := ⟨_, rfl⟩
      rw [hz] at tb
      obtain ⟨y, hy⟩ : ∃ y, z + 1 = y := ⟨_, rfl⟩
      have yb : SmA y := by unfold SmA; omega
      obtain ⟨u4, hu4⟩ : ∃ u4, f k = u4 := ⟨_, rfl⟩
      rw [hu4] at c4
      have k0 : (0 : Int) ≤ (k : Int) := by omega
      have k1 : (k : Int) < (m : Int) := by omega
      clear ha hna xb hX hu4
      go_upto_if 42 with fail
      obtain ⟨gy, hgy⟩ : ∃ gy : Nat → Bk, (fun j => if j = k then (⟨(g' k).c, (g' k).y, y⟩ : Bk) else g' j) = gy := ⟨_, rfl⟩
      have gk : gy k = ⟨(g' k).c, (g' k).y, y⟩ := by rw [← hgy]; exact if_pos rfl
      have gne : ∀ j, j < k → gy j = g' j := fun j hj => by rw [← hgy]; exact if_neg (by omega)
      have N1 := ((HN.out.row hlt y).rate 123456).below ((Below.refl _ _).alloc (Nat.le_refl _) (.cells #[.int .i64 (g' k).c, .int .i64 (g' k).y, .int .i64 a] 28))
      rw [hgy] at N1
      obtain ⟨w5, hw5⟩ : ∃ w5, ((wr.setCell ⟨b, k * 3 + 2, none⟩ (.int .i64 y)).setCell ⟨v3.heap.size, k, none⟩ (.int .i64 123456)).alloc (.cells #[.int .i64 (g' k).c, .int .i64 (g' k).y, .int .i64 a] 28) = w5 := ⟨_, rfl⟩
      rw [hw5] at N1 ⊢
      have N5 := Lib.hid N1
      have GK := Lib.hid gk
      have GN := Lib.hid gne
      clear hw5 N1 c1 c2 c3 f3 c4 f4 zb zB hgy gk gne hz hy
      go_cut [43] (fun s43 wx => ∃ f' : Nat → Int, NearAt w wx b v3.heap.size c m k gy f' ∧ (∀ j, j < k → f' j = f j) ∧ RtOk (f' k))
      case first =>
        by_cases hl2 : k < len1
        · obtain ⟨b2, off2, rfl, hb2, hc2⟩ := (HA2.out).some (show 0 < len1 by omega)
          have d0 := hc2 k hl2
          have d1 : w5.cell? ⟨b2, off2 + k, none⟩ = some (.int .i64 (f2 k)) := (N5.out.low.cell (p := ⟨b2, off2 + k, none⟩) hb2).trans d0
          obtain ⟨_, _, _, _, c4, f4⟩ := N5.out.cells hlt
          obtain ⟨x, hx⟩ : ∃ x, f2 k = x := ⟨_, rfl⟩
          rw [hx] at d1
          have l1 : (k : Int) < (len1 : Int) := by omega
          clear hc2 d0 hx
          go_wp2_with (go_at_call 8; (with_reducible refine (within_some _ _ _ (by omega) (by omega)).mono ?_); rintro e w' ⟨x', x1, x2, rfl, rfl⟩)
          go_meet
          refine ⟨_, N5.out.rate x', fun j hj => ?_, ?_⟩
          · rw [if_neg (by omega), if_neg (by omega)]
          · rw [if_pos rfl]; unfold RtOk; omega
        · have l1 : ¬ (k : Int) < (len1 : Int) := by omega
          go_wp2
          go_meet
          refine ⟨_, N5.out, fun j hj => ?_, ?_⟩
          · rw [if_neg (by omega)]
          · rw [if_pos rfl]; unfold RtOk; decide
      case rest =>
        obtain ⟨f', hn, hff, hrk⟩ := hcut
        obtain ⟨_, _, d3, _, d4, _⟩ := hn.cells hlt
        rw [GK.out] at d3
        have d3 : wc.cell? ⟨b, k * 3 + 2, none⟩ = some (.int .i64 y) := d3
        obtain ⟨u, hu⟩ : ∃ u, f' k = u := ⟨_, rfl⟩
        rw [hu] at d4 hrk
        obtain ⟨p1, p2⟩ := mul_bd (n := y) (r := u) (A := 1000000) (by have := yb.1; omega) yb.2 hrk.1 hrk.2
        obtain ⟨P, hP⟩ : ∃ P, y * u = P := ⟨_, rfl⟩
        rw [hP] at p1 p2
        have s1 : IntKind.i64.wrap (y * u) = P := by rw [IntWalk.i64_in _ (by rw [hP]; omega)]; exact hP
        have s2 : IntKind.i64.wrap (X - P) = X - P := IntWalk.i64_in _ (by omega)
        have EN : Hid (-tot (exU gy f') (k + 1) = X - P) := Lib.hid (by
          have e1 : tot (exU gy f') k = tot (exU g' f) k := tot_ext k fun j hj => by unfold exU; rw [GN.out j hj, hff j hj]
          show -(tot (exU gy f') k + (gy k).a * f' k) = X - P
          rw [e1, GK.out, hu]
          show -(tot (exU g' f) k + y * u) = X - P
          rw [hP, ← HX.out]; omega)
        have N6 := Lib.hid (show NearAt w wc b v3.heap.size c m (k + 1) gy f' from ⟨hn.rows, hn.rates, hn.ne, hn.low, fun i hi => by
          by_cases e : i = k
          · rw [e, GK.out, hu]; exact ⟨yb, hrk⟩
          · exact hn.good i (by omega)⟩)
        clear hn hff hP hu hrk p1 p2
        go_wp2
        go_big_quiet (fail)
        go_wp2
        go_roundg (m - (k + 1))
        case measure => have := HGK.out; omega
        case rel => exact ⟨k + 1, gy, f', by omega, rfl, by go_num, by rw [EN.out], .inr ⟨b, rfl, N6.out.below (drewN_below _ _ _)⟩⟩
    · obtain rfl : k = m := by omega
      obtain ⟨hr, hr', low, good⟩ : AtR be 3 wr A k g' ∧ At wr (some ⟨v3.heap.size, 0, none⟩) k f ∧ Below w.heap.size w wr ∧ ∀ i, i < k → SmA (g' i).a ∧ RtOk (f i) := by
        rcases hor with ⟨rfl, h⟩ | ⟨b, rfl, h⟩
        · exact ⟨.inl rfl, .inl rfl, h, fun i hi => by omega⟩
        · obtain ⟨_, _, e, _, _, _, ha⟩ := h.rows.at be_len
          injection e with e _ _
          subst e
          obtain ⟨_, _, e, _, _, ha'⟩ := h.rates.at
          injection e with e _ _
          subst e
          exact ⟨ha, ha', h.low, h.good⟩
      have n1 := near_off g' f k fun i hi => (good i hi).2
      have n2 := smp_bd g' f k good
      have n3 := ex_bd g' f k good
      obtain ⟨N, hN⟩ : ∃ N, -tot (partU g' f) k = N := ⟨_, rfl⟩
      obtain ⟨X, hX⟩ : ∃ X, -tot (exU g' f) k = X := ⟨_, rfl⟩
      have CT := Lib.hid (ptemp_any A (some ⟨v3.heap.size, 0, none⟩) k c k k g' f N 0 wr hr hr' (by omega) ⟨hc, hcm⟩ (by unfold maxLen; omega) (.inr (.inr ⟨⟨rfl, fun i hi => ⟨by have := (good i hi).1; unfold SmA at this; unfold Mon; omega, (good i hi).2⟩⟩, by unfold Mon; omega, hN.symm, rfl⟩)))
      obtain ⟨M1, hM1⟩ : ∃ M1, 1000000 * (k : Int) = M1 := ⟨_, rfl⟩
      obtain ⟨M2, hM2⟩ : ∃ M2, -1000000 * (k : Int) = M2 := ⟨_, rfl⟩
      obtain ⟨D, hD⟩ : ∃ D, N * 1000000 - X = D := ⟨_, rfl⟩
      obtain ⟨F, hF⟩ : ∃ F, 2 * D = F := ⟨_, rfl⟩
      have b1 : -12000000 ≤ N ∧ N ≤ 12000000 := by omega
      have b2 : -13000000000000 ≤ X ∧ X ≤ 13000000000000 := by omega
      have b3 : -6000000 ≤ D ∧ D ≤ 6000000 := by omega
      have o1 : F ≤ M1 := by omega
      have o2 : M2 ≤ F := by omega
      have b4 : 0 ≤ M1 ∧ M1 ≤ 12000000 := by omega
      have b5 : -12000000 ≤ M2 ∧ M2 ≤ 0 := by omega
      have LO := Lib.hid low
      rw [hX]
      clear hor hr hr' low good n1 n2 n3 hN hX hlt HGK hk
      go_wp2_with fail
      refine (CT.out).mono ?_
      rintro e w7 ⟨rfl, hb7⟩
      have K7 := Lib.hid (LO.out.trans (hb7.mono LO.out.size))
      clear hb7 CT
      go_wp2_with (go_at_call 15; (with_reducible refine (W.out _).mono ?_); rintro e w8 ⟨rfl, hb8⟩; have K8 := Lib.hid (K7.out.trans (hb8.mono K7.out.size)); clear hb8)
      go_ret
      exact ⟨rfl, K8.out⟩
end Go.Proofs.Ytnhnimchjbhnfaa
