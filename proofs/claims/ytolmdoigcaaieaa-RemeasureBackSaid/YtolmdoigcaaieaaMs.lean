/- Package measure, the program's own: a contract for each of its calls. -/
import Derived.Test.YtolmdoigcaaieaaRMeas2
import Derived.Test.YtolmdoigcaaieaaEnact3
import Derived.Test.YtolmdoigcaaieaaM1
import Derived.Test.YtolmdoigcaaieaaSumLoop
import Derived.Test.YtolmdoigcaaieaaOrd2
namespace Go.Proofs.Ytolmdoigcaaieaa
open Go.RowKit
theorem pshr_at (a r x : Int) (w : World) (h1 : -400000000000 ≤ a ∧ a ≤ 400000000000) (h2 : 0 ≤ r ∧ r ≤ 10000000) (H : Hid (rof a r = x)) :
    Calls Try.prog 30 #[.int .i64 a, .int .i64 r] w fun e' w' => e' = .returned (.int .i64 x) ∧ w = w' := by
  go_enter Try.func30, Try.ntmps30
  go_wp2_with (first | (go_at_call 33; (with_reducible refine (of_at _ _ _ _ (by omega) (by omega) (by omega) (by omega) H).mono ?_); rintro e w' ⟨rfl, rfl⟩))
  go_ret
  exact ⟨rfl, rfl⟩
section
variable {w : World} {O : Nat → Nat} {base t sb n : Nat} {v : Value} {R : Nat → Rt}
end
theorem sumis_neg {u : Nat → Int} {m : Nat} (h : ∀ i, i < m → Mon (u i)) : (Mon (-tot u m) → SumIs (fun i => -u i) m (-tot u m) true) ∧ (¬ Mon (-tot u m) → SumIs (fun i => -u i) m 0 false) := by
  constructor
  · intro q
    exact .inl ⟨rfl, (tot_neg u m).symm, by rw [tot_neg]; exact q, fun j hj => by have := h j hj; unfold Mon at this ⊢; dsimp only; omega⟩
  · intro q
    exact .inr ⟨rfl, rfl, .inr (by rw [tot_neg]; exact q)⟩
set_option maxHeartbeats 8000000 in
set_option maxRecDepth 100000 in
theorem ptemp_any (A A' : Option Addr) (m c k0 c' : Nat) (g : Nat → Bk) (r : Nat → Int) (v e : Int) (w : World) (hr : AtR be 3 w A m g) (hr' : At w A' k0 r) (hm : m ≤ 1000) (_hc : m ≤ c ∧ c ≤ maxLen) (_hk0 : k0 ≤ c' ∧ c' ≤ maxLen) (H : TempIs g m r k0 v e) :
    Calls Try.prog 17 #[.slice A m c, .slice A' k0 c'] w fun e' w' => e' = .returned (.tuple #[.int .i64 v, .int .i64 e]) ∧ Below w.heap.size w w' := by
  by_cases hmk0 : m = k0
  · subst hmk0
    obtain ⟨L, hL, h1, h2, hres⟩ : ∃ L, L ≤ m ∧ (∀ k, k < L → Mon (g k).a ∧ RtOk (r k)) ∧ (L < m → ¬ (Mon (g L).a ∧ RtOk (r L))) ∧ ((L < m ∧ v = 0 ∧ e = 1) ∨ (L = m ∧ ((¬ Mon (-tot (partU g r) m) ∧ v = 0 ∧ e = 6) ∨ (Mon (-tot (partU g r) m) ∧ v = -tot (partU g r) m ∧ e = 0)))) := by
      rcases first_bad g r m with h | ⟨i, k1, k2, k3⟩
      · refine ⟨m, Nat.le_refl _, h, fun h => by omega, .inr ⟨rfl, ?_⟩⟩
        rcases H with ⟨q, _⟩ | ⟨_, q⟩ | ⟨_, q⟩
        · exact absurd ⟨rfl, h⟩ q
        · exact .inl q
        · exact .inr q
      · refine ⟨i, by omega, k3, fun _ => k2, .inl ⟨k1, ?_⟩⟩
        rcases H with ⟨_, q⟩ | ⟨q, _⟩ | ⟨q, _⟩
        · exact q
        · exact absurd (q.2 i k1) k2
        · exact absurd (q.2 i k1) k2
    have hmk := run_make_row' (P := Try.prog) 22 3 (.int .i64 0) 8 Try.underlying22 int_info rfl .i64 .i64 m (by omega) (by omega)
    have HO0 := Lib.hid (own_made w m 3 w.heap.size (Nat.le_refl _) (by unfold maxLen; omega))
    have HR := Lib.hid hr
    have HR' := Lib.hid hr'
    have H1 := Lib.hid h1
    have H2 := Lib.hid h2
    have HV := Lib.hid hres
    have ee : ((m : Int) != (m : Int)) = false := by simp
    clear hr hr' h1 h2 hres H _hc _hk0
    go_enter Try.func17, Try.ntmps17
    go_wp2
    go_loopg [21] m (fun gh i wr => ∃ (k : Nat) (f : Nat → Int), k ≤ L ∧ gh = m - k ∧ i = .int .i64 k ∧ w.heap.size < wr.heap.size ∧ (∀ j, j < k → f j = -partU g r j) ∧ Own wr 3 w.heap.size (.slice (some ⟨w.heap.size, 0, none⟩) m m) m f ∧ Below w.heap.size w wr)
    case atStart => exact ⟨0, fun _ => 0, Nat.zero_le _, rfl, rfl, by simp, fun j hj => by omega, HO0.out, (Below.refl _ _).alloc (Nat.le_refl _) _⟩
    case round =>
      obtain ⟨k, f, hk, hgk, rfl, hb8, hf, ho, hbw⟩ := hrel
      have HB8 := Lib.hid hb8
      have HGK := Lib.hid hgk
      have HW := Lib.hid hbw
      have HO := Lib.hid ho
      have HF := Lib.hid hf
      have hz := hbw.size
      clear hgk hbw ho hf hmk HO0 hb8
      by_cases hlt : k < m
      · obtain ⟨b, off, rfl, hb, c0, c1, c2⟩ := (HR.out.below HW.out).three hlt
        obtain ⟨b', off', rfl, hb', hc'⟩ := (HR'.out.below HW.out).some (by omega)
        have d0 := hc' k hlt
        clear hc'
        obtain ⟨a, ha⟩ : ∃ a, (g k).a = a := ⟨_, rfl⟩
        obtain ⟨y0, hy0⟩ : ∃ y0, (g k).c = y0 := ⟨_, rfl⟩
        obtain ⟨y1, hy1⟩ : ∃ y1, (g k).y = y1 := ⟨_, rfl⟩
        obtain ⟨z, hzr⟩ : ∃ z, r k = z := ⟨_, rfl⟩
        rw [ha] at c2
        rw [hy0] at c0
        rw [hy1] at c1
        rw [hzr] at d0
        have k0 : (0 : Int) ≤ (k : Int) := by omega
        have k1 : (k : Int) < (m : Int) := by omega
        clear hy0 hy1
        by_cases hkL : k < L
        · obtain ⟨hma, hrz⟩ := H1.out k hkL
          rw [ha] at hma
          rw [hzr] at hrz
          have hpm := rof_mon hma hrz
          obtain ⟨x, hx⟩ : ∃ x, rof a z = x := ⟨_, rfl⟩
          rw [hx] at hpm
          have HX := Lib.hid hx
          have EN : Hid (-partU g r k = -x) := Lib.hid (by
            show -rof (g k).a (r k) = -x
            rw [ha, hzr, hx])
          unfold Mon at hma hpm
          unfold RtOk at hrz
          have wx : IntKind.i64.wrap (-x) = -x := IntWalk.i64_in _ (by omega)
          have HMA := Lib.hid hma
          have HRZ := Lib.hid hrz
          have A1 := Lib.hid (show -400000000000 ≤ a ∧ a ≤ 400000000000 by omega)
          have Z1 := Lib.hid (show 0 ≤ z ∧ z ≤ 10000000 by omega)
          have hba := (Below.refl wr.heap.size wr).alloc (Nat.le_refl _) (.cells #[.int .i64 y0, .int .i64 y1, .int .i64 a] 26)
          have RA := rec_lit wr [.int .i64 y0, .int .i64 y1, .int .i64 a] 26 wr.heap.size rfl 2 _ rfl
          obtain ⟨wa, hwa⟩ : ∃ wa, wr.alloc (.cells #[.int .i64 y0, .int .i64 y1, .int .i64 a] 26) = wa := ⟨_, rfl⟩
          have RA2 : wa.cell? ⟨wr.heap.size, 2, none⟩ = some (.int .i64 a) := by rw [← hwa]; exact RA
          rw [hwa] at hba
          have d1 := cell_keep d0 hba
          have HA := Lib.hid hwa
          have BA := Lib.hid hba
          have D1 := Lib.hid d1
          have RR := Lib.hid RA2
          clear ha hzr hx hma hrz hpm hwa hba RA d1 RA2
          go_wp2_with (first | (go_at_call 28; (with_reducible refine (money_yes _ _ HMA.out.1 HMA.out.2).mono ?_); rintro e w' ⟨rfl, rfl⟩) | (go_at_call 29; (with_reducible refine (right_yes _ _ HRZ.out.1 HRZ.out.2).mono ?_); rintro e w' ⟨rfl, rfl⟩))
          rw [HA.out]
          clear HA c0 c1 c2 d0
          have scd : wa.drew.cell? ⟨wr.heap.size, 2, none⟩ = some (.int .i64 a) ∧ wa.drew.cell? ⟨b', off' + k, none⟩ = some (.int .i64 z) := ⟨RR.out, D1.out⟩
          have hrow := ((HO.out.below BA.out).row (by omega)).2 k hlt
          have hbz := ((HO.out.below BA.out).row (by omega)).1
          obtain ⟨fk, hfk⟩ : ∃ fk, f k = fk := ⟨_, rfl⟩
          rw [hfk] at hrow
          obtain ⟨v0, v1⟩ := hrow
          have v0' : wa.drew.cell? ⟨w.heap.size, k, none⟩ = some (.int .i64 fk) := v0
          have v1' : wa.drew.frozen? ⟨w.heap.size, k, none⟩ = false := v1
          refine wp_region_noPanic ?_
          refine AnyTill.begin (C := fun w' => w'.cell? ⟨wr.heap.size, 2, none⟩ = some (.int .i64 a) ∧ w'.cell? ⟨b', off' + k, none⟩ = some (.int .i64 z)) (q := 11) (by kernel_rfl) ?_
          refine AnyTill.take (i := 0) (v := ?_) (by simp only [List.getElem?_toArray, List.getElem?_cons_zero]; rfl) (by kernel_rfl) (by kernel_rfl) (by kernel_rfl) (by kernel_rfl) (fun _ _ _ h => h) (Or.inl ⟨by rfl, ?_⟩) scd ?_
          rotate_left
          · intro w' hw'; (try dsimp only at hw'); go_simp <;> with_reducible rfl
          try simp only [Act.put, List.setIfInBounds_toArray, List.set_cons_zero, List.set_cons_succ]
          refine AnyTill.take (i := 1) (v := ?_) (by simp only [List.getElem?_toArray, List.getElem?_cons_succ, List.getElem?_cons_zero]; rfl) (by kernel_rfl) (by kernel_rfl) (by kernel_rfl) (by kernel_rfl) (fun _ _ _ h => h) (Or.inl ⟨by rfl, ?_⟩) scd ?_
          rotate_left
          · intro w' hw'; (try dsimp only at hw'); go_simp <;> with_reducible rfl
          try simp only [Act.put, List.setIfInBounds_toArray, List.set_cons_zero, List.set_cons_succ]
          refine AnyTill.take (i := 2) (v := ?_) (by simp only [List.getElem?_toArray, List.getElem?_cons_succ, List.getElem?_cons_zero]; rfl) (by kernel_rfl) (by kernel_rfl) (by kernel_rfl) (by kernel_rfl) (fun _ _ _ h => h) (Or.inl ⟨by rfl, ?_⟩) scd ?_
          rotate_left
          · intro w' hw'; (try dsimp only at hw'); go_simp <;> with_reducible rfl
          try simp only [Act.put, List.setIfInBounds_toArray, List.set_cons_zero, List.set_cons_succ]
          refine AnyTill.take (i := 3) (v := ?_) (by simp only [List.getElem?_toArray, List.getElem?_cons_succ, List.getElem?_cons_zero]; rfl) (by kernel_rfl) (by kernel_rfl) (by kernel_rfl) (by kernel_rfl) (fun _ _ _ h => h) (Or.inl ⟨by rfl, ?_⟩) scd ?_
          rotate_left
          · intro w' hw'; (try dsimp only at hw'); go_simp <;> with_reducible rfl
          try simp only [Act.put, List.setIfInBounds_toArray, List.set_cons_zero, List.set_cons_succ]
          refine AnyTill.take (i := 4) (v := ?_) (by simp only [List.getElem?_toArray, List.getElem?_cons_succ, List.getElem?_cons_zero]; rfl) (by kernel_rfl) (by kernel_rfl) (by kernel_rfl) (by kernel_rfl) (fun _ _ _ h => h) (Or.inl ⟨by rfl, ?_⟩) scd ?_
          rotate_left
          · intro w' hw'; (try dsimp only at hw'); go_simp <;> with_reducible rfl
          try simp only [Act.put, List.setIfInBounds_toArray, List.set_cons_zero, List.set_cons_succ]
          refine AnyTill.take (i := 5) (v := ?_) (by simp only [List.getElem?_toArray, List.getElem?_cons_succ, List.getElem?_cons_zero]; rfl) (by kernel_rfl) (by kernel_rfl) (by kernel_rfl) (by kernel_rfl) (fun _ _ _ h => h) (Or.inl ⟨by rfl, ?_⟩) scd ?_
          rotate_left
          · intro w' hw'; (try dsimp only at hw'); go_simp <;> with_reducible rfl
          try simp only [Act.put, List.setIfInBounds_toArray, List.set_cons_zero, List.set_cons_succ]
          refine AnyTill.take (i := 6) (v := ?_) (by simp only [List.getElem?_toArray, List.getElem?_cons_succ, List.getElem?_cons_zero]; rfl) (by kernel_rfl) (by kernel_rfl) (by kernel_rfl) (by kernel_rfl) (fun _ _ _ h => h) (Or.inl ⟨by rfl, ?_⟩) scd ?_
          rotate_left
          · intro w' hw'; (try dsimp only at hw'); go_simp <;> with_reducible rfl
          try simp only [Act.put, List.setIfInBounds_toArray, List.set_cons_zero, List.set_cons_succ]
          refine AnyTill.take (i := 7) (v := ?_) (by simp only [List.getElem?_toArray, List.getElem?_cons_succ, List.getElem?_cons_zero]; rfl) (by kernel_rfl) (by kernel_rfl) (by kernel_rfl) (by kernel_rfl) (fun _ _ _ h => h) (Or.inl ⟨by rfl, ?_⟩) scd ?_
          rotate_left
          · intro w' hw'; (try dsimp only at hw'); go_simp <;> with_reducible rfl
          try simp only [Act.put, List.setIfInBounds_toArray, List.set_cons_zero, List.set_cons_succ]
          refine AnyTill.takeC (i := 8) (v := .int .i64 x) (by simp only [List.getElem?_toArray, List.getElem?_cons_succ, List.getElem?_cons_zero]; rfl) (by kernel_rfl) (by kernel_rfl) (by kernel_rfl) (by kernel_rfl) (fun _ _ _ h => h) ⟨by rfl, 30, #[.int .i64 a, .int .i64 z], fun w' hw' => ?_, fun w' hw' => pshr_at a z x w' A1.out Z1.out HX⟩ scd ?_
          · (try dsimp only at hw'); go_simp <;> with_reducible rfl
          try simp only [Act.put, List.setIfInBounds_toArray, List.set_cons_zero, List.set_cons_succ]
          refine AnyTill.take (i := 9) (v := ?_) (by simp only [List.getElem?_toArray, List.getElem?_cons_succ, List.getElem?_cons_zero]; rfl) (by kernel_rfl) (by kernel_rfl) (by kernel_rfl) (by kernel_rfl) (fun _ _ _ h => h) (Or.inl ⟨by rfl, ?_⟩) scd ?_
          rotate_left
          · intro w' hw'; (try dsimp only at hw'); go_simp <;> with_reducible rfl
          try simp only [Act.put, List.setIfInBounds_toArray, List.set_cons_zero, List.set_cons_succ]
          refine AnyTill.take (i := 10) (v := ?_) (by simp only [List.getElem?_toArray, List.getElem?_cons_succ, List.getElem?_cons_zero]; rfl) (by kernel_rfl) (by kernel_rfl) (by kernel_rfl) (by kernel_rfl) (fun _ _ _ h => h) (Or.inl ⟨by rfl, ?_⟩) scd ?_
          rotate_left
          · intro w' hw'; (try dsimp only at hw'); go_simp <;> with_reducible rfl
          try simp only [Act.put, List.setIfInBounds_toArray, List.set_cons_zero, List.set_cons_succ]
          refine' AnyTill.one (i := 11) (o := _) (by kernel_rfl) ?ho11tb (fun K' hK => ?hh11tb)
          case ho11tb => (simp only [List.getElem?_toArray, List.getElem?_cons_succ, List.getElem?_cons_zero]; rfl)
          go_simp
          refine hK.out _ _ (.inl rfl) ?_
          clear hK K'
          try simp only [Act.put, List.setIfInBounds_toArray, List.set_cons_zero, List.set_cons_succ]
          refine AnyTill.done (by kernel_rfl) ?_ _
          refine NoPanic.normal ?_
          clear scd hfk v0 v1 v0' v1'
          go_wp2
          go_roundg (m - (k + 1))
          case measure => have := HGK.out; omega
          case rel => exact ⟨k + 1, _, by omega, rfl, by go_num, by have := BA.out.size; have := HB8.out; simp; omega, fun j hj => by
              show (if j = k then -x else f j) = -partU g r j
              by_cases e : j = k
              · rw [if_pos e, e, EN.out]
              · rw [if_neg e]; exact HF.out j (by omega), (HO.out.below BA.out).set k (-x), (((HW.out.trans (BA.out.mono hz)).setCell (Nat.le_refl _) _)).drew⟩
        · obtain rfl : k = L := by omega
          obtain ⟨rfl, rfl⟩ : v = 0 ∧ e = 1 := by rcases HV.out with ⟨_, h⟩ | ⟨h, _⟩; exact h; omega
          have hb0 := H2.out hlt
          rw [ha, hzr] at hb0
          clear ha hzr hkL HV
          by_cases hma : Mon a
          · have hrz : ¬ (0 ≤ z ∧ z ≤ 1000000) := fun h => hb0 ⟨hma, h⟩
            unfold Mon at hma
            have HMA := Lib.hid hma
            have HRZ := Lib.hid (show z < 0 ∨ 1000000 < z by omega)
            have hba := (Below.refl wr.heap.size wr).alloc (Nat.le_refl _) (.cells #[.int .i64 y0, .int .i64 y1, .int .i64 a] 26)
            clear hma hrz hb0
            go_wp2_with (first | (go_at_call 28; (with_reducible refine (money_yes _ _ HMA.out.1 HMA.out.2).mono ?_); rintro e w' ⟨rfl, rfl⟩) | (go_at_call 29; (with_reducible refine (right_no _ _ HRZ.out).mono ?_); rintro e w' ⟨rfl, rfl⟩))
            go_ret2
            exact ⟨rfl, HW.out.alloc hz _⟩
          · have HMA := Lib.hid (show a < -100000000000 ∨ 100000000000 < a by unfold Mon at hma; omega)
            clear hma hb0
            go_wp2_with (first | (go_at_call 28; (with_reducible refine (money_no _ _ HMA.out).mono ?_); rintro e w' ⟨rfl, rfl⟩))
            go_ret2
            exact ⟨rfl, HW.out.alloc hz _⟩
      · obtain rfl : k = m := by omega
        obtain rfl : L = k := by omega
        have HSM := Lib.hid (sumis_neg (u := partU g r) (m := L) fun i hi => rof_mon (H1.out i hi).1 (H1.out i hi).2)
        have hown := (HO.out.ext HF.out).at
        obtain ⟨A7, c7, e7, _, _, hat⟩ := hown
        injection e7 with e7 _ e8
        subst e7 e8
        have hC : Hid (∀ j, j < L → wr.cell? ⟨w.heap.size, 0 + j, none⟩ = some (.int .i64 (-partU g r j))) := Lib.hid fun j hj => by
          obtain ⟨b9, o9, e9, _, hh⟩ := hat.some (by omega)
          injection e9 with e9
          injection e9 with e9 e10 _
          rw [e9, e10]; exact hh j hj
        have hb9 : w.heap.size < wr.heap.size := HB8.out
        rcases HV.out with ⟨h, _⟩ | ⟨_, ⟨h1, rfl, rfl⟩ | ⟨h1, hv, rfl⟩⟩
        · omega
        · have CS := Lib.hid (sum_some w.heap.size 0 L L (fun i => -partU g r i) 0 false wr hb9 hC (by omega) (Nat.le_refl _) (Lib.hid (HSM.out.2 h1)))
          clear hlt h1 HV
          go_wp2_with (go_at_call 21; (with_reducible refine (CS.out).mono ?_); rintro e w1 ⟨rfl, hb1⟩)
          go_ret2
          exact ⟨rfl, HW.out.trans (hb1.mono hz)⟩
        · have CS := Lib.hid (sum_some w.heap.size 0 L L (fun i => -partU g r i) (-tot (partU g r) L) true wr hb9 hC (by omega) (Nat.le_refl _) (Lib.hid (HSM.out.1 h1)))
          rw [← hv] at CS
          clear hlt h1 HV hv
          go_wp2_with (go_at_call 21; (with_reducible refine (CS.out).mono ?_); rintro e w1 ⟨rfl, hb1⟩)
          go_ret2
          exact ⟨rfl, HW.out.trans (hb1.mono hz)⟩
  · obtain ⟨rfl, rfl⟩ : v = 0 ∧ e = 1 := by
      rcases H with ⟨_, h⟩ | ⟨h, _⟩ | ⟨h, _⟩
      · exact h
      · exact absurd h.1 hmk0
      · exact absurd h.1 hmk0
    have ee : ((m : Int) != (k0 : Int)) = true := by simp; omega
    clear H hmk0
    go_enter Try.func17, Try.ntmps17
    go_wp2
    go_ret2
    exact ⟨rfl, Below.refl _ _⟩
end Go.Proofs.Ytolmdoigcaaieaa
