/- The document's own deferred tax of rows: a contract. -/
import Derived.Test.YtnhnimchjbhnfaaRMeas
namespace Go.Proofs.Ytnhnimchjbhnfaa
open Go.RowKit

set_option maxHeartbeats 8000000 in
set_option maxRecDepth 100000 in
theorem rtemp_any (A A' : Option Addr) (m c k0 c' : Nat) (g : Nat → Bk) (r : Nat → Int) (v e : Int) (w : World) (hr : AtR be 3 w A m g) (hr' : At w A' k0 r) (hm : m ≤ 1000) (hk0 : k0 ≤ c') (H : TempIs g m r k0 v e) :
    Calls Try.prog 23 #[.slice A m c, .slice A' k0 c'] w fun e' w' => e' = .returned (.tuple #[.int .i64 v, .int .i64 e]) ∧ Below w.heap.size w w' := by
  by_cases hmk : m = k0
  · subst hmk
    obtain ⟨L, hL, h1, h2, hres⟩ : ∃ L, L ≤ m ∧ (∀ k, k < L → Mon (g k).a ∧ RtOk (r k)) ∧ (L < m → ¬ (Mon (g L).a ∧ RtOk (r L))) ∧ ((L < m ∧ v = 0 ∧ e = 1) ∨ (L = m ∧ ((¬ Mon (-tot (partU g r) m) ∧ v = 0 ∧ e = 6) ∨ (Mon (-tot (partU g r) m) ∧ v = -tot (partU g r) m ∧ e = 0)))) := by
      rcases first_bad g r m with h | ⟨i, k1, k2, k3⟩
      · refine ⟨m, Nat.le_refl _, h, fun h => by omega, .inr ⟨rfl, ?_⟩⟩
        rcases H with ⟨q, _⟩ | ⟨_, q⟩ | ⟨_, q⟩
        · exact absurd ⟨rfl, h⟩ q
        · exact .inl q
        · exact .inr q
      · refine ⟨i, by omega, k3, fun _ => k2, .inl ⟨k1, ?_⟩⟩
        rcases H with ⟨_, q⟩ | ⟨q, _⟩ | ⟨q, _⟩
        · exact q
        · exact absurd (q.2 i k1) k2
        · exact absurd (q.2 i k1) k2
    have HR := Lib.hid hr
    have HR' := Lib.hid hr'
    have H1 := Lib.hid h1
    have H2 := Lib.hid h2
    have HV := Lib.hid hres
    have ee : ((m : Int) != (m : Int)) = false := by simp
    clear hr hr' h1 h2 hres H
    go_enter Try.func23, Try.ntmps23
    go_wp2
    go_loopg [6, 16] m (fun gh s6 i wr => ∃ k : Nat, k ≤ L ∧ gh = m - k ∧ i = .int .i64 k ∧ s6 = .int .i64 (-tot (partU g r) k) ∧ Below w.heap.size w wr)
    case atStart => exact ⟨0, Nat.zero_le _, rfl, rfl, rfl, Below.refl _ _⟩
    case round =>
      obtain ⟨k, hk, hgk, rfl, rfl, hbw⟩ := hrel
      have HGK := Lib.hid hgk
      have HW := Lib.hid hbw
      have hz := hbw.size
      clear hgk hbw
      obtain ⟨T, hT⟩ : ∃ T, -tot (partU g r) k = T := ⟨_, rfl⟩
      have tb := part_bd (g := g) (r := r) (m := k) (k := k) (fun i hi => H1.out i (by omega)) (Nat.le_refl k)
      have tb1 : -100000000000000 ≤ T ∧ T ≤ 100000000000000 := by omega
      have HT := Lib.hid hT
      rw [hT]
      clear tb hT
      by_cases hlt : k < m
      · obtain ⟨b, off, rfl, hb, c0, c1, c2⟩ := (HR.out.below HW.out).three hlt
        obtain ⟨b', off', rfl, hb', hc'⟩ := (HR'.out.below HW.out).some (by omega)
        have d0 := hc' k hlt
        clear hc'
        obtain ⟨a, ha⟩ : ∃ a, (g k).a = a := ⟨_, rfl⟩
        obtain ⟨z, hzr⟩ : ∃ z, r k = z := ⟨_, rfl⟩
        rw [ha] at c2
        rw [hzr] at d0
        by_cases hkL : k < L
        · obtain ⟨hma, hrz⟩ := H1.out k hkL
          rw [ha] at hma
          rw [hzr] at hrz
          have hpm := rof_mon hma hrz
          obtain ⟨x, hx⟩ : ∃ x, rof a z = x := ⟨_, rfl⟩
          rw [hx] at hpm
          have HX := Lib.hid hx
          have EN : Hid (-tot (partU g r) (k + 1) = T - x) := Lib.hid (by
            show -(tot (partU g r) k + rof (g k).a (r k)) = T - x
            rw [ha, hzr, hx, ← HT.out]; omega)
          have HMA := Lib.hid hma
          have HRZ := Lib.hid (show 0 ≤ z ∧ z ≤ 1000000 from hrz)
          unfold Mon at hpm
          have wx : IntKind.i64.wrap (T - x) = T - x := IntWalk.i64_in _ (by omega)
          have a1 : -400000000000 ≤ a ∧ a ≤ 400000000000 := by unfold Mon at hma; omega
          have z1 : 0 ≤ z ∧ z ≤ 10000000 := by unfold RtOk at hrz; omega
          have A1 := Lib.hid a1
          have Z1 := Lib.hid z1
          obtain ⟨wa, hwa⟩ : ∃ wa, wr.alloc (.cells #[.int .i64 (g k).c, .int .i64 (g k).y, .int .i64 a] 28) = wa := ⟨_, rfl⟩
          have HA := Lib.hid hwa
          have hba := (Below.refl wr.heap.size wr).alloc (Nat.le_refl _) (.cells #[.int .i64 (g k).c, .int .i64 (g k).y, .int .i64 a] 28)
          have RA := rec_lit wr [.int .i64 (g k).c, .int .i64 (g k).y, .int .i64 a] 28 wr.heap.size rfl
          have RA2 : wa.cell? ⟨wr.heap.size, 2, none⟩ = some (.int .i64 a) := by rw [← hwa]; exact RA 2 _ rfl
          rw [hwa] at hba
          have d1 := cell_keep d0 hba
          have KA := Lib.hid (HW.out.trans (hba.mono hz))
          clear ha hzr hx hma hrz hpm a1 z1 hwa hba RA
          go_wp2_with (first | (go_at_call 39; (with_reducible refine (rmoney_yes _ _ HMA.out).mono ?_); rintro e w' ⟨rfl, rfl⟩) | (go_at_call 40; (with_reducible refine (rright_yes _ _ HRZ.out).mono ?_); rintro e w' ⟨rfl, rfl⟩))
          rw [HA.out]
          clear HA
          go_region_held3 (fun w' => w'.cell? ⟨wr.heap.size, 2, none⟩ = some (.int .i64 a) ∧ w'.cell? ⟨b', off' + k, none⟩ = some (.int .i64 z)) (first | go_keep) (first | (go_at_call 41; (with_reducible refine (rpart_v _ _ _ A1.out Z1.out _ HX).mono ?_); rintro e w' ⟨rfl, rfl⟩))
          go_wp2
          go_roundg (m - (k + 1))
          case measure => have := HGK.out; omega
          case rel => exact ⟨k + 1, by omega, rfl, by go_num, by rw [EN.out], KA.out.drew⟩
        · obtain rfl : k = L := by omega
          obtain ⟨rfl, rfl⟩ : v = 0 ∧ e = 1 := by rcases HV.out with ⟨_, h⟩ | ⟨h, _⟩; exact h; omega
          have hb0 := H2.out hlt
          rw [ha, hzr] at hb0
          clear ha hzr hkL HV
          by_cases hma : Mon a
          · have hrz : ¬ (0 ≤ z ∧ z ≤ 1000000) := fun h => hb0 ⟨hma, h⟩
            have HMA := Lib.hid hma
            have HRZ := Lib.hid hrz
            clear hma hrz hb0
            go_wp2_with (first | (go_at_call 39; (with_reducible refine (rmoney_yes _ _ HMA.out).mono ?_); rintro e w' ⟨rfl, rfl⟩) | (go_at_call 40; (with_reducible refine (rright_no _ _ HRZ.out).mono ?_); rintro e w' ⟨rfl, rfl⟩))
            go_ret2
            exact ⟨rfl, HW.out.alloc hz _⟩
          · have HMA := Lib.hid hma
            clear hma hb0
            go_wp2_with (first | (go_at_call 39; (with_reducible refine (rmoney_no _ _ HMA.out).mono ?_); rintro e w' ⟨rfl, rfl⟩))
            go_ret2
            exact ⟨rfl, HW.out.alloc hz _⟩
      · obtain rfl : k = m := by omega
        obtain rfl : L = k := by omega
        rcases HV.out with ⟨h, _⟩ | ⟨_, ⟨h1, rfl, rfl⟩ | ⟨h1, hv, rfl⟩⟩
        · omega
        · rw [HT.out] at h1
          have HM := Lib.hid h1
          clear hlt h1 HV
          go_wp2_with (first | (go_at_call 39; (with_reducible refine (rmoney_no _ _ HM.out).mono ?_); rintro e w' ⟨rfl, rfl⟩))
          go_ret2
          exact ⟨rfl, HW.out⟩
        · rw [HT.out] at h1 hv
          subst hv
          have HM := Lib.hid h1
          clear hlt h1 HV
          go_wp2_with (first | (go_at_call 39; (with_reducible refine (rmoney_yes _ _ HM.out).mono ?_); rintro e w' ⟨rfl, rfl⟩))
          go_ret2
          exact ⟨rfl, HW.out⟩
  · obtain ⟨rfl, rfl⟩ : v = 0 ∧ e = 1 := by
      rcases H with ⟨_, h⟩ | ⟨h, _⟩ | ⟨h, _⟩
      · exact h
      · exact absurd h.1 hmk
      · exact absurd h.1 hmk
    have ee : ((m : Int) != (k0 : Int)) = true := by simp; omega
    clear H hmk
    go_enter Try.func23, Try.ntmps23
    go_wp2
    go_ret2
    exact ⟨rfl, Below.refl _ _⟩
end Go.Proofs.Ytnhnimchjbhnfaa
