/- RemeasureParts: its walk. -/
import Derived.Test.YtolmdoigcaaieaaLaw17a
import Derived.BigQuiet
import Derived.Deep.QuietTactic
import Derived.Deep.RegionHeld3
import Derived.Deep.DeepCutAuto
import Derived.Laws.StructEq
namespace Go.Proofs.Ytolmdoigcaaieaa
open Go.RowKit

/-- two rows of rates that the law writes -/
structure TwoR (v w : World) (B1 B2 m : Nat) (f1 f2 : Nat → Int) : Prop where
  o : Own w 3 v.heap.size (.slice (some ⟨B1, 0, none⟩) m m) m f1
  z : Own w 3 v.heap.size (.slice (some ⟨B2, 0, none⟩) m m) m f2
  ne : B1 ≠ B2
  low : Below v.heap.size v w
  ok1 : ∀ j, RtOk (f1 j)
  ok2 : ∀ j, RtOk (f2 j)
theorem slice_at {B n c y : Nat} (h : (Value.slice (some ⟨B, 0, none⟩) n c).ownBlock = some y) : y = B := by
  have : B = y := by simpa [Value.ownBlock] using h
  exact this.symm
section
variable {v w w1 : World} {B1 B2 m k : Nat} {f1 f2 : Nat → Int} {x : Int}
theorem TwoR.below (h : TwoR v w B1 B2 m f1 f2) (kb : Below w.heap.size w w1) : TwoR v w1 B1 B2 m f1 f2 := ⟨h.o.below kb, h.z.below kb, h.ne, h.low.trans (kb.mono h.low.size), h.ok1, h.ok2⟩
theorem TwoR.set1 (h : TwoR v w B1 B2 m f1 f2) (k : Nat) (hx : RtOk x) : TwoR v (w.setCell ⟨B1, k, none⟩ (.int .i64 x)) B1 B2 m (fun j => if j = k then x else f1 j) f2 :=
  ⟨h.o.set k x, own_blocks h.z fun y hy => Below.heap_setCell _ _ _ _ (by rw [slice_at hy]; exact fun q => h.ne q.symm), h.ne, h.low.setCell (World.ownsRow.lt h.o B1 rfl).1 _, fun j => by split; exact hx; exact h.ok1 j, h.ok2⟩
theorem TwoR.set2 (h : TwoR v w B1 B2 m f1 f2) (k : Nat) (hx : RtOk x) : TwoR v (w.setCell ⟨B2, k, none⟩ (.int .i64 x)) B1 B2 m f1 (fun j => if j = k then x else f2 j) :=
  ⟨own_blocks h.o fun y hy => Below.heap_setCell _ _ _ _ (by rw [slice_at hy]; exact h.ne), h.z.set k x, h.ne, h.low.setCell (World.ownsRow.lt h.z B2 rfl).1 _, h.ok1, fun j => by split; exact hx; exact h.ok2 j⟩
end

section
variable {S : Int → Int → Int} {n : Nat} {g : Nat → Bk} {o z : Nat → Int}
theorem parts_still (hg : ∀ j, j < n → Mon (g j).a) (ho : ∀ j, RtOk (o j)) (hz : ∀ j, RtOk (z j)) : ∃ r e, RmIs n (fun j => ⟨(g j).c, (g j).y, (g j).a, 0, (g j).a⟩) n o n z 0 r e ∧ (e = 0 ∨ e = 6) := by
  have a : RArgs n (fun j => ⟨(g j).c, (g j).y, (g j).a, 0, (g j).a⟩) n o n z := ⟨rfl, rfl, fun i hi => ⟨⟨ho i, hz i⟩, hg i hi, hg i hi⟩⟩
  have m0 : tot (mvU (fun j => ⟨(g j).c, (g j).y, (g j).a, 0, (g j).a⟩) z) n = 0 := tot_zero n fun i _ => by unfold mvU; show rof (g i).a (z i) - rof (g i).a (z i) = 0; omega
  by_cases h : Mon (tot (rtU (fun j => ⟨(g j).c, (g j).y, (g j).a, 0, (g j).a⟩) o z) n)
  · exact ⟨_, 0, .inr (.inr ⟨a, ⟨by rw [m0]; exact zero_mon 0 0, h⟩, m0.symm, rfl, rfl⟩), .inl rfl⟩
  · exact ⟨0, 6, .inr (.inl ⟨a, fun q => h q.2, rfl, rfl, rfl⟩), .inr rfl⟩
theorem parts_same (hg : ∀ j, j < n → Mon (g j).a) (ho : ∀ j, RtOk (o j)) : RmIs n (fun j => ⟨(g j).c, (g j).y, (g j).a, 0, (g j).a⟩) n o n o 0 0 0 := by
  have m0 : tot (mvU (fun j => ⟨(g j).c, (g j).y, (g j).a, 0, (g j).a⟩) o) n = 0 := tot_zero n fun i _ => by unfold mvU; show rof (g i).a (o i) - rof (g i).a (o i) = 0; omega
  have r0 : tot (rtU (fun j => ⟨(g j).c, (g j).y, (g j).a, 0, (g j).a⟩) o o) n = 0 := tot_zero n fun i _ => by unfold rtU; show rof (g i).a (o i) - rof (g i).a (o i) = 0; omega
  exact .inr (.inr ⟨⟨rfl, rfl, fun i hi => ⟨⟨ho i, ho i⟩, hg i hi, hg i hi⟩⟩, ⟨by rw [m0]; exact zero_mon 0 0, by rw [r0]; exact zero_mon 0 0⟩, m0.symm, r0.symm, rfl⟩)
theorem parts_fresh (hg : ∀ j, j < n → Mon (g j).a) (ho : ∀ j, RtOk (o j)) (hz : ∀ j, RtOk (z j)) : ∃ m e, RmIs n (fun j => ⟨(g j).c, (g j).y, 0, (g j).a, (g j).a⟩) n o n z m 0 e ∧ TempIs g n z n (-m) e ∧ (e = 0 ∨ e = 6) := by
  have a : RArgs n (fun j => ⟨(g j).c, (g j).y, 0, (g j).a, (g j).a⟩) n o n z := ⟨rfl, rfl, fun i hi => ⟨⟨ho i, hz i⟩, zero_mon 0 0, hg i hi⟩⟩
  have b : TArgs g n z n := ⟨rfl, fun i hi => ⟨hg i hi, hz i⟩⟩
  have m0 : tot (mvU (fun j => ⟨(g j).c, (g j).y, 0, (g j).a, (g j).a⟩) z) n = tot (partU g z) n := tot_ext n fun i _ => by unfold mvU partU; show rof (g i).a (z i) - rof 0 (z i) = rof (g i).a (z i); rw [rof_nil]; omega
  have r0 : tot (rtU (fun j => ⟨(g j).c, (g j).y, 0, (g j).a, (g j).a⟩) o z) n = 0 := tot_zero n fun i _ => by unfold rtU; show rof 0 (z i) - rof 0 (o i) = 0; rw [rof_nil, rof_nil]; rfl
  by_cases h : Mon (tot (partU g z) n)
  · refine ⟨tot (partU g z) n, 0, .inr (.inr ⟨a, ⟨by rw [m0]; exact h, by rw [r0]; exact zero_mon 0 0⟩, m0.symm, r0.symm, rfl⟩), .inr (.inr ⟨b, ?_, rfl, rfl⟩), .inl rfl⟩
    unfold Mon at h ⊢; omega
  · refine ⟨0, 6, .inr (.inl ⟨a, fun q => h (by rw [← m0]; exact q.1), rfl, rfl, rfl⟩), .inr (.inl ⟨b, fun q => h ?_, rfl, rfl⟩), .inr rfl⟩
    unfold Mon at q ⊢; omega
theorem parts_gone (hg : ∀ j, j < n → Mon (g j).a) (ho : ∀ j, RtOk (o j)) : ∃ m e, RmIs n (fun j => ⟨(g j).c, (g j).y, (g j).a, -(g j).a, 0⟩) n o n o m 0 e ∧ TempIs g n o n m e ∧ (e = 0 ∨ e = 6) := by
  have a : RArgs n (fun j => ⟨(g j).c, (g j).y, (g j).a, -(g j).a, 0⟩) n o n o := ⟨rfl, rfl, fun i hi => ⟨⟨ho i, ho i⟩, hg i hi, zero_mon 0 0⟩⟩
  have b : TArgs g n o n := ⟨rfl, fun i hi => ⟨hg i hi, ho i⟩⟩
  have m0 : tot (mvU (fun j => ⟨(g j).c, (g j).y, (g j).a, -(g j).a, 0⟩) o) n = -tot (partU g o) n := by
    rw [← tot_neg]
    exact tot_ext n fun i _ => by unfold mvU partU; show rof 0 (o i) - rof (g i).a (o i) = -rof (g i).a (o i); rw [rof_nil]; omega
  have r0 : tot (rtU (fun j => ⟨(g j).c, (g j).y, (g j).a, -(g j).a, 0⟩) o o) n = 0 := tot_zero n fun i _ => by unfold rtU; show rof (g i).a (o i) - rof (g i).a (o i) = 0; omega
  by_cases h : Mon (-tot (partU g o) n)
  · exact ⟨-tot (partU g o) n, 0, .inr (.inr ⟨a, ⟨by rw [m0]; exact h, by rw [r0]; exact zero_mon 0 0⟩, m0.symm, r0.symm, rfl⟩), .inr (.inr ⟨b, h, rfl, rfl⟩), .inl rfl⟩
  · exact ⟨0, 6, .inr (.inl ⟨a, fun q => h (by rw [← m0]; exact q.1), rfl, rfl, rfl⟩), .inr (.inl ⟨b, h, rfl, rfl⟩), .inr rfl⟩
end
/-- a change's two cells -/
def CH (w : World) (b : Nat) (m r : Int) : Prop := w.cell? ⟨b, 0, none⟩ = some (.int .i64 m) ∧ w.cell? ⟨b, 1, none⟩ = some (.int .i64 r)
theorem CH.below {w w1 : World} {b : Nat} {m r : Int} (h : CH w b m r) (k : Below w.heap.size w w1) : CH w1 b m r := ⟨cell_keep h.1 k, cell_keep h.2 k⟩
theorem CH.lit (w : World) (m r : Int) (T : TypeId) : CH (w.alloc (.cells #[.int .i64 m, .int .i64 r] T)) w.heap.size m r :=
  have h := rec_lit w [.int .i64 m, .int .i64 r] T w.heap.size rfl
  ⟨h 0 _ rfl, h 1 _ rfl⟩
set_option maxHeartbeats 16000000 in
set_option maxRecDepth 100000 in
theorem remeasureParts_walk (a0 : Option Addr) (len0 cap0 : Nat) (z0 : List Int) (a1 : Option Addr) (len1 cap1 : Nat) (z1 : List Int) (a2 : Option Addr) (len2 cap2 : Nat) (z2 : List Int) (w : World) (w0 : IsRow .i64 w a0 len0 cap0 z0) (w1 : IsRow .i64 w a1 len1 cap1 z1) (w2 : IsRow .i64 w a2 len2 cap2 z2) :
    Calls Try.prog 7 #[.slice a0 len0 cap0, .slice a1 len1 cap1, .slice a2 len2 cap2] w fun e w' => e = .returned (.bool true) ∧ Below w.heap.size w w' := by
  have W := Lib.hid fun w => wakes17_any w
  have CA := Lib.hid (preg_own a0 len0 cap0 z0 w w0)
  obtain ⟨fo, hfo⟩ : ∃ f : Nat → Int, (fun j => z1.getD j 0) = f := ⟨_, rfl⟩
  obtain ⟨fn, hfn⟩ : ∃ f : Nat → Int, (fun j => z2.getD j 0) = f := ⟨_, rfl⟩
  have RO := Lib.hid w1.at.1
  have RN := Lib.hid w2.at.1
  rw [hfo] at RO
  rw [hfn] at RN
  clear w0 w1 w2 hfo hfn
  go_enter Try.func7, Try.ntmps7
  go_wp2_with fail
  refine (CA.out).mono ?_
  rintro e v3 ⟨sx, Ax, cx, m, g, S, rfl, x0, hcx, ivx, hox, hb3⟩
  have hmk := run_make_row' (P := Try.prog) 22 3 (.int .i64 0) 8 Try.underlying22 int_info rfl .i64 .i64 m (by have := ivx.le; omega) (by have := ivx.le; omega)
  have HOX := Lib.hid (own_at3 hox)
  have IX := Lib.hid ivx
  have CX := Lib.hid hcx
  have B3 := Lib.hid hb3
  have hm12 := ivx.le
  clear hox ivx hcx hb3 CA
  go_upto_region 2 with fail
  go_cut [8, 9] (fun s8 s9 wx => ∃ B1 B2 : Nat, s8 = .slice (some ⟨B1, 0, none⟩) m m ∧ s9 = .slice (some ⟨B2, 0, none⟩) m m ∧ TwoR v3 wx B1 B2 m (fun _ => 0) (fun _ => 0))
  case first =>
    have kM := (Below.refl v3.heap.size v3).alloc (Nat.le_refl _) (.cells (madeCells #[.int .i64 0] m) 3)
    have kM2 := Lib.hid (kM.alloc kM.size (.cells (madeCells #[.int .i64 0] m) 3)).drew
    have zM : (v3.alloc (.cells (madeCells #[.int .i64 0] m) 3)).heap.size = v3.heap.size + 1 := by simp
    have o1 := Lib.hid ((own_made v3 m 3 v3.heap.size (Nat.le_refl _) (by unfold maxLen; omega)).alloc (.cells (madeCells #[.int .i64 0] m) 3)).drew
    have o2 := Lib.hid (own_made (v3.alloc (.cells (madeCells #[.int .i64 0] m) 3)) m 3 v3.heap.size kM.size (by unfold maxLen; omega)).drew
    rw [zM] at o2
    have r0 : RtOk 0 := by unfold RtOk; omega
    clear kM zM
    go_region_held3 (fun _ => True) (trivial) (fail)
    all_goals
      go_wp2
      go_meet
      refine ⟨_, _, rfl, rfl, ⟨by first | exact o1.out | exact o2.out, by first | exact o1.out | exact o2.out, by omega, kM2.out, fun _ => r0, fun _ => r0⟩⟩
  case rest =>
    obtain ⟨B1, B2, rfl, rfl, htr⟩ := hcut
    obtain ⟨v4, rfl⟩ : ∃ v4, v4 = wc := ⟨_, rfl⟩
    have TR := Lib.hid htr
    clear htr hmk x0
    go_wp2
    go_loopg [10, 36] m (fun gh _ i wr => ∃ (k : Nat) (f1 f2 : Nat → Int), k ≤ m ∧ gh = m - k ∧ i = .int .i64 k ∧ TwoR v3 wr B1 B2 m f1 f2)
    case atStart => exact ⟨0, _, _, by omega, rfl, rfl, TR.out⟩
    case round =>
      obtain ⟨k, f1, f2, hk, hgk, rfl, ht⟩ := hrel
      have HGK := Lib.hid hgk
      have HT := Lib.hid ht
      clear hgk ht TR
      by_cases hlt : k < m
      · have K1 := Lib.hid (B3.out.trans (HT.out.low.mono B3.out.size))
        have f0 := (HT.out.o.row (show 0 < m by omega)).2 k hlt
        have g0 := (HT.out.z.row (show 0 < m by omega)).2 k hlt
        obtain ⟨d1, e1⟩ := f0
        obtain ⟨d2, e2⟩ := g0
        have l1 := (World.ownsRow.lt HT.out.o B1 rfl)
        have l2 := (World.ownsRow.lt HT.out.z B2 rfl)
        have n1 : ¬ B1 = B2 := HT.out.ne
        have n2 : ¬ B2 = B1 := fun e => n1 e.symm
        have k0 : (0 : Int) ≤ (k : Int) := by omega
        have k1 : (k : Int) < (m : Int) := by omega
        have T2 := Lib.hid ((HT.out.set1 k (x := 250000) (by unfold RtOk; omega)).set2 k (x := 1000000) (by unfold RtOk; omega))
        clear HT
        go_upto_if 48 with fail
        obtain ⟨w6, hw6⟩ : ∃ w6, (wr.setCell ⟨B1, k, none⟩ (.int .i64 250000)).setCell ⟨B2, k, none⟩ (.int .i64 1000000) = w6 := ⟨_, rfl⟩
        rw [hw6] at T2 ⊢
        clear d1 e1 d2 e2 hw6 K1
        have K6 := Lib.hid (B3.out.trans (T2.out.low.mono B3.out.size))
        obtain ⟨fa, hfa⟩ : ∃ fa : Nat → Int, (fun j => if j = k then 250000 else f1 j) = fa := ⟨_, rfl⟩
        obtain ⟨fb, hfb⟩ : ∃ fb : Nat → Int, (fun j => if j = k then 1000000 else f2 j) = fb := ⟨_, rfl⟩
        rw [hfa, hfb] at T2
        clear hfa hfb
        obtain ⟨d1, e1⟩ := (T2.out.o.row (show 0 < m by omega)).2 k hlt
        go_cut [55] (fun _ wx => ∃ fc : Nat → Int, TwoR v3 wx B1 B2 m fc fb)
        case first =>
          by_cases h0 : k < len1
          · obtain ⟨b, off, rfl, hb, hc⟩ := (RO.out.below K6.out).some (by omega)
            have c0 := hc k h0
            have kl : (k : Int) < (len1 : Int) := by omega
            have nb : ¬ b = B1 := fun e => by
              obtain ⟨b', off', e', hb', _⟩ := RO.out.some (show 0 < len1 by omega)
              injection e' with e'; injection e' with e'
              have := B3.out.size; omega
            obtain ⟨x, hx⟩ : ∃ x, fo k % 1000001 = x := ⟨_, rfl⟩
            have HX := Lib.hid hx
            have T7 := Lib.hid (T2.out.set1 k (x := x) (by unfold RtOk; omega))
            clear hc hx
            go_wp2_with (first | (go_at_call 8; (with_reducible refine (within_at _ _ _ _ (by omega) (by omega) HX).mono ?_); rintro e w' ⟨rfl, rfl⟩))
            go_meet
            exact ⟨_, T7.out⟩
          · have kl : ¬ (k : Int) < (len1 : Int) := by omega
            go_wp2
            go_meet
            exact ⟨_, T2.out⟩
        case rest =>
          obtain ⟨fc, ht7⟩ := hcut
          have T7 := Lib.hid ht7
          clear ht7 T2 d1 e1
          obtain ⟨w7, rfl⟩ : ∃ w7, w7 = wc := ⟨_, rfl⟩
          have K7 := Lib.hid (B3.out.trans (T7.out.low.mono B3.out.size))
          obtain ⟨d2, e2⟩ := (T7.out.z.row (show 0 < m by omega)).2 k hlt
          by_cases h0 : k < len2
          · obtain ⟨b, off, rfl, hb, hc⟩ := (RN.out.below K7.out).some (by omega)
            have c0 := hc k h0
            have kl : (k : Int) < (len2 : Int) := by omega
            have nb : ¬ b = B2 := fun e => by
              obtain ⟨b', off', e', hb', _⟩ := RN.out.some (show 0 < len2 by omega)
              injection e' with e'; injection e' with e'
              have := B3.out.size; omega
            obtain ⟨x, hx⟩ : ∃ x, fn k % 1000001 = x := ⟨_, rfl⟩
            have HX := Lib.hid hx
            have T8 := Lib.hid (T7.out.set2 k (x := x) (by unfold RtOk; omega))
            clear hc hx
            go_wp2_with (first | (go_at_call 8; (with_reducible refine (within_at _ _ _ _ (by omega) (by omega) HX).mono ?_); rintro e w' ⟨rfl, rfl⟩))
            go_roundg (m - (k + 1))
            case measure => have := HGK.out; omega
            case rel => exact ⟨k + 1, _, _, by omega, rfl, by go_num, T8.out⟩
          · have kl : ¬ (k : Int) < (len2 : Int) := by omega
            go_wp2
            go_roundg (m - (k + 1))
            case measure => have := HGK.out; omega
            case rel => exact ⟨k + 1, _, _, by omega, rfl, by go_num, T7.out⟩
      · obtain rfl : k = m := by omega
        have AX := Lib.hid (HOX.out.below HT.out.low)
        have A1 := Lib.hid (own_atI HT.out.o)
        have A2 := Lib.hid (own_atI HT.out.z)
        have LW := Lib.hid (B3.out.trans (HT.out.low.mono B3.out.size))
        obtain ⟨rs, es, hs, hes⟩ := parts_still (g := g) (n := k) (fun j hj => IX.out.is.mon IX.out.mon hj) HT.out.ok1 HT.out.ok2
        have hsa := parts_same (g := g) (n := k) (fun j hj => IX.out.is.mon IX.out.mon hj) HT.out.ok1
        obtain ⟨mf, ef, hf, htf, hef⟩ := parts_fresh (g := g) (n := k) (fun j hj => IX.out.is.mon IX.out.mon hj) HT.out.ok1 HT.out.ok2
        obtain ⟨mg, eg, hg, htg, heg⟩ := parts_gone (g := g) (n := k) (fun j hj => IX.out.is.mon IX.out.mon hj) HT.out.ok1
        have fs := (fis_still IX.out.is).fiw IX.out.mon IX.out.mon
        have ff := (fis_fresh IX.out.is).fiw zero_mon IX.out.mon
        have fg := (fis_gone IX.out.is).fiw IX.out.mon zero_mon
        have hkk : k ≤ k ∧ k ≤ maxLen := ⟨Nat.le_refl _, by unfold maxLen; omega⟩
        have h00 : (0 : Nat) ≤ 0 ∧ 0 ≤ maxLen := ⟨Nat.le_refl _, by unfold maxLen; omega⟩
        have C1 := Lib.hid (prem_any (c := cx) (c' := cx) (cu := k) (cv := k) AX.out AX.out IX.out.is IX.out.is (by omega) (by omega) CX.out CX.out A1.out A2.out hkk hkk fs hs)
        have C2 := Lib.hid fun x (q : Below wr.heap.size wr x) => prem_any (c := cx) (c' := cx) (cu := k) (cv := k) (AX.out.below q) (AX.out.below q) IX.out.is IX.out.is (by omega) (by omega) CX.out CX.out (A1.out.below q) (A1.out.below q) hkk hkk fs hsa
        have C3 := Lib.hid fun x (q : Below wr.heap.size wr x) => prem_any (w := x) (c := 0) (c' := cx) (cu := k) (cv := k) (at_none none g) (AX.out.below q) (bis_zero g) IX.out.is (by omega) (by omega) h00 CX.out (A1.out.below q) (A2.out.below q) hkk hkk ff hf
        have C4 := Lib.hid fun x (q : Below wr.heap.size wr x) => prem_any (w := x) (c := cx) (c' := 0) (cu := k) (cv := k) (AX.out.below q) (at_none none g) IX.out.is (bis_zero g) (by omega) (by omega) CX.out h00 (A1.out.below q) (A1.out.below q) hkk hkk fg hg
        have C5 := Lib.hid fun x (q : Below wr.heap.size wr x) => ptemp_any Ax (some ⟨B2, 0, none⟩) k cx k k g f2 (-mf) ef x (AX.out.below q) (A2.out.below q) (by omega) CX.out hkk htf
        have C6 := Lib.hid fun x (q : Below wr.heap.size wr x) => ptemp_any Ax (some ⟨B1, 0, none⟩) k cx k k g f1 mg eg x (AX.out.below q) (A1.out.below q) (by omega) CX.out hkk htg
        have mfb := hf.low.1
        unfold Mon at mfb
        have HES := Lib.hid hes
        have HEF := Lib.hid hef
        have HEG := Lib.hid heg
        clear hs hes hsa hf htf hef hg htg heg fs ff fg hkk h00 HT IX CX A1 A2 AX HOX RO RN B3 hlt HGK hk
        go_wp2_with fail
        refine (C1.out).mono ?_
        rintro e y1 ⟨rfl, hy1⟩
        have D1 := Lib.hid (CH.lit y1 0 rs 28)
        have Q1 := Lib.hid (hy1.alloc hy1.size (.cells #[.int .i64 0, .int .i64 rs] 28))
        clear hy1 C1
        go_wp2_with fail
        refine (C2.out _ Q1.out).mono ?_
        rintro e y2 ⟨rfl, hy2⟩
        have D2 := Lib.hid (CH.lit y2 0 0 28)
        have Q2' := Lib.hid ((Below.refl y2.heap.size y2).alloc (Nat.le_refl _) (.cells #[.int .i64 0, .int .i64 0] 28))
        replace D1 := Lib.hid ((D1.out.below hy2).below Q2'.out)
        have Q2 := Lib.hid ((Q1.out.trans (hy2.mono Q1.out.size)).trans (Q2'.out.mono (Q1.out.trans (hy2.mono Q1.out.size)).size))
        clear hy2 C2 Q1 Q2'
        go_wp2_with fail
        refine (C3.out _ Q2.out).mono ?_
        rintro e y3 ⟨rfl, hy3⟩
        have D3 := Lib.hid (CH.lit y3 mf 0 28)
        have Q3' := Lib.hid ((Below.refl y3.heap.size y3).alloc (Nat.le_refl _) (.cells #[.int .i64 mf, .int .i64 0] 28))
        replace D1 := Lib.hid ((D1.out.below hy3).below Q3'.out)
        replace D2 := Lib.hid ((D2.out.below hy3).below Q3'.out)
        have Q3 := Lib.hid ((Q2.out.trans (hy3.mono Q2.out.size)).trans (Q3'.out.mono (Q2.out.trans (hy3.mono Q2.out.size)).size))
        clear hy3 C3 Q2 Q3'
        go_wp2_with fail
        refine (C4.out _ Q3.out).mono ?_
        rintro e y4 ⟨rfl, hy4⟩
        have D4 := Lib.hid (CH.lit y4 mg 0 28)
        have Q4' := Lib.hid ((Below.refl y4.heap.size y4).alloc (Nat.le_refl _) (.cells #[.int .i64 mg, .int .i64 0] 28))
        replace D1 := Lib.hid ((D1.out.below hy4).below Q4'.out)
        replace D2 := Lib.hid ((D2.out.below hy4).below Q4'.out)
        replace D3 := Lib.hid ((D3.out.below hy4).below Q4'.out)
        have Q4 := Lib.hid ((Q3.out.trans (hy4.mono Q3.out.size)).trans (Q4'.out.mono (Q3.out.trans (hy4.mono Q3.out.size)).size))
        clear hy4 C4 Q3 Q4'
        go_wp2_with fail
        refine (C5.out _ Q4.out).mono ?_
        rintro e y5 ⟨rfl, hy5⟩
        replace D1 := Lib.hid (D1.out.below hy5)
        replace D2 := Lib.hid (D2.out.below hy5)
        replace D3 := Lib.hid (D3.out.below hy5)
        replace D4 := Lib.hid (D4.out.below hy5)
        have Q5 := Lib.hid (Q4.out.trans (hy5.mono Q4.out.size))
        clear hy5 C5 Q4
        go_wp2_with fail
        refine (C6.out _ Q5.out).mono ?_
        rintro e y6 ⟨rfl, hy6⟩
        obtain ⟨s0, s1⟩ := D1.out.below hy6
        obtain ⟨t0, t1⟩ := D2.out.below hy6
        obtain ⟨u0, u1⟩ := D3.out.below hy6
        obtain ⟨v0, v1⟩ := D4.out.below hy6
        have QF := Lib.hid (LW.out.trans ((Q5.out.trans (hy6.mono Q5.out.size)).mono LW.out.size))
        clear hy6 C6 Q5 D1 D2 D3 D4
        have nn : IntKind.i64.wrap (- -mf) = mf := by rw [Int.neg_neg]; exact IntWalk.i64_in _ (by omega)
        rcases HES.out with rfl | rfl <;> rcases HEF.out with rfl | rfl <;> rcases HEG.out with rfl | rfl
        all_goals
          go_wp2_with (go_at_call 11; (with_reducible refine (W.out _).mono ?_); rintro e9 x5 ⟨rfl, hx5⟩; have J5 := Lib.hid hx5; clear hx5)
          go_ret
          exact ⟨rfl, QF.out.trans (J5.out.mono QF.out.size)⟩
end Go.Proofs.Ytolmdoigcaaieaa
