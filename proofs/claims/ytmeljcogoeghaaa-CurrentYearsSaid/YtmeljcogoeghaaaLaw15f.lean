/- CurrentYears: its walk. -/
import Derived.Test.YtmeljcogoeghaaaLaw15d
import Derived.Test.YtmeljcogoeghaaaLaw15b
import Derived.Laws.StructEq
namespace Go.Proofs.Ytmeljcogoeghaaa
open Go.RowKit

/-- one row, or none -/
theorem lvec_none (u : Int) (w : World) : Calls Try.prog 14 #[.int .i64 0, .int .i64 u] w fun e w' => e = .returned (.slice none 0 0) ∧ Below w.heap.size w w' := by
  go_enter Try.func14, Try.ntmps14
  go_wp2
  go_ret
  exact ⟨rfl, Below.refl _ _⟩
theorem lvec_one (i u : Int) (w : World) (h : ¬ i = 0) : Calls Try.prog 14 #[.int .i64 i, .int .i64 u] w fun e w' => ∃ A, e = .returned (.slice A 1 1) ∧ At w' A 1 (fun _ => u) ∧ Below w.heap.size w w' := by
  have L := Lib.hid (lit_row w [u] 3)
  go_enter Try.func14, Try.ntmps14
  go_wp2
  go_ret
  exact ⟨_, rfl, L.out.at.ext (fun j hj => by obtain rfl : j = 0 := by simpa using hj
                                              rfl), (Below.refl _ _).alloc (Nat.le_refl _) _⟩
theorem lvec_any (i u : Int) (q : Nat) (f : Nat → Int) (h : (i = 0 ∧ q = 0) ∨ (i ≠ 0 ∧ q = 1 ∧ f 0 = u)) (w : World) : Calls Try.prog 14 #[.int .i64 i, .int .i64 u] w fun e w' => ∃ A c, e = .returned (.slice A q c) ∧ At w' A q f ∧ Below w.heap.size w w' := by
  rcases h with ⟨rfl, rfl⟩ | ⟨h1, rfl, h2⟩
  · exact (lvec_none u w).mono fun e w' h => ⟨none, 0, h.1, .inl rfl, h.2⟩
  · refine (lvec_one i u w h1).mono ?_
    rintro e w' ⟨A, rfl, ha, hb⟩
    exact ⟨A, 1, rfl, ha.ext (fun j hj => by obtain rfl : j = 0 := by omega
                                             exact h2.symm), hb⟩
theorem btot15 (loss life : Int) : btot (g15 loss life) 1 = loss := by show 0 + loss = loss; omega
set_option maxHeartbeats 16000000 in
set_option maxRecDepth 100000 in
theorem currentYears_walk (a0 a1 a2 a3 : Int) (w : World) :
    Calls Try.prog 3 #[.int .i64 a0, .int .i64 a1, .int .i64 a2, .int .i64 a3] w fun e w' => e = .returned (.bool true) ∧ Below w.heap.size w w' := by
  have W := Lib.hid fun w => wakes15_any w
  obtain ⟨loss, hl⟩ : ∃ loss, a0 % 100000 + 1 = loss := ⟨_, rfl⟩
  obtain ⟨y, hy⟩ : ∃ y, a1 % 100000 = y := ⟨_, rfl⟩
  obtain ⟨life, hf⟩ : ∃ life, a2 % 5 + 1 = life := ⟨_, rfl⟩
  obtain ⟨wait, hw⟩ : ∃ wait, a3 % 8 + 1 = wait := ⟨_, rfl⟩
  have E1 := Lib.hid (show a0 % 100000 = loss - 1 by omega)
  have E2 := Lib.hid hy
  have E3 := Lib.hid (show a2 % 5 = life - 1 by omega)
  have E4 := Lib.hid (show a3 % 8 = wait - 1 by omega)
  have b1 : 1 ≤ loss ∧ loss ≤ 100000 := by omega
  have b2 : 0 ≤ y ∧ y ≤ 100000 := by omega
  have b3 : 1 ≤ life ∧ life ≤ 5 := by omega
  have b4 : 1 ≤ wait ∧ wait ≤ 8 := by omega
  have f1 : 1 + (loss - 1) = loss := by omega
  have f3 : 1 + (life - 1) = life := by omega
  have f4 : 1 + (wait - 1) = wait := by omega
  obtain ⟨income, hi⟩ : ∃ income, 2 * y = income := ⟨_, rfl⟩
  have bi : 0 ≤ income ∧ income ≤ 200000 := by omega
  have HI := Lib.hid hi
  have CN := Lib.hid (pvnew w w (fun _ => 0) (Fin0.zero _ _) (Below.refl _ _) 1)
  clear hl hy hf hw
  go_enter Try.func3, Try.ntmps3
  go_wp2_with (go_at_call 7; (first | (with_reducible refine (within_at _ _ _ _ (by omega) (by omega) E1).mono ?_) | (with_reducible refine (within_at _ _ _ _ (by omega) (by omega) E2).mono ?_) | (with_reducible refine (within_at _ _ _ _ (by omega) (by omega) E3).mono ?_) | (with_reducible refine (within_at _ _ _ _ (by omega) (by omega) E4).mono ?_)); rintro e w' ⟨rfl, rfl⟩)
  clear f1 f3 f4 hi
  refine (CN.out).mono ?_
  rintro e w1 ⟨sb, O1, rfl, n1, st1⟩
  have L1 := Lib.hid n1.low
  have CP := Lib.hid (ptax_ok n1 (VInv.zero _) ⟨-loss, 0, 0, 500000, life, 3, 250000⟩ (by dsimp only; omega) _ (made15 b1 b3))
  unfold txa at CP
  dsimp only at CP
  clear n1 st1 CN
  go_wp2_with fail
  refine (CP.out).mono ?_
  rintro e w2 ⟨sb2, O2, U2, c2, rfl, n2, _, _, hb2⟩
  have hb := btot15 loss life
  have K2 := Lib.hid (L1.out.trans (hb2.mono L1.out.size))
  obtain ⟨w3, hw3⟩ : ∃ w3, w2.alloc (.cells (txl (-loss) 0 0 loss 0 0 (.slice U2 0 c2)).toArray 25) = w3 := ⟨_, rfl⟩
  have R3 := rec_lit w2 (txl (-loss) 0 0 loss 0 0 (.slice U2 0 c2)) 25 w2.heap.size rfl
  have hb3 := (Below.refl w2.heap.size w2).alloc (Nat.le_refl _) (.cells (txl (-loss) 0 0 loss 0 0 (.slice U2 0 c2)).toArray 25)
  rw [hw3] at R3 hb3
  have K3 := Lib.hid (K2.out.trans (hb3.mono K2.out.size))
  have N3 := Lib.hid (n2.below hb3)
  have CL := Lib.hid fun w4 (k : Below w3.heap.size w3 w4) => pvleft (N3.out.below k) (is15 b1 b3).is
  rw [hb] at CL
  have CR := Lib.hid fun w4 (k : Below w3.heap.size w3 w4) => pvrows (N3.out.below k) (is15 b1 b3).is
  have IV := Lib.hid (is15 b1 b3)
  have YR := Lib.hid (years15 b1 b3 bi b4)
  have H3 := Lib.hid (show w2.alloc (.cells #[.int .i64 (-loss), .int .i64 0, .int .i64 0, .int .i64 loss, .int .i64 0, .int .i64 0, .slice U2 0 c2] 25) = w3 from hw3)
  clear hw3 R3 hb3 n2 hb2 CP hb K2
  go_wp2_with fail
  rw [H3.out]
  clear H3
  refine (CL.out _ (Below.refl _ _)).mono ?_
  rintro e w4 ⟨rfl, hb4⟩
  have K4 := Lib.hid hb4
  clear hb4 CL
  go_wp2_with fail
  refine (CR.out _ K4.out).mono ?_
  rintro e w5 ⟨A5, c5, rfl, _, _, _, hb5⟩
  have K5 := Lib.hid (K4.out.trans (hb5.mono K4.out.size))
  clear hb5 K4
  go_wp2_with fail
  refine (CR.out _ K5.out).mono ?_
  rintro e w6 ⟨A6, c6, rfl, _, _, ho6, hb6⟩
  have K6 := Lib.hid (K5.out.trans (hb6.mono K5.out.size))
  obtain ⟨A7, c7, e7, _, _, _, ha7⟩ := ho6.at ve_len
  injection e7 with e7 _ _
  subst e7
  obtain ⟨b6, off6, rfl, _, d0, d1, d2⟩ := ha7.threeV (show 0 < 1 by omega)
  rw [Nat.zero_mul, Nat.add_zero] at d0 d1 d2
  have d0 : w6.cell? ⟨b6, off6, none⟩ = some (.int .i64 3) := d0
  have d1 : w6.cell? ⟨b6, off6 + 1, none⟩ = some (.int .i64 (3 + life)) := d1
  have d2 : w6.cell? ⟨b6, off6 + 2, none⟩ = some (.int .i64 loss) := d2
  have N6 := Lib.hid (N3.out.below K6.out)
  have L6 := Lib.hid (K3.out.trans (K6.out.mono K3.out.size))
  obtain ⟨x, S', hok, hxi, hxt, hx⟩ := YR.out
  obtain ⟨n', g', iv', hl'⟩ := hok.left IV.out
  have CP := Lib.hid (ptax_ok N6.out IV.out ⟨income, 0, 0, 500000, life, 3 + wait, 250000⟩ (by dsimp only; omega) _ hok)
  have hxn : x.new = 0 := by have := (hok.bd IV.out).2.2.2.2.2.2.2.2; by_cases z : 0 < x.inc; exact this.2.1 z; have := this.1; omega
  rw [btot15, hxn] at hl'
  have IV' := Lib.hid iv'
  obtain ⟨inc, ex, used, nw, txb, tax, q, u⟩ := x
  unfold txa at CP
  dsimp only at CP hxi hxt hx hl' hxn
  subst hxi
  subst hxn
  have HX := Lib.hid hx
  have HL := Lib.hid hl'
  have HT := Lib.hid hxt
  have hq := (hok.bd IV.out).2.2.2.2.2.2.2.2.2.2
  dsimp only at hq
  clear hok hx hl' hxt iv' YR hb6 ho6 ha7 K5 K6 CR N3
  go_wp2_with fail
  refine (CP.out).mono ?_
  rintro e w7 ⟨sb7, O7, U7, c7', rfl, n7, hat7, hc7, hb7⟩
  obtain ⟨w8, hw8⟩ : ∃ w8, w7.alloc (.cells (txl inc ex used 0 txb tax (.slice U7 q c7')).toArray 25) = w8 := ⟨_, rfl⟩
  have R8 := rec_lit w7 (txl inc ex used 0 txb tax (.slice U7 q c7')) 25 w7.heap.size rfl
  have hb8 := (Below.refl w7.heap.size w7).alloc (Nat.le_refl _) (.cells (txl inc ex used 0 txb tax (.slice U7 q c7')).toArray 25)
  have H8 := Lib.hid (show w7.alloc (.cells #[.int .i64 inc, .int .i64 ex, .int .i64 used, .int .i64 0, .int .i64 txb, .int .i64 tax, .slice U7 q c7'] 25) = w8 from hw8)
  rw [hw8] at R8 hb8
  have k78 := hb7.trans (hb8.mono hb7.size)
  have L8 := Lib.hid (L6.out.trans (k78.mono L6.out.size))
  have N8 := Lib.hid (n7.below hb8)
  have M8 := Lib.hid (N6.out.below k78)
  have A8 := Lib.hid (hat7.below hb8)
  obtain ⟨M, hM⟩ : ∃ M, btot g' n' = M := ⟨_, rfl⟩
  have CM := Lib.hid fun w9 (k : Below w8.heap.size w8 w9) => pvleft (N8.out.below k) IV'.out.is
  have CL := Lib.hid fun w9 (k : Below w8.heap.size w8 w9) => pvleft (M8.out.below k) IV.out.is
  rw [btot15] at CL
  rw [hM] at CM HL
  have z1 := R8 1 _ rfl
  have z2 := R8 2 _ rfl
  have z4 := R8 4 _ rfl
  have z6 := R8 6 _ rfl
  have ZK := Lib.hid fun w9 (k : Below w8.heap.size w8 w9) => And.intro (cell_keep z1 k) (And.intro (cell_keep z2 k) (And.intro (cell_keep z4 k) (cell_keep z6 k)))
  clear hw8 R8 hb8 k78 n7 hat7 hb7 CP z1 z2 z4 z6 N8 M8 N6 hM
  rcases HX.out with ⟨v1, v2, v3⟩ | ⟨v1, v2, v3, v4⟩
  · subst v2 v3
    obtain ⟨z1, z2, z4, z6⟩ := ZK.out _ (Below.refl _ _)
    have ht : txb = inc := by have := HT.out; omega
    have hm : M = 0 := by have := HL.out; omega
    subst ht hm
    clear HX HT HL HI
    go_wp2_with fail
    rw [H8.out]
    clear H8
    go_wp2_with (first | (go_at_call 10; (with_reducible refine (CM.out _ (Below.refl _ _)).mono ?_); rintro e w9 ⟨rfl, hb9⟩; have J9 := Lib.hid hb9; clear hb9) | (go_at_call 10; (with_reducible refine (CL.out _ J9.out).mono ?_); rintro e w10 ⟨rfl, hb10⟩; have J10 := Lib.hid (J9.out.trans (hb10.mono J9.out.size)); clear hb10) | (go_at_call 12; (with_reducible refine (W.out _).mono ?_); rintro e w15 ⟨rfl, hb15⟩; have J15 := Lib.hid (J10.out.trans (hb15.mono J10.out.size)); clear hb15))
    go_ret
    exact ⟨rfl, L8.out.trans (J15.out.mono L8.out.size)⟩
  · subst v2
    have hy2 : inc / 2 = y := by have := HI.out; omega
    have hy3 : inc.tdiv 2 = y := by rw [Int.tdiv_eq_ediv_of_nonneg bi.1]; exact hy2
    rw [hy2] at v3
    have HV := Lib.hid v4
    have u1 : 0 ≤ used ∧ used ≤ 100000 := by omega
    have s1 : IntKind.i64.wrap (inc - used) = txb := by rw [IntWalk.i64_in _ (by omega)]; exact HT.out.symm
    have s2 : IntKind.i64.wrap (loss - used) = M := by rw [IntWalk.i64_in _ (by omega)]; have := HL.out; omega
    have CV := Lib.hid fun w9 => lvec_any inc used q u (by
      rcases HV.out with ⟨k1, k2⟩ | ⟨k1, k2, k3⟩
      · exact .inl ⟨k1, k2⟩
      · exact .inr ⟨k1, k2, k3⟩) w9
    have J8 := Lib.hid (below_drew w8)
    clear HX HT HL HI v4
    have ways : (y < loss ∧ Hid (used = y)) ∨ (¬ y < loss ∧ Hid (used = loss)) := by
      by_cases k : y < loss
      · exact .inl ⟨k, Lib.hid (by omega)⟩
      · exact .inr ⟨k, Lib.hid (by omega)⟩
    clear v3
    rcases ways with ⟨k1, hu⟩ | ⟨k1, hu⟩
    · have hu := hu.out
      subst hu
      go_wp2_with fail
      rw [H8.out]
      clear H8
      obtain ⟨z1, z2, z4, z6⟩ := ZK.out _ (Below.refl _ _)
      go_region_held3 (fun w' => w'.cell? ⟨w7.heap.size, 1, none⟩ = some (.int .i64 0) ∧ w'.cell? ⟨w7.heap.size, 2, none⟩ = some (.int .i64 used) ∧ w'.cell? ⟨w7.heap.size, 4, none⟩ = some (.int .i64 txb) ∧ w'.cell? ⟨w7.heap.size, 6, none⟩ = some (.slice U7 q c7')) (first | go_keep) (first | (go_at_call 10; (with_reducible refine (CM.out _ J8.out).mono ?_); rintro e w9 ⟨rfl, hb9⟩; have J9 := Lib.hid (J8.out.trans (hb9.mono J8.out.size)); obtain ⟨x1_9, x2_9, x4_9, x6_9⟩ := ZK.out _ J9.out; clear hb9) | (go_at_call 14; (with_reducible refine (CV.out _).mono ?_); rintro e w10 ⟨A10, c10, rfl, hat10, hb10⟩; have J10 := Lib.hid (J9.out.trans (hb10.mono J9.out.size)); have AT10 := Lib.hid hat10; obtain ⟨x1_10, x2_10, x4_10, x6_10⟩ := ZK.out _ J10.out; clear hb10 hat10) | (go_at_call 13; (with_reducible refine (same_true _ _ _ _ _ _ _ _ (A8.out.below J10.out) AT10.out (by omega) (fun _ _ => rfl)).mono ?_); rintro e w11 ⟨rfl, hb11⟩; have J11 := Lib.hid (J10.out.trans (hb11.mono J10.out.size)); obtain ⟨x1_11, x2_11, x4_11, x6_11⟩ := ZK.out _ J11.out; clear hb11) | (go_at_call 12; (with_reducible refine (W.out _).mono ?_); rintro e w15 ⟨rfl, hb15⟩; have J15 := Lib.hid (J11.out.trans (hb15.mono J11.out.size)); obtain ⟨x1_15, x2_15, x4_15, x6_15⟩ := ZK.out _ J15.out; clear hb15))
      go_wp2
      go_ret
      exact ⟨rfl, L8.out.trans (J15.out.mono L8.out.size)⟩
    · have hu := hu.out
      subst hu
      have hm : M = 0 := by rw [← s2, Int.sub_self]; rfl
      subst hm
      clear s2
      have e0 : IntKind.i64.wrap 0 = 0 := by decide
      go_wp2_with fail
      rw [H8.out]
      clear H8
      obtain ⟨z1, z2, z4, z6⟩ := ZK.out _ (Below.refl _ _)
      go_region_held3 (fun w' => w'.cell? ⟨w7.heap.size, 1, none⟩ = some (.int .i64 0) ∧ w'.cell? ⟨w7.heap.size, 2, none⟩ = some (.int .i64 used) ∧ w'.cell? ⟨w7.heap.size, 4, none⟩ = some (.int .i64 txb) ∧ w'.cell? ⟨w7.heap.size, 6, none⟩ = some (.slice U7 q c7')) (first | go_keep) (first | (go_at_call 10; (with_reducible refine (CM.out _ J8.out).mono ?_); rintro e w9 ⟨rfl, hb9⟩; have J9 := Lib.hid (J8.out.trans (hb9.mono J8.out.size)); obtain ⟨x1_9, x2_9, x4_9, x6_9⟩ := ZK.out _ J9.out; clear hb9) | (go_at_call 14; (with_reducible refine (CV.out _).mono ?_); rintro e w10 ⟨A10, c10, rfl, hat10, hb10⟩; have J10 := Lib.hid (J9.out.trans (hb10.mono J9.out.size)); have AT10 := Lib.hid hat10; obtain ⟨x1_10, x2_10, x4_10, x6_10⟩ := ZK.out _ J10.out; clear hb10 hat10) | (go_at_call 13; (with_reducible refine (same_true _ _ _ _ _ _ _ _ (A8.out.below J10.out) AT10.out (by omega) (fun _ _ => rfl)).mono ?_); rintro e w11 ⟨rfl, hb11⟩; have J11 := Lib.hid (J10.out.trans (hb11.mono J10.out.size)); obtain ⟨x1_11, x2_11, x4_11, x6_11⟩ := ZK.out _ J11.out; clear hb11) | (go_at_call 12; (with_reducible refine (W.out _).mono ?_); rintro e w15 ⟨rfl, hb15⟩; have J15 := Lib.hid (J11.out.trans (hb15.mono J11.out.size)); obtain ⟨x1_15, x2_15, x4_15, x6_15⟩ := ZK.out _ J15.out; clear hb15))
      go_wp2
      go_ret
      exact ⟨rfl, L8.out.trans (J15.out.mono L8.out.size)⟩
end Go.Proofs.Ytmeljcogoeghaaa
