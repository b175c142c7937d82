/- MeasureSums: its walk. -/
import Derived.Test.YtnhnimchjbhnfaaLaw16d
import Derived.BigQuiet
import Derived.Deep.QuietTactic
import Derived.Deep.RegionHeld3
namespace Go.Proofs.Ytnhnimchjbhnfaa
open Go.RowKit

def negB (g : Nat → Bk) : Nat → Bk := fun j => ⟨(g j).c, (g j).y, -(g j).a⟩
theorem part_neg (g : Nat → Bk) (r : Nat → Int) (m : Nat) : tot (partU (negB g) r) m = -tot (partU g r) m := by
  rw [← tot_neg]
  exact tot_ext m fun j _ => rof_neg
theorem part_none (g : Nat → Bk) (m : Nat) : tot (partU g fun _ => 0) m = 0 := tot_zero m fun _ _ => rof_none _
theorem part_whole (g : Nat → Bk) (m : Nat) : tot (partU g fun _ => 1000000) m = btot g m := tot_ext m fun _ _ => rof_whole _
theorem part_ext {g g' : Nat → Bk} {r r' : Nat → Int} {m : Nat} (h : ∀ j, j < m → g j = g' j) (h' : ∀ j, j < m → r j = r' j) : tot (partU g r) m = tot (partU g' r') m := tot_ext m fun j hj => by unfold partU; rw [h j hj, h' j hj]
/-- what the law writes: the turned rows, three rows of rates -/
structure SumsAt (v w : World) (vt : Value) (B1 B2 B3 m k : Nat) (g gt : Nat → Bk) (r : Int) (f1 f3 : Nat → Int) : Prop where
  turned : OwnR be 3 w 28 v.heap.size vt m gt
  rates : Own w 3 v.heap.size (.slice (some ⟨B1, 0, none⟩) m m) m f1
  none' : Own w 3 v.heap.size (.slice (some ⟨B2, 0, none⟩) m m) m (fun _ => 0)
  whole : Own w 3 v.heap.size (.slice (some ⟨B3, 0, none⟩) m m) m f3
  ne : (B1 ≠ B2 ∧ B1 ≠ B3 ∧ B2 ≠ B3) ∧ ∀ b, vt.ownBlock = some b → b ≠ B1 ∧ b ≠ B2 ∧ b ≠ B3
  low : Below v.heap.size v w
  done : ∀ j, j < k → gt j = negB g j ∧ f1 j = r ∧ f3 j = 1000000
  todo : ∀ j, k ≤ j → gt j = g j
section
variable {v w w1 : World} {vt : Value} {B1 B2 B3 m k : Nat} {g gt : Nat → Bk} {r : Int} {f1 f3 : Nat → Int}
theorem SumsAt.below (h : SumsAt v w vt B1 B2 B3 m k g gt r f1 f3) (kb : Below w.heap.size w w1) : SumsAt v w1 vt B1 B2 B3 m k g gt r f1 f3 :=
  ⟨own_blocks h.turned fun x hx => kb.block x (World.ownsRow.lt h.turned x hx).2, h.rates.below kb, h.none'.below kb, h.whole.below kb, h.ne, h.low.trans (kb.mono h.low.size), h.done, h.todo⟩
theorem own_set_far {w : World} {base n size : Nat} {E : TypeId} {u : Value} {ys : List Value} (o : w.ownsRow base E size u n ys) {b o' : Nat} (x : Value) (hne : ∀ y, u.ownBlock = some y → y ≠ b) : (w.setCell ⟨b, o', none⟩ x).ownsRow base E size u n ys :=
  own_blocks o fun y hy => Below.heap_setCell _ _ _ _ (hne y hy)
theorem slice_block {B n c y : Nat} (h : (Value.slice (some ⟨B, 0, none⟩) n c).ownBlock = some y) : y = B := by
  have : B = y := by simpa [Value.ownBlock] using h
  exact this.symm
/-- the round's three stores -/
theorem SumsAt.next {b c : Nat} (h : SumsAt v w (.slice (some ⟨b, 0, none⟩) m c) B1 B2 B3 m k g gt r f1 f3) (hk : k < m) :
    SumsAt v (((w.setCell ⟨B1, k, none⟩ (.int .i64 r)).setCell ⟨B3, k, none⟩ (.int .i64 1000000)).setCell ⟨b, k * 3 + 2, none⟩ (.int .i64 (-(g k).a))) (.slice (some ⟨b, 0, none⟩) m c) B1 B2 B3 m (k + 1) g (fun j => if j = k then ⟨(g k).c, (g k).y, -(g k).a⟩ else gt j) r (fun j => if j = k then r else f1 j) (fun j => if j = k then 1000000 else f3 j) := by
  obtain ⟨⟨n1, n2, n3⟩, n4⟩ := h.ne
  obtain ⟨t1, t2, t3⟩ := n4 b rfl
  have e := h.todo k (Nat.le_refl _)
  have l1 := (World.ownsRow.lt h.rates B1 rfl).1
  have l3 := (World.ownsRow.lt h.whole B3 rfl).1
  have lb := (World.ownsRow.lt h.turned b rfl).1
  refine ⟨?_, ?_, ?_, ?_, ⟨⟨n1, n2, n3⟩, n4⟩, ((h.low.setCell l1 _).setCell l3 _).setCell lb _, fun j hj => ?_, fun j hj => ?_⟩
  · have o : OwnR be 3 ((w.setCell ⟨B1, k, none⟩ (.int .i64 r)).setCell ⟨B3, k, none⟩ (.int .i64 1000000)) 28 v.heap.size (.slice (some ⟨b, 0, none⟩) m c) m gt := own_set_far (own_set_far h.turned _ fun y hy => by rw [slice_block hy]; exact t1) _ fun y hy => by rw [slice_block hy]; exact t3
    exact o.setc be_len k 2 ⟨(g k).c, (g k).y, -(g k).a⟩ (.int .i64 (-(g k).a)) hk (by decide) (fun d hd => by
      rw [e]
      match d, hd with
      | 0, _ => rfl
      | 1, _ => rfl
      | 2, h => exact absurd rfl h
      | d + 3, _ => rfl) rfl
  · exact own_set_far (own_set_far (h.rates.set k r) _ fun y hy => by rw [slice_block hy]; exact n2) _ fun y hy => by rw [slice_block hy]; exact fun q => t1 q.symm
  · exact own_set_far (own_set_far (own_set_far h.none' _ fun y hy => by rw [slice_block hy]; exact fun q => n1 q.symm) _ fun y hy => by rw [slice_block hy]; exact n3) _ fun y hy => by rw [slice_block hy]; exact fun q => t2 q.symm
  · have o : Own (w.setCell ⟨B1, k, none⟩ (.int .i64 r)) 3 v.heap.size (.slice (some ⟨B3, 0, none⟩) m m) m f3 := own_set_far h.whole _ fun y hy => by rw [slice_block hy]; exact fun q => n2 q.symm
    exact own_set_far (o.set k 1000000) _ fun y hy => by rw [slice_block hy]; exact fun q => t3 q.symm
  · by_cases q : j = k
    · rw [if_pos q, if_pos q, if_pos q, q]; exact ⟨rfl, rfl, rfl⟩
    · rw [if_neg q, if_neg q, if_neg q]; exact h.done j (by omega)
  · rw [if_neg (by omega)]; exact h.todo j (by omega)
end
set_option maxHeartbeats 16000000 in
set_option maxRecDepth 100000 in
theorem measureSums_walk (a0 : Option Addr) (len0 cap0 : Nat) (z0 : List Int) (a1 : Int) (w : World) (w0 : IsRow .i64 w a0 len0 cap0 z0) (_k1 : (Lit.int .i64 a1).wf = true) :
    Calls Try.prog 5 #[.slice a0 len0 cap0, .int .i64 a1] w fun e w' => e = .returned (.bool true) ∧ Below w.heap.size w w' := by
  obtain ⟨i0, hi, hz0, hz1, hz2⟩ := info_parts bk_info
  have W := Lib.hid fun w => wakes16_any w
  have CG := Lib.hid (preg_open a0 len0 cap0 z0 w w0)
  obtain ⟨r, hr⟩ : ∃ r, a1 % 1000001 = r := ⟨_, rfl⟩
  have E1 := Lib.hid hr
  have br : 0 ≤ r ∧ r ≤ 1000000 := by omega
  clear w0 _k1 hr
  go_enter Try.func5, Try.ntmps5
  go_wp2_with fail
  refine (CG.out).mono ?_
  rintro e v3 ⟨sbr, A, c, m, g, rfl, c0, hc, hcm, hm, hmon, hbt, ho, hb3⟩
  have hmk := run_make_row' (P := Try.prog) 30 3 (.int .i64 0) 8 Try.underlying30 int_info rfl .i64 .i64 m (by omega) (by omega)
  have HO3 := Lib.hid ho
  have HB3 := Lib.hid hb3
  have HM := Lib.hid hmon
  have HBT := Lib.hid hbt
  clear ho hb3 hmon hbt CG
  go_upto_region 3 with (go_at_call 8; (with_reducible refine (within_at _ _ _ _ (by omega) (by omega) E1).mono ?_); rintro e w' ⟨rfl, rfl⟩)
  go_cut [6, 7, 8] (fun s6 s7 s8 wx => ∃ B1 B2 B3 : Nat, s6 = .slice (some ⟨B1, 0, none⟩) m m ∧ s7 = .slice (some ⟨B2, 0, none⟩) m m ∧ s8 = .slice (some ⟨B3, 0, none⟩) m m ∧ (B1 ≠ B2 ∧ B1 ≠ B3 ∧ B2 ≠ B3) ∧ Own wx 3 v3.heap.size s6 m (fun _ => 0) ∧ Own wx 3 v3.heap.size s7 m (fun _ => 0) ∧ Own wx 3 v3.heap.size s8 m (fun _ => 0) ∧ Below v3.heap.size v3 wx)
  case first =>
    have zM : ∀ u : World, (u.alloc (.cells (madeCells #[.int .i64 0] m) 3)).heap.size = u.heap.size + 1 := fun u => by simp
    have kM := (Below.refl v3.heap.size v3).alloc (Nat.le_refl _) (.cells (madeCells #[.int .i64 0] m) 3)
    have kM2 := kM.alloc kM.size (.cells (madeCells #[.int .i64 0] m) 3)
    have kM3 := Lib.hid (kM2.alloc kM2.size (.cells (madeCells #[.int .i64 0] m) 3)).drew
    have o1 := Lib.hid (((own_made v3 m 3 v3.heap.size (Nat.le_refl _) (by unfold maxLen; omega)).alloc (.cells (madeCells #[.int .i64 0] m) 3)).alloc (.cells (madeCells #[.int .i64 0] m) 3)).drew
    have o2 := Lib.hid ((own_made (v3.alloc (.cells (madeCells #[.int .i64 0] m) 3)) m 3 v3.heap.size kM.size (by unfold maxLen; omega)).alloc (.cells (madeCells #[.int .i64 0] m) 3)).drew
    have o3 := Lib.hid (own_made ((v3.alloc (.cells (madeCells #[.int .i64 0] m) 3)).alloc (.cells (madeCells #[.int .i64 0] m) 3)) m 3 v3.heap.size kM2.size (by unfold maxLen; omega)).drew
    rw [zM] at o2
    rw [zM, zM] at o3
    clear zM kM kM2
    go_region_held3 (fun _ => True) (trivial) (fail)
    all_goals
      go_wp2
      go_meet
      refine ⟨_, _, _, rfl, rfl, rfl, ⟨by omega, by omega, by omega⟩, by first | exact o1.out | exact o2.out | exact o3.out, by first | exact o1.out | exact o2.out | exact o3.out, by first | exact o1.out | exact o2.out | exact o3.out, kM3.out⟩
  case rest =>
    obtain ⟨B1, B2, B3, rfl, rfl, rfl, hne, ho1, ho2, ho3, hb4⟩ := hcut
    obtain ⟨v4, rfl⟩ : ∃ v4, v4 = wc := ⟨_, rfl⟩
    have O1 := Lib.hid ho1
    have O2 := Lib.hid ho2
    have O3 := Lib.hid ho3
    have B4 := Lib.hid hb4
    have HO4 := Lib.hid (own_blocks HO3.out fun x hx => hb4.block x (World.ownsRow.lt HO3.out x hx).2)
    have NE := Lib.hid hne
    obtain ⟨_, _, e3, _, _, _, ha3⟩ := HO3.out.at be_len
    injection e3 with e3 el3 ec3
    subst e3
    clear el3 ec3
    have HA3 := Lib.hid ha3
    clear ho1 ho2 ho3 hb4 hne hmk HO3 ha3
    go_wp2_with (at_builtin; (refine wpList_app_row rfl (.const (.slice none 0 0)) (.tmp 39) rfl bk_type hi hz0 hz1 hz2 rfl (by decide) v4 v4.heap.size w.heap.size 0 m c _ _ [] _ rfl rfl (World.ownsRow_nil _ _ _ _) HO4.out (rl_one be_one) (by unfold maxLen; omega) (by omega) (Below.refl _ _) (Nat.le_refl _) ?_; intro vt v5 ho5 hb5 hg5; rw [Nat.zero_add, List.nil_append] at ho5; obtain ⟨At, ct, rfl, ht1, ht2, _⟩ := own_form ho5; have HO5 := Lib.hid ho5; have HB5 := Lib.hid hb5; clear ho5 hb5 hg5))
    have S0 := Lib.hid (show SumsAt v3 v5 (.slice At m ct) B1 B2 B3 m 0 g g r (fun _ => 0) (fun _ => 0) from
      ⟨own_mono HO5.out B4.out.size, O1.out.below HB5.out, O2.out.below HB5.out, O3.out.below HB5.out, ⟨NE.out, fun y hy => by
        have h0 := (World.ownsRow.lt HO5.out y hy).1
        have h1 := (World.ownsRow.lt O1.out B1 rfl).2
        have h2 := (World.ownsRow.lt O2.out B2 rfl).2
        have h3 := (World.ownsRow.lt O3.out B3 rfl).2
        omega⟩, B4.out.trans (HB5.out.mono B4.out.size), fun j hj => by omega, fun j _ => rfl⟩)
    clear HO4 O1 O2 O3 HO5 HB5 B4 NE
    go_loopg [9, 10, 43] m (fun gh s9 s10 i wr => ∃ (k : Nat) (gt : Nat → Bk) (f1 f3 : Nat → Int), k ≤ m ∧ gh = m - k ∧ i = .int .i64 k ∧ s9 = .int .i64 (-tot (partU g fun _ => r) k) ∧ s10 = .int .i64 (btot g k) ∧ SumsAt v3 wr (.slice At m ct) B1 B2 B3 m k g gt r f1 f3)
    case atStart => exact ⟨0, g, _, _, by omega, rfl, rfl, rfl, rfl, S0.out⟩
    case round =>
      obtain ⟨k, gt, f1, f3, hk, hgk, rfl, rfl, rfl, hs⟩ := hrel
      have HGK := Lib.hid hgk
      clear hgk S0
      have pb := part_bd (g := g) (r := fun _ => r) (m := m) (k := k) (fun i hi => ⟨HM.out i hi, br⟩) hk
      have tb := tot_bd (fun j => (g j).a) k fun j hj => HM.out j (by omega)
      obtain ⟨X, hX⟩ : ∃ X, -tot (partU g fun _ => r) k = X := ⟨_, rfl⟩
      obtain ⟨T, hT⟩ : ∃ T, btot g k = T := ⟨_, rfl⟩
      rw [show tot (fun j => (g j).a) k = T from hT] at tb
      have xb : -1200000000000 ≤ X ∧ X ≤ 1200000000000 := by omega
      have tb : -1200000000000 ≤ T ∧ T ≤ 1200000000000 := by omega
      have HX := Lib.hid hX
      have HT := Lib.hid hT
      rw [hX, hT]
      clear pb hX hT
      by_cases hlt : k < m
      · obtain ⟨b, off, rfl, hb, c1, c2, c3⟩ := (HA3.out.below hs.low).three hlt
        have hbv : b < v3.heap.size := by
          obtain ⟨b', off', e, hb', _⟩ := HA3.out.some (by omega)
          injection e with e; injection e with e; omega
        obtain ⟨bt, ctt, e, _, _, lbt, zbt, hct, hft⟩ := hs.turned.some be_len (show 0 < m by omega)
        injection e with e _ e2
        subst e e2
        have t3 := hct k hlt 2 _ rfl
        have ft := hft (k * 3 + 2)
        obtain ⟨d1, g1⟩ := (hs.rates.row (show 0 < m by omega)).2 k hlt
        obtain ⟨d3, g3⟩ := (hs.whole.row (show 0 < m by omega)).2 k hlt
        have zB1 := (World.ownsRow.lt hs.rates B1 rfl)
        have zB3 := (World.ownsRow.lt hs.whole B3 rfl)
        obtain ⟨⟨n1, n2, n3⟩, n4⟩ := hs.ne
        obtain ⟨m1, m2, m3⟩ := n4 bt rfl
        have ne1 : ¬ b = B1 := by omega
        have ne1' : ¬ B1 = b := by omega
        have ne2 : ¬ b = B3 := by omega
        have ne2' : ¬ B3 = b := by omega
        have ne3 : ¬ b = bt := by omega
        have ne3' : ¬ bt = b := by omega
        have ne4 : ¬ B1 = B3 := n2
        have ne4' : ¬ B3 = B1 := fun e => n2 e.symm
        have ne5 : ¬ bt = B1 := m1
        have ne5' : ¬ B1 = bt := fun e => m1 e.symm
        have ne6 : ¬ bt = B3 := m3
        have ne6' : ¬ B3 = bt := fun e => m3 e.symm
        have N6 := hs.next hlt
        obtain ⟨a, ha⟩ : ∃ a, (g k).a = a := ⟨_, rfl⟩
        have ham := HM.out k hlt
        rw [ha] at c3 N6 ham
        unfold Mon at ham
        obtain ⟨w6, hw6⟩ : ∃ w6, ((wr.setCell ⟨B1, k, none⟩ (.int .i64 r)).setCell ⟨B3, k, none⟩ (.int .i64 1000000)).setCell ⟨bt, k * 3 + 2, none⟩ (.int .i64 (-a)) = w6 := ⟨_, rfl⟩
        rw [hw6] at N6
        have HW6 := Lib.hid hw6
        have N6 := Lib.hid N6
        have k0 : (0 : Int) ≤ (k : Int) := by omega
        have k1 : (k : Int) < (m : Int) := by omega
        have k2 : (k : Int) + 1 ≤ (c : Int) := by omega
        have k3 : (k : Int) + 1 ≤ (m : Int) := by omega
        have k4 : (k : Int) ≤ (c : Int) := by omega
        have k5 : (k : Int) ≤ (m : Int) := by omega
        have k6 : (0 : Int) ≤ (k : Int) + 1 := by omega
        have k7 : ¬ c = k := by omega
        have k8 : ¬ m = k := by omega
        have s1 : IntKind.i64.wrap ((k : Int) + 1) = (k : Int) + 1 := IntWalk.i64_in _ (by omega)
        obtain ⟨x, hx⟩ : ∃ x, rof a r = x := ⟨_, rfl⟩
        have hxm := rof_mon (a := a) (z := r) ham br
        rw [hx] at hxm
        unfold Mon at hxm
        clear hct hft zbt hw6 n4
        go_wp2_with fail
        rw [HW6.out]
        clear HW6
        have r6 : AtR be 3 w6.drew (some ⟨b, off + k * 3, none⟩) 1 (fun _ => g k) := .inr ⟨b, off + k * 3, rfl, by have := N6.out.low.size; show b < w6.heap.size; omega, fun j hj i u hu => by
          obtain rfl : j = 0 := by omega
          obtain ⟨b', off', e, _, hcc⟩ := (HA3.out.below N6.out.low).some (show 0 < m by omega)
          injection e with e
          injection e with e1 e2
          subst e1 e2
          rw [Nat.zero_mul, Nat.add_zero]
          exact hcc k hlt i u hu⟩
        have t6 : At w6.drew (some ⟨B1, k, none⟩) 1 (fun _ => r) := .inr ⟨B1, k, rfl, (World.ownsRow.lt N6.out.rates B1 rfl).2, fun j hj => by
          obtain rfl : j = 0 := by omega
          have := ((N6.out.rates.row (show 0 < m by omega)).2 k hlt).1
          simpa using this⟩
        have R6 := Lib.hid r6
        have T6 := Lib.hid t6
        have CT := Lib.hid fun (q1 q2 : Nat) (h1 : 1 ≤ q1 ∧ q1 ≤ maxLen) (h2 : 1 ≤ q2 ∧ q2 ≤ maxLen) => ptemp_any (some ⟨b, off + k * 3, none⟩) (some ⟨B1, k, none⟩) 1 q1 1 q2 (fun _ => g k) (fun _ => r) (-x) 0 w6.drew R6.out T6.out (by omega) h1 h2 (.inr (.inr ⟨⟨rfl, fun i hi => ⟨by show Mon (g k).a; rw [ha]; unfold Mon; omega, br⟩⟩, by show Mon (-(0 + rof (g k).a r)); rw [ha, hx]; unfold Mon; omega, by show -x = -(0 + rof (g k).a r); rw [ha, hx]; omega, rfl⟩))
        have EX : Hid (-tot (partU g fun _ => r) (k + 1) = X - x) := Lib.hid (by
          show -(tot (partU g fun _ => r) k + rof (g k).a r) = X - x
          rw [ha, hx, ← HX.out]; omega)
        have ET : Hid (btot g (k + 1) = T + a) := Lib.hid (by
          show btot g k + (g k).a = T + a
          rw [ha, HT.out])
        have HAa := Lib.hid ha
        clear r6 t6 c1 c2 c3 t3 ft d1 g1 d3 g3 ha hx hs
        rw [show Op.slice 29 (Operand.tmp 64) (some (Operand.tmp 65)) (some (Operand.tmp 67)) none = id (Op.slice 29 (Operand.tmp 64) (some (Operand.tmp 65)) (some (Operand.tmp 67)) none) from rfl]
        have hop : id (Op.slice 29 (Operand.tmp 64) (some (Operand.tmp 65)) (some (Operand.tmp 67)) none) = Op.slice 29 (Operand.tmp 64) (some (Operand.tmp 65)) (some (Operand.tmp 67)) none := rfl
        go_region_held3 (fun _ => True) (trivial) (first | (go_at_call 13; (refine (CT.out _ _ (by omega) (by omega)).mono ?_); rintro e w7 ⟨rfl, hb7⟩; have HB7 := Lib.hid hb7; clear hb7))
        have N7 := Lib.hid ((N6.out.below (below_drew w6)).below HB7.out)
        obtain ⟨b', off', e, _, d1, d2, d3⟩ := (HA3.out.below N7.out.low).three hlt
        injection e with e
        injection e with e1 e2
        subst e1 e2
        rw [HAa.out] at d3
        have zb7 : b < w7.heap.size := by have := N7.out.low.size; omega
        clear CT R6 T6 N6 HB7
        go_wp2
        go_roundg (m - (k + 1))
        case measure => have := HGK.out; omega
        case rel => exact ⟨k + 1, _, _, _, by omega, rfl, by go_num, by rw [EX.out]; go_num, by rw [ET.out]; try go_num, N7.out⟩
      · obtain rfl : k = m := by omega
        obtain ⟨_, _, e5, _, _, _, hat⟩ := hs.turned.at be_len
        injection e5 with e5 el5 ec5
        subst e5 ec5
        clear el5
        obtain ⟨_, _, e6, _, _, hr1⟩ := hs.rates.at
        injection e6 with e6 el6 ec6
        subst e6 ec6
        clear el6
        obtain ⟨_, _, e7, _, _, hr2⟩ := hs.none'.at
        injection e7 with e7 el7 ec7
        subst e7 ec7
        clear el7
        obtain ⟨_, _, e8, _, _, hr3⟩ := hs.whole.at
        injection e8 with e8 el8 ec8
        subst e8 ec8
        clear el8
        have har := HA3.out.below hs.low
        have hf1 : ∀ j, j < k → f1 j = r := fun j hj => (hs.done j hj).2.1
        have hf3 : ∀ j, j < k → f3 j = 1000000 := fun j hj => (hs.done j hj).2.2
        have hgt : ∀ j, j < k → gt j = negB g j := fun j hj => (hs.done j hj).1
        have p1 : tot (partU g f1) k = -X := by rw [part_ext (fun _ _ => rfl) hf1, ← HX.out]; omega
        have p2 : tot (partU gt f1) k = X := by rw [part_ext hgt hf1, part_neg, ← HX.out]
        have p3 : tot (partU g fun _ => 0) k = 0 := part_none g k
        have p4 : tot (partU g f3) k = T := by rw [part_ext (fun _ _ => rfl) hf3, part_whole, HT.out]
        have a1 : TArgs g k f1 k := ⟨rfl, fun i hi => ⟨HM.out i hi, by rw [hf1 i hi]; exact br⟩⟩
        have a2 : TArgs gt k f1 k := ⟨rfl, fun i hi => ⟨by rw [hgt i hi]; have := HM.out i hi; unfold Mon at this ⊢; show _ ≤ -(g i).a ∧ -(g i).a ≤ _; omega, by rw [hf1 i hi]; exact br⟩⟩
        have a3 : TArgs g k (fun _ => 0) k := ⟨rfl, fun i hi => ⟨HM.out i hi, by show RtOk 0; unfold RtOk; omega⟩⟩
        have a4 : TArgs g k f3 k := ⟨rfl, fun i hi => ⟨HM.out i hi, by rw [hf3 i hi]; unfold RtOk; omega⟩⟩
        have hT : Mon T := by rw [← HT.out]; exact HBT.out
        have t3 : TempIs g k (fun _ => 0) k 0 0 := .inr (.inr ⟨a3, by rw [p3]; unfold Mon; omega, by rw [p3]; rfl, rfl⟩)
        have t4 : TempIs g k f3 k (-T) 0 := .inr (.inr ⟨a4, by rw [p4]; unfold Mon at hT ⊢; omega, by rw [p4], rfl⟩)
        obtain ⟨e, va, vb, t1, t2, hee⟩ : ∃ e va vb, TempIs g k f1 k va e ∧ TempIs gt k f1 k vb e ∧ ((e = 0 ∧ va = X ∧ vb = -X) ∨ e = 6) := by
          by_cases hX : Mon X
          · exact ⟨0, X, -X, .inr (.inr ⟨a1, by rw [p1]; unfold Mon at hX ⊢; omega, by rw [p1]; omega, rfl⟩), .inr (.inr ⟨a2, by rw [p2]; unfold Mon at hX ⊢; omega, by rw [p2], rfl⟩), .inl ⟨rfl, rfl, rfl⟩⟩
          · exact ⟨6, 0, 0, .inr (.inl ⟨a1, by rw [p1]; unfold Mon at hX ⊢; omega, rfl, rfl⟩), .inr (.inl ⟨a2, by rw [p2]; unfold Mon at hX ⊢; omega, rfl, rfl⟩), .inr rfl⟩
        have D1 := Lib.hid fun w8 (q : Below wr.heap.size wr w8) => ptemp_any A (some ⟨B1, 0, none⟩) k c k k g f1 va e w8 (har.below q) (hr1.below q) (by omega) ⟨hc, hcm⟩ (by unfold maxLen; omega) t1
        have D2 := Lib.hid fun w8 (q : Below wr.heap.size wr w8) => ptemp_any At (some ⟨B1, 0, none⟩) k ct k k gt f1 vb e w8 (hat.below q) (hr1.below q) (by omega) ⟨ht1, ht2⟩ (by unfold maxLen; omega) t2
        have D3 := Lib.hid fun w8 (q : Below wr.heap.size wr w8) => ptemp_any A (some ⟨B2, 0, none⟩) k c k k g (fun _ => 0) 0 0 w8 (har.below q) (hr2.below q) (by omega) ⟨hc, hcm⟩ (by unfold maxLen; omega) t3
        have D4 := Lib.hid fun w8 (q : Below wr.heap.size wr w8) => ptemp_any A (some ⟨B3, 0, none⟩) k c k k g f3 (-T) 0 w8 (har.below q) (hr3.below q) (by omega) ⟨hc, hcm⟩ (by unfold maxLen; omega) t4
        have LO := Lib.hid (HB3.out.trans (hs.low.mono HB3.out.size))
        have HE := Lib.hid hee
        clear hee
        clear hat hr1 hr2 hr3 har hf1 hf3 hgt p1 p2 p3 p4 a1 a2 a3 a4 t1 t2 t3 t4 hs hT hlt HGK hk
        go_wp2_with fail
        refine (D1.out _ (Below.refl _ _)).mono ?_
        rintro e' x1 ⟨rfl, hx1⟩
        have J1 := Lib.hid hx1
        clear hx1
        go_wp2_with fail
        refine (D2.out _ J1.out).mono ?_
        rintro e' x2 ⟨rfl, hx2⟩
        have J2 := Lib.hid (J1.out.trans (hx2.mono J1.out.size))
        clear hx2
        go_wp2_with fail
        refine (D3.out _ J2.out).mono ?_
        rintro e' x3 ⟨rfl, hx3⟩
        have J3 := Lib.hid (J2.out.trans (hx3.mono J2.out.size))
        clear hx3
        go_wp2_with fail
        refine (D4.out _ J3.out).mono ?_
        rintro e' x4 ⟨rfl, hx4⟩
        have J4 := Lib.hid (J3.out.trans (hx4.mono J3.out.size))
        clear hx4 D1 D2 D3 D4
        have q1 : (X == X) = true := by simp
        have q2 : (-X == -X) = true := by simp
        have q3 : (-T == -T) = true := by simp
        rcases HE.out with ⟨rfl, rfl, rfl⟩ | rfl
        all_goals
          go_wp2_with (go_at_call 15; (with_reducible refine (W.out _).mono ?_); rintro e9 x5 ⟨rfl, hx5⟩; have J5 := Lib.hid (J4.out.trans (hx5.mono J4.out.size)); clear hx5)
          go_ret
          exact ⟨rfl, LO.out.trans (J5.out.mono LO.out.size)⟩
end Go.Proofs.Ytnhnimchjbhnfaa
