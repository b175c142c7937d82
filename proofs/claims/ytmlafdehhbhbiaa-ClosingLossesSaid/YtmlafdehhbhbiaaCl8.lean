/- Package closing: Make. -/
import Derived.Test.YtmlafdehhbhbiaaCl7
import Derived.Test.YtmlafdehhbhbiaaTk
namespace Go.Proofs.Ytmlafdehhbhbiaa
open Go.RowKit
section
variable {w : World} {O : Nat → Nat} {base t tb nr lb rb : Nat} {vt : Value} {R : Nat → Rt} {i : MIn} {op : MBal} {sb sr : Sl}
set_option maxHeartbeats 8000000 in
set_option maxRecDepth 100000 in
/-- what is asked may not be -/
theorem pmk_arg (H : ¬ MArg i) :
    Calls Try.prog 8 #[ptr tb, .agg (inL i).toArray, .agg (balL op sb sr).toArray, ptr lb, ptr rb] w fun e' w' => e' = .returned (.tuple #[.agg pv0L.toArray, .pointer none, .int .i64 1]) ∧ Below w.heap.size w w' := by
  unfold MArg PerOk RtOk Mon at H
  rcases (show (i.p < 0 ∨ 399 < i.p) ∨ ((0 ≤ i.p ∧ i.p ≤ 399) ∧ (i.jd < 0 ∨ 1000000 < i.jd)) ∨ ((0 ≤ i.p ∧ i.p ≤ 399) ∧ (0 ≤ i.jd ∧ i.jd ≤ 1000000) ∧ ¬ (-100000000000 ≤ i.tu ∧ i.tu ≤ 100000000000)) by omega) with q | ⟨q1, q⟩ | ⟨q1, q2, q⟩
  all_goals
    clear H
    go_enter Try.func8, Try.ntmps8
    go_upto_region 1 with fail
    generalize hwa : World.alloc (World.alloc (World.alloc w _) _) _ = wa; have HW : Hid (CM w wa i op sb sr) := Lib.hid (by obtain ⟨h0, h1, h2, kb⟩ : wa.heap[w.heap.size]? = some (.cells (inL i).toArray 31 (0, 0)) ∧ wa.heap[w.heap.size + 1]? = some (.cells (balL op sb sr).toArray 37 (0, 0)) ∧ wa.heap[w.heap.size + 2]? = some (.cells pv0L.toArray 44 (0, 0)) ∧ Below w.heap.size w wa := (by rw [← hwa]; exact three_at w _ _ _ _ _ _); exact ⟨kb, h0, h1, h2⟩); clear hwa
    obtain ⟨j0, j1, j2, j3, j4, j5, j6, j7⟩ := HW.out.ins
    go_wp2_with (first | (go_at_call 18; (with_reducible refine (pright_no _ _ (by omega)).mono ?_); rintro e w' ⟨rfl, rfl⟩) | (go_at_call 18; (with_reducible refine (pright_yes _ _ (by omega) (by omega)).mono ?_); rintro e w' ⟨rfl, rfl⟩) | (go_at_call 19; (with_reducible refine (right_no _ _ (by omega)).mono ?_); rintro e w' ⟨rfl, rfl⟩) | (go_at_call 19; (with_reducible refine (right_yes _ _ (by omega) (by omega)).mono ?_); rintro e w' ⟨rfl, rfl⟩) | (go_at_call 20; (with_reducible refine (mny_no _ _ (by unfold Mon; omega)).mono ?_); rintro e w' ⟨rfl, rfl⟩) | ((with_reducible show wpList _ _ _ _ _ _); (refine wpList_store_row rfl 44 _ _ rfl (w.heap.size + 2) pv0L.toArray rfl rfl _ _ HW.out.b10 pv0_size rfl (one_all pv0L_one) ?_)))
    exact bodyPost_ret (results_ctt rfl _ _ (w.heap.size + 2) _ rfl (run_loadVar_row _ _ _ _ _ (0, 0) _ (setRow_heap _ _ _ _ _ _ HW.out.b10) Try.underlying44 rfl pv0_size)) rfl ⟨rfl, below_setRow HW.out.lo (Nat.le_add_right _ _) _⟩
set_option maxHeartbeats 8000000 in
set_option maxRecDepth 100000 in
/-- no rate -/
theorem pmk_rate (s : TabV 57 w O base t tb vt nr R) (H : MArg i) (K : Known R nr i.j (i.p / 4) i.p 0 false) :
    Calls Try.prog 8 #[ptr tb, .agg (inL i).toArray, .agg (balL op sb sr).toArray, ptr lb, ptr rb] w fun e' w' => e' = .returned (.tuple #[.agg pv0L.toArray, .pointer none, .int .i64 7]) ∧ Below w.heap.size w w' := by
  have CR := Lib.hid fun w5 (k : Below w.heap.size w w5) => erate_any (s.below k) i.j (i.p / 4) i.p 0 false K
  unfold MArg PerOk RtOk Mon at H
  obtain ⟨⟨q1, q2⟩, ⟨q3, q4⟩, q5, q6⟩ := H
  clear s K
  go_enter Try.func8, Try.ntmps8
  go_upto_region 1 with fail
  generalize hwa : World.alloc (World.alloc (World.alloc w _) _) _ = wa; have HW : Hid (CM w wa i op sb sr) := Lib.hid (by obtain ⟨h0, h1, h2, kb⟩ : wa.heap[w.heap.size]? = some (.cells (inL i).toArray 31 (0, 0)) ∧ wa.heap[w.heap.size + 1]? = some (.cells (balL op sb sr).toArray 37 (0, 0)) ∧ wa.heap[w.heap.size + 2]? = some (.cells pv0L.toArray 44 (0, 0)) ∧ Below w.heap.size w wa := (by rw [← hwa]; exact three_at w _ _ _ _ _ _); exact ⟨kb, h0, h1, h2⟩); clear hwa
  obtain ⟨j0, j1, j2, j3, j4, j5, j6, j7⟩ := HW.out.ins
  go_wp2_with (first | (go_at_call 18; (with_reducible refine (pright_yes _ _ (by omega) (by omega)).mono ?_); rintro e w' ⟨rfl, rfl⟩) | (go_at_call 19; (with_reducible refine (right_yes _ _ (by omega) (by omega)).mono ?_); rintro e w' ⟨rfl, rfl⟩) | (go_at_call 20; (with_reducible refine (mny_yes _ _ (by unfold Mon; omega)).mono ?_); rintro e w' ⟨rfl, rfl⟩) | (go_at_call 21; (with_reducible refine (pyear_yes _ _ (by omega) (by omega)).mono ?_); rintro e w' ⟨rfl, rfl⟩))
  refine (CR.out _ HW.out.lo).mono ?_
  rintro e w1 ⟨rfl, hb⟩
  have HW := Lib.hid (HW.out.below hb)
  clear hb CR j0 j1 j2 j3 j4 j5 j6 j7
  go_wp2_with (first | ((with_reducible show wpList _ _ _ _ _ _); (refine wpList_store_row rfl 44 _ _ rfl (w.heap.size + 2) pv0L.toArray rfl rfl _ _ HW.out.b10 pv0_size rfl (one_all pv0L_one) ?_)))
  exact bodyPost_ret (results_ctt rfl _ _ (w.heap.size + 2) _ rfl (run_loadVar_row _ _ _ _ _ (0, 0) _ (setRow_heap _ _ _ _ _ _ HW.out.b10) Try.underlying44 rfl pv0_size)) rfl ⟨rfl, below_setRow HW.out.lo (Nat.le_add_right _ _) _⟩
def MkPost (bt : Bool) (w : World) (i : MIn) (op : MBal) (v : MPv) (SL' : Int → Int → Int) (E : Int) (e' : Ending) (w' : World) : Prop :=
  (bt = false ∧ e' = .returned (.tuple #[.agg pv0L.toArray, .pointer none, .int .i64 E]) ∧ Below w.heap.size w w') ∨
  (bt = true ∧ ¬ Fit i op v ∧ e' = .returned (.tuple #[.agg pv0L.toArray, .pointer none, .int .i64 6]) ∧ Below w.heap.size w w') ∨
  (bt = true ∧ Fit i op v ∧ ∃ lb' O' ss, e' = .returned (.tuple #[.agg (pvL i op v ss).toArray, ptr lb', .int .i64 0]) ∧ NowV w w' O' 1 lb' SL' ∧ PvAt O' w.heap.size w' op v ss ∧ BalO O' w.heap.size w' op ss.ob ss.or ∧ Below w.heap.size w w')
set_option maxHeartbeats 64000000 in
set_option maxRecDepth 100000 in
theorem pmk_main {wl wr0 : World} {Ol Oq : Nat → Nat} {tl tr m nl : Nat} {g gl : Nat → Bk} {S0 S SL SL' : Int → Int → Int} {v : MPv} {E r nx : Int} {rs : Nat → Int} {bt : Bool}
    (s : TabV 57 w O base t tb vt nr R) (hl : NowV wl w Ol tl lb SL) (hr : NowP wr0 w Oq tr rb S) (b : BInv S m g) (vl : VInv SL nl gl) (ok : op.Ok S0) (ho : BalAt w op sb sr) (H : MArg i) (K : Known R nr i.j (i.p / 4) i.p r true) (KX : Known R nr i.j (min (i.p / 4 + 1) 99) i.p nx true)
    (KR : ∀ k, k < m → Known R nr i.j (max (g k).y (i.p / 4)) i.p (rs k) true) (T : (bt = false ∧ TNo SL nl gl (tqOf i op m g r) E ∧ E ≠ 0) ∨ (bt = true ∧ MkAt R nr i op S0 S m g SL nl gl v SL' ∧ v.r = r ∧ v.cl.nx = nx ∧ ∀ k, k < m → v.cl.r k = rs k)) :
    Calls Try.prog 8 #[ptr tb, .agg (inL i).toArray, .agg (balL op sb sr).toArray, ptr lb, ptr rb] w (MkPost bt w i op v SL' E) := by
  have hm9 : m ≤ 1000 := by have := b.le; omega
  have hn9 : op.n ≤ 1000 := by have := ok.iv.le; omega
  have CR := Lib.hid fun w5 (k : Below w.heap.size w w5) => erate_any (s.below k) i.j (i.p / 4) i.p r true K
  have HS := Lib.hid s
  have HL := Lib.hid hl
  have HR := Lib.hid hr
  have HB := Lib.hid b
  have HV := Lib.hid vl
  have HOK := Lib.hid ok
  have HO := Lib.hid ho
  have HK := Lib.hid T
  have HA := Lib.hid H
  have HKX := Lib.hid KX
  have HKR := Lib.hid KR
  unfold MArg PerOk RtOk Mon at H
  obtain ⟨⟨q1, q2⟩, ⟨q3, q4⟩, q5, q6⟩ := H
  clear s K KX KR hl hr b vl ok ho T
  go_enter Try.func8, Try.ntmps8
  go_upto_region 1 with fail
  generalize hwa : World.alloc (World.alloc (World.alloc w _) _) _ = wa; have HW : Hid (CM w wa i op sb sr) := Lib.hid (by obtain ⟨h0, h1, h2, kb⟩ : wa.heap[w.heap.size]? = some (.cells (inL i).toArray 31 (0, 0)) ∧ wa.heap[w.heap.size + 1]? = some (.cells (balL op sb sr).toArray 37 (0, 0)) ∧ wa.heap[w.heap.size + 2]? = some (.cells pv0L.toArray 44 (0, 0)) ∧ Below w.heap.size w wa := (by rw [← hwa]; exact three_at w _ _ _ _ _ _); exact ⟨kb, h0, h1, h2⟩); clear hwa
  obtain ⟨ab, cb⟩ := sb
  obtain ⟨ar, cr⟩ := sr
  obtain ⟨j0, j1, j2, j3, j4, j5, j6, j7⟩ := HW.out.ins
  go_wp2_with (first | (go_at_call 18; (with_reducible refine (pright_yes _ _ (by omega) (by omega)).mono ?_); rintro e w' ⟨rfl, rfl⟩) | (go_at_call 19; (with_reducible refine (right_yes _ _ (by omega) (by omega)).mono ?_); rintro e w' ⟨rfl, rfl⟩) | (go_at_call 20; (with_reducible refine (mny_yes _ _ (by unfold Mon; omega)).mono ?_); rintro e w' ⟨rfl, rfl⟩) | (go_at_call 21; (with_reducible refine (pyear_yes _ _ (by omega) (by omega)).mono ?_); rintro e w' ⟨rfl, rfl⟩))
  refine (CR.out _ HW.out.lo).mono ?_
  rintro e w1 ⟨rfl, hb⟩
  have HW := Lib.hid (HW.out.below hb)
  clear hb CR j0 j1 j2 j3 j4 j5 j6 j7
  have L1 := Lib.hid HW.out.lt
  have CP := Lib.hid fun (w5 : World) (k : Below w1.heap.size w1 w5) => pbrows (HR.out.below (HW.out.below k).lo) HB.out.is
  have CN := Lib.hid fun (w5 : World) (k : Below w1.heap.size w1 w5) A c (hA : AtR be 3 w5 A m g) (hc : m ≤ c ∧ c ≤ maxLen) => pknown (HS.out.below (HW.out.below k).lo) hA hc hm9 HA.out HKX.out HKR.out
  have HC2 := Lib.hid fun (w5 : World) (k : Below w1.heap.size w1 w5) => (show w5.rangeAt w.heap.size 0 (inL i) from row_range (HW.out.below k).b6)
  go_upto_region 7 with fail
  go_cut [16, 17] (fun s16 s17 wx => ∃ X A3 c3 A4 c4, s16 = ptr X ∧ s17 = .int .i64 0 ∧ w1.heap.size ≤ X ∧ Below w1.heap.size w1 wx ∧ wx.heap[X]? = some (.cells (balL ⟨i.p, m, g, rs, nx, 0, 0, 0, 0⟩ ⟨A3, c3⟩ ⟨A4, c4⟩).toArray 37 (0, 0)) ∧ (m ≤ c3 ∧ c3 ≤ maxLen) ∧ (m ≤ c4 ∧ c4 ≤ maxLen) ∧
    AtR be 3 wx A3 m g ∧ At wx A4 m rs ∧ Free (fun _ => 0) w1.heap.size wx A3 ∧ Free (fun _ => 0) w1.heap.size wx A4 ∧ (∀ b off, A3 = some ⟨b, off, none⟩ → b ≠ X) ∧ ∀ b off, A4 = some ⟨b, off, none⟩ → b ≠ X)
  case first => as_aux_lemma =>
    refine wp_region_noPanic ?_
    refine AnyTill.begin (C := fun w' => w'.rangeAt w.heap.size 0 (inL i)) (q := 99) (by kernel_rfl) ?_
    obtain ⟨wd, hwd⟩ : ∃ wd, w1.drew = wd := ⟨_, rfl⟩
    have kd : Below w1.heap.size w1 wd := by rw [← hwd]; exact below_drew w1
    rw [hwd]
    have scd := HC2.out wd kd
    clear hwd
    refine AnyTill.tk 0 scd ?_
    refine AnyTill.tv (i := 1) (v := .agg (inL i).toArray) (hy := (yieldsIf_load_mid (by rfl) 31 (.tmp 6) rfl w.heap.size 0 rfl (inL i) _ (fun _ h => h) Try.underlying31 rfl (cin_sizeL _))) (hC := scd) (h := ?_)
    refine AnyTill.tk 2 scd ?_
    refine' AnyTill.two (i := 3) (k := 8) (o := _) (o' := _) (by kernel_rfl) ?ap3 ?ap8 (fun K' hK => ?xp3) (fun K' hK => ?xp8)
    case ap3 => (simp only [List.getElem?_toArray, List.getElem?_cons_succ, List.getElem?_cons_zero]; rfl)
    case ap8 => (simp only [List.getElem?_toArray, List.getElem?_cons_succ, List.getElem?_cons_zero]; rfl)
    case xp3 =>
      go_simp
      (go_at_call 11; (refine (CP.out _ kd).mono ?_); rintro e v1 ⟨A3, c3, rfl, hc3, hm3, o3, hb⟩)
      have s3 := kd.size
      have kv1 := kd.trans (hb.mono kd.size)
      have scv1 := HC2.out _ kv1
      refine hK.out _ _ (.inr scv1) ?_
      clear hK K' scd hb
      have scd := scv1
      clear scv1
      try simp only [pt]
      refine' AnyTill.two (i := 4) (k := 8) (o := _) (o' := _) (by kernel_rfl) ?apr4 ?apr8 (fun K' hK => ?xpr4) (fun K' hK => ?xpr8)
      case apr4 => (simp only [List.getElem?_toArray, List.getElem?_cons_succ, List.getElem?_cons_zero]; rfl)
      case apr8 => (simp only [List.getElem?_toArray, List.getElem?_cons_succ, List.getElem?_cons_zero]; rfl)
      case xpr4 =>
        go_simp
        (go_at_call 23; (refine (CN.out _ kv1 A3 c3 (ownr_at o3) ⟨hc3, hm3⟩).mono ?_); rintro e v2 ⟨A4, c4, rfl, hc4, hm4, a4, f4, hb⟩)
        have s4 := kv1.size
        have kv2 := kv1.trans (hb.mono kv1.size)
        have o3 := o3.below hb
        have scv2 := HC2.out _ kv2
        refine hK.out _ _ (.inr scv2) ?_
        clear hK K' scd hb
        have scd := scv2
        clear scv2
        try simp only [pt]
        refine AnyTill.tk 5 scd ?_
        refine AnyTill.tk 6 scd ?_
        refine AnyTill.tk 7 scd ?_
        refine AnyTill.on 8 fun K' hK => ?_
        go_simp
        generalize hap : World.alloc v2 _ = v3
        have gA : v3.heap[v2.heap.size]? = some (.cells (balL bal0 .nil .nil).toArray 37 (0, 0)) := by rw [← hap]; exact heap_alloc_last _ _
        have hb : Below v2.heap.size v2 v3 := by rw [← hap]; exact (Below.refl _ _).alloc (Nat.le_refl _) _
        have lA : v2.heap.size < v3.heap.size := by rw [← hap]; simp
        have hX : w1.heap.size ≤ v2.heap.size := kv2.size
        clear hap
        have n3 : ∀ b off, A3 = some ⟨b, off, none⟩ → b ≠ v2.heap.size := fun b off e => Nat.ne_of_lt (World.ownsRow.lt o3 b (by rw [e]; rfl)).2
        have n4 : ∀ b off, A4 = some ⟨b, off, none⟩ → b ≠ v2.heap.size := fun b off e => Nat.ne_of_lt (f4 b off e).2.1
        have kv3 := kv2.trans (hb.mono kv2.size)
        have o3 := o3.below hb
        have a4 := a4.below hb
        have f4 := f4.below hb
        have scv3 := HC2.out _ kv3
        refine hK.out _ _ (.inr scv3) ?_
        clear hK K' scd hb
        have scd := scv3
        clear scv3
        try simp only [pt]
        refine AnyTill.on 9 fun K' hK => ?_
        rw [if_pos (by rfl)]
        refine wp_store_row 37 (.tmp 16) (.tmp 61) rfl (v2.heap.size) (balL (⟨i.p, m, g, rs, nx, 0, 0, 0, 0⟩ : MBal) ⟨A3, c3⟩ ⟨A4, c4⟩).toArray rfl rfl _ _ gA (bal_size (⟨i.p, m, g, rs, nx, 0, 0, 0, 0⟩ : MBal) ⟨A3, c3⟩ ⟨A4, c4⟩) rfl (bal_one _ _ _) ?_
        have hXz : w1.heap.size ≤ v2.heap.size := hX
        have kS := below_setRow kv3 (g := v2.heap.size) hXz (balL (⟨i.p, m, g, rs, nx, 0, 0, 0, 0⟩ : MBal) ⟨A3, c3⟩ ⟨A4, c4⟩).toArray
        have scS := HC2.out _ kS
        refine hK.out _ _ (.inr scS) ?_
        clear hK K' scd
        try simp only [pt]
        refine AnyTill.tk 10 scS ?_
        refine AnyTill.done (by kernel_rfl) ?_ _
        refine NoPanic.normal ?_
        go_wp2
        go_meet
        exact ⟨v2.heap.size, A3, c3, A4, c4, rfl, rfl, hX, kS, setRow_heap _ _ _ _ _ _ gA, ⟨hc3, hm3⟩, ⟨hc4, hm4⟩, atr_off (ownr_at o3) n3 _, at_off a4 n4 _, ((ownr_free o3).wide s3).off _, (f4.wide s4).off _, n3, n4⟩
      case xpr8 =>
        go_simp
        generalize hap : World.alloc v1 _ = v4
        have gA : v4.heap[v1.heap.size]? = some (.cells (balL bal0 .nil .nil).toArray 37 (0, 0)) := by rw [← hap]; exact heap_alloc_last _ _
        have hb : Below v1.heap.size v1 v4 := by rw [← hap]; exact (Below.refl _ _).alloc (Nat.le_refl _) _
        have lA : v1.heap.size < v4.heap.size := by rw [← hap]; simp
        have hX : w1.heap.size ≤ v1.heap.size := kv1.size
        clear hap
        have n3 : ∀ b off, A3 = some ⟨b, off, none⟩ → b ≠ v1.heap.size := fun b off e => Nat.ne_of_lt (World.ownsRow.lt o3 b (by rw [e]; rfl)).2
        have kv4 := kv1.trans (hb.mono kv1.size)
        have o3 := o3.below hb
        have scv4 := HC2.out _ kv4
        refine hK.out _ _ (.inr scv4) ?_
        clear hK K' scd hb
        have scd := scv4
        clear scv4
        try simp only [pt]
        refine AnyTill.on 4 fun K' hK => ?_
        go_simp
        (go_at_call 23; (refine (CN.out _ kv4 A3 c3 (ownr_at o3) ⟨hc3, hm3⟩).mono ?_); rintro e v5 ⟨A4, c4, rfl, hc4, hm4, a4, f4, hb⟩)
        have s4 := kv4.size
        have n4 : ∀ b off, A4 = some ⟨b, off, none⟩ → b ≠ v1.heap.size := fun b off e => Nat.ne_of_gt (Nat.lt_of_lt_of_le lA (f4 b off e).1)
        have kv5 := kv4.trans (hb.mono kv4.size)
        have gA := (hb.block _ lA).trans gA
        have lA := Nat.lt_of_lt_of_le lA hb.size
        have o3 := o3.below hb
        have scv5 := HC2.out _ kv5
        refine hK.out _ _ (.inr scv5) ?_
        clear hK K' scd hb
        have scd := scv5
        clear scv5
        try simp only [pt]
        refine AnyTill.tk 5 scd ?_
        refine AnyTill.tk 6 scd ?_
        refine AnyTill.tk 7 scd ?_
        refine AnyTill.on 9 fun K' hK => ?_
        rw [if_pos (by rfl)]
        refine wp_store_row 37 (.tmp 16) (.tmp 61) rfl (v1.heap.size) (balL (⟨i.p, m, g, rs, nx, 0, 0, 0, 0⟩ : MBal) ⟨A3, c3⟩ ⟨A4, c4⟩).toArray rfl rfl _ _ gA (bal_size (⟨i.p, m, g, rs, nx, 0, 0, 0, 0⟩ : MBal) ⟨A3, c3⟩ ⟨A4, c4⟩) rfl (bal_one _ _ _) ?_
        have hXz : w1.heap.size ≤ v1.heap.size := hX
        have kS := below_setRow kv5 (g := v1.heap.size) hXz (balL (⟨i.p, m, g, rs, nx, 0, 0, 0, 0⟩ : MBal) ⟨A3, c3⟩ ⟨A4, c4⟩).toArray
        have scS := HC2.out _ kS
        refine hK.out _ _ (.inr scS) ?_
        clear hK K' scd
        try simp only [pt]
        refine AnyTill.tk 10 scS ?_
        refine AnyTill.done (by kernel_rfl) ?_ _
        refine NoPanic.normal ?_
        go_wp2
        go_meet
        exact ⟨v1.heap.size, A3, c3, A4, c4, rfl, rfl, hX, kS, setRow_heap _ _ _ _ _ _ gA, ⟨hc3, hm3⟩, ⟨hc4, hm4⟩, atr_off (ownr_at o3) n3 _, at_off a4 n4 _, ((ownr_free o3).wide s3).off _, (f4.wide s4).off _, n3, n4⟩
    case xp8 =>
      go_simp
      generalize hap : World.alloc wd _ = v6
      have gA : v6.heap[wd.heap.size]? = some (.cells (balL bal0 .nil .nil).toArray 37 (0, 0)) := by rw [← hap]; exact heap_alloc_last _ _
      have hb : Below wd.heap.size wd v6 := by rw [← hap]; exact (Below.refl _ _).alloc (Nat.le_refl _) _
      have lA : wd.heap.size < v6.heap.size := by rw [← hap]; simp
      have hX : w1.heap.size ≤ wd.heap.size := kd.size
      clear hap
      have kv6 := kd.trans (hb.mono kd.size)
      have scv6 := HC2.out _ kv6
      refine hK.out _ _ (.inr scv6) ?_
      clear hK K' scd hb
      have scd := scv6
      clear scv6
      try simp only [pt]
      refine AnyTill.on 3 fun K' hK => ?_
      go_simp
      (go_at_call 11; (refine (CP.out _ kv6).mono ?_); rintro e v7 ⟨A3, c3, rfl, hc3, hm3, o3, hb⟩)
      have s3 := kv6.size
      have n3 : ∀ b off, A3 = some ⟨b, off, none⟩ → b ≠ wd.heap.size := fun b off e => Nat.ne_of_gt (Nat.lt_of_lt_of_le lA (World.ownsRow.lt o3 b (by rw [e]; rfl)).1)
      have kv7 := kv6.trans (hb.mono kv6.size)
      have gA := (hb.block _ lA).trans gA
      have lA := Nat.lt_of_lt_of_le lA hb.size
      have scv7 := HC2.out _ kv7
      refine hK.out _ _ (.inr scv7) ?_
      clear hK K' scd hb
      have scd := scv7
      clear scv7
      try simp only [pt]
      refine AnyTill.on 4 fun K' hK => ?_
      go_simp
      (go_at_call 23; (refine (CN.out _ kv7 A3 c3 (ownr_at o3) ⟨hc3, hm3⟩).mono ?_); rintro e v8 ⟨A4, c4, rfl, hc4, hm4, a4, f4, hb⟩)
      have s4 := kv7.size
      have n4 : ∀ b off, A4 = some ⟨b, off, none⟩ → b ≠ wd.heap.size := fun b off e => Nat.ne_of_gt (Nat.lt_of_lt_of_le lA (f4 b off e).1)
      have kv8 := kv7.trans (hb.mono kv7.size)
      have gA := (hb.block _ lA).trans gA
      have lA := Nat.lt_of_lt_of_le lA hb.size
      have o3 := o3.below hb
      have scv8 := HC2.out _ kv8
      refine hK.out _ _ (.inr scv8) ?_
      clear hK K' scd hb
      have scd := scv8
      clear scv8
      try simp only [pt]
      refine AnyTill.tk 5 scd ?_
      refine AnyTill.tk 6 scd ?_
      refine AnyTill.tk 7 scd ?_
      refine AnyTill.on 9 fun K' hK => ?_
      rw [if_pos (by rfl)]
      refine wp_store_row 37 (.tmp 16) (.tmp 61) rfl (wd.heap.size) (balL (⟨i.p, m, g, rs, nx, 0, 0, 0, 0⟩ : MBal) ⟨A3, c3⟩ ⟨A4, c4⟩).toArray rfl rfl _ _ gA (bal_size (⟨i.p, m, g, rs, nx, 0, 0, 0, 0⟩ : MBal) ⟨A3, c3⟩ ⟨A4, c4⟩) rfl (bal_one _ _ _) ?_
      have hXz : w1.heap.size ≤ wd.heap.size := hX
      have kS := below_setRow kv8 (g := wd.heap.size) hXz (balL (⟨i.p, m, g, rs, nx, 0, 0, 0, 0⟩ : MBal) ⟨A3, c3⟩ ⟨A4, c4⟩).toArray
      have scS := HC2.out _ kS
      refine hK.out _ _ (.inr scS) ?_
      clear hK K' scd
      try simp only [pt]
      refine AnyTill.tk 10 scS ?_
      refine AnyTill.done (by kernel_rfl) ?_ _
      refine NoPanic.normal ?_
      go_wp2
      go_meet
      exact ⟨wd.heap.size, A3, c3, A4, c4, rfl, rfl, hX, kS, setRow_heap _ _ _ _ _ _ gA, ⟨hc3, hm3⟩, ⟨hc4, hm4⟩, atr_off (ownr_at o3) n3 _, at_off a4 n4 _, ((ownr_free o3).wide s3).off _, (f4.wide s4).off _, n3, n4⟩
  case rest =>
    as_aux_lemma =>
    obtain ⟨X, A3, c3, A4, c4, rfl, rfl, hX, k2, gX, hc3, hc4, ha3, ha4, f3, f4, n3, n4⟩ := hcut
    obtain ⟨w2, rfl⟩ : ∃ x, x = wc := ⟨_, rfl⟩
    have HW := Lib.hid (HW.out.below k2)
    have hz1 := Lib.hid (show w.heap.size + 3 ≤ w1.heap.size from L1.out)
    have LX := Lib.hid (show X < w2.heap.size from (Array.getElem?_eq_some_iff.1 gX).1)
    have GX := Lib.hid gX
    have HA3 := Lib.hid ha3
    have HA4 := Lib.hid ha4
    have F3 := Lib.hid f3
    have F4 := Lib.hid f4
    have N3 := Lib.hid n3
    have N4 := Lib.hid n4
    have HX := Lib.hid hX
    clear k2 gX ha3 ha4 f3 f4 n3 n4 hX CP CN HC2
    have x1 : w2.cell? ⟨X, 1, none⟩ = some (.slice A3 m c3) := cell_of_row _ _ 1 _ _ _ GX.out
    have o1 := HW.out.op1
    have CV := Lib.hid (pmvd (c := cb) (c' := c3) (HO.out.below HW.out.lo).rows HA3.out HOK.out.iv HB.out HO.out.hb hc3)
    have hmv : -9223372036854775808 ≤ (tqOf i op m g r).moved ∧ (tqOf i op m g r).moved ≤ 9223372036854775807 := by
      have h1 := HB.out.all
      have h2 := HOK.out.iv.all
      unfold Mon at h1 h2
      show -9223372036854775808 ≤ btot g m - btot op.g op.n ∧ btot g m - btot op.g op.n ≤ 9223372036854775807
      omega
    have HMV := Lib.hid hmv
    clear hmv
    go_wp2_with fail
    refine (CV.out).mono ?_
    rintro e w3 ⟨rfl, hb⟩
    have HW := Lib.hid (HW.out.below hb)
    have K3 := Lib.hid hb
    clear hb CV x1 o1
    obtain ⟨j0, j1, j2, j3, j4, j5, j6, j7⟩ := HW.out.ins
    rcases HK.out with ⟨rfl, hno, hE⟩ | ⟨rfl, hmk, rfl, rfl, hrs⟩
    · have CT := Lib.hid (ptax_no (HL.out.below HW.out.lo) HV.out _ HMV.out hno)
      have E0 : (E == 0) = false := by simpa using hE
      have E1 : ¬ E = 0 := hE
      clear hno hE HK
      go_wp2_with fail
      refine (CT.out).mono ?_
      rintro e w5 ⟨rfl, hb⟩
      have HW := Lib.hid (HW.out.below hb)
      clear hb CT j0 j1 j2 j3 j4 j5 j6 j7
      go_upto_region 12 with ((with_reducible show wpList _ _ _ _ _ _); (refine wpList_store_row rfl 39 _ _ rfl w5.heap.size (txl 0 0 0 0 0 0 (.slice none 0 0)).toArray rfl rfl _ _ (heap_alloc_last _ _) (ctx_size _ _ _ _ _ _ _) rfl (ctx_one _ _ _ _ _ _ _ _ _) ?_); rw [World.setRow_alloc_new])
      generalize hw6 : World.alloc w5 _ = w6
      have HW := Lib.hid (HW.out.below (w1 := w6) (by rw [← hw6]; exact (Below.refl _ _).alloc (Nat.le_refl _) _))
      clear hw6
      go_wp2_with (first | ((with_reducible show wpList _ _ _ _ _ _); (refine wpList_store_row rfl 44 _ _ rfl (w.heap.size + 2) pv0L.toArray rfl rfl _ _ HW.out.b10 pv0_size rfl (one_all pv0L_one) ?_)))
      exact bodyPost_ret (results_ctt rfl _ _ (w.heap.size + 2) _ rfl (run_loadVar_row _ _ _ _ _ (0, 0) _ (setRow_heap _ _ _ _ _ _ HW.out.b10) Try.underlying44 rfl pv0_size)) rfl (.inl ⟨rfl, rfl, below_setRow HW.out.lo (Nat.le_add_right _ _) _⟩)
    · have CT := Lib.hid (ptax_oko (HL.out.below HW.out.lo) HV.out _ HMV.out v.x hmk.tax)
      have HM := Lib.hid hmk
      have HRS := Lib.hid hrs
      clear hmk hrs HK
      as_aux_lemma =>
        go_wp2_with fail
        refine (CT.out).mono ?_
        rintro e w5 ⟨lb', O5, U, cu, rfl, hl5, hu5, hcu, hcm, hb⟩
        have HW := Lib.hid (HW.out.below hb)
        have HL5 := Lib.hid hl5
        have HU5 := Lib.hid hu5
        have K5 := Lib.hid hb
        clear hb CT j0 j1 j2 j3 j4 j5 j6 j7 hl5 hu5
        go_upto_region 12 with ((with_reducible show wpList _ _ _ _ _ _); (refine wpList_store_row rfl 39 _ _ rfl w5.heap.size (txl v.x.inc v.x.exp v.x.used v.x.new v.x.txb v.x.tax (.slice U v.x.q cu)).toArray rfl rfl _ _ (heap_alloc_last _ _) (ctx_size _ _ _ _ _ _ _) rfl (ctx_one _ _ _ _ _ _ _ _ _) ?_); rw [World.setRow_alloc_new])
        generalize hw6 : World.alloc w5 _ = w6
        have g6 : w6.heap[w5.heap.size]? = some (.cells (txl v.x.inc v.x.exp v.x.used v.x.new v.x.txb v.x.tax (.slice U v.x.q cu)).toArray 39 (0, 0)) := by rw [← hw6]; exact heap_alloc_last _ _
        have hb : Below w5.heap.size w5 w6 := by rw [← hw6]; exact (Below.refl _ _).alloc (Nat.le_refl _) _
        clear hw6
        have ML6 : Hid (MkL w w6 O5 i op ⟨ab, cb⟩ ⟨ar, cr⟩ lb' SL' X ⟨i.p, m, g, rs, v.cl.nx, 0, 0, 0, 0⟩ A3 c3 A4 c4 m g rs w5.heap.size v.x U cu) := Lib.hid (by
          have l1 := hz1.out
          have l2 := LX.out
          have l3 := K3.out.size
          have l5 := K5.out.size
          have hx := HX.out
          have fin := HL5.out.fin
          have f5 : Fin0 w.heap.size O5 w5 := ⟨fun k hk => fin.1 k (by omega), fin.2⟩
          refine ⟨HW.out.below hb, (NowL.marks HL5.out (fun k e => e) f5 HW.out.lo (by omega)).below hb, ?_, g6, HU5.out.1.below hb, ((HA3.out.below K3.out).below K5.out).below hb, ((HA4.out.below K3.out).below K5.out).below hb, ?_, ?_, ?_, ?_, N3.out, N4.out, by omega, fin.1 X (by omega), by omega⟩
          · rw [hb.block X (by omega), K5.out.block X (by omega), K3.out.block X l2]; exact GX.out
          · intro b off e
            obtain ⟨h1, h2, h3⟩ := HU5.out.2 b off e
            exact ⟨by omega, by have := hb.size; omega, h3⟩
          · intro b off e
            obtain ⟨h1, h2, _⟩ := F3.out b off e
            exact ⟨by omega, by have := hb.size; omega, fin.1 b (by omega)⟩
          · intro b off e
            obtain ⟨h1, h2, _⟩ := F4.out b off e
            exact ⟨by omega, by have := hb.size; omega, fin.1 b (by omega)⟩
          · intro b off e
            obtain ⟨h1, h2, h3⟩ := HU5.out.2 b off e
            omega)
        have F5 : Hid (O5 (w.heap.size + 2) = 0) := Lib.hid (HL5.out.fin.1 _ (by have := hz1.out; have := LX.out; have := K3.out.size; have := HX.out; omega))
        clear g6 hb K5 HL5 HU5 GX HA3 HA4 F3 F4 N3 N4 HX LX K3 HW
        go_wp2_with fail
        have hms := HM.out
        have iv := HS.out.inv
        have ml := cmk_loss iv HV.out hms
        obtain ⟨B', sB, sR, E', hme0, hme⟩ : ∃ (B' : MBal) (sB sR : Sl) (E' : Int), (∀ w5, Below w6.heap.size w6 w5 → Calls Try.prog 26 #[.agg (balL (⟨i.p, m, g, rs, v.cl.nx, 0, 0, 0, 0⟩ : MBal) ⟨A3, c3⟩ ⟨A4, c4⟩).toArray, .int .i64 v.cl.left, .int .i64 i.jd] w5 fun e w' => e = .returned (.tuple #[.agg (balL B' sB sR).toArray, .int .i64 E']) ∧ Below w5.heap.size w5 w') ∧ ((Mon v.cl.tmp ∧ B' = v.cl ∧ sB = ⟨A3, c3⟩ ∧ sR = ⟨A4, c4⟩ ∧ E' = 0) ∨ (¬ Mon v.cl.tmp ∧ E' = 6)) := by
          by_cases hm : Mon v.cl.tmp
          · have eb : balL (⟨i.p, m, g, rs, v.cl.nx, v.cl.left, v.cl.tmp, v.cl.ls, v.cl.al⟩ : MBal) ⟨A3, c3⟩ ⟨A4, c4⟩ = balL v.cl ⟨A3, c3⟩ ⟨A4, c4⟩ := by
              unfold balL
              rw [hms.per, hms.cn]
            refine ⟨v.cl, ⟨A3, c3⟩, ⟨A4, c4⟩, 0, fun w5 k5 => ?_, .inl ⟨hm, rfl, rfl, rfl, rfl⟩⟩
            have q := pmeas_ok (p := i.p) (nx := v.cl.nx) (left := v.cl.left) (ls := v.cl.ls) (jd := i.jd) (al := v.cl.al) (ML6.out.rw.below k5) (ML6.out.rt.below k5) hm9 hc3 hc4 (cmk_temp_yes iv HB.out hms HRS.out hm) ml.2.2.1 (by rw [hms.al]; exact alw_share ml.2.2.2.1)
            rw [eb] at q
            exact q
          · exact ⟨bal0, .nil, .nil, 6, fun w5 k5 => pmeas_no (ML6.out.rw.below k5) (ML6.out.rt.below k5) hm9 hc3 hc4 (cmk_temp_no iv HB.out hms HRS.out hm), .inr ⟨hm, rfl⟩⟩
        have CME := Lib.hid hme0
        have HME := Lib.hid hme
        obtain ⟨nl2, gl2, vl2, el2⟩ := hms.tax.left HV.out
        have EL : btot gl2 nl2 = v.cl.left := by rw [hms.left]; exact el2
        have CLF : Hid (∀ w5, Below w6.heap.size w6 w5 → Calls Try.prog 10 #[ptr lb'] w5 fun e w' => e = .returned (.int .i64 v.cl.left) ∧ Below w5.heap.size w5 w') := Lib.hid fun w5 k5 => by
          have q := pvleft (ML6.out.L.below k5) vl2.is
          rw [EL] at q
          exact q
        have HC2 := Lib.hid fun (w5 : World) (k : Below w6.heap.size w6 w5) => (show w5.cell? ⟨w.heap.size, 4, none⟩ = some (.int .i64 i.jd) from (ML6.out.cm.below k).ins.2.2.2.2.1)
        clear hms iv ml hme0 hme vl2 el2 EL
        go_cut [17] (fun s17 wx => ∃ w7, Below w6.heap.size w6 w7 ∧ s17 = .int .i64 E' ∧ wx = w7.setRow X (balL B' sB sR).toArray)
        case first => as_aux_lemma =>
          refine wp_region_noPanic ?_
          refine AnyTill.begin (C := fun w' => w'.cell? ⟨w.heap.size, 4, none⟩ = some (.int .i64 i.jd)) (q := 99) (by kernel_rfl) ?_
          obtain ⟨wd, hwd⟩ : ∃ wd, w6.drew = wd := ⟨_, rfl⟩
          have kd : Below w6.heap.size w6 wd := by rw [← hwd]; exact below_drew w6
          rw [hwd]
          have scd := HC2.out wd kd
          clear hwd
          refine AnyTill.tk 1 scd ?_
          refine AnyTill.tk 3 scd ?_
          refine AnyTill.tk 4 scd ?_
          refine' AnyTill.two (i := 0) (k := 2) (o := _) (o' := _) (by kernel_rfl) ?ama ?amb (fun K' hK => ?xma) (fun K' hK => ?xmb)
          case ama => (simp only [List.getElem?_toArray, List.getElem?_cons_zero]; rfl)
          case amb => (simp only [List.getElem?_toArray, List.getElem?_cons_succ, List.getElem?_cons_zero]; rfl)
          case xma =>
            rw [if_pos (by rfl)]
            refine wp_load_mid 37 (.tmp 16) rfl X 0 rfl (balL (⟨i.p, m, g, rs, v.cl.nx, 0, 0, 0, 0⟩ : MBal) ⟨A3, c3⟩ ⟨A4, c4⟩) _ (row_range (ML6.out.below kd).xB) Try.underlying37 rfl (bal_sizeL _ _ _) ?_
            refine hK.out _ _ (.inr (HC2.out _ kd)) ?_
            clear hK K'
            try simp only [pt]
            refine AnyTill.on 2 fun K' hK => ?_
            go_simp
            (go_at_call 10; (refine (CLF.out _ kd).mono ?_); rintro e u4 ⟨rfl, hb⟩)
            have ku4 := kd.trans (hb.mono kd.size)
            refine hK.out _ _ (.inr (HC2.out _ ku4)) ?_
            clear hK K' hb
            try simp only [pt]
            refine AnyTill.on 5 fun K' hK => ?_
            go_simp
            (go_at_call 26; (refine (CME.out _ ku4).mono ?_); rintro e u5 ⟨rfl, hb⟩)
            have ku5 := ku4.trans (hb.mono ku4.size)
            have sc5 := HC2.out _ ku5
            refine hK.out _ _ (.inr sc5) ?_
            clear hK K' hb
            try simp only [pt]
            refine AnyTill.tk 6 sc5 ?_
            refine AnyTill.tk 7 sc5 ?_
            refine AnyTill.tk 8 sc5 ?_
            have gx := (ML6.out.below ku5).xB
            refine AnyTill.on 9 fun K' hK => ?_
            rw [if_pos (by rfl)]
            refine wp_store_row 37 (.tmp 16) (.tmp 100) rfl X (balL B' sB sR).toArray rfl rfl _ _ gx (bal_size B' sB sR) rfl (bal_one _ _ _) ?_
            have scS : (u5.setRow X (balL B' sB sR).toArray).cell? ⟨w.heap.size, 4, none⟩ = some (.int .i64 i.jd) := ((ML6.out.below ku5).cm.row (ML6.out.hX) (balL B' sB sR).toArray).ins.2.2.2.2.1
            refine hK.out _ _ (.inr scS) ?_
            clear hK K'
            try simp only [pt]
            refine AnyTill.tk 10 scS ?_
            refine AnyTill.done (by kernel_rfl) ?_ _
            refine NoPanic.normal ?_
            go_wp2
            go_meet
            exact ⟨u5, ku5, rfl, rfl⟩
          case xmb =>
            go_simp
            (go_at_call 10; (refine (CLF.out _ kd).mono ?_); rintro e u4 ⟨rfl, hb⟩)
            have ku4 := kd.trans (hb.mono kd.size)
            refine hK.out _ _ (.inr (HC2.out _ ku4)) ?_
            clear hK K' hb
            try simp only [pt]
            refine AnyTill.on 0 fun K' hK => ?_
            rw [if_pos (by rfl)]
            refine wp_load_mid 37 (.tmp 16) rfl X 0 rfl (balL (⟨i.p, m, g, rs, v.cl.nx, 0, 0, 0, 0⟩ : MBal) ⟨A3, c3⟩ ⟨A4, c4⟩) _ (row_range (ML6.out.below ku4).xB) Try.underlying37 rfl (bal_sizeL _ _ _) ?_
            refine hK.out _ _ (.inr (HC2.out _ ku4)) ?_
            clear hK K'
            try simp only [pt]
            refine AnyTill.on 5 fun K' hK => ?_
            go_simp
            (go_at_call 26; (refine (CME.out _ ku4).mono ?_); rintro e u5 ⟨rfl, hb⟩)
            have ku5 := ku4.trans (hb.mono ku4.size)
            have sc5 := HC2.out _ ku5
            refine hK.out _ _ (.inr sc5) ?_
            clear hK K' hb
            try simp only [pt]
            refine AnyTill.tk 6 sc5 ?_
            refine AnyTill.tk 7 sc5 ?_
            refine AnyTill.tk 8 sc5 ?_
            have gx := (ML6.out.below ku5).xB
            refine AnyTill.on 9 fun K' hK => ?_
            rw [if_pos (by rfl)]
            refine wp_store_row 37 (.tmp 16) (.tmp 100) rfl X (balL B' sB sR).toArray rfl rfl _ _ gx (bal_size B' sB sR) rfl (bal_one _ _ _) ?_
            have scS : (u5.setRow X (balL B' sB sR).toArray).cell? ⟨w.heap.size, 4, none⟩ = some (.int .i64 i.jd) := ((ML6.out.below ku5).cm.row (ML6.out.hX) (balL B' sB sR).toArray).ins.2.2.2.2.1
            refine hK.out _ _ (.inr scS) ?_
            clear hK K'
            try simp only [pt]
            refine AnyTill.tk 10 scS ?_
            refine AnyTill.done (by kernel_rfl) ?_ _
            refine NoPanic.normal ?_
            go_wp2
            go_meet
            exact ⟨u5, ku5, rfl, rfl⟩
        case rest =>
        as_aux_lemma =>
          obtain ⟨w7, k7, rfl, rfl⟩ := hcut
          rcases HME.out with ⟨t1, rfl, rfl, rfl, rfl⟩ | ⟨t1, rfl⟩
          · have T1 := Lib.hid t1
            have ML8 := Lib.hid ((ML6.out.below k7).setX v.cl)
            clear t1 HME CME CLF HC2 ML6 k7
            generalize hw8 : World.setRow w7 X _ = w8
            rw [hw8] at ML8
            clear hw8
            have CCP := Lib.hid fun (w9 : World) (k : Below w8.heap.size w8 w9) => pcopied (HO.out.below (ML8.out.below k).cm.lo) hn9
            have HC2 := Lib.hid fun (w' : World) (k : Below w8.heap.size w8 w') => (show w'.rangeAt w.heap.size 0 (inL i) ∧ w'.rangeAt (w.heap.size + 1) 0 (balL op ⟨ab, cb⟩ ⟨ar, cr⟩) ∧ w'.rangeAt X 0 (balL v.cl ⟨A3, c3⟩ ⟨A4, c4⟩) ∧ w'.rangeAt w5.heap.size 0 (txl v.x.inc v.x.exp v.x.used v.x.new v.x.txb v.x.tax (.slice U v.x.q cu)) from ⟨row_range (ML8.out.below k).cm.b6, row_range (ML8.out.below k).cm.b7, row_range (ML8.out.below k).xB, row_range (ML8.out.below k).tB⟩)
            go_upto_region 17 with fail
            go_cut [21] (fun s21 wx => ∃ P sb' sr', s21 = ptr P ∧ Below w8.heap.size w8 wx ∧ w8.heap.size ≤ P ∧ wx.heap[P]? = some (.cells (qL i v.r op sb' sr' v.cl (.slice A3 v.cl.n c3) (.slice A4 v.cl.n c4) v.x (.slice U v.x.q cu) vnil vnil 0 0 0 0 0 0 0).toArray 44 (0, 0)) ∧ BalO (fun _ => 0) w8.heap.size wx op sb' sr' ∧ (∀ b off, sb'.a = some ⟨b, off, none⟩ → b ≠ P) ∧ ∀ b off, sr'.a = some ⟨b, off, none⟩ → b ≠ P)
            case first => as_aux_lemma =>
              refine wp_region_noPanic ?_
              refine AnyTill.begin (C := fun w' => w'.rangeAt w.heap.size 0 (inL i) ∧ w'.rangeAt (w.heap.size + 1) 0 (balL op ⟨ab, cb⟩ ⟨ar, cr⟩) ∧ w'.rangeAt X 0 (balL v.cl ⟨A3, c3⟩ ⟨A4, c4⟩) ∧ w'.rangeAt w5.heap.size 0 (txl v.x.inc v.x.exp v.x.used v.x.new v.x.txb v.x.tax (.slice U v.x.q cu))) (q := 8) (by kernel_rfl) ?_
              obtain ⟨wd, hwd⟩ : ∃ wd, w8.drew = wd := ⟨_, rfl⟩
              have kd : Below w8.heap.size w8 wd := by rw [← hwd]; exact below_drew w8
              rw [hwd]
              have scd := HC2.out wd kd
              clear hwd
              refine AnyTill.tv (i := 0) (v := .agg (inL i).toArray) (hy := (yieldsIf_load_mid (by rfl) 31 (.tmp 6) rfl (w.heap.size) 0 rfl (inL i) _ (fun _ h => h.1) Try.underlying31 rfl (cin_sizeL _))) (hC := scd) (h := ?_)
              refine AnyTill.tk 1 scd ?_
              refine AnyTill.tv (i := 2) (v := .agg (balL op ⟨ab, cb⟩ ⟨ar, cr⟩).toArray) (hy := (yieldsIf_load_mid (by rfl) 37 (.tmp 7) rfl (w.heap.size + 1) 0 rfl (balL op ⟨ab, cb⟩ ⟨ar, cr⟩) _ (fun _ h => h.2.1) Try.underlying37 rfl (bal_sizeL _ _ _))) (hC := scd) (h := ?_)
              refine AnyTill.tv (i := 4) (v := .agg (balL v.cl ⟨A3, c3⟩ ⟨A4, c4⟩).toArray) (hy := (yieldsIf_load_mid (by rfl) 37 (.tmp 16) rfl (X) 0 rfl (balL v.cl ⟨A3, c3⟩ ⟨A4, c4⟩) _ (fun _ h => h.2.2.1) Try.underlying37 rfl (bal_sizeL _ _ _))) (hC := scd) (h := ?_)
              refine AnyTill.tv (i := 5) (v := .agg (txl v.x.inc v.x.exp v.x.used v.x.new v.x.txb v.x.tax (.slice U v.x.q cu)).toArray) (hy := (yieldsIf_load_mid (by rfl) 39 (.tmp 19) rfl (w5.heap.size) 0 rfl (txl v.x.inc v.x.exp v.x.used v.x.new v.x.txb v.x.tax (.slice U v.x.q cu)) _ (fun _ h => h.2.2.2) Try.underlying39 rfl (ctx_size _ _ _ _ _ _ _))) (hC := scd) (h := ?_)
              refine' AnyTill.two (i := 3) (k := 7) (o := _) (o' := _) (by kernel_rfl) ?aca ?acb (fun K' hK => ?xca) (fun K' hK => ?xcb)
              case aca => (simp only [List.getElem?_toArray, List.getElem?_cons_succ, List.getElem?_cons_zero]; rfl)
              case acb => (simp only [List.getElem?_toArray, List.getElem?_cons_succ, List.getElem?_cons_zero]; rfl)
              case xca =>
                go_simp
                (go_at_call 27; (refine (CCP.out _ kd).mono ?_); rintro e u1 ⟨sb', sr', rfl, bo, hb⟩)
                have ku1 := kd.trans (hb.mono kd.size)
                have zc := kd.size
                have scu1 := HC2.out _ ku1
                refine hK.out _ _ (.inr scu1) ?_
                clear hK K' hb
                try simp only [pt]
                refine AnyTill.tv (i := 6) (v := .agg (qL i v.r op sb' sr' v.cl (.slice A3 v.cl.n c3) (.slice A4 v.cl.n c4) v.x (.slice U v.x.q cu) vnil vnil 0 0 0 0 0 0 0).toArray) (hy := (Or.inl ⟨by rfl, fun w5 _ => cbuild_q rfl _ rfl rfl rfl rfl rfl w5⟩)) (hC := scu1) (h := ?_)
                refine AnyTill.on 7 fun K' hK => ?_
                go_simp
                generalize hap : World.alloc u1 _ = u2
                have gP : u2.heap[u1.heap.size]? = some (.cells pv0L.toArray 44 (0, 0)) := by rw [← hap]; exact heap_alloc_last _ _
                have hb : Below u1.heap.size u1 u2 := by rw [← hap]; exact (Below.refl _ _).alloc (Nat.le_refl _) _
                have lP : u1.heap.size < u2.heap.size := by rw [← hap]; simp
                have ku2 := ku1.trans (hb.mono ku1.size)
                have zp := ku1.size
                clear hap
                have nn : ∀ A, Free (fun _ => 0) wd.heap.size u1 A → ∀ b off, A = some ⟨b, off, none⟩ → b ≠ u1.heap.size := fun A h b off e => Nat.ne_of_lt (h b off e).2.1
                have nnb := nn _ bo.fb
                have nnr := nn _ bo.fr
                have bo := bo.below hb
                have scu2 := HC2.out _ ku2
                refine hK.out _ _ (.inr scu2) ?_
                clear hK K' hb
                try simp only [pt]
                refine AnyTill.on 8 fun K' hK => ?_
                rw [if_pos (by rfl)]
                refine wp_store_row 44 (.tmp 21) (.tmp 112) rfl (u1.heap.size) (qL i v.r op sb' sr' v.cl (.slice A3 v.cl.n c3) (.slice A4 v.cl.n c4) v.x (.slice U v.x.q cu) vnil vnil 0 0 0 0 0 0 0).toArray rfl rfl _ _ gP (cq_size _ _ _ _ _ _ _ _ _ _ _ _ _ _ _ _ _ _ _) rfl (qL_one ..) ?_
                have kS := below_setRow ku2 (g := u1.heap.size) zp (qL i v.r op sb' sr' v.cl (.slice A3 v.cl.n c3) (.slice A4 v.cl.n c4) v.x (.slice U v.x.q cu) vnil vnil 0 0 0 0 0 0 0).toArray
                refine hK.out _ _ (.inl rfl) ?_
                clear hK K'
                try simp only [pt]
                refine AnyTill.done (by kernel_rfl) ?_ _
                refine NoPanic.normal ?_
                go_wp2
                go_meet
                have nb : ∀ b off, sb'.a = some ⟨b, off, none⟩ → b ≠ u1.heap.size := fun b off e => nnb b off e
                have nr' : ∀ b off, sr'.a = some ⟨b, off, none⟩ → b ≠ u1.heap.size := fun b off e => nnr b off e
                exact ⟨u1.heap.size, sb', sr', rfl, kS, zp, setRow_heap _ _ _ _ _ _ gP, ⟨⟨bo.at'.hb, bo.at'.hr, atr_off bo.at'.rows nb _, at_off bo.at'.rates nr' _⟩, (bo.fb.wide zc).off _, (bo.fr.wide zc).off _⟩, nb, nr'⟩
              case xcb =>
                go_simp
                generalize hap : World.alloc wd _ = u1
                have gP : u1.heap[wd.heap.size]? = some (.cells pv0L.toArray 44 (0, 0)) := by rw [← hap]; exact heap_alloc_last _ _
                have hb : Below wd.heap.size wd u1 := by rw [← hap]; exact (Below.refl _ _).alloc (Nat.le_refl _) _
                have lP : wd.heap.size < u1.heap.size := by rw [← hap]; simp
                have ku1 := kd.trans (hb.mono kd.size)
                have zp := kd.size
                clear hap
                have scu1 := HC2.out _ ku1
                refine hK.out _ _ (.inr scu1) ?_
                clear hK K' hb
                try simp only [pt]
                refine AnyTill.on 3 fun K' hK => ?_
                go_simp
                (go_at_call 27; (refine (CCP.out _ ku1).mono ?_); rintro e u2 ⟨sb', sr', rfl, bo, hb⟩)
                have ku2 := ku1.trans (hb.mono ku1.size)
                have zc := ku1.size
                have gP := (hb.block _ lP).trans gP
                have scu2 := HC2.out _ ku2
                refine hK.out _ _ (.inr scu2) ?_
                clear hK K' hb
                try simp only [pt]
                refine AnyTill.tv (i := 6) (v := .agg (qL i v.r op sb' sr' v.cl (.slice A3 v.cl.n c3) (.slice A4 v.cl.n c4) v.x (.slice U v.x.q cu) vnil vnil 0 0 0 0 0 0 0).toArray) (hy := (Or.inl ⟨by rfl, fun w5 _ => cbuild_q rfl _ rfl rfl rfl rfl rfl w5⟩)) (hC := scu2) (h := ?_)
                refine AnyTill.on 8 fun K' hK => ?_
                rw [if_pos (by rfl)]
                refine wp_store_row 44 (.tmp 21) (.tmp 112) rfl (wd.heap.size) (qL i v.r op sb' sr' v.cl (.slice A3 v.cl.n c3) (.slice A4 v.cl.n c4) v.x (.slice U v.x.q cu) vnil vnil 0 0 0 0 0 0 0).toArray rfl rfl _ _ gP (cq_size _ _ _ _ _ _ _ _ _ _ _ _ _ _ _ _ _ _ _) rfl (qL_one ..) ?_
                have kS := below_setRow ku2 (g := wd.heap.size) zp (qL i v.r op sb' sr' v.cl (.slice A3 v.cl.n c3) (.slice A4 v.cl.n c4) v.x (.slice U v.x.q cu) vnil vnil 0 0 0 0 0 0 0).toArray
                refine hK.out _ _ (.inl rfl) ?_
                clear hK K'
                try simp only [pt]
                refine AnyTill.done (by kernel_rfl) ?_ _
                refine NoPanic.normal ?_
                go_wp2
                go_meet
                have nb : ∀ b off, sb'.a = some ⟨b, off, none⟩ → b ≠ wd.heap.size := fun b off e => Nat.ne_of_gt (Nat.lt_of_lt_of_le lP (bo.fb b off e).1)
                have nr' : ∀ b off, sr'.a = some ⟨b, off, none⟩ → b ≠ wd.heap.size := fun b off e => Nat.ne_of_gt (Nat.lt_of_lt_of_le lP (bo.fr b off e).1)
                exact ⟨wd.heap.size, sb', sr', rfl, kS, zp, setRow_heap _ _ _ _ _ _ gP, ⟨⟨bo.at'.hb, bo.at'.hr, atr_off bo.at'.rows nb _, at_off bo.at'.rates nr' _⟩, (bo.fb.wide zc).off _, (bo.fr.wide zc).off _⟩, nb, nr'⟩
            case rest =>
            as_aux_lemma =>
              obtain ⟨P, sb', sr', rfl, k9, hP, gP, bo, nb, nr'⟩ := hcut
              obtain ⟨ob, cob⟩ := sb'
              obtain ⟨oq, coq⟩ := sr'
              obtain ⟨w9, rfl⟩ : ∃ x, x = wc := ⟨_, rfl⟩
              have ML9 := Lib.hid (ML8.out.below k9)
              have hms := HM.out
              have hcl : BalAt w9 v.cl ⟨A3, c3⟩ ⟨A4, c4⟩ := ⟨by rw [hms.cn]; exact hc3, by rw [hms.cn]; exact hc4, by rw [hms.cn, hms.cg]; exact ML9.out.rw, by rw [hms.cn]; exact ML9.out.rt.ext fun j hj => (HRS.out j hj).symm⟩
              have CC := Lib.hid (pcosts (U := U) (cu := cu) (HS.out.below ML9.out.cm.lo) HB.out HV.out HOK.out bo.at' hcl hms T1.out)
              have GP := Lib.hid gP
              have RP := Lib.hid (row_range gP)
              have BO := Lib.hid bo
              have NB := Lib.hid nb
              have NR := Lib.hid nr'
              have HP := Lib.hid hP
              have lP9 := Lib.hid (Array.getElem?_eq_some_iff.1 gP).1
              have l8 := Lib.hid ML8.out.cm.lt
              have HCL := Lib.hid hcl
              clear gP bo nb nr' hP hcl hms CCP HC2
              go_wp2_with (first | ((with_reducible show wpList _ _ _ _ _ _); (refine wpList_load_mid rfl 44 (.tmp 21) rfl P 0 rfl (qL i v.r op ⟨ob, cob⟩ ⟨oq, coq⟩ v.cl (.slice A3 v.cl.n c3) (.slice A4 v.cl.n c4) v.x (.slice U v.x.q cu) vnil vnil 0 0 0 0 0 0 0) _ RP.out Try.underlying44 rfl (cq_size _ _ _ _ _ _ _ _ _ _ _ _ _ _ _ _ _ _ _) ?_)))
              refine (CC.out).mono ?_
              rintro e w10 ⟨hb, ⟨hn, rfl⟩ | ⟨hf, A5, c5, A6, c6, rfl, ⟨h1, h2, h3⟩, h4, h5, h6⟩⟩
              · have NF := Lib.hid (show ¬ Fit i op v from fun h => hn ⟨h.2.1, h.2.2⟩)
                have G10 := Lib.hid ((hb.block _ lP9.out).trans GP.out)
                have HW10 := Lib.hid (ML9.out.cm.below hb)
                have l8' := l8.out
                have hP' := HP.out
                clear hn hb CC GP RP BO NB NR HCL
                go_upto_region 19 with (first | ((with_reducible show wpList _ _ _ _ _ _); (refine wpList_store_row rfl 44 (.tmp 21) (.tmp 117) rfl P pv0L.toArray rfl rfl _ _ G10.out pv0_size rfl (one_all pv0L_one) ?_)))
                have HW := Lib.hid (HW10.out.row (b := P) (by omega) pv0L.toArray)
                generalize hw11 : World.setRow w10 P _ = w11
                rw [hw11] at HW
                clear hw11 HW10 G10
                go_wp2_with (first | ((with_reducible show wpList _ _ _ _ _ _); (refine wpList_store_row rfl 44 _ _ rfl (w.heap.size + 2) pv0L.toArray rfl rfl _ _ HW.out.b10 pv0_size rfl (one_all pv0L_one) ?_)))
                exact bodyPost_ret (results_ctt rfl _ _ (w.heap.size + 2) _ rfl (run_loadVar_row _ _ _ _ _ (0, 0) _ (setRow_heap _ _ _ _ _ _ HW.out.b10) Try.underlying44 rfl pv0_size)) rfl (.inr (.inl ⟨rfl, NF.out, rfl, below_setRow HW.out.lo (Nat.le_add_right _ _) _⟩))
              · have FT := Lib.hid (show Fit i op v from ⟨T1.out, hf.1, hf.2⟩)
                have G10 := Lib.hid ((hb.block _ lP9.out).trans GP.out)
                have ML10 := Lib.hid (ML9.out.below hb)
                have BO10 := Lib.hid (BO.out.below hb)
                have HCL10 := Lib.hid (HCL.out.below hb)
                have W1 := Lib.hid h1
                have W3 := Lib.hid h3
                have W4 := Lib.hid h4
                have W6 := Lib.hid h6
                have s8 := Lib.hid k9.size
                clear hf hb CC GP RP h1 h3 h4 h6 BO HCL
                as_aux_lemma =>
                  have l8' := l8.out
                  have hP' := HP.out
                  have p9' := lP9.out
                  have s8' := s8.out
                  have fin : Hid (NowV w ((w10.setRow P (pvL i op v ⟨⟨ob, cob⟩, ⟨oq, coq⟩, ⟨A3, c3⟩, ⟨A4, c4⟩, ⟨U, cu⟩, ⟨A5, c5⟩, ⟨A6, c6⟩⟩).toArray).setRow (w.heap.size + 2) (pvL i op v ⟨⟨ob, cob⟩, ⟨oq, coq⟩, ⟨A3, c3⟩, ⟨A4, c4⟩, ⟨U, cu⟩, ⟨A5, c5⟩, ⟨A6, c6⟩⟩).toArray) O5 1 lb' SL' ∧ PvAt O5 w.heap.size ((w10.setRow P (pvL i op v ⟨⟨ob, cob⟩, ⟨oq, coq⟩, ⟨A3, c3⟩, ⟨A4, c4⟩, ⟨U, cu⟩, ⟨A5, c5⟩, ⟨A6, c6⟩⟩).toArray).setRow (w.heap.size + 2) (pvL i op v ⟨⟨ob, cob⟩, ⟨oq, coq⟩, ⟨A3, c3⟩, ⟨A4, c4⟩, ⟨U, cu⟩, ⟨A5, c5⟩, ⟨A6, c6⟩⟩).toArray) op v ⟨⟨ob, cob⟩, ⟨oq, coq⟩, ⟨A3, c3⟩, ⟨A4, c4⟩, ⟨U, cu⟩, ⟨A5, c5⟩, ⟨A6, c6⟩⟩ ∧ BalO O5 w.heap.size ((w10.setRow P (pvL i op v ⟨⟨ob, cob⟩, ⟨oq, coq⟩, ⟨A3, c3⟩, ⟨A4, c4⟩, ⟨U, cu⟩, ⟨A5, c5⟩, ⟨A6, c6⟩⟩).toArray).setRow (w.heap.size + 2) (pvL i op v ⟨⟨ob, cob⟩, ⟨oq, coq⟩, ⟨A3, c3⟩, ⟨A4, c4⟩, ⟨U, cu⟩, ⟨A5, c5⟩, ⟨A6, c6⟩⟩).toArray) op ⟨ob, cob⟩ ⟨oq, coq⟩) := Lib.hid (by
                    have up : ∀ b, w8.heap.size ≤ b → O5 b = 0 := fun b hb => ML8.out.L.fin.2 b hb
                    have dn : ∀ b, b < w.heap.size + 3 → O5 b = 0 ∨ O5 b ≠ 0 := fun b _ => by omega
                    have low2 : O5 (w.heap.size + 2) = 0 := F5.out
                    have lt10 : P < w10.heap.size := (Array.getElem?_eq_some_iff.1 G10.out).1
                    have l10 := ML10.out.cm.lt
                    have old : ∀ A, Free O5 (w.heap.size + 3) w8 A → (∀ b off, A = some ⟨b, off, none⟩ → b ≠ P) ∧ (∀ b off, A = some ⟨b, off, none⟩ → b ≠ w.heap.size + 2) := fun A h => ⟨fun b off e => by have := h b off e; omega, fun b off e => by have := h b off e; omega⟩
                    have new : ∀ A, Free (fun _ => 0) w9.heap.size w10 A → (∀ b off, A = some ⟨b, off, none⟩ → b ≠ P) ∧ (∀ b off, A = some ⟨b, off, none⟩ → b ≠ w.heap.size + 2) := fun A h => ⟨fun b off e => by have := h b off e; omega, fun b off e => by have := h b off e; omega⟩
                    have fnew : ∀ A z, w8.heap.size ≤ z → Free (fun _ => 0) z w10 A → Free O5 w.heap.size w10 A := fun A z hz h b off e => by
                      obtain ⟨h1, h2, _⟩ := h b off e
                      exact ⟨by omega, h2, up b (by omega)⟩
                    have fold : ∀ A, Free O5 (w.heap.size + 3) w10 A → Free O5 w.heap.size w10 A := fun A h => h.wide (by omega)
                    obtain ⟨a3, b3⟩ := old A3 ML8.out.f3
                    obtain ⟨a4, b4⟩ := old A4 ML8.out.f4
                    obtain ⟨aU, bU⟩ := old U ML8.out.fU
                    obtain ⟨a5, b5⟩ := new A5 W3.out
                    obtain ⟨a6, b6⟩ := new A6 W6.out
                    have bb : ∀ b off, ob = some ⟨b, off, none⟩ → b ≠ w.heap.size + 2 := fun b off e => by have := BO10.out.fb b off e; omega
                    have br : ∀ b off, oq = some ⟨b, off, none⟩ → b ≠ w.heap.size + 2 := fun b off e => by have := BO10.out.fr b off e; omega
                    have opn : BalAt ((w10.setRow P (pvL i op v ⟨⟨ob, cob⟩, ⟨oq, coq⟩, ⟨A3, c3⟩, ⟨A4, c4⟩, ⟨U, cu⟩, ⟨A5, c5⟩, ⟨A6, c6⟩⟩).toArray).setRow (w.heap.size + 2) (pvL i op v ⟨⟨ob, cob⟩, ⟨oq, coq⟩, ⟨A3, c3⟩, ⟨A4, c4⟩, ⟨U, cu⟩, ⟨A5, c5⟩, ⟨A6, c6⟩⟩).toArray) op ⟨ob, cob⟩ ⟨oq, coq⟩ := ⟨BO10.out.at'.hb, BO10.out.at'.hr, atr_off (atr_off BO10.out.at'.rows NB.out _) bb _, at_off (at_off BO10.out.at'.rates NR.out _) br _⟩
                    refine ⟨nowv_row (nowv_row ML10.out.L (up P (by omega)) (by omega) lt10 _) low2 (by omega) (by rw [setRow_size]; omega) _, ⟨opn, ⟨⟨HCL10.out.hb, HCL10.out.hr, atr_off (atr_off HCL10.out.rows a3 _) b3 _, at_off (at_off HCL10.out.rates a4 _) b4 _⟩, ((fold _ ML10.out.f3).off _).off _, ((fold _ ML10.out.f4).off _).off _⟩, at_off (at_off ML10.out.us aU _) bU _, ⟨hcu, hcm⟩, ((fold _ ML10.out.fU).off _).off _,
                      atr_off (atr_off W1.out a5 _) b5 _, h2, ((fnew _ _ (by omega) W3.out).off _).off _, at_off (at_off W4.out a6 _) b6 _, h5, ((fnew _ _ (by omega) W6.out).off _).off _⟩, opn, ((fnew _ _ (Nat.le_refl _) BO10.out.fb).off _).off _, ((fnew _ _ (Nat.le_refl _) BO10.out.fr).off _).off _⟩)
                  go_upto_region 19 with (first | ((with_reducible show wpList _ _ _ _ _ _); (refine wpList_store_row rfl 44 (.tmp 21) (.tmp 117) rfl P (pvL i op v ⟨⟨ob, cob⟩, ⟨oq, coq⟩, ⟨A3, c3⟩, ⟨A4, c4⟩, ⟨U, cu⟩, ⟨A5, c5⟩, ⟨A6, c6⟩⟩).toArray rfl rfl _ _ G10.out (pv_size _ _ _ _) rfl (one_all (pvL_one _ _ _ _)) ?_)))
                  have HW := Lib.hid (ML10.out.cm.row (b := P) (by omega) (pvL i op v ⟨⟨ob, cob⟩, ⟨oq, coq⟩, ⟨A3, c3⟩, ⟨A4, c4⟩, ⟨U, cu⟩, ⟨A5, c5⟩, ⟨A6, c6⟩⟩).toArray)
                  have g11 : (w10.setRow P (pvL i op v ⟨⟨ob, cob⟩, ⟨oq, coq⟩, ⟨A3, c3⟩, ⟨A4, c4⟩, ⟨U, cu⟩, ⟨A5, c5⟩, ⟨A6, c6⟩⟩).toArray).heap[P]? = some (.cells (pvL i op v ⟨⟨ob, cob⟩, ⟨oq, coq⟩, ⟨A3, c3⟩, ⟨A4, c4⟩, ⟨U, cu⟩, ⟨A5, c5⟩, ⟨A6, c6⟩⟩).toArray 44 (0, 0)) := setRow_heap _ _ _ _ _ _ G10.out
                  generalize hw11 : World.setRow w10 P _ = w11
                  rw [hw11] at HW fin g11
                  have R11 := Lib.hid (row_range g11)
                  clear hw11 G10 ML10 BO10 HCL10 W1 W3 W4 W6 g11
                  go_wp2_with (first | ((with_reducible show wpList _ _ _ _ _ _); (refine wpList_load_mid rfl 44 (.tmp 21) rfl P 0 rfl (pvL i op v ⟨⟨ob, cob⟩, ⟨oq, coq⟩, ⟨A3, c3⟩, ⟨A4, c4⟩, ⟨U, cu⟩, ⟨A5, c5⟩, ⟨A6, c6⟩⟩) _ R11.out Try.underlying44 rfl (pv_size _ _ _ _) ?_)) | ((with_reducible show wpList _ _ _ _ _ _); (refine wpList_store_row rfl 44 (.tmp 10) (.tmp 123) rfl (w.heap.size + 2) (pvL i op v ⟨⟨ob, cob⟩, ⟨oq, coq⟩, ⟨A3, c3⟩, ⟨A4, c4⟩, ⟨U, cu⟩, ⟨A5, c5⟩, ⟨A6, c6⟩⟩).toArray rfl rfl _ _ HW.out.b10 (pv_size _ _ _ _) rfl (one_all (pvL_one _ _ _ _)) ?_)))
                  exact bodyPost_ret (results_ctt rfl _ _ (w.heap.size + 2) _ rfl (run_loadVar_row _ _ _ _ _ (0, 0) _ (setRow_heap _ _ _ _ _ _ HW.out.b10) Try.underlying44 rfl (pv_size _ _ _ _))) rfl (.inr (.inr ⟨rfl, FT.out, lb', O5, ⟨⟨ob, cob⟩, ⟨oq, coq⟩, ⟨A3, c3⟩, ⟨A4, c4⟩, ⟨U, cu⟩, ⟨A5, c5⟩, ⟨A6, c6⟩⟩, rfl, fin.out.1, fin.out.2.1, fin.out.2.2, below_setRow HW.out.lo (Nat.le_add_right _ _) _⟩))
          · have NF := Lib.hid (show ¬ Fit i op v from fun h => t1 h.1)
            have HW := Lib.hid ((ML6.out.cm.below k7).row ML6.out.hX (balL B' sB sR).toArray)
            clear HME t1 CME CLF HC2 ML6
            go_wp2_with (first | ((with_reducible show wpList _ _ _ _ _ _); (refine wpList_store_row rfl 44 _ _ rfl (w.heap.size + 2) pv0L.toArray rfl rfl _ _ HW.out.b10 pv0_size rfl (one_all pv0L_one) ?_)))
            exact bodyPost_ret (results_ctt rfl _ _ (w.heap.size + 2) _ rfl (run_loadVar_row _ _ _ _ _ (0, 0) _ (setRow_heap _ _ _ _ _ _ HW.out.b10) Try.underlying44 rfl pv0_size)) rfl (.inr (.inl ⟨rfl, NF.out, rfl, below_setRow HW.out.lo (Nat.le_add_right _ _) _⟩))
end
end Go.Proofs.Ytmlafdehhbhbiaa
