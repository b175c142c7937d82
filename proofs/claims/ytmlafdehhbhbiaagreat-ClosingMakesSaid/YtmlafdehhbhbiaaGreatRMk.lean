/- The document's own provision: contracts. -/
import Derived.Test.YtmlafdehhbhbiaaGreatM8
import Derived.Test.YtmlafdehhbhbiaaGreatM7
import Derived.Test.YtmlafdehhbhbiaaGreatRRem
import Derived.Test.YtmlafdehhbhbiaaGreatBox
import Derived.Test.YtmlafdehhbhbiaaGreatMkQ
import Derived.Deep.LoopGhost
import Derived.Deep.DeepCutAuto
import Derived.BigQuiet
import Derived.Deep.QuietTactic
namespace Go.Proofs.YtmlafdehhbhbiaaGreat
open Go.RowKit
theorem oldis_one {b : MBal} {S : Int → Int → Int} (h : BIs S b.n b.g) {c y now v : Int} (H : OldIs b c y now v) {k : Nat} (hk : k < b.n) (hc : (b.g k).c = c) (hy : (b.g k).y = y) : v = b.r k := by
 rcases H with ⟨k', h1, h2, h3, rfl⟩ | ⟨h1, _⟩
 · have : k' = k := by
     rcases Nat.lt_trichotomy k' k with q | q | q
     · have := h.1.asc k' k q hk; unfold Bl at this; omega
     · exact q
     · have := h.1.asc k k' q h1; unfold Bl at this; omega
   rw [this]
 · exact absurd ⟨hc, hy⟩ (h1 k hk)
theorem rbal_size : (Tryz.prog.info? 63).map (·.size) = some 8 := by kernel_rfl
theorem atn_one {w : World} {A : Option Addr} {n : Nat} {g : Nat → Int} (h : At w A n g) {k : Nat} (hk : k < n) : ∃ b off, A = some ⟨b, off, none⟩ ∧ b < w.heap.size ∧ w.cell? ⟨b, off + k, none⟩ = some (.int .i64 (g k)) := by
 obtain ⟨b, off, e, hb, hc⟩ := h.some (by omega)
 exact ⟨b, off, e, hb, hc k hk⟩
set_option maxRecDepth 100000 in
theorem r19none (w : World) : Calls Tryz.prog 15 #[] w fun e w' => e = .returned (.agg (balL MBal.none .nil .nil).toArray) ∧ Below w.heap.size w w' := by
 go_enter Tryz.func15, Tryz.ntmps15
 go_wp2_with fail
 exact bodyPost_ret (results_cell rfl _ _ w.heap.size _ rfl (run_loadVar_row _ _ _ _ _ (0, 0) _ (heap_alloc_last w _) Tryz.underlying63 rfl rbal_size)) rfl ⟨rfl, (Below.refl _ _).alloc (Nat.le_refl _) _⟩
set_option maxHeartbeats 4000000 in
set_option maxRecDepth 100000 in
theorem rold_any {w : World} {b : MBal} {sb sr : Sl} {S : Int → Int → Int} (ho : BalAt w b sb sr) (iv : BIs S b.n b.g) (hn : b.n ≤ 1000) (c y now v : Int) (H : OldIs b c y now v) :
   Calls Tryz.prog 68 #[.agg (balL b sb sr).toArray, .int .i64 c, .int .i64 y, .int .i64 now] w fun e w' => e = .returned (.int .i64 v) ∧ Below w.heap.size w w' := by
 obtain ⟨ab, cb⟩ := sb
 obtain ⟨ar, cr⟩ := sr
 obtain ⟨hb, hr, rows, rates⟩ := ho
 dsimp only at rows rates
 have HR := Lib.hid rows
 have HT := Lib.hid rates
 have B0 := Lib.hid (Box.new w O0 0 63 (balL b ⟨ab, cb⟩ ⟨ar, cr⟩))
 have L0 := Lib.hid ((Below.refl w.heap.size w).alloc (Nat.le_refl _) (.cells (balL b ⟨ab, cb⟩ ⟨ar, cr⟩).toArray 63))
 obtain ⟨wa, hwa⟩ : ∃ wa, w.alloc (.cells (balL b ⟨ab, cb⟩ ⟨ar, cr⟩).toArray 63) = wa := ⟨_, rfl⟩
 have c1 : wa.cell? ⟨w.heap.size, 1, none⟩ = some (.slice ab b.n cb) := by rw [← hwa]; exact B0.out.cell rfl
 have c2 : wa.cell? ⟨w.heap.size, 2, none⟩ = some (.slice ar b.n cr) := by rw [← hwa]; exact B0.out.cell rfl
 have lt0 : w.heap.size < wa.heap.size := by rw [← hwa]; simp
 rw [hwa] at L0
 have HWA := Lib.hid hwa
 have HI := Lib.hid iv
 have HH := Lib.hid H
 have C2 := Lib.hid c2
 clear rows rates B0 hwa iv H c2
 go_enter Tryz.func68, Tryz.ntmps68
 go_upto_region 1 with fail
 rw [HWA.out]
 go_wp2
 go_loopg [14] b.n (fun gh i wr => ∃ k : Nat, k ≤ b.n ∧ gh = b.n - k ∧ i = .int .i64 k ∧ (∀ j, j < k → ¬ ((b.g j).c = c ∧ (b.g j).y = y)) ∧ Below wa.heap.size wa wr)
 case atStart => exact ⟨0, Nat.zero_le _, rfl, rfl, fun j hj => absurd hj (Nat.not_lt_zero _), Below.refl _ _⟩
 case round =>
   obtain ⟨k, hk, hgk, rfl, h0, hbw⟩ := hrel
   have HGK := Lib.hid hgk
   have HW := Lib.hid hbw
   have H0 := Lib.hid h0
   clear hgk hbw h0
   by_cases hlt : k < b.n
   · obtain ⟨u, off, rfl, hb, d0, d1, d2⟩ := ((HR.out.below L0.out).below HW.out).three hlt
     by_cases hcc : (b.g k).c = c ∧ (b.g k).y = y
     · have HE := oldis_one HI.out HH.out hlt hcc.1 hcc.2
       obtain ⟨u', off', rfl, hb', e0⟩ := atn_one ((HT.out.below L0.out).below HW.out) hlt
       have p1 : ((b.g k).c == c) = true := by simpa using hcc.1
       have p2 : ((b.g k).y == y) = true := by simpa using hcc.2
       have c2 := cell_keep C2.out HW.out
       obtain rfl := HE
       have hs : w.heap.size < wr.heap.size := Nat.lt_of_lt_of_le lt0 HW.out.size
       have LL := Lib.hid (L0.out.trans (HW.out.mono L0.out.size))
       clear hcc
       go_wp2
       go_ret
       exact ⟨rfl, LL.out.alloc LL.out.size _⟩
     · have HN := Lib.hid hcc
       rcases (show ((b.g k).c == c) = false ∨ (((b.g k).c == c) = true ∧ ((b.g k).y == y) = false) from by
           by_cases q1 : (b.g k).c = c
           · exact .inr ⟨by simpa using q1, by simpa using fun q2 => hcc ⟨q1, q2⟩⟩
           · exact .inl (by simpa using q1)) with p1 | ⟨p1, p2⟩
       all_goals
         clear hcc
         go_wp2
         go_roundg (b.n - (k + 1))
         case measure => have := HGK.out; omega
         case rel => exact ⟨k + 1, by omega, rfl, by go_num, fun j hj => by
             by_cases e : j = k
             · rw [e]; exact HN.out
             · exact H0.out j (by omega), HW.out.alloc HW.out.size _⟩
   · obtain rfl : k = b.n := by omega
     clear hlt
     have HE : now = v := by
       rcases HH.out with ⟨k', h1, h2, h3, _⟩ | ⟨_, h⟩
       · exact absurd ⟨h2, h3⟩ (H0.out k' h1)
       · exact h.symm
     obtain rfl := HE
     go_wp2
     go_ret
     exact ⟨rfl, L0.out.trans (HW.out.mono L0.out.size)⟩
theorem rpv0_size : (Tryz.prog.info? 75).map (·.size) = some pv0L.toArray.size := by
 rw [show pv0L.toArray.size = 41 from rfl]; kernel_rfl
structure MkW (w wr : World) (i : MIn) (op : MBal) (sb sr : Sl) : Prop where
 lo : Below w.heap.size w wr
 b6 : wr.heap[w.heap.size]? = some (.cells (inL i).toArray 66 (0, 0))
 b7 : wr.heap[w.heap.size + 1]? = some (.cells (balL op sb sr).toArray 63 (0, 0))
 b10 : wr.heap[w.heap.size + 2]? = some (.cells pv0L.toArray 75 (0, 0))
 b13 : wr.heap[w.heap.size + 3]? = some (.cells pv0L.toArray 75 (0, 0))
theorem MkW.lt {w wr : World} {i : MIn} {op : MBal} {sb sr : Sl} (h : MkW w wr i op sb sr) : w.heap.size + 3 < wr.heap.size := (Array.getElem?_eq_some_iff.1 h.b13).1
theorem MkW.below {w wr w1 : World} {i : MIn} {op : MBal} {sb sr : Sl} (h : MkW w wr i op sb sr) (k : Below wr.heap.size wr w1) : MkW w w1 i op sb sr := by
 have l := h.lt
 exact ⟨h.lo.trans (k.mono h.lo.size), (k.block _ (by omega)).trans h.b6, (k.block _ (by omega)).trans h.b7, (k.block _ (by omega)).trans h.b10, (k.block _ (by omega)).trans h.b13⟩
set_option maxRecDepth 100000 in
theorem mkw_start (w : World) (i : MIn) (op : MBal) (sb sr : Sl) :
   MkW w ((((w.alloc (.cells (inL i).toArray 66)).alloc (.cells (balL op sb sr).toArray 63)).alloc (.cells pv0L.toArray 75)).alloc (.cells pv0L.toArray 75)) i op sb sr := by
 have e1 : (w.alloc (.cells (inL i).toArray 66)).heap.size = w.heap.size + 1 := by simp
 have e2 : ((w.alloc (.cells (inL i).toArray 66)).alloc (.cells (balL op sb sr).toArray 63)).heap.size = w.heap.size + 2 := by simp
 have e3 : (((w.alloc (.cells (inL i).toArray 66)).alloc (.cells (balL op sb sr).toArray 63)).alloc (.cells pv0L.toArray 75)).heap.size = w.heap.size + 3 := by simp
 refine ⟨((((Below.refl _ _).alloc (Nat.le_refl _) _).alloc (by rw [e1]; omega) _).alloc (by rw [e2]; omega) _).alloc (by rw [e3]; omega) _, ?_, ?_, ?_, ?_⟩
 · rw [heap_alloc_old _ _ (by rw [e3]; omega), heap_alloc_old _ _ (by rw [e2]; omega), heap_alloc_old _ _ (by rw [e1]; omega)]; exact heap_alloc_last _ _
 · rw [heap_alloc_old _ _ (by rw [e3]; omega), heap_alloc_old _ _ (by rw [e2]; omega), ← e1]; exact heap_alloc_last _ _
 · rw [heap_alloc_old _ _ (by rw [e3]; omega), ← e2]; exact heap_alloc_last _ _
 · rw [← e3]; exact heap_alloc_last _ _
set_option maxRecDepth 100000 in
theorem MkW.row13 {w wr : World} {i : MIn} {op : MBal} {sb sr : Sl} (h : MkW w wr i op sb sr) : MkW w (wr.setRow (w.heap.size + 3) pv0L.toArray) i op sb sr :=
 ⟨below_setRow h.lo (Nat.le_add_right _ _) _, (setRow_other _ _ _ _ (by omega)).trans h.b6, (setRow_other _ _ _ _ (by omega)).trans h.b7, (setRow_other _ _ _ _ (by omega)).trans h.b10, setRow_heap _ _ _ _ _ _ h.b13⟩
set_option maxRecDepth 100000 in
theorem MkW.ins {w wr : World} {i : MIn} {op : MBal} {sb sr : Sl} (h : MkW w wr i op sb sr) : wr.cell? ⟨w.heap.size, 0, none⟩ = some (.string i.j) ∧ wr.cell? ⟨w.heap.size, 1, none⟩ = some (.int .i64 i.p) ∧ wr.cell? ⟨w.heap.size, 2, none⟩ = some (.int .i64 i.bk) ∧ wr.cell? ⟨w.heap.size, 3, none⟩ = some (.int .i64 i.pm) ∧ wr.cell? ⟨w.heap.size, 4, none⟩ = some (.int .i64 i.jd) ∧ wr.cell? ⟨w.heap.size, 5, none⟩ = some (.int .i64 i.cp) ∧ wr.cell? ⟨w.heap.size, 6, none⟩ = some (.int .i64 i.lf) ∧ wr.cell? ⟨w.heap.size, 7, none⟩ = some (.int .i64 i.tu) :=
 ⟨cell_of_row _ _ 0 _ _ _ h.b6, cell_of_row _ _ 1 _ _ _ h.b6, cell_of_row _ _ 2 _ _ _ h.b6, cell_of_row _ _ 3 _ _ _ h.b6, cell_of_row _ _ 4 _ _ _ h.b6, cell_of_row _ _ 5 _ _ _ h.b6, cell_of_row _ _ 6 _ _ _ h.b6, cell_of_row _ _ 7 _ _ _ h.b6⟩
set_option maxRecDepth 100000 in
theorem MkW.ops {w wr : World} {i : MIn} {op : MBal} {ab ar : Option Addr} {cb cr : Nat} (h : MkW w wr i op ⟨ab, cb⟩ ⟨ar, cr⟩) : wr.cell? ⟨w.heap.size + 1, 1, none⟩ = some (.slice ab op.n cb) ∧ wr.cell? ⟨w.heap.size + 1, 3, none⟩ = some (.int .i64 op.nx) ∧ wr.cell? ⟨w.heap.size + 1, 4, none⟩ = some (.int .i64 op.left) ∧ wr.cell? ⟨w.heap.size + 1, 5, none⟩ = some (.int .i64 op.tmp) ∧ wr.cell? ⟨w.heap.size + 1, 6, none⟩ = some (.int .i64 op.ls) ∧ wr.cell? ⟨w.heap.size + 1, 7, none⟩ = some (.int .i64 op.al) :=
 ⟨cell_of_row _ _ 1 _ _ _ h.b7, cell_of_row _ _ 3 _ _ _ h.b7, cell_of_row _ _ 4 _ _ _ h.b7, cell_of_row _ _ 5 _ _ _ h.b7, cell_of_row _ _ 6 _ _ _ h.b7, cell_of_row _ _ 7 _ _ _ h.b7⟩
section
variable {w : World} {O : Nat → Nat} {base t tb nr lb rg : Nat} {vt : Value} {R : Nat → Rt} {i : MIn} {op : MBal} {sb sr : Sl}
set_option maxHeartbeats 8000000 in
set_option maxRecDepth 100000 in
theorem rmk_arg (H : ¬ MArg i) :
   Calls Tryz.prog 22 #[ptr tb, .agg (inL i).toArray, .agg (balL op sb sr).toArray, ptr lb, ptr rg] w fun e' w' => e' = .returned (.tuple #[.agg pv0L.toArray, .pointer none, .int .i64 1]) ∧ Below w.heap.size w w' := by
 unfold MArg PerOk RtOk Mon at H
 rcases (show (i.p < 0 ∨ 399 < i.p) ∨ ((0 ≤ i.p ∧ i.p ≤ 399) ∧ (i.jd < 0 ∨ 1000000 < i.jd)) ∨ ((0 ≤ i.p ∧ i.p ≤ 399) ∧ (0 ≤ i.jd ∧ i.jd ≤ 1000000) ∧ ¬ (-100000000000 ≤ i.tu ∧ i.tu ≤ 100000000000)) by omega) with q | ⟨q1, q⟩ | ⟨q1, q2, q⟩
 all_goals
   clear H
   go_enter Tryz.func22, Tryz.ntmps22
   go_upto_region 1 with fail
   go_upto_region 2 with ((with_reducible show wpList _ _ _ _ _ _); (refine wpList_store_row rfl 75 (.tmp 13) (.tmp 34) rfl (w.heap.size + 3) pv0L.toArray rfl rfl _ _ (mkw_start w i op sb sr).b13 rpv0_size rfl (one_all pv0L_one) ?_))
   generalize hwb : World.setRow _ _ _ = wb; have HW : Hid (MkW w wb i op sb sr) := Lib.hid (by rw [← hwb]; exact (mkw_start w i op sb sr).row13); clear hwb
   obtain ⟨j0, j1, j2, j3, j4, j5, j6, j7⟩ := HW.out.ins
   go_wp2_with (first | (go_at_call 58; (with_reducible refine (rperiod_no _ _ (by omega)).mono ?_); rintro e w' ⟨rfl, rfl⟩) | (go_at_call 58; (with_reducible refine (rperiod_yes _ _ (by omega) (by omega)).mono ?_); rintro e w' ⟨rfl, rfl⟩) | (go_at_call 59; (with_reducible refine (rrt_no _ _ (by omega)).mono ?_); rintro e w' ⟨rfl, rfl⟩) | (go_at_call 59; (with_reducible refine (rrt_yes _ _ (by omega) (by omega)).mono ?_); rintro e w' ⟨rfl, rfl⟩) | (go_at_call 50; (with_reducible refine (rmoney_no _ _ (by unfold Mon; omega)).mono ?_); rintro e w' ⟨rfl, rfl⟩) | ((with_reducible show wpList _ _ _ _ _ _); (refine wpList_load_mid rfl 75 _ rfl (w.heap.size + 3) 0 rfl pv0L _ (row_range HW.out.b13) Tryz.underlying75 rfl rpv0_size ?_)) | ((with_reducible show wpList _ _ _ _ _ _); (refine wpList_store_row rfl 75 _ _ rfl (w.heap.size + 2) pv0L.toArray rfl rfl _ _ HW.out.b10 rpv0_size rfl (one_all pv0L_one) ?_)))
   exact bodyPost_ret (results_ctt rfl _ _ (w.heap.size + 2) _ rfl (run_loadVar_row _ _ _ _ _ (0, 0) _ (setRow_heap _ _ _ _ _ _ HW.out.b10) Tryz.underlying75 rfl rpv0_size)) rfl ⟨rfl, below_setRow HW.out.lo (Nat.le_add_right _ _) _⟩
set_option maxHeartbeats 8000000 in
set_option maxRecDepth 100000 in
theorem rmk_rate (s : TabV 116 w O base t tb vt nr R) (H : MArg i) (K : Known R nr i.j (i.p / 4) i.p 0 false) :
   Calls Tryz.prog 22 #[ptr tb, .agg (inL i).toArray, .agg (balL op sb sr).toArray, ptr lb, ptr rg] w fun e' w' => e' = .returned (.tuple #[.agg pv0L.toArray, .pointer none, .int .i64 7]) ∧ Below w.heap.size w w' := by
 have CR := Lib.hid fun w5 (k : Below w.heap.size w w5) => rrate_any (s.below k) i.j (i.p / 4) i.p 0 false K
 unfold MArg PerOk RtOk Mon at H
 obtain ⟨⟨q1, q2⟩, ⟨q3, q4⟩, q5, q6⟩ := H
 clear s K
 go_enter Tryz.func22, Tryz.ntmps22
 go_upto_region 1 with fail
 go_upto_region 2 with ((with_reducible show wpList _ _ _ _ _ _); (refine wpList_store_row rfl 75 (.tmp 13) (.tmp 34) rfl (w.heap.size + 3) pv0L.toArray rfl rfl _ _ (mkw_start w i op sb sr).b13 rpv0_size rfl (one_all pv0L_one) ?_))
 generalize hwb : World.setRow _ _ _ = wb; have HW : Hid (MkW w wb i op sb sr) := Lib.hid (by rw [← hwb]; exact (mkw_start w i op sb sr).row13); clear hwb
 obtain ⟨j0, j1, j2, j3, j4, j5, j6, j7⟩ := HW.out.ins
 go_wp2_with (first | (go_at_call 58; (with_reducible refine (rperiod_yes _ _ (by omega) (by omega)).mono ?_); rintro e w' ⟨rfl, rfl⟩) | (go_at_call 59; (with_reducible refine (rrt_yes _ _ (by omega) (by omega)).mono ?_); rintro e w' ⟨rfl, rfl⟩) | (go_at_call 50; (with_reducible refine (rmoney_yes _ _ (by unfold Mon; omega)).mono ?_); rintro e w' ⟨rfl, rfl⟩))
 refine (CR.out _ HW.out.lo).mono ?_
 rintro e w1 ⟨rfl, hb⟩
 have HW := Lib.hid (HW.out.below hb)
 clear hb CR j0 j1 j2 j3 j4 j5 j6 j7
 go_wp2_with (first | ((with_reducible show wpList _ _ _ _ _ _); (refine wpList_load_mid rfl 75 _ rfl (w.heap.size + 3) 0 rfl pv0L _ (row_range HW.out.b13) Tryz.underlying75 rfl rpv0_size ?_)) | ((with_reducible show wpList _ _ _ _ _ _); (refine wpList_store_row rfl 75 _ _ rfl (w.heap.size + 2) pv0L.toArray rfl rfl _ _ HW.out.b10 rpv0_size rfl (one_all pv0L_one) ?_)))
 exact bodyPost_ret (results_ctt rfl _ _ (w.heap.size + 2) _ rfl (run_loadVar_row _ _ _ _ _ (0, 0) _ (setRow_heap _ _ _ _ _ _ HW.out.b10) Tryz.underlying75 rfl rpv0_size)) rfl ⟨rfl, below_setRow HW.out.lo (Nat.le_add_right _ _) _⟩
end
end Go.Proofs.YtmlafdehhbhbiaaGreat
