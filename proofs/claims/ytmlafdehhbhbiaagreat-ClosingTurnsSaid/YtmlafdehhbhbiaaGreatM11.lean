/- Several texts of mine in one: BkMath3 BkRow Bucket Bucket2. -/
import Derived.Test.YtmlafdehhbhbiaaGreatM2
import Derived.Test.YtmlafdehhbhbiaaGreatRows
import Derived.Test.YtmlafdehhbhbiaaGreatM5
import Derived.Test.YtmlafdehhbhbiaaGreatM1
import Derived.WalkKit
import Derived.WalkSpells
import Derived.WalkLawsBesides
import Derived.Lib.Hide
import Derived.IntWalk
import Derived.Lib.LazyBuf
import Derived.Laws.Externs
import Derived.Laws.NewBlocks
import Derived.Deep.LoopGhost
import Derived.Deep.RegionLaw
import Derived.Test.YtmlafdehhbhbiaaGreatM6
import Derived.Deep.QuietTactic
import Derived.BigQuiet
import Derived.Deep.DeepCutAuto
import Derived.Deep.CutBlock
/- Buckets: few places make few rows; moves one behind the other, in whatever order: mathematics alone. -/
namespace Go.Proofs.YtmlafdehhbhbiaaGreat
theorem brow_small {n : Nat} {g : Nat → Bk} (r : BRow n g) (h : ∀ j, j < n → 1 ≤ (g j).c ∧ (g j).c ≤ 3 ∧ 0 ≤ (g j).y ∧ (g j).y ≤ 3) : n ≤ 12 := by
 have key : ∀ j : Nat, j < n → (j : Int) ≤ 4 * ((g j).c - 1) + (g j).y := by
   intro j
   induction j with
   | zero => intro hj; have := h 0 hj; omega
   | succ j ih =>
     intro hj
     have a := ih (by omega)
     have b := r.asc j (j + 1) (by omega) hj
     have c := h j (by omega)
     have d := h (j + 1) hj
     unfold Bl at b; omega
 rcases Nat.eq_zero_or_pos n with e | e
 · omega
 · have a := key (n - 1) (by omega)
   have b := h (n - 1) (by omega)
   omega
theorem few {n : Nat} {g x : Nat → Bk} {k : Nat} (b : BIs (bget x k) n g) (h : ∀ j, j < k → 1 ≤ (x j).c ∧ (x j).c ≤ 3 ∧ 0 ≤ (x j).y ∧ (x j).y ≤ 3) : n ≤ 12 :=
 brow_small b.1 fun j hj => by
   obtain ⟨i, hi, e1, e2⟩ := bget_some (g := x) (n := k) (c := (g j).c) (y := (g j).y) (by rw [b.at hj]; exact b.1.nz j hj)
   rw [← e1, ← e2]; exact h i hi
end Go.Proofs.YtmlafdehhbhbiaaGreat
/- Package bucket's rows: slices.Clone, slices.Insert of one bucket, slices.Delete of one, walked: a contract for each. -/
namespace Go.Proofs.YtmlafdehhbhbiaaGreat
open Go.RowKit
set_option maxRecDepth 100000 in
theorem bk_zero (w : World) : (zeroValue 81).run Tryz.prog w = .ok (.agg #[.int .i64 0, .int .i64 0, .int .i64 0]) w := rfl
set_option maxRecDepth 100000 in
theorem bk_zeros : (Builtin.zeroCells (Value.agg #[.int .i64 0, .int .i64 0, .int .i64 0]).cells (0 + 1)).toList = [.int .i64 0, .int .i64 0, .int .i64 0] := by simp [Builtin.zeroCells, Value.cells, List.range_succ]
set_option maxRecDepth 100000 in
theorem bclone (v : Value) (n b0 : Nat) (g : Nat → Bk) (w : World) (h : OwnR be 3 w 81 b0 v n g) (hn : n ≤ 1000000) :
   Calls Tryz.prog 74 #[v] w fun e w' => ∃ v', e = .returned v' ∧ OwnR be 3 w' 81 w.heap.size v' n g ∧ Below w.heap.size w w' := by
 obtain ⟨i0, hi, hz0, hz1, hz2⟩ := info_parts bk_info
 have HS := Lib.hid h
 rcases h.2 with ⟨rfl, rfl⟩ | ⟨gb, cap, cur, rfl, _⟩
 · clear h
   have hop := fun w => run_eql_slice_nil (P := Tryz.prog) w 32 81 none 0 0 bk_type
   go_enter Tryz.func74, Tryz.ntmps74
   go_wp2_with (simp only [hop])
   go_ret
   exact ⟨_, rfl, OwnR.nil _ _ _ _ _ _, Below.refl _ _⟩
 · clear h
   have hop := fun w => run_eql_slice_nil (P := Tryz.prog) w 32 81 (some ⟨gb, 0, none⟩) n cap bk_type
   go_enter Tryz.func74, Tryz.ntmps74
   go_wp2_with (first | (simp only [hop]) | at_builtin; (refine wpList_app_row rfl (.tmp 5) (.tmp 6) rfl bk_type hi hz0 hz1 hz2 rfl (by decide) w w.heap.size b0 0 n cap _ _ [] _ rfl rfl (World.ownsRow_lit w #[] 0 (Nat.le_refl _) (by decide) rfl) (HS.out.alloc _) (rl_one be_one) (by unfold maxLen; omega) (by omega) ((Below.refl _ _).alloc (Nat.le_refl _) _) (by simp) ?_; intro v1 w1 ho1 hb1 hg1; rw [Nat.zero_add, List.nil_append] at ho1))
   go_ret
   exact ⟨_, rfl, ho1, hb1⟩
section
variable {w : World} {base n c X : Nat} {A : Option Addr} {g : Nat → Bk} {x : Bk}
set_option maxRecDepth 100000 in
theorem binsert_end (o : OwnR be 3 w 81 base (.slice A n c) n g) (hX : w.heap[X]? = some (.cells (be x).toArray 81 (0, 0))) (hn : n ≤ 1000) (hb : base ≤ w.heap.size) :
   Calls Tryz.prog 80 #[.slice A n c, .int .i64 n, .slice (some ⟨X, 0, none⟩) 1 1] w fun e w' => ∃ b c', e = .returned (.slice (some ⟨b, 0, none⟩) (n + 1) c') ∧ OwnR be 3 w' 81 base (.slice (some ⟨b, 0, none⟩) (n + 1) c') (n + 1) (insB g n x) ∧ Below base w w' := by
 obtain ⟨i0, hi, hz0, hz1, hz2⟩ := info_parts bk_info
 obtain ⟨A', c', e', hc1, hc2, _⟩ := o.form
 injection e' with e1 _ e3
 subst e1 e3
 have HO := Lib.hid o
 have hc : ∀ j u, (be x)[j]? = some u → w.cell? ⟨X, j, none⟩ = some u := fun j u hu => by rw [cell_of_row _ X j _ _ (0, 0) hX]; simpa using hu
 have HC := Lib.hid hc
 clear o hX hc
 go_enter Tryz.func80, Tryz.ntmps80
 go_wp2_with (at_builtin; (refine wpList_push_r rfl (.tmp 23) (.tmp 24) rfl bk_type hi hz0 hz1 hz2 (by decide) rfl (by decide) be_len be_one w base n X _ g x rfl rfl HC.out HO.out (by omega) (Below.refl _ _) hb _ rfl ?_; intro b2 c3 w6 ho2 hb2 hg2 hat2; have HO2 := Lib.hid ho2; have HW2 := Lib.hid hb2; clear ho2 hb2 hg2 hat2))
 all_goals
   go_ret
   exact ⟨_, _, rfl, HO2.out.ext fun j hj => (by unfold insB; by_cases q : j < n
                                                 · rw [if_pos q, if_neg (by omega)]
                                                 · rw [if_neg q, if_pos (by omega), if_pos (by omega)]), HW2.out⟩
set_option maxRecDepth 100000 in
theorem ov_apart (w : World) (b off lb cb : Nat) {cx cb' : List Value} (hX : w.heap[X]? = some (.cells cx.toArray 81 (0, 0))) (hB : w.heap[b]? = some (.cells cb'.toArray 81 (0, 0))) (hne : X ≠ b) (h0 : cb'.length ≠ 0) :
   (callFunc 124 #[.slice (some ⟨X, 0, none⟩) 1 1, .slice (some ⟨b, off, none⟩) lb cb]).run Tryz.prog w = .ok (.value (.bool false)) w := by
 rw [run_callFunc_extern Tryz.func124 (by kernel_rfl) (by kernel_rfl) (by kernel_rfl) (e := Extern.SlicesOverlaps.overlaps #[32, 32] #[4]) (by kernel_rfl),
   Lib.run_overlaps_apart w 32 4 81 bk_type 3 (fun w => rfl) ⟨X, 0, none⟩ ⟨b, off, none⟩ 1 1 lb cb hne 81 81 cx.length cb'.length (by simp [World.shape?, hX]) (by simp [World.shape?, hB]) h0 (by simp [World.frozen?, hX]) (by simp [World.frozen?, hX])]
 rfl
set_option maxRecDepth 100000 in
theorem binsert_in {b i : Nat} (o : OwnR be 3 w 81 base (.slice (some ⟨b, 0, none⟩) n c) n g) (hX : w.heap[X]? = some (.cells (be x).toArray 81 (0, 0))) (hne : X ≠ b) (hn : n ≤ 1000) (hin : i < n) (hroom : n + 1 ≤ c) :
   Calls Tryz.prog 80 #[.slice (some ⟨b, 0, none⟩) n c, .int .i64 i, .slice (some ⟨X, 0, none⟩) 1 1] w fun e w' => ∃ b c', e = .returned (.slice (some ⟨b, 0, none⟩) (n + 1) c') ∧ OwnR be 3 w' 81 base (.slice (some ⟨b, 0, none⟩) (n + 1) c') (n + 1) (insB g i x) ∧ Below base w w' := by
 obtain ⟨i0, hi, hz0, hz1, hz2⟩ := info_parts bk_info
 obtain ⟨T, hg, hbb, hnc, hcm, hl⟩ := o.whole
 have hcx : ∀ j u, (be x)[j]? = some u → w.cell? ⟨X, j, none⟩ = some u := fun j u hu => by rw [cell_of_row _ X j _ _ (0, 0) hX]; simpa using hu
 have HC := Lib.hid hcx
 have hov := fun lb cb => ov_apart w b ((i + 1) * 3) lb cb hX hg hne (by omega)
 have HG := Lib.hid hg
 have hz1' : ¬ ((i : Int) = (n : Int)) := by omega
 have hw1 : IntKind.i64.wrap ((n : Int) + 1) = (n : Int) + 1 := IntWalk.i64_in _ (by omega)
 have hw2 : IntKind.i64.wrap ((i : Int) + 1) = (i : Int) + 1 := IntWalk.i64_in _ (by omega)
 have hlr := rl_length be_len g n
 have hsp := rl_split be g (show i ≤ n by omega)
 obtain ⟨CS, hCS⟩ : ∃ CS, CS = rl be (fun j => g (i + j)) (n - i) := ⟨_, rfl⟩
 have hcl : CS.length = (n - i) * 3 := by rw [hCS]; exact rl_length be_len _ _
 rw [← hCS] at hsp
 have hT : T.length = (c - n) * 3 := by rw [List.length_append, hlr] at hl; omega
 have hal : (rl be g i).length = i * 3 := rl_length be_len g i
 obtain ⟨L, hL⟩ : ∃ L, L = rl be g n ++ T := ⟨_, rfl⟩
 have hLl : L.length = c * 3 := by rw [hL]; exact hl
 rw [← hL] at hg
 have hcs : ∀ j v, CS[j]? = some v → w.cell? ((⟨b, i * 3, none⟩ : Addr).add j) = some v := fun j v hj => by
   rw [Addr.add_lit, cell_of_row _ b _ _ _ (0, 0) hg]
   have hjl := (List.getElem?_eq_some_iff.1 hj).1
   rw [List.getElem?_toArray, hL, hsp, List.append_assoc, List.getElem?_append_right (by omega), hal, Nat.add_sub_cancel_left, List.getElem?_append_left hjl]
   exact hj
 have h1c : ∀ v ∈ CS, v.oneCell' = true := by rw [hCS]; exact rl_one be_one
 have hfin : splice (splice L ((i + 1) * 3) CS) (i * 3) (be x) = rl be (insB g i x) (n + 1) ++ T.drop 3 := by
   have e := splice_ins (rl be g i) CS T (be x) (by rw [hT, be_len]; omega)
   rw [hal, be_len] at e
   rw [hL, hsp, List.append_assoc, show (i + 1) * 3 = i * 3 + 3 by omega, e]
   unfold insB
   rw [rl_ins be g x (show i ≤ n by omega), ← hCS, List.append_assoc, List.append_assoc]
 have HFIN := Lib.hid hfin
 have HCS := Lib.hid hcs
 have H1C := Lib.hid h1c
 have HHG := Lib.hid hg
 have hm1 : CS.length = Nat.min (n + 1 - i) (n - i) * 3 := by rw [hcl]; show _ = min (n + 1 - i) (n - i) * 3; omega
 have HM1 := Lib.hid hm1
 have HLL := Lib.hid hLl
 have hft : (i + 1) * 3 + CS.length ≤ L.length := by rw [hcl, hLl]; omega
 have HFT := Lib.hid hft
 have hi1 : (0 : Int) ≤ (i : Int) + 1 := by omega
 have hi2 : i ≤ n := by omega
 have hi3 : ¬ (c = i + 1) := by omega
 have hi4 : ¬ (c = i) := by omega
 have hi5 : (0 : Int) ≤ (i : Int) := by omega
 have hi6 : (i : Int) ≤ (n : Int) + 1 := by omega
 unfold maxLen at hcm
 clear o hX hcx hg hsp hal hT hL hLl hlr hcs h1c hfin hCS hcl hm1 hft hl HG
 go_enter Tryz.func80, Tryz.ntmps80
 go_wp2_with (simp only [hov])
 go_region_law (refine step_copy_k rfl (.tmp 73) (.tmp 76) 32 32 rfl bk_type hi hz1 b ((i + 1) * 3) (n - i) (c - (i + 1)) ⟨b, i * 3, none⟩ (n + 1 - i) (c - i) (by simp [Act.eval, Act.put]) (by simp [Act.eval, Act.put]) L _ HHG.out CS HM1.out HCS.out HFT.out H1C.out base w ⟨rfl, rfl, rfl, Nat.le_refl _, fun _ _ => rfl⟩ hbb ?_; intro w4 hg4 ho4 hb4)
 have HX4 : Hid (∀ j v, (be x)[j]? = some v → w4.cell? ((⟨X, 0, none⟩ : Addr).add j) = some v) := Lib.hid fun j v hj => by
   rw [Addr.add_lit, Nat.zero_add]
   exact (World.cell?_of_block (a := ⟨X, j, none⟩) (ho4.out X hne)).trans (HC.out j v hj)
 have HL4 : Hid (i * 3 + (be x).length ≤ (splice L ((i + 1) * 3) CS).length) := Lib.hid (by
   rw [length_splice _ _ _ HFT.out, be_len, HLL.out]; omega)
 have hm4 : (be x).length = Nat.min 1 (n + 1 - i) * 3 := by rw [be_len]; show 3 = min 1 (n + 1 - i) * 3; omega
 have HM4 := Lib.hid hm4
 have HB4 := Lib.hid hb4
 clear hm4 hb4 ho4
 go_wp2_with ((with_reducible show wpList _ _ _ _ _ _); (refine wpList_copy_k rfl (.tmp 80) (.tmp 81) 32 32 rfl bk_type hi hz1 b (i * 3) (n + 1 - i) (c - i) ⟨X, 0, none⟩ 1 1 rfl rfl _ _ hg4.out (be x) HM4.out HX4.out HL4.out (be_one x) base w HB4.out hbb ?_; intro w5 hg5 ho5 hb5))
 go_ret
 have h5 := hg5.out
 rw [HFIN.out] at h5
 refine ⟨b, c, rfl, OwnR.of_block be_len h5 hbb hroom (by unfold maxLen; omega) ?_, hb5⟩
 rw [← HFIN.out, length_splice _ _ _ HL4.out, length_splice _ _ _ HFT.out, HLL.out]
set_option maxRecDepth 100000 in
theorem binsert_grow {b i : Nat} (o : OwnR be 3 w 81 base (.slice (some ⟨b, 0, none⟩) n c) n g) (hX : w.heap[X]? = some (.cells (be x).toArray 81 (0, 0))) (hn : n ≤ 1000) (hb0 : base ≤ w.heap.size) (hin : i < n) (hroom : c < n + 1) :
   Calls Tryz.prog 80 #[.slice (some ⟨b, 0, none⟩) n c, .int .i64 i, .slice (some ⟨X, 0, none⟩) 1 1] w fun e w' => ∃ b c', e = .returned (.slice (some ⟨b, 0, none⟩) (n + 1) c') ∧ OwnR be 3 w' 81 base (.slice (some ⟨b, 0, none⟩) (n + 1) c') (n + 1) (insB g i x) ∧ Below base w w' := by
 obtain ⟨i0, hi, hz0, hz1, hz2⟩ := info_parts bk_info
 obtain ⟨T, hg, hbb, hnc, hcm, hl⟩ := o.whole
 have hbw : b < w.heap.size := (Array.getElem?_eq_some_iff.1 hg).1
 have hXw : X < w.heap.size := (Array.getElem?_eq_some_iff.1 hX).1
 have hcx : ∀ j u, (be x)[j]? = some u → w.cell? ⟨X, j, none⟩ = some u := fun j u hu => by rw [cell_of_row _ X j _ _ (0, 0) hX]; simpa using hu
 have HC := Lib.hid hcx
 obtain rfl : n = c := by omega
 have hz1' : ¬ ((i : Int) = (n : Int)) := by omega
 have hz3 : (n : Int) < (n : Int) + 1 := by omega
 have hw1 : IntKind.i64.wrap ((n : Int) + 1) = (n : Int) + 1 := IntWalk.i64_in _ (by omega)
 have hw2 : IntKind.i64.wrap ((i : Int) + 1) = (i : Int) + 1 := IntWalk.i64_in _ (by omega)
 have hw3 : IntKind.i64.wrap ((n : Int) + 1 - (i : Int)) = (n : Int) + 1 - (i : Int) := IntWalk.i64_in _ (by omega)
 have hlr := rl_length be_len g n
 have hsp := rl_split be g (show i ≤ n by omega)
 obtain ⟨CS, hCS⟩ : ∃ CS, CS = rl be (fun j => g (i + j)) (n - i) := ⟨_, rfl⟩
 have hcl : CS.length = (n - i) * 3 := by rw [hCS]; exact rl_length be_len _ _
 rw [← hCS] at hsp
 obtain rfl : T = [] := List.eq_nil_of_length_eq_zero (by rw [List.length_append, hlr] at hl; omega)
 rw [List.append_nil] at hg hl
 have hal : (rl be g i).length = i * 3 := rl_length be_len g i
 have hcell : ∀ j v, (rl be g n)[j]? = some v → w.cell? ⟨b, j, none⟩ = some v := fun j v hj => by
   rw [cell_of_row _ b _ _ _ (0, 0) hg, List.getElem?_toArray]; exact hj
 have hcs : ∀ j v, CS[j]? = some v → w.cell? ((⟨b, i * 3, none⟩ : Addr).add j) = some v := fun j v hj => by
   rw [Addr.add_lit]
   refine hcell _ _ ?_
   have hjl := (List.getElem?_eq_some_iff.1 hj).1
   rw [hsp, List.getElem?_append_right (by omega), hal, Nat.add_sub_cancel_left]
   exact hj
 have h1c : ∀ v ∈ CS, v.oneCell' = true := by rw [hCS]; exact rl_one be_one
 have hold : (Builtin.firstCells i0.size i (.slice (some ⟨b, 0, none⟩) i n)).run Tryz.prog w.drew = .ok (rl be g i).toArray w.drew := by
   rw [hz1]
   exact run_firstCells_some w.drew 3 i ⟨b, 0, none⟩ i n (rl be g i) hal (fun j v hj => by
     rw [Addr.add_lit, Nat.zero_add]
     refine hcell _ _ ?_
     rw [hsp, List.getElem?_append_left (List.getElem?_eq_some_iff.1 hj).1]; exact hj)
 have hkk : (n : Int) + 1 - (i : Int) = ((n + 1 - i : Nat) : Int) := by omega
 have hik : i + (n + 1 - i) = n + 1 := by omega
 obtain ⟨G, hG⟩ : ∃ G, G = grownCap w (n + 1) n 81 := ⟨_, rfl⟩
 obtain ⟨Z, hZ⟩ : ∃ Z, Z = (Builtin.zeroCells (Value.agg #[.int .i64 0, .int .i64 0, .int .i64 0]).cells (n + 1 - i)).toList ++ (Builtin.zeroCells (Value.agg #[.int .i64 0, .int .i64 0, .int .i64 0]).cells (G - (n + 1))).toList := ⟨_, rfl⟩
 have hGn : n + 1 ≤ G := by rw [hG]; exact grownCap_ge w _ _ _
 have hGm : G ≤ maxLen := by rw [hG]; exact grownCap_le_maxLen w (n + 1) n _ (by unfold maxLen; omega)
 have hZl : Z.length = (G - i) * 3 := by
   rw [hZ, List.length_append, Array.length_toList, Array.length_toList, size_zeroCells, size_zeroCells]
   simp [Value.cells]
   omega
 have hrz : ∀ ty, (Builtin.append_ #[32, 3] ty #[.slice (some ⟨b, 0, none⟩) i n, .int .i64 ((n : Int) + 1 - (i : Int))]).run Tryz.prog w =
     .ok (.slice (some ⟨w.heap.size, 0, none⟩) (n + 1) G) (w.drew.alloc (.cells (rl be g i ++ Z).toArray 81)) := fun ty => by
   have h := Lib.run_append_grow_zeros w 32 3 ty 81 i0 _ .i64 .i64 bk_type Tryz.underlying3 hi hz0 (some ⟨b, 0, none⟩) i n (rl be g i) hold (n + 1 - i) (by omega) (by omega) (by omega) (by omega) (by rw [hz2]; omega) (by rw [hz2, hik]; exact growslice_fits (by omega) (by omega))
   rw [hik, ← hG] at h
   rw [hkk, h, hZ]
   congr 3
   simp
 obtain ⟨W1, hW1⟩ : ∃ W1, W1 = w.drew.alloc (.cells (rl be g i ++ Z).toArray 81) := ⟨_, rfl⟩
 rw [← hW1] at hrz
 have K1 : Below w.heap.size w W1 := by rw [hW1]; exact (below_drew w).alloc (Nat.le_refl _) _
 have hg1 : W1.heap[w.heap.size]? = some (.cells (rl be g i ++ Z).toArray 81 (0, 0)) := by rw [hW1]; exact heap_alloc_new w.drew _
 have hb1 : Hid (Below base w W1) := Lib.hid (K1.mono hb0)
 have HX1 : Hid (∀ j v, (be x)[j]? = some v → W1.cell? ((⟨X, 0, none⟩ : Addr).add j) = some v) := Lib.hid fun j v hj => by
   rw [Addr.add_lit, Nat.zero_add]
   exact (World.cell?_of_block (a := ⟨X, j, none⟩) (K1.block X hXw)).trans (hcx j v hj)
 have HCS1 : Hid (∀ j v, CS[j]? = some v → W1.cell? ((⟨b, i * 3, none⟩ : Addr).add j) = some v) := Lib.hid fun j v hj => by
   have := hcs j v hj
   rw [Addr.add_lit] at this ⊢
   exact (World.cell?_of_block (a := ⟨b, i * 3 + j, none⟩) (K1.block b hbw)).trans this
 obtain ⟨L, hL⟩ : ∃ L, L = rl be g i ++ Z := ⟨_, rfl⟩
 rw [← hL] at hg1
 have hLl : L.length = G * 3 := by rw [hL, List.length_append, hal, hZl]; omega
 have hfin : splice (splice L (i * 3) (be x)) ((i + 1) * 3) CS = rl be (insB g i x) (n + 1) ++ Z.drop ((be x).length + CS.length) := by
   have e := splice_put (rl be g i) CS (be x) Z
   rw [hal, be_len, show i * 3 + 3 = (i + 1) * 3 by omega] at e
   rw [hL, e]
   unfold insB
   rw [rl_ins be g x (show i ≤ n by omega), ← hCS, List.append_assoc, List.append_assoc, be_len]
 have HFIN := Lib.hid hfin
 have H1C := Lib.hid h1c
 have HG1 := Lib.hid hg1
 have HLL := Lib.hid hLl
 have hm1 : (be x).length = Nat.min 1 (n + 1 - i) * 3 := by rw [be_len]; show 3 = min 1 (n + 1 - i) * 3; omega
 have hm2 : CS.length = Nat.min (n - i) (n - i) * 3 := by rw [hcl]; show _ = min (n - i) (n - i) * 3; omega
 have hf1 : i * 3 + (be x).length ≤ L.length := by rw [be_len, hLl]; omega
 have hf2 : (i + 1) * 3 + CS.length ≤ (splice L (i * 3) (be x)).length := by rw [length_splice _ _ _ hf1, hcl, hLl]; omega
 have hsz : W1.heap.size = w.heap.size + 1 := by rw [hW1]; simp
 have HM1 := Lib.hid hm1
 have HM2 := Lib.hid hm2
 have HF1 := Lib.hid hf1
 have HF2 := Lib.hid hf2
 have hne : b ≠ w.heap.size := by omega
 have hi1 : (0 : Int) ≤ (i : Int) + 1 := by omega
 have hi2 : i ≤ n := by omega
 have hi3 : ¬ (G = i + 1) := by omega
 have hi4 : ¬ (G = i) := by omega
 have hi5 : (0 : Int) ≤ (i : Int) := by omega
 have hi6 : (i : Int) ≤ (n : Int) + 1 := by omega
 have hi7 : ¬ (n = i) := by omega
 have hi8 : (i : Int) ≤ (n : Int) := by omega
 unfold maxLen at hGm
 clear o hX hcx hg hsp hal hL hLl hlr hcs h1c hfin hCS hcl hm1 hm2 hf1 hf2 hl hcell hold hkk hik hG hZ hZl hW1 K1 hg1 hsz hroom hcm
 go_enter Tryz.func80, Tryz.ntmps80
 go_wp2_with (first
   | (at_builtin; (refine Lib.wpList_append_run _ rfl (.tmp 34) (.tmp 39) 32 3 rfl _ _ rfl rfl _ _ (hrz _) ?_))
   | ((with_reducible show wpList _ _ _ _ _ _); (refine wpList_copy_k rfl (.tmp 43) (.tmp 44) 32 32 rfl bk_type hi hz1 w.heap.size (i * 3) (n + 1 - i) (G - i) ⟨X, 0, none⟩ 1 1 rfl rfl _ _ HG1.out (be x) HM1.out HX1.out HF1.out (be_one x) base w hb1.out hb0 ?_; intro w4 hg4 ho4 hb4)))
 have HCS4 : Hid (∀ j v, CS[j]? = some v → w4.cell? ((⟨b, i * 3, none⟩ : Addr).add j) = some v) := Lib.hid fun j v hj => by
   have := HCS1.out j v hj
   rw [Addr.add_lit] at this ⊢
   exact (World.cell?_of_block (a := ⟨b, i * 3 + j, none⟩) (ho4.out b hne)).trans this
 have HB4 : Hid (Below base w w4.drew) := Lib.hid hb4.drew
 clear hb4 ho4
 go_wp2
 go_region_law (refine step_copy_k rfl (.tmp 50) (.tmp 53) 32 32 rfl bk_type hi hz1 w.heap.size ((i + 1) * 3) (n - i) (G - (i + 1)) ⟨b, i * 3, none⟩ (n - i) (n - i) (by simp [Act.eval, Act.put]) (by simp [Act.eval, Act.put]) _ _ hg4.out CS HM2.out HCS4.out HF2.out H1C.out base w HB4.out hb0 ?_; intro w5 hg5 ho5 hb5)
 go_wp2
 go_ret
 have h5 := hg5.out
 rw [HFIN.out] at h5
 refine ⟨w.heap.size, G, rfl, OwnR.of_block be_len h5 hb0 hGn (by unfold maxLen; omega) ?_, hb5⟩
 rw [← HFIN.out, length_splice _ _ _ HF2.out, length_splice _ _ _ HF1.out, HLL.out]
set_option maxRecDepth 100000 in
theorem own_cut {b i : Nat} (o : OwnR be 3 w 81 base (.slice (some ⟨b, 0, none⟩) n c) n g) (hin : i < n) :
   ∃ L CS : List Value, w.heap[b]? = some (.cells L.toArray 81 (0, 0)) ∧ CS.length = (n - (i + 1)) * 3 ∧ (∀ j v, CS[j]? = some v → w.cell? ((⟨b, (i + 1) * 3, none⟩ : Addr).add j) = some v) ∧ (∀ v ∈ CS, v.oneCell' = true) ∧ i * 3 + CS.length ≤ L.length ∧
     ∀ w' : World, w'.heap[b]? = some (.cells (splice L (i * 3) CS).toArray 81 (0, 0)) → OwnR be 3 w' 81 base (.slice (some ⟨b, 0, none⟩) (n - 1) c) (n - 1) (delB g i) := by
 obtain ⟨T, hg, hbb, hnc, hcm, hl⟩ := o.whole
 have hlr := rl_length be_len g n
 have hsp := rl_split be g (show i + 1 ≤ n by omega)
 have hsp2 := rl_succ be g i
 obtain ⟨CS, hCS⟩ : ∃ CS, CS = rl be (fun j => g (i + 1 + j)) (n - (i + 1)) := ⟨_, rfl⟩
 have hcl : CS.length = (n - (i + 1)) * 3 := by rw [hCS]; exact rl_length be_len _ _
 rw [← hCS, hsp2] at hsp
 have hal : (rl be g i).length = i * 3 := rl_length be_len g i
 obtain ⟨L, hL⟩ : ∃ L, L = rl be g n ++ T := ⟨_, rfl⟩
 have hLl : L.length = c * 3 := by rw [hL]; exact hl
 rw [← hL] at hg
 have hfit : i * 3 + CS.length ≤ L.length := by rw [hcl, hLl]; omega
 refine ⟨L, CS, hg, hcl, fun j v hj => ?_, by rw [hCS]; exact rl_one be_one, hfit, fun w' hg' => ?_⟩
 · rw [Addr.add_lit, cell_of_row _ b _ _ _ (0, 0) hg]
   have hjl := (List.getElem?_eq_some_iff.1 hj).1
   have ha2 : (rl be g i ++ be (g i)).length = (i + 1) * 3 := by rw [List.length_append, hal, be_len]; omega
   rw [List.getElem?_toArray, hL, hsp, List.append_assoc, List.getElem?_append_right (by omega), ha2, Nat.add_sub_cancel_left, List.getElem?_append_left hjl]
   exact hj
 · have e : splice L (i * 3) CS = rl be (delB g i) (n - 1) ++ L.drop (i * 3 + CS.length) := by
     unfold delB
     rw [rl_del be g hin, show n - 1 - i = n - (i + 1) by omega, ← hCS]
     unfold splice
     rw [hL, hsp, List.append_assoc, List.append_assoc, ← hal, List.take_left, List.append_assoc]
   have hl2 := length_splice _ _ _ hfit
   rw [e] at hg' hl2
   exact OwnR.of_block be_len hg' hbb (by omega) hcm (hl2.trans hLl)
set_option maxRecDepth 100000 in
theorem bdelete {b i : Nat} (o : OwnR be 3 w 81 base (.slice (some ⟨b, 0, none⟩) n c) n g) (hn : n ≤ 1000) (hin : i < n) :
   Calls Tryz.prog 81 #[.slice (some ⟨b, 0, none⟩) n c, .int .i64 i, .int .i64 ((i : Int) + 1)] w fun e w' => e = .returned (.slice (some ⟨b, 0, none⟩) (n - 1) c) ∧ OwnR be 3 w' 81 base (.slice (some ⟨b, 0, none⟩) (n - 1) c) (n - 1) (delB g i) ∧ Below base w w' := by
 obtain ⟨i0, hi, hz0, hz1, hz2⟩ := info_parts bk_info
 obtain ⟨T, hg, hbb, hnc, hcm, hl⟩ := o.whole
 have hlr := rl_length be_len g n
 have hsp := rl_split be g (show i + 1 ≤ n by omega)
 have hsp2 := rl_succ be g i
 obtain ⟨CS, hCS⟩ : ∃ CS, CS = rl be (fun j => g (i + 1 + j)) (n - (i + 1)) := ⟨_, rfl⟩
 have hcl : CS.length = (n - (i + 1)) * 3 := by rw [hCS]; exact rl_length be_len _ _
 rw [← hCS, hsp2] at hsp
 have hal : (rl be g i).length = i * 3 := rl_length be_len g i
 obtain ⟨L, hL⟩ : ∃ L, L = rl be g n ++ T := ⟨_, rfl⟩
 have hLl : L.length = c * 3 := by rw [hL]; exact hl
 rw [← hL] at hg
 have hcs : ∀ j v, CS[j]? = some v → w.cell? ((⟨b, (i + 1) * 3, none⟩ : Addr).add j) = some v := fun j v hj => by
   rw [Addr.add_lit, cell_of_row _ b _ _ _ (0, 0) hg]
   have hjl := (List.getElem?_eq_some_iff.1 hj).1
   have ha2 : (rl be g i ++ be (g i)).length = (i + 1) * 3 := by rw [List.length_append, hal, be_len]; omega
   rw [List.getElem?_toArray, hL, hsp, List.append_assoc, List.getElem?_append_right (by omega), ha2, Nat.add_sub_cancel_left, List.getElem?_append_left hjl]
   exact hj
 have h1c : ∀ v ∈ CS, v.oneCell' = true := by rw [hCS]; exact rl_one be_one
 have hi5 : (0 : Int) ≤ (i : Int) := by omega
 have hi6 : (i : Int) ≤ (n : Int) := by omega
 have hi7 : (i : Int) + 1 ≤ (n : Int) := by omega
 have hi8 : (0 : Int) ≤ (i : Int) + 1 := by omega
 have hz1' : ¬ ((i : Int) = (i : Int) + 1) := by omega
 have hi1 : ((n - 1 : Nat) : Int) ≤ (n : Int) := by omega
 have hi2 : n - (n - 1) = 1 := by omega
 have hi3 : ¬ (c = n - 1) := by omega
 have hi4 : i ≤ c := by omega
 have hi9 : n - 1 ≤ n := by omega
 have hfit : i * 3 + CS.length ≤ L.length := by rw [hcl, hLl]; omega
 have hfit2 : (n - 1) * 3 + [Value.int .i64 0, .int .i64 0, .int .i64 0].length ≤ (splice L (i * 3) CS).length := by rw [length_splice _ _ _ hfit, hLl]; show (n - 1) * 3 + 3 ≤ c * 3; omega
 have hlast : ∃ T', splice (splice L (i * 3) CS) ((n - 1) * 3) [Value.int .i64 0, .int .i64 0, .int .i64 0] = rl be (delB g i) (n - 1) ++ T' ∧ (rl be (delB g i) (n - 1) ++ T').length = c * 3 := by
   have e : splice L (i * 3) CS = rl be (delB g i) (n - 1) ++ L.drop (i * 3 + CS.length) := by
     unfold delB
     rw [rl_del be g hin, show n - 1 - i = n - (i + 1) by omega, ← hCS]
     unfold splice
     rw [hL, hsp, List.append_assoc, List.append_assoc, ← hal, List.take_left, List.append_assoc]
   have hl1 : (rl be (delB g i) (n - 1)).length = (n - 1) * 3 := rl_length be_len _ _
   have hl2 := length_splice _ _ _ hfit2
   rw [length_splice _ _ _ hfit, hLl] at hl2
   have e2 : ∀ Z : List Value, splice (rl be (delB g i) (n - 1) ++ Z) ((n - 1) * 3) [Value.int .i64 0, .int .i64 0, .int .i64 0] = rl be (delB g i) (n - 1) ++ ([Value.int .i64 0, .int .i64 0, .int .i64 0] ++ (rl be (delB g i) (n - 1) ++ Z).drop ((n - 1) * 3 + 3)) := fun Z => by
     unfold splice
     rw [List.take_left' hl1]; rfl
   refine ⟨[Value.int .i64 0, .int .i64 0, .int .i64 0] ++ (rl be (delB g i) (n - 1) ++ L.drop (i * 3 + CS.length)).drop ((n - 1) * 3 + 3), by rw [e, e2], ?_⟩
   rw [← e2, ← e]; exact hl2
 obtain ⟨T', hT1, hT2⟩ := hlast
 obtain ⟨off, hd⟩ : ∃ off, (c = i + 1 ∧ off = 0) ∨ (¬ c = i + 1 ∧ off = (i + 1) * 3) := by
   by_cases q : c = i + 1
   · exact ⟨0, .inl ⟨q, rfl⟩⟩
   · exact ⟨_, .inr ⟨q, rfl⟩⟩
 have hcs' : ∀ j v, CS[j]? = some v → w.cell? ((⟨b, off, none⟩ : Addr).add j) = some v := by
   rcases hd with ⟨q, _⟩ | ⟨_, rfl⟩
   · intro j v hj
     obtain rfl : CS = [] := List.eq_nil_of_length_eq_zero (by omega)
     cases hj
   · exact hcs
 have HG := Lib.hid hg
 have HCL := Lib.hid hcl
 have HCS := Lib.hid hcs'
 have H1C := Lib.hid h1c
 have HF1 := Lib.hid hfit
 have HF2 := Lib.hid hfit2
 have HT1 := Lib.hid hT1
 have HT2 := Lib.hid hT2
 have hroom : i + (n - (i + 1)) ≤ c := by omega
 have HR := Lib.hid hroom
 have HMM := Lib.hid hcm
 have z1 : ∀ u ∈ [Value.int .i64 0, .int .i64 0, .int .i64 0], u.oneCell' = true := be_one ⟨0, 0, 0⟩
 have HZ1 := Lib.hid z1
 have HEQ : Hid (i + (n - (i + 1)) = n - 1) := Lib.hid (by omega)
 clear o hg hl hlr hsp hsp2 hCS hcl hal hL hLl hcs hcs' h1c hfit hfit2 hT1 hT2 hroom hcm z1
 have hi10 : (i : Int) ≤ (i : Int) + 1 := by omega
 rcases hd with ⟨hc, rfl⟩ | ⟨hc, rfl⟩
 · subst hc
   have HCL0 : Hid (CS.length = 0 * 3) := Lib.hid (by have := HCL.out; omega)
   have HR0 : Hid (i + 0 ≤ i + 1) := Lib.hid (by omega)
   have HEQ0 : Hid (i + 0 = n - 1) := Lib.hid (by omega)
   go_enter Tryz.func81, Tryz.ntmps81
   go_wp2
   go_region_law (refine step_append_k rfl (.tmp 22) (.tmp 25) 32 rfl bk_type hi hz1 b i (i + 1) _ 0 0 (by simp [Act.eval, Act.put]) (by simp [Act.eval, Act.put]) L HG.out CS HCL0.out HR0.out HCS.out HF1.out H1C.out base w ⟨rfl, rfl, rfl, Nat.le_refl _, fun _ _ => rfl⟩ hbb ?_; intro w4 hg4 ho4 hb4; rw [HEQ0.out])
   go_wp2_with ((with_reducible show wpList _ _ _ _ _ _); (refine wpList_clear_k rfl (.tmp 31) 32 rfl bk_type (fun w => bk_zero w) [.int .i64 0, .int .i64 0, .int .i64 0] b ((n - 1) * 3) 0 _ bk_zeros rfl _ _ hg4.out HF2.out HZ1.out base w hb4 hbb ?_; intro w5 hg5 hb5))
   go_ret
   have h5 := hg5.out
   rw [HT1.out] at h5
   exact ⟨rfl, OwnR.of_block be_len h5 hbb (by omega) HMM.out HT2.out, hb5⟩
 · have hc' := Lib.hid hc
   go_enter Tryz.func81, Tryz.ntmps81
   go_wp2
   go_region_law (refine step_append_k rfl (.tmp 22) (.tmp 25) 32 rfl bk_type hi hz1 b i (c) _ (n - (i + 1)) (c - (i + 1)) (by simp [Act.eval, Act.put]) (by simp [Act.eval, Act.put]) L HG.out CS HCL.out HR.out HCS.out HF1.out H1C.out base w ⟨rfl, rfl, rfl, Nat.le_refl _, fun _ _ => rfl⟩ hbb ?_; intro w4 hg4 ho4 hb4; rw [HEQ.out])
   go_wp2_with ((with_reducible show wpList _ _ _ _ _ _); (refine wpList_clear_k rfl (.tmp 31) 32 rfl bk_type (fun w => bk_zero w) [.int .i64 0, .int .i64 0, .int .i64 0] b ((n - 1) * 3) 0 _ bk_zeros rfl _ _ hg4.out HF2.out HZ1.out base w hb4 hbb ?_; intro w5 hg5 hb5))
   go_ret
   have h5 := hg5.out
   rw [HT1.out] at h5
   exact ⟨rfl, OwnR.of_block be_len h5 hbb (by omega) HMM.out HT2.out, hb5⟩
end
end Go.Proofs.YtmlafdehhbhbiaaGreat
/- Package bucket: rows with one bucket more or less of something, their sum; the register: a contract for each of its calls. -/
namespace Go.Proofs.YtmlafdehhbhbiaaGreat
open Go.RowKit
set_option maxRecDepth 100000 in
theorem binsert {w : World} {base n c X i : Nat} {A : Option Addr} {g : Nat → Bk} {x : Bk} (o : OwnR be 3 w 81 base (.slice A n c) n g) (hX : w.heap[X]? = some (.cells (be x).toArray 81 (0, 0))) (hne : ∀ b, A = some ⟨b, 0, none⟩ → X ≠ b) (hn : n ≤ 1000) (hb : base ≤ w.heap.size) (hin : i ≤ n) :
   Calls Tryz.prog 80 #[.slice A n c, .int .i64 i, .slice (some ⟨X, 0, none⟩) 1 1] w fun e w' => ∃ b c', e = .returned (.slice (some ⟨b, 0, none⟩) (n + 1) c') ∧ OwnR be 3 w' 81 base (.slice (some ⟨b, 0, none⟩) (n + 1) c') (n + 1) (insB g i x) ∧ Below base w w' := by
 by_cases q : i = n
 · rw [q]; exact binsert_end o hX hn hb
 · obtain ⟨b, c', e, h1, h2⟩ := own_some o (by omega)
   injection e with e1 _ e3
   subst e1 e3
   by_cases r : n + 1 ≤ c
   · exact binsert_in o hX (hne b rfl) hn (by omega) r
   · exact binsert_grow o hX hn hb (by omega) (by omega)
set_option maxRecDepth 100000 in
theorem bfind (A : Option Addr) (n c : Nat) (g : Nat → Bk) (cl y : Int) (w : World) (hr : AtR be 3 w A n g) (hb : BRow n g) (hn : n ≤ 1000000) (hnc : n ≤ c) :
   Calls Tryz.prog 79 #[.slice A n c, .int .i64 cl, .int .i64 y] w fun e w' => ∃ (p : Nat) (f : Bool), e = .returned (.tuple #[.int .i64 p, .bool f]) ∧ PAt n g ⟨cl, y, 0⟩ p f ∧ Below w.heap.size w w' := by
 have C1 := Lib.hid (bsearch_any A n c g ⟨cl, y, 0⟩ w hr hb hn hnc)
 clear hr hb
 go_enter Tryz.func79, Tryz.ntmps79
 go_wp2_with (go_at_call 122; (refine (C1.out).mono ?_); rintro e w' ⟨p, f, rfl, hp, hb⟩)
 go_ret2
 exact ⟨p, f, rfl, hp, hb⟩
structure WAt (S : Int → Int → Int) (n : Nat) (c y a : Int) (m : Nat) (g : Nat → Bk) (p : Nat) : Prop where
 lt : p < m
 cls : (g p).c = c
 yr : (g p).y = y
 val : (g p).a = S c y
 le : m ≤ n + 1
 some : S c y + a ≠ 0 → BIs (upS S c y (S c y + a)) m (repB g p ⟨c, y, S c y + a⟩)
 none : S c y + a = 0 → BIs (upS S c y (S c y + a)) (m - 1) (delB (repB g p ⟨c, y, S c y + a⟩) p)
set_option maxRecDepth 100000 in
theorem del_rep (g : Nat → Bk) (p : Nat) (x : Bk) : delB (repB g p x) p = delB g p := by
 funext j
 unfold delB repB
 by_cases q : j < p
 · rw [if_pos q, if_pos q, if_neg (by omega)]
 · rw [if_neg q, if_neg q, if_neg (by omega)]
set_option maxRecDepth 100000 in
theorem rep_ins (g : Nat → Bk) (p : Nat) (x z : Bk) : repB (insB g p z) p x = insB g p x := by
 funext j
 unfold repB insB
 by_cases q : j = p
 · rw [if_pos q, if_neg (by omega), if_pos q]
 · rw [if_neg q]
   by_cases r : j < p
   · rw [if_pos r, if_pos r]
   · rw [if_neg r, if_neg r, if_neg q, if_neg q]
set_option maxRecDepth 100000 in
theorem del_ins (g : Nat → Bk) (p : Nat) (x : Bk) : delB (insB g p x) p = g := by
 funext j
 unfold delB insB
 by_cases q : j < p
 · rw [if_pos q, if_pos q]
 · rw [if_neg q, if_neg (by omega), if_neg (by omega), Nat.add_sub_cancel]
section
variable {S : Int → Int → Int} {n p : Nat} {g : Nat → Bk} {c y a : Int}
set_option maxRecDepth 100000 in
theorem wat_found (b : BIs S n g) (h : PAt n g ⟨c, y, 0⟩ p true) : WAt S n c y a n g p := by
 obtain ⟨h1, h2, h3⟩ := h.fd.1 rfl
 simp only at h2 h3
 subst h2 h3
 have hv := b.at h1
 refine ⟨h1, rfl, rfl, hv.symm, by omega, fun q => (bis_rep b h1 q).1, fun q => ?_⟩
 obtain ⟨n', rfl⟩ : ∃ n', n = n' + 1 := ⟨n - 1, by omega⟩
 rw [del_rep, q]
 exact (bis_del b h1).1
set_option maxRecDepth 100000 in
theorem wat_new (b : BIs S n g) (hok : BOk c y) (h : PAt n g ⟨c, y, 0⟩ p false) : WAt S n c y a (n + 1) (insB g p ⟨c, y, 0⟩) p := by
 have nf : ¬ (p < n ∧ (g p).c = c ∧ (g p).y = y) := fun q => by cases h.fd.2 q
 have h2 : ∀ j, p ≤ j → j < n → Bl c y (g j).c (g j).y := fun j h1 h2 => by
   rcases h.hi j h1 h2 with ⟨e1, e2⟩ | q
   · exfalso
     simp only at e1 e2
     rcases h.hi p (Nat.le_refl _) (by omega) with e | q
     · exact nf ⟨by omega, e⟩
     · simp only at q
       by_cases z : p = j
       · subst z; exact nf ⟨h2, e1, e2⟩
       · have := b.1.asc p j (by omega) h2
         rw [e1, e2] at this
         unfold Bl at *; omega
   · exact q
 have hS := (bis_ins b h.le hok (v := 1) (by omega) h.lo h2).2.2
 have hp : (insB g p ⟨c, y, 0⟩) p = ⟨c, y, 0⟩ := by unfold insB; rw [if_neg (by omega), if_pos rfl]
 refine ⟨by have := h.le; omega, by rw [hp], by rw [hp], by rw [hp, hS], by omega, fun q => ?_, fun q => ?_⟩
 · rw [rep_ins]; exact (bis_ins b h.le hok q h.lo h2).1
 · have e := upS_same S c y
   rw [hS] at e
   rw [del_rep, del_ins, q, e]; exact b
end
set_option maxHeartbeats 4000000 in
set_option maxRecDepth 100000 in
theorem bwith {w : World} {b0 n : Nat} {v : Value} {g : Nat → Bk} {S : Int → Int → Int} (o : OwnR be 3 w 81 b0 v n g) (b : BIs S n g) (hn : n ≤ 500) (c y a : Int) (hok : BOk c y) (h1 : -1000000000000000 ≤ S c y) (h2 : S c y ≤ 1000000000000000) (h3 : -1000000000000000 ≤ a) (h4 : a ≤ 1000000000000000) :
   Calls Tryz.prog 36 #[v, .int .i64 c, .int .i64 y, .int .i64 a] w fun e w' => ∃ v' m h, e = .returned v' ∧ OwnR be 3 w' 81 w.heap.size v' m h ∧ BIs (upS S c y (S c y + a)) m h ∧ m ≤ n + 1 ∧ Below w.heap.size w w' := by
 have HBS := Lib.hid b
 have OK := Lib.hid hok
 have C1 := Lib.hid (bclone v n b0 g w o (by omega))
 clear o b hok
 go_enter Tryz.func36, Tryz.ntmps36
 go_wp2_with fail
 refine (C1.out).mono ?_
 rintro e w1 ⟨v1, rfl, ho1, hb1⟩
 obtain ⟨A1, c1, rfl, hc1, hm1, _, hat⟩ := ho1.at be_len
 have O1 := Lib.hid ho1
 have B1 := Lib.hid hb1
 have C2 := Lib.hid (bfind A1 n c1 g c y w1 hat HBS.out.1 (by omega) hc1)
 clear ho1 hb1 hat C1
 go_wp2_with fail
 refine (C2.out).mono ?_
 rintro e w2 ⟨p, f, rfl, hp, hb2⟩
 have O2 := Lib.hid (O1.out.below hb2)
 have B2 := Lib.hid (B1.out.trans (hb2.mono B1.out.size))
 have HP := Lib.hid hp
 have hpn := hp.le
 clear hp hb2 C2 O1
 have hpi : (0 : Int) ≤ (p : Int) := by omega
 go_upto_if 22 with fail
 go_cut [9] (fun s9 wx => ∃ (m : Nat) (g1 : Nat → Bk) (b c' : Nat), s9 = .slice (some ⟨b, 0, none⟩) m c' ∧ WAt S n c y a m g1 p ∧ OwnR be 3 wx 81 w.heap.size (.slice (some ⟨b, 0, none⟩) m c') m g1 ∧ Below w.heap.size w wx)
 case first =>
   cases f
   · have X0 : Hid ((w2.alloc (.cells #[.int .i64 c, .int .i64 y, .int .i64 0] 81)).heap[w2.heap.size]? = some (.cells (be ⟨c, y, 0⟩).toArray 81 (0, 0))) := Lib.hid (heap_alloc_new w2 _)
     have C3 := Lib.hid (binsert (O2.out.alloc _) X0.out (fun b hb => by have := (OwnR.lt O2.out b (by rw [hb]; rfl)).2; omega) (by omega) (Nat.le_trans B2.out.size (by simp)) hpn)
     go_wp2_with (go_at_call 80; (refine (C3.out).mono ?_); rintro e w3 ⟨b, c', rfl, ho3, hb3⟩)
     go_meet
     exact ⟨_, _, b, c', rfl, wat_new HBS.out OK.out HP.out, ho3, (B2.out.alloc B2.out.size _).trans hb3⟩
   · have hw := wat_found (a := a) HBS.out HP.out
     obtain ⟨b, c', e, _, _⟩ := own_some O2.out (by have := hw.lt; omega)
     injection e with e1 _ e3
     subst e1 e3
     have HW := Lib.hid hw
     clear hw
     go_wp2
     go_meet
     exact ⟨n, g, b, c1, rfl, HW.out, O2.out, B2.out⟩
 case rest =>
   obtain ⟨m, g1, b, c', rfl, hw, ho3, hb3⟩ := hcut
   have hm := hw.lt
   have hmn := hw.le
   obtain ⟨_, _, e, _, _, _, _, hcell, hfz⟩ := ho3.some be_len (by omega)
   injection e with e1 _ e3
   injection e1 with e1
   injection e1 with e1
   subst e1 e3
   have k2 := hcell p hm 2 _ rfl
   have f2 := hfz (p * 3 + 2)
   rw [hw.val] at k2
   obtain ⟨V, eV⟩ : ∃ V, S c y = V := ⟨_, rfl⟩
   rw [eV] at k2 h1 h2
   have ew : IntKind.i64.wrap (V + a) = V + a := IntWalk.i64_in _ (by omega)
   have hpm : (p : Int) < (m : Int) := by omega
   have os := ho3.setc be_len p 2 ⟨c, y, V + a⟩ (.int .i64 (V + a)) hm (by decide) (fun d hd => by
     match d, hd with
     | 0, _ => simp [be, hw.cls]
     | 1, _ => simp [be, hw.yr]
     | 2, h => exact absurd rfl h
     | d + 3, _ => simp [be]) rfl
   have OS := Lib.hid os
   have k3 : (wc.setCell ⟨b, p * 3 + 2, none⟩ (.int .i64 (V + a))).cell? ⟨b, p * 3 + 2, none⟩ = some (.int .i64 (V + a)) := World.cell?_setCell_same _ _ _ k2
   have hbb := (ho3.lt b rfl).1
   have B4 : Hid (Below w.heap.size w (wc.setCell ⟨b, p * 3 + 2, none⟩ (.int .i64 (V + a)))) := Lib.hid (hb3.setCell hbb _)
   have HW := Lib.hid hw
   have EV := Lib.hid eV
   clear hcell hfz ho3 hb3 hw eV os
   by_cases hz : V + a = 0
   · have hz' := Lib.hid hz
     have hzb : (V + a == 0) = true := by simpa using hz
     have hi1 : IntKind.i64.wrap ((p : Int) + 1) = (p : Int) + 1 := IntWalk.i64_in _ (by omega)
     have C4 := Lib.hid (bdelete OS.out (by omega) hm)
     clear hz
     go_wp2_with (go_at_call 81; (refine (C4.out).mono ?_); rintro e w5 ⟨rfl, ho5, hb5⟩; have HO5 := Lib.hid ho5; have HB5 := Lib.hid (B4.out.trans hb5); clear ho5 hb5)
     go_ret
     have hb := HW.out.none (by rw [EV.out]; exact hz'.out)
     rw [EV.out] at hb
     exact ⟨_, _, _, rfl, HO5.out, (by rw [EV.out]; exact hb), by omega, HB5.out⟩
   · have hzb : (V + a == 0) = false := by simpa using hz
     have hb := HW.out.some (by rw [EV.out]; exact hz)
     rw [EV.out] at hb
     have HB := Lib.hid hb
     clear hz hb
     go_wp2
     go_ret
     exact ⟨_, rfl, _, _, OS.out, (by rw [EV.out]; exact HB.out), by omega, B4.out⟩
set_option maxRecDepth 100000 in
theorem sum_yes {S : Int → Int → Int} {m : Nat} {h : Nat → Bk} (b : BIs S m h) (h1 : ∀ c y, Mon (S c y)) (h2 : Mon (btot h m)) : SumIs (fun j => (h j).a) m (btot h m) true := .inl ⟨rfl, rfl, h2, fun _ hj => b.mon h1 hj⟩
set_option maxRecDepth 100000 in
theorem sum_bad {S : Int → Int → Int} {m : Nat} {h : Nat → Bk} {c y : Int} (b : BIs S m h) (h1 : ¬ Mon (S c y)) : SumIs (fun j => (h j).a) m 0 false := by
 obtain ⟨j, hj, e1, e2⟩ := b.has (c := c) (y := y) (fun e => h1 (by rw [e]; unfold Mon; omega))
 refine .inr ⟨rfl, rfl, .inl ⟨j, hj, ?_⟩⟩
 show ¬ Mon (h j).a
 rw [← b.at hj, e1, e2]; exact h1
set_option maxRecDepth 100000 in
theorem sum_big {m : Nat} {h : Nat → Bk} (h1 : ¬ Mon (btot h m)) : SumIs (fun j => (h j).a) m 0 false := .inr ⟨rfl, rfl, .inr h1⟩
set_option maxHeartbeats 4000000 in
set_option maxRecDepth 100000 in
theorem bsum {w : World} {A : Option Addr} {n c : Nat} {g : Nat → Bk} (hr : AtR be 3 w A n g) (hn : n ≤ 1000) (r : Int) (ok : Bool) (HR : Hid (SumIs (fun j => (g j).a) n r ok)) :
   Calls Tryz.prog 78 #[.slice A n c] w fun e w' => e = .returned (.tuple #[.int .i64 r, .bool ok]) ∧ Below w.heap.size w w' := by
 have HA := Lib.hid hr
 have hmk := run_make_row' (P := Tryz.prog) 33 3 (.int .i64 0) 8 Tryz.underlying33 int_info rfl .i64 .i64 n (by omega) (by omega)
 clear hr
 go_enter Tryz.func78, Tryz.ntmps78
 go_wp2
 go_loopg [12] n (fun gh i wr => ∃ (k : Nat) (f : Nat → Int), k ≤ n ∧ gh = n - k ∧ i = .int .i64 k ∧ (∀ j, j < k → f j = (g j).a) ∧ Row wr w.heap.size n f ∧ Below w.heap.size w wr)
 case atStart => exact ⟨0, fun _ => 0, Nat.zero_le _, rfl, rfl, fun j hj => absurd hj (Nat.not_lt_zero _), made_row w n _, (Below.refl _ _).alloc (Nat.le_refl _) _⟩
 case round =>
   obtain ⟨k, f, hk, hgk, rfl, hf, hrow, hbw⟩ := hrel
   have HGK := Lib.hid hgk
   have HF := Lib.hid hf
   have HRW := Lib.hid hrow
   have HB := Lib.hid hbw
   clear hgk hf hrow hbw
   by_cases hlt : k < n
   · obtain ⟨b, off, rfl, hb, c0, c1, c2⟩ := (HA.out.below HB.out).three hlt
     have hkn : (k : Int) < (n : Int) := by omega
     have hr0 := HRW.out.1
     obtain ⟨q1, q2⟩ := HRW.out.2 k hlt
     have hne : w.heap.size ≠ wr.heap.size := by omega
     go_wp2
     go_roundg (n - (k + 1))
     case measure => have := HGK.out; omega
     case rel => exact ⟨k + 1, (fun j => if j = k then (g k).a else f j), by omega, rfl, by go_num, (fun j hj => by
           by_cases e : j = k
           · subst e; exact if_pos rfl
           · exact (if_neg e).trans (HF.out j (by omega))), (HRW.out.set hlt (g k).a).below ((Below.refl _ _).alloc (Nat.le_refl _) _), (HB.out.setCell (Nat.le_refl _) _).alloc (by simpa using HB.out.size) _⟩
   · obtain rfl : k = n := by omega
     clear hlt
     have C1 := Lib.hid (sum_some w.heap.size 0 k k f r ok wr HRW.out.1 HRW.out.hid (by omega) (Nat.le_refl _) (Lib.hid (by
       have := HR.out
       unfold SumIs at this ⊢
       rw [tot_ext k HF.out] 
       rcases this with ⟨a1, a2, a3, a4⟩ | ⟨a1, a2, a3⟩
       · exact .inl ⟨a1, a2, a3, fun j hj => by rw [HF.out j hj]; exact a4 j hj⟩
       · refine .inr ⟨a1, a2, a3.imp (fun ⟨j, hj, q⟩ => ⟨j, hj, by rw [HF.out j hj]; exact q⟩) id⟩)))
     go_wp2_with (go_at_call 108; (refine (C1.out).mono ?_); rintro e w5 ⟨rfl, hb5⟩; have HB5 := Lib.hid (HB.out.trans (hb5.mono HB.out.size)); clear hb5)
     go_ret2
     exact ⟨rfl, HB5.out⟩
set_option maxRecDepth 100000 in
theorem bright_yes (c y : Int) (w : World) (h : BOk c y) : Calls Tryz.prog 33 #[.int .i64 c, .int .i64 y] w fun e w' => e = .returned (.bool true) ∧ w = w' := by
 obtain ⟨h1, h2, h3, h4⟩ := h
 go_enter Tryz.func33, Tryz.ntmps33
 go_wp2
 all_goals
   go_ret
   exact ⟨ret_b (by first | rfl | (simp; omega)), rfl⟩
set_option maxRecDepth 100000 in
theorem bright_no (c y : Int) (w : World) (h : ¬ BOk c y) : Calls Tryz.prog 33 #[.int .i64 c, .int .i64 y] w fun e w' => e = .returned (.bool false) ∧ w = w' := by
 unfold BOk at h
 rcases (show c < 1 ∨ (1 ≤ c ∧ 9 < c) ∨ (1 ≤ c ∧ c ≤ 9 ∧ y < 0) ∨ (1 ≤ c ∧ c ≤ 9 ∧ 0 ≤ y ∧ 99 < y) by omega) with q | ⟨q1, q2⟩ | ⟨q1, q2, q3⟩ | ⟨q1, q2, q3, q4⟩
 all_goals
   clear h
   go_enter Tryz.func33, Tryz.ntmps33
   go_wp2
   all_goals
     go_ret
     exact ⟨ret_b (by first | rfl | (simp; omega)), rfl⟩
set_option maxRecDepth 100000 in
theorem mny_yes (n : Int) (w : World) (h : Mon n) : Calls Tryz.prog 34 #[.int .i64 n] w fun e w' => e = .returned (.bool true) ∧ w = w' := money_yes n w h.1 h.2
set_option maxRecDepth 100000 in
theorem mny_no (n : Int) (w : World) (h : ¬ Mon n) : Calls Tryz.prog 34 #[.int .i64 n] w fun e w' => e = .returned (.bool false) ∧ w = w' := money_no n w (by unfold Mon at h; omega)
section
variable {w w1 : World} {O O1 : Nat → Nat} {base t t' sb n m : Nat} {v v' : Value} {g h : Nat → Bk} {S : Int → Int → Int}
set_option maxRecDepth 100000 in
theorem btake_over {A : Option Addr} {m c : Nat} (hr : AtR be 3 w A m h) (hm : m ≤ 1000) (HR : Hid (SumIs (fun j => (h j).a) m 0 false)) :
   Calls Tryz.prog 35 #[ptr sb, .slice A m c] w fun e w' => e = .returned (.int .i64 6) ∧ Below w.heap.size w w' := by
 have C1 := Lib.hid (bsum (c := c) hr hm 0 false HR)
 clear hr HR
 go_enter Tryz.func35, Tryz.ntmps35
 go_wp2_with (go_at_call 78; (refine (C1.out).mono ?_); rintro e w5 ⟨rfl, hb5⟩)
 go_ret
 exact ⟨rfl, hb5⟩
set_option maxRecDepth 100000 in
theorem btake_limit {A : Option Addr} {m c : Nat} (hr : AtR be 3 w A m h) (hm : m ≤ 1000) (hm2 : 12 < m) (r : Int) (HR : Hid (SumIs (fun j => (h j).a) m r true)) :
   Calls Tryz.prog 35 #[ptr sb, .slice A m c] w fun e w' => e = .returned (.int .i64 5) ∧ Below w.heap.size w w' := by
 have C1 := Lib.hid (bsum (c := c) hr hm r true HR)
 have hq : (12 : Int) < (m : Int) := by omega
 clear hr HR
 go_enter Tryz.func35, Tryz.ntmps35
 go_wp2_with (go_at_call 78; (refine (C1.out).mono ?_); rintro e w5 ⟨rfl, hb5⟩)
 go_ret
 exact ⟨rfl, hb5⟩
set_option maxRecDepth 100000 in
theorem btake_ok {A : Option Addr} {m c : Nat} (hr : AtR be 3 w A m h) (hm2 : m ≤ 12) (r : Int) (HR : Hid (SumIs (fun j => (h j).a) m r true)) {u : Value} (c0 : w.cell? ⟨sb, 0, none⟩ = some u) (f0 : w.frozen? ⟨sb, 0, none⟩ = false) :
   Calls Tryz.prog 35 #[ptr sb, .slice A m c] w fun e w' => e = .returned (.int .i64 0) ∧ ∃ w2, Below w.heap.size w w2 ∧ w' = w2.setCell ⟨sb, 0, none⟩ (.slice A m c) := by
 have C1 := Lib.hid (bsum (c := c) hr (by omega) r true HR)
 have hq : ¬ (12 : Int) < (m : Int) := by omega
 have lt0 := World.block_lt_of_cell? _ _ c0
 clear hr HR
 go_enter Tryz.func35, Tryz.ntmps35
 go_wp2_with (go_at_call 78; (refine (C1.out).mono ?_); rintro e w5 ⟨rfl, hb5⟩; have d0 := cell_keep c0 hb5; have g0 := (hb5.frozen (p := ⟨sb, 0, none⟩) lt0).trans f0; have HB5 := Lib.hid hb5; clear hb5)
 go_ret
 exact ⟨rfl, _, HB5.out, rfl⟩
end
end Go.Proofs.YtmlafdehhbhbiaaGreat
/- Package bucket's register: Move, Reclass, Get, Rows, Total, Clone, New: a contract for each, as the laws meet them. -/
namespace Go.Proofs.YtmlafdehhbhbiaaGreat
open Go.RowKit
section
variable {w0 w w1 : World} {O O1 : Nat → Nat} {base t t' sb n : Nat} {v : Value} {g : Nat → Bk} {S : Int → Int → Int}
abbrev NowP (w0 w : World) (O : Nat → Nat) (t sb : Nat) (S : Int → Int → Int) : Prop := NowB w0 w O t sb S
set_option maxRecDepth 100000 in
theorem NowP.below (h : NowP w0 w O t sb S) (k : Below w.heap.size w w1) : NowP w0 w1 O t sb S := NowB.below h k
set_option maxRecDepth 100000 in
theorem NowP.step (h : NowP w0 w O t sb S) (k : Step w0.heap.size O t' w O1 w1) (h1 : t ≠ t') (h2 : t' ≠ 0) : NowP w0 w1 O1 t sb S := NowB.step h k h1 h2
set_option maxRecDepth 100000 in
theorem NowP.told (h : NowP w0 w O t sb S) : ∃ n g, BInv S n g := NowB.told h
set_option maxRecDepth 100000 in
theorem pbnew (w0 w : World) (O : Nat → Nat) (fn : Fin0 w0.heap.size O w) (lo : Below w0.heap.size w0 w) (t : Nat) :
   Calls Tryz.prog 32 #[] w fun e w' => ∃ sb O', e = .returned (ptr sb) ∧ NowP w0 w' O' t sb (fun _ _ => 0) ∧ ∀ t', Step w0.heap.size O t' w O' w' := by
 have HF := Lib.hid fn
 have HL := Lib.hid lo
 clear fn lo
 go_enter Tryz.func32, Tryz.ntmps32
 go_wp2
 go_ret
 obtain ⟨a, b⟩ := nowb_new w0 w O HF.out HL.out 99 t
 exact ⟨_, _, rfl, a, b⟩
set_option maxRecDepth 100000 in
theorem pbrows (h : NowP w0 w O t sb S) {m : Nat} {g' : Nat → Bk} (b : BIs S m g') :
   Calls Tryz.prog 25 #[ptr sb] w fun e w' => ∃ A c, e = .returned (.slice A m c) ∧ m ≤ c ∧ c ≤ maxLen ∧ OwnR be 3 w' 81 w.heap.size (.slice A m c) m g' ∧ Below w.heap.size w w' := by
 obtain ⟨v, n, g, s, iv⟩ := h.st
 obtain ⟨rfl, he⟩ := iv.is.uniq b
 have hn := iv.le
 have c0 := s.hd.c0
 obtain ⟨A, cc, rfl, hc, hm, _, ha⟩ := s.at
 have C1 := Lib.hid (bclone _ n _ g w s.own (by omega))
 have HE := Lib.hid he
 clear s ha iv h b he
 go_enter Tryz.func25, Tryz.ntmps25
 go_wp2_with fail
 refine (C1.out).mono ?_
 rintro e w1 ⟨v1, rfl, ho, hb1⟩
 obtain ⟨A1, c1, rfl, h1, h2, _⟩ := ho.form
 go_wp2
 go_ret
 exact ⟨_, _, rfl, h1, h2, ho.ext HE.out, hb1⟩
set_option maxRecDepth 100000 in
theorem ptake (h : NowP w0 w O t sb S) (ht : t ≠ 0) (hb : Below w.heap.size w w1) {v' : Value} {m : Nat} {g' : Nat → Bk} {S' : Int → Int → Int} (o : OwnR be 3 w1 81 w.heap.size v' m g') (b : BIs S' m g') (hm : m ≤ 20) (e : Int)
   (he : (e = 6 ∧ ((∃ c y, ¬ Mon (S' c y)) ∨ ¬ Mon (btot g' m))) ∨ (((∀ c y, Mon (S' c y)) ∧ Mon (btot g' m)) ∧ ((e = 5 ∧ 12 < m) ∨ (e = 0 ∧ m ≤ 12)))) :
   Calls Tryz.prog 35 #[ptr sb, v'] w1 fun e' w' => e' = .returned (.int .i64 e) ∧ ∃ O', NowP w0 w' O' t sb (if e = 0 then S' else S) ∧ Step w0.heap.size O t w O' w' := by
 obtain ⟨A, c, rfl, _, _, _, hat⟩ := o.at be_len
 rcases he with ⟨rfl, he⟩ | ⟨⟨hS, hT⟩, ⟨rfl, he⟩ | ⟨rfl, he⟩⟩
 · refine (btake_over (sb := sb) hat (by omega) ?_).mono ?_
   · rcases he with ⟨c, y, q⟩ | q
     · exact Lib.hid (sum_bad b q)
     · exact Lib.hid (sum_big q)
   · rintro e' w' ⟨rfl, hb'⟩
     have k := hb.trans (hb'.mono hb.size)
     exact ⟨rfl, O, h.below k, Step.of_below h.fin k⟩
 · refine (btake_limit (sb := sb) hat (by omega) he _ (Lib.hid (sum_yes b hS hT))).mono ?_
   rintro e' w' ⟨rfl, hb'⟩
   have k := hb.trans (hb'.mono hb.size)
   exact ⟨rfl, O, h.below k, Step.of_below h.fin k⟩
 · obtain ⟨v, n, g, s, iv⟩ := h.st
   have s1 := s.hd.below hb
   refine (btake_ok (sb := sb) hat he _ (Lib.hid (sum_yes b hS hT)) s1.c0 (s1.frz 0)).mono ?_
   rintro e' w' ⟨rfl, w2, hb2, rfl⟩
   have k := hb.trans (hb2.mono hb.size)
   obtain ⟨O', q1, q2⟩ := BV.takes s h.fin h.low.size k (o.below hb2)
   exact ⟨rfl, O', ⟨⟨_, m, g', q1, b, he, hS, hT⟩, q2.fin, h.low.trans (q2.below h.fin ht h.low.size)⟩, q2⟩
set_option maxRecDepth 100000 in
theorem mon_up {c y x : Int} (hS : ∀ c y, Mon (S c y)) (hx : Mon x) : ∀ c' y', Mon (upS S c y x c' y') := fun c' y' => by
 unfold upS
 split
 · exact hx
 · exact hS c' y'
set_option maxRecDepth 100000 in
theorem merr_take {c y a e : Int} {m : Nat} {h : Nat → Bk} (iv : BInv S n g) (he : MErr S n (btot g n) c y a e) (h1 : BOk c y ∧ Mon a) (b1 : BIs (upS S c y (S c y + a)) m h) :
   (e = 6 ∧ ((∃ c' y', ¬ Mon (upS S c y (S c y + a) c' y')) ∨ ¬ Mon (btot h m))) ∨ (((∀ c' y', Mon (upS S c y (S c y + a) c' y')) ∧ Mon (btot h m)) ∧ ((e = 5 ∧ 12 < m) ∨ (e = 0 ∧ m ≤ 12))) := by
 obtain ⟨k1, k2⟩ := bis_count iv.is h1.1 b1
 have k3 : btot h m = btot g n + a := by omega
 rw [k3]
 cases he with
 | arg q => exact absurd h1 q
 | over _ q =>
   refine .inl ⟨rfl, ?_⟩
   by_cases z : Mon (S c y + a)
   · exact .inr fun z2 => q ⟨z, z2⟩
   · exact .inl ⟨c, y, by rw [upS_at]; exact z⟩
 | limit _ q r => exact .inr ⟨⟨mon_up iv.mon q.1, q.2⟩, .inl ⟨rfl, by omega⟩⟩
 | ok _ q r => exact .inr ⟨⟨mon_up iv.mon q.1, q.2⟩, .inr ⟨rfl, by omega⟩⟩
set_option maxHeartbeats 4000000 in
set_option maxRecDepth 100000 in
theorem pbmove (h : NowP w0 w O t sb S) (ht : t ≠ 0) {m : Nat} {g' : Nat → Bk} (b : BIs S m g') (c y a e : Int) (he : MErr S m (btot g' m) c y a e) :
   Calls Tryz.prog 9 #[ptr sb, .int .i64 c, .int .i64 y, .int .i64 a] w fun e' w' => e' = .returned (.int .i64 e) ∧ ∃ O', NowP w0 w' O' t sb (mvS e S c y a) ∧ Step w0.heap.size O t w O' w' := by
 obtain ⟨v, n, g, s, iv⟩ := h.st
 rw [← iv.is.total b, ← (iv.is.uniq b).1] at he
 have HH := Lib.hid h
 have HI := Lib.hid iv
 have HE := Lib.hid he
 have hn := iv.le
 by_cases h1 : BOk c y ∧ Mon a
 · have R1 := Lib.hid fun w => bright_yes c y w h1.1
   have R2 := Lib.hid fun w => mny_yes a w h1.2
   have hV := iv.mon c y
   have hA := h1.2
   have H1 := Lib.hid h1
   unfold Mon at hV hA
   have c0 := s.hd.c0
   have C1 := Lib.hid (bwith s.own iv.is (by omega) c y a h1.1 (by omega) (by omega) (by omega) (by omega))
   obtain ⟨A, cc, rfl, _, _, _⟩ := s.row.form
   clear s iv h b he h1 hV hA
   go_enter Tryz.func9, Tryz.ntmps9
   go_wp2_with (first | (go_at_call 33; (with_reducible refine (R1.out _).mono ?_); rintro e w' ⟨rfl, rfl⟩) | (go_at_call 34; (with_reducible refine (R2.out _).mono ?_); rintro e w' ⟨rfl, rfl⟩))
   refine (C1.out).mono ?_
   rintro e' w2 ⟨v2, m2, g2, rfl, ho, hb, hle, hbw⟩
   have C2 := Lib.hid (ptake HH.out ht hbw ho hb (by omega) e (merr_take HI.out HE.out H1.out hb))
   clear ho hb hbw C1
   go_wp2_with fail
   refine (C2.out).mono ?_
   rintro e' w3 ⟨rfl, O3, n3, s3⟩
   go_wp2
   go_ret
   exact ⟨rfl, O3, n3, s3⟩
 · have e1 : Hid (e = 1) := Lib.hid (by cases he <;> first | rfl | contradiction)
   have hres : Hid (∃ O', NowP w0 w O' t sb (mvS e S c y a) ∧ Step w0.heap.size O t w O' w) := Lib.hid ⟨O, by unfold mvS; rw [e1.out, if_neg (by decide)]; exact h, Step.refl h.fin⟩
   by_cases q : BOk c y
   · have R1 := Lib.hid fun w => bright_yes c y w q
     have R2 := Lib.hid fun w => mny_no a w fun z => h1 ⟨q, z⟩
     clear s iv h b he h1 q
     go_enter Tryz.func9, Tryz.ntmps9
     go_wp2_with (first | (go_at_call 33; (with_reducible refine (R1.out _).mono ?_); rintro e w' ⟨rfl, rfl⟩) | (go_at_call 34; (with_reducible refine (R2.out _).mono ?_); rintro e w' ⟨rfl, rfl⟩))
     go_ret
     exact ⟨congrArg (fun x => Ending.returned (.int .i64 x)) e1.out.symm, hres.out⟩
   · have R1 := Lib.hid fun w => bright_no c y w q
     clear s iv h b he h1 q
     go_enter Tryz.func9, Tryz.ntmps9
     go_wp2_with (first | (go_at_call 33; (with_reducible refine (R1.out _).mono ?_); rintro e w' ⟨rfl, rfl⟩))
     go_ret
     exact ⟨congrArg (fun x => Ending.returned (.int .i64 x)) e1.out.symm, hres.out⟩
end
end Go.Proofs.YtmlafdehhbhbiaaGreat
