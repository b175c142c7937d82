/- Package bucket's rows: slices.Clone, slices.Insert of one bucket, slices.Delete of one, walked: a contract for each. -/
import Derived.Test.YthconfcpajnjgaaRows
import Derived.Test.YthconfcpajnjgaaCopyR
import Derived.Test.YthconfcpajnjgaaRBucket
import Derived.Test.YthconfcpajnjgaaRate
import Derived.WalkKit
import Derived.WalkSpells
import Derived.WalkLawsBesides
import Derived.Lib.Hide
import Derived.IntWalk
import Derived.Lib.LazyBuf
import Derived.Laws.Externs
import Derived.Laws.NewBlocks
import Derived.Deep.LoopGhost
import Derived.Deep.RegionLaw
namespace Go.Proofs.Ythconfcpajnjgaa
open Go.RowKit

theorem bk_zero (w : World) : (zeroValue 38).run Try.prog w = .ok (.agg #[.int .i64 0, .int .i64 0, .int .i64 0]) w := rfl
theorem bk_zeros : (Builtin.zeroCells (Value.agg #[.int .i64 0, .int .i64 0, .int .i64 0]).cells (0 + 1)).toList = [.int .i64 0, .int .i64 0, .int .i64 0] := by simp [Builtin.zeroCells, Value.cells, List.range_succ]
theorem bclone (v : Value) (n b0 : Nat) (g : Nat → Bk) (w : World) (h : OwnR be 3 w 38 b0 v n g) (hn : n ≤ 1000000) :
    Calls Try.prog 31 #[v] w fun e w' => ∃ v', e = .returned v' ∧ OwnR be 3 w' 38 w.heap.size v' n g ∧ Below w.heap.size w w' := by
  obtain ⟨i0, hi, hz0, hz1, hz2⟩ := info_parts bk_info
  have HS := Lib.hid h
  rcases h.2 with ⟨rfl, rfl⟩ | ⟨gb, cap, cur, rfl, _⟩
  · clear h
    have hop := fun w => run_eql_slice_nil (P := Try.prog) w 29 38 none 0 0 bk_type
    go_enter Try.func31, Try.ntmps31
    go_wp2_with (simp only [hop])
    go_ret
    exact ⟨_, rfl, OwnR.nil _ _ _ _ _ _, Below.refl _ _⟩
  · clear h
    have hop := fun w => run_eql_slice_nil (P := Try.prog) w 29 38 (some ⟨gb, 0, none⟩) n cap bk_type
    go_enter Try.func31, Try.ntmps31
    go_wp2_with (first | (simp only [hop]) | at_builtin; (refine wpList_app_row rfl (.tmp 5) (.tmp 6) rfl bk_type hi hz0 hz1 hz2 rfl (by decide) w w.heap.size b0 0 n cap _ _ [] _ rfl rfl (World.ownsRow_lit w #[] 0 (Nat.le_refl _) (by decide) rfl) (HS.out.alloc _) (rl_one be_one) (by unfold maxLen; omega) (by omega) ((Below.refl _ _).alloc (Nat.le_refl _) _) (by simp) ?_; intro v1 w1 ho1 hb1 hg1; rw [Nat.zero_add, List.nil_append] at ho1))
    go_ret
    exact ⟨_, rfl, ho1, hb1⟩
section
variable {w : World} {base n c X : Nat} {A : Option Addr} {g : Nat → Bk} {x : Bk}
/-- a bucket put in behind all -/
theorem binsert_end (o : OwnR be 3 w 38 base (.slice A n c) n g) (hX : w.heap[X]? = some (.cells (be x).toArray 38 (0, 0))) (hn : n ≤ 1000) (hb : base ≤ w.heap.size) :
    Calls Try.prog 36 #[.slice A n c, .int .i64 n, .slice (some ⟨X, 0, none⟩) 1 1] w fun e w' => ∃ b c', e = .returned (.slice (some ⟨b, 0, none⟩) (n + 1) c') ∧ OwnR be 3 w' 38 base (.slice (some ⟨b, 0, none⟩) (n + 1) c') (n + 1) (insB g n x) ∧ Below base w w' := by
  obtain ⟨i0, hi, hz0, hz1, hz2⟩ := info_parts bk_info
  obtain ⟨A', c', e', hc1, hc2, _⟩ := o.form
  injection e' with e1 _ e3
  subst e1 e3
  have HO := Lib.hid o
  have hc : ∀ j u, (be x)[j]? = some u → w.cell? ⟨X, j, none⟩ = some u := fun j u hu => by rw [cell_of_row _ X j _ _ (0, 0) hX]; simpa using hu
  have HC := Lib.hid hc
  clear o hX hc
  go_enter Try.func36, Try.ntmps36
  go_wp2_with (at_builtin; (refine wpList_push_r rfl (.tmp 23) (.tmp 24) rfl bk_type hi hz0 hz1 hz2 (by decide) rfl (by decide) be_len be_one w base n X _ g x rfl rfl HC.out HO.out (by omega) (Below.refl _ _) hb _ rfl ?_; intro b2 c3 w6 ho2 hb2 hg2 hat2; have HO2 := Lib.hid ho2; have HW2 := Lib.hid hb2; clear ho2 hb2 hg2 hat2))
  all_goals
    go_ret
    exact ⟨_, _, rfl, HO2.out.ext fun j hj => (by unfold insB; by_cases q : j < n
                                                  · rw [if_pos q, if_neg (by omega)]
                                                  · rw [if_neg q, if_pos (by omega), if_pos (by omega)]), HW2.out⟩
theorem ov_apart (w : World) (b off lb cb : Nat) {cx cb' : List Value} (hX : w.heap[X]? = some (.cells cx.toArray 38 (0, 0))) (hB : w.heap[b]? = some (.cells cb'.toArray 38 (0, 0))) (hne : X ≠ b) (h0 : cb'.length ≠ 0) :
    (callFunc 42 #[.slice (some ⟨X, 0, none⟩) 1 1, .slice (some ⟨b, off, none⟩) lb cb]).run Try.prog w = .ok (.value (.bool false)) w := by
  rw [run_callFunc_extern Try.func42 (by kernel_rfl) (by kernel_rfl) (by kernel_rfl) (e := Extern.SlicesOverlaps.overlaps #[29, 29] #[4]) (by kernel_rfl),
    Lib.run_overlaps_apart w 29 4 38 bk_type 3 (fun w => rfl) ⟨X, 0, none⟩ ⟨b, off, none⟩ 1 1 lb cb hne 38 38 cx.length cb'.length (by simp [World.shape?, hX]) (by simp [World.shape?, hB]) h0 (by simp [World.frozen?, hX]) (by simp [World.frozen?, hX])]
  rfl
/-- a bucket put in ahead of others, where there is room -/
theorem binsert_in {b i : Nat} (o : OwnR be 3 w 38 base (.slice (some ⟨b, 0, none⟩) n c) n g) (hX : w.heap[X]? = some (.cells (be x).toArray 38 (0, 0))) (hne : X ≠ b) (hn : n ≤ 1000) (hin : i < n) (hroom : n + 1 ≤ c) :
    Calls Try.prog 36 #[.slice (some ⟨b, 0, none⟩) n c, .int .i64 i, .slice (some ⟨X, 0, none⟩) 1 1] w fun e w' => ∃ b c', e = .returned (.slice (some ⟨b, 0, none⟩) (n + 1) c') ∧ OwnR be 3 w' 38 base (.slice (some ⟨b, 0, none⟩) (n + 1) c') (n + 1) (insB g i x) ∧ Below base w w' := by
  obtain ⟨i0, hi, hz0, hz1, hz2⟩ := info_parts bk_info
  obtain ⟨T, hg, hbb, hnc, hcm, hl⟩ := o.whole
  have hcx : ∀ j u, (be x)[j]? = some u → w.cell? ⟨X, j, none⟩ = some u := fun j u hu => by rw [cell_of_row _ X j _ _ (0, 0) hX]; simpa using hu
  have HC := Lib.hid hcx
  have hov := fun lb cb => ov_apart w b ((i + 1) * 3) lb cb hX hg hne (by omega)
  have HG := Lib.hid hg
  have hz1' : ¬ ((i : Int) = (n : Int)) := by omega
  have hw1 : IntKind.i64.wrap ((n : Int) + 1) = (n : Int) + 1 := IntWalk.i64_in _ (by omega)
  have hw2 : IntKind.i64.wrap ((i : Int) + 1) = (i : Int) + 1 := IntWalk.i64_in _ (by omega)
  have hlr := rl_length be_len g n
  have hsp := rl_split be g (show i ≤ n by omega)
  obtain ⟨CS, hCS⟩ : ∃ CS, CS = rl be (fun j => g (i + j)) (n - i) := ⟨_, rfl⟩
  have hcl : CS.length = (n - i) * 3 := by rw [hCS]; exact rl_length be_len _ _
  rw [← hCS] at hsp
  have hT : T.length = (c - n) * 3 := by rw [List.length_append, hlr] at hl; omega
  have hal : (rl be g i).length = i * 3 := rl_length be_len g i
  obtain ⟨L, hL⟩ : ∃ L, L = rl be g n ++ T := ⟨_, rfl⟩
  have hLl : L.length = c * 3 := by rw [hL]; exact hl
  rw [← hL] at hg
  have hcs : ∀ j v, CS[j]? = some v → w.cell? ((⟨b, i * 3, none⟩ : Addr).add j) = some v := fun j v hj => by
    rw [Addr.add_lit, cell_of_row _ b _ _ _ (0, 0) hg]
    have hjl := (List.getElem?_eq_some_iff.1 hj).1
    rw [List.getElem?_toArray, hL, hsp, List.append_assoc, List.getElem?_append_right (by omega), hal, Nat.add_sub_cancel_left, List.getElem?_append_left hjl]
    exact hj
  have h1c : ∀ v ∈ CS, v.oneCell' = true := by rw [hCS]; exact rl_one be_one
  have hfin : splice (splice L ((i + 1) * 3) CS) (i * 3) (be x) = rl be (insB g i x) (n + 1) ++ T.drop 3 := by
    have e := splice_ins (rl be g i) CS T (be x) (by rw [hT, be_len]; omega)
    rw [hal, be_len] at e
    rw [hL, hsp, List.append_assoc, show (i + 1) * 3 = i * 3 + 3 by omega, e]
    unfold insB
    rw [rl_ins be g x (show i ≤ n by omega), ← hCS, List.append_assoc, List.append_assoc]
  have HFIN := Lib.hid hfin
  have HCS := Lib.hid hcs
  have H1C := Lib.hid h1c
  have HHG := Lib.hid hg
  have hm1 : CS.length = Nat.min (n + 1 - i) (n - i) * 3 := by rw [hcl]; show _ = min (n + 1 - i) (n - i) * 3; omega
  have HM1 := Lib.hid hm1
  have HLL := Lib.hid hLl
  have hft : (i + 1) * 3 + CS.length ≤ L.length := by rw [hcl, hLl]; omega
  have HFT := Lib.hid hft
  have hi1 : (0 : Int) ≤ (i : Int) + 1 := by omega
  have hi2 : i ≤ n := by omega
  have hi3 : ¬ (c = i + 1) := by omega
  have hi4 : ¬ (c = i) := by omega
  have hi5 : (0 : Int) ≤ (i : Int) := by omega
  have hi6 : (i : Int) ≤ (n : Int) + 1 := by omega
  unfold maxLen at hcm
  clear o hX hcx hg hsp hal hT hL hLl hlr hcs h1c hfin hCS hcl hm1 hft hl HG
  go_enter Try.func36, Try.ntmps36
  go_wp2_with (simp only [hov])
  go_region_law (refine step_copy_k rfl (.tmp 73) (.tmp 76) 29 29 rfl bk_type hi hz1 b ((i + 1) * 3) (n - i) (c - (i + 1)) ⟨b, i * 3, none⟩ (n + 1 - i) (c - i) (by simp [Act.eval, Act.put]) (by simp [Act.eval, Act.put]) L _ HHG.out CS HM1.out HCS.out HFT.out H1C.out base w ⟨rfl, rfl, rfl, Nat.le_refl _, fun _ _ => rfl⟩ hbb ?_; intro w4 hg4 ho4 hb4)
  have HX4 : Hid (∀ j v, (be x)[j]? = some v → w4.cell? ((⟨X, 0, none⟩ : Addr).add j) = some v) := Lib.hid fun j v hj => by
    rw [Addr.add_lit, Nat.zero_add]
    exact (World.cell?_of_block (a := ⟨X, j, none⟩) (ho4.out X hne)).trans (HC.out j v hj)
  have HL4 : Hid (i * 3 + (be x).length ≤ (splice L ((i + 1) * 3) CS).length) := Lib.hid (by
    rw [length_splice _ _ _ HFT.out, be_len, HLL.out]; omega)
  have hm4 : (be x).length = Nat.min 1 (n + 1 - i) * 3 := by rw [be_len]; show 3 = min 1 (n + 1 - i) * 3; omega
  have HM4 := Lib.hid hm4
  have HB4 := Lib.hid hb4
  clear hm4 hb4 ho4
  go_wp2_with ((with_reducible show wpList _ _ _ _ _ _); (refine wpList_copy_k rfl (.tmp 80) (.tmp 81) 29 29 rfl bk_type hi hz1 b (i * 3) (n + 1 - i) (c - i) ⟨X, 0, none⟩ 1 1 rfl rfl _ _ hg4.out (be x) HM4.out HX4.out HL4.out (be_one x) base w HB4.out hbb ?_; intro w5 hg5 ho5 hb5))
  go_ret
  have h5 := hg5.out
  rw [HFIN.out] at h5
  refine ⟨b, c, rfl, OwnR.of_block be_len h5 hbb hroom (by unfold maxLen; omega) ?_, hb5⟩
  rw [← HFIN.out, length_splice _ _ _ HL4.out, length_splice _ _ _ HFT.out, HLL.out]
/-- a bucket put in ahead of others, where there is no room -/
theorem binsert_grow {b i : Nat} (o : OwnR be 3 w 38 base (.slice (some ⟨b, 0, none⟩) n c) n g) (hX : w.heap[X]? = some (.cells (be x).toArray 38 (0, 0))) (hn : n ≤ 1000) (hb0 : base ≤ w.heap.size) (hin : i < n) (hroom : c < n + 1) :
    Calls Try.prog 36 #[.slice (some ⟨b, 0, none⟩) n c, .int .i64 i, .slice (some ⟨X, 0, none⟩) 1 1] w fun e w' => ∃ b c', e = .returned (.slice (some ⟨b, 0, none⟩) (n + 1) c') ∧ OwnR be 3 w' 38 base (.slice (some ⟨b, 0, none⟩) (n + 1) c') (n + 1) (insB g i x) ∧ Below base w w' := by
  obtain ⟨i0, hi, hz0, hz1, hz2⟩ := info_parts bk_info
  obtain ⟨T, hg, hbb, hnc, hcm, hl⟩ := o.whole
  have hbw : b < w.heap.size := (Array.getElem?_eq_some_iff.1 hg).1
  have hXw : X < w.heap.size := (Array.getElem?_eq_some_iff.1 hX).1
  have hcx : ∀ j u, (be x)[j]? = some u → w.cell? ⟨X, j, none⟩ = some u := fun j u hu => by rw [cell_of_row _ X j _ _ (0, 0) hX]; simpa using hu
  have HC := Lib.hid hcx
  obtain rfl : n = c := by omega
  have hz1' : ¬ ((i : Int) = (n : Int)) := by omega
  have hz3 : (n : Int) < (n : Int) + 1 := by omega
  have hw1 : IntKind.i64.wrap ((n : Int) + 1) = (n : Int) + 1 := IntWalk.i64_in _ (by omega)
  have hw2 : IntKind.i64.wrap ((i : Int) + 1) = (i : Int) + 1 := IntWalk.i64_in _ (by omega)
  have hw3 : IntKind.i64.wrap ((n : Int) + 1 - (i : Int)) = (n : Int) + 1 - (i : Int) := IntWalk.i64_in _ (by omega)
  have hlr := rl_length be_len g n
  have hsp := rl_split be g (show i ≤ n by omega)
  obtain ⟨CS, hCS⟩ : ∃ CS, CS = rl be (fun j => g (i + j)) (n - i) := ⟨_, rfl⟩
  have hcl : CS.length = (n - i) * 3 := by rw [hCS]; exact rl_length be_len _ _
  rw [← hCS] at hsp
  obtain rfl : T = [] := List.eq_nil_of_length_eq_zero (by rw [List.length_append, hlr] at hl; omega)
  rw [List.append_nil] at hg hl
  have hal : (rl be g i).length = i * 3 := rl_length be_len g i
  have hcell : ∀ j v, (rl be g n)[j]? = some v → w.cell? ⟨b, j, none⟩ = some v := fun j v hj => by
    rw [cell_of_row _ b _ _ _ (0, 0) hg, List.getElem?_toArray]; exact hj
  have hcs : ∀ j v, CS[j]? = some v → w.cell? ((⟨b, i * 3, none⟩ : Addr).add j) = some v := fun j v hj => by
    rw [Addr.add_lit]
    refine hcell _ _ ?_
    have hjl := (List.getElem?_eq_some_iff.1 hj).1
    rw [hsp, List.getElem?_append_right (by omega), hal, Nat.add_sub_cancel_left]
    exact hj
  have h1c : ∀ v ∈ CS, v.oneCell' = true := by rw [hCS]; exact rl_one be_one
  have hold : (Builtin.firstCells i0.size i (.slice (some ⟨b, 0, none⟩) i n)).run Try.prog w.drew = .ok (rl be g i).toArray w.drew := by
    rw [hz1]
    exact run_firstCells_some w.drew 3 i ⟨b, 0, none⟩ i n (rl be g i) hal (fun j v hj => by
      rw [Addr.add_lit, Nat.zero_add]
      refine hcell _ _ ?_
      rw [hsp, List.getElem?_append_left (List.getElem?_eq_some_iff.1 hj).1]; exact hj)
  have hkk : (n : Int) + 1 - (i : Int) = ((n + 1 - i : Nat) : Int) := by omega
  have hik : i + (n + 1 - i) = n + 1 := by omega
  obtain ⟨G, hG⟩ : ∃ G, G = grownCap w (n + 1) n 38 := ⟨_, rfl⟩
  obtain ⟨Z, hZ⟩ : ∃ Z, Z = (Builtin.zeroCells (Value.agg #[.int .i64 0, .int .i64 0, .int .i64 0]).cells (n + 1 - i)).toList ++ (Builtin.zeroCells (Value.agg #[.int .i64 0, .int .i64 0, .int .i64 0]).cells (G - (n + 1))).toList := ⟨_, rfl⟩
  have hGn : n + 1 ≤ G := by rw [hG]; exact grownCap_ge w _ _ _
  have hGm : G ≤ maxLen := by rw [hG]; exact grownCap_le_maxLen w (n + 1) n _ (by unfold maxLen; omega)
  have hZl : Z.length = (G - i) * 3 := by
    rw [hZ, List.length_append, Array.length_toList, Array.length_toList, size_zeroCells, size_zeroCells]
    simp [Value.cells]
    omega
  have hrz : ∀ ty, (Builtin.append_ #[29, 3] ty #[.slice (some ⟨b, 0, none⟩) i n, .int .i64 ((n : Int) + 1 - (i : Int))]).run Try.prog w =
      .ok (.slice (some ⟨w.heap.size, 0, none⟩) (n + 1) G) (w.drew.alloc (.cells (rl be g i ++ Z).toArray 38)) := fun ty => by
    have h := Lib.run_append_grow_zeros w 29 3 ty 38 i0 _ .i64 .i64 bk_type Try.underlying3 hi hz0 (some ⟨b, 0, none⟩) i n (rl be g i) hold (n + 1 - i) (by omega) (by omega) (by omega) (by omega) (by rw [hz2]; omega) (by rw [hz2, hik]; exact growslice_fits (by omega) (by omega))
    rw [hik, ← hG] at h
    rw [hkk, h, hZ]
    congr 3
    simp
  obtain ⟨W1, hW1⟩ : ∃ W1, W1 = w.drew.alloc (.cells (rl be g i ++ Z).toArray 38) := ⟨_, rfl⟩
  rw [← hW1] at hrz
  have K1 : Below w.heap.size w W1 := by rw [hW1]; exact (below_drew w).alloc (Nat.le_refl _) _
  have hg1 : W1.heap[w.heap.size]? = some (.cells (rl be g i ++ Z).toArray 38 (0, 0)) := by rw [hW1]; exact heap_alloc_new w.drew _
  have hb1 : Hid (Below base w W1) := Lib.hid (K1.mono hb0)
  have HX1 : Hid (∀ j v, (be x)[j]? = some v → W1.cell? ((⟨X, 0, none⟩ : Addr).add j) = some v) := Lib.hid fun j v hj => by
    rw [Addr.add_lit, Nat.zero_add]
    exact (World.cell?_of_block (a := ⟨X, j, none⟩) (K1.block X hXw)).trans (hcx j v hj)
  have HCS1 : Hid (∀ j v, CS[j]? = some v → W1.cell? ((⟨b, i * 3, none⟩ : Addr).add j) = some v) := Lib.hid fun j v hj => by
    have := hcs j v hj
    rw [Addr.add_lit] at this ⊢
    exact (World.cell?_of_block (a := ⟨b, i * 3 + j, none⟩) (K1.block b hbw)).trans this
  obtain ⟨L, hL⟩ : ∃ L, L = rl be g i ++ Z := ⟨_, rfl⟩
  rw [← hL] at hg1
  have hLl : L.length = G * 3 := by rw [hL, List.length_append, hal, hZl]; omega
  have hfin : splice (splice L (i * 3) (be x)) ((i + 1) * 3) CS = rl be (insB g i x) (n + 1) ++ Z.drop ((be x).length + CS.length) := by
    have e := splice_put (rl be g i) CS (be x) Z
    rw [hal, be_len, show i * 3 + 3 = (i + 1) * 3 by omega] at e
    rw [hL, e]
    unfold insB
    rw [rl_ins be g x (show i ≤ n by omega), ← hCS, List.append_assoc, List.append_assoc, be_len]
  have HFIN := Lib.hid hfin
  have H1C := Lib.hid h1c
  have HG1 := Lib.hid hg1
  have HLL := Lib.hid hLl
  have hm1 : (be x).length = Nat.min 1 (n + 1 - i) * 3 := by rw [be_len]; show 3 = min 1 (n + 1 - i) * 3; omega
  have hm2 : CS.length = Nat.min (n - i) (n - i) * 3 := by rw [hcl]; show _ = min (n - i) (n - i) * 3; omega
  have hf1 : i * 3 + (be x).length ≤ L.length := by rw [be_len, hLl]; omega
  have hf2 : (i + 1) * 3 + CS.length ≤ (splice L (i * 3) (be x)).length := by rw [length_splice _ _ _ hf1, hcl, hLl]; omega
  have hsz : W1.heap.size = w.heap.size + 1 := by rw [hW1]; simp
  have HM1 := Lib.hid hm1
  have HM2 := Lib.hid hm2
  have HF1 := Lib.hid hf1
  have HF2 := Lib.hid hf2
  have hne : b ≠ w.heap.size := by omega
  have hi1 : (0 : Int) ≤ (i : Int) + 1 := by omega
  have hi2 : i ≤ n := by omega
  have hi3 : ¬ (G = i + 1) := by omega
  have hi4 : ¬ (G = i) := by omega
  have hi5 : (0 : Int) ≤ (i : Int) := by omega
  have hi6 : (i : Int) ≤ (n : Int) + 1 := by omega
  have hi7 : ¬ (n = i) := by omega
  have hi8 : (i : Int) ≤ (n : Int) := by omega
  unfold maxLen at hGm
  clear o hX hcx hg hsp hal hL hLl hlr hcs h1c hfin hCS hcl hm1 hm2 hf1 hf2 hl hcell hold hkk hik hG hZ hZl hW1 K1 hg1 hsz hroom hcm
  go_enter Try.func36, Try.ntmps36
  go_wp2_with (first
    | (at_builtin; (refine Lib.wpList_append_run _ rfl (.tmp 34) (.tmp 39) 29 3 rfl _ _ rfl rfl _ _ (hrz _) ?_))
    | ((with_reducible show wpList _ _ _ _ _ _); (refine wpList_copy_k rfl (.tmp 43) (.tmp 44) 29 29 rfl bk_type hi hz1 w.heap.size (i * 3) (n + 1 - i) (G - i) ⟨X, 0, none⟩ 1 1 rfl rfl _ _ HG1.out (be x) HM1.out HX1.out HF1.out (be_one x) base w hb1.out hb0 ?_; intro w4 hg4 ho4 hb4)))
  have HCS4 : Hid (∀ j v, CS[j]? = some v → w4.cell? ((⟨b, i * 3, none⟩ : Addr).add j) = some v) := Lib.hid fun j v hj => by
    have := HCS1.out j v hj
    rw [Addr.add_lit] at this ⊢
    exact (World.cell?_of_block (a := ⟨b, i * 3 + j, none⟩) (ho4.out b hne)).trans this
  have HB4 : Hid (Below base w w4.drew) := Lib.hid hb4.drew
  clear hb4 ho4
  go_wp2
  go_region_law (refine step_copy_k rfl (.tmp 50) (.tmp 53) 29 29 rfl bk_type hi hz1 w.heap.size ((i + 1) * 3) (n - i) (G - (i + 1)) ⟨b, i * 3, none⟩ (n - i) (n - i) (by simp [Act.eval, Act.put]) (by simp [Act.eval, Act.put]) _ _ hg4.out CS HM2.out HCS4.out HF2.out H1C.out base w HB4.out hb0 ?_; intro w5 hg5 ho5 hb5)
  go_wp2
  go_ret
  have h5 := hg5.out
  rw [HFIN.out] at h5
  refine ⟨w.heap.size, G, rfl, OwnR.of_block be_len h5 hb0 hGn (by unfold maxLen; omega) ?_, hb5⟩
  rw [← HFIN.out, length_splice _ _ _ HF2.out, length_splice _ _ _ HF1.out, HLL.out]
/-- an own row, of which one bucket is left out by moving those behind it -/
theorem own_cut {b i : Nat} (o : OwnR be 3 w 38 base (.slice (some ⟨b, 0, none⟩) n c) n g) (hin : i < n) :
    ∃ L CS : List Value, w.heap[b]? = some (.cells L.toArray 38 (0, 0)) ∧ CS.length = (n - (i + 1)) * 3 ∧ (∀ j v, CS[j]? = some v → w.cell? ((⟨b, (i + 1) * 3, none⟩ : Addr).add j) = some v) ∧ (∀ v ∈ CS, v.oneCell' = true) ∧ i * 3 + CS.length ≤ L.length ∧
      ∀ w' : World, w'.heap[b]? = some (.cells (splice L (i * 3) CS).toArray 38 (0, 0)) → OwnR be 3 w' 38 base (.slice (some ⟨b, 0, none⟩) (n - 1) c) (n - 1) (delB g i) := by
  obtain ⟨T, hg, hbb, hnc, hcm, hl⟩ := o.whole
  have hlr := rl_length be_len g n
  have hsp := rl_split be g (show i + 1 ≤ n by omega)
  have hsp2 := rl_succ be g i
  obtain ⟨CS, hCS⟩ : ∃ CS, CS = rl be (fun j => g (i + 1 + j)) (n - (i + 1)) := ⟨_, rfl⟩
  have hcl : CS.length = (n - (i + 1)) * 3 := by rw [hCS]; exact rl_length be_len _ _
  rw [← hCS, hsp2] at hsp
  have hal : (rl be g i).length = i * 3 := rl_length be_len g i
  obtain ⟨L, hL⟩ : ∃ L, L = rl be g n ++ T := ⟨_, rfl⟩
  have hLl : L.length = c * 3 := by rw [hL]; exact hl
  rw [← hL] at hg
  have hfit : i * 3 + CS.length ≤ L.length := by rw [hcl, hLl]; omega
  refine ⟨L, CS, hg, hcl, fun j v hj => ?_, by rw [hCS]; exact rl_one be_one, hfit, fun w' hg' => ?_⟩
  · rw [Addr.add_lit, cell_of_row _ b _ _ _ (0, 0) hg]
    have hjl := (List.getElem?_eq_some_iff.1 hj).1
    have ha2 : (rl be g i ++ be (g i)).length = (i + 1) * 3 := by rw [List.length_append, hal, be_len]; omega
    rw [List.getElem?_toArray, hL, hsp, List.append_assoc, List.getElem?_append_right (by omega), ha2, Nat.add_sub_cancel_left, List.getElem?_append_left hjl]
    exact hj
  · have e : splice L (i * 3) CS = rl be (delB g i) (n - 1) ++ L.drop (i * 3 + CS.length) := by
      unfold delB
      rw [rl_del be g hin, show n - 1 - i = n - (i + 1) by omega, ← hCS]
      unfold splice
      rw [hL, hsp, List.append_assoc, List.append_assoc, ← hal, List.take_left, List.append_assoc]
    have hl2 := length_splice _ _ _ hfit
    rw [e] at hg' hl2
    exact OwnR.of_block be_len hg' hbb (by omega) hcm (hl2.trans hLl)
/-- one bucket struck out -/
theorem bdelete {b i : Nat} (o : OwnR be 3 w 38 base (.slice (some ⟨b, 0, none⟩) n c) n g) (hn : n ≤ 1000) (hin : i < n) :
    Calls Try.prog 37 #[.slice (some ⟨b, 0, none⟩) n c, .int .i64 i, .int .i64 ((i : Int) + 1)] w fun e w' => e = .returned (.slice (some ⟨b, 0, none⟩) (n - 1) c) ∧ OwnR be 3 w' 38 base (.slice (some ⟨b, 0, none⟩) (n - 1) c) (n - 1) (delB g i) ∧ Below base w w' := by
  obtain ⟨i0, hi, hz0, hz1, hz2⟩ := info_parts bk_info
  obtain ⟨T, hg, hbb, hnc, hcm, hl⟩ := o.whole
  have hlr := rl_length be_len g n
  have hsp := rl_split be g (show i + 1 ≤ n by omega)
  have hsp2 := rl_succ be g i
  obtain ⟨CS, hCS⟩ : ∃ CS, CS = rl be (fun j => g (i + 1 + j)) (n - (i + 1)) := ⟨_, rfl⟩
  have hcl : CS.length = (n - (i + 1)) * 3 := by rw [hCS]; exact rl_length be_len _ _
  rw [← hCS, hsp2] at hsp
  have hal : (rl be g i).length = i * 3 := rl_length be_len g i
  obtain ⟨L, hL⟩ : ∃ L, L = rl be g n ++ T := ⟨_, rfl⟩
  have hLl : L.length = c * 3 := by rw [hL]; exact hl
  rw [← hL] at hg
  have hcs : ∀ j v, CS[j]? = some v → w.cell? ((⟨b, (i + 1) * 3, none⟩ : Addr).add j) = some v := fun j v hj => by
    rw [Addr.add_lit, cell_of_row _ b _ _ _ (0, 0) hg]
    have hjl := (List.getElem?_eq_some_iff.1 hj).1
    have ha2 : (rl be g i ++ be (g i)).length = (i + 1) * 3 := by rw [List.length_append, hal, be_len]; omega
    rw [List.getElem?_toArray, hL, hsp, List.append_assoc, List.getElem?_append_right (by omega), ha2, Nat.add_sub_cancel_left, List.getElem?_append_left hjl]
    exact hj
  have h1c : ∀ v ∈ CS, v.oneCell' = true := by rw [hCS]; exact rl_one be_one
  have hi5 : (0 : Int) ≤ (i : Int) := by omega
  have hi6 : (i : Int) ≤ (n : Int) := by omega
  have hi7 : (i : Int) + 1 ≤ (n : Int) := by omega
  have hi8 : (0 : Int) ≤ (i : Int) + 1 := by omega
  have hz1' : ¬ ((i : Int) = (i : Int) + 1) := by omega
  have hi1 : ((n - 1 : Nat) : Int) ≤ (n : Int) := by omega
  have hi2 : n - (n - 1) = 1 := by omega
  have hi3 : ¬ (c = n - 1) := by omega
  have hi4 : i ≤ c := by omega
  have hi9 : n - 1 ≤ n := by omega
  have hfit : i * 3 + CS.length ≤ L.length := by rw [hcl, hLl]; omega
  have hfit2 : (n - 1) * 3 + [Value.int .i64 0, .int .i64 0, .int .i64 0].length ≤ (splice L (i * 3) CS).length := by rw [length_splice _ _ _ hfit, hLl]; show (n - 1) * 3 + 3 ≤ c * 3; omega
  have hlast : ∃ T', splice (splice L (i * 3) CS) ((n - 1) * 3) [Value.int .i64 0, .int .i64 0, .int .i64 0] = rl be (delB g i) (n - 1) ++ T' ∧ (rl be (delB g i) (n - 1) ++ T').length = c * 3 := by
    have e : splice L (i * 3) CS = rl be (delB g i) (n - 1) ++ L.drop (i * 3 + CS.length) := by
      unfold delB
      rw [rl_del be g hin, show n - 1 - i = n - (i + 1) by omega, ← hCS]
      unfold splice
      rw [hL, hsp, List.append_assoc, List.append_assoc, ← hal, List.take_left, List.append_assoc]
    have hl1 : (rl be (delB g i) (n - 1)).length = (n - 1) * 3 := rl_length be_len _ _
    have hl2 := length_splice _ _ _ hfit2
    rw [length_splice _ _ _ hfit, hLl] at hl2
    have e2 : ∀ Z : List Value, splice (rl be (delB g i) (n - 1) ++ Z) ((n - 1) * 3) [Value.int .i64 0, .int .i64 0, .int .i64 0] = rl be (delB g i) (n - 1) ++ ([Value.int .i64 0, .int .i64 0, .int .i64 0] ++ (rl be (delB g i) (n - 1) ++ Z).drop ((n - 1) * 3 + 3)) := fun Z => by
      unfold splice
      rw [List.take_left' hl1]; rfl
    refine ⟨[Value.int .i64 0, .int .i64 0, .int .i64 0] ++ (rl be (delB g i) (n - 1) ++ L.drop (i * 3 + CS.length)).drop ((n - 1) * 3 + 3), by rw [e, e2], ?_⟩
    rw [← e2, ← e]; exact hl2
  obtain ⟨T', hT1, hT2⟩ := hlast
  obtain ⟨off, hd⟩ : ∃ off, (c = i + 1 ∧ off = 0) ∨ (¬ c = i + 1 ∧ off = (i + 1) * 3) := by
    by_cases q : c = i + 1
    · exact ⟨0, .inl ⟨q, rfl⟩⟩
    · exact ⟨_, .inr ⟨q, rfl⟩⟩
  have hcs' : ∀ j v, CS[j]? = some v → w.cell? ((⟨b, off, none⟩ : Addr).add j) = some v := by
    rcases hd with ⟨q, _⟩ | ⟨_, rfl⟩
    · intro j v hj
      obtain rfl : CS = [] := List.eq_nil_of_length_eq_zero (by omega)
      cases hj
    · exact hcs
  have HG := Lib.hid hg
  have HCL := Lib.hid hcl
  have HCS := Lib.hid hcs'
  have H1C := Lib.hid h1c
  have HF1 := Lib.hid hfit
  have HF2 := Lib.hid hfit2
  have HT1 := Lib.hid hT1
  have HT2 := Lib.hid hT2
  have hroom : i + (n - (i + 1)) ≤ c := by omega
  have HR := Lib.hid hroom
  have HMM := Lib.hid hcm
  have z1 : ∀ u ∈ [Value.int .i64 0, .int .i64 0, .int .i64 0], u.oneCell' = true := be_one ⟨0, 0, 0⟩
  have HZ1 := Lib.hid z1
  have HEQ : Hid (i + (n - (i + 1)) = n - 1) := Lib.hid (by omega)
  clear o hg hl hlr hsp hsp2 hCS hcl hal hL hLl hcs hcs' h1c hfit hfit2 hT1 hT2 hroom hcm z1
  have hi10 : (i : Int) ≤ (i : Int) + 1 := by omega
  rcases hd with ⟨hc, rfl⟩ | ⟨hc, rfl⟩
  · subst hc
    have HCL0 : Hid (CS.length = 0 * 3) := Lib.hid (by have := HCL.out; omega)
    have HR0 : Hid (i + 0 ≤ i + 1) := Lib.hid (by omega)
    have HEQ0 : Hid (i + 0 = n - 1) := Lib.hid (by omega)
    go_enter Try.func37, Try.ntmps37
    go_wp2
    go_region_law (refine step_append_k rfl (.tmp 22) (.tmp 25) 29 rfl bk_type hi hz1 b i (i + 1) _ 0 0 (by simp [Act.eval, Act.put]) (by simp [Act.eval, Act.put]) L HG.out CS HCL0.out HR0.out HCS.out HF1.out H1C.out base w ⟨rfl, rfl, rfl, Nat.le_refl _, fun _ _ => rfl⟩ hbb ?_; intro w4 hg4 ho4 hb4; rw [HEQ0.out])
    go_wp2_with ((with_reducible show wpList _ _ _ _ _ _); (refine wpList_clear_k rfl (.tmp 31) 29 rfl bk_type (fun w => bk_zero w) [.int .i64 0, .int .i64 0, .int .i64 0] b ((n - 1) * 3) 0 _ bk_zeros rfl _ _ hg4.out HF2.out HZ1.out base w hb4 hbb ?_; intro w5 hg5 hb5))
    go_ret
    have h5 := hg5.out
    rw [HT1.out] at h5
    exact ⟨rfl, OwnR.of_block be_len h5 hbb (by omega) HMM.out HT2.out, hb5⟩
  · have hc' := Lib.hid hc
    go_enter Try.func37, Try.ntmps37
    go_wp2
    go_region_law (refine step_append_k rfl (.tmp 22) (.tmp 25) 29 rfl bk_type hi hz1 b i (c) _ (n - (i + 1)) (c - (i + 1)) (by simp [Act.eval, Act.put]) (by simp [Act.eval, Act.put]) L HG.out CS HCL.out HR.out HCS.out HF1.out H1C.out base w ⟨rfl, rfl, rfl, Nat.le_refl _, fun _ _ => rfl⟩ hbb ?_; intro w4 hg4 ho4 hb4; rw [HEQ.out])
    go_wp2_with ((with_reducible show wpList _ _ _ _ _ _); (refine wpList_clear_k rfl (.tmp 31) 29 rfl bk_type (fun w => bk_zero w) [.int .i64 0, .int .i64 0, .int .i64 0] b ((n - 1) * 3) 0 _ bk_zeros rfl _ _ hg4.out HF2.out HZ1.out base w hb4 hbb ?_; intro w5 hg5 hb5))
    go_ret
    have h5 := hg5.out
    rw [HT1.out] at h5
    exact ⟨rfl, OwnR.of_block be_len h5 hbb (by omega) HMM.out HT2.out, hb5⟩
end
end Go.Proofs.Ythconfcpajnjgaa
