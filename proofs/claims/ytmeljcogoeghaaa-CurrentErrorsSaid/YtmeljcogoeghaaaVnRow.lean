/- Package vintage's rows: slices.Clone, slices.Insert of one loss, slices.Delete of the first ones, walked: a contract for each, which says whose block was written. -/
import Derived.Test.YtmeljcogoeghaaaRows
import Derived.Test.YtmeljcogoeghaaaCopyR
import Derived.Test.YtmeljcogoeghaaaRVint
import Derived.Test.YtmeljcogoeghaaaRate
import Derived.WalkKit
import Derived.WalkSpells
import Derived.WalkLawsBesides
import Derived.Lib.Hide
import Derived.IntWalk
import Derived.Lib.LazyBuf
import Derived.Laws.Externs
import Derived.Laws.NewBlocks
import Derived.Deep.LoopGhost
import Derived.Deep.RegionLaw
import Derived.Maps.AppendAt
namespace Go.Proofs.Ytmeljcogoeghaaa
open Go.RowKit

theorem vn_zero (w : World) : (zeroValue 35).run Try.prog w = .ok (.agg #[.int .i64 0, .int .i64 0, .int .i64 0]) w := rfl
theorem vn_zeros : (Builtin.zeroCells (Value.agg #[.int .i64 0, .int .i64 0, .int .i64 0]).cells (0 + 1)).toList = [.int .i64 0, .int .i64 0, .int .i64 0] := by simp [Builtin.zeroCells, Value.cells, List.range_succ]
theorem vclone (v : Value) (n b0 : Nat) (g : Nat → Bk) (w : World) (h : OwnR ve 3 w 35 b0 v n g) (hn : n ≤ 1000000) :
    Calls Try.prog 33 #[v] w fun e w' => ∃ v', e = .returned v' ∧ OwnR ve 3 w' 35 w.heap.size v' n g ∧ Below w.heap.size w w' := by
  obtain ⟨i0, hi, hz0, hz1, hz2⟩ := info_parts vn_info
  have HS := Lib.hid h
  rcases h.2 with ⟨rfl, rfl⟩ | ⟨gb, cap, cur, rfl, _⟩
  · clear h
    have hop := fun w => run_eql_slice_nil (P := Try.prog) w 32 35 none 0 0 vn_type
    go_enter Try.func33, Try.ntmps33
    go_wp2_with (simp only [hop])
    go_ret
    exact ⟨_, rfl, OwnR.nil _ _ _ _ _ _, Below.refl _ _⟩
  · clear h
    have hop := fun w => run_eql_slice_nil (P := Try.prog) w 32 35 (some ⟨gb, 0, none⟩) n cap vn_type
    go_enter Try.func33, Try.ntmps33
    go_wp2_with (first | (simp only [hop]) | at_builtin; (refine wpList_app_row rfl (.tmp 5) (.tmp 6) rfl vn_type hi hz0 hz1 hz2 rfl (by decide) w w.heap.size b0 0 n cap _ _ [] _ rfl rfl (World.ownsRow_lit w #[] 0 (Nat.le_refl _) (by decide) rfl) (HS.out.alloc _) (rl_one ve_one) (by unfold maxLen; omega) (by omega) ((Below.refl _ _).alloc (Nat.le_refl _) _) (by simp) ?_; intro v1 w1 ho1 hb1 hg1; rw [Nat.zero_add, List.nil_append] at ho1))
    go_ret
    exact ⟨_, rfl, ho1, hb1⟩
section
variable {w : World} {base n c X : Nat} {A : Option Addr} {g : Nat → Bk} {x : Bk}
/-- a bucket put in behind all -/
theorem vinsert_end (o : OwnR ve 3 w 35 base (.slice A n c) n g) (hX : w.heap[X]? = some (.cells (ve x).toArray 35 (0, 0))) (hn : n ≤ 1000) (hb : base ≤ w.heap.size) :
    Calls Try.prog 38 #[.slice A n c, .int .i64 n, .slice (some ⟨X, 0, none⟩) 1 1] w fun e w' => ∃ b c', e = .returned (.slice (some ⟨b, 0, none⟩) (n + 1) c') ∧ OwnR ve 3 w' 35 base (.slice (some ⟨b, 0, none⟩) (n + 1) c') (n + 1) (insB g n x) ∧ w.grownBy w' (Value.slice A n c).ownBlock ∧ ((Value.slice A n c).ownBlock = some b ∨ w.heap.size ≤ b) := by
  obtain ⟨i0, hi, hz0, hz1, hz2⟩ := info_parts vn_info
  obtain ⟨A', c', e', hc1, hc2, _⟩ := o.form
  injection e' with e1 _ e3
  subst e1 e3
  have HO := Lib.hid o
  obtain ⟨ob, hob⟩ : ∃ ob, ob = (Value.slice A n c).ownBlock := ⟨_, rfl⟩
  rw [← hob]
  have HOB := Lib.hid hob
  clear hob
  have hc : ∀ j u, (ve x)[j]? = some u → w.cell? ⟨X, j, none⟩ = some u := fun j u hu => by rw [cell_of_row _ X j _ _ (0, 0) hX]; simpa using hu
  have HC := Lib.hid hc
  clear o hX hc
  go_enter Try.func38, Try.ntmps38
  go_wp2_with (at_builtin; (refine wpList_push_r rfl (.tmp 23) (.tmp 24) rfl vn_type hi hz0 hz1 hz2 (by decide) rfl (by decide) ve_len ve_one w base n X (.slice A n c) g x rfl rfl HC.out HO.out (by omega) (Below.refl _ _) hb _ rfl ?_; intro b2 c3 w6 ho2 hb2 hg2 hat2; have HO2 := Lib.hid ho2; rw [← HOB.out] at hg2 hat2; have HW2 := Lib.hid hg2; have HA2 := Lib.hid hat2; clear ho2 hb2 hg2 hat2))
  all_goals
    go_ret
    exact ⟨_, _, rfl, HO2.out.ext fun j hj => (by unfold insB; by_cases q : j < n
                                                  · rw [if_pos q, if_neg (by omega)]
                                                  · rw [if_neg q, if_pos (by omega), if_pos (by omega)]), HW2.out, HA2.out.imp id fun e => by omega⟩
theorem vov_apart (w : World) (b off lb cb : Nat) {cx cb' : List Value} (hX : w.heap[X]? = some (.cells cx.toArray 35 (0, 0))) (hB : w.heap[b]? = some (.cells cb'.toArray 35 (0, 0))) (hne : X ≠ b) (h0 : cb'.length ≠ 0) :
    (callFunc 59 #[.slice (some ⟨X, 0, none⟩) 1 1, .slice (some ⟨b, off, none⟩) lb cb]).run Try.prog w = .ok (.value (.bool false)) w := by
  rw [run_callFunc_extern Try.func59 (by kernel_rfl) (by kernel_rfl) (by kernel_rfl) (e := Extern.SlicesOverlaps.overlaps #[32, 32] #[4]) (by kernel_rfl),
    Lib.run_overlaps_apart w 32 4 35 vn_type 3 (fun w => rfl) ⟨X, 0, none⟩ ⟨b, off, none⟩ 1 1 lb cb hne 35 35 cx.length cb'.length (by simp [World.shape?, hX]) (by simp [World.shape?, hB]) h0 (by simp [World.frozen?, hX]) (by simp [World.frozen?, hX])]
  rfl
/-- a bucket put in ahead of others, where there is room -/
theorem vinsert_in {b i : Nat} (o : OwnR ve 3 w 35 base (.slice (some ⟨b, 0, none⟩) n c) n g) (hX : w.heap[X]? = some (.cells (ve x).toArray 35 (0, 0))) (hne : X ≠ b) (hn : n ≤ 1000) (hin : i < n) (hroom : n + 1 ≤ c) :
    Calls Try.prog 38 #[.slice (some ⟨b, 0, none⟩) n c, .int .i64 i, .slice (some ⟨X, 0, none⟩) 1 1] w fun e w' => ∃ c', e = .returned (.slice (some ⟨b, 0, none⟩) (n + 1) c') ∧ OwnR ve 3 w' 35 base (.slice (some ⟨b, 0, none⟩) (n + 1) c') (n + 1) (insB g i x) ∧ w.grownBy w' (some b) := by
  obtain ⟨i0, hi, hz0, hz1, hz2⟩ := info_parts vn_info
  obtain ⟨T, hg, hbb, hnc, hcm, hl⟩ := o.whole
  have hcx : ∀ j u, (ve x)[j]? = some u → w.cell? ⟨X, j, none⟩ = some u := fun j u hu => by rw [cell_of_row _ X j _ _ (0, 0) hX]; simpa using hu
  have HC := Lib.hid hcx
  have hov := fun lb cb => vov_apart w b ((i + 1) * 3) lb cb hX hg hne (by omega)
  have HG := Lib.hid hg
  have hz1' : ¬ ((i : Int) = (n : Int)) := by omega
  have hw1 : IntKind.i64.wrap ((n : Int) + 1) = (n : Int) + 1 := IntWalk.i64_in _ (by omega)
  have hw2 : IntKind.i64.wrap ((i : Int) + 1) = (i : Int) + 1 := IntWalk.i64_in _ (by omega)
  have hlr := rl_length ve_len g n
  have hsp := rl_split ve g (show i ≤ n by omega)
  obtain ⟨CS, hCS⟩ : ∃ CS, CS = rl ve (fun j => g (i + j)) (n - i) := ⟨_, rfl⟩
  have hcl : CS.length = (n - i) * 3 := by rw [hCS]; exact rl_length ve_len _ _
  rw [← hCS] at hsp
  have hT : T.length = (c - n) * 3 := by rw [List.length_append, hlr] at hl; omega
  have hal : (rl ve g i).length = i * 3 := rl_length ve_len g i
  obtain ⟨L, hL⟩ : ∃ L, L = rl ve g n ++ T := ⟨_, rfl⟩
  have hLl : L.length = c * 3 := by rw [hL]; exact hl
  rw [← hL] at hg
  have hcs : ∀ j v, CS[j]? = some v → w.cell? ((⟨b, i * 3, none⟩ : Addr).add j) = some v := fun j v hj => by
    rw [Addr.add_lit, cell_of_row _ b _ _ _ (0, 0) hg]
    have hjl := (List.getElem?_eq_some_iff.1 hj).1
    rw [List.getElem?_toArray, hL, hsp, List.append_assoc, List.getElem?_append_right (by omega), hal, Nat.add_sub_cancel_left, List.getElem?_append_left hjl]
    exact hj
  have h1c : ∀ v ∈ CS, v.oneCell' = true := by rw [hCS]; exact rl_one ve_one
  have hfin : splice (splice L ((i + 1) * 3) CS) (i * 3) (ve x) = rl ve (insB g i x) (n + 1) ++ T.drop 3 := by
    have e := splice_ins (rl ve g i) CS T (ve x) (by rw [hT, ve_len]; omega)
    rw [hal, ve_len] at e
    rw [hL, hsp, List.append_assoc, show (i + 1) * 3 = i * 3 + 3 by omega, e]
    unfold insB
    rw [rl_ins ve g x (show i ≤ n by omega), ← hCS, List.append_assoc, List.append_assoc]
  have HFIN := Lib.hid hfin
  have HCS := Lib.hid hcs
  have H1C := Lib.hid h1c
  have HHG := Lib.hid hg
  have hm1 : CS.length = Nat.min (n + 1 - i) (n - i) * 3 := by rw [hcl]; show _ = min (n + 1 - i) (n - i) * 3; omega
  have HM1 := Lib.hid hm1
  have HLL := Lib.hid hLl
  have hft : (i + 1) * 3 + CS.length ≤ L.length := by rw [hcl, hLl]; omega
  have HFT := Lib.hid hft
  have hi1 : (0 : Int) ≤ (i : Int) + 1 := by omega
  have hi2 : i ≤ n := by omega
  have hi3 : ¬ (c = i + 1) := by omega
  have hi4 : ¬ (c = i) := by omega
  have hi5 : (0 : Int) ≤ (i : Int) := by omega
  have hi6 : (i : Int) ≤ (n : Int) + 1 := by omega
  unfold maxLen at hcm
  clear o hX hcx hg hsp hal hT hL hLl hlr hcs h1c hfin hCS hcl hm1 hft hl HG
  go_enter Try.func38, Try.ntmps38
  go_wp2_with (simp only [hov])
  go_region_law (refine step_copy_k rfl (.tmp 73) (.tmp 76) 32 32 rfl vn_type hi hz1 b ((i + 1) * 3) (n - i) (c - (i + 1)) ⟨b, i * 3, none⟩ (n + 1 - i) (c - i) (by simp [Act.eval, Act.put]) (by simp [Act.eval, Act.put]) L _ HHG.out CS HM1.out HCS.out HFT.out H1C.out base w ⟨rfl, rfl, rfl, Nat.le_refl _, fun _ _ => rfl⟩ hbb ?_; intro w4 hg4 ho4 hb4)
  have HX4 : Hid (∀ j v, (ve x)[j]? = some v → w4.cell? ((⟨X, 0, none⟩ : Addr).add j) = some v) := Lib.hid fun j v hj => by
    rw [Addr.add_lit, Nat.zero_add]
    exact (World.cell?_of_block (a := ⟨X, j, none⟩) (ho4.out X hne)).trans (HC.out j v hj)
  have HL4 : Hid (i * 3 + (ve x).length ≤ (splice L ((i + 1) * 3) CS).length) := Lib.hid (by
    rw [length_splice _ _ _ HFT.out, ve_len, HLL.out]; omega)
  have hm4 : (ve x).length = Nat.min 1 (n + 1 - i) * 3 := by rw [ve_len]; show 3 = min 1 (n + 1 - i) * 3; omega
  have HM4 := Lib.hid hm4
  have HB4 := Lib.hid hb4
  have HQ4 := ho4
  clear hm4 hb4 ho4
  go_wp2_with ((with_reducible show wpList _ _ _ _ _ _); (refine wpList_copy_k rfl (.tmp 80) (.tmp 81) 32 32 rfl vn_type hi hz1 b (i * 3) (n + 1 - i) (c - i) ⟨X, 0, none⟩ 1 1 rfl rfl _ _ hg4.out (ve x) HM4.out HX4.out HL4.out (ve_one x) base w HB4.out hbb ?_; intro w5 hg5 ho5 hb5))
  go_ret
  have h5 := hg5.out
  rw [HFIN.out] at h5
  refine ⟨c, rfl, OwnR.of_block ve_len h5 hbb hroom (by unfold maxLen; omega) ?_, ⟨hb5.os, hb5.tape, hb5.output, hb5.size, fun k _ hk => (ho5.out k fun e => hk (by rw [e])).trans (HQ4.out k fun e => hk (by rw [e]))⟩⟩
  rw [← HFIN.out, length_splice _ _ _ HL4.out, length_splice _ _ _ HFT.out, HLL.out]
/-- a bucket put in ahead of others, where there is no room -/
theorem vinsert_grow {b i : Nat} (o : OwnR ve 3 w 35 base (.slice (some ⟨b, 0, none⟩) n c) n g) (hX : w.heap[X]? = some (.cells (ve x).toArray 35 (0, 0))) (hn : n ≤ 1000) (hb0 : base ≤ w.heap.size) (hin : i < n) (hroom : c < n + 1) :
    Calls Try.prog 38 #[.slice (some ⟨b, 0, none⟩) n c, .int .i64 i, .slice (some ⟨X, 0, none⟩) 1 1] w fun e w' => ∃ b2 c', e = .returned (.slice (some ⟨b2, 0, none⟩) (n + 1) c') ∧ OwnR ve 3 w' 35 base (.slice (some ⟨b2, 0, none⟩) (n + 1) c') (n + 1) (insB g i x) ∧ w.grownBy w' (some b) ∧ w.heap.size ≤ b2 := by
  obtain ⟨i0, hi, hz0, hz1, hz2⟩ := info_parts vn_info
  obtain ⟨T, hg, hbb, hnc, hcm, hl⟩ := o.whole
  have hbw : b < w.heap.size := (Array.getElem?_eq_some_iff.1 hg).1
  have hXw : X < w.heap.size := (Array.getElem?_eq_some_iff.1 hX).1
  have hcx : ∀ j u, (ve x)[j]? = some u → w.cell? ⟨X, j, none⟩ = some u := fun j u hu => by rw [cell_of_row _ X j _ _ (0, 0) hX]; simpa using hu
  have HC := Lib.hid hcx
  obtain rfl : n = c := by omega
  have hz1' : ¬ ((i : Int) = (n : Int)) := by omega
  have hz3 : (n : Int) < (n : Int) + 1 := by omega
  have hw1 : IntKind.i64.wrap ((n : Int) + 1) = (n : Int) + 1 := IntWalk.i64_in _ (by omega)
  have hw2 : IntKind.i64.wrap ((i : Int) + 1) = (i : Int) + 1 := IntWalk.i64_in _ (by omega)
  have hw3 : IntKind.i64.wrap ((n : Int) + 1 - (i : Int)) = (n : Int) + 1 - (i : Int) := IntWalk.i64_in _ (by omega)
  have hlr := rl_length ve_len g n
  have hsp := rl_split ve g (show i ≤ n by omega)
  obtain ⟨CS, hCS⟩ : ∃ CS, CS = rl ve (fun j => g (i + j)) (n - i) := ⟨_, rfl⟩
  have hcl : CS.length = (n - i) * 3 := by rw [hCS]; exact rl_length ve_len _ _
  rw [← hCS] at hsp
  obtain rfl : T = [] := List.eq_nil_of_length_eq_zero (by rw [List.length_append, hlr] at hl; omega)
  rw [List.append_nil] at hg hl
  have hal : (rl ve g i).length = i * 3 := rl_length ve_len g i
  have hcell : ∀ j v, (rl ve g n)[j]? = some v → w.cell? ⟨b, j, none⟩ = some v := fun j v hj => by
    rw [cell_of_row _ b _ _ _ (0, 0) hg, List.getElem?_toArray]; exact hj
  have hcs : ∀ j v, CS[j]? = some v → w.cell? ((⟨b, i * 3, none⟩ : Addr).add j) = some v := fun j v hj => by
    rw [Addr.add_lit]
    refine hcell _ _ ?_
    have hjl := (List.getElem?_eq_some_iff.1 hj).1
    rw [hsp, List.getElem?_append_right (by omega), hal, Nat.add_sub_cancel_left]
    exact hj
  have h1c : ∀ v ∈ CS, v.oneCell' = true := by rw [hCS]; exact rl_one ve_one
  have hold : (Builtin.firstCells i0.size i (.slice (some ⟨b, 0, none⟩) i n)).run Try.prog w.drew = .ok (rl ve g i).toArray w.drew := by
    rw [hz1]
    exact run_firstCells_some w.drew 3 i ⟨b, 0, none⟩ i n (rl ve g i) hal (fun j v hj => by
      rw [Addr.add_lit, Nat.zero_add]
      refine hcell _ _ ?_
      rw [hsp, List.getElem?_append_left (List.getElem?_eq_some_iff.1 hj).1]; exact hj)
  have hkk : (n : Int) + 1 - (i : Int) = ((n + 1 - i : Nat) : Int) := by omega
  have hik : i + (n + 1 - i) = n + 1 := by omega
  obtain ⟨G, hG⟩ : ∃ G, G = grownCap w (n + 1) n 35 := ⟨_, rfl⟩
  obtain ⟨Z, hZ⟩ : ∃ Z, Z = (Builtin.zeroCells (Value.agg #[.int .i64 0, .int .i64 0, .int .i64 0]).cells (n + 1 - i)).toList ++ (Builtin.zeroCells (Value.agg #[.int .i64 0, .int .i64 0, .int .i64 0]).cells (G - (n + 1))).toList := ⟨_, rfl⟩
  have hGn : n + 1 ≤ G := by rw [hG]; exact grownCap_ge w _ _ _
  have hGm : G ≤ maxLen := by rw [hG]; exact grownCap_le_maxLen w (n + 1) n _ (by unfold maxLen; omega)
  have hZl : Z.length = (G - i) * 3 := by
    rw [hZ, List.length_append, Array.length_toList, Array.length_toList, size_zeroCells, size_zeroCells]
    simp [Value.cells]
    omega
  have hrz : ∀ ty, (Builtin.append_ #[32, 3] ty #[.slice (some ⟨b, 0, none⟩) i n, .int .i64 ((n : Int) + 1 - (i : Int))]).run Try.prog w =
      .ok (.slice (some ⟨w.heap.size, 0, none⟩) (n + 1) G) (w.drew.alloc (.cells (rl ve g i ++ Z).toArray 35)) := fun ty => by
    have h := Lib.run_append_grow_zeros w 32 3 ty 35 i0 _ .i64 .i64 vn_type Try.underlying3 hi hz0 (some ⟨b, 0, none⟩) i n (rl ve g i) hold (n + 1 - i) (by omega) (by omega) (by omega) (by omega) (by rw [hz2]; omega) (by rw [hz2, hik]; exact growslice_fits (by omega) (by omega))
    rw [hik, ← hG] at h
    rw [hkk, h, hZ]
    congr 3
    simp
  obtain ⟨W1, hW1⟩ : ∃ W1, W1 = w.drew.alloc (.cells (rl ve g i ++ Z).toArray 35) := ⟨_, rfl⟩
  rw [← hW1] at hrz
  have K1 : Below w.heap.size w W1 := by rw [hW1]; exact (below_drew w).alloc (Nat.le_refl _) _
  have hg1 : W1.heap[w.heap.size]? = some (.cells (rl ve g i ++ Z).toArray 35 (0, 0)) := by rw [hW1]; exact heap_alloc_new w.drew _
  have hb1 : Hid (Below w.heap.size w W1) := Lib.hid K1
  have HX1 : Hid (∀ j v, (ve x)[j]? = some v → W1.cell? ((⟨X, 0, none⟩ : Addr).add j) = some v) := Lib.hid fun j v hj => by
    rw [Addr.add_lit, Nat.zero_add]
    exact (World.cell?_of_block (a := ⟨X, j, none⟩) (K1.block X hXw)).trans (hcx j v hj)
  have HCS1 : Hid (∀ j v, CS[j]? = some v → W1.cell? ((⟨b, i * 3, none⟩ : Addr).add j) = some v) := Lib.hid fun j v hj => by
    have := hcs j v hj
    rw [Addr.add_lit] at this ⊢
    exact (World.cell?_of_block (a := ⟨b, i * 3 + j, none⟩) (K1.block b hbw)).trans this
  obtain ⟨L, hL⟩ : ∃ L, L = rl ve g i ++ Z := ⟨_, rfl⟩
  rw [← hL] at hg1
  have hLl : L.length = G * 3 := by rw [hL, List.length_append, hal, hZl]; omega
  have hfin : splice (splice L (i * 3) (ve x)) ((i + 1) * 3) CS = rl ve (insB g i x) (n + 1) ++ Z.drop ((ve x).length + CS.length) := by
    have e := splice_put (rl ve g i) CS (ve x) Z
    rw [hal, ve_len, show i * 3 + 3 = (i + 1) * 3 by omega] at e
    rw [hL, e]
    unfold insB
    rw [rl_ins ve g x (show i ≤ n by omega), ← hCS, List.append_assoc, List.append_assoc, ve_len]
  have HFIN := Lib.hid hfin
  have H1C := Lib.hid h1c
  have HG1 := Lib.hid hg1
  have HLL := Lib.hid hLl
  have hm1 : (ve x).length = Nat.min 1 (n + 1 - i) * 3 := by rw [ve_len]; show 3 = min 1 (n + 1 - i) * 3; omega
  have hm2 : CS.length = Nat.min (n - i) (n - i) * 3 := by rw [hcl]; show _ = min (n - i) (n - i) * 3; omega
  have hf1 : i * 3 + (ve x).length ≤ L.length := by rw [ve_len, hLl]; omega
  have hf2 : (i + 1) * 3 + CS.length ≤ (splice L (i * 3) (ve x)).length := by rw [length_splice _ _ _ hf1, hcl, hLl]; omega
  have hsz : W1.heap.size = w.heap.size + 1 := by rw [hW1]; simp
  have HM1 := Lib.hid hm1
  have HM2 := Lib.hid hm2
  have HF1 := Lib.hid hf1
  have HF2 := Lib.hid hf2
  have hne : b ≠ w.heap.size := by omega
  have hi1 : (0 : Int) ≤ (i : Int) + 1 := by omega
  have hi2 : i ≤ n := by omega
  have hi3 : ¬ (G = i + 1) := by omega
  have hi4 : ¬ (G = i) := by omega
  have hi5 : (0 : Int) ≤ (i : Int) := by omega
  have hi6 : (i : Int) ≤ (n : Int) + 1 := by omega
  have hi7 : ¬ (n = i) := by omega
  have hi8 : (i : Int) ≤ (n : Int) := by omega
  unfold maxLen at hGm
  clear o hX hcx hg hsp hal hL hLl hlr hcs h1c hfin hCS hcl hm1 hm2 hf1 hf2 hl hcell hold hkk hik hG hZ hZl hW1 K1 hg1 hsz hroom hcm
  go_enter Try.func38, Try.ntmps38
  go_wp2_with (first
    | (at_builtin; (refine Lib.wpList_append_run _ rfl (.tmp 34) (.tmp 39) 32 3 rfl _ _ rfl rfl _ _ (hrz _) ?_))
    | ((with_reducible show wpList _ _ _ _ _ _); (refine wpList_copy_k rfl (.tmp 43) (.tmp 44) 32 32 rfl vn_type hi hz1 w.heap.size (i * 3) (n + 1 - i) (G - i) ⟨X, 0, none⟩ 1 1 rfl rfl _ _ HG1.out (ve x) HM1.out HX1.out HF1.out (ve_one x) w.heap.size w hb1.out (Nat.le_refl _) ?_; intro w4 hg4 ho4 hb4)))
  have HCS4 : Hid (∀ j v, CS[j]? = some v → w4.cell? ((⟨b, i * 3, none⟩ : Addr).add j) = some v) := Lib.hid fun j v hj => by
    have := HCS1.out j v hj
    rw [Addr.add_lit] at this ⊢
    exact (World.cell?_of_block (a := ⟨b, i * 3 + j, none⟩) (ho4.out b hne)).trans this
  have HB4 : Hid (Below w.heap.size w w4.drew) := Lib.hid hb4.drew
  clear hb4 ho4
  go_wp2
  go_region_law (refine step_copy_k rfl (.tmp 50) (.tmp 53) 32 32 rfl vn_type hi hz1 w.heap.size ((i + 1) * 3) (n - i) (G - (i + 1)) ⟨b, i * 3, none⟩ (n - i) (n - i) (by simp [Act.eval, Act.put]) (by simp [Act.eval, Act.put]) _ _ hg4.out CS HM2.out HCS4.out HF2.out H1C.out w.heap.size w HB4.out (Nat.le_refl _) ?_; intro w5 hg5 ho5 hb5)
  go_wp2
  go_ret
  have h5 := hg5.out
  rw [HFIN.out] at h5
  refine ⟨w.heap.size, G, rfl, OwnR.of_block ve_len h5 hb0 hGn (by unfold maxLen; omega) ?_, ⟨hb5.os, hb5.tape, hb5.output, hb5.size, fun k hk _ => hb5.block k hk⟩, Nat.le_refl _⟩
  rw [← HFIN.out, length_splice _ _ _ HF2.out, length_splice _ _ _ HF1.out, HLL.out]
/-- a loss put in wherever it belongs -/
theorem vinsert {i : Nat} (o : OwnR ve 3 w 35 base (.slice A n c) n g) (hX : w.heap[X]? = some (.cells (ve x).toArray 35 (0, 0))) (hne : ∀ b, A = some ⟨b, 0, none⟩ → X ≠ b) (hn : n ≤ 1000) (hb : base ≤ w.heap.size) (hin : i ≤ n) :
    Calls Try.prog 38 #[.slice A n c, .int .i64 i, .slice (some ⟨X, 0, none⟩) 1 1] w fun e w' => ∃ b c', e = .returned (.slice (some ⟨b, 0, none⟩) (n + 1) c') ∧ OwnR ve 3 w' 35 base (.slice (some ⟨b, 0, none⟩) (n + 1) c') (n + 1) (insB g i x) ∧ w.grownBy w' (Value.slice A n c).ownBlock ∧ ((Value.slice A n c).ownBlock = some b ∨ w.heap.size ≤ b) := by
  by_cases q : i = n
  · rw [q]; exact vinsert_end o hX hn hb
  · obtain ⟨b, c', e, h1, h2⟩ := own_some o (by omega)
    injection e with e1 _ e3
    subst e1 e3
    by_cases r : n + 1 ≤ c
    · refine (vinsert_in o hX (hne b rfl) hn (by omega) r).mono ?_
      rintro e w' ⟨c', rfl, h1, h2⟩
      exact ⟨b, c', rfl, h1, h2, .inl rfl⟩
    · refine (vinsert_grow o hX hn hb (by omega) (by omega)).mono ?_
      rintro e w' ⟨b2, c', rfl, h1, h2, h3⟩
      exact ⟨b2, c', rfl, h1, h2, .inr h3⟩
/-- zeros -/
theorem vn_zs_len (m : Nat) : (Builtin.zeroCells (Value.agg #[.int .i64 0, .int .i64 0, .int .i64 0]).cells m).toList.length = m * 3 := by
  rw [Array.length_toList, size_zeroCells]; rfl
theorem vn_zs_one (m : Nat) : ∀ u ∈ (Builtin.zeroCells (Value.agg #[.int .i64 0, .int .i64 0, .int .i64 0]).cells m).toList, u.oneCell' = true := by
  intro u hu
  simp only [Builtin.zeroCells, Value.cells, Array.toList_map, List.mem_map] at hu
  obtain ⟨i, _, rfl⟩ := hu
  have h : i % 3 = 0 ∨ i % 3 = 1 ∨ i % 3 = 2 := by omega
  show (#[Value.int .i64 0, .int .i64 0, .int .i64 0][i % 3]!).oneCell' = true
  rcases h with e | e | e <;> rw [e] <;> rfl
end
section
variable {P : Program} {ops : Array Oper} {o : Oper} {a : Act} {w : World} {elem : TypeId}
/-- clear, in a row that is known whole: no other block is written -/
theorem wpList_clear_o {rest : List Oper} {Q : Exit → Act → World → Prop} {z : Value} (hgd : o.guard = none) (d : Operand) (dT : TypeId)
    (ho : o.op = .call { callee := .builtin .clear, args := #[d], argTypes := #[dT] }) (hu : P.underlying dT = some (.slice elem)) (hv : ∀ w, (zeroValue elem).run P w = .ok z w) (zs : List Value)
    (g off m c : Nat) (hm : 0 < m) (hz : (Builtin.zeroCells z.cells m).toList = zs) (hd : a.eval d = .slice (some ⟨g, off, none⟩) m c)
    (cur : List Value) (t : TypeId) (hg : w.heap[g]? = some (.cells cur.toArray t (0, 0))) (hfit : off + zs.length ≤ cur.length) (h1 : ∀ v ∈ zs, v.oneCell' = true) (w0 : World) (hb : w0.grownBy w (some g))
    (h : ∀ w', Hid (w'.heap[g]? = some (.cells (splice cur off zs).toArray t (0, 0))) → Hid (w0.grownBy w' (some g)) → wpList P ops Q rest (a.put o.dst (.tuple #[])) w') :
    wpList P ops Q (o :: rest) a w := by
  obtain ⟨m, rfl⟩ : ∃ k, m = k + 1 := ⟨m - 1, by omega⟩
  refine wpList_plain hgd fun K hK => ?_
  have hst := run_storeCells_at P g off t zs 0 cur.toArray w hg (by simpa using hfit) h1
  have e : w.setRow g (splice cur off zs).toArray = w.setRow g ((cur.take off ++ zs ++ cur.drop (off + zs.length)).toArray) := by unfold splice; rw [List.append_assoc]
  simp only [Nat.add_zero] at hst
  have hrun : ∀ ty, (Builtin.clear_ #[dT] ty #[.slice (some ⟨g, off, none⟩) (m + 1) c]).run P w = .ok (.tuple #[]) (w.setRow g (splice cur off zs).toArray) := fun ty => by
    rw [e]
    simp [Builtin.clear_, run_underlying hu, hv, hz, hst]
  have hk := below_setRow (Below.refl 0 w) (Nat.zero_le g) (splice cur off zs).toArray
  unfold Oper.wp
  simp only [execOp, ho, resolve, invoke, builtin, Sem.run_bind, Sem.run_pure, Result.andThen_ok, List.map_toArray, List.map_cons, List.map_nil, hd, hrun]
  exact hK _ _ (h _ (Lib.hid (setRow_has hg _)) (Lib.hid (hb.trans ⟨hk.os, hk.tape, hk.output, hk.size, fun k _ hne => setRow_other w g k _ fun e => hne (by rw [e])⟩)))
end
section
variable {w : World} {base n c : Nat} {A : Option Addr} {g : Nat → Bk}
/-- the first ones struck out -/
theorem vdrop {k : Nat} (o : OwnR ve 3 w 35 base (.slice A n c) n g) (hn : n ≤ 1000) (hk : k ≤ n) :
    Calls Try.prog 50 #[.slice A n c, .int .i64 0, .int .i64 k] w fun e w' => e = .returned (.slice A (n - k) c) ∧ OwnR ve 3 w' 35 base (.slice A (n - k) c) (n - k) (fun j => g (k + j)) ∧ w.grownBy w' (Value.slice A n c).ownBlock := by
  by_cases k0 : k = 0
  · subst k0
    obtain ⟨A', c', e', hc1, hc2, _⟩ := o.form
    injection e' with e1 _ e3
    subst e1 e3
    have HO := Lib.hid o
    have hkn : ((0 : Nat) : Int) ≤ (n : Int) := by omega
    clear o
    go_enter Try.func50, Try.ntmps50
    go_wp2
    all_goals
      go_ret
      exact ⟨rfl, HO.out.ext fun j _ => by simp, World.grownBy.refl _ _⟩
  obtain ⟨b, c', e', _, _⟩ := own_some o (by omega)
  injection e' with e1 _ e3
  subst e1 e3
  obtain ⟨i0, hi, hz0, hz1, hz2⟩ := info_parts vn_info
  obtain ⟨T, hg, hbb, hnc, hcm, hl⟩ := o.whole
  have hlr := rl_length ve_len g n
  have hsp := rl_split ve g hk
  obtain ⟨CS, hCS⟩ : ∃ CS, CS = rl ve (fun j => g (k + j)) (n - k) := ⟨_, rfl⟩
  have hcl : CS.length = (n - k) * 3 := by rw [hCS]; exact rl_length ve_len _ _
  rw [← hCS] at hsp
  have hal : (rl ve g k).length = k * 3 := rl_length ve_len g k
  obtain ⟨L, hL⟩ : ∃ L, L = rl ve g n ++ T := ⟨_, rfl⟩
  have hLl : L.length = c * 3 := by rw [hL]; exact hl
  rw [← hL] at hg
  have hcs : ∀ j v, CS[j]? = some v → w.cell? ((⟨b, k * 3, none⟩ : Addr).add j) = some v := fun j v hj => by
    rw [Addr.add_lit, cell_of_row _ b _ _ _ (0, 0) hg]
    have hjl := (List.getElem?_eq_some_iff.1 hj).1
    rw [List.getElem?_toArray, hL, hsp, List.append_assoc, List.getElem?_append_right (by omega), hal, Nat.add_sub_cancel_left, List.getElem?_append_left hjl]
    exact hj
  have h1c : ∀ v ∈ CS, v.oneCell' = true := by rw [hCS]; exact rl_one ve_one
  obtain ⟨zs, hzs⟩ : ∃ zs, (Builtin.zeroCells (Value.agg #[.int .i64 0, .int .i64 0, .int .i64 0]).cells k).toList = zs := ⟨_, rfl⟩
  have hzl : zs.length = k * 3 := by rw [← hzs]; exact vn_zs_len k
  have hz1 : ∀ u ∈ zs, u.oneCell' = true := by rw [← hzs]; exact vn_zs_one k
  have hfit : 0 * 3 + CS.length ≤ L.length := by rw [hcl, hLl]; omega
  have hfit2 : (n - k) * 3 + zs.length ≤ (splice L (0 * 3) CS).length := by rw [length_splice _ _ _ hfit, hLl, hzl]; omega
  have hlast : ∃ T', splice (splice L (0 * 3) CS) ((n - k) * 3) zs = CS ++ T' ∧ (CS ++ T').length = c * 3 := by
    have e : splice L (0 * 3) CS = CS ++ L.drop CS.length := by
      unfold splice
      rw [Nat.zero_mul, List.take_zero, List.nil_append, Nat.zero_add]
    have hl2 := length_splice _ _ _ hfit2
    rw [length_splice _ _ _ hfit, hLl] at hl2
    have e2 : splice (CS ++ L.drop CS.length) ((n - k) * 3) zs = CS ++ (zs ++ (CS ++ L.drop CS.length).drop ((n - k) * 3 + zs.length)) := by
      unfold splice
      rw [List.take_left' hcl]
    refine ⟨zs ++ (CS ++ L.drop CS.length).drop ((n - k) * 3 + zs.length), by rw [e, e2], ?_⟩
    rw [← e2, ← e]; exact hl2
  obtain ⟨T', hT1, hT2⟩ := hlast
  rw [hCS] at hT2
  obtain ⟨off, hd⟩ : ∃ off, (c = k ∧ off = 0) ∨ (¬ c = k ∧ off = k * 3) := by
    by_cases q : c = k
    · exact ⟨0, .inl ⟨q, rfl⟩⟩
    · exact ⟨_, .inr ⟨q, rfl⟩⟩
  have hcs' : ∀ j v, CS[j]? = some v → w.cell? ((⟨b, off, none⟩ : Addr).add j) = some v := by
    rcases hd with ⟨q, _⟩ | ⟨_, rfl⟩
    · intro j v hj
      obtain rfl : CS = [] := List.eq_nil_of_length_eq_zero (by omega)
      cases hj
    · exact hcs
  have HG := Lib.hid hg
  have HCL := Lib.hid hcl
  have HCS := Lib.hid hcs'
  have H1C := Lib.hid h1c
  have HF1 := Lib.hid hfit
  have HF2 := Lib.hid hfit2
  have HT1 := Lib.hid hT1
  have HT2 := Lib.hid hT2
  have HMM := Lib.hid hcm
  have HZ1 := Lib.hid hz1
  have HZS := Lib.hid hzs
  have HEC := Lib.hid hCS
  have HNK : Hid (n - k ≤ c) := Lib.hid (by omega)
  have hi5 : (0 : Int) ≤ (k : Int) := by omega
  have hi6 : (k : Int) ≤ (n : Int) := by omega
  have hi1 : ((n - k : Nat) : Int) ≤ (n : Int) := by omega
  have hi2 : n - (n - k) = k := by omega
  have hi3 : ¬ (c = n - k) := by omega
  have hi4 : k ≤ c := by omega
  have hi7 : ¬ ((0 : Int) = (k : Int)) := by omega
  have hi9 : n - k ≤ n := by omega
  have HR : Hid (0 + (n - k) ≤ c) := Lib.hid (by omega)
  have HEQ : Hid (0 + (n - k) = n - k) := Lib.hid (by omega)
  have HK0 : Hid (0 < k) := Lib.hid (by omega)
  clear o hg hl hlr hsp hCS hcl hal hL hLl hcs hcs' h1c hfit hfit2 hT1 hT2 hcm hz1 hzs hzl k0
  rcases hd with ⟨hc, rfl⟩ | ⟨hc, rfl⟩
  · subst hc
    obtain rfl : n = c := by omega
    obtain rfl : CS = [] := List.eq_nil_of_length_eq_zero (by have := HCL.out; omega)
    have esp : splice L (0 * 3) [] = L := by unfold splice; simp
    rw [Nat.sub_self] at *
    rw [esp] at HF2 HT1
    clear esp
    go_enter Try.func50, Try.ntmps50
    go_wp2
    go_region_law (fail)
    go_wp2_with ((with_reducible show wpList _ _ _ _ _ _); (refine wpList_clear_o rfl (.tmp 31) 32 rfl vn_type (fun w => vn_zero w) _ b (0 * 3) n _ HK0.out HZS.out rfl _ _ HG.out HF2.out HZ1.out w ⟨rfl, rfl, rfl, Nat.le_refl _, fun _ _ _ => rfl⟩ ?_; intro w5 hg5 hb5))
    go_ret
    have h5 := hg5.out
    rw [HT1.out, HEC.out] at h5
    exact ⟨rfl, OwnR.of_block ve_len h5 hbb HNK.out HMM.out HT2.out, hb5.out⟩
  · have hc' := Lib.hid hc
    go_enter Try.func50, Try.ntmps50
    go_wp2
    go_region_law (refine step_append_k rfl (.tmp 22) (.tmp 25) 32 rfl vn_type hi hz1 b 0 c _ (n - k) (c - k) (by simp [Act.eval, Act.put]) (by simp [Act.eval, Act.put]) L HG.out CS HCL.out HR.out HCS.out HF1.out H1C.out 0 w ⟨rfl, rfl, rfl, Nat.le_refl _, fun _ _ => rfl⟩ (Nat.zero_le _) ?_; intro w4 hg4 ho4 hb4; rw [HEQ.out])
    go_wp2_with ((with_reducible show wpList _ _ _ _ _ _); (refine wpList_clear_o rfl (.tmp 31) 32 rfl vn_type (fun w => vn_zero w) _ b ((n - k) * 3) k _ HK0.out HZS.out rfl _ _ hg4.out HF2.out HZ1.out w ⟨hb4.os, hb4.tape, hb4.output, hb4.size, fun q _ hq => ho4.out q fun e => hq (by rw [e])⟩ ?_; intro w5 hg5 hb5))
    go_ret
    have h5 := hg5.out
    rw [HT1.out, HEC.out] at h5
    exact ⟨rfl, OwnR.of_block ve_len h5 hbb HNK.out HMM.out HT2.out, hb5.out⟩
end
end Go.Proofs.Ytmeljcogoeghaaa
