/- The document's plays: seven numbers of a list; an input of numbers. -/
import Derived.Test.YtmlafdehhbhbiaaGreatMkVal
import Derived.Test.YtmlafdehhbhbiaaGreatM1
import Derived.Test.YtmlafdehhbhbiaaGreatM2
import Derived.WalkKit
import Derived.WalkSpells
import Derived.WalkLawsBesides
import Derived.Lib.Hide
import Derived.IntWalk
import Derived.Deep.LoopGhost
import Derived.Deep.DeepCutAuto
namespace Go.Proofs.YtmlafdehhbhbiaaGreat
open Go.RowKit
def sevenL (f : Nat → Int) : List Value := [.int .i64 (f 0), .int .i64 (f 1), .int .i64 (f 2), .int .i64 (f 3), .int .i64 (f 4), .int .i64 (f 5), .int .i64 (f 6)]
theorem seven_set (f : Nat → Int) (k : Nat) (hk : k < 7) (v : Int) : (sevenL f).toArray.setIfInBounds k (.int .i64 v) = (sevenL (fun j => if j = k then v else f j)).toArray := by
 rcases (show k = 0 ∨ k = 1 ∨ k = 2 ∨ k = 3 ∨ k = 4 ∨ k = 5 ∨ k = 6 by omega) with rfl | rfl | rfl | rfl | rfl | rfl | rfl <;> rfl
theorem seven_at (f : Nat → Int) (k : Nat) (hk : k < 7) : (sevenL f).toArray[k]? = some (.int .i64 (f k)) := by
 rcases (show k = 0 ∨ k = 1 ∨ k = 2 ∨ k = 3 ∨ k = 4 ∨ k = 5 ∨ k = 6 by omega) with rfl | rfl | rfl | rfl | rfl | rfl | rfl <;> rfl
theorem seven_one (f : Nat → Int) : (sevenL f).toArray.all (·.oneCell') = true := one_all fun u hu => by
 unfold sevenL at hu
 simp only [List.mem_cons, List.not_mem_nil, or_false] at hu
 rcases hu with rfl | rfl | rfl | rfl | rfl | rfl | rfl <;> rfl
theorem seven_size (f : Nat → Int) : (Tryz.prog.info? 119).map (·.size) = some (sevenL f).toArray.size := by
 rw [show (sevenL f).toArray.size = 7 from rfl]; kernel_rfl
theorem seven_end (w W0 : World) (h : w.alloc (.cells #[.int .i64 0, .int .i64 0, .int .i64 0, .int .i64 0, .int .i64 0, .int .i64 0, .int .i64 0] 119) = W0) (f : Nat → Int) :
   (W0.alloc (.cells (sevenL f).toArray 119)).rangeAt (w.heap.size + 1) 0 (sevenL f) ∧ (W0.alloc (.cells (sevenL f).toArray 119)).heap[w.heap.size]? = some (.cells #[.int .i64 0, .int .i64 0, .int .i64 0, .int .i64 0, .int .i64 0, .int .i64 0, .int .i64 0] 119 (0, 0)) := by
 have z : W0.heap.size = w.heap.size + 1 := by rw [← h]; simp
 refine ⟨fun j v hv => ?_, ?_⟩
 · rw [← z, Nat.zero_add, World.cell?_alloc_new]; simpa using hv
 · rw [heap_alloc_old _ _ (by omega), ← h]; exact heap_alloc_last w _
theorem results_cell {fn : Func} {p : Tmp} {T : TypeId} (h : fn.results = #[.cell p T]) (tmps : Array Value) (w : World) (b : Nat) (x : Value) (hp : tmps.getD p undef = .pointer (some ⟨b, 0, none⟩)) (hl : (loadVar T ⟨b, 0, none⟩).run Tryz.prog w = .ok x w) :
   (results fn tmps).run Tryz.prog w = .ok x w := by
 have hp' : tmps[p]?.getD undef = .pointer (some ⟨b, 0, none⟩) := by simpa using hp
 simp [results, h, hp', asAddr, hl]
set_option maxHeartbeats 4000000 in
set_option maxRecDepth 100000 in
theorem seven_some (A : Option Addr) (n c : Nat) (zs : List Int) (w : World) (h : IsRow .i64 w A n c zs) :
   Calls Tryz.prog 55 #[.slice A n c] w fun e w' => ∃ f : Nat → Int, e = .returned (.agg (sevenL f).toArray) ∧ Below w.heap.size w w' := by
 have HR := Lib.hid h.at.1
 obtain ⟨g, hg⟩ : ∃ g : Nat → Int, (fun j => zs.getD j 0) = g := ⟨_, rfl⟩
 rw [hg] at HR
 clear h hg
 obtain ⟨W0, hW0⟩ : ∃ W0, w.alloc (.cells #[.int .i64 0, .int .i64 0, .int .i64 0, .int .i64 0, .int .i64 0, .int .i64 0, .int .i64 0] 119) = W0 := ⟨_, rfl⟩
 have K0 := Lib.hid (show Below w.heap.size w W0 by rw [← hW0]; exact (Below.refl _ _).alloc (Nat.le_refl _) _)
 have Z0 : W0.heap.size = w.heap.size + 1 := by rw [← hW0]; simp
 have HW0 := Lib.hid hW0
 clear hW0
 go_enter Tryz.func55, Tryz.ntmps55
 go_wp2
 rw [HW0.out]
 go_loopg [4] 7 (fun gh i wr => ∃ (k : Nat) (f : Nat → Int), k ≤ 7 ∧ gh = 7 - k ∧ i = .int .i64 k ∧ wr = W0.alloc (.cells (sevenL f).toArray 119))
 case atStart => exact ⟨0, fun _ => 0, by omega, rfl, rfl, rfl⟩
 case round =>
   obtain ⟨k, f, hk, hgk, rfl, rfl⟩ := hrel
   have HGK := Lib.hid hgk
   clear hgk
   by_cases hlt : k < 7
   · by_cases hn : k < n
     · obtain ⟨b, off, rfl, hb, hc⟩ := HR.out.some (by omega)
       obtain ⟨z, hz⟩ : ∃ z, g k = z := ⟨_, rfl⟩
       have c0 := cell_keep (hc k hn) (K0.out.alloc K0.out.size (.cells (sevenL f).toArray 119))
       rw [hz] at c0
       have c1 := (World.cell?_alloc_new W0 (sevenL f).toArray 119 k).trans (seven_at f k hlt)
       have c2 := World.frozen?_alloc_new W0 (sevenL f).toArray 119 k
       rw [Z0] at c1 c2
       have k0 : (0 : Int) ≤ (k : Int) := by omega
       have k1 : (k : Int) < (n : Int) := by omega
       have k7 : (k : Int) < 7 := by omega
       have WS := Lib.hid ((World.setCell_alloc_new (w := W0) (sevenL f).toArray 119 k (.int .i64 z)).trans (by rw [seven_set f k hlt z]))
       rw [Z0] at WS
       obtain ⟨wx, hwx⟩ : ∃ wx, W0.alloc (.cells (sevenL f).toArray 119) = wx := ⟨_, rfl⟩
       rw [hwx] at c0 c1 c2 WS
       rw [hwx]
       clear hc hz hwx
       go_wp2
       go_roundg (7 - (k + 1))
       case measure => have := HGK.out; omega
       case rel => exact ⟨k + 1, _, by omega, rfl, by go_num, WS.out⟩
     · have hn' : ¬ (k : Int) < (n : Int) := by omega
       have k7 : (k : Int) < 7 := by omega
       clear hn
       have RG := (seven_end w W0 HW0.out f).1
       have HG := (seven_end w W0 HW0.out f).2
       have KW := Lib.hid (K0.out.alloc K0.out.size (.cells (sevenL f).toArray 119))
       obtain ⟨wx, hwx⟩ : ∃ wx, W0.alloc (.cells (sevenL f).toArray 119) = wx := ⟨_, rfl⟩
       rw [hwx] at RG HG KW
       rw [hwx]
       clear hwx
       have RGH := Lib.hid RG
       have HGH := Lib.hid HG
       clear RG HG
       go_wp2_with (first | ((with_reducible show wpList _ _ _ _ _ _); (refine wpList_load_mid rfl 119 (.tmp 3) rfl (w.heap.size + 1) 0 rfl (sevenL f) _ RGH.out Tryz.underlying119 rfl (by kernel_rfl) ?_)) | ((with_reducible show wpList _ _ _ _ _ _); (refine wpList_store_row rfl 119 (.tmp 2) (.tmp 21) rfl w.heap.size (sevenL f).toArray rfl rfl _ _ HGH.out (seven_size f) rfl (seven_one f) ?_)))
       (try simp only [Exit.inBlock, Exit.then])
       refine bodyPost_ret (results_cell rfl _ _ w.heap.size _ rfl (run_loadVar_row _ _ _ _ _ (0, 0) _ (setRow_heap _ _ _ _ _ _ HGH.out) Tryz.underlying119 rfl (seven_size f))) rfl ?_
       first | exact ⟨f, rfl, below_setRow KW.out (Nat.le_refl _) _⟩ | exact ⟨⟨f, rfl⟩, below_setRow KW.out (Nat.le_refl _) _⟩
   · obtain rfl : k = 7 := by omega
     clear hlt
     have RG := (seven_end w W0 HW0.out f).1
     have HG := (seven_end w W0 HW0.out f).2
     have KW := Lib.hid (K0.out.alloc K0.out.size (.cells (sevenL f).toArray 119))
     obtain ⟨wx, hwx⟩ : ∃ wx, W0.alloc (.cells (sevenL f).toArray 119) = wx := ⟨_, rfl⟩
     rw [hwx] at RG HG KW
     rw [hwx]
     clear hwx
     have RGH := Lib.hid RG
     have HGH := Lib.hid HG
     clear RG HG
     go_wp2_with (first | ((with_reducible show wpList _ _ _ _ _ _); (refine wpList_load_mid rfl 119 (.tmp 3) rfl (w.heap.size + 1) 0 rfl (sevenL f) _ RGH.out Tryz.underlying119 rfl (by kernel_rfl) ?_)) | ((with_reducible show wpList _ _ _ _ _ _); (refine wpList_store_row rfl 119 (.tmp 2) (.tmp 21) rfl w.heap.size (sevenL f).toArray rfl rfl _ _ HGH.out (seven_size f) rfl (seven_one f) ?_)))
     all_goals
       (try simp only [Exit.inBlock, Exit.then])
       refine bodyPost_ret (results_cell rfl _ _ w.heap.size _ rfl (run_loadVar_row _ _ _ _ _ (0, 0) _ (setRow_heap _ _ _ _ _ _ HGH.out) Tryz.underlying119 rfl (seven_size f))) rfl ?_
       first | exact ⟨f, rfl, below_setRow KW.out (Nat.le_refl _) _⟩ | exact ⟨⟨f, rfl⟩, below_setRow KW.out (Nat.le_refl _) _⟩
theorem amount_v (n : Int) : ∃ y, ∀ w, Calls Tryz.prog 17 #[.int .i64 n] w fun e w' => e = .returned (.int .i64 y) ∧ w = w' := by
 by_cases h0 : Int.tmod n 23 = 20
 · apply Exists.intro
   intro w
   go_enter Tryz.func17, Tryz.ntmps17
   go_wp2_with (go_at_call 7; (with_reducible refine (within_any _ _ _ (by omega) (by omega)).mono ?_); rintro e w' ⟨rfl, rfl⟩)
   go_ret
   exact ⟨rfl, rfl⟩
 by_cases h1 : Int.tmod n 23 = 21
 · apply Exists.intro
   intro w
   go_enter Tryz.func17, Tryz.ntmps17
   go_wp2_with (go_at_call 7; (with_reducible refine (within_any _ _ _ (by omega) (by omega)).mono ?_); rintro e w' ⟨rfl, rfl⟩)
   go_ret
   exact ⟨rfl, rfl⟩
 by_cases h2 : Int.tmod n 23 = 22
 · apply Exists.intro
   intro w
   go_enter Tryz.func17, Tryz.ntmps17
   go_wp2_with (go_at_call 7; (with_reducible refine (within_any _ _ _ (by omega) (by omega)).mono ?_); rintro e w' ⟨rfl, rfl⟩)
   go_ret
   exact ⟨rfl, rfl⟩
 by_cases h3 : Int.tmod n 23 = 19
 · apply Exists.intro
   intro w
   go_enter Tryz.func17, Tryz.ntmps17
   go_wp2_with (go_at_call 7; (with_reducible refine (within_any _ _ _ (by omega) (by omega)).mono ?_); rintro e w' ⟨rfl, rfl⟩)
   go_ret
   exact ⟨rfl, rfl⟩
 · apply Exists.intro
   intro w
   go_enter Tryz.func17, Tryz.ntmps17
   go_wp2_with (go_at_call 7; (with_reducible refine (within_any _ _ _ (by omega) (by omega)).mono ?_); rintro e w' ⟨rfl, rfl⟩)
   go_ret
   exact ⟨rfl, rfl⟩
end Go.Proofs.YtmlafdehhbhbiaaGreat
