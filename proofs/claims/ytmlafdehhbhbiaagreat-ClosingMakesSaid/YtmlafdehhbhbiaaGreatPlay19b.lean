/- The document's play: an input of numbers. -/
import Derived.Test.YtmlafdehhbhbiaaGreatPlay19
import Derived.Test.YtmlafdehhbhbiaaGreatOrd4
import Derived.Test.YtmlafdehhbhbiaaGreatTk
import Derived.Test.YtmlafdehhbhbiaaGreatMkQ
namespace Go.Proofs.YtmlafdehhbhbiaaGreat
open Go.RowKit
section
variable {P : Program} {ops : Array Oper} {Q : Exit → Act → World → Prop} {md : Region.Mode} {C : World → Prop} {q : Nat}
theorem AnyTill.three {i k l : Nat} {o o' o2 : Oper} {fuel : Nat} {listed : Array Bool} {a : Act} {w : World} (hr : Region.ready md ops listed = [i, k, l]) (ho : ops[i]? = some o) (ho' : ops[k]? = some o') (ho2 : ops[l]? = some o2)
   (h : ∀ K' : Act → World → Prop, Shut (∀ a w, (i = q ∨ C w) → AnyTill P md ops Q C q fuel (listed.setIfInBounds i true) a w → K' a w) → if Region.wanted o (yielded ops a.tmps) = true then Oper.wp P o a w K' Q else K' (a.put o.dst undef) w)
   (h' : ∀ K' : Act → World → Prop, Shut (∀ a w, (k = q ∨ C w) → AnyTill P md ops Q C q fuel (listed.setIfInBounds k true) a w → K' a w) → if Region.wanted o' (yielded ops a.tmps) = true then Oper.wp P o' a w K' Q else K' (a.put o'.dst undef) w)
   (h2 : ∀ K' : Act → World → Prop, Shut (∀ a w, (l = q ∨ C w) → AnyTill P md ops Q C q fuel (listed.setIfInBounds l true) a w → K' a w) → if Region.wanted o2 (yielded ops a.tmps) = true then Oper.wp P o2 a w K' Q else K' (a.put o2.dst undef) w) :
   AnyTill P md ops Q C q (fuel + 1) listed a w :=
 ⟨fun h0 => (by rw [hr] at h0; cases h0), fun j hj => by
   rw [hr] at hj
   have : j = i ∨ j = k ∨ j = l := by simpa using hj
   rcases this with rfl | rfl | rfl
   · exact wpOp_step ho fun K' hK => h K' fun a w h1 h2 => hK a w ⟨h1, h2⟩
   · exact wpOp_step ho' fun K' hK => h' K' fun a w h1 h2 => hK a w ⟨h1, h2⟩
   · exact wpOp_step ho2 fun K' hK => h2 K' fun a w h1 h2 => hK a w ⟨h1, h2⟩⟩
end
theorem in_size (i : MIn) : (Tryz.prog.info? 66).map (·.size) = some (inL i).toArray.size := by
 rw [show (inL i).toArray.size = 8 from rfl]; kernel_rfl
set_option maxHeartbeats 32000000 in
set_option maxRecDepth 100000 in
theorem pin_some (p : Int) (A : Option Addr) (n c : Nat) (zs : List Int) (w : World) (h : IsRow .i64 w A n c zs) :
   Calls Tryz.prog 18 #[.int .i64 p, .slice A n c] w fun e w' => ∃ i : MIn, e = .returned (.agg (inL i).toArray) ∧ Below w.heap.size w w' := by
 obtain ⟨W0, hW0⟩ : ∃ W0, w.alloc (.cells #[.string ⟨#[]⟩, .int .i64 0, .int .i64 0, .int .i64 0, .int .i64 0, .int .i64 0, .int .i64 0, .int .i64 0] 66) = W0 := ⟨_, rfl⟩
 have K0 := Lib.hid (show Below w.heap.size w W0 by rw [← hW0]; exact (Below.refl _ _).alloc (Nat.le_refl _) _)
 have G0 := Lib.hid (show W0.heap[w.heap.size]? = some (.cells #[.string ⟨#[]⟩, .int .i64 0, .int .i64 0, .int .i64 0, .int .i64 0, .int .i64 0, .int .i64 0, .int .i64 0] 66 (0, 0)) by rw [← hW0]; exact heap_alloc_last w _)
 have Z0 := Lib.hid (show w.heap.size < W0.heap.size by rw [← hW0]; simp)
 have HW0 := Lib.hid hW0
 have CS := Lib.hid (seven_some A n c zs W0 (h.below K0.out))
 clear hW0 h
 go_enter Tryz.func18, Tryz.ntmps18
 go_wp2_with fail
 rw [HW0.out]
 refine (CS.out).mono ?_
 rintro e w1 ⟨f, rfl, hb1⟩
 have K1 := Lib.hid (K0.out.trans (hb1.mono K0.out.size))
 have G1 := Lib.hid ((hb1.block _ Z0.out).trans G0.out)
 have Z1 := Lib.hid (Nat.lt_of_lt_of_le Z0.out hb1.size)
 clear hb1 CS K0 G0 Z0 HW0
 go_upto_region 2 with ((with_reducible show wpList _ _ _ _ _ _); (refine wpList_store_row rfl 119 (.tmp 5) (.tmp 8) rfl w1.heap.size (sevenL f).toArray rfl rfl _ _ (heap_alloc_last _ _) (seven_size f) rfl (seven_one f) ?_; rw [World.setRow_alloc_new]))
 obtain ⟨z0, hz0⟩ : ∃ z, f 0 = z := ⟨_, rfl⟩
 obtain ⟨z1, hz1⟩ : ∃ z, f 1 = z := ⟨_, rfl⟩
 obtain ⟨z2, hz2⟩ : ∃ z, f 2 = z := ⟨_, rfl⟩
 obtain ⟨z3, hz3⟩ : ∃ z, f 3 = z := ⟨_, rfl⟩
 obtain ⟨z4, hz4⟩ : ∃ z, f 4 = z := ⟨_, rfl⟩
 obtain ⟨z5, hz5⟩ : ∃ z, f 5 = z := ⟨_, rfl⟩
 obtain ⟨z6, hz6⟩ : ∃ z, f 6 = z := ⟨_, rfl⟩
 have x0 : 0 ≤ z0 % 2 ∧ z0 % 2 < 2 := by omega
 obtain ⟨x, hx⟩ : ∃ x : Nat, z0 % 2 = x := ⟨(z0 % 2).toNat, by omega⟩
 have HX := Lib.hid hx
 have xl : x < 2 := by omega
 have xi : (x : Int) < 2 := by omega
 have xj : (0 : Int) ≤ (x : Int) := by omega
 obtain ⟨J, hJ⟩ : ∃ J, (#[Value.string ⟨#[117, 107]⟩, .string ⟨#[100, 101]⟩] : Array Value)[x]? = some (.string J) := by
   rcases (show x = 0 ∨ x = 1 by omega) with rfl | rfl
   · exact ⟨_, rfl⟩
   · exact ⟨_, rfl⟩
 have HJ := Lib.hid hJ
 obtain ⟨y1, a1⟩ := amount_v z1
 obtain ⟨y2, a2⟩ := amount_v z2
 obtain ⟨y6, a6⟩ := amount_v z6
 have A1 := Lib.hid a1
 have A2 := Lib.hid a2
 have A6 := Lib.hid a6
 have RR := Lib.hid fun (z : Int) w5 => rate_some z w5
 obtain ⟨a5, ha5⟩ : ∃ a5, w1.heap.size = a5 := ⟨_, rfl⟩
 have cl : ∀ (j : Nat) (u : Value), (sevenL f)[j]? = some u → (w1.alloc (.cells (sevenL f).toArray 119)).cell? ⟨a5, j, none⟩ = some u := fun j u hu => by
   rw [← ha5, World.cell?_alloc_new]; simpa using hu
 have bz := (Below.refl w1.heap.size w1).alloc (Nat.le_refl _) (.cells (sevenL f).toArray 119)
 obtain ⟨w2, hw2⟩ : ∃ w2, w1.alloc (.cells (sevenL f).toArray 119) = w2 := ⟨_, rfl⟩
 rw [hw2] at cl bz
 rw [ha5, hw2]
 have c0 : w2.cell? ⟨a5, 0, none⟩ = some (.int .i64 z0) := by rw [← hz0]; exact cl 0 _ rfl
 have c1 : w2.cell? ⟨a5, 1, none⟩ = some (.int .i64 z1) := by rw [← hz1]; exact cl 1 _ rfl
 have c2 : w2.cell? ⟨a5, 2, none⟩ = some (.int .i64 z2) := by rw [← hz2]; exact cl 2 _ rfl
 have c3 : w2.cell? ⟨a5, 3, none⟩ = some (.int .i64 z3) := by rw [← hz3]; exact cl 3 _ rfl
 have c4 : w2.cell? ⟨a5, 4, none⟩ = some (.int .i64 z4) := by rw [← hz4]; exact cl 4 _ rfl
 have c5 : w2.cell? ⟨a5, 5, none⟩ = some (.int .i64 z5) := by rw [← hz5]; exact cl 5 _ rfl
 have c6 : w2.cell? ⟨a5, 6, none⟩ = some (.int .i64 z6) := by rw [← hz6]; exact cl 6 _ rfl
 have K2 := Lib.hid (K1.out.trans (bz.mono K1.out.size))
 have G2 := Lib.hid ((bz.block _ Z1.out).trans G1.out)
 have Z2 := Lib.hid (Nat.lt_of_lt_of_le Z1.out bz.size)
 have SC := Lib.hid (show w2.cell? ⟨a5, 0, none⟩ = some (.int .i64 z0) ∧ w2.cell? ⟨a5, 1, none⟩ = some (.int .i64 z1) ∧ w2.cell? ⟨a5, 2, none⟩ = some (.int .i64 z2) ∧ w2.cell? ⟨a5, 3, none⟩ = some (.int .i64 z3) ∧ w2.cell? ⟨a5, 4, none⟩ = some (.int .i64 z4) ∧ w2.cell? ⟨a5, 5, none⟩ = some (.int .i64 z5) ∧ w2.cell? ⟨a5, 6, none⟩ = some (.int .i64 z6) from ⟨c0, c1, c2, c3, c4, c5, c6⟩)
 clear cl bz hw2 hx hJ a1 a2 a6 x0 K1 G1 Z1 ha5 c0 hz0 c1 hz1 c2 hz2 c3 hz3 c4 hz4 c5 hz5 c6 hz6
 simp only [Act.put]
 go_cut [6] (fun s6 wx => ∃ (B : Nat) (i : MIn), s6 = ptr B ∧ wx.heap[B]? = some (.cells (inL i).toArray 66 (0, 0)) ∧ wx.heap[w.heap.size]? = some (.cells #[.string ⟨#[]⟩, .int .i64 0, .int .i64 0, .int .i64 0, .int .i64 0, .int .i64 0, .int .i64 0, .int .i64 0] 66 (0, 0)) ∧ w.heap.size < B ∧ Below w.heap.size w wx)
 case first =>
   refine wp_region_noPanic ?_
   refine AnyTill.begin (C := fun w' => w'.cell? ⟨a5, 0, none⟩ = some (.int .i64 z0) ∧ w'.cell? ⟨a5, 1, none⟩ = some (.int .i64 z1) ∧ w'.cell? ⟨a5, 2, none⟩ = some (.int .i64 z2) ∧ w'.cell? ⟨a5, 3, none⟩ = some (.int .i64 z3) ∧ w'.cell? ⟨a5, 4, none⟩ = some (.int .i64 z4) ∧ w'.cell? ⟨a5, 5, none⟩ = some (.int .i64 z5) ∧ w'.cell? ⟨a5, 6, none⟩ = some (.int .i64 z6)) (q := 99) (by kernel_rfl) ?_
   obtain ⟨wd, hwd⟩ : ∃ wd, w2.drew = wd := ⟨_, rfl⟩
   rw [hwd]
   have scd : wd.cell? ⟨a5, 0, none⟩ = some (.int .i64 z0) ∧ wd.cell? ⟨a5, 1, none⟩ = some (.int .i64 z1) ∧ wd.cell? ⟨a5, 2, none⟩ = some (.int .i64 z2) ∧ wd.cell? ⟨a5, 3, none⟩ = some (.int .i64 z3) ∧ wd.cell? ⟨a5, 4, none⟩ = some (.int .i64 z4) ∧ wd.cell? ⟨a5, 5, none⟩ = some (.int .i64 z5) ∧ wd.cell? ⟨a5, 6, none⟩ = some (.int .i64 z6) := by rw [← hwd]; exact SC.out
   refine AnyTill.tk 1 scd ?_
   refine AnyTill.tk 2 scd ?_
   refine AnyTill.tc (i := 3) (v := .int .i64 x) (f := 7) (args := #[.int .i64 z0, .int .i64 2]) (hc := fun w' _ => within_at z0 2 x w' (by omega) (by omega) HX) (hC := scd) (h := ?_)
   refine AnyTill.tk 6 scd ?_
   refine AnyTill.tc (i := 7) (v := .int .i64 (p % 20)) (f := 7) (args := #[.int .i64 p, .int .i64 20]) (hc := fun w' _ => within_any p 20 w' (by omega) (by omega)) (hC := scd) (h := ?_)
   refine AnyTill.tk 8 scd ?_
   refine AnyTill.tk 9 scd ?_
   refine AnyTill.tc (i := 10) (v := .int .i64 y1) (f := 17) (args := #[.int .i64 z1]) (hc := fun w' _ => A1.out w') (hC := scd) (h := ?_)
   refine AnyTill.tk 11 scd ?_
   refine AnyTill.tk 12 scd ?_
   refine AnyTill.tc (i := 13) (v := .int .i64 y2) (f := 17) (args := #[.int .i64 z2]) (hc := fun w' _ => A2.out w') (hC := scd) (h := ?_)
   refine AnyTill.tk 14 scd ?_
   refine AnyTill.tk 15 scd ?_
   refine AnyTill.tk 17 scd ?_
   refine AnyTill.tk 18 scd ?_
   refine AnyTill.tk 20 scd ?_
   refine AnyTill.tk 21 scd ?_
   refine AnyTill.tk 23 scd ?_
   refine AnyTill.tk 24 scd ?_
   have kd : Below w.heap.size w wd := by rw [← hwd]; exact K2.out.drew
   have gd : wd.heap[w.heap.size]? = some (.cells #[.string ⟨#[]⟩, .int .i64 0, .int .i64 0, .int .i64 0, .int .i64 0, .int .i64 0, .int .i64 0, .int .i64 0] 66 (0, 0)) := by rw [← hwd]; exact G2.out
   have zd : w.heap.size < wd.heap.size := by rw [← hwd]; exact Z2.out
   have la : a5 < wd.heap.size := World.block_lt_of_cell? _ _ scd.1
   refine' AnyTill.three (i := 0) (k := 16) (l := 27) (o := _) (o' := _) (o2 := _) (by kernel_rfl) ?p0a ?p0b ?p0c (fun K' hK => ?p0x) (fun K' hK => ?p0y) (fun K' hK => ?p0z)
   case p0a => (simp only [List.getElem?_toArray, List.getElem?_cons_zero]; rfl)
   case p0b => (simp only [List.getElem?_toArray, List.getElem?_cons_succ, List.getElem?_cons_zero]; rfl)
   case p0c => (simp only [List.getElem?_toArray, List.getElem?_cons_succ, List.getElem?_cons_zero]; rfl)
   case p0x =>
     go_simp
     have bb0e0 := (Below.refl wd.heap.size wd).alloc (Nat.le_refl _) (.cells #[.string ⟨#[117, 107]⟩, .string ⟨#[100, 101]⟩] 9)
     have ln0e0 : wd.heap.size < (wd.alloc (.cells #[.string ⟨#[117, 107]⟩, .string ⟨#[100, 101]⟩] 9)).heap.size := by simp
     have fc0e0 : (wd.alloc (.cells #[.string ⟨#[117, 107]⟩, .string ⟨#[100, 101]⟩] 9)).cell? ⟨wd.heap.size, x, none⟩ = some (.string J) := (World.cell?_alloc_new _ _ _ _).trans HJ.out
     obtain ⟨v0e0, hv0e0⟩ : ∃ v, wd.alloc (.cells #[.string ⟨#[117, 107]⟩, .string ⟨#[100, 101]⟩] 9) = v := ⟨_, rfl⟩
     rw [hv0e0] at bb0e0 ln0e0 fc0e0
     rw [hv0e0]
     have s0e0 : v0e0.cell? ⟨a5, 0, none⟩ = some (.int .i64 z0) ∧ v0e0.cell? ⟨a5, 1, none⟩ = some (.int .i64 z1) ∧ v0e0.cell? ⟨a5, 2, none⟩ = some (.int .i64 z2) ∧ v0e0.cell? ⟨a5, 3, none⟩ = some (.int .i64 z3) ∧ v0e0.cell? ⟨a5, 4, none⟩ = some (.int .i64 z4) ∧ v0e0.cell? ⟨a5, 5, none⟩ = some (.int .i64 z5) ∧ v0e0.cell? ⟨a5, 6, none⟩ = some (.int .i64 z6) := ⟨cell_keep scd.1 bb0e0, cell_keep scd.2.1 bb0e0, cell_keep scd.2.2.1 bb0e0, cell_keep scd.2.2.2.1 bb0e0, cell_keep scd.2.2.2.2.1 bb0e0, cell_keep scd.2.2.2.2.2.1 bb0e0, cell_keep scd.2.2.2.2.2.2 bb0e0⟩
     have kb0e0 := kd.trans (bb0e0.mono kd.size)
     have gz0e0 := (bb0e0.block _ zd).trans gd
     have zl0e0 := Nat.lt_of_lt_of_le zd bb0e0.size
     have la0e0 := Nat.lt_of_lt_of_le la bb0e0.size
     refine hK.out _ _ (.inr s0e0) ?_
     clear hK K'
     try simp only [pt]
     refine AnyTill.weaken (C' := fun w' => w'.cell? ⟨wd.heap.size, x, none⟩ = some (.string J) ∧ w'.cell? ⟨a5, 0, none⟩ = some (.int .i64 z0) ∧ w'.cell? ⟨a5, 1, none⟩ = some (.int .i64 z1) ∧ w'.cell? ⟨a5, 2, none⟩ = some (.int .i64 z2) ∧ w'.cell? ⟨a5, 3, none⟩ = some (.int .i64 z3) ∧ w'.cell? ⟨a5, 4, none⟩ = some (.int .i64 z4) ∧ w'.cell? ⟨a5, 5, none⟩ = some (.int .i64 z5) ∧ w'.cell? ⟨a5, 6, none⟩ = some (.int .i64 z6)) (fun _ h => h.2) _ _ _ _ ?_
     have sj0e0 : v0e0.cell? ⟨wd.heap.size, x, none⟩ = some (.string J) ∧ v0e0.cell? ⟨a5, 0, none⟩ = some (.int .i64 z0) ∧ v0e0.cell? ⟨a5, 1, none⟩ = some (.int .i64 z1) ∧ v0e0.cell? ⟨a5, 2, none⟩ = some (.int .i64 z2) ∧ v0e0.cell? ⟨a5, 3, none⟩ = some (.int .i64 z3) ∧ v0e0.cell? ⟨a5, 4, none⟩ = some (.int .i64 z4) ∧ v0e0.cell? ⟨a5, 5, none⟩ = some (.int .i64 z5) ∧ v0e0.cell? ⟨a5, 6, none⟩ = some (.int .i64 z6) := ⟨fc0e0, s0e0⟩
     refine AnyTill.tk 4 sj0e0 ?_
     refine AnyTill.tk 5 sj0e0 ?_
     refine' AnyTill.two (i := 16) (k := 27) (o := _) (o' := _) (by kernel_rfl) ?p1a ?p1b (fun K' hK => ?p1x) (fun K' hK => ?p1y)
     case p1a => (simp only [List.getElem?_toArray, List.getElem?_cons_succ, List.getElem?_cons_zero]; rfl)
     case p1b => (simp only [List.getElem?_toArray, List.getElem?_cons_succ, List.getElem?_cons_zero]; rfl)
     case p1x =>
       go_simp
       (go_at_call 48; (refine (RR.out z3 _).mono ?_); rintro e v1e16 ⟨r16, rfl, bb1e16⟩)
       have s1e16 : v1e16.cell? ⟨wd.heap.size, x, none⟩ = some (.string J) ∧ v1e16.cell? ⟨a5, 0, none⟩ = some (.int .i64 z0) ∧ v1e16.cell? ⟨a5, 1, none⟩ = some (.int .i64 z1) ∧ v1e16.cell? ⟨a5, 2, none⟩ = some (.int .i64 z2) ∧ v1e16.cell? ⟨a5, 3, none⟩ = some (.int .i64 z3) ∧ v1e16.cell? ⟨a5, 4, none⟩ = some (.int .i64 z4) ∧ v1e16.cell? ⟨a5, 5, none⟩ = some (.int .i64 z5) ∧ v1e16.cell? ⟨a5, 6, none⟩ = some (.int .i64 z6) := ⟨cell_keep sj0e0.1 bb1e16, cell_keep sj0e0.2.1 bb1e16, cell_keep sj0e0.2.2.1 bb1e16, cell_keep sj0e0.2.2.2.1 bb1e16, cell_keep sj0e0.2.2.2.2.1 bb1e16, cell_keep sj0e0.2.2.2.2.2.1 bb1e16, cell_keep sj0e0.2.2.2.2.2.2.1 bb1e16, cell_keep sj0e0.2.2.2.2.2.2.2 bb1e16⟩
       have kb1e16 := kb0e0.trans (bb1e16.mono kb0e0.size)
       have gz1e16 := (bb1e16.block _ zl0e0).trans gz0e0
       have zl1e16 := Nat.lt_of_lt_of_le zl0e0 bb1e16.size
       have la1e16 := Nat.lt_of_lt_of_le la0e0 bb1e16.size
       refine hK.out _ _ (.inr s1e16) ?_
       clear hK K'
       try simp only [pt]
       have jl1e16 := Nat.lt_of_lt_of_le ln0e0 bb1e16.size
       refine' AnyTill.two (i := 19) (k := 27) (o := _) (o' := _) (by kernel_rfl) ?p2a ?p2b (fun K' hK => ?p2x) (fun K' hK => ?p2y)
       case p2a => (simp only [List.getElem?_toArray, List.getElem?_cons_succ, List.getElem?_cons_zero]; rfl)
       case p2b => (simp only [List.getElem?_toArray, List.getElem?_cons_succ, List.getElem?_cons_zero]; rfl)
       case p2x =>
         go_simp
         (go_at_call 48; (refine (RR.out z4 _).mono ?_); rintro e v2e19 ⟨r19, rfl, bb2e19⟩)
         have s2e19 : v2e19.cell? ⟨wd.heap.size, x, none⟩ = some (.string J) ∧ v2e19.cell? ⟨a5, 0, none⟩ = some (.int .i64 z0) ∧ v2e19.cell? ⟨a5, 1, none⟩ = some (.int .i64 z1) ∧ v2e19.cell? ⟨a5, 2, none⟩ = some (.int .i64 z2) ∧ v2e19.cell? ⟨a5, 3, none⟩ = some (.int .i64 z3) ∧ v2e19.cell? ⟨a5, 4, none⟩ = some (.int .i64 z4) ∧ v2e19.cell? ⟨a5, 5, none⟩ = some (.int .i64 z5) ∧ v2e19.cell? ⟨a5, 6, none⟩ = some (.int .i64 z6) := ⟨cell_keep s1e16.1 bb2e19, cell_keep s1e16.2.1 bb2e19, cell_keep s1e16.2.2.1 bb2e19, cell_keep s1e16.2.2.2.1 bb2e19, cell_keep s1e16.2.2.2.2.1 bb2e19, cell_keep s1e16.2.2.2.2.2.1 bb2e19, cell_keep s1e16.2.2.2.2.2.2.1 bb2e19, cell_keep s1e16.2.2.2.2.2.2.2 bb2e19⟩
         have kb2e19 := kb1e16.trans (bb2e19.mono kb1e16.size)
         have gz2e19 := (bb2e19.block _ zl1e16).trans gz1e16
         have zl2e19 := Nat.lt_of_lt_of_le zl1e16 bb2e19.size
         have la2e19 := Nat.lt_of_lt_of_le la1e16 bb2e19.size
         refine hK.out _ _ (.inr s2e19) ?_
         clear hK K'
         try simp only [pt]
         have jl2e19 := Nat.lt_of_lt_of_le jl1e16 bb2e19.size
         refine AnyTill.tc (i := 22) (v := .int .i64 (z5 % 5)) (f := 7) (args := #[.int .i64 z5, .int .i64 5]) (hc := fun w' _ => within_any z5 5 w' (by omega) (by omega)) (hC := s2e19) (h := ?_)
         refine AnyTill.tc (i := 25) (v := .int .i64 y6) (f := 17) (args := #[.int .i64 z6]) (hc := fun w' _ => A6.out w') (hC := s2e19) (h := ?_)
         refine AnyTill.tk 26 s2e19 ?_
         refine AnyTill.on 27 fun K' hK => ?_
         go_simp
         have bb3 := (Below.refl v2e19.heap.size v2e19).alloc (Nat.le_refl _) (.cells #[.string ⟨#[]⟩, .int .i64 0, .int .i64 0, .int .i64 0, .int .i64 0, .int .i64 0, .int .i64 0, .int .i64 0] 66)
         have ln3 : v2e19.heap.size < (v2e19.alloc (.cells #[.string ⟨#[]⟩, .int .i64 0, .int .i64 0, .int .i64 0, .int .i64 0, .int .i64 0, .int .i64 0, .int .i64 0] 66)).heap.size := by simp
         have fc3 := heap_alloc_last v2e19 (.cells #[.string ⟨#[]⟩, .int .i64 0, .int .i64 0, .int .i64 0, .int .i64 0, .int .i64 0, .int .i64 0, .int .i64 0] 66)
         obtain ⟨v3, hv3⟩ : ∃ v, v2e19.alloc (.cells #[.string ⟨#[]⟩, .int .i64 0, .int .i64 0, .int .i64 0, .int .i64 0, .int .i64 0, .int .i64 0, .int .i64 0] 66) = v := ⟨_, rfl⟩
         rw [hv3] at bb3 ln3 fc3
         rw [hv3]
         have s3 : v3.cell? ⟨wd.heap.size, x, none⟩ = some (.string J) ∧ v3.cell? ⟨a5, 0, none⟩ = some (.int .i64 z0) ∧ v3.cell? ⟨a5, 1, none⟩ = some (.int .i64 z1) ∧ v3.cell? ⟨a5, 2, none⟩ = some (.int .i64 z2) ∧ v3.cell? ⟨a5, 3, none⟩ = some (.int .i64 z3) ∧ v3.cell? ⟨a5, 4, none⟩ = some (.int .i64 z4) ∧ v3.cell? ⟨a5, 5, none⟩ = some (.int .i64 z5) ∧ v3.cell? ⟨a5, 6, none⟩ = some (.int .i64 z6) := ⟨cell_keep s2e19.1 bb3, cell_keep s2e19.2.1 bb3, cell_keep s2e19.2.2.1 bb3, cell_keep s2e19.2.2.2.1 bb3, cell_keep s2e19.2.2.2.2.1 bb3, cell_keep s2e19.2.2.2.2.2.1 bb3, cell_keep s2e19.2.2.2.2.2.2.1 bb3, cell_keep s2e19.2.2.2.2.2.2.2 bb3⟩
         have kb3 := kb2e19.trans (bb3.mono kb2e19.size)
         have gz3 := (bb3.block _ zl2e19).trans gz2e19
         have zl3 := Nat.lt_of_lt_of_le zl2e19 bb3.size
         have la3 := Nat.lt_of_lt_of_le la2e19 bb3.size
         refine hK.out _ _ (.inr s3) ?_
         clear hK K'
         try simp only [pt]
         have jl3 := Nat.lt_of_lt_of_le jl2e19 bb3.size
         have hB : w.heap.size < v2e19.heap.size := zl2e19
         have hA : a5 < v2e19.heap.size := la2e19
         refine AnyTill.on 28 fun K' hK => ?_
         rw [if_pos (by rfl)]
         refine wp_store_row 66 (.tmp 6) (.tmp 35) rfl v2e19.heap.size (inL ⟨J, p % 20, y1, y2, r16, r19, z5 % 5, y6⟩).toArray rfl rfl _ _ fc3 (in_size _) rfl (in_one _) ?_
         have ne5 : a5 ≠ v2e19.heap.size := by omega
         have neJ : wd.heap.size ≠ v2e19.heap.size := by have := jl2e19; omega
         refine hK.out _ _ (.inr ⟨by rw [cell_setRow_other _ _ _ _ (show _ ≠ v2e19.heap.size from neJ)]; exact s3.1, by rw [cell_setRow_other _ _ _ _ (show _ ≠ v2e19.heap.size from ne5)]; exact s3.2.1, by rw [cell_setRow_other _ _ _ _ (show _ ≠ v2e19.heap.size from ne5)]; exact s3.2.2.1, by rw [cell_setRow_other _ _ _ _ (show _ ≠ v2e19.heap.size from ne5)]; exact s3.2.2.2.1, by rw [cell_setRow_other _ _ _ _ (show _ ≠ v2e19.heap.size from ne5)]; exact s3.2.2.2.2.1, by rw [cell_setRow_other _ _ _ _ (show _ ≠ v2e19.heap.size from ne5)]; exact s3.2.2.2.2.2.1, by rw [cell_setRow_other _ _ _ _ (show _ ≠ v2e19.heap.size from ne5)]; exact s3.2.2.2.2.2.2.1, by rw [cell_setRow_other _ _ _ _ (show _ ≠ v2e19.heap.size from ne5)]; exact s3.2.2.2.2.2.2.2⟩) ?_
         clear hK K'
         try simp only [pt]
         refine AnyTill.done (by kernel_rfl) ?_ _
         refine NoPanic.normal ?_
         go_wp2
         go_meet
         exact ⟨v2e19.heap.size, ⟨J, p % 20, y1, y2, r16, r19, z5 % 5, y6⟩, rfl, setRow_heap _ _ _ _ _ _ fc3, (setRow_other _ _ _ _ (show w.heap.size ≠ v2e19.heap.size by omega)).trans gz3, hB, below_setRow kb3 (by omega) _⟩
       case p2y =>
         go_simp
         have bb2e27 := (Below.refl v1e16.heap.size v1e16).alloc (Nat.le_refl _) (.cells #[.string ⟨#[]⟩, .int .i64 0, .int .i64 0, .int .i64 0, .int .i64 0, .int .i64 0, .int .i64 0, .int .i64 0] 66)
         have ln2e27 : v1e16.heap.size < (v1e16.alloc (.cells #[.string ⟨#[]⟩, .int .i64 0, .int .i64 0, .int .i64 0, .int .i64 0, .int .i64 0, .int .i64 0, .int .i64 0] 66)).heap.size := by simp
         have fc2e27 := heap_alloc_last v1e16 (.cells #[.string ⟨#[]⟩, .int .i64 0, .int .i64 0, .int .i64 0, .int .i64 0, .int .i64 0, .int .i64 0, .int .i64 0] 66)
         obtain ⟨v2e27, hv2e27⟩ : ∃ v, v1e16.alloc (.cells #[.string ⟨#[]⟩, .int .i64 0, .int .i64 0, .int .i64 0, .int .i64 0, .int .i64 0, .int .i64 0, .int .i64 0] 66) = v := ⟨_, rfl⟩
         rw [hv2e27] at bb2e27 ln2e27 fc2e27
         rw [hv2e27]
         have s2e27 : v2e27.cell? ⟨wd.heap.size, x, none⟩ = some (.string J) ∧ v2e27.cell? ⟨a5, 0, none⟩ = some (.int .i64 z0) ∧ v2e27.cell? ⟨a5, 1, none⟩ = some (.int .i64 z1) ∧ v2e27.cell? ⟨a5, 2, none⟩ = some (.int .i64 z2) ∧ v2e27.cell? ⟨a5, 3, none⟩ = some (.int .i64 z3) ∧ v2e27.cell? ⟨a5, 4, none⟩ = some (.int .i64 z4) ∧ v2e27.cell? ⟨a5, 5, none⟩ = some (.int .i64 z5) ∧ v2e27.cell? ⟨a5, 6, none⟩ = some (.int .i64 z6) := ⟨cell_keep s1e16.1 bb2e27, cell_keep s1e16.2.1 bb2e27, cell_keep s1e16.2.2.1 bb2e27, cell_keep s1e16.2.2.2.1 bb2e27, cell_keep s1e16.2.2.2.2.1 bb2e27, cell_keep s1e16.2.2.2.2.2.1 bb2e27, cell_keep s1e16.2.2.2.2.2.2.1 bb2e27, cell_keep s1e16.2.2.2.2.2.2.2 bb2e27⟩
         have kb2e27 := kb1e16.trans (bb2e27.mono kb1e16.size)
         have gz2e27 := (bb2e27.block _ zl1e16).trans gz1e16
         have zl2e27 := Nat.lt_of_lt_of_le zl1e16 bb2e27.size
         have la2e27 := Nat.lt_of_lt_of_le la1e16 bb2e27.size
         refine hK.out _ _ (.inr s2e27) ?_
         clear hK K'
         try simp only [pt]
         have jl2e27 := Nat.lt_of_lt_of_le jl1e16 bb2e27.size
         have hB : w.heap.size < v1e16.heap.size := zl1e16
         have hA : a5 < v1e16.heap.size := la1e16
         refine AnyTill.on 19 fun K' hK => ?_
         go_simp
         (go_at_call 48; (refine (RR.out z4 _).mono ?_); rintro e v5 ⟨r19, rfl, bb5⟩)
         have s5 : v5.cell? ⟨wd.heap.size, x, none⟩ = some (.string J) ∧ v5.cell? ⟨a5, 0, none⟩ = some (.int .i64 z0) ∧ v5.cell? ⟨a5, 1, none⟩ = some (.int .i64 z1) ∧ v5.cell? ⟨a5, 2, none⟩ = some (.int .i64 z2) ∧ v5.cell? ⟨a5, 3, none⟩ = some (.int .i64 z3) ∧ v5.cell? ⟨a5, 4, none⟩ = some (.int .i64 z4) ∧ v5.cell? ⟨a5, 5, none⟩ = some (.int .i64 z5) ∧ v5.cell? ⟨a5, 6, none⟩ = some (.int .i64 z6) := ⟨cell_keep s2e27.1 bb5, cell_keep s2e27.2.1 bb5, cell_keep s2e27.2.2.1 bb5, cell_keep s2e27.2.2.2.1 bb5, cell_keep s2e27.2.2.2.2.1 bb5, cell_keep s2e27.2.2.2.2.2.1 bb5, cell_keep s2e27.2.2.2.2.2.2.1 bb5, cell_keep s2e27.2.2.2.2.2.2.2 bb5⟩
         have kb5 := kb2e27.trans (bb5.mono kb2e27.size)
         have gz5 := (bb5.block _ zl2e27).trans gz2e27
         have zl5 := Nat.lt_of_lt_of_le zl2e27 bb5.size
         have la5 := Nat.lt_of_lt_of_le la2e27 bb5.size
         refine hK.out _ _ (.inr s5) ?_
         clear hK K'
         try simp only [pt]
         have hh5 := (bb5.block _ ln2e27).trans fc2e27
         have hl5 := Nat.lt_of_lt_of_le ln2e27 bb5.size
         have jl5 := Nat.lt_of_lt_of_le jl2e27 bb5.size
         refine AnyTill.tc (i := 22) (v := .int .i64 (z5 % 5)) (f := 7) (args := #[.int .i64 z5, .int .i64 5]) (hc := fun w' _ => within_any z5 5 w' (by omega) (by omega)) (hC := s5) (h := ?_)
         refine AnyTill.tc (i := 25) (v := .int .i64 y6) (f := 17) (args := #[.int .i64 z6]) (hc := fun w' _ => A6.out w') (hC := s5) (h := ?_)
         refine AnyTill.tk 26 s5 ?_
         refine AnyTill.on 28 fun K' hK => ?_
         rw [if_pos (by rfl)]
         refine wp_store_row 66 (.tmp 6) (.tmp 35) rfl v1e16.heap.size (inL ⟨J, p % 20, y1, y2, r16, r19, z5 % 5, y6⟩).toArray rfl rfl _ _ hh5 (in_size _) rfl (in_one _) ?_
         have ne5 : a5 ≠ v1e16.heap.size := by omega
         have neJ : wd.heap.size ≠ v1e16.heap.size := by have := jl1e16; omega
         refine hK.out _ _ (.inr ⟨by rw [cell_setRow_other _ _ _ _ (show _ ≠ v1e16.heap.size from neJ)]; exact s5.1, by rw [cell_setRow_other _ _ _ _ (show _ ≠ v1e16.heap.size from ne5)]; exact s5.2.1, by rw [cell_setRow_other _ _ _ _ (show _ ≠ v1e16.heap.size from ne5)]; exact s5.2.2.1, by rw [cell_setRow_other _ _ _ _ (show _ ≠ v1e16.heap.size from ne5)]; exact s5.2.2.2.1, by rw [cell_setRow_other _ _ _ _ (show _ ≠ v1e16.heap.size from ne5)]; exact s5.2.2.2.2.1, by rw [cell_setRow_other _ _ _ _ (show _ ≠ v1e16.heap.size from ne5)]; exact s5.2.2.2.2.2.1, by rw [cell_setRow_other _ _ _ _ (show _ ≠ v1e16.heap.size from ne5)]; exact s5.2.2.2.2.2.2.1, by rw [cell_setRow_other _ _ _ _ (show _ ≠ v1e16.heap.size from ne5)]; exact s5.2.2.2.2.2.2.2⟩) ?_
         clear hK K'
         try simp only [pt]
         refine AnyTill.done (by kernel_rfl) ?_ _
         refine NoPanic.normal ?_
         go_wp2
         go_meet
         exact ⟨v1e16.heap.size, ⟨J, p % 20, y1, y2, r16, r19, z5 % 5, y6⟩, rfl, setRow_heap _ _ _ _ _ _ hh5, (setRow_other _ _ _ _ (show w.heap.size ≠ v1e16.heap.size by omega)).trans gz5, hB, below_setRow kb5 (by omega) _⟩
     case p1y =>
       go_simp
       have bb1e27 := (Below.refl v0e0.heap.size v0e0).alloc (Nat.le_refl _) (.cells #[.string ⟨#[]⟩, .int .i64 0, .int .i64 0, .int .i64 0, .int .i64 0, .int .i64 0, .int .i64 0, .int .i64 0] 66)
       have ln1e27 : v0e0.heap.size < (v0e0.alloc (.cells #[.string ⟨#[]⟩, .int .i64 0, .int .i64 0, .int .i64 0, .int .i64 0, .int .i64 0, .int .i64 0, .int .i64 0] 66)).heap.size := by simp
       have fc1e27 := heap_alloc_last v0e0 (.cells #[.string ⟨#[]⟩, .int .i64 0, .int .i64 0, .int .i64 0, .int .i64 0, .int .i64 0, .int .i64 0, .int .i64 0] 66)
       obtain ⟨v1e27, hv1e27⟩ : ∃ v, v0e0.alloc (.cells #[.string ⟨#[]⟩, .int .i64 0, .int .i64 0, .int .i64 0, .int .i64 0, .int .i64 0, .int .i64 0, .int .i64 0] 66) = v := ⟨_, rfl⟩
       rw [hv1e27] at bb1e27 ln1e27 fc1e27
       rw [hv1e27]
       have s1e27 : v1e27.cell? ⟨wd.heap.size, x, none⟩ = some (.string J) ∧ v1e27.cell? ⟨a5, 0, none⟩ = some (.int .i64 z0) ∧ v1e27.cell? ⟨a5, 1, none⟩ = some (.int .i64 z1) ∧ v1e27.cell? ⟨a5, 2, none⟩ = some (.int .i64 z2) ∧ v1e27.cell? ⟨a5, 3, none⟩ = some (.int .i64 z3) ∧ v1e27.cell? ⟨a5, 4, none⟩ = some (.int .i64 z4) ∧ v1e27.cell? ⟨a5, 5, none⟩ = some (.int .i64 z5) ∧ v1e27.cell? ⟨a5, 6, none⟩ = some (.int .i64 z6) := ⟨cell_keep sj0e0.1 bb1e27, cell_keep sj0e0.2.1 bb1e27, cell_keep sj0e0.2.2.1 bb1e27, cell_keep sj0e0.2.2.2.1 bb1e27, cell_keep sj0e0.2.2.2.2.1 bb1e27, cell_keep sj0e0.2.2.2.2.2.1 bb1e27, cell_keep sj0e0.2.2.2.2.2.2.1 bb1e27, cell_keep sj0e0.2.2.2.2.2.2.2 bb1e27⟩
       have kb1e27 := kb0e0.trans (bb1e27.mono kb0e0.size)
       have gz1e27 := (bb1e27.block _ zl0e0).trans gz0e0
       have zl1e27 := Nat.lt_of_lt_of_le zl0e0 bb1e27.size
       have la1e27 := Nat.lt_of_lt_of_le la0e0 bb1e27.size
       refine hK.out _ _ (.inr s1e27) ?_
       clear hK K'
       try simp only [pt]
       have jl1e27 := Nat.lt_of_lt_of_le ln0e0 bb1e27.size
       have hB : w.heap.size < v0e0.heap.size := zl0e0
       have hA : a5 < v0e0.heap.size := la0e0
       refine AnyTill.on 16 fun K' hK => ?_
       go_simp
       (go_at_call 48; (refine (RR.out z3 _).mono ?_); rintro e v7 ⟨r16, rfl, bb7⟩)
       have s7 : v7.cell? ⟨wd.heap.size, x, none⟩ = some (.string J) ∧ v7.cell? ⟨a5, 0, none⟩ = some (.int .i64 z0) ∧ v7.cell? ⟨a5, 1, none⟩ = some (.int .i64 z1) ∧ v7.cell? ⟨a5, 2, none⟩ = some (.int .i64 z2) ∧ v7.cell? ⟨a5, 3, none⟩ = some (.int .i64 z3) ∧ v7.cell? ⟨a5, 4, none⟩ = some (.int .i64 z4) ∧ v7.cell? ⟨a5, 5, none⟩ = some (.int .i64 z5) ∧ v7.cell? ⟨a5, 6, none⟩ = some (.int .i64 z6) := ⟨cell_keep s1e27.1 bb7, cell_keep s1e27.2.1 bb7, cell_keep s1e27.2.2.1 bb7, cell_keep s1e27.2.2.2.1 bb7, cell_keep s1e27.2.2.2.2.1 bb7, cell_keep s1e27.2.2.2.2.2.1 bb7, cell_keep s1e27.2.2.2.2.2.2.1 bb7, cell_keep s1e27.2.2.2.2.2.2.2 bb7⟩
       have kb7 := kb1e27.trans (bb7.mono kb1e27.size)
       have gz7 := (bb7.block _ zl1e27).trans gz1e27
       have zl7 := Nat.lt_of_lt_of_le zl1e27 bb7.size
       have la7 := Nat.lt_of_lt_of_le la1e27 bb7.size
       refine hK.out _ _ (.inr s7) ?_
       clear hK K'
       try simp only [pt]
       have hh7 := (bb7.block _ ln1e27).trans fc1e27
       have hl7 := Nat.lt_of_lt_of_le ln1e27 bb7.size
       have jl7 := Nat.lt_of_lt_of_le jl1e27 bb7.size
       refine AnyTill.on 19 fun K' hK => ?_
       go_simp
       (go_at_call 48; (refine (RR.out z4 _).mono ?_); rintro e v8 ⟨r19, rfl, bb8⟩)
       have s8 : v8.cell? ⟨wd.heap.size, x, none⟩ = some (.string J) ∧ v8.cell? ⟨a5, 0, none⟩ = some (.int .i64 z0) ∧ v8.cell? ⟨a5, 1, none⟩ = some (.int .i64 z1) ∧ v8.cell? ⟨a5, 2, none⟩ = some (.int .i64 z2) ∧ v8.cell? ⟨a5, 3, none⟩ = some (.int .i64 z3) ∧ v8.cell? ⟨a5, 4, none⟩ = some (.int .i64 z4) ∧ v8.cell? ⟨a5, 5, none⟩ = some (.int .i64 z5) ∧ v8.cell? ⟨a5, 6, none⟩ = some (.int .i64 z6) := ⟨cell_keep s7.1 bb8, cell_keep s7.2.1 bb8, cell_keep s7.2.2.1 bb8, cell_keep s7.2.2.2.1 bb8, cell_keep s7.2.2.2.2.1 bb8, cell_keep s7.2.2.2.2.2.1 bb8, cell_keep s7.2.2.2.2.2.2.1 bb8, cell_keep s7.2.2.2.2.2.2.2 bb8⟩
       have kb8 := kb7.trans (bb8.mono kb7.size)
       have gz8 := (bb8.block _ zl7).trans gz7
       have zl8 := Nat.lt_of_lt_of_le zl7 bb8.size
       have la8 := Nat.lt_of_lt_of_le la7 bb8.size
       refine hK.out _ _ (.inr s8) ?_
       clear hK K'
       try simp only [pt]
       have hh8 := (bb8.block _ hl7).trans hh7
       have hl8 := Nat.lt_of_lt_of_le hl7 bb8.size
       have jl8 := Nat.lt_of_lt_of_le jl7 bb8.size
       refine AnyTill.tc (i := 22) (v := .int .i64 (z5 % 5)) (f := 7) (args := #[.int .i64 z5, .int .i64 5]) (hc := fun w' _ => within_any z5 5 w' (by omega) (by omega)) (hC := s8) (h := ?_)
       refine AnyTill.tc (i := 25) (v := .int .i64 y6) (f := 17) (args := #[.int .i64 z6]) (hc := fun w' _ => A6.out w') (hC := s8) (h := ?_)
       refine AnyTill.tk 26 s8 ?_
       refine AnyTill.on 28 fun K' hK => ?_
       rw [if_pos (by rfl)]
       refine wp_store_row 66 (.tmp 6) (.tmp 35) rfl v0e0.heap.size (inL ⟨J, p % 20, y1, y2, r16, r19, z5 % 5, y6⟩).toArray rfl rfl _ _ hh8 (in_size _) rfl (in_one _) ?_
       have ne5 : a5 ≠ v0e0.heap.size := by omega
       have neJ : wd.heap.size ≠ v0e0.heap.size := by have := ln0e0; omega
       refine hK.out _ _ (.inr ⟨by rw [cell_setRow_other _ _ _ _ (show _ ≠ v0e0.heap.size from neJ)]; exact s8.1, by rw [cell_setRow_other _ _ _ _ (show _ ≠ v0e0.heap.size from ne5)]; exact s8.2.1, by rw [cell_setRow_other _ _ _ _ (show _ ≠ v0e0.heap.size from ne5)]; exact s8.2.2.1, by rw [cell_setRow_other _ _ _ _ (show _ ≠ v0e0.heap.size from ne5)]; exact s8.2.2.2.1, by rw [cell_setRow_other _ _ _ _ (show _ ≠ v0e0.heap.size from ne5)]; exact s8.2.2.2.2.1, by rw [cell_setRow_other _ _ _ _ (show _ ≠ v0e0.heap.size from ne5)]; exact s8.2.2.2.2.2.1, by rw [cell_setRow_other _ _ _ _ (show _ ≠ v0e0.heap.size from ne5)]; exact s8.2.2.2.2.2.2.1, by rw [cell_setRow_other _ _ _ _ (show _ ≠ v0e0.heap.size from ne5)]; exact s8.2.2.2.2.2.2.2⟩) ?_
       clear hK K'
       try simp only [pt]
       refine AnyTill.done (by kernel_rfl) ?_ _
       refine NoPanic.normal ?_
       go_wp2
       go_meet
       exact ⟨v0e0.heap.size, ⟨J, p % 20, y1, y2, r16, r19, z5 % 5, y6⟩, rfl, setRow_heap _ _ _ _ _ _ hh8, (setRow_other _ _ _ _ (show w.heap.size ≠ v0e0.heap.size by omega)).trans gz8, hB, below_setRow kb8 (by omega) _⟩
   case p0y =>
     go_simp
     (go_at_call 48; (refine (RR.out z3 _).mono ?_); rintro e v0e16 ⟨r16, rfl, bb0e16⟩)
     have s0e16 : v0e16.cell? ⟨a5, 0, none⟩ = some (.int .i64 z0) ∧ v0e16.cell? ⟨a5, 1, none⟩ = some (.int .i64 z1) ∧ v0e16.cell? ⟨a5, 2, none⟩ = some (.int .i64 z2) ∧ v0e16.cell? ⟨a5, 3, none⟩ = some (.int .i64 z3) ∧ v0e16.cell? ⟨a5, 4, none⟩ = some (.int .i64 z4) ∧ v0e16.cell? ⟨a5, 5, none⟩ = some (.int .i64 z5) ∧ v0e16.cell? ⟨a5, 6, none⟩ = some (.int .i64 z6) := ⟨cell_keep scd.1 bb0e16, cell_keep scd.2.1 bb0e16, cell_keep scd.2.2.1 bb0e16, cell_keep scd.2.2.2.1 bb0e16, cell_keep scd.2.2.2.2.1 bb0e16, cell_keep scd.2.2.2.2.2.1 bb0e16, cell_keep scd.2.2.2.2.2.2 bb0e16⟩
     have kb0e16 := kd.trans (bb0e16.mono kd.size)
     have gz0e16 := (bb0e16.block _ zd).trans gd
     have zl0e16 := Nat.lt_of_lt_of_le zd bb0e16.size
     have la0e16 := Nat.lt_of_lt_of_le la bb0e16.size
     refine hK.out _ _ (.inr s0e16) ?_
     clear hK K'
     try simp only [pt]
     refine' AnyTill.three (i := 0) (k := 19) (l := 27) (o := _) (o' := _) (o2 := _) (by kernel_rfl) ?p10a ?p10b ?p10c (fun K' hK => ?p10x) (fun K' hK => ?p10y) (fun K' hK => ?p10z)
     case p10a => (simp only [List.getElem?_toArray, List.getElem?_cons_zero]; rfl)
     case p10b => (simp only [List.getElem?_toArray, List.getElem?_cons_succ, List.getElem?_cons_zero]; rfl)
     case p10c => (simp only [List.getElem?_toArray, List.getElem?_cons_succ, List.getElem?_cons_zero]; rfl)
     case p10x =>
       go_simp
       have bb10e0 := (Below.refl v0e16.heap.size v0e16).alloc (Nat.le_refl _) (.cells #[.string ⟨#[117, 107]⟩, .string ⟨#[100, 101]⟩] 9)
       have ln10e0 : v0e16.heap.size < (v0e16.alloc (.cells #[.string ⟨#[117, 107]⟩, .string ⟨#[100, 101]⟩] 9)).heap.size := by simp
       have fc10e0 : (v0e16.alloc (.cells #[.string ⟨#[117, 107]⟩, .string ⟨#[100, 101]⟩] 9)).cell? ⟨v0e16.heap.size, x, none⟩ = some (.string J) := (World.cell?_alloc_new _ _ _ _).trans HJ.out
       obtain ⟨v10e0, hv10e0⟩ : ∃ v, v0e16.alloc (.cells #[.string ⟨#[117, 107]⟩, .string ⟨#[100, 101]⟩] 9) = v := ⟨_, rfl⟩
       rw [hv10e0] at bb10e0 ln10e0 fc10e0
       rw [hv10e0]
       have s10e0 : v10e0.cell? ⟨a5, 0, none⟩ = some (.int .i64 z0) ∧ v10e0.cell? ⟨a5, 1, none⟩ = some (.int .i64 z1) ∧ v10e0.cell? ⟨a5, 2, none⟩ = some (.int .i64 z2) ∧ v10e0.cell? ⟨a5, 3, none⟩ = some (.int .i64 z3) ∧ v10e0.cell? ⟨a5, 4, none⟩ = some (.int .i64 z4) ∧ v10e0.cell? ⟨a5, 5, none⟩ = some (.int .i64 z5) ∧ v10e0.cell? ⟨a5, 6, none⟩ = some (.int .i64 z6) := ⟨cell_keep s0e16.1 bb10e0, cell_keep s0e16.2.1 bb10e0, cell_keep s0e16.2.2.1 bb10e0, cell_keep s0e16.2.2.2.1 bb10e0, cell_keep s0e16.2.2.2.2.1 bb10e0, cell_keep s0e16.2.2.2.2.2.1 bb10e0, cell_keep s0e16.2.2.2.2.2.2 bb10e0⟩
       have kb10e0 := kb0e16.trans (bb10e0.mono kb0e16.size)
       have gz10e0 := (bb10e0.block _ zl0e16).trans gz0e16
       have zl10e0 := Nat.lt_of_lt_of_le zl0e16 bb10e0.size
       have la10e0 := Nat.lt_of_lt_of_le la0e16 bb10e0.size
       refine hK.out _ _ (.inr s10e0) ?_
       clear hK K'
       try simp only [pt]
       refine AnyTill.weaken (C' := fun w' => w'.cell? ⟨v0e16.heap.size, x, none⟩ = some (.string J) ∧ w'.cell? ⟨a5, 0, none⟩ = some (.int .i64 z0) ∧ w'.cell? ⟨a5, 1, none⟩ = some (.int .i64 z1) ∧ w'.cell? ⟨a5, 2, none⟩ = some (.int .i64 z2) ∧ w'.cell? ⟨a5, 3, none⟩ = some (.int .i64 z3) ∧ w'.cell? ⟨a5, 4, none⟩ = some (.int .i64 z4) ∧ w'.cell? ⟨a5, 5, none⟩ = some (.int .i64 z5) ∧ w'.cell? ⟨a5, 6, none⟩ = some (.int .i64 z6)) (fun _ h => h.2) _ _ _ _ ?_
       have sj10e0 : v10e0.cell? ⟨v0e16.heap.size, x, none⟩ = some (.string J) ∧ v10e0.cell? ⟨a5, 0, none⟩ = some (.int .i64 z0) ∧ v10e0.cell? ⟨a5, 1, none⟩ = some (.int .i64 z1) ∧ v10e0.cell? ⟨a5, 2, none⟩ = some (.int .i64 z2) ∧ v10e0.cell? ⟨a5, 3, none⟩ = some (.int .i64 z3) ∧ v10e0.cell? ⟨a5, 4, none⟩ = some (.int .i64 z4) ∧ v10e0.cell? ⟨a5, 5, none⟩ = some (.int .i64 z5) ∧ v10e0.cell? ⟨a5, 6, none⟩ = some (.int .i64 z6) := ⟨fc10e0, s10e0⟩
       refine AnyTill.tk 4 sj10e0 ?_
       refine AnyTill.tk 5 sj10e0 ?_
       refine' AnyTill.two (i := 19) (k := 27) (o := _) (o' := _) (by kernel_rfl) ?p11a ?p11b (fun K' hK => ?p11x) (fun K' hK => ?p11y)
       case p11a => (simp only [List.getElem?_toArray, List.getElem?_cons_succ, List.getElem?_cons_zero]; rfl)
       case p11b => (simp only [List.getElem?_toArray, List.getElem?_cons_succ, List.getElem?_cons_zero]; rfl)
       case p11x =>
         go_simp
         (go_at_call 48; (refine (RR.out z4 _).mono ?_); rintro e v11e19 ⟨r19, rfl, bb11e19⟩)
         have s11e19 : v11e19.cell? ⟨v0e16.heap.size, x, none⟩ = some (.string J) ∧ v11e19.cell? ⟨a5, 0, none⟩ = some (.int .i64 z0) ∧ v11e19.cell? ⟨a5, 1, none⟩ = some (.int .i64 z1) ∧ v11e19.cell? ⟨a5, 2, none⟩ = some (.int .i64 z2) ∧ v11e19.cell? ⟨a5, 3, none⟩ = some (.int .i64 z3) ∧ v11e19.cell? ⟨a5, 4, none⟩ = some (.int .i64 z4) ∧ v11e19.cell? ⟨a5, 5, none⟩ = some (.int .i64 z5) ∧ v11e19.cell? ⟨a5, 6, none⟩ = some (.int .i64 z6) := ⟨cell_keep sj10e0.1 bb11e19, cell_keep sj10e0.2.1 bb11e19, cell_keep sj10e0.2.2.1 bb11e19, cell_keep sj10e0.2.2.2.1 bb11e19, cell_keep sj10e0.2.2.2.2.1 bb11e19, cell_keep sj10e0.2.2.2.2.2.1 bb11e19, cell_keep sj10e0.2.2.2.2.2.2.1 bb11e19, cell_keep sj10e0.2.2.2.2.2.2.2 bb11e19⟩
         have kb11e19 := kb10e0.trans (bb11e19.mono kb10e0.size)
         have gz11e19 := (bb11e19.block _ zl10e0).trans gz10e0
         have zl11e19 := Nat.lt_of_lt_of_le zl10e0 bb11e19.size
         have la11e19 := Nat.lt_of_lt_of_le la10e0 bb11e19.size
         refine hK.out _ _ (.inr s11e19) ?_
         clear hK K'
         try simp only [pt]
         have jl11e19 := Nat.lt_of_lt_of_le ln10e0 bb11e19.size
         refine AnyTill.tc (i := 22) (v := .int .i64 (z5 % 5)) (f := 7) (args := #[.int .i64 z5, .int .i64 5]) (hc := fun w' _ => within_any z5 5 w' (by omega) (by omega)) (hC := s11e19) (h := ?_)
         refine AnyTill.tc (i := 25) (v := .int .i64 y6) (f := 17) (args := #[.int .i64 z6]) (hc := fun w' _ => A6.out w') (hC := s11e19) (h := ?_)
         refine AnyTill.tk 26 s11e19 ?_
         refine AnyTill.on 27 fun K' hK => ?_
         go_simp
         have bb12 := (Below.refl v11e19.heap.size v11e19).alloc (Nat.le_refl _) (.cells #[.string ⟨#[]⟩, .int .i64 0, .int .i64 0, .int .i64 0, .int .i64 0, .int .i64 0, .int .i64 0, .int .i64 0] 66)
         have ln12 : v11e19.heap.size < (v11e19.alloc (.cells #[.string ⟨#[]⟩, .int .i64 0, .int .i64 0, .int .i64 0, .int .i64 0, .int .i64 0, .int .i64 0, .int .i64 0] 66)).heap.size := by simp
         have fc12 := heap_alloc_last v11e19 (.cells #[.string ⟨#[]⟩, .int .i64 0, .int .i64 0, .int .i64 0, .int .i64 0, .int .i64 0, .int .i64 0, .int .i64 0] 66)
         obtain ⟨v12, hv12⟩ : ∃ v, v11e19.alloc (.cells #[.string ⟨#[]⟩, .int .i64 0, .int .i64 0, .int .i64 0, .int .i64 0, .int .i64 0, .int .i64 0, .int .i64 0] 66) = v := ⟨_, rfl⟩
         rw [hv12] at bb12 ln12 fc12
         rw [hv12]
         have s12 : v12.cell? ⟨v0e16.heap.size, x, none⟩ = some (.string J) ∧ v12.cell? ⟨a5, 0, none⟩ = some (.int .i64 z0) ∧ v12.cell? ⟨a5, 1, none⟩ = some (.int .i64 z1) ∧ v12.cell? ⟨a5, 2, none⟩ = some (.int .i64 z2) ∧ v12.cell? ⟨a5, 3, none⟩ = some (.int .i64 z3) ∧ v12.cell? ⟨a5, 4, none⟩ = some (.int .i64 z4) ∧ v12.cell? ⟨a5, 5, none⟩ = some (.int .i64 z5) ∧ v12.cell? ⟨a5, 6, none⟩ = some (.int .i64 z6) := ⟨cell_keep s11e19.1 bb12, cell_keep s11e19.2.1 bb12, cell_keep s11e19.2.2.1 bb12, cell_keep s11e19.2.2.2.1 bb12, cell_keep s11e19.2.2.2.2.1 bb12, cell_keep s11e19.2.2.2.2.2.1 bb12, cell_keep s11e19.2.2.2.2.2.2.1 bb12, cell_keep s11e19.2.2.2.2.2.2.2 bb12⟩
         have kb12 := kb11e19.trans (bb12.mono kb11e19.size)
         have gz12 := (bb12.block _ zl11e19).trans gz11e19
         have zl12 := Nat.lt_of_lt_of_le zl11e19 bb12.size
         have la12 := Nat.lt_of_lt_of_le la11e19 bb12.size
         refine hK.out _ _ (.inr s12) ?_
         clear hK K'
         try simp only [pt]
         have jl12 := Nat.lt_of_lt_of_le jl11e19 bb12.size
         have hB : w.heap.size < v11e19.heap.size := zl11e19
         have hA : a5 < v11e19.heap.size := la11e19
         refine AnyTill.on 28 fun K' hK => ?_
         rw [if_pos (by rfl)]
         refine wp_store_row 66 (.tmp 6) (.tmp 35) rfl v11e19.heap.size (inL ⟨J, p % 20, y1, y2, r16, r19, z5 % 5, y6⟩).toArray rfl rfl _ _ fc12 (in_size _) rfl (in_one _) ?_
         have ne5 : a5 ≠ v11e19.heap.size := by omega
         have neJ : v0e16.heap.size ≠ v11e19.heap.size := by have := jl11e19; omega
         refine hK.out _ _ (.inr ⟨by rw [cell_setRow_other _ _ _ _ (show _ ≠ v11e19.heap.size from neJ)]; exact s12.1, by rw [cell_setRow_other _ _ _ _ (show _ ≠ v11e19.heap.size from ne5)]; exact s12.2.1, by rw [cell_setRow_other _ _ _ _ (show _ ≠ v11e19.heap.size from ne5)]; exact s12.2.2.1, by rw [cell_setRow_other _ _ _ _ (show _ ≠ v11e19.heap.size from ne5)]; exact s12.2.2.2.1, by rw [cell_setRow_other _ _ _ _ (show _ ≠ v11e19.heap.size from ne5)]; exact s12.2.2.2.2.1, by rw [cell_setRow_other _ _ _ _ (show _ ≠ v11e19.heap.size from ne5)]; exact s12.2.2.2.2.2.1, by rw [cell_setRow_other _ _ _ _ (show _ ≠ v11e19.heap.size from ne5)]; exact s12.2.2.2.2.2.2.1, by rw [cell_setRow_other _ _ _ _ (show _ ≠ v11e19.heap.size from ne5)]; exact s12.2.2.2.2.2.2.2⟩) ?_
         clear hK K'
         try simp only [pt]
         refine AnyTill.done (by kernel_rfl) ?_ _
         refine NoPanic.normal ?_
         go_wp2
         go_meet
         exact ⟨v11e19.heap.size, ⟨J, p % 20, y1, y2, r16, r19, z5 % 5, y6⟩, rfl, setRow_heap _ _ _ _ _ _ fc12, (setRow_other _ _ _ _ (show w.heap.size ≠ v11e19.heap.size by omega)).trans gz12, hB, below_setRow kb12 (by omega) _⟩
       case p11y =>
         go_simp
         have bb11e27 := (Below.refl v10e0.heap.size v10e0).alloc (Nat.le_refl _) (.cells #[.string ⟨#[]⟩, .int .i64 0, .int .i64 0, .int .i64 0, .int .i64 0, .int .i64 0, .int .i64 0, .int .i64 0] 66)
         have ln11e27 : v10e0.heap.size < (v10e0.alloc (.cells #[.string ⟨#[]⟩, .int .i64 0, .int .i64 0, .int .i64 0, .int .i64 0, .int .i64 0, .int .i64 0, .int .i64 0] 66)).heap.size := by simp
         have fc11e27 := heap_alloc_last v10e0 (.cells #[.string ⟨#[]⟩, .int .i64 0, .int .i64 0, .int .i64 0, .int .i64 0, .int .i64 0, .int .i64 0, .int .i64 0] 66)
         obtain ⟨v11e27, hv11e27⟩ : ∃ v, v10e0.alloc (.cells #[.string ⟨#[]⟩, .int .i64 0, .int .i64 0, .int .i64 0, .int .i64 0, .int .i64 0, .int .i64 0, .int .i64 0] 66) = v := ⟨_, rfl⟩
         rw [hv11e27] at bb11e27 ln11e27 fc11e27
         rw [hv11e27]
         have s11e27 : v11e27.cell? ⟨v0e16.heap.size, x, none⟩ = some (.string J) ∧ v11e27.cell? ⟨a5, 0, none⟩ = some (.int .i64 z0) ∧ v11e27.cell? ⟨a5, 1, none⟩ = some (.int .i64 z1) ∧ v11e27.cell? ⟨a5, 2, none⟩ = some (.int .i64 z2) ∧ v11e27.cell? ⟨a5, 3, none⟩ = some (.int .i64 z3) ∧ v11e27.cell? ⟨a5, 4, none⟩ = some (.int .i64 z4) ∧ v11e27.cell? ⟨a5, 5, none⟩ = some (.int .i64 z5) ∧ v11e27.cell? ⟨a5, 6, none⟩ = some (.int .i64 z6) := ⟨cell_keep sj10e0.1 bb11e27, cell_keep sj10e0.2.1 bb11e27, cell_keep sj10e0.2.2.1 bb11e27, cell_keep sj10e0.2.2.2.1 bb11e27, cell_keep sj10e0.2.2.2.2.1 bb11e27, cell_keep sj10e0.2.2.2.2.2.1 bb11e27, cell_keep sj10e0.2.2.2.2.2.2.1 bb11e27, cell_keep sj10e0.2.2.2.2.2.2.2 bb11e27⟩
         have kb11e27 := kb10e0.trans (bb11e27.mono kb10e0.size)
         have gz11e27 := (bb11e27.block _ zl10e0).trans gz10e0
         have zl11e27 := Nat.lt_of_lt_of_le zl10e0 bb11e27.size
         have la11e27 := Nat.lt_of_lt_of_le la10e0 bb11e27.size
         refine hK.out _ _ (.inr s11e27) ?_
         clear hK K'
         try simp only [pt]
         have jl11e27 := Nat.lt_of_lt_of_le ln10e0 bb11e27.size
         have hB : w.heap.size < v10e0.heap.size := zl10e0
         have hA : a5 < v10e0.heap.size := la10e0
         refine AnyTill.on 19 fun K' hK => ?_
         go_simp
         (go_at_call 48; (refine (RR.out z4 _).mono ?_); rintro e v14 ⟨r19, rfl, bb14⟩)
         have s14 : v14.cell? ⟨v0e16.heap.size, x, none⟩ = some (.string J) ∧ v14.cell? ⟨a5, 0, none⟩ = some (.int .i64 z0) ∧ v14.cell? ⟨a5, 1, none⟩ = some (.int .i64 z1) ∧ v14.cell? ⟨a5, 2, none⟩ = some (.int .i64 z2) ∧ v14.cell? ⟨a5, 3, none⟩ = some (.int .i64 z3) ∧ v14.cell? ⟨a5, 4, none⟩ = some (.int .i64 z4) ∧ v14.cell? ⟨a5, 5, none⟩ = some (.int .i64 z5) ∧ v14.cell? ⟨a5, 6, none⟩ = some (.int .i64 z6) := ⟨cell_keep s11e27.1 bb14, cell_keep s11e27.2.1 bb14, cell_keep s11e27.2.2.1 bb14, cell_keep s11e27.2.2.2.1 bb14, cell_keep s11e27.2.2.2.2.1 bb14, cell_keep s11e27.2.2.2.2.2.1 bb14, cell_keep s11e27.2.2.2.2.2.2.1 bb14, cell_keep s11e27.2.2.2.2.2.2.2 bb14⟩
         have kb14 := kb11e27.trans (bb14.mono kb11e27.size)
         have gz14 := (bb14.block _ zl11e27).trans gz11e27
         have zl14 := Nat.lt_of_lt_of_le zl11e27 bb14.size
         have la14 := Nat.lt_of_lt_of_le la11e27 bb14.size
         refine hK.out _ _ (.inr s14) ?_
         clear hK K'
         try simp only [pt]
         have hh14 := (bb14.block _ ln11e27).trans fc11e27
         have hl14 := Nat.lt_of_lt_of_le ln11e27 bb14.size
         have jl14 := Nat.lt_of_lt_of_le jl11e27 bb14.size
         refine AnyTill.tc (i := 22) (v := .int .i64 (z5 % 5)) (f := 7) (args := #[.int .i64 z5, .int .i64 5]) (hc := fun w' _ => within_any z5 5 w' (by omega) (by omega)) (hC := s14) (h := ?_)
         refine AnyTill.tc (i := 25) (v := .int .i64 y6) (f := 17) (args := #[.int .i64 z6]) (hc := fun w' _ => A6.out w') (hC := s14) (h := ?_)
         refine AnyTill.tk 26 s14 ?_
         refine AnyTill.on 28 fun K' hK => ?_
         rw [if_pos (by rfl)]
         refine wp_store_row 66 (.tmp 6) (.tmp 35) rfl v10e0.heap.size (inL ⟨J, p % 20, y1, y2, r16, r19, z5 % 5, y6⟩).toArray rfl rfl _ _ hh14 (in_size _) rfl (in_one _) ?_
         have ne5 : a5 ≠ v10e0.heap.size := by omega
         have neJ : v0e16.heap.size ≠ v10e0.heap.size := by have := ln10e0; omega
         refine hK.out _ _ (.inr ⟨by rw [cell_setRow_other _ _ _ _ (show _ ≠ v10e0.heap.size from neJ)]; exact s14.1, by rw [cell_setRow_other _ _ _ _ (show _ ≠ v10e0.heap.size from ne5)]; exact s14.2.1, by rw [cell_setRow_other _ _ _ _ (show _ ≠ v10e0.heap.size from ne5)]; exact s14.2.2.1, by rw [cell_setRow_other _ _ _ _ (show _ ≠ v10e0.heap.size from ne5)]; exact s14.2.2.2.1, by rw [cell_setRow_other _ _ _ _ (show _ ≠ v10e0.heap.size from ne5)]; exact s14.2.2.2.2.1, by rw [cell_setRow_other _ _ _ _ (show _ ≠ v10e0.heap.size from ne5)]; exact s14.2.2.2.2.2.1, by rw [cell_setRow_other _ _ _ _ (show _ ≠ v10e0.heap.size from ne5)]; exact s14.2.2.2.2.2.2.1, by rw [cell_setRow_other _ _ _ _ (show _ ≠ v10e0.heap.size from ne5)]; exact s14.2.2.2.2.2.2.2⟩) ?_
         clear hK K'
         try simp only [pt]
         refine AnyTill.done (by kernel_rfl) ?_ _
         refine NoPanic.normal ?_
         go_wp2
         go_meet
         exact ⟨v10e0.heap.size, ⟨J, p % 20, y1, y2, r16, r19, z5 % 5, y6⟩, rfl, setRow_heap _ _ _ _ _ _ hh14, (setRow_other _ _ _ _ (show w.heap.size ≠ v10e0.heap.size by omega)).trans gz14, hB, below_setRow kb14 (by omega) _⟩
     case p10y =>
       go_simp
       (go_at_call 48; (refine (RR.out z4 _).mono ?_); rintro e v10e19 ⟨r19, rfl, bb10e19⟩)
       have s10e19 : v10e19.cell? ⟨a5, 0, none⟩ = some (.int .i64 z0) ∧ v10e19.cell? ⟨a5, 1, none⟩ = some (.int .i64 z1) ∧ v10e19.cell? ⟨a5, 2, none⟩ = some (.int .i64 z2) ∧ v10e19.cell? ⟨a5, 3, none⟩ = some (.int .i64 z3) ∧ v10e19.cell? ⟨a5, 4, none⟩ = some (.int .i64 z4) ∧ v10e19.cell? ⟨a5, 5, none⟩ = some (.int .i64 z5) ∧ v10e19.cell? ⟨a5, 6, none⟩ = some (.int .i64 z6) := ⟨cell_keep s0e16.1 bb10e19, cell_keep s0e16.2.1 bb10e19, cell_keep s0e16.2.2.1 bb10e19, cell_keep s0e16.2.2.2.1 bb10e19, cell_keep s0e16.2.2.2.2.1 bb10e19, cell_keep s0e16.2.2.2.2.2.1 bb10e19, cell_keep s0e16.2.2.2.2.2.2 bb10e19⟩
       have kb10e19 := kb0e16.trans (bb10e19.mono kb0e16.size)
       have gz10e19 := (bb10e19.block _ zl0e16).trans gz0e16
       have zl10e19 := Nat.lt_of_lt_of_le zl0e16 bb10e19.size
       have la10e19 := Nat.lt_of_lt_of_le la0e16 bb10e19.size
       refine hK.out _ _ (.inr s10e19) ?_
       clear hK K'
       try simp only [pt]
       refine AnyTill.tc (i := 22) (v := .int .i64 (z5 % 5)) (f := 7) (args := #[.int .i64 z5, .int .i64 5]) (hc := fun w' _ => within_any z5 5 w' (by omega) (by omega)) (hC := s10e19) (h := ?_)
       refine AnyTill.tc (i := 25) (v := .int .i64 y6) (f := 17) (args := #[.int .i64 z6]) (hc := fun w' _ => A6.out w') (hC := s10e19) (h := ?_)
       refine' AnyTill.two (i := 0) (k := 27) (o := _) (o' := _) (by kernel_rfl) ?p16a ?p16b (fun K' hK => ?p16x) (fun K' hK => ?p16y)
       case p16a => (simp only [List.getElem?_toArray, List.getElem?_cons_zero]; rfl)
       case p16b => (simp only [List.getElem?_toArray, List.getElem?_cons_succ, List.getElem?_cons_zero]; rfl)
       case p16x =>
         go_simp
         have bb16e0 := (Below.refl v10e19.heap.size v10e19).alloc (Nat.le_refl _) (.cells #[.string ⟨#[117, 107]⟩, .string ⟨#[100, 101]⟩] 9)
         have ln16e0 : v10e19.heap.size < (v10e19.alloc (.cells #[.string ⟨#[117, 107]⟩, .string ⟨#[100, 101]⟩] 9)).heap.size := by simp
         have fc16e0 : (v10e19.alloc (.cells #[.string ⟨#[117, 107]⟩, .string ⟨#[100, 101]⟩] 9)).cell? ⟨v10e19.heap.size, x, none⟩ = some (.string J) := (World.cell?_alloc_new _ _ _ _).trans HJ.out
         obtain ⟨v16e0, hv16e0⟩ : ∃ v, v10e19.alloc (.cells #[.string ⟨#[117, 107]⟩, .string ⟨#[100, 101]⟩] 9) = v := ⟨_, rfl⟩
         rw [hv16e0] at bb16e0 ln16e0 fc16e0
         rw [hv16e0]
         have s16e0 : v16e0.cell? ⟨a5, 0, none⟩ = some (.int .i64 z0) ∧ v16e0.cell? ⟨a5, 1, none⟩ = some (.int .i64 z1) ∧ v16e0.cell? ⟨a5, 2, none⟩ = some (.int .i64 z2) ∧ v16e0.cell? ⟨a5, 3, none⟩ = some (.int .i64 z3) ∧ v16e0.cell? ⟨a5, 4, none⟩ = some (.int .i64 z4) ∧ v16e0.cell? ⟨a5, 5, none⟩ = some (.int .i64 z5) ∧ v16e0.cell? ⟨a5, 6, none⟩ = some (.int .i64 z6) := ⟨cell_keep s10e19.1 bb16e0, cell_keep s10e19.2.1 bb16e0, cell_keep s10e19.2.2.1 bb16e0, cell_keep s10e19.2.2.2.1 bb16e0, cell_keep s10e19.2.2.2.2.1 bb16e0, cell_keep s10e19.2.2.2.2.2.1 bb16e0, cell_keep s10e19.2.2.2.2.2.2 bb16e0⟩
         have kb16e0 := kb10e19.trans (bb16e0.mono kb10e19.size)
         have gz16e0 := (bb16e0.block _ zl10e19).trans gz10e19
         have zl16e0 := Nat.lt_of_lt_of_le zl10e19 bb16e0.size
         have la16e0 := Nat.lt_of_lt_of_le la10e19 bb16e0.size
         refine hK.out _ _ (.inr s16e0) ?_
         clear hK K'
         try simp only [pt]
         refine AnyTill.weaken (C' := fun w' => w'.cell? ⟨v10e19.heap.size, x, none⟩ = some (.string J) ∧ w'.cell? ⟨a5, 0, none⟩ = some (.int .i64 z0) ∧ w'.cell? ⟨a5, 1, none⟩ = some (.int .i64 z1) ∧ w'.cell? ⟨a5, 2, none⟩ = some (.int .i64 z2) ∧ w'.cell? ⟨a5, 3, none⟩ = some (.int .i64 z3) ∧ w'.cell? ⟨a5, 4, none⟩ = some (.int .i64 z4) ∧ w'.cell? ⟨a5, 5, none⟩ = some (.int .i64 z5) ∧ w'.cell? ⟨a5, 6, none⟩ = some (.int .i64 z6)) (fun _ h => h.2) _ _ _ _ ?_
         have sj16e0 : v16e0.cell? ⟨v10e19.heap.size, x, none⟩ = some (.string J) ∧ v16e0.cell? ⟨a5, 0, none⟩ = some (.int .i64 z0) ∧ v16e0.cell? ⟨a5, 1, none⟩ = some (.int .i64 z1) ∧ v16e0.cell? ⟨a5, 2, none⟩ = some (.int .i64 z2) ∧ v16e0.cell? ⟨a5, 3, none⟩ = some (.int .i64 z3) ∧ v16e0.cell? ⟨a5, 4, none⟩ = some (.int .i64 z4) ∧ v16e0.cell? ⟨a5, 5, none⟩ = some (.int .i64 z5) ∧ v16e0.cell? ⟨a5, 6, none⟩ = some (.int .i64 z6) := ⟨fc16e0, s16e0⟩
         refine AnyTill.tk 4 sj16e0 ?_
         refine AnyTill.tk 5 sj16e0 ?_
         refine AnyTill.tk 26 sj16e0 ?_
         refine AnyTill.on 27 fun K' hK => ?_
         go_simp
         have bb17 := (Below.refl v16e0.heap.size v16e0).alloc (Nat.le_refl _) (.cells #[.string ⟨#[]⟩, .int .i64 0, .int .i64 0, .int .i64 0, .int .i64 0, .int .i64 0, .int .i64 0, .int .i64 0] 66)
         have ln17 : v16e0.heap.size < (v16e0.alloc (.cells #[.string ⟨#[]⟩, .int .i64 0, .int .i64 0, .int .i64 0, .int .i64 0, .int .i64 0, .int .i64 0, .int .i64 0] 66)).heap.size := by simp
         have fc17 := heap_alloc_last v16e0 (.cells #[.string ⟨#[]⟩, .int .i64 0, .int .i64 0, .int .i64 0, .int .i64 0, .int .i64 0, .int .i64 0, .int .i64 0] 66)
         obtain ⟨v17, hv17⟩ : ∃ v, v16e0.alloc (.cells #[.string ⟨#[]⟩, .int .i64 0, .int .i64 0, .int .i64 0, .int .i64 0, .int .i64 0, .int .i64 0, .int .i64 0] 66) = v := ⟨_, rfl⟩
         rw [hv17] at bb17 ln17 fc17
         rw [hv17]
         have s17 : v17.cell? ⟨v10e19.heap.size, x, none⟩ = some (.string J) ∧ v17.cell? ⟨a5, 0, none⟩ = some (.int .i64 z0) ∧ v17.cell? ⟨a5, 1, none⟩ = some (.int .i64 z1) ∧ v17.cell? ⟨a5, 2, none⟩ = some (.int .i64 z2) ∧ v17.cell? ⟨a5, 3, none⟩ = some (.int .i64 z3) ∧ v17.cell? ⟨a5, 4, none⟩ = some (.int .i64 z4) ∧ v17.cell? ⟨a5, 5, none⟩ = some (.int .i64 z5) ∧ v17.cell? ⟨a5, 6, none⟩ = some (.int .i64 z6) := ⟨cell_keep sj16e0.1 bb17, cell_keep sj16e0.2.1 bb17, cell_keep sj16e0.2.2.1 bb17, cell_keep sj16e0.2.2.2.1 bb17, cell_keep sj16e0.2.2.2.2.1 bb17, cell_keep sj16e0.2.2.2.2.2.1 bb17, cell_keep sj16e0.2.2.2.2.2.2.1 bb17, cell_keep sj16e0.2.2.2.2.2.2.2 bb17⟩
         have kb17 := kb16e0.trans (bb17.mono kb16e0.size)
         have gz17 := (bb17.block _ zl16e0).trans gz16e0
         have zl17 := Nat.lt_of_lt_of_le zl16e0 bb17.size
         have la17 := Nat.lt_of_lt_of_le la16e0 bb17.size
         refine hK.out _ _ (.inr s17) ?_
         clear hK K'
         try simp only [pt]
         have jl17 := Nat.lt_of_lt_of_le ln16e0 bb17.size
         have hB : w.heap.size < v16e0.heap.size := zl16e0
         have hA : a5 < v16e0.heap.size := la16e0
         refine AnyTill.on 28 fun K' hK => ?_
         rw [if_pos (by rfl)]
         refine wp_store_row 66 (.tmp 6) (.tmp 35) rfl v16e0.heap.size (inL ⟨J, p % 20, y1, y2, r16, r19, z5 % 5, y6⟩).toArray rfl rfl _ _ fc17 (in_size _) rfl (in_one _) ?_
         have ne5 : a5 ≠ v16e0.heap.size := by omega
         have neJ : v10e19.heap.size ≠ v16e0.heap.size := by have := ln16e0; omega
         refine hK.out _ _ (.inr ⟨by rw [cell_setRow_other _ _ _ _ (show _ ≠ v16e0.heap.size from neJ)]; exact s17.1, by rw [cell_setRow_other _ _ _ _ (show _ ≠ v16e0.heap.size from ne5)]; exact s17.2.1, by rw [cell_setRow_other _ _ _ _ (show _ ≠ v16e0.heap.size from ne5)]; exact s17.2.2.1, by rw [cell_setRow_other _ _ _ _ (show _ ≠ v16e0.heap.size from ne5)]; exact s17.2.2.2.1, by rw [cell_setRow_other _ _ _ _ (show _ ≠ v16e0.heap.size from ne5)]; exact s17.2.2.2.2.1, by rw [cell_setRow_other _ _ _ _ (show _ ≠ v16e0.heap.size from ne5)]; exact s17.2.2.2.2.2.1, by rw [cell_setRow_other _ _ _ _ (show _ ≠ v16e0.heap.size from ne5)]; exact s17.2.2.2.2.2.2.1, by rw [cell_setRow_other _ _ _ _ (show _ ≠ v16e0.heap.size from ne5)]; exact s17.2.2.2.2.2.2.2⟩) ?_
         clear hK K'
         try simp only [pt]
         refine AnyTill.done (by kernel_rfl) ?_ _
         refine NoPanic.normal ?_
         go_wp2
         go_meet
         exact ⟨v16e0.heap.size, ⟨J, p % 20, y1, y2, r16, r19, z5 % 5, y6⟩, rfl, setRow_heap _ _ _ _ _ _ fc17, (setRow_other _ _ _ _ (show w.heap.size ≠ v16e0.heap.size by omega)).trans gz17, hB, below_setRow kb17 (by omega) _⟩
       case p16y =>
         go_simp
         have bb16e27 := (Below.refl v10e19.heap.size v10e19).alloc (Nat.le_refl _) (.cells #[.string ⟨#[]⟩, .int .i64 0, .int .i64 0, .int .i64 0, .int .i64 0, .int .i64 0, .int .i64 0, .int .i64 0] 66)
         have ln16e27 : v10e19.heap.size < (v10e19.alloc (.cells #[.string ⟨#[]⟩, .int .i64 0, .int .i64 0, .int .i64 0, .int .i64 0, .int .i64 0, .int .i64 0, .int .i64 0] 66)).heap.size := by simp
         have fc16e27 := heap_alloc_last v10e19 (.cells #[.string ⟨#[]⟩, .int .i64 0, .int .i64 0, .int .i64 0, .int .i64 0, .int .i64 0, .int .i64 0, .int .i64 0] 66)
         obtain ⟨v16e27, hv16e27⟩ : ∃ v, v10e19.alloc (.cells #[.string ⟨#[]⟩, .int .i64 0, .int .i64 0, .int .i64 0, .int .i64 0, .int .i64 0, .int .i64 0, .int .i64 0] 66) = v := ⟨_, rfl⟩
         rw [hv16e27] at bb16e27 ln16e27 fc16e27
         rw [hv16e27]
         have s16e27 : v16e27.cell? ⟨a5, 0, none⟩ = some (.int .i64 z0) ∧ v16e27.cell? ⟨a5, 1, none⟩ = some (.int .i64 z1) ∧ v16e27.cell? ⟨a5, 2, none⟩ = some (.int .i64 z2) ∧ v16e27.cell? ⟨a5, 3, none⟩ = some (.int .i64 z3) ∧ v16e27.cell? ⟨a5, 4, none⟩ = some (.int .i64 z4) ∧ v16e27.cell? ⟨a5, 5, none⟩ = some (.int .i64 z5) ∧ v16e27.cell? ⟨a5, 6, none⟩ = some (.int .i64 z6) := ⟨cell_keep s10e19.1 bb16e27, cell_keep s10e19.2.1 bb16e27, cell_keep s10e19.2.2.1 bb16e27, cell_keep s10e19.2.2.2.1 bb16e27, cell_keep s10e19.2.2.2.2.1 bb16e27, cell_keep s10e19.2.2.2.2.2.1 bb16e27, cell_keep s10e19.2.2.2.2.2.2 bb16e27⟩
         have kb16e27 := kb10e19.trans (bb16e27.mono kb10e19.size)
         have gz16e27 := (bb16e27.block _ zl10e19).trans gz10e19
         have zl16e27 := Nat.lt_of_lt_of_le zl10e19 bb16e27.size
         have la16e27 := Nat.lt_of_lt_of_le la10e19 bb16e27.size
         refine hK.out _ _ (.inr s16e27) ?_
         clear hK K'
         try simp only [pt]
         have hB : w.heap.size < v10e19.heap.size := zl10e19
         have hA : a5 < v10e19.heap.size := la10e19
         refine AnyTill.on 0 fun K' hK => ?_
         go_simp
         have bb19 := (Below.refl v16e27.heap.size v16e27).alloc (Nat.le_refl _) (.cells #[.string ⟨#[117, 107]⟩, .string ⟨#[100, 101]⟩] 9)
         have ln19 : v16e27.heap.size < (v16e27.alloc (.cells #[.string ⟨#[117, 107]⟩, .string ⟨#[100, 101]⟩] 9)).heap.size := by simp
         have fc19 : (v16e27.alloc (.cells #[.string ⟨#[117, 107]⟩, .string ⟨#[100, 101]⟩] 9)).cell? ⟨v16e27.heap.size, x, none⟩ = some (.string J) := (World.cell?_alloc_new _ _ _ _).trans HJ.out
         obtain ⟨v19, hv19⟩ : ∃ v, v16e27.alloc (.cells #[.string ⟨#[117, 107]⟩, .string ⟨#[100, 101]⟩] 9) = v := ⟨_, rfl⟩
         rw [hv19] at bb19 ln19 fc19
         rw [hv19]
         have s19 : v19.cell? ⟨a5, 0, none⟩ = some (.int .i64 z0) ∧ v19.cell? ⟨a5, 1, none⟩ = some (.int .i64 z1) ∧ v19.cell? ⟨a5, 2, none⟩ = some (.int .i64 z2) ∧ v19.cell? ⟨a5, 3, none⟩ = some (.int .i64 z3) ∧ v19.cell? ⟨a5, 4, none⟩ = some (.int .i64 z4) ∧ v19.cell? ⟨a5, 5, none⟩ = some (.int .i64 z5) ∧ v19.cell? ⟨a5, 6, none⟩ = some (.int .i64 z6) := ⟨cell_keep s16e27.1 bb19, cell_keep s16e27.2.1 bb19, cell_keep s16e27.2.2.1 bb19, cell_keep s16e27.2.2.2.1 bb19, cell_keep s16e27.2.2.2.2.1 bb19, cell_keep s16e27.2.2.2.2.2.1 bb19, cell_keep s16e27.2.2.2.2.2.2 bb19⟩
         have kb19 := kb16e27.trans (bb19.mono kb16e27.size)
         have gz19 := (bb19.block _ zl16e27).trans gz16e27
         have zl19 := Nat.lt_of_lt_of_le zl16e27 bb19.size
         have la19 := Nat.lt_of_lt_of_le la16e27 bb19.size
         refine hK.out _ _ (.inr s19) ?_
         clear hK K'
         try simp only [pt]
         have hh19 := (bb19.block _ ln16e27).trans fc16e27
         have hl19 := Nat.lt_of_lt_of_le ln16e27 bb19.size
         refine AnyTill.weaken (C' := fun w' => w'.cell? ⟨v16e27.heap.size, x, none⟩ = some (.string J) ∧ w'.cell? ⟨a5, 0, none⟩ = some (.int .i64 z0) ∧ w'.cell? ⟨a5, 1, none⟩ = some (.int .i64 z1) ∧ w'.cell? ⟨a5, 2, none⟩ = some (.int .i64 z2) ∧ w'.cell? ⟨a5, 3, none⟩ = some (.int .i64 z3) ∧ w'.cell? ⟨a5, 4, none⟩ = some (.int .i64 z4) ∧ w'.cell? ⟨a5, 5, none⟩ = some (.int .i64 z5) ∧ w'.cell? ⟨a5, 6, none⟩ = some (.int .i64 z6)) (fun _ h => h.2) _ _ _ _ ?_
         have sj19 : v19.cell? ⟨v16e27.heap.size, x, none⟩ = some (.string J) ∧ v19.cell? ⟨a5, 0, none⟩ = some (.int .i64 z0) ∧ v19.cell? ⟨a5, 1, none⟩ = some (.int .i64 z1) ∧ v19.cell? ⟨a5, 2, none⟩ = some (.int .i64 z2) ∧ v19.cell? ⟨a5, 3, none⟩ = some (.int .i64 z3) ∧ v19.cell? ⟨a5, 4, none⟩ = some (.int .i64 z4) ∧ v19.cell? ⟨a5, 5, none⟩ = some (.int .i64 z5) ∧ v19.cell? ⟨a5, 6, none⟩ = some (.int .i64 z6) := ⟨fc19, s19⟩
         refine AnyTill.tk 4 sj19 ?_
         refine AnyTill.tk 5 sj19 ?_
         refine AnyTill.tk 26 sj19 ?_
         refine AnyTill.on 28 fun K' hK => ?_
         rw [if_pos (by rfl)]
         refine wp_store_row 66 (.tmp 6) (.tmp 35) rfl v10e19.heap.size (inL ⟨J, p % 20, y1, y2, r16, r19, z5 % 5, y6⟩).toArray rfl rfl _ _ hh19 (in_size _) rfl (in_one _) ?_
         have ne5 : a5 ≠ v10e19.heap.size := by omega
         have neJ : v16e27.heap.size ≠ v10e19.heap.size := by have := ln16e27; omega
         refine hK.out _ _ (.inr ⟨by rw [cell_setRow_other _ _ _ _ (show _ ≠ v10e19.heap.size from neJ)]; exact sj19.1, by rw [cell_setRow_other _ _ _ _ (show _ ≠ v10e19.heap.size from ne5)]; exact sj19.2.1, by rw [cell_setRow_other _ _ _ _ (show _ ≠ v10e19.heap.size from ne5)]; exact sj19.2.2.1, by rw [cell_setRow_other _ _ _ _ (show _ ≠ v10e19.heap.size from ne5)]; exact sj19.2.2.2.1, by rw [cell_setRow_other _ _ _ _ (show _ ≠ v10e19.heap.size from ne5)]; exact sj19.2.2.2.2.1, by rw [cell_setRow_other _ _ _ _ (show _ ≠ v10e19.heap.size from ne5)]; exact sj19.2.2.2.2.2.1, by rw [cell_setRow_other _ _ _ _ (show _ ≠ v10e19.heap.size from ne5)]; exact sj19.2.2.2.2.2.2.1, by rw [cell_setRow_other _ _ _ _ (show _ ≠ v10e19.heap.size from ne5)]; exact sj19.2.2.2.2.2.2.2⟩) ?_
         clear hK K'
         try simp only [pt]
         refine AnyTill.done (by kernel_rfl) ?_ _
         refine NoPanic.normal ?_
         go_wp2
         go_meet
         exact ⟨v10e19.heap.size, ⟨J, p % 20, y1, y2, r16, r19, z5 % 5, y6⟩, rfl, setRow_heap _ _ _ _ _ _ hh19, (setRow_other _ _ _ _ (show w.heap.size ≠ v10e19.heap.size by omega)).trans gz19, hB, below_setRow kb19 (by omega) _⟩
     case p10z =>
       go_simp
       have bb10e27 := (Below.refl v0e16.heap.size v0e16).alloc (Nat.le_refl _) (.cells #[.string ⟨#[]⟩, .int .i64 0, .int .i64 0, .int .i64 0, .int .i64 0, .int .i64 0, .int .i64 0, .int .i64 0] 66)
       have ln10e27 : v0e16.heap.size < (v0e16.alloc (.cells #[.string ⟨#[]⟩, .int .i64 0, .int .i64 0, .int .i64 0, .int .i64 0, .int .i64 0, .int .i64 0, .int .i64 0] 66)).heap.size := by simp
       have fc10e27 := heap_alloc_last v0e16 (.cells #[.string ⟨#[]⟩, .int .i64 0, .int .i64 0, .int .i64 0, .int .i64 0, .int .i64 0, .int .i64 0, .int .i64 0] 66)
       obtain ⟨v10e27, hv10e27⟩ : ∃ v, v0e16.alloc (.cells #[.string ⟨#[]⟩, .int .i64 0, .int .i64 0, .int .i64 0, .int .i64 0, .int .i64 0, .int .i64 0, .int .i64 0] 66) = v := ⟨_, rfl⟩
       rw [hv10e27] at bb10e27 ln10e27 fc10e27
       rw [hv10e27]
       have s10e27 : v10e27.cell? ⟨a5, 0, none⟩ = some (.int .i64 z0) ∧ v10e27.cell? ⟨a5, 1, none⟩ = some (.int .i64 z1) ∧ v10e27.cell? ⟨a5, 2, none⟩ = some (.int .i64 z2) ∧ v10e27.cell? ⟨a5, 3, none⟩ = some (.int .i64 z3) ∧ v10e27.cell? ⟨a5, 4, none⟩ = some (.int .i64 z4) ∧ v10e27.cell? ⟨a5, 5, none⟩ = some (.int .i64 z5) ∧ v10e27.cell? ⟨a5, 6, none⟩ = some (.int .i64 z6) := ⟨cell_keep s0e16.1 bb10e27, cell_keep s0e16.2.1 bb10e27, cell_keep s0e16.2.2.1 bb10e27, cell_keep s0e16.2.2.2.1 bb10e27, cell_keep s0e16.2.2.2.2.1 bb10e27, cell_keep s0e16.2.2.2.2.2.1 bb10e27, cell_keep s0e16.2.2.2.2.2.2 bb10e27⟩
       have kb10e27 := kb0e16.trans (bb10e27.mono kb0e16.size)
       have gz10e27 := (bb10e27.block _ zl0e16).trans gz0e16
       have zl10e27 := Nat.lt_of_lt_of_le zl0e16 bb10e27.size
       have la10e27 := Nat.lt_of_lt_of_le la0e16 bb10e27.size
       refine hK.out _ _ (.inr s10e27) ?_
       clear hK K'
       try simp only [pt]
       have hB : w.heap.size < v0e16.heap.size := zl0e16
       have hA : a5 < v0e16.heap.size := la0e16
       refine' AnyTill.two (i := 0) (k := 19) (o := _) (o' := _) (by kernel_rfl) ?p21a ?p21b (fun K' hK => ?p21x) (fun K' hK => ?p21y)
       case p21a => (simp only [List.getElem?_toArray, List.getElem?_cons_zero]; rfl)
       case p21b => (simp only [List.getElem?_toArray, List.getElem?_cons_succ, List.getElem?_cons_zero]; rfl)
       case p21x =>
         go_simp
         have bb21e0 := (Below.refl v10e27.heap.size v10e27).alloc (Nat.le_refl _) (.cells #[.string ⟨#[117, 107]⟩, .string ⟨#[100, 101]⟩] 9)
         have ln21e0 : v10e27.heap.size < (v10e27.alloc (.cells #[.string ⟨#[117, 107]⟩, .string ⟨#[100, 101]⟩] 9)).heap.size := by simp
         have fc21e0 : (v10e27.alloc (.cells #[.string ⟨#[117, 107]⟩, .string ⟨#[100, 101]⟩] 9)).cell? ⟨v10e27.heap.size, x, none⟩ = some (.string J) := (World.cell?_alloc_new _ _ _ _).trans HJ.out
         obtain ⟨v21e0, hv21e0⟩ : ∃ v, v10e27.alloc (.cells #[.string ⟨#[117, 107]⟩, .string ⟨#[100, 101]⟩] 9) = v := ⟨_, rfl⟩
         rw [hv21e0] at bb21e0 ln21e0 fc21e0
         rw [hv21e0]
         have s21e0 : v21e0.cell? ⟨a5, 0, none⟩ = some (.int .i64 z0) ∧ v21e0.cell? ⟨a5, 1, none⟩ = some (.int .i64 z1) ∧ v21e0.cell? ⟨a5, 2, none⟩ = some (.int .i64 z2) ∧ v21e0.cell? ⟨a5, 3, none⟩ = some (.int .i64 z3) ∧ v21e0.cell? ⟨a5, 4, none⟩ = some (.int .i64 z4) ∧ v21e0.cell? ⟨a5, 5, none⟩ = some (.int .i64 z5) ∧ v21e0.cell? ⟨a5, 6, none⟩ = some (.int .i64 z6) := ⟨cell_keep s10e27.1 bb21e0, cell_keep s10e27.2.1 bb21e0, cell_keep s10e27.2.2.1 bb21e0, cell_keep s10e27.2.2.2.1 bb21e0, cell_keep s10e27.2.2.2.2.1 bb21e0, cell_keep s10e27.2.2.2.2.2.1 bb21e0, cell_keep s10e27.2.2.2.2.2.2 bb21e0⟩
         have kb21e0 := kb10e27.trans (bb21e0.mono kb10e27.size)
         have gz21e0 := (bb21e0.block _ zl10e27).trans gz10e27
         have zl21e0 := Nat.lt_of_lt_of_le zl10e27 bb21e0.size
         have la21e0 := Nat.lt_of_lt_of_le la10e27 bb21e0.size
         refine hK.out _ _ (.inr s21e0) ?_
         clear hK K'
         try simp only [pt]
         have hh21e0 := (bb21e0.block _ ln10e27).trans fc10e27
         have hl21e0 := Nat.lt_of_lt_of_le ln10e27 bb21e0.size
         refine AnyTill.weaken (C' := fun w' => w'.cell? ⟨v10e27.heap.size, x, none⟩ = some (.string J) ∧ w'.cell? ⟨a5, 0, none⟩ = some (.int .i64 z0) ∧ w'.cell? ⟨a5, 1, none⟩ = some (.int .i64 z1) ∧ w'.cell? ⟨a5, 2, none⟩ = some (.int .i64 z2) ∧ w'.cell? ⟨a5, 3, none⟩ = some (.int .i64 z3) ∧ w'.cell? ⟨a5, 4, none⟩ = some (.int .i64 z4) ∧ w'.cell? ⟨a5, 5, none⟩ = some (.int .i64 z5) ∧ w'.cell? ⟨a5, 6, none⟩ = some (.int .i64 z6)) (fun _ h => h.2) _ _ _ _ ?_
         have sj21e0 : v21e0.cell? ⟨v10e27.heap.size, x, none⟩ = some (.string J) ∧ v21e0.cell? ⟨a5, 0, none⟩ = some (.int .i64 z0) ∧ v21e0.cell? ⟨a5, 1, none⟩ = some (.int .i64 z1) ∧ v21e0.cell? ⟨a5, 2, none⟩ = some (.int .i64 z2) ∧ v21e0.cell? ⟨a5, 3, none⟩ = some (.int .i64 z3) ∧ v21e0.cell? ⟨a5, 4, none⟩ = some (.int .i64 z4) ∧ v21e0.cell? ⟨a5, 5, none⟩ = some (.int .i64 z5) ∧ v21e0.cell? ⟨a5, 6, none⟩ = some (.int .i64 z6) := ⟨fc21e0, s21e0⟩
         refine AnyTill.tk 4 sj21e0 ?_
         refine AnyTill.tk 5 sj21e0 ?_
         refine AnyTill.on 19 fun K' hK => ?_
         go_simp
         (go_at_call 48; (refine (RR.out z4 _).mono ?_); rintro e v22 ⟨r19, rfl, bb22⟩)
         have s22 : v22.cell? ⟨v10e27.heap.size, x, none⟩ = some (.string J) ∧ v22.cell? ⟨a5, 0, none⟩ = some (.int .i64 z0) ∧ v22.cell? ⟨a5, 1, none⟩ = some (.int .i64 z1) ∧ v22.cell? ⟨a5, 2, none⟩ = some (.int .i64 z2) ∧ v22.cell? ⟨a5, 3, none⟩ = some (.int .i64 z3) ∧ v22.cell? ⟨a5, 4, none⟩ = some (.int .i64 z4) ∧ v22.cell? ⟨a5, 5, none⟩ = some (.int .i64 z5) ∧ v22.cell? ⟨a5, 6, none⟩ = some (.int .i64 z6) := ⟨cell_keep sj21e0.1 bb22, cell_keep sj21e0.2.1 bb22, cell_keep sj21e0.2.2.1 bb22, cell_keep sj21e0.2.2.2.1 bb22, cell_keep sj21e0.2.2.2.2.1 bb22, cell_keep sj21e0.2.2.2.2.2.1 bb22, cell_keep sj21e0.2.2.2.2.2.2.1 bb22, cell_keep sj21e0.2.2.2.2.2.2.2 bb22⟩
         have kb22 := kb21e0.trans (bb22.mono kb21e0.size)
         have gz22 := (bb22.block _ zl21e0).trans gz21e0
         have zl22 := Nat.lt_of_lt_of_le zl21e0 bb22.size
         have la22 := Nat.lt_of_lt_of_le la21e0 bb22.size
         refine hK.out _ _ (.inr s22) ?_
         clear hK K'
         try simp only [pt]
         have hh22 := (bb22.block _ hl21e0).trans hh21e0
         have hl22 := Nat.lt_of_lt_of_le hl21e0 bb22.size
         have jl22 := Nat.lt_of_lt_of_le ln21e0 bb22.size
         refine AnyTill.tc (i := 22) (v := .int .i64 (z5 % 5)) (f := 7) (args := #[.int .i64 z5, .int .i64 5]) (hc := fun w' _ => within_any z5 5 w' (by omega) (by omega)) (hC := s22) (h := ?_)
         refine AnyTill.tc (i := 25) (v := .int .i64 y6) (f := 17) (args := #[.int .i64 z6]) (hc := fun w' _ => A6.out w') (hC := s22) (h := ?_)
         refine AnyTill.tk 26 s22 ?_
         refine AnyTill.on 28 fun K' hK => ?_
         rw [if_pos (by rfl)]
         refine wp_store_row 66 (.tmp 6) (.tmp 35) rfl v0e16.heap.size (inL ⟨J, p % 20, y1, y2, r16, r19, z5 % 5, y6⟩).toArray rfl rfl _ _ hh22 (in_size _) rfl (in_one _) ?_
         have ne5 : a5 ≠ v0e16.heap.size := by omega
         have neJ : v10e27.heap.size ≠ v0e16.heap.size := by have := ln10e27; omega
         refine hK.out _ _ (.inr ⟨by rw [cell_setRow_other _ _ _ _ (show _ ≠ v0e16.heap.size from neJ)]; exact s22.1, by rw [cell_setRow_other _ _ _ _ (show _ ≠ v0e16.heap.size from ne5)]; exact s22.2.1, by rw [cell_setRow_other _ _ _ _ (show _ ≠ v0e16.heap.size from ne5)]; exact s22.2.2.1, by rw [cell_setRow_other _ _ _ _ (show _ ≠ v0e16.heap.size from ne5)]; exact s22.2.2.2.1, by rw [cell_setRow_other _ _ _ _ (show _ ≠ v0e16.heap.size from ne5)]; exact s22.2.2.2.2.1, by rw [cell_setRow_other _ _ _ _ (show _ ≠ v0e16.heap.size from ne5)]; exact s22.2.2.2.2.2.1, by rw [cell_setRow_other _ _ _ _ (show _ ≠ v0e16.heap.size from ne5)]; exact s22.2.2.2.2.2.2.1, by rw [cell_setRow_other _ _ _ _ (show _ ≠ v0e16.heap.size from ne5)]; exact s22.2.2.2.2.2.2.2⟩) ?_
         clear hK K'
         try simp only [pt]
         refine AnyTill.done (by kernel_rfl) ?_ _
         refine NoPanic.normal ?_
         go_wp2
         go_meet
         exact ⟨v0e16.heap.size, ⟨J, p % 20, y1, y2, r16, r19, z5 % 5, y6⟩, rfl, setRow_heap _ _ _ _ _ _ hh22, (setRow_other _ _ _ _ (show w.heap.size ≠ v0e16.heap.size by omega)).trans gz22, hB, below_setRow kb22 (by omega) _⟩
       case p21y =>
         go_simp
         (go_at_call 48; (refine (RR.out z4 _).mono ?_); rintro e v21e19 ⟨r19, rfl, bb21e19⟩)
         have s21e19 : v21e19.cell? ⟨a5, 0, none⟩ = some (.int .i64 z0) ∧ v21e19.cell? ⟨a5, 1, none⟩ = some (.int .i64 z1) ∧ v21e19.cell? ⟨a5, 2, none⟩ = some (.int .i64 z2) ∧ v21e19.cell? ⟨a5, 3, none⟩ = some (.int .i64 z3) ∧ v21e19.cell? ⟨a5, 4, none⟩ = some (.int .i64 z4) ∧ v21e19.cell? ⟨a5, 5, none⟩ = some (.int .i64 z5) ∧ v21e19.cell? ⟨a5, 6, none⟩ = some (.int .i64 z6) := ⟨cell_keep s10e27.1 bb21e19, cell_keep s10e27.2.1 bb21e19, cell_keep s10e27.2.2.1 bb21e19, cell_keep s10e27.2.2.2.1 bb21e19, cell_keep s10e27.2.2.2.2.1 bb21e19, cell_keep s10e27.2.2.2.2.2.1 bb21e19, cell_keep s10e27.2.2.2.2.2.2 bb21e19⟩
         have kb21e19 := kb10e27.trans (bb21e19.mono kb10e27.size)
         have gz21e19 := (bb21e19.block _ zl10e27).trans gz10e27
         have zl21e19 := Nat.lt_of_lt_of_le zl10e27 bb21e19.size
         have la21e19 := Nat.lt_of_lt_of_le la10e27 bb21e19.size
         refine hK.out _ _ (.inr s21e19) ?_
         clear hK K'
         try simp only [pt]
         have hh21e19 := (bb21e19.block _ ln10e27).trans fc10e27
         have hl21e19 := Nat.lt_of_lt_of_le ln10e27 bb21e19.size
         refine AnyTill.tc (i := 22) (v := .int .i64 (z5 % 5)) (f := 7) (args := #[.int .i64 z5, .int .i64 5]) (hc := fun w' _ => within_any z5 5 w' (by omega) (by omega)) (hC := s21e19) (h := ?_)
         refine AnyTill.tc (i := 25) (v := .int .i64 y6) (f := 17) (args := #[.int .i64 z6]) (hc := fun w' _ => A6.out w') (hC := s21e19) (h := ?_)
         refine AnyTill.on 0 fun K' hK => ?_
         go_simp
         have bb24 := (Below.refl v21e19.heap.size v21e19).alloc (Nat.le_refl _) (.cells #[.string ⟨#[117, 107]⟩, .string ⟨#[100, 101]⟩] 9)
         have ln24 : v21e19.heap.size < (v21e19.alloc (.cells #[.string ⟨#[117, 107]⟩, .string ⟨#[100, 101]⟩] 9)).heap.size := by simp
         have fc24 : (v21e19.alloc (.cells #[.string ⟨#[117, 107]⟩, .string ⟨#[100, 101]⟩] 9)).cell? ⟨v21e19.heap.size, x, none⟩ = some (.string J) := (World.cell?_alloc_new _ _ _ _).trans HJ.out
         obtain ⟨v24, hv24⟩ : ∃ v, v21e19.alloc (.cells #[.string ⟨#[117, 107]⟩, .string ⟨#[100, 101]⟩] 9) = v := ⟨_, rfl⟩
         rw [hv24] at bb24 ln24 fc24
         rw [hv24]
         have s24 : v24.cell? ⟨a5, 0, none⟩ = some (.int .i64 z0) ∧ v24.cell? ⟨a5, 1, none⟩ = some (.int .i64 z1) ∧ v24.cell? ⟨a5, 2, none⟩ = some (.int .i64 z2) ∧ v24.cell? ⟨a5, 3, none⟩ = some (.int .i64 z3) ∧ v24.cell? ⟨a5, 4, none⟩ = some (.int .i64 z4) ∧ v24.cell? ⟨a5, 5, none⟩ = some (.int .i64 z5) ∧ v24.cell? ⟨a5, 6, none⟩ = some (.int .i64 z6) := ⟨cell_keep s21e19.1 bb24, cell_keep s21e19.2.1 bb24, cell_keep s21e19.2.2.1 bb24, cell_keep s21e19.2.2.2.1 bb24, cell_keep s21e19.2.2.2.2.1 bb24, cell_keep s21e19.2.2.2.2.2.1 bb24, cell_keep s21e19.2.2.2.2.2.2 bb24⟩
         have kb24 := kb21e19.trans (bb24.mono kb21e19.size)
         have gz24 := (bb24.block _ zl21e19).trans gz21e19
         have zl24 := Nat.lt_of_lt_of_le zl21e19 bb24.size
         have la24 := Nat.lt_of_lt_of_le la21e19 bb24.size
         refine hK.out _ _ (.inr s24) ?_
         clear hK K'
         try simp only [pt]
         have hh24 := (bb24.block _ hl21e19).trans hh21e19
         have hl24 := Nat.lt_of_lt_of_le hl21e19 bb24.size
         refine AnyTill.weaken (C' := fun w' => w'.cell? ⟨v21e19.heap.size, x, none⟩ = some (.string J) ∧ w'.cell? ⟨a5, 0, none⟩ = some (.int .i64 z0) ∧ w'.cell? ⟨a5, 1, none⟩ = some (.int .i64 z1) ∧ w'.cell? ⟨a5, 2, none⟩ = some (.int .i64 z2) ∧ w'.cell? ⟨a5, 3, none⟩ = some (.int .i64 z3) ∧ w'.cell? ⟨a5, 4, none⟩ = some (.int .i64 z4) ∧ w'.cell? ⟨a5, 5, none⟩ = some (.int .i64 z5) ∧ w'.cell? ⟨a5, 6, none⟩ = some (.int .i64 z6)) (fun _ h => h.2) _ _ _ _ ?_
         have sj24 : v24.cell? ⟨v21e19.heap.size, x, none⟩ = some (.string J) ∧ v24.cell? ⟨a5, 0, none⟩ = some (.int .i64 z0) ∧ v24.cell? ⟨a5, 1, none⟩ = some (.int .i64 z1) ∧ v24.cell? ⟨a5, 2, none⟩ = some (.int .i64 z2) ∧ v24.cell? ⟨a5, 3, none⟩ = some (.int .i64 z3) ∧ v24.cell? ⟨a5, 4, none⟩ = some (.int .i64 z4) ∧ v24.cell? ⟨a5, 5, none⟩ = some (.int .i64 z5) ∧ v24.cell? ⟨a5, 6, none⟩ = some (.int .i64 z6) := ⟨fc24, s24⟩
         refine AnyTill.tk 4 sj24 ?_
         refine AnyTill.tk 5 sj24 ?_
         refine AnyTill.tk 26 sj24 ?_
         refine AnyTill.on 28 fun K' hK => ?_
         rw [if_pos (by rfl)]
         refine wp_store_row 66 (.tmp 6) (.tmp 35) rfl v0e16.heap.size (inL ⟨J, p % 20, y1, y2, r16, r19, z5 % 5, y6⟩).toArray rfl rfl _ _ hh24 (in_size _) rfl (in_one _) ?_
         have ne5 : a5 ≠ v0e16.heap.size := by omega
         have neJ : v21e19.heap.size ≠ v0e16.heap.size := by have := hl21e19; omega
         refine hK.out _ _ (.inr ⟨by rw [cell_setRow_other _ _ _ _ (show _ ≠ v0e16.heap.size from neJ)]; exact sj24.1, by rw [cell_setRow_other _ _ _ _ (show _ ≠ v0e16.heap.size from ne5)]; exact sj24.2.1, by rw [cell_setRow_other _ _ _ _ (show _ ≠ v0e16.heap.size from ne5)]; exact sj24.2.2.1, by rw [cell_setRow_other _ _ _ _ (show _ ≠ v0e16.heap.size from ne5)]; exact sj24.2.2.2.1, by rw [cell_setRow_other _ _ _ _ (show _ ≠ v0e16.heap.size from ne5)]; exact sj24.2.2.2.2.1, by rw [cell_setRow_other _ _ _ _ (show _ ≠ v0e16.heap.size from ne5)]; exact sj24.2.2.2.2.2.1, by rw [cell_setRow_other _ _ _ _ (show _ ≠ v0e16.heap.size from ne5)]; exact sj24.2.2.2.2.2.2.1, by rw [cell_setRow_other _ _ _ _ (show _ ≠ v0e16.heap.size from ne5)]; exact sj24.2.2.2.2.2.2.2⟩) ?_
         clear hK K'
         try simp only [pt]
         refine AnyTill.done (by kernel_rfl) ?_ _
         refine NoPanic.normal ?_
         go_wp2
         go_meet
         exact ⟨v0e16.heap.size, ⟨J, p % 20, y1, y2, r16, r19, z5 % 5, y6⟩, rfl, setRow_heap _ _ _ _ _ _ hh24, (setRow_other _ _ _ _ (show w.heap.size ≠ v0e16.heap.size by omega)).trans gz24, hB, below_setRow kb24 (by omega) _⟩
   case p0z =>
     go_simp
     have bb0e27 := (Below.refl wd.heap.size wd).alloc (Nat.le_refl _) (.cells #[.string ⟨#[]⟩, .int .i64 0, .int .i64 0, .int .i64 0, .int .i64 0, .int .i64 0, .int .i64 0, .int .i64 0] 66)
     have ln0e27 : wd.heap.size < (wd.alloc (.cells #[.string ⟨#[]⟩, .int .i64 0, .int .i64 0, .int .i64 0, .int .i64 0, .int .i64 0, .int .i64 0, .int .i64 0] 66)).heap.size := by simp
     have fc0e27 := heap_alloc_last wd (.cells #[.string ⟨#[]⟩, .int .i64 0, .int .i64 0, .int .i64 0, .int .i64 0, .int .i64 0, .int .i64 0, .int .i64 0] 66)
     obtain ⟨v0e27, hv0e27⟩ : ∃ v, wd.alloc (.cells #[.string ⟨#[]⟩, .int .i64 0, .int .i64 0, .int .i64 0, .int .i64 0, .int .i64 0, .int .i64 0, .int .i64 0] 66) = v := ⟨_, rfl⟩
     rw [hv0e27] at bb0e27 ln0e27 fc0e27
     rw [hv0e27]
     have s0e27 : v0e27.cell? ⟨a5, 0, none⟩ = some (.int .i64 z0) ∧ v0e27.cell? ⟨a5, 1, none⟩ = some (.int .i64 z1) ∧ v0e27.cell? ⟨a5, 2, none⟩ = some (.int .i64 z2) ∧ v0e27.cell? ⟨a5, 3, none⟩ = some (.int .i64 z3) ∧ v0e27.cell? ⟨a5, 4, none⟩ = some (.int .i64 z4) ∧ v0e27.cell? ⟨a5, 5, none⟩ = some (.int .i64 z5) ∧ v0e27.cell? ⟨a5, 6, none⟩ = some (.int .i64 z6) := ⟨cell_keep scd.1 bb0e27, cell_keep scd.2.1 bb0e27, cell_keep scd.2.2.1 bb0e27, cell_keep scd.2.2.2.1 bb0e27, cell_keep scd.2.2.2.2.1 bb0e27, cell_keep scd.2.2.2.2.2.1 bb0e27, cell_keep scd.2.2.2.2.2.2 bb0e27⟩
     have kb0e27 := kd.trans (bb0e27.mono kd.size)
     have gz0e27 := (bb0e27.block _ zd).trans gd
     have zl0e27 := Nat.lt_of_lt_of_le zd bb0e27.size
     have la0e27 := Nat.lt_of_lt_of_le la bb0e27.size
     refine hK.out _ _ (.inr s0e27) ?_
     clear hK K'
     try simp only [pt]
     have hB : w.heap.size < wd.heap.size := zd
     have hA : a5 < wd.heap.size := la
     refine' AnyTill.two (i := 0) (k := 16) (o := _) (o' := _) (by kernel_rfl) ?p26a ?p26b (fun K' hK => ?p26x) (fun K' hK => ?p26y)
     case p26a => (simp only [List.getElem?_toArray, List.getElem?_cons_zero]; rfl)
     case p26b => (simp only [List.getElem?_toArray, List.getElem?_cons_succ, List.getElem?_cons_zero]; rfl)
     case p26x =>
       go_simp
       have bb26e0 := (Below.refl v0e27.heap.size v0e27).alloc (Nat.le_refl _) (.cells #[.string ⟨#[117, 107]⟩, .string ⟨#[100, 101]⟩] 9)
       have ln26e0 : v0e27.heap.size < (v0e27.alloc (.cells #[.string ⟨#[117, 107]⟩, .string ⟨#[100, 101]⟩] 9)).heap.size := by simp
       have fc26e0 : (v0e27.alloc (.cells #[.string ⟨#[117, 107]⟩, .string ⟨#[100, 101]⟩] 9)).cell? ⟨v0e27.heap.size, x, none⟩ = some (.string J) := (World.cell?_alloc_new _ _ _ _).trans HJ.out
       obtain ⟨v26e0, hv26e0⟩ : ∃ v, v0e27.alloc (.cells #[.string ⟨#[117, 107]⟩, .string ⟨#[100, 101]⟩] 9) = v := ⟨_, rfl⟩
       rw [hv26e0] at bb26e0 ln26e0 fc26e0
       rw [hv26e0]
       have s26e0 : v26e0.cell? ⟨a5, 0, none⟩ = some (.int .i64 z0) ∧ v26e0.cell? ⟨a5, 1, none⟩ = some (.int .i64 z1) ∧ v26e0.cell? ⟨a5, 2, none⟩ = some (.int .i64 z2) ∧ v26e0.cell? ⟨a5, 3, none⟩ = some (.int .i64 z3) ∧ v26e0.cell? ⟨a5, 4, none⟩ = some (.int .i64 z4) ∧ v26e0.cell? ⟨a5, 5, none⟩ = some (.int .i64 z5) ∧ v26e0.cell? ⟨a5, 6, none⟩ = some (.int .i64 z6) := ⟨cell_keep s0e27.1 bb26e0, cell_keep s0e27.2.1 bb26e0, cell_keep s0e27.2.2.1 bb26e0, cell_keep s0e27.2.2.2.1 bb26e0, cell_keep s0e27.2.2.2.2.1 bb26e0, cell_keep s0e27.2.2.2.2.2.1 bb26e0, cell_keep s0e27.2.2.2.2.2.2 bb26e0⟩
       have kb26e0 := kb0e27.trans (bb26e0.mono kb0e27.size)
       have gz26e0 := (bb26e0.block _ zl0e27).trans gz0e27
       have zl26e0 := Nat.lt_of_lt_of_le zl0e27 bb26e0.size
       have la26e0 := Nat.lt_of_lt_of_le la0e27 bb26e0.size
       refine hK.out _ _ (.inr s26e0) ?_
       clear hK K'
       try simp only [pt]
       have hh26e0 := (bb26e0.block _ ln0e27).trans fc0e27
       have hl26e0 := Nat.lt_of_lt_of_le ln0e27 bb26e0.size
       refine AnyTill.weaken (C' := fun w' => w'.cell? ⟨v0e27.heap.size, x, none⟩ = some (.string J) ∧ w'.cell? ⟨a5, 0, none⟩ = some (.int .i64 z0) ∧ w'.cell? ⟨a5, 1, none⟩ = some (.int .i64 z1) ∧ w'.cell? ⟨a5, 2, none⟩ = some (.int .i64 z2) ∧ w'.cell? ⟨a5, 3, none⟩ = some (.int .i64 z3) ∧ w'.cell? ⟨a5, 4, none⟩ = some (.int .i64 z4) ∧ w'.cell? ⟨a5, 5, none⟩ = some (.int .i64 z5) ∧ w'.cell? ⟨a5, 6, none⟩ = some (.int .i64 z6)) (fun _ h => h.2) _ _ _ _ ?_
       have sj26e0 : v26e0.cell? ⟨v0e27.heap.size, x, none⟩ = some (.string J) ∧ v26e0.cell? ⟨a5, 0, none⟩ = some (.int .i64 z0) ∧ v26e0.cell? ⟨a5, 1, none⟩ = some (.int .i64 z1) ∧ v26e0.cell? ⟨a5, 2, none⟩ = some (.int .i64 z2) ∧ v26e0.cell? ⟨a5, 3, none⟩ = some (.int .i64 z3) ∧ v26e0.cell? ⟨a5, 4, none⟩ = some (.int .i64 z4) ∧ v26e0.cell? ⟨a5, 5, none⟩ = some (.int .i64 z5) ∧ v26e0.cell? ⟨a5, 6, none⟩ = some (.int .i64 z6) := ⟨fc26e0, s26e0⟩
       refine AnyTill.tk 4 sj26e0 ?_
       refine AnyTill.tk 5 sj26e0 ?_
       refine AnyTill.on 16 fun K' hK => ?_
       go_simp
       (go_at_call 48; (refine (RR.out z3 _).mono ?_); rintro e v27 ⟨r16, rfl, bb27⟩)
       have s27 : v27.cell? ⟨v0e27.heap.size, x, none⟩ = some (.string J) ∧ v27.cell? ⟨a5, 0, none⟩ = some (.int .i64 z0) ∧ v27.cell? ⟨a5, 1, none⟩ = some (.int .i64 z1) ∧ v27.cell? ⟨a5, 2, none⟩ = some (.int .i64 z2) ∧ v27.cell? ⟨a5, 3, none⟩ = some (.int .i64 z3) ∧ v27.cell? ⟨a5, 4, none⟩ = some (.int .i64 z4) ∧ v27.cell? ⟨a5, 5, none⟩ = some (.int .i64 z5) ∧ v27.cell? ⟨a5, 6, none⟩ = some (.int .i64 z6) := ⟨cell_keep sj26e0.1 bb27, cell_keep sj26e0.2.1 bb27, cell_keep sj26e0.2.2.1 bb27, cell_keep sj26e0.2.2.2.1 bb27, cell_keep sj26e0.2.2.2.2.1 bb27, cell_keep sj26e0.2.2.2.2.2.1 bb27, cell_keep sj26e0.2.2.2.2.2.2.1 bb27, cell_keep sj26e0.2.2.2.2.2.2.2 bb27⟩
       have kb27 := kb26e0.trans (bb27.mono kb26e0.size)
       have gz27 := (bb27.block _ zl26e0).trans gz26e0
       have zl27 := Nat.lt_of_lt_of_le zl26e0 bb27.size
       have la27 := Nat.lt_of_lt_of_le la26e0 bb27.size
       refine hK.out _ _ (.inr s27) ?_
       clear hK K'
       try simp only [pt]
       have hh27 := (bb27.block _ hl26e0).trans hh26e0
       have hl27 := Nat.lt_of_lt_of_le hl26e0 bb27.size
       have jl27 := Nat.lt_of_lt_of_le ln26e0 bb27.size
       refine AnyTill.on 19 fun K' hK => ?_
       go_simp
       (go_at_call 48; (refine (RR.out z4 _).mono ?_); rintro e v28 ⟨r19, rfl, bb28⟩)
       have s28 : v28.cell? ⟨v0e27.heap.size, x, none⟩ = some (.string J) ∧ v28.cell? ⟨a5, 0, none⟩ = some (.int .i64 z0) ∧ v28.cell? ⟨a5, 1, none⟩ = some (.int .i64 z1) ∧ v28.cell? ⟨a5, 2, none⟩ = some (.int .i64 z2) ∧ v28.cell? ⟨a5, 3, none⟩ = some (.int .i64 z3) ∧ v28.cell? ⟨a5, 4, none⟩ = some (.int .i64 z4) ∧ v28.cell? ⟨a5, 5, none⟩ = some (.int .i64 z5) ∧ v28.cell? ⟨a5, 6, none⟩ = some (.int .i64 z6) := ⟨cell_keep s27.1 bb28, cell_keep s27.2.1 bb28, cell_keep s27.2.2.1 bb28, cell_keep s27.2.2.2.1 bb28, cell_keep s27.2.2.2.2.1 bb28, cell_keep s27.2.2.2.2.2.1 bb28, cell_keep s27.2.2.2.2.2.2.1 bb28, cell_keep s27.2.2.2.2.2.2.2 bb28⟩
       have kb28 := kb27.trans (bb28.mono kb27.size)
       have gz28 := (bb28.block _ zl27).trans gz27
       have zl28 := Nat.lt_of_lt_of_le zl27 bb28.size
       have la28 := Nat.lt_of_lt_of_le la27 bb28.size
       refine hK.out _ _ (.inr s28) ?_
       clear hK K'
       try simp only [pt]
       have hh28 := (bb28.block _ hl27).trans hh27
       have hl28 := Nat.lt_of_lt_of_le hl27 bb28.size
       have jl28 := Nat.lt_of_lt_of_le jl27 bb28.size
       refine AnyTill.tc (i := 22) (v := .int .i64 (z5 % 5)) (f := 7) (args := #[.int .i64 z5, .int .i64 5]) (hc := fun w' _ => within_any z5 5 w' (by omega) (by omega)) (hC := s28) (h := ?_)
       refine AnyTill.tc (i := 25) (v := .int .i64 y6) (f := 17) (args := #[.int .i64 z6]) (hc := fun w' _ => A6.out w') (hC := s28) (h := ?_)
       refine AnyTill.tk 26 s28 ?_
       refine AnyTill.on 28 fun K' hK => ?_
       rw [if_pos (by rfl)]
       refine wp_store_row 66 (.tmp 6) (.tmp 35) rfl wd.heap.size (inL ⟨J, p % 20, y1, y2, r16, r19, z5 % 5, y6⟩).toArray rfl rfl _ _ hh28 (in_size _) rfl (in_one _) ?_
       have ne5 : a5 ≠ wd.heap.size := by omega
       have neJ : v0e27.heap.size ≠ wd.heap.size := by have := ln0e27; omega
       refine hK.out _ _ (.inr ⟨by rw [cell_setRow_other _ _ _ _ (show _ ≠ wd.heap.size from neJ)]; exact s28.1, by rw [cell_setRow_other _ _ _ _ (show _ ≠ wd.heap.size from ne5)]; exact s28.2.1, by rw [cell_setRow_other _ _ _ _ (show _ ≠ wd.heap.size from ne5)]; exact s28.2.2.1, by rw [cell_setRow_other _ _ _ _ (show _ ≠ wd.heap.size from ne5)]; exact s28.2.2.2.1, by rw [cell_setRow_other _ _ _ _ (show _ ≠ wd.heap.size from ne5)]; exact s28.2.2.2.2.1, by rw [cell_setRow_other _ _ _ _ (show _ ≠ wd.heap.size from ne5)]; exact s28.2.2.2.2.2.1, by rw [cell_setRow_other _ _ _ _ (show _ ≠ wd.heap.size from ne5)]; exact s28.2.2.2.2.2.2.1, by rw [cell_setRow_other _ _ _ _ (show _ ≠ wd.heap.size from ne5)]; exact s28.2.2.2.2.2.2.2⟩) ?_
       clear hK K'
       try simp only [pt]
       refine AnyTill.done (by kernel_rfl) ?_ _
       refine NoPanic.normal ?_
       go_wp2
       go_meet
       exact ⟨wd.heap.size, ⟨J, p % 20, y1, y2, r16, r19, z5 % 5, y6⟩, rfl, setRow_heap _ _ _ _ _ _ hh28, (setRow_other _ _ _ _ (show w.heap.size ≠ wd.heap.size by omega)).trans gz28, hB, below_setRow kb28 (by omega) _⟩
     case p26y =>
       go_simp
       (go_at_call 48; (refine (RR.out z3 _).mono ?_); rintro e v26e16 ⟨r16, rfl, bb26e16⟩)
       have s26e16 : v26e16.cell? ⟨a5, 0, none⟩ = some (.int .i64 z0) ∧ v26e16.cell? ⟨a5, 1, none⟩ = some (.int .i64 z1) ∧ v26e16.cell? ⟨a5, 2, none⟩ = some (.int .i64 z2) ∧ v26e16.cell? ⟨a5, 3, none⟩ = some (.int .i64 z3) ∧ v26e16.cell? ⟨a5, 4, none⟩ = some (.int .i64 z4) ∧ v26e16.cell? ⟨a5, 5, none⟩ = some (.int .i64 z5) ∧ v26e16.cell? ⟨a5, 6, none⟩ = some (.int .i64 z6) := ⟨cell_keep s0e27.1 bb26e16, cell_keep s0e27.2.1 bb26e16, cell_keep s0e27.2.2.1 bb26e16, cell_keep s0e27.2.2.2.1 bb26e16, cell_keep s0e27.2.2.2.2.1 bb26e16, cell_keep s0e27.2.2.2.2.2.1 bb26e16, cell_keep s0e27.2.2.2.2.2.2 bb26e16⟩
       have kb26e16 := kb0e27.trans (bb26e16.mono kb0e27.size)
       have gz26e16 := (bb26e16.block _ zl0e27).trans gz0e27
       have zl26e16 := Nat.lt_of_lt_of_le zl0e27 bb26e16.size
       have la26e16 := Nat.lt_of_lt_of_le la0e27 bb26e16.size
       refine hK.out _ _ (.inr s26e16) ?_
       clear hK K'
       try simp only [pt]
       have hh26e16 := (bb26e16.block _ ln0e27).trans fc0e27
       have hl26e16 := Nat.lt_of_lt_of_le ln0e27 bb26e16.size
       refine' AnyTill.two (i := 0) (k := 19) (o := _) (o' := _) (by kernel_rfl) ?p30a ?p30b (fun K' hK => ?p30x) (fun K' hK => ?p30y)
       case p30a => (simp only [List.getElem?_toArray, List.getElem?_cons_zero]; rfl)
       case p30b => (simp only [List.getElem?_toArray, List.getElem?_cons_succ, List.getElem?_cons_zero]; rfl)
       case p30x =>
         go_simp
         have bb30e0 := (Below.refl v26e16.heap.size v26e16).alloc (Nat.le_refl _) (.cells #[.string ⟨#[117, 107]⟩, .string ⟨#[100, 101]⟩] 9)
         have ln30e0 : v26e16.heap.size < (v26e16.alloc (.cells #[.string ⟨#[117, 107]⟩, .string ⟨#[100, 101]⟩] 9)).heap.size := by simp
         have fc30e0 : (v26e16.alloc (.cells #[.string ⟨#[117, 107]⟩, .string ⟨#[100, 101]⟩] 9)).cell? ⟨v26e16.heap.size, x, none⟩ = some (.string J) := (World.cell?_alloc_new _ _ _ _).trans HJ.out
         obtain ⟨v30e0, hv30e0⟩ : ∃ v, v26e16.alloc (.cells #[.string ⟨#[117, 107]⟩, .string ⟨#[100, 101]⟩] 9) = v := ⟨_, rfl⟩
         rw [hv30e0] at bb30e0 ln30e0 fc30e0
         rw [hv30e0]
         have s30e0 : v30e0.cell? ⟨a5, 0, none⟩ = some (.int .i64 z0) ∧ v30e0.cell? ⟨a5, 1, none⟩ = some (.int .i64 z1) ∧ v30e0.cell? ⟨a5, 2, none⟩ = some (.int .i64 z2) ∧ v30e0.cell? ⟨a5, 3, none⟩ = some (.int .i64 z3) ∧ v30e0.cell? ⟨a5, 4, none⟩ = some (.int .i64 z4) ∧ v30e0.cell? ⟨a5, 5, none⟩ = some (.int .i64 z5) ∧ v30e0.cell? ⟨a5, 6, none⟩ = some (.int .i64 z6) := ⟨cell_keep s26e16.1 bb30e0, cell_keep s26e16.2.1 bb30e0, cell_keep s26e16.2.2.1 bb30e0, cell_keep s26e16.2.2.2.1 bb30e0, cell_keep s26e16.2.2.2.2.1 bb30e0, cell_keep s26e16.2.2.2.2.2.1 bb30e0, cell_keep s26e16.2.2.2.2.2.2 bb30e0⟩
         have kb30e0 := kb26e16.trans (bb30e0.mono kb26e16.size)
         have gz30e0 := (bb30e0.block _ zl26e16).trans gz26e16
         have zl30e0 := Nat.lt_of_lt_of_le zl26e16 bb30e0.size
         have la30e0 := Nat.lt_of_lt_of_le la26e16 bb30e0.size
         refine hK.out _ _ (.inr s30e0) ?_
         clear hK K'
         try simp only [pt]
         have hh30e0 := (bb30e0.block _ hl26e16).trans hh26e16
         have hl30e0 := Nat.lt_of_lt_of_le hl26e16 bb30e0.size
         refine AnyTill.weaken (C' := fun w' => w'.cell? ⟨v26e16.heap.size, x, none⟩ = some (.string J) ∧ w'.cell? ⟨a5, 0, none⟩ = some (.int .i64 z0) ∧ w'.cell? ⟨a5, 1, none⟩ = some (.int .i64 z1) ∧ w'.cell? ⟨a5, 2, none⟩ = some (.int .i64 z2) ∧ w'.cell? ⟨a5, 3, none⟩ = some (.int .i64 z3) ∧ w'.cell? ⟨a5, 4, none⟩ = some (.int .i64 z4) ∧ w'.cell? ⟨a5, 5, none⟩ = some (.int .i64 z5) ∧ w'.cell? ⟨a5, 6, none⟩ = some (.int .i64 z6)) (fun _ h => h.2) _ _ _ _ ?_
         have sj30e0 : v30e0.cell? ⟨v26e16.heap.size, x, none⟩ = some (.string J) ∧ v30e0.cell? ⟨a5, 0, none⟩ = some (.int .i64 z0) ∧ v30e0.cell? ⟨a5, 1, none⟩ = some (.int .i64 z1) ∧ v30e0.cell? ⟨a5, 2, none⟩ = some (.int .i64 z2) ∧ v30e0.cell? ⟨a5, 3, none⟩ = some (.int .i64 z3) ∧ v30e0.cell? ⟨a5, 4, none⟩ = some (.int .i64 z4) ∧ v30e0.cell? ⟨a5, 5, none⟩ = some (.int .i64 z5) ∧ v30e0.cell? ⟨a5, 6, none⟩ = some (.int .i64 z6) := ⟨fc30e0, s30e0⟩
         refine AnyTill.tk 4 sj30e0 ?_
         refine AnyTill.tk 5 sj30e0 ?_
         refine AnyTill.on 19 fun K' hK => ?_
         go_simp
         (go_at_call 48; (refine (RR.out z4 _).mono ?_); rintro e v31 ⟨r19, rfl, bb31⟩)
         have s31 : v31.cell? ⟨v26e16.heap.size, x, none⟩ = some (.string J) ∧ v31.cell? ⟨a5, 0, none⟩ = some (.int .i64 z0) ∧ v31.cell? ⟨a5, 1, none⟩ = some (.int .i64 z1) ∧ v31.cell? ⟨a5, 2, none⟩ = some (.int .i64 z2) ∧ v31.cell? ⟨a5, 3, none⟩ = some (.int .i64 z3) ∧ v31.cell? ⟨a5, 4, none⟩ = some (.int .i64 z4) ∧ v31.cell? ⟨a5, 5, none⟩ = some (.int .i64 z5) ∧ v31.cell? ⟨a5, 6, none⟩ = some (.int .i64 z6) := ⟨cell_keep sj30e0.1 bb31, cell_keep sj30e0.2.1 bb31, cell_keep sj30e0.2.2.1 bb31, cell_keep sj30e0.2.2.2.1 bb31, cell_keep sj30e0.2.2.2.2.1 bb31, cell_keep sj30e0.2.2.2.2.2.1 bb31, cell_keep sj30e0.2.2.2.2.2.2.1 bb31, cell_keep sj30e0.2.2.2.2.2.2.2 bb31⟩
         have kb31 := kb30e0.trans (bb31.mono kb30e0.size)
         have gz31 := (bb31.block _ zl30e0).trans gz30e0
         have zl31 := Nat.lt_of_lt_of_le zl30e0 bb31.size
         have la31 := Nat.lt_of_lt_of_le la30e0 bb31.size
         refine hK.out _ _ (.inr s31) ?_
         clear hK K'
         try simp only [pt]
         have hh31 := (bb31.block _ hl30e0).trans hh30e0
         have hl31 := Nat.lt_of_lt_of_le hl30e0 bb31.size
         have jl31 := Nat.lt_of_lt_of_le ln30e0 bb31.size
         refine AnyTill.tc (i := 22) (v := .int .i64 (z5 % 5)) (f := 7) (args := #[.int .i64 z5, .int .i64 5]) (hc := fun w' _ => within_any z5 5 w' (by omega) (by omega)) (hC := s31) (h := ?_)
         refine AnyTill.tc (i := 25) (v := .int .i64 y6) (f := 17) (args := #[.int .i64 z6]) (hc := fun w' _ => A6.out w') (hC := s31) (h := ?_)
         refine AnyTill.tk 26 s31 ?_
         refine AnyTill.on 28 fun K' hK => ?_
         rw [if_pos (by rfl)]
         refine wp_store_row 66 (.tmp 6) (.tmp 35) rfl wd.heap.size (inL ⟨J, p % 20, y1, y2, r16, r19, z5 % 5, y6⟩).toArray rfl rfl _ _ hh31 (in_size _) rfl (in_one _) ?_
         have ne5 : a5 ≠ wd.heap.size := by omega
         have neJ : v26e16.heap.size ≠ wd.heap.size := by have := hl26e16; omega
         refine hK.out _ _ (.inr ⟨by rw [cell_setRow_other _ _ _ _ (show _ ≠ wd.heap.size from neJ)]; exact s31.1, by rw [cell_setRow_other _ _ _ _ (show _ ≠ wd.heap.size from ne5)]; exact s31.2.1, by rw [cell_setRow_other _ _ _ _ (show _ ≠ wd.heap.size from ne5)]; exact s31.2.2.1, by rw [cell_setRow_other _ _ _ _ (show _ ≠ wd.heap.size from ne5)]; exact s31.2.2.2.1, by rw [cell_setRow_other _ _ _ _ (show _ ≠ wd.heap.size from ne5)]; exact s31.2.2.2.2.1, by rw [cell_setRow_other _ _ _ _ (show _ ≠ wd.heap.size from ne5)]; exact s31.2.2.2.2.2.1, by rw [cell_setRow_other _ _ _ _ (show _ ≠ wd.heap.size from ne5)]; exact s31.2.2.2.2.2.2.1, by rw [cell_setRow_other _ _ _ _ (show _ ≠ wd.heap.size from ne5)]; exact s31.2.2.2.2.2.2.2⟩) ?_
         clear hK K'
         try simp only [pt]
         refine AnyTill.done (by kernel_rfl) ?_ _
         refine NoPanic.normal ?_
         go_wp2
         go_meet
         exact ⟨wd.heap.size, ⟨J, p % 20, y1, y2, r16, r19, z5 % 5, y6⟩, rfl, setRow_heap _ _ _ _ _ _ hh31, (setRow_other _ _ _ _ (show w.heap.size ≠ wd.heap.size by omega)).trans gz31, hB, below_setRow kb31 (by omega) _⟩
       case p30y =>
         go_simp
         (go_at_call 48; (refine (RR.out z4 _).mono ?_); rintro e v30e19 ⟨r19, rfl, bb30e19⟩)
         have s30e19 : v30e19.cell? ⟨a5, 0, none⟩ = some (.int .i64 z0) ∧ v30e19.cell? ⟨a5, 1, none⟩ = some (.int .i64 z1) ∧ v30e19.cell? ⟨a5, 2, none⟩ = some (.int .i64 z2) ∧ v30e19.cell? ⟨a5, 3, none⟩ = some (.int .i64 z3) ∧ v30e19.cell? ⟨a5, 4, none⟩ = some (.int .i64 z4) ∧ v30e19.cell? ⟨a5, 5, none⟩ = some (.int .i64 z5) ∧ v30e19.cell? ⟨a5, 6, none⟩ = some (.int .i64 z6) := ⟨cell_keep s26e16.1 bb30e19, cell_keep s26e16.2.1 bb30e19, cell_keep s26e16.2.2.1 bb30e19, cell_keep s26e16.2.2.2.1 bb30e19, cell_keep s26e16.2.2.2.2.1 bb30e19, cell_keep s26e16.2.2.2.2.2.1 bb30e19, cell_keep s26e16.2.2.2.2.2.2 bb30e19⟩
         have kb30e19 := kb26e16.trans (bb30e19.mono kb26e16.size)
         have gz30e19 := (bb30e19.block _ zl26e16).trans gz26e16
         have zl30e19 := Nat.lt_of_lt_of_le zl26e16 bb30e19.size
         have la30e19 := Nat.lt_of_lt_of_le la26e16 bb30e19.size
         refine hK.out _ _ (.inr s30e19) ?_
         clear hK K'
         try simp only [pt]
         have hh30e19 := (bb30e19.block _ hl26e16).trans hh26e16
         have hl30e19 := Nat.lt_of_lt_of_le hl26e16 bb30e19.size
         refine AnyTill.tc (i := 22) (v := .int .i64 (z5 % 5)) (f := 7) (args := #[.int .i64 z5, .int .i64 5]) (hc := fun w' _ => within_any z5 5 w' (by omega) (by omega)) (hC := s30e19) (h := ?_)
         refine AnyTill.tc (i := 25) (v := .int .i64 y6) (f := 17) (args := #[.int .i64 z6]) (hc := fun w' _ => A6.out w') (hC := s30e19) (h := ?_)
         refine AnyTill.on 0 fun K' hK => ?_
         go_simp
         have bb33 := (Below.refl v30e19.heap.size v30e19).alloc (Nat.le_refl _) (.cells #[.string ⟨#[117, 107]⟩, .string ⟨#[100, 101]⟩] 9)
         have ln33 : v30e19.heap.size < (v30e19.alloc (.cells #[.string ⟨#[117, 107]⟩, .string ⟨#[100, 101]⟩] 9)).heap.size := by simp
         have fc33 : (v30e19.alloc (.cells #[.string ⟨#[117, 107]⟩, .string ⟨#[100, 101]⟩] 9)).cell? ⟨v30e19.heap.size, x, none⟩ = some (.string J) := (World.cell?_alloc_new _ _ _ _).trans HJ.out
         obtain ⟨v33, hv33⟩ : ∃ v, v30e19.alloc (.cells #[.string ⟨#[117, 107]⟩, .string ⟨#[100, 101]⟩] 9) = v := ⟨_, rfl⟩
         rw [hv33] at bb33 ln33 fc33
         rw [hv33]
         have s33 : v33.cell? ⟨a5, 0, none⟩ = some (.int .i64 z0) ∧ v33.cell? ⟨a5, 1, none⟩ = some (.int .i64 z1) ∧ v33.cell? ⟨a5, 2, none⟩ = some (.int .i64 z2) ∧ v33.cell? ⟨a5, 3, none⟩ = some (.int .i64 z3) ∧ v33.cell? ⟨a5, 4, none⟩ = some (.int .i64 z4) ∧ v33.cell? ⟨a5, 5, none⟩ = some (.int .i64 z5) ∧ v33.cell? ⟨a5, 6, none⟩ = some (.int .i64 z6) := ⟨cell_keep s30e19.1 bb33, cell_keep s30e19.2.1 bb33, cell_keep s30e19.2.2.1 bb33, cell_keep s30e19.2.2.2.1 bb33, cell_keep s30e19.2.2.2.2.1 bb33, cell_keep s30e19.2.2.2.2.2.1 bb33, cell_keep s30e19.2.2.2.2.2.2 bb33⟩
         have kb33 := kb30e19.trans (bb33.mono kb30e19.size)
         have gz33 := (bb33.block _ zl30e19).trans gz30e19
         have zl33 := Nat.lt_of_lt_of_le zl30e19 bb33.size
         have la33 := Nat.lt_of_lt_of_le la30e19 bb33.size
         refine hK.out _ _ (.inr s33) ?_
         clear hK K'
         try simp only [pt]
         have hh33 := (bb33.block _ hl30e19).trans hh30e19
         have hl33 := Nat.lt_of_lt_of_le hl30e19 bb33.size
         refine AnyTill.weaken (C' := fun w' => w'.cell? ⟨v30e19.heap.size, x, none⟩ = some (.string J) ∧ w'.cell? ⟨a5, 0, none⟩ = some (.int .i64 z0) ∧ w'.cell? ⟨a5, 1, none⟩ = some (.int .i64 z1) ∧ w'.cell? ⟨a5, 2, none⟩ = some (.int .i64 z2) ∧ w'.cell? ⟨a5, 3, none⟩ = some (.int .i64 z3) ∧ w'.cell? ⟨a5, 4, none⟩ = some (.int .i64 z4) ∧ w'.cell? ⟨a5, 5, none⟩ = some (.int .i64 z5) ∧ w'.cell? ⟨a5, 6, none⟩ = some (.int .i64 z6)) (fun _ h => h.2) _ _ _ _ ?_
         have sj33 : v33.cell? ⟨v30e19.heap.size, x, none⟩ = some (.string J) ∧ v33.cell? ⟨a5, 0, none⟩ = some (.int .i64 z0) ∧ v33.cell? ⟨a5, 1, none⟩ = some (.int .i64 z1) ∧ v33.cell? ⟨a5, 2, none⟩ = some (.int .i64 z2) ∧ v33.cell? ⟨a5, 3, none⟩ = some (.int .i64 z3) ∧ v33.cell? ⟨a5, 4, none⟩ = some (.int .i64 z4) ∧ v33.cell? ⟨a5, 5, none⟩ = some (.int .i64 z5) ∧ v33.cell? ⟨a5, 6, none⟩ = some (.int .i64 z6) := ⟨fc33, s33⟩
         refine AnyTill.tk 4 sj33 ?_
         refine AnyTill.tk 5 sj33 ?_
         refine AnyTill.tk 26 sj33 ?_
         refine AnyTill.on 28 fun K' hK => ?_
         rw [if_pos (by rfl)]
         refine wp_store_row 66 (.tmp 6) (.tmp 35) rfl wd.heap.size (inL ⟨J, p % 20, y1, y2, r16, r19, z5 % 5, y6⟩).toArray rfl rfl _ _ hh33 (in_size _) rfl (in_one _) ?_
         have ne5 : a5 ≠ wd.heap.size := by omega
         have neJ : v30e19.heap.size ≠ wd.heap.size := by have := hl30e19; omega
         refine hK.out _ _ (.inr ⟨by rw [cell_setRow_other _ _ _ _ (show _ ≠ wd.heap.size from neJ)]; exact sj33.1, by rw [cell_setRow_other _ _ _ _ (show _ ≠ wd.heap.size from ne5)]; exact sj33.2.1, by rw [cell_setRow_other _ _ _ _ (show _ ≠ wd.heap.size from ne5)]; exact sj33.2.2.1, by rw [cell_setRow_other _ _ _ _ (show _ ≠ wd.heap.size from ne5)]; exact sj33.2.2.2.1, by rw [cell_setRow_other _ _ _ _ (show _ ≠ wd.heap.size from ne5)]; exact sj33.2.2.2.2.1, by rw [cell_setRow_other _ _ _ _ (show _ ≠ wd.heap.size from ne5)]; exact sj33.2.2.2.2.2.1, by rw [cell_setRow_other _ _ _ _ (show _ ≠ wd.heap.size from ne5)]; exact sj33.2.2.2.2.2.2.1, by rw [cell_setRow_other _ _ _ _ (show _ ≠ wd.heap.size from ne5)]; exact sj33.2.2.2.2.2.2.2⟩) ?_
         clear hK K'
         try simp only [pt]
         refine AnyTill.done (by kernel_rfl) ?_ _
         refine NoPanic.normal ?_
         go_wp2
         go_meet
         exact ⟨wd.heap.size, ⟨J, p % 20, y1, y2, r16, r19, z5 % 5, y6⟩, rfl, setRow_heap _ _ _ _ _ _ hh33, (setRow_other _ _ _ _ (show w.heap.size ≠ wd.heap.size by omega)).trans gz33, hB, below_setRow kb33 (by omega) _⟩
 case rest =>
   obtain ⟨B, i, rfl, hB, hR, hlt, hbx⟩ := hcut
   have KX := Lib.hid hbx
   have HR := Lib.hid hR
   have ne : w.heap.size ≠ B := by omega
   have NE := Lib.hid ne
   clear hbx hR ne
   by_cases hp : Int.tmod p 31 = 30
   · have c1 : wc.cell? ⟨B, 1, none⟩ = some (.int .i64 i.p) := cell_of_row _ _ 1 _ _ _ hB
     have f1 : wc.frozen? ⟨B, 1, none⟩ = false := frozen_of_row _ _ 1 _ _ hB
     have SE := Lib.hid (setCell_eq_setRow wc B 1 _ _ _ (.int .i64 p) hB)
     have HB := Lib.hid hB
     clear hB
     go_upto_region 5 with fail
     have e1 : wc.setCell ⟨B, 1, none⟩ (.int .i64 p) = wc.setRow B (inL ⟨i.j, p, i.bk, i.pm, i.jd, i.cp, i.lf, i.tu⟩).toArray := SE.out
     rw [e1]
     have h5 := setRow_heap wc B _ (inL ⟨i.j, p, i.bk, i.pm, i.jd, i.cp, i.lf, i.tu⟩).toArray _ _ HB.out
     have h6 := (setRow_other wc B w.heap.size (inL ⟨i.j, p, i.bk, i.pm, i.jd, i.cp, i.lf, i.tu⟩).toArray NE.out).trans HR.out
     have k5 := below_setRow KX.out (by omega) (inL ⟨i.j, p, i.bk, i.pm, i.jd, i.cp, i.lf, i.tu⟩).toArray (g := B)
     obtain ⟨wy, hwy⟩ : ∃ wy, wc.setRow B (inL ⟨i.j, p, i.bk, i.pm, i.jd, i.cp, i.lf, i.tu⟩).toArray = wy := ⟨_, rfl⟩
     rw [hwy] at h5 h6 k5
     rw [hwy]
     have H5 := Lib.hid (row_range h5)
     have H6 := Lib.hid h6
     have K5 := Lib.hid k5
     clear h5 h6 k5 hwy e1 SE HB c1 f1 KX HR
     go_wp2_with (first | ((with_reducible show wpList _ _ _ _ _ _); (refine wpList_load_mid rfl 66 (.tmp 6) rfl B 0 rfl (inL ⟨i.j, p, i.bk, i.pm, i.jd, i.cp, i.lf, i.tu⟩) _ H5.out Tryz.underlying66 rfl (in_size _) ?_)) | ((with_reducible show wpList _ _ _ _ _ _); (refine wpList_store_row rfl 66 (.tmp 4) (.tmp 41) rfl w.heap.size (inL ⟨i.j, p, i.bk, i.pm, i.jd, i.cp, i.lf, i.tu⟩).toArray rfl rfl _ _ H6.out (in_size _) rfl (in_one _) ?_)))
     (try simp only [Exit.inBlock, Exit.then])
     refine bodyPost_ret (results_cell rfl _ _ w.heap.size _ rfl (run_loadVar_row _ _ _ _ _ (0, 0) _ (setRow_heap _ _ _ _ _ _ H6.out) Tryz.underlying66 rfl (in_size _))) rfl ?_
     first | exact ⟨_, rfl, below_setRow K5.out (Nat.le_refl _) _⟩ | exact ⟨⟨_, rfl⟩, below_setRow K5.out (Nat.le_refl _) _⟩
   · have H5 := Lib.hid (row_range hB)
     clear hB
     go_wp2_with (first | ((with_reducible show wpList _ _ _ _ _ _); (refine wpList_load_mid rfl 66 (.tmp 6) rfl B 0 rfl (inL i) _ H5.out Tryz.underlying66 rfl (in_size _) ?_)) | ((with_reducible show wpList _ _ _ _ _ _); (refine wpList_store_row rfl 66 (.tmp 4) (.tmp 41) rfl w.heap.size (inL i).toArray rfl rfl _ _ HR.out (in_size _) rfl (in_one _) ?_)))
     (try simp only [Exit.inBlock, Exit.then])
     refine bodyPost_ret (results_cell rfl _ _ w.heap.size _ rfl (run_loadVar_row _ _ _ _ _ (0, 0) _ (setRow_heap _ _ _ _ _ _ HR.out) Tryz.underlying66 rfl (in_size _))) rfl ?_
     first | exact ⟨_, rfl, below_setRow KX.out (Nat.le_refl _) _⟩ | exact ⟨⟨_, rfl⟩, below_setRow KX.out (Nat.le_refl _) _⟩
end Go.Proofs.YtmlafdehhbhbiaaGreat
