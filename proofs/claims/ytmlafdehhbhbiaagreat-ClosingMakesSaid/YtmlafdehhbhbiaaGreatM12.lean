/- Several texts of mine in one: Law15a Tab16 BucketTot Acts10 Law10a Law10b Law10d. -/
import Derived.Test.YtmlafdehhbhbiaaGreatCur
import Derived.Test.YtmlafdehhbhbiaaGreatM1
import Derived.BigQuiet
import Derived.Deep.QuietTactic
import Derived.Test.YtmlafdehhbhbiaaGreatM4
import Derived.Test.YtmlafdehhbhbiaaGreatLaw09a
import Derived.Test.YtmlafdehhbhbiaaGreatM2
import Derived.WalkKit
import Derived.WalkSpells
import Derived.WalkLawsBesides
import Derived.Lib.Hide
import Derived.IntWalk
import Derived.Deep.LoopGhost
import Derived.Deep.RegionHeld3
import Derived.Test.YtmlafdehhbhbiaaGreatM11
import Derived.Test.YtmlafdehhbhbiaaGreatRows
import Derived.Deep.Slices
import Derived.ProofKit
import Derived.ChangeSame
import Derived.Deep.DeepCutAuto
import Derived.Deep.CutBlock
import Derived.Test.YtmlafdehhbhbiaaGreatM5
import Derived.Deep.RegionLaw
/- Law 15: the program's losses made of the document's; results compared; the document's example. -/
namespace Go.Proofs.YtmlafdehhbhbiaaGreat
open Go.RowKit
section
variable {w0 w : World} {O : Nat → Nat} {t sb n : Nat} {S S' : Int → Int → Int} {g : Nat → Bk}
theorem pre_is (iv : VInv S n g) {k : Nat} (hk : k ≤ n) : VIs (bget g k) k g :=
 ⟨⟨fun j hj => iv.is.1.ok j (by omega), fun j hj => iv.is.1.nz j (by omega), fun i j hi hj => iv.is.1.asc i j hi (by omega)⟩, fun _ _ => rfl⟩
theorem pre_err (iv : VInv S n g) {k : Nat} (hk : k < n) : AErr (bget g k) k (btot g k) (g k).c (g k).y (g k).a 0 := by
 have h1 := iv.one hk
 have h2 := iv.all
 have h3 := (tot_upto (g := fun j => (g j).a) (fun j hj => iv.pos j hj) (show k + 1 ≤ n by omega)).2
 have h4 : tot (fun j => (g j).a) (k + 1) = btot g k + (g k).a := rfl
 have h5 : tot (fun j => (g j).a) n = btot g n := rfl
 have h6 := iv.le
 exact .ok ⟨iv.is.1.ok k hk, by omega, by omega⟩ (by omega) (.inr (by omega))
theorem pre_next (g : Nat → Bk) (k : Nat) : adS 0 (bget g k) (g k).c (g k).y (g k).a = bget g (k + 1) := by
 funext c y
 rw [bget_succ]
 unfold adS upS bval
 rw [if_pos rfl]
 by_cases q : c = (g k).c ∧ y = (g k).y
 · rw [if_pos q, if_pos ⟨q.1.symm, q.2.symm⟩, q.1, q.2]
 · rw [if_neg q, if_neg (fun z => q ⟨z.1.symm, z.2.symm⟩), Int.add_zero]
set_option maxHeartbeats 4000000 in
theorem pof (h : NowL w0 w O t sb S) :
   Calls Tryz.prog 20 #[ptr sb] w fun e w' => ∃ sb' O', e = .returned (ptr sb') ∧ NowV w w' O' 1 sb' S ∧ Below w.heap.size w w' := by
 obtain ⟨v, n, g, s, iv⟩ := h.st
 obtain ⟨A, cc, rfl, hc, hm, _, ha⟩ := s.at
 have c0 := s.hd.c0
 have hn := iv.le
 have CN := Lib.hid (pvnew w w (fun _ => 0) (Fin0.zero _ _) (Below.refl _ _) 1)
 have HA := Lib.hid ha
 have IV := Lib.hid iv
 have e0 : Hid ((fun _ _ => 0 : Int → Int → Int) = bget g 0) := Lib.hid rfl
 have e1 : Hid (bget g n = S) := Lib.hid (by funext c y; exact iv.is.2 c y)
 have KC := Lib.hid fun w1 (k : Below w.heap.size w w1) => cell_keep c0 k
 clear h s ha iv c0
 go_enter Tryz.func20, Tryz.ntmps20
 go_wp2_with fail
 refine (CN.out).mono ?_
 rintro e w1 ⟨sb1, O1, rfl, n1, st1⟩
 have K1 := Lib.hid n1.low
 rw [e0.out] at n1
 have N1 := Lib.hid n1
 have c0 := KC.out _ K1.out
 clear n1 st1 CN
 go_wp2
 go_loopg [14] n (fun gh i wr => ∃ (k : Nat) (O1 : Nat → Nat), k ≤ n ∧ gh = n - k ∧ i = .int .i64 k ∧ NowV w wr O1 1 sb1 (bget g k))
 case atStart => exact ⟨0, O1, Nat.zero_le _, rfl, rfl, N1.out⟩
 case round =>
   obtain ⟨k, O2, hk, hgk, rfl, n2⟩ := hrel
   have HGK := Lib.hid hgk
   have N2 := Lib.hid n2
   have z2 : sb1 < wr.heap.size := by obtain ⟨_, _, _, s, _⟩ := n2.st; exact s.hd.lt
   clear hgk n2 N1
   by_cases hlt : k < n
   · obtain ⟨b, off, rfl, hb, d0, d1, d2⟩ := (HA.out.below N2.out.low).threeV hlt
     have CA := Lib.hid fun w3 (q : Below wr.heap.size wr w3) => pvadd (N2.out.below q) (by decide) (pre_is IV.out hk) (g k).c (g k).y (g k).a 0 (pre_err IV.out hlt)
     go_wp2_with fail
     refine (CA.out _ ((Below.refl _ _).alloc (Nat.le_refl _) _)).mono ?_
     rintro e w3 ⟨rfl, O3, n3, st3⟩
     rw [pre_next] at n3
     have N3 := Lib.hid n3
     clear n3 st3 CA d0 d1 d2
     go_wp2
     go_roundg (n - (k + 1))
     case measure => have := HGK.out; omega
     case rel => exact ⟨k + 1, O3, by omega, rfl, by go_num, N3.out⟩
   · obtain rfl : k = n := by omega
     clear hlt
     go_wp2
     go_ret
     exact ⟨_, O2, rfl, e1.out ▸ N2.out, N2.out.low⟩
end
set_option maxHeartbeats 4000000 in
set_option maxRecDepth 100000 in
theorem csame (i e u n t x : Int) (U U' : Option Addr) (q c c' : Nat) (f f' : Nat → Int) (w : World) (h : At w U q f) (h' : At w U' q f') (hq : q ≤ 1000000) (ef : ∀ j, j < q → f j = f' j) :
   Calls Tryz.prog 72 #[txa i e u n t x (.slice U q c), txa i e u n t x (.slice U' q c')] w fun e w' => e = .returned (.bool true) ∧ Below w.heap.size w w' := by
 unfold txa
 have CS := Lib.hid fun w3 (k : Below w.heap.size w w3) => same_true U U' q c c' f f' w3 (h.below k) (h'.below k) hq ef
 have e1 : (i == i) = true := by simp
 have e2 : (e == e) = true := by simp
 have e3 : (u == u) = true := by simp
 have e4 : (n == n) = true := by simp
 have e5 : (t == t) = true := by simp
 have e6 : (x == x) = true := by simp
 have K0 := Lib.hid (((Below.refl w.heap.size w).alloc (Nat.le_refl _) (.cells #[.int .i64 i, .int .i64 e, .int .i64 u, .int .i64 n, .int .i64 t, .int .i64 x, .slice U q c] 37)))
 have K1 := Lib.hid (K0.out.alloc K0.out.size (.cells #[.int .i64 i, .int .i64 e, .int .i64 u, .int .i64 n, .int .i64 t, .int .i64 x, .slice U' q c'] 71))
 clear h h'
 go_enter Tryz.func72, Tryz.ntmps72
 go_wp2_with fail
 refine (CS.out _ K1.out).mono ?_
 rintro e' w3 ⟨rfl, hb3⟩
 have K3 := Lib.hid (K1.out.trans (hb3.mono K1.out.size))
 clear hb3
 go_wp2
 go_ret
 exact ⟨rfl, K3.out⟩
end Go.Proofs.YtmlafdehhbhbiaaGreat
/- Tables of rates of numbers, made by the document's own additions: some table; of it, the program's. -/
namespace Go.Proofs.YtmlafdehhbhbiaaGreat
open Go.RowKit
section
variable {w0 w : World} {O : Nat → Nat} {t sb n : Nat} {R : Nat → Rt}
theorem mtadd_some (h : NowT 116 w0 w O t sb n R) (ht : t ≠ 0) (x : Rt) :
   Calls Tryz.prog 47 #[ptr sb, .string x.j, .int .i64 x.y, .int .i64 x.r, .int .i64 x.p] w fun e' w' => ∃ e n' R' O', e' = .returned (.int .i64 e) ∧ NowT 116 w0 w' O' t sb n' R' ∧ Step w0.heap.size O t w O' w' := by
 obtain ⟨v, s⟩ := h.st
 obtain ⟨e, he⟩ := terr_any s.inv.le x.j x.y x.r x.p
 by_cases h0 : e = 0
 · subst h0
   refine (radd_ok s h.fin h.low.size x he).mono ?_
   rintro e' w' ⟨rfl, v', O', a, st⟩
   exact ⟨0, _, _, O', rfl, ⟨⟨_, a⟩, st.fin, h.low.trans (st.below h.fin ht h.low.size)⟩, st⟩
 · refine (radd_no s h.fin h.low.size x e he h0).mono ?_
   rintro e' w' ⟨rfl, hb⟩
   exact ⟨e, n, R, O, rfl, h.below hb, Step.of_below h.fin hb⟩
set_option maxHeartbeats 8000000 in
set_option maxRecDepth 100000 in
theorem ptab_some (A : Option Addr) (n c : Nat) (zs : List Int) (w : World) (h : IsRow .i64 w A n c zs) :
   Calls Tryz.prog 13 #[.slice A n c] w fun e w' => ∃ sb n' R O', e = .returned (ptr sb) ∧ NowT 116 w w' O' 2 sb n' R := by
 have HR := Lib.hid h.at.1
 obtain ⟨f, hf⟩ : ∃ f : Nat → Int, (fun j => zs.getD j 0) = f := ⟨_, rfl⟩
 rw [hf] at HR
 clear h hf
 go_enter Tryz.func13, Tryz.ntmps13
 go_wp2
 obtain ⟨nw, _⟩ := nowt_new w w (fun _ => 0) (Fin0.zero _ _) (Below.refl _ _) 116 113 2 (fun _ => ⟨⟨#[]⟩, 0, 0, 0⟩)
 have N0 := Lib.hid nw
 clear nw
 go_loopg [4] 10 (fun gh i wr => ∃ (k : Nat) (n' : Nat) (R : Nat → Rt) (O : Nat → Nat), k ≤ 10 ∧ gh = 10 - k ∧ i = .int .i64 k ∧ NowT 116 w wr O 2 w.heap.size n' R)
 case atStart => exact ⟨0, _, _, _, by omega, rfl, rfl, N0.out⟩
 case round =>
   obtain ⟨k, n', R, O, hk, hgk, rfl, hn1⟩ := hrel
   have HGK := Lib.hid hgk
   have N1 := Lib.hid hn1
   clear hgk hn1 N0
   by_cases hlt : k < n ∧ k < 10
   · obtain ⟨l0, l1⟩ := hlt
     obtain ⟨b, off, rfl, hb, hc⟩ := HR.out.some (by omega)
     have low := N1.out.low
     have c0 := cell_keep (hc k l0) low
     obtain ⟨z, hz⟩ : ∃ z, f k = z := ⟨_, rfl⟩
     rw [hz] at c0
     have k0 : (0 : Int) ≤ (k : Int) := by omega
     have k1 : (k : Int) < (n : Int) := by omega
     have CL := Lib.hid fun w5 (q : Below wr.heap.size wr w5) (x : Rt) => mtadd_some (N1.out.below q) (by decide) x
     have C0 := Lib.hid c0
     have HCW := Lib.hid (show w.cell? ⟨b, off + k, none⟩ = some (.int .i64 z) by rw [← hz]; exact hc k l0)
     clear hc hz low
     have par : Int.tmod (k : Int) 2 = 0 ∨ Int.tmod (k : Int) 2 = 1 := by rw [Int.tmod_eq_emod_of_nonneg (by omega)]; omega
     have BD := Lib.hid (below_drew wr)
     have BS := Lib.hid ((below_drew wr).alloc (Nat.le_refl _) (.cells #[.string ⟨#[117, 107]⟩, .string ⟨#[100, 101]⟩] 9))
     have RL := rec_lit wr.drew [.string ⟨#[117, 107]⟩, .string ⟨#[100, 101]⟩] 9 wr.heap.size rfl
     have lit0 := RL 0 _ rfl
     have lit1 := RL 1 _ rfl
     clear RL C0
     rcases par with par | par
     · go_wp2
       refine wp_region_noPanic ?_
       refine AnyTill.begin (C := fun w' => w'.cell? ⟨b, off + k, none⟩ = some (.int .i64 z)) (q := 99) (by kernel_rfl) ?_
       have scd : wr.drew.cell? ⟨b, off + k, none⟩ = some (.int .i64 z) := c0
       refine AnyTill.take (i := 0) (v := ?_) (by simp only [List.getElem?_toArray, List.getElem?_cons_zero]; rfl) (by kernel_rfl) (by kernel_rfl) (by kernel_rfl) (by kernel_rfl) (fun _ _ _ h => h) (Or.inl ⟨by rfl, ?_⟩) scd ?_
       rotate_left
       · intro w' hw'; (try dsimp only at hw'); go_simp <;> with_reducible rfl
       try simp only [Act.put, List.setIfInBounds_toArray, List.set_cons_zero, List.set_cons_succ]
       refine AnyTill.take (i := 2) (v := ?_) (by simp only [List.getElem?_toArray, List.getElem?_cons_succ, List.getElem?_cons_zero]; rfl) (by kernel_rfl) (by kernel_rfl) (by kernel_rfl) (by kernel_rfl) (fun _ _ _ h => h) (Or.inl ⟨by rfl, ?_⟩) scd ?_
       rotate_left
       · intro w' hw'; (try dsimp only at hw'); go_simp <;> with_reducible rfl
       try simp only [Act.put, List.setIfInBounds_toArray, List.set_cons_zero, List.set_cons_succ]
       refine AnyTill.take (i := 3) (v := ?_) (by simp only [List.getElem?_toArray, List.getElem?_cons_succ, List.getElem?_cons_zero]; rfl) (by kernel_rfl) (by kernel_rfl) (by kernel_rfl) (by kernel_rfl) (fun _ _ _ h => h) (Or.inl ⟨by rfl, ?_⟩) scd ?_
       rotate_left
       · intro w' hw'; (try dsimp only at hw'); go_simp <;> with_reducible rfl
       try simp only [Act.put, List.setIfInBounds_toArray, List.set_cons_zero, List.set_cons_succ]
       refine AnyTill.take (i := 6) (v := ?_) (by simp only [List.getElem?_toArray, List.getElem?_cons_succ, List.getElem?_cons_zero]; rfl) (by kernel_rfl) (by kernel_rfl) (by kernel_rfl) (by kernel_rfl) (fun _ _ _ h => h) (Or.inl ⟨by rfl, ?_⟩) scd ?_
       rotate_left
       · intro w' hw'; (try dsimp only at hw'); go_simp <;> with_reducible rfl
       try simp only [Act.put, List.setIfInBounds_toArray, List.set_cons_zero, List.set_cons_succ]
       refine AnyTill.take (i := 7) (v := ?_) (by simp only [List.getElem?_toArray, List.getElem?_cons_succ, List.getElem?_cons_zero]; rfl) (by kernel_rfl) (by kernel_rfl) (by kernel_rfl) (by kernel_rfl) (fun _ _ _ h => h) (Or.inl ⟨by rfl, ?_⟩) scd ?_
       rotate_left
       · intro w' hw'; (try dsimp only at hw'); go_simp <;> with_reducible rfl
       try simp only [Act.put, List.setIfInBounds_toArray, List.set_cons_zero, List.set_cons_succ]
       refine AnyTill.take (i := 8) (v := ?_) (by simp only [List.getElem?_toArray, List.getElem?_cons_succ, List.getElem?_cons_zero]; rfl) (by kernel_rfl) (by kernel_rfl) (by kernel_rfl) (by kernel_rfl) (fun _ _ _ h => h) (Or.inl ⟨by rfl, ?_⟩) scd ?_
       rotate_left
       · intro w' hw'; (try dsimp only at hw'); go_simp <;> with_reducible rfl
       try simp only [Act.put, List.setIfInBounds_toArray, List.set_cons_zero, List.set_cons_succ]
       refine AnyTill.take (i := 9) (v := ?_) (by simp only [List.getElem?_toArray, List.getElem?_cons_succ, List.getElem?_cons_zero]; rfl) (by kernel_rfl) (by kernel_rfl) (by kernel_rfl) (by kernel_rfl) (fun _ _ _ h => h) (Or.inl ⟨by rfl, ?_⟩) scd ?_
       rotate_left
       · intro w' hw'; (try dsimp only at hw'); go_simp <;> with_reducible rfl
       try simp only [Act.put, List.setIfInBounds_toArray, List.set_cons_zero, List.set_cons_succ]
       refine AnyTill.takeC (i := 10) (v := .int .i64 (z % 6)) (by simp only [List.getElem?_toArray, List.getElem?_cons_succ, List.getElem?_cons_zero]; rfl) (by kernel_rfl) (by kernel_rfl) (by kernel_rfl) (by kernel_rfl) (fun _ _ _ h => h) ⟨by rfl, 7, #[.int .i64 z, .int .i64 6], fun w' hw' => ?_, fun w' _ => within_any z 6 w' (by omega) (by omega)⟩ scd ?_
       · (try dsimp only at hw'); go_simp <;> with_reducible rfl
       try simp only [Act.put, List.setIfInBounds_toArray, List.set_cons_zero, List.set_cons_succ]
       refine AnyTill.take (i := 11) (v := ?_) (by simp only [List.getElem?_toArray, List.getElem?_cons_succ, List.getElem?_cons_zero]; rfl) (by kernel_rfl) (by kernel_rfl) (by kernel_rfl) (by kernel_rfl) (fun _ _ _ h => h) (Or.inl ⟨by rfl, ?_⟩) scd ?_
       rotate_left
       · intro w' hw'; (try dsimp only at hw'); go_simp <;> with_reducible rfl
       try simp only [Act.put, List.setIfInBounds_toArray, List.set_cons_zero, List.set_cons_succ]
       refine AnyTill.take (i := 12) (v := ?_) (by simp only [List.getElem?_toArray, List.getElem?_cons_succ, List.getElem?_cons_zero]; rfl) (by kernel_rfl) (by kernel_rfl) (by kernel_rfl) (by kernel_rfl) (fun _ _ _ h => h) (Or.inl ⟨by rfl, ?_⟩) scd ?_
       rotate_left
       · intro w' hw'; (try dsimp only at hw'); go_simp <;> with_reducible rfl
       try simp only [Act.put, List.setIfInBounds_toArray, List.set_cons_zero, List.set_cons_succ]
       refine AnyTill.take (i := 13) (v := ?_) (by simp only [List.getElem?_toArray, List.getElem?_cons_succ, List.getElem?_cons_zero]; rfl) (by kernel_rfl) (by kernel_rfl) (by kernel_rfl) (by kernel_rfl) (fun _ _ _ h => h) (Or.inl ⟨by rfl, ?_⟩) scd ?_
       rotate_left
       · intro w' hw'; (try dsimp only at hw'); go_simp <;> with_reducible rfl
       try simp only [Act.put, List.setIfInBounds_toArray, List.set_cons_zero, List.set_cons_succ]
       refine AnyTill.take (i := 14) (v := ?_) (by simp only [List.getElem?_toArray, List.getElem?_cons_succ, List.getElem?_cons_zero]; rfl) (by kernel_rfl) (by kernel_rfl) (by kernel_rfl) (by kernel_rfl) (fun _ _ _ h => h) (Or.inl ⟨by rfl, ?_⟩) scd ?_
       rotate_left
       · intro w' hw'; (try dsimp only at hw'); go_simp <;> with_reducible rfl
       try simp only [Act.put, List.setIfInBounds_toArray, List.set_cons_zero, List.set_cons_succ]
       refine AnyTill.take (i := 15) (v := ?_) (by simp only [List.getElem?_toArray, List.getElem?_cons_succ, List.getElem?_cons_zero]; rfl) (by kernel_rfl) (by kernel_rfl) (by kernel_rfl) (by kernel_rfl) (fun _ _ _ h => h) (Or.inl ⟨by rfl, ?_⟩) scd ?_
       rotate_left
       · intro w' hw'; (try dsimp only at hw'); go_simp <;> with_reducible rfl
       try simp only [Act.put, List.setIfInBounds_toArray, List.set_cons_zero, List.set_cons_succ]
       refine AnyTill.take (i := 17) (v := ?_) (by simp only [List.getElem?_toArray, List.getElem?_cons_succ, List.getElem?_cons_zero]; rfl) (by kernel_rfl) (by kernel_rfl) (by kernel_rfl) (by kernel_rfl) (fun _ _ _ h => h) (Or.inl ⟨by rfl, ?_⟩) scd ?_
       rotate_left
       · intro w' hw'; (try dsimp only at hw'); go_simp <;> with_reducible rfl
       try simp only [Act.put, List.setIfInBounds_toArray, List.set_cons_zero, List.set_cons_succ]
       refine AnyTill.take (i := 18) (v := ?_) (by simp only [List.getElem?_toArray, List.getElem?_cons_succ, List.getElem?_cons_zero]; rfl) (by kernel_rfl) (by kernel_rfl) (by kernel_rfl) (by kernel_rfl) (fun _ _ _ h => h) (Or.inl ⟨by rfl, ?_⟩) scd ?_
       rotate_left
       · intro w' hw'; (try dsimp only at hw'); go_simp <;> with_reducible rfl
       try simp only [Act.put, List.setIfInBounds_toArray, List.set_cons_zero, List.set_cons_succ]
       refine AnyTill.take (i := 19) (v := ?_) (by simp only [List.getElem?_toArray, List.getElem?_cons_succ, List.getElem?_cons_zero]; rfl) (by kernel_rfl) (by kernel_rfl) (by kernel_rfl) (by kernel_rfl) (fun _ _ _ h => h) (Or.inl ⟨by rfl, ?_⟩) scd ?_
       rotate_left
       · intro w' hw'; (try dsimp only at hw'); go_simp <;> with_reducible rfl
       try simp only [Act.put, List.setIfInBounds_toArray, List.set_cons_zero, List.set_cons_succ]
       refine AnyTill.take (i := 20) (v := ?_) (by simp only [List.getElem?_toArray, List.getElem?_cons_succ, List.getElem?_cons_zero]; rfl) (by kernel_rfl) (by kernel_rfl) (by kernel_rfl) (by kernel_rfl) (fun _ _ _ h => h) (Or.inl ⟨by rfl, ?_⟩) scd ?_
       rotate_left
       · intro w' hw'; (try dsimp only at hw'); go_simp <;> with_reducible rfl
       try simp only [Act.put, List.setIfInBounds_toArray, List.set_cons_zero, List.set_cons_succ]
       refine AnyTill.take (i := 21) (v := ?_) (by simp only [List.getElem?_toArray, List.getElem?_cons_succ, List.getElem?_cons_zero]; rfl) (by kernel_rfl) (by kernel_rfl) (by kernel_rfl) (by kernel_rfl) (fun _ _ _ h => h) (Or.inl ⟨by rfl, ?_⟩) scd ?_
       rotate_left
       · intro w' hw'; (try dsimp only at hw'); go_simp <;> with_reducible rfl
       try simp only [Act.put, List.setIfInBounds_toArray, List.set_cons_zero, List.set_cons_succ]
       refine' AnyTill.two (i := 1) (k := 16) (o := _) (o' := _) (by kernel_rfl) ?zt10a ?zt10b (fun K' hK => ?zt10x) (fun K' hK => ?zt10y)
       case zt10a => (simp only [List.getElem?_toArray, List.getElem?_cons_succ, List.getElem?_cons_zero]; rfl)
       case zt10b => (simp only [List.getElem?_toArray, List.getElem?_cons_succ, List.getElem?_cons_zero]; rfl)
       case zt10x =>
         go_simp
         refine hK.out _ _ (.inr (cell_keep c0 BS.out)) ?_
         clear hK K'
         try simp only [Act.put, List.setIfInBounds_toArray, List.set_cons_zero, List.set_cons_succ]
         refine AnyTill.take (i := 4) (v := ?_) (by simp only [List.getElem?_toArray, List.getElem?_cons_succ, List.getElem?_cons_zero]; rfl) (by kernel_rfl) (by kernel_rfl) (by kernel_rfl) (by kernel_rfl) (fun _ _ _ h => h) (Or.inl ⟨by rfl, ?_⟩) (cell_keep c0 BS.out) ?_
         rotate_left
         · intro w' hw'; (try dsimp only at hw'); go_simp <;> with_reducible rfl
         try simp only [Act.put, List.setIfInBounds_toArray, List.set_cons_zero, List.set_cons_succ]
         refine' AnyTill.two (i := 5) (k := 16) (o := _) (o' := _) (by kernel_rfl) ?zt6a ?zt6b (fun K' hK => ?zt6x) (fun K' hK => ?zt6y)
         case zt6a => (simp only [List.getElem?_toArray, List.getElem?_cons_succ, List.getElem?_cons_zero]; rfl)
         case zt6b => (simp only [List.getElem?_toArray, List.getElem?_cons_succ, List.getElem?_cons_zero]; rfl)
         case zt6x =>
           go_simp
           refine hK.out _ _ (.inr (cell_keep c0 BS.out)) ?_
           clear hK K'
           try simp only [Act.put, List.setIfInBounds_toArray, List.set_cons_zero, List.set_cons_succ]
           refine' AnyTill.one (i := 16) (o := _) (by kernel_rfl) ?zt1h (fun K' hK => ?zt1k)
           case zt1h => (simp only [List.getElem?_toArray, List.getElem?_cons_succ, List.getElem?_cons_zero]; rfl)
           go_simp
           (go_at_call 48; (with_reducible refine (rate_some _ _).mono ?_); rintro e w9 ⟨y9, rfl, hb9⟩)
           have K9 := Lib.hid (BS.out.trans (hb9.mono BS.out.size))
           refine hK.out _ _ (.inr (cell_keep c0 K9.out)) ?_
           clear hK K'
           try simp only [Act.put, List.setIfInBounds_toArray, List.set_cons_zero, List.set_cons_succ]
           refine AnyTill.takeC (i := 22) (v := .int .i64 (IntKind.i64.wrap (z.tdiv 60) % 12)) (by simp only [List.getElem?_toArray, List.getElem?_cons_succ, List.getElem?_cons_zero]; rfl) (by kernel_rfl) (by kernel_rfl) (by kernel_rfl) (by kernel_rfl) (fun _ _ _ h => h) ⟨by rfl, 7, #[.int .i64 (IntKind.i64.wrap (z.tdiv 60)), .int .i64 12], fun w' hw' => ?_, fun w' _ => within_any (IntKind.i64.wrap (z.tdiv 60)) 12 w' (by omega) (by omega)⟩ (cell_keep c0 K9.out) ?_
           · (try dsimp only at hw'); go_simp <;> with_reducible rfl
           try simp only [Act.put, List.setIfInBounds_toArray, List.set_cons_zero, List.set_cons_succ]
           refine' AnyTill.one (i := 23) (o := _) (by kernel_rfl) ?zt2h (fun K' hK => ?zt2k)
           case zt2h => (simp only [List.getElem?_toArray, List.getElem?_cons_succ, List.getElem?_cons_zero]; rfl)
           go_simp
           (go_at_call 47; (refine (CL.out _ K9.out ⟨_, _, _, _⟩).mono ?_); rintro e w5 ⟨q5, n5, R5, O5, rfl, hn5, st5⟩)
           have N5 := Lib.hid hn5
           refine hK.out _ _ (.inr (cell_keep HCW.out N5.out.low)) ?_
           clear hK K'
           try simp only [Act.put, List.setIfInBounds_toArray, List.set_cons_zero, List.set_cons_succ]
           refine AnyTill.done (by kernel_rfl) ?_ _
           refine NoPanic.normal ?_
           go_wp2
           go_roundg (10 - (k + 1))
           case measure => have := HGK.out; omega
           case rel => exact ⟨k + 1, _, _, _, by omega, rfl, by go_num, N5.out⟩
         case zt6y =>
           go_simp
           (go_at_call 48; (with_reducible refine (rate_some _ _).mono ?_); rintro e w9 ⟨y9, rfl, hb9⟩)
           have K9 := Lib.hid (BS.out.trans (hb9.mono BS.out.size))
           refine hK.out _ _ (.inr (cell_keep c0 K9.out)) ?_
           clear hK K'
           try simp only [Act.put, List.setIfInBounds_toArray, List.set_cons_zero, List.set_cons_succ]
           have l9 := cell_keep lit0 hb9
           refine AnyTill.takeC (i := 22) (v := .int .i64 (IntKind.i64.wrap (z.tdiv 60) % 12)) (by simp only [List.getElem?_toArray, List.getElem?_cons_succ, List.getElem?_cons_zero]; rfl) (by kernel_rfl) (by kernel_rfl) (by kernel_rfl) (by kernel_rfl) (fun _ _ _ h => h) ⟨by rfl, 7, #[.int .i64 (IntKind.i64.wrap (z.tdiv 60)), .int .i64 12], fun w' hw' => ?_, fun w' _ => within_any (IntKind.i64.wrap (z.tdiv 60)) 12 w' (by omega) (by omega)⟩ (cell_keep c0 K9.out) ?_
           · (try dsimp only at hw'); go_simp <;> with_reducible rfl
           try simp only [Act.put, List.setIfInBounds_toArray, List.set_cons_zero, List.set_cons_succ]
           refine' AnyTill.one (i := 5) (o := _) (by kernel_rfl) ?zt4h (fun K' hK => ?zt4k)
           case zt4h => (simp only [List.getElem?_toArray, List.getElem?_cons_succ, List.getElem?_cons_zero]; rfl)
           go_simp
           refine hK.out _ _ (.inr (cell_keep c0 K9.out)) ?_
           clear hK K'
           try simp only [Act.put, List.setIfInBounds_toArray, List.set_cons_zero, List.set_cons_succ]
           refine' AnyTill.one (i := 23) (o := _) (by kernel_rfl) ?zt5h (fun K' hK => ?zt5k)
           case zt5h => (simp only [List.getElem?_toArray, List.getElem?_cons_succ, List.getElem?_cons_zero]; rfl)
           go_simp
           (go_at_call 47; (refine (CL.out _ K9.out ⟨_, _, _, _⟩).mono ?_); rintro e w5 ⟨q5, n5, R5, O5, rfl, hn5, st5⟩)
           have N5 := Lib.hid hn5
           refine hK.out _ _ (.inr (cell_keep HCW.out N5.out.low)) ?_
           clear hK K'
           try simp only [Act.put, List.setIfInBounds_toArray, List.set_cons_zero, List.set_cons_succ]
           refine AnyTill.done (by kernel_rfl) ?_ _
           refine NoPanic.normal ?_
           go_wp2
           go_roundg (10 - (k + 1))
           case measure => have := HGK.out; omega
           case rel => exact ⟨k + 1, _, _, _, by omega, rfl, by go_num, N5.out⟩
       case zt10y =>
         go_simp
         (go_at_call 48; (with_reducible refine (rate_some _ _).mono ?_); rintro e w9 ⟨y9, rfl, hb9⟩)
         have K9 := Lib.hid (BD.out.trans (hb9.mono BD.out.size))
         refine hK.out _ _ (.inr (cell_keep c0 K9.out)) ?_
         clear hK K'
         try simp only [Act.put, List.setIfInBounds_toArray, List.set_cons_zero, List.set_cons_succ]
         refine AnyTill.takeC (i := 22) (v := .int .i64 (IntKind.i64.wrap (z.tdiv 60) % 12)) (by simp only [List.getElem?_toArray, List.getElem?_cons_succ, List.getElem?_cons_zero]; rfl) (by kernel_rfl) (by kernel_rfl) (by kernel_rfl) (by kernel_rfl) (fun _ _ _ h => h) ⟨by rfl, 7, #[.int .i64 (IntKind.i64.wrap (z.tdiv 60)), .int .i64 12], fun w' hw' => ?_, fun w' _ => within_any (IntKind.i64.wrap (z.tdiv 60)) 12 w' (by omega) (by omega)⟩ (cell_keep c0 K9.out) ?_
         · (try dsimp only at hw'); go_simp <;> with_reducible rfl
         try simp only [Act.put, List.setIfInBounds_toArray, List.set_cons_zero, List.set_cons_succ]
         refine' AnyTill.one (i := 1) (o := _) (by kernel_rfl) ?zt7h (fun K' hK => ?zt7k)
         case zt7h => (simp only [List.getElem?_toArray, List.getElem?_cons_succ, List.getElem?_cons_zero]; rfl)
         go_simp
         refine hK.out _ _ (.inr (cell_keep c0 (K9.out.alloc K9.out.size (.cells #[.string ⟨#[117, 107]⟩, .string ⟨#[100, 101]⟩] 9)))) ?_
         clear hK K'
         try simp only [Act.put, List.setIfInBounds_toArray, List.set_cons_zero, List.set_cons_succ]
         refine AnyTill.take (i := 4) (v := ?_) (by simp only [List.getElem?_toArray, List.getElem?_cons_succ, List.getElem?_cons_zero]; rfl) (by kernel_rfl) (by kernel_rfl) (by kernel_rfl) (by kernel_rfl) (fun _ _ _ h => h) (Or.inl ⟨by rfl, ?_⟩) (cell_keep c0 (K9.out.alloc K9.out.size (.cells #[.string ⟨#[117, 107]⟩, .string ⟨#[100, 101]⟩] 9))) ?_
         rotate_left
         · intro w' hw'; (try dsimp only at hw'); go_simp <;> with_reducible rfl
         try simp only [Act.put, List.setIfInBounds_toArray, List.set_cons_zero, List.set_cons_succ]
         refine' AnyTill.one (i := 5) (o := _) (by kernel_rfl) ?zt8h (fun K' hK => ?zt8k)
         case zt8h => (simp only [List.getElem?_toArray, List.getElem?_cons_succ, List.getElem?_cons_zero]; rfl)
         go_simp
         refine hK.out _ _ (.inr (cell_keep c0 (K9.out.alloc K9.out.size (.cells #[.string ⟨#[117, 107]⟩, .string ⟨#[100, 101]⟩] 9)))) ?_
         clear hK K'
         try simp only [Act.put, List.setIfInBounds_toArray, List.set_cons_zero, List.set_cons_succ]
         refine' AnyTill.one (i := 23) (o := _) (by kernel_rfl) ?zt9h (fun K' hK => ?zt9k)
         case zt9h => (simp only [List.getElem?_toArray, List.getElem?_cons_succ, List.getElem?_cons_zero]; rfl)
         go_simp
         (go_at_call 47; (refine (CL.out _ (K9.out.alloc K9.out.size (.cells #[.string ⟨#[117, 107]⟩, .string ⟨#[100, 101]⟩] 9)) ⟨_, _, _, _⟩).mono ?_); rintro e w5 ⟨q5, n5, R5, O5, rfl, hn5, st5⟩)
         have N5 := Lib.hid hn5
         refine hK.out _ _ (.inr (cell_keep HCW.out N5.out.low)) ?_
         clear hK K'
         try simp only [Act.put, List.setIfInBounds_toArray, List.set_cons_zero, List.set_cons_succ]
         refine AnyTill.done (by kernel_rfl) ?_ _
         refine NoPanic.normal ?_
         go_wp2
         go_roundg (10 - (k + 1))
         case measure => have := HGK.out; omega
         case rel => exact ⟨k + 1, _, _, _, by omega, rfl, by go_num, N5.out⟩
     · go_wp2
       refine wp_region_noPanic ?_
       refine AnyTill.begin (C := fun w' => w'.cell? ⟨b, off + k, none⟩ = some (.int .i64 z)) (q := 99) (by kernel_rfl) ?_
       have scd : wr.drew.cell? ⟨b, off + k, none⟩ = some (.int .i64 z) := c0
       refine AnyTill.take (i := 0) (v := ?_) (by simp only [List.getElem?_toArray, List.getElem?_cons_zero]; rfl) (by kernel_rfl) (by kernel_rfl) (by kernel_rfl) (by kernel_rfl) (fun _ _ _ h => h) (Or.inl ⟨by rfl, ?_⟩) scd ?_
       rotate_left
       · intro w' hw'; (try dsimp only at hw'); go_simp <;> with_reducible rfl
       try simp only [Act.put, List.setIfInBounds_toArray, List.set_cons_zero, List.set_cons_succ]
       refine AnyTill.take (i := 2) (v := ?_) (by simp only [List.getElem?_toArray, List.getElem?_cons_succ, List.getElem?_cons_zero]; rfl) (by kernel_rfl) (by kernel_rfl) (by kernel_rfl) (by kernel_rfl) (fun _ _ _ h => h) (Or.inl ⟨by rfl, ?_⟩) scd ?_
       rotate_left
       · intro w' hw'; (try dsimp only at hw'); go_simp <;> with_reducible rfl
       try simp only [Act.put, List.setIfInBounds_toArray, List.set_cons_zero, List.set_cons_succ]
       refine AnyTill.take (i := 3) (v := ?_) (by simp only [List.getElem?_toArray, List.getElem?_cons_succ, List.getElem?_cons_zero]; rfl) (by kernel_rfl) (by kernel_rfl) (by kernel_rfl) (by kernel_rfl) (fun _ _ _ h => h) (Or.inl ⟨by rfl, ?_⟩) scd ?_
       rotate_left
       · intro w' hw'; (try dsimp only at hw'); go_simp <;> with_reducible rfl
       try simp only [Act.put, List.setIfInBounds_toArray, List.set_cons_zero, List.set_cons_succ]
       refine AnyTill.take (i := 6) (v := ?_) (by simp only [List.getElem?_toArray, List.getElem?_cons_succ, List.getElem?_cons_zero]; rfl) (by kernel_rfl) (by kernel_rfl) (by kernel_rfl) (by kernel_rfl) (fun _ _ _ h => h) (Or.inl ⟨by rfl, ?_⟩) scd ?_
       rotate_left
       · intro w' hw'; (try dsimp only at hw'); go_simp <;> with_reducible rfl
       try simp only [Act.put, List.setIfInBounds_toArray, List.set_cons_zero, List.set_cons_succ]
       refine AnyTill.take (i := 7) (v := ?_) (by simp only [List.getElem?_toArray, List.getElem?_cons_succ, List.getElem?_cons_zero]; rfl) (by kernel_rfl) (by kernel_rfl) (by kernel_rfl) (by kernel_rfl) (fun _ _ _ h => h) (Or.inl ⟨by rfl, ?_⟩) scd ?_
       rotate_left
       · intro w' hw'; (try dsimp only at hw'); go_simp <;> with_reducible rfl
       try simp only [Act.put, List.setIfInBounds_toArray, List.set_cons_zero, List.set_cons_succ]
       refine AnyTill.take (i := 8) (v := ?_) (by simp only [List.getElem?_toArray, List.getElem?_cons_succ, List.getElem?_cons_zero]; rfl) (by kernel_rfl) (by kernel_rfl) (by kernel_rfl) (by kernel_rfl) (fun _ _ _ h => h) (Or.inl ⟨by rfl, ?_⟩) scd ?_
       rotate_left
       · intro w' hw'; (try dsimp only at hw'); go_simp <;> with_reducible rfl
       try simp only [Act.put, List.setIfInBounds_toArray, List.set_cons_zero, List.set_cons_succ]
       refine AnyTill.take (i := 9) (v := ?_) (by simp only [List.getElem?_toArray, List.getElem?_cons_succ, List.getElem?_cons_zero]; rfl) (by kernel_rfl) (by kernel_rfl) (by kernel_rfl) (by kernel_rfl) (fun _ _ _ h => h) (Or.inl ⟨by rfl, ?_⟩) scd ?_
       rotate_left
       · intro w' hw'; (try dsimp only at hw'); go_simp <;> with_reducible rfl
       try simp only [Act.put, List.setIfInBounds_toArray, List.set_cons_zero, List.set_cons_succ]
       refine AnyTill.takeC (i := 10) (v := .int .i64 (z % 6)) (by simp only [List.getElem?_toArray, List.getElem?_cons_succ, List.getElem?_cons_zero]; rfl) (by kernel_rfl) (by kernel_rfl) (by kernel_rfl) (by kernel_rfl) (fun _ _ _ h => h) ⟨by rfl, 7, #[.int .i64 z, .int .i64 6], fun w' hw' => ?_, fun w' _ => within_any z 6 w' (by omega) (by omega)⟩ scd ?_
       · (try dsimp only at hw'); go_simp <;> with_reducible rfl
       try simp only [Act.put, List.setIfInBounds_toArray, List.set_cons_zero, List.set_cons_succ]
       refine AnyTill.take (i := 11) (v := ?_) (by simp only [List.getElem?_toArray, List.getElem?_cons_succ, List.getElem?_cons_zero]; rfl) (by kernel_rfl) (by kernel_rfl) (by kernel_rfl) (by kernel_rfl) (fun _ _ _ h => h) (Or.inl ⟨by rfl, ?_⟩) scd ?_
       rotate_left
       · intro w' hw'; (try dsimp only at hw'); go_simp <;> with_reducible rfl
       try simp only [Act.put, List.setIfInBounds_toArray, List.set_cons_zero, List.set_cons_succ]
       refine AnyTill.take (i := 12) (v := ?_) (by simp only [List.getElem?_toArray, List.getElem?_cons_succ, List.getElem?_cons_zero]; rfl) (by kernel_rfl) (by kernel_rfl) (by kernel_rfl) (by kernel_rfl) (fun _ _ _ h => h) (Or.inl ⟨by rfl, ?_⟩) scd ?_
       rotate_left
       · intro w' hw'; (try dsimp only at hw'); go_simp <;> with_reducible rfl
       try simp only [Act.put, List.setIfInBounds_toArray, List.set_cons_zero, List.set_cons_succ]
       refine AnyTill.take (i := 13) (v := ?_) (by simp only [List.getElem?_toArray, List.getElem?_cons_succ, List.getElem?_cons_zero]; rfl) (by kernel_rfl) (by kernel_rfl) (by kernel_rfl) (by kernel_rfl) (fun _ _ _ h => h) (Or.inl ⟨by rfl, ?_⟩) scd ?_
       rotate_left
       · intro w' hw'; (try dsimp only at hw'); go_simp <;> with_reducible rfl
       try simp only [Act.put, List.setIfInBounds_toArray, List.set_cons_zero, List.set_cons_succ]
       refine AnyTill.take (i := 14) (v := ?_) (by simp only [List.getElem?_toArray, List.getElem?_cons_succ, List.getElem?_cons_zero]; rfl) (by kernel_rfl) (by kernel_rfl) (by kernel_rfl) (by kernel_rfl) (fun _ _ _ h => h) (Or.inl ⟨by rfl, ?_⟩) scd ?_
       rotate_left
       · intro w' hw'; (try dsimp only at hw'); go_simp <;> with_reducible rfl
       try simp only [Act.put, List.setIfInBounds_toArray, List.set_cons_zero, List.set_cons_succ]
       refine AnyTill.take (i := 15) (v := ?_) (by simp only [List.getElem?_toArray, List.getElem?_cons_succ, List.getElem?_cons_zero]; rfl) (by kernel_rfl) (by kernel_rfl) (by kernel_rfl) (by kernel_rfl) (fun _ _ _ h => h) (Or.inl ⟨by rfl, ?_⟩) scd ?_
       rotate_left
       · intro w' hw'; (try dsimp only at hw'); go_simp <;> with_reducible rfl
       try simp only [Act.put, List.setIfInBounds_toArray, List.set_cons_zero, List.set_cons_succ]
       refine AnyTill.take (i := 17) (v := ?_) (by simp only [List.getElem?_toArray, List.getElem?_cons_succ, List.getElem?_cons_zero]; rfl) (by kernel_rfl) (by kernel_rfl) (by kernel_rfl) (by kernel_rfl) (fun _ _ _ h => h) (Or.inl ⟨by rfl, ?_⟩) scd ?_
       rotate_left
       · intro w' hw'; (try dsimp only at hw'); go_simp <;> with_reducible rfl
       try simp only [Act.put, List.setIfInBounds_toArray, List.set_cons_zero, List.set_cons_succ]
       refine AnyTill.take (i := 18) (v := ?_) (by simp only [List.getElem?_toArray, List.getElem?_cons_succ, List.getElem?_cons_zero]; rfl) (by kernel_rfl) (by kernel_rfl) (by kernel_rfl) (by kernel_rfl) (fun _ _ _ h => h) (Or.inl ⟨by rfl, ?_⟩) scd ?_
       rotate_left
       · intro w' hw'; (try dsimp only at hw'); go_simp <;> with_reducible rfl
       try simp only [Act.put, List.setIfInBounds_toArray, List.set_cons_zero, List.set_cons_succ]
       refine AnyTill.take (i := 19) (v := ?_) (by simp only [List.getElem?_toArray, List.getElem?_cons_succ, List.getElem?_cons_zero]; rfl) (by kernel_rfl) (by kernel_rfl) (by kernel_rfl) (by kernel_rfl) (fun _ _ _ h => h) (Or.inl ⟨by rfl, ?_⟩) scd ?_
       rotate_left
       · intro w' hw'; (try dsimp only at hw'); go_simp <;> with_reducible rfl
       try simp only [Act.put, List.setIfInBounds_toArray, List.set_cons_zero, List.set_cons_succ]
       refine AnyTill.take (i := 20) (v := ?_) (by simp only [List.getElem?_toArray, List.getElem?_cons_succ, List.getElem?_cons_zero]; rfl) (by kernel_rfl) (by kernel_rfl) (by kernel_rfl) (by kernel_rfl) (fun _ _ _ h => h) (Or.inl ⟨by rfl, ?_⟩) scd ?_
       rotate_left
       · intro w' hw'; (try dsimp only at hw'); go_simp <;> with_reducible rfl
       try simp only [Act.put, List.setIfInBounds_toArray, List.set_cons_zero, List.set_cons_succ]
       refine AnyTill.take (i := 21) (v := ?_) (by simp only [List.getElem?_toArray, List.getElem?_cons_succ, List.getElem?_cons_zero]; rfl) (by kernel_rfl) (by kernel_rfl) (by kernel_rfl) (by kernel_rfl) (fun _ _ _ h => h) (Or.inl ⟨by rfl, ?_⟩) scd ?_
       rotate_left
       · intro w' hw'; (try dsimp only at hw'); go_simp <;> with_reducible rfl
       try simp only [Act.put, List.setIfInBounds_toArray, List.set_cons_zero, List.set_cons_succ]
       refine' AnyTill.two (i := 1) (k := 16) (o := _) (o' := _) (by kernel_rfl) ?zt20a ?zt20b (fun K' hK => ?zt20x) (fun K' hK => ?zt20y)
       case zt20a => (simp only [List.getElem?_toArray, List.getElem?_cons_succ, List.getElem?_cons_zero]; rfl)
       case zt20b => (simp only [List.getElem?_toArray, List.getElem?_cons_succ, List.getElem?_cons_zero]; rfl)
       case zt20x =>
         go_simp
         refine hK.out _ _ (.inr (cell_keep c0 BS.out)) ?_
         clear hK K'
         try simp only [Act.put, List.setIfInBounds_toArray, List.set_cons_zero, List.set_cons_succ]
         refine AnyTill.take (i := 4) (v := ?_) (by simp only [List.getElem?_toArray, List.getElem?_cons_succ, List.getElem?_cons_zero]; rfl) (by kernel_rfl) (by kernel_rfl) (by kernel_rfl) (by kernel_rfl) (fun _ _ _ h => h) (Or.inl ⟨by rfl, ?_⟩) (cell_keep c0 BS.out) ?_
         rotate_left
         · intro w' hw'; (try dsimp only at hw'); go_simp <;> with_reducible rfl
         try simp only [Act.put, List.setIfInBounds_toArray, List.set_cons_zero, List.set_cons_succ]
         refine' AnyTill.two (i := 5) (k := 16) (o := _) (o' := _) (by kernel_rfl) ?zt16a ?zt16b (fun K' hK => ?zt16x) (fun K' hK => ?zt16y)
         case zt16a => (simp only [List.getElem?_toArray, List.getElem?_cons_succ, List.getElem?_cons_zero]; rfl)
         case zt16b => (simp only [List.getElem?_toArray, List.getElem?_cons_succ, List.getElem?_cons_zero]; rfl)
         case zt16x =>
           go_simp
           refine hK.out _ _ (.inr (cell_keep c0 BS.out)) ?_
           clear hK K'
           try simp only [Act.put, List.setIfInBounds_toArray, List.set_cons_zero, List.set_cons_succ]
           refine' AnyTill.one (i := 16) (o := _) (by kernel_rfl) ?zt11h (fun K' hK => ?zt11k)
           case zt11h => (simp only [List.getElem?_toArray, List.getElem?_cons_succ, List.getElem?_cons_zero]; rfl)
           go_simp
           (go_at_call 48; (with_reducible refine (rate_some _ _).mono ?_); rintro e w9 ⟨y9, rfl, hb9⟩)
           have K9 := Lib.hid (BS.out.trans (hb9.mono BS.out.size))
           refine hK.out _ _ (.inr (cell_keep c0 K9.out)) ?_
           clear hK K'
           try simp only [Act.put, List.setIfInBounds_toArray, List.set_cons_zero, List.set_cons_succ]
           refine AnyTill.takeC (i := 22) (v := .int .i64 (IntKind.i64.wrap (z.tdiv 60) % 12)) (by simp only [List.getElem?_toArray, List.getElem?_cons_succ, List.getElem?_cons_zero]; rfl) (by kernel_rfl) (by kernel_rfl) (by kernel_rfl) (by kernel_rfl) (fun _ _ _ h => h) ⟨by rfl, 7, #[.int .i64 (IntKind.i64.wrap (z.tdiv 60)), .int .i64 12], fun w' hw' => ?_, fun w' _ => within_any (IntKind.i64.wrap (z.tdiv 60)) 12 w' (by omega) (by omega)⟩ (cell_keep c0 K9.out) ?_
           · (try dsimp only at hw'); go_simp <;> with_reducible rfl
           try simp only [Act.put, List.setIfInBounds_toArray, List.set_cons_zero, List.set_cons_succ]
           refine' AnyTill.one (i := 23) (o := _) (by kernel_rfl) ?zt12h (fun K' hK => ?zt12k)
           case zt12h => (simp only [List.getElem?_toArray, List.getElem?_cons_succ, List.getElem?_cons_zero]; rfl)
           go_simp
           (go_at_call 47; (refine (CL.out _ K9.out ⟨_, _, _, _⟩).mono ?_); rintro e w5 ⟨q5, n5, R5, O5, rfl, hn5, st5⟩)
           have N5 := Lib.hid hn5
           refine hK.out _ _ (.inr (cell_keep HCW.out N5.out.low)) ?_
           clear hK K'
           try simp only [Act.put, List.setIfInBounds_toArray, List.set_cons_zero, List.set_cons_succ]
           refine AnyTill.done (by kernel_rfl) ?_ _
           refine NoPanic.normal ?_
           go_wp2
           go_roundg (10 - (k + 1))
           case measure => have := HGK.out; omega
           case rel => exact ⟨k + 1, _, _, _, by omega, rfl, by go_num, N5.out⟩
         case zt16y =>
           go_simp
           (go_at_call 48; (with_reducible refine (rate_some _ _).mono ?_); rintro e w9 ⟨y9, rfl, hb9⟩)
           have K9 := Lib.hid (BS.out.trans (hb9.mono BS.out.size))
           refine hK.out _ _ (.inr (cell_keep c0 K9.out)) ?_
           clear hK K'
           try simp only [Act.put, List.setIfInBounds_toArray, List.set_cons_zero, List.set_cons_succ]
           have l9 := cell_keep lit1 hb9
           refine AnyTill.takeC (i := 22) (v := .int .i64 (IntKind.i64.wrap (z.tdiv 60) % 12)) (by simp only [List.getElem?_toArray, List.getElem?_cons_succ, List.getElem?_cons_zero]; rfl) (by kernel_rfl) (by kernel_rfl) (by kernel_rfl) (by kernel_rfl) (fun _ _ _ h => h) ⟨by rfl, 7, #[.int .i64 (IntKind.i64.wrap (z.tdiv 60)), .int .i64 12], fun w' hw' => ?_, fun w' _ => within_any (IntKind.i64.wrap (z.tdiv 60)) 12 w' (by omega) (by omega)⟩ (cell_keep c0 K9.out) ?_
           · (try dsimp only at hw'); go_simp <;> with_reducible rfl
           try simp only [Act.put, List.setIfInBounds_toArray, List.set_cons_zero, List.set_cons_succ]
           refine' AnyTill.one (i := 5) (o := _) (by kernel_rfl) ?zt14h (fun K' hK => ?zt14k)
           case zt14h => (simp only [List.getElem?_toArray, List.getElem?_cons_succ, List.getElem?_cons_zero]; rfl)
           go_simp
           refine hK.out _ _ (.inr (cell_keep c0 K9.out)) ?_
           clear hK K'
           try simp only [Act.put, List.setIfInBounds_toArray, List.set_cons_zero, List.set_cons_succ]
           refine' AnyTill.one (i := 23) (o := _) (by kernel_rfl) ?zt15h (fun K' hK => ?zt15k)
           case zt15h => (simp only [List.getElem?_toArray, List.getElem?_cons_succ, List.getElem?_cons_zero]; rfl)
           go_simp
           (go_at_call 47; (refine (CL.out _ K9.out ⟨_, _, _, _⟩).mono ?_); rintro e w5 ⟨q5, n5, R5, O5, rfl, hn5, st5⟩)
           have N5 := Lib.hid hn5
           refine hK.out _ _ (.inr (cell_keep HCW.out N5.out.low)) ?_
           clear hK K'
           try simp only [Act.put, List.setIfInBounds_toArray, List.set_cons_zero, List.set_cons_succ]
           refine AnyTill.done (by kernel_rfl) ?_ _
           refine NoPanic.normal ?_
           go_wp2
           go_roundg (10 - (k + 1))
           case measure => have := HGK.out; omega
           case rel => exact ⟨k + 1, _, _, _, by omega, rfl, by go_num, N5.out⟩
       case zt20y =>
         go_simp
         (go_at_call 48; (with_reducible refine (rate_some _ _).mono ?_); rintro e w9 ⟨y9, rfl, hb9⟩)
         have K9 := Lib.hid (BD.out.trans (hb9.mono BD.out.size))
         refine hK.out _ _ (.inr (cell_keep c0 K9.out)) ?_
         clear hK K'
         try simp only [Act.put, List.setIfInBounds_toArray, List.set_cons_zero, List.set_cons_succ]
         refine AnyTill.takeC (i := 22) (v := .int .i64 (IntKind.i64.wrap (z.tdiv 60) % 12)) (by simp only [List.getElem?_toArray, List.getElem?_cons_succ, List.getElem?_cons_zero]; rfl) (by kernel_rfl) (by kernel_rfl) (by kernel_rfl) (by kernel_rfl) (fun _ _ _ h => h) ⟨by rfl, 7, #[.int .i64 (IntKind.i64.wrap (z.tdiv 60)), .int .i64 12], fun w' hw' => ?_, fun w' _ => within_any (IntKind.i64.wrap (z.tdiv 60)) 12 w' (by omega) (by omega)⟩ (cell_keep c0 K9.out) ?_
         · (try dsimp only at hw'); go_simp <;> with_reducible rfl
         try simp only [Act.put, List.setIfInBounds_toArray, List.set_cons_zero, List.set_cons_succ]
         refine' AnyTill.one (i := 1) (o := _) (by kernel_rfl) ?zt17h (fun K' hK => ?zt17k)
         case zt17h => (simp only [List.getElem?_toArray, List.getElem?_cons_succ, List.getElem?_cons_zero]; rfl)
         go_simp
         refine hK.out _ _ (.inr (cell_keep c0 (K9.out.alloc K9.out.size (.cells #[.string ⟨#[117, 107]⟩, .string ⟨#[100, 101]⟩] 9)))) ?_
         clear hK K'
         try simp only [Act.put, List.setIfInBounds_toArray, List.set_cons_zero, List.set_cons_succ]
         refine AnyTill.take (i := 4) (v := ?_) (by simp only [List.getElem?_toArray, List.getElem?_cons_succ, List.getElem?_cons_zero]; rfl) (by kernel_rfl) (by kernel_rfl) (by kernel_rfl) (by kernel_rfl) (fun _ _ _ h => h) (Or.inl ⟨by rfl, ?_⟩) (cell_keep c0 (K9.out.alloc K9.out.size (.cells #[.string ⟨#[117, 107]⟩, .string ⟨#[100, 101]⟩] 9))) ?_
         rotate_left
         · intro w' hw'; (try dsimp only at hw'); go_simp <;> with_reducible rfl
         try simp only [Act.put, List.setIfInBounds_toArray, List.set_cons_zero, List.set_cons_succ]
         refine' AnyTill.one (i := 5) (o := _) (by kernel_rfl) ?zt18h (fun K' hK => ?zt18k)
         case zt18h => (simp only [List.getElem?_toArray, List.getElem?_cons_succ, List.getElem?_cons_zero]; rfl)
         go_simp
         refine hK.out _ _ (.inr (cell_keep c0 (K9.out.alloc K9.out.size (.cells #[.string ⟨#[117, 107]⟩, .string ⟨#[100, 101]⟩] 9)))) ?_
         clear hK K'
         try simp only [Act.put, List.setIfInBounds_toArray, List.set_cons_zero, List.set_cons_succ]
         refine' AnyTill.one (i := 23) (o := _) (by kernel_rfl) ?zt19h (fun K' hK => ?zt19k)
         case zt19h => (simp only [List.getElem?_toArray, List.getElem?_cons_succ, List.getElem?_cons_zero]; rfl)
         go_simp
         (go_at_call 47; (refine (CL.out _ (K9.out.alloc K9.out.size (.cells #[.string ⟨#[117, 107]⟩, .string ⟨#[100, 101]⟩] 9)) ⟨_, _, _, _⟩).mono ?_); rintro e w5 ⟨q5, n5, R5, O5, rfl, hn5, st5⟩)
         have N5 := Lib.hid hn5
         refine hK.out _ _ (.inr (cell_keep HCW.out N5.out.low)) ?_
         clear hK K'
         try simp only [Act.put, List.setIfInBounds_toArray, List.set_cons_zero, List.set_cons_succ]
         refine AnyTill.done (by kernel_rfl) ?_ _
         refine NoPanic.normal ?_
         go_wp2
         go_roundg (10 - (k + 1))
         case measure => have := HGK.out; omega
         case rel => exact ⟨k + 1, _, _, _, by omega, rfl, by go_num, N5.out⟩
   · rcases (show ¬ k < n ∨ (k < n ∧ ¬ k < 10) by omega) with hq | ⟨hq1, hq⟩
     all_goals
       clear hlt
       go_wp2
       go_ret
       exact ⟨_, n', R, O, rfl, N1.out⟩
theorem pre_terr (iv : TInv n R) {k : Nat} (hk : k < n) : TErr R k (R k).j (R k).y (R k).r (R k).p 0 := by
 refine .ok (iv.ok k hk) (fun h => ?_) (by have := iv.le; omega)
 obtain ⟨i, h1, h2, h3, h4⟩ := h
 have := iv.uniq i k (by omega) hk h2 h3 h4
 omega
theorem push_same (R : Nat → Rt) (k : Nat) : pushT R k (R k) = R := by
 funext i
 unfold pushT
 by_cases e : i = k
 · rw [if_pos e, e]
 · rw [if_neg e]
set_option maxHeartbeats 4000000 in
theorem tof (h : NowT 116 w0 w O t sb n R) :
   Calls Tryz.prog 14 #[ptr sb] w fun e w' => ∃ sb' O', e = .returned (ptr sb') ∧ NowT 144 w w' O' 1 sb' n R ∧ Below w.heap.size w w' := by
 obtain ⟨v, s⟩ := h.st
 obtain ⟨A, cc, rfl, hc, hm, _, ha⟩ := s.at
 have c0 := s.hd.c0
 have hn := s.inv.le
 have HA := Lib.hid ha
 have IV := Lib.hid s.inv
 have KC := Lib.hid fun w1 (k : Below w.heap.size w w1) => cell_keep c0 k
 clear h s ha c0
 go_enter Tryz.func14, Tryz.ntmps14
 go_wp2_with fail
 refine (enew_any _).mono ?_
 rintro e w1 ⟨rfl, rfl⟩
 obtain ⟨nw, _⟩ := nowt_new w w (fun _ => 0) (Fin0.zero _ _) (Below.refl _ _) 144 143 1 R
 have N0 := Lib.hid nw
 have c0 := KC.out _ N0.out.low
 clear nw
 go_wp2
 go_loopg [14] n (fun gh i wr => ∃ (k : Nat) (O1 : Nat → Nat), k ≤ n ∧ gh = n - k ∧ i = .int .i64 k ∧ NowT 144 w wr O1 1 w.heap.size k R)
 case atStart => exact ⟨0, _, Nat.zero_le _, rfl, rfl, N0.out⟩
 case round =>
   obtain ⟨k, O2, hk, hgk, rfl, n2⟩ := hrel
   have HGK := Lib.hid hgk
   have N2 := Lib.hid n2
   clear hgk n2 N0
   by_cases hlt : k < n
   · obtain ⟨b, off, rfl, hb, d0, d1, d2, d3⟩ := (HA.out.below N2.out.low).four hlt
     have CA := Lib.hid fun w3 (q : Below wr.heap.size wr w3) => nadd_ok (N2.out.below q) (by decide) (R k) (pre_terr IV.out hlt)
     go_wp2_with fail
     refine (CA.out _ ((Below.refl _ _).alloc (Nat.le_refl _) _)).mono ?_
     rintro e w3 ⟨rfl, O3, n3, st3⟩
     rw [push_same] at n3
     have N3 := Lib.hid n3
     clear n3 st3 CA d0 d1 d2 d3
     go_wp2
     go_roundg (n - (k + 1))
     case measure => have := HGK.out; omega
     case rel => exact ⟨k + 1, O3, by omega, rfl, by go_num, N3.out⟩
   · obtain rfl : k = n := by omega
     clear hlt
     go_wp2
     go_ret
     exact ⟨_, O2, rfl, N2.out, N2.out.low⟩
end
end Go.Proofs.YtmlafdehhbhbiaaGreat
/- Package bucket's Total (a text of its own: some seats hold it without a body). -/
namespace Go.Proofs.YtmlafdehhbhbiaaGreat
open Go.RowKit
section
variable {w0 w w1 : World} {O O1 : Nat → Nat} {base t t' sb n m : Nat} {v v' : Value} {g h : Nat → Bk} {S : Int → Int → Int}
set_option maxRecDepth 100000 in
theorem pbtotal (h : NowP w0 w O t sb S) {m : Nat} {g' : Nat → Bk} (b : BIs S m g') :
   Calls Tryz.prog 56 #[ptr sb] w fun e w' => e = .returned (.int .i64 (btot g' m)) ∧ Below w.heap.size w w' := by
 obtain ⟨v, n, g, s, iv⟩ := h.st
 rw [← iv.is.total b]
 have hn := iv.le
 have c0 := s.hd.c0
 obtain ⟨A, cc, rfl, hc, hm, _, ha⟩ := s.at
 have C1 := Lib.hid (bsum (c := cc) ha (by omega) (btot g n) true (Lib.hid (sum_yes iv.is iv.mon iv.all)))
 clear s ha iv h b
 go_enter Tryz.func56, Tryz.ntmps56
 go_wp2_with fail
 refine (C1.out).mono ?_
 rintro e w1 ⟨rfl, hb1⟩
 go_wp2
 go_ret
 exact ⟨rfl, hb1⟩
end
end Go.Proofs.YtmlafdehhbhbiaaGreat
/- The argument of law 10's statements, opened: things done with a register: six numbers each. -/
namespace Go.Proofs.YtmlafdehhbhbiaaGreat
open Go.RowKit Go.ChangeShapes Go.WideShapes Go.Deep
structure Act10 (w : World) (b off : Nat) (d c y c2 y2 n : Int) : Prop where
 k0 : w.cell? ⟨b, off, none⟩ = some (.int .i64 d)
 k1 : w.cell? ⟨b, off + 1, none⟩ = some (.int .i64 c)
 k2 : w.cell? ⟨b, off + 2, none⟩ = some (.int .i64 y)
 k3 : w.cell? ⟨b, off + 3, none⟩ = some (.int .i64 c2)
 k4 : w.cell? ⟨b, off + 4, none⟩ = some (.int .i64 y2)
 k5 : w.cell? ⟨b, off + 5, none⟩ = some (.int .i64 n)
 wf : (Lit.int .i64 d).wf = true ∧ (Lit.int .i64 c).wf = true ∧ (Lit.int .i64 y).wf = true ∧ (Lit.int .i64 c2).wf = true ∧ (Lit.int .i64 y2).wf = true ∧ (Lit.int .i64 n).wf = true
def Acts10 (w : World) (A : Option Addr) (n : Nat) : Prop :=
 n = 0 ∨ ∃ b off, A = some ⟨b, off, none⟩ ∧ b < w.heap.size ∧ ∀ k, k < n → ∃ d c y c2 y2 a, Act10 w b (off + k * 6) d c y c2 y2 a
end Go.Proofs.YtmlafdehhbhbiaaGreat
/- The document's example of chapter 10; BucketPlays: its walk. -/
namespace Go.Proofs.YtmlafdehhbhbiaaGreat
open Go.RowKit
def S0 : Int → Int → Int := fun _ _ => 0
end Go.Proofs.YtmlafdehhbhbiaaGreat
/- Registers of which all is known; BucketOver: its walk. -/
namespace Go.Proofs.YtmlafdehhbhbiaaGreat
open Go.RowKit
structure PK (w0 w : World) (O : Nat → Nat) (sb : Nat) (S : Int → Int → Int) (n : Nat) (T : Int) : Prop where
 now : NowP w0 w O 1 sb S
 is : ∃ g, BIs S n g ∧ btot g n = T
section
variable {w0 w w1 : World} {O : Nat → Nat} {sb n : Nat} {S : Int → Int → Int} {T : Int}
theorem PK.le (h : PK w0 w O sb S n T) : n ≤ 12 ∧ Mon T := by
 obtain ⟨g, b, e⟩ := h.is
 obtain ⟨m, g', iv⟩ := h.now.told
 obtain ⟨e1, _⟩ := iv.is.uniq b
 have e2 := iv.is.total b
 exact ⟨by have := iv.le; omega, by rw [← e, ← e2]; exact iv.all⟩
end
theorem pk_new {w0 w : World} {O : Nat → Nat} {sb : Nat} (h : NowP w0 w O 1 sb S0) : PK w0 w O sb S0 0 0 := ⟨h, fun _ => ⟨0, 0, 0⟩, bis_zero _, rfl⟩
end Go.Proofs.YtmlafdehhbhbiaaGreat
/- The law's own walk from the document's register to one of the program's (Of): moves one by one, of which none is too great on the way. -/
namespace Go.Proofs.YtmlafdehhbhbiaaGreat
open Go.RowKit
structure LT (w : World) (O : Nat → Nat) (base t : Nat) (v : Value) (n : Nat) (g : Nat → Bk) : Prop where
 own : OwnR be 3 w 81 base v n g
 tag : ∀ b, v.ownBlock = some b → O b = t
section
variable {w w1 : World} {O O1 : Nat → Nat} {base b0 t t' n : Nat} {v : Value} {g : Nat → Bk}
theorem LT.below (h : LT w O base t v n g) (k : Below w.heap.size w w1) : LT w1 O base t v n g := ⟨h.own.below k, h.tag⟩
theorem LT.step (h : LT w O base t v n g) (k : Step b0 O t' w O1 w1) (hne : t ≠ t') : LT w1 O1 base t v n g :=
 ⟨h.own.blocks fun b hb => k.kept.block b (h.own.lt b hb).2 (by rw [h.tag b hb]; exact hne), fun b hb => (k.ext b (h.own.lt b hb).2).trans (h.tag b hb)⟩
theorem Step.one {b : Nat} (f : Fin0 b0 O w) (hO : O b = t) (k : Below b w w1) (ho : ∀ q, q ≠ b → w1.heap[q]? = w.heap[q]?) : Step b0 O t w O w1 :=
 ⟨⟨k.os, k.tape, k.output, k.size, fun i _ hi => ho i fun e => hi (by rw [e]; exact hO)⟩, fun _ _ => rfl, f.1, fun i hi => f.2 i (Nat.le_trans k.size hi)⟩
theorem PK.step {w0 : World} {sb m : Nat} {S : Int → Int → Int} {T : Int} (h : PK w0 w O sb S m T) (k : Step w0.heap.size O t' w O1 w1) (h1 : 1 ≠ t') (h2 : t' ≠ 0) : PK w0 w1 O1 sb S m T := ⟨h.now.step k h1 h2, h.is⟩
end
theorem own_three {w : World} {base n c k b : Nat} {g : Nat → Bk} (o : OwnR be 3 w 81 base (.slice (some ⟨b, 0, none⟩) n c) n g) (hk : k < n) : b < w.heap.size ∧ w.cell? ⟨b, k * 3, none⟩ = some (.int .i64 (g k).c) ∧ w.cell? ⟨b, k * 3 + 1, none⟩ = some (.int .i64 (g k).y) ∧ w.cell? ⟨b, k * 3 + 2, none⟩ = some (.int .i64 (g k).a) := by
 obtain ⟨_, _, e, _, _, _, hb, hc, _⟩ := o.some be_len (by omega)
 injection e with e1 _ _
 injection e1 with e1
 injection e1 with e1
 subst e1
 exact ⟨hb, hc k hk 0 _ rfl, hc k hk 1 _ rfl, hc k hk 2 _ rfl⟩
structure OfInv (S : Int → Int → Int) (Tt : Int) (n : Nat) (Sr : Int → Int → Int) (T : Int) (m : Nat) (L : Int → Int → Int) (h : Nat → Bk) (q : Nat) : Prop where
 isL : BIs L q h
 sum : ∀ c y, Sr c y + L c y = S c y
 dis : ∀ c y, L c y ≠ 0 → Sr c y = 0
 tot : T + btot h q = Tt
 cnt : m + q = n
section
variable {S Sr L : Int → Int → Int} {Tt T : Int} {n m q k : Nat} {g h : Nat → Bk}
theorem OfInv.start (b : BIs S n g) : OfInv S (btot g n) n S0 0 0 S g n :=
 ⟨b, fun c y => by unfold S0; omega, fun _ _ _ => rfl, by omega, by omega⟩
theorem OfInv.at (o : OfInv S Tt n Sr T m L h q) (hk : k < q) : Sr (h k).c (h k).y = 0 ∧ S (h k).c (h k).y = (h k).a := by
 have e := o.isL.at hk
 have z := o.dis (h k).c (h k).y (by rw [e]; exact o.isL.1.nz k hk)
 have := o.sum (h k).c (h k).y
 exact ⟨z, by omega⟩
theorem OfInv.next (o : OfInv S Tt n Sr T m L h q) (hk : k < q) : OfInv S Tt n (upS Sr (h k).c (h k).y (h k).a) (T + (h k).a) (m + 1) (upS L (h k).c (h k).y 0) (delB h k) (q - 1) := by
 obtain ⟨q', rfl⟩ : ∃ q', q = q' + 1 := ⟨q - 1, by omega⟩
 obtain ⟨k1, k2⟩ := bis_del o.isL hk
 obtain ⟨z1, z2⟩ := o.at hk
 refine ⟨k1, fun c y => ?_, fun c y hne => ?_, by have := o.tot; simp only [Nat.add_sub_cancel]; omega, by have := o.cnt; omega⟩
 · unfold upS
   by_cases e : c = (h k).c ∧ y = (h k).y
   · rw [if_pos e, if_pos e, e.1, e.2, z2]; omega
   · rw [if_neg e, if_neg e]; exact o.sum c y
 · unfold upS at hne ⊢
   by_cases e : c = (h k).c ∧ y = (h k).y
   · rw [if_pos e] at hne; exact absurd rfl hne
   · rw [if_neg e] at hne ⊢; exact o.dis c y hne
theorem OfInv.done (o : OfInv S Tt n Sr T m L h 0) : Sr = S := by
 funext c y
 have e : L c y = 0 := by rw [← o.isL.2]; rfl
 have := o.sum c y
 omega
end
theorem tot_ge {f : Nat → Int} {k : Nat} : ∀ n, k < n → (∀ j, j < n → 0 ≤ f j) → f k ≤ tot f n := by
 intro n hk h
 have nn : ∀ m, m ≤ n → 0 ≤ tot f m := by
   intro m
   induction m with
   | zero => intro _; simp [tot]
   | succ m ih => intro hm; rw [tot]; have := ih (by omega); have := h m (by omega); omega
 induction n with
 | zero => omega
 | succ n ih =>
   rw [tot]
   by_cases e : k = n
   · subst e; have := nn k (by omega); omega
   · have := ih (by omega) (fun j hj => h j (by omega)) (fun m hm => nn m (by omega))
     have := h n (by omega)
     omega
theorem tot_le1 {f : Nat → Int} {k : Nat} (n : Nat) (hk : k < n) (h : ∀ j, j < n → f j ≤ 0) : tot f n ≤ f k := by
 have := tot_ge (f := fun j => - f j) (k := k) n hk fun j hj => by have := h j hj; show 0 ≤ - f j; omega
 have e : ∀ m, tot (fun j => - f j) m = - tot f m := by
   intro m
   induction m with
   | zero => simp [tot]
   | succ m ih => rw [tot, tot, ih]; omega
 rw [e] at this
 try dsimp only at this
 omega
def Nxt (T : Int) (x : Bk) : Prop := 0 < T ↔ x.a < 0
theorem pick_mon {T : Int} {h : Nat → Bk} {q k : Nat} (hT : Mon T) (ha : ∀ j, j < q → Mon (h j).a) (hE : Mon (T + btot h q)) (hk : k < q) (hp : Nxt T (h k) ∨ ∀ j, j < q → ¬ Nxt T (h j)) : Mon (T + (h k).a) := by
 have hak := ha k hk
 unfold Mon at *
 rcases hp with p | p
 · unfold Nxt at p
   by_cases z : 0 < T
   · have := p.1 z; omega
   · have : ¬ (h k).a < 0 := fun e => z (p.2 e)
     omega
 · by_cases z : 0 < T
   · have pos : ∀ j, j < q → 0 ≤ (h j).a := fun j hj => by
       have := p j hj
       unfold Nxt at this
       by_cases e : (h j).a < 0
       · exact absurd (iff_of_true z e) this
       · omega
     have := tot_ge (f := fun j => (h j).a) q hk pos
     unfold btot at hE
     try dsimp only at this
     have := pos k hk
     omega
   · have neg : ∀ j, j < q → (h j).a ≤ 0 := fun j hj => by
       have := p j hj
       unfold Nxt at this
       by_cases e : (h j).a < 0
       · omega
       · exact absurd (iff_of_false z e) this
     have := tot_le1 (f := fun j => (h j).a) q hk neg
     unfold btot at hE
     try dsimp only at this
     have := neg k hk
     omega
end Go.Proofs.YtmlafdehhbhbiaaGreat
