/- The document's own change of deferred tax: a contract. -/
import Derived.Test.YtmlafdehhbhbiaaGreatRmMath
import Derived.Test.YtmlafdehhbhbiaaGreatM8
import Derived.Test.YtmlafdehhbhbiaaGreatM9
import Derived.Test.YtmlafdehhbhbiaaGreatM2
namespace Go.Proofs.YtmlafdehhbhbiaaGreat
open Go.RowKit
abbrev O0 : Nat → Nat := fun _ => 0
theorem head0 (w : World) (xs : Array Value) (T : TypeId) : Head (w.alloc (.cells xs T)) O0 0 w.heap.size xs.toList :=
 have h := Head.new w O0 0 xs T
 ⟨h.cell, h.frz, rfl, h.lt⟩
theorem Head.apart {w : World} {O : Nat → Nat} {t sb : Nat} {xs : List Value} (h : Head w O t sb xs) {b : Nat} (o : Nat) (x : Value) (hne : sb ≠ b) : Head (w.setCell ⟨b, o, .none⟩ x) O t sb xs :=
 h.block (Below.heap_setCell _ _ _ _ hne) (by simp) rfl
structure TwoC (w wr : World) (b1 : Nat) (m r : Int) : Prop where
 res : Head wr O0 0 w.heap.size [.int .i64 0, .int .i64 0]
 mkg : Head wr O0 0 b1 [.int .i64 m, .int .i64 r]
 ne : b1 ≠ w.heap.size
 gt : w.heap.size ≤ b1
 low : Below w.heap.size w wr
theorem TwoC.below {w wr w1 : World} {b1 : Nat} {m r : Int} (h : TwoC w wr b1 m r) (k : Below wr.heap.size wr w1) : TwoC w w1 b1 m r := ⟨h.res.below k, h.mkg.below k, h.ne, h.gt, h.low.trans (k.mono h.low.size)⟩
theorem TwoC.setR {w wr : World} {b1 : Nat} {m r : Int} (h : TwoC w wr b1 m r) (x : Int) : TwoC w (wr.setCell ⟨b1, 1, none⟩ (.int .i64 x)) b1 m x := ⟨h.res.apart _ _ (fun e => h.ne e.symm), h.mkg.set 1 (.int .i64 x) (by simp), h.ne, h.gt, h.low.setCell h.gt _⟩
theorem TwoC.setM {w wr : World} {b1 : Nat} {m r : Int} (h : TwoC w wr b1 m r) (x : Int) : TwoC w (wr.setCell ⟨b1, 0, none⟩ (.int .i64 x)) b1 x r := ⟨h.res.apart _ _ (fun e => h.ne e.symm), h.mkg.set 0 (.int .i64 x) (by simp), h.ne, h.gt, h.low.setCell h.gt _⟩
theorem load_ch {w : World} {O : Nat → Nat} {t b : Nat} {m r : Int} (h : Head w O t b [.int .i64 m, .int .i64 r]) : (loadVar 73 ⟨b, 0, none⟩).run Tryz.prog w = .ok (.agg #[.int .i64 m, .int .i64 r]) w := by
 have c0 := h.cell 0 _ rfl
 have c1 := h.cell 1 _ rfl
 clear h
 go_simp
theorem results_ct {fn : Func} {p u : Tmp} {T : TypeId} (h : fn.results = #[.cell p T, .tmp u]) (tmps : Array Value) (w : World) (b : Nat) (x : Value) (hp : tmps.getD p undef = .pointer (some ⟨b, 0, none⟩)) (hl : (loadVar T ⟨b, 0, none⟩).run Tryz.prog w = .ok x w) :
   (results fn tmps).run Tryz.prog w = .ok (.tuple #[x, tmps.getD u undef]) w := by
 have hp' : tmps[p]?.getD undef = .pointer (some ⟨b, 0, none⟩) := by simpa using hp
 simp [results, h, hp', asAddr, hl, Result.andThen]
set_option maxHeartbeats 8000000 in
set_option maxRecDepth 100000 in
theorem rrem_any {w : World} {A A' U V : Option Addr} {n c n' c' k0 cu k1 cv q : Nat} {g g' : Nat → Bk} {S S' : Int → Int → Int} {o z : Nat → Int} {f : Nat → Wy} (h : AtR be 3 w A n g) (h' : AtR be 3 w A' n' g') (iv : BIs S n g) (iv' : BIs S' n' g') (hn : n ≤ 1000) (hn' : n' ≤ 1000)
   (hu : At w U k0 o) (hv : At w V k1 z) (hf : FIw S S' q f) {m r e : Int} (H : RmIs q f k0 o k1 z m r e) :
   Calls Tryz.prog 69 #[.slice A n c, .slice A' n' c', .slice U k0 cu, .slice V k1 cv] w fun e' w' => e' = .returned (.tuple #[.agg #[.int .i64 m, .int .i64 r], .int .i64 e]) ∧ Below w.heap.size w w' := by
 have CF := Lib.hid fun w5 (k : Below w.heap.size w w5) => rfwd_w (c := c) (c' := c') (h.below k) (h'.below k) iv iv' hn hn'
 have HU := Lib.hid hu
 have HV := Lib.hid hv
 have HF := Lib.hid hf
 have hq9 := hf.le
 have R0 := Lib.hid (head0 w #[.int .i64 0, .int .i64 0] 73)
 have L0 := Lib.hid ((Below.refl w.heap.size w).alloc (Nat.le_refl _) (.cells #[.int .i64 0, .int .i64 0] 73))
 have HH := Lib.hid H
 clear h h' iv iv' hu hv hf H hn hn'
 go_enter Tryz.func69, Tryz.ntmps69
 go_wp2_with fail
 refine (CF.out _ L0.out).mono ?_
 rintro e' w1 ⟨v1, q', f', rfl, ho, hf', hb1⟩
 obtain ⟨rfl, hef⟩ := hf'.uniq HF.out
 obtain ⟨A1, c1, rfl, hc1, hm1, _, ha1⟩ := ho.at we_len
 have HA1 := Lib.hid (ha1.ext hef)
 have R1 := Lib.hid (R0.out.below hb1)
 have L1 := Lib.hid (L0.out.trans (hb1.mono L0.out.size))
 clear ho hf' hef ha1 hb1 CF R0 L0 HF
 by_cases hk : k0 = q' ∧ k1 = q'
 · obtain ⟨rfl, rfl⟩ := hk
   obtain ⟨L, hL, h1, h2, hres⟩ := HH.out.ends
   have H1 := Lib.hid h1
   have H2 := Lib.hid h2
   have HR := Lib.hid hres
   have ee : ((k1 : Int) != (k1 : Int)) = false := by simp
   clear h1 h2 hres HH
   have M1 : Hid (TwoC w (w1.alloc (.cells #[.int .i64 0, .int .i64 0] 73)) w1.heap.size 0 0) := Lib.hid ⟨R1.out.below ((Below.refl _ _).alloc (Nat.le_refl _) _), head0 w1 _ _, by have := R1.out.lt; omega, L1.out.size, L1.out.alloc L1.out.size _⟩
   obtain ⟨b1, hb1⟩ : ∃ b1, w1.heap.size = b1 := ⟨_, rfl⟩
   rw [hb1] at M1
   have HB1 := Lib.hid hb1
   clear hb1 R1
   go_wp2
   rw [HB1.out]
   go_loopg [33] k1 (fun gh i wr => ∃ k : Nat, k ≤ L ∧ gh = k1 - k ∧ i = .int .i64 k ∧ TwoC w wr b1 (tot (mvU f z) k) (tot (rtU f o z) k) ∧ Below w1.heap.size w1 wr)
   case atStart => exact ⟨0, Nat.zero_le _, rfl, rfl, M1.out, (Below.refl _ _).alloc (Nat.le_refl _) _⟩
   case round =>
     obtain ⟨k, hk, hgk, rfl, ht, hbw⟩ := hrel
     have HGK := Lib.hid hgk
     have TC := Lib.hid ht
     have HW := Lib.hid hbw
     clear hgk ht hbw M1
     obtain ⟨T, hT⟩ : ∃ T, tot (mvU f z) k = T := ⟨_, rfl⟩
     obtain ⟨X, hX⟩ : ∃ X, tot (rtU f o z) k = X := ⟨_, rfl⟩
     have bd := rows_bd (k := k) fun i hi => H1.out i (by omega)
     rw [hT, hX] at bd
     have tb : (-200000000000000 ≤ X ∧ X ≤ 200000000000000) ∧ -200000000000000 ≤ T ∧ T ≤ 200000000000000 := by omega
     have HT := Lib.hid hT
     have HX := Lib.hid hX
     rw [hT, hX] at TC
     clear bd hT hX
     by_cases hlt : k < k1
     · obtain ⟨b, off, rfl, hb, c0, c1, c2, c3, c4⟩ := (HA1.out.below HW.out).five hlt
       obtain ⟨bu, ou, rfl, hbu, hcu⟩ := (HU.out.below TC.out.low).some (show 0 < k1 by omega)
       obtain ⟨bv, ov, rfl, hbv, hcv⟩ := (HV.out.below TC.out.low).some (show 0 < k1 by omega)
       have d0 := hcu k hlt
       have d1 := hcv k hlt
       obtain ⟨wc, hwc⟩ : ∃ wc, (f k).c = wc := ⟨_, rfl⟩
       obtain ⟨wy, hwy⟩ : ∃ wy, (f k).y = wy := ⟨_, rfl⟩
       obtain ⟨a, ha⟩ : ∃ a, (f k).o = a := ⟨_, rfl⟩
       obtain ⟨a', ha'⟩ : ∃ a', (f k).k = a' := ⟨_, rfl⟩
       obtain ⟨wm, hwm⟩ : ∃ wm, (f k).m = wm := ⟨_, rfl⟩
       obtain ⟨y, hy⟩ : ∃ y, o k = y := ⟨_, rfl⟩
       obtain ⟨x, hx⟩ : ∃ x, z k = x := ⟨_, rfl⟩
       rw [hwc] at c0
       rw [hwy] at c1
       rw [ha] at c2
       rw [hwm] at c3
       rw [ha'] at c4
       rw [hy] at d0
       rw [hx] at d1
       have k0 : (0 : Int) ≤ (k : Int) := by omega
       have kk : (k : Int) < (k1 : Int) := by omega
       clear hcu hcv hwc hwy hwm
       by_cases hkL : k < L
       · obtain ⟨⟨hr1, hr2⟩, hma, hma'⟩ := H1.out k hkL
         rw [hy] at hr1
         rw [hx] at hr2
         rw [ha] at hma
         rw [ha'] at hma'
         have pm := rof_mon hma hr2
         have sm := rof_mon hma hr1
         have pm' := rof_mon hma' hr2
         obtain ⟨p, hp⟩ : ∃ p, rof a x = p := ⟨_, rfl⟩
         obtain ⟨s, hs⟩ : ∃ s, rof a y = s := ⟨_, rfl⟩
         obtain ⟨p', hp'⟩ : ∃ p', rof a' x = p' := ⟨_, rfl⟩
         rw [hp] at pm
         rw [hs] at sm
         rw [hp'] at pm'
         have ER : Hid (tot (rtU f o z) (k + 1) = X + (p - s)) := Lib.hid (by
           show tot (rtU f o z) k + (rof (f k).o (z k) - rof (f k).o (o k)) = X + (p - s)
           rw [ha, hx, hy, hp, hs, HX.out])
         have EM : Hid (tot (mvU f z) (k + 1) = T + (p' - p)) := Lib.hid (by
           show tot (mvU f z) k + (rof (f k).k (z k) - rof (f k).o (z k)) = T + (p' - p)
           rw [ha, ha', hx, hp, hp', HT.out])
         have HP := Lib.hid hp
         have HS := Lib.hid hs
         have HP' := Lib.hid hp'
         unfold Mon at pm sm pm'
         have HMA := Lib.hid hma
         have HMA' := Lib.hid hma'
         have HR1 := Lib.hid (show 0 ≤ y ∧ y ≤ 1000000 from hr1)
         have HR2 := Lib.hid (show 0 ≤ x ∧ x ≤ 1000000 from hr2)
         have a1 : -400000000000 ≤ a ∧ a ≤ 400000000000 := by unfold Mon at hma; omega
         have a2 : -400000000000 ≤ a' ∧ a' ≤ 400000000000 := by unfold Mon at hma'; omega
         have z1 : 0 ≤ y ∧ y ≤ 10000000 := by unfold RtOk at hr1; omega
         have z2 : 0 ≤ x ∧ x ≤ 10000000 := by unfold RtOk at hr2; omega
         have w1e : IntKind.i64.wrap (p - s) = p - s := IntWalk.i64_in _ (by omega)
         have w2e : IntKind.i64.wrap (X + (p - s)) = X + (p - s) := IntWalk.i64_in _ (by omega)
         have w3e : IntKind.i64.wrap (p' - p) = p' - p := IntWalk.i64_in _ (by omega)
         have w4e : IntKind.i64.wrap (T + (p' - p)) = T + (p' - p) := IntWalk.i64_in _ (by omega)
         have hba := (Below.refl wr.heap.size wr).alloc (Nat.le_refl _) (.cells #[.int .i64 wc, .int .i64 wy, .int .i64 a, .int .i64 wm, .int .i64 a'] 126)
         have RA := rec_lit wr [.int .i64 wc, .int .i64 wy, .int .i64 a, .int .i64 wm, .int .i64 a'] 126 wr.heap.size rfl
         obtain ⟨wa, hwa⟩ : ∃ wa, wr.alloc (.cells #[.int .i64 wc, .int .i64 wy, .int .i64 a, .int .i64 wm, .int .i64 a'] 126) = wa := ⟨_, rfl⟩
         have RA2 : wa.cell? ⟨wr.heap.size, 2, none⟩ = some (.int .i64 a) := by rw [← hwa]; exact RA 2 _ rfl
         have RA4 : wa.cell? ⟨wr.heap.size, 4, none⟩ = some (.int .i64 a') := by rw [← hwa]; exact RA 4 _ rfl
         rw [hwa] at hba
         have D0 := Lib.hid (cell_keep d0 hba)
         have D1 := Lib.hid (cell_keep d1 hba)
         have TA := Lib.hid (TC.out.below hba)
         have KA := Lib.hid (HW.out.trans (hba.mono HW.out.size))
         have HWA := Lib.hid hwa
         have gb1 : ¬ wr.heap.size = b1 := fun e => by have := TC.out.mkg.lt; omega
         have gbu : ¬ bu = b1 := fun e => by have := TC.out.gt; have := HU.out.some (show 0 < k1 by omega); obtain ⟨bb, oo, ee2, hh, _⟩ := this; injection ee2 with ee2; injection ee2 with ee2; omega
         have gbv : ¬ bv = b1 := fun e => by have := TC.out.gt; have := HV.out.some (show 0 < k1 by omega); obtain ⟨bb, oo, ee2, hh, _⟩ := this; injection ee2 with ee2; injection ee2 with ee2; omega
         clear hp hs hp' hma hma' hr1 hr2 hwa hba RA ha ha' hx hy
         go_wp2_with (first | (go_at_call 59; (with_reducible refine (rright_yes _ _ HR1.out).mono ?_); rintro e w' ⟨rfl, rfl⟩) | (go_at_call 59; (with_reducible refine (rright_yes _ _ HR2.out).mono ?_); rintro e w' ⟨rfl, rfl⟩) | (go_at_call 50; (with_reducible refine (rmoney_yes _ _ HMA.out).mono ?_); rintro e w' ⟨rfl, rfl⟩) | (go_at_call 50; (with_reducible refine (rmoney_yes _ _ HMA'.out).mono ?_); rintro e w' ⟨rfl, rfl⟩))
         rw [HWA.out]
         clear HWA c0 c1 c2 c3 c4 d0 d1 hb hbu hbv
         have M0 := TA.out.mkg.cell 0 _ rfl
         have M1 := TA.out.mkg.cell 1 _ rfl
         have F1 := TA.out.mkg.frz 1
         have scd : wa.drew.cell? ⟨wr.heap.size, 2, none⟩ = some (.int .i64 a) ∧ wa.drew.cell? ⟨wr.heap.size, 4, none⟩ = some (.int .i64 a') ∧ wa.drew.cell? ⟨bu, ou + k, none⟩ = some (.int .i64 y) ∧ wa.drew.cell? ⟨bv, ov + k, none⟩ = some (.int .i64 x) ∧ wa.drew.cell? ⟨b1, 0, none⟩ = some (.int .i64 T) ∧ wa.drew.cell? ⟨b1, 1, none⟩ = some (.int .i64 X) := ⟨RA2, RA4, D0.out, D1.out, M0, M1⟩
         refine wp_region_noPanic ?_
         refine AnyTill.begin (C := fun w' => w'.cell? ⟨wr.heap.size, 2, none⟩ = some (.int .i64 a) ∧ w'.cell? ⟨wr.heap.size, 4, none⟩ = some (.int .i64 a') ∧ w'.cell? ⟨bu, ou + k, none⟩ = some (.int .i64 y) ∧ w'.cell? ⟨bv, ov + k, none⟩ = some (.int .i64 x) ∧ w'.cell? ⟨b1, 0, none⟩ = some (.int .i64 T) ∧ w'.cell? ⟨b1, 1, none⟩ = some (.int .i64 X)) (q := 19) (by kernel_rfl) ?_
         refine AnyTill.take (i := 0) (v := ?_) (by simp only [List.getElem?_toArray, List.getElem?_cons_zero]; rfl) (by kernel_rfl) (by kernel_rfl) (by kernel_rfl) (by kernel_rfl) (fun _ _ _ h => h) (Or.inl ⟨by rfl, ?_⟩) scd ?_
         rotate_left
         · intro w' hw'; (try dsimp only at hw'); go_simp <;> with_reducible rfl
         try simp only [Act.put, List.setIfInBounds_toArray, List.set_cons_zero, List.set_cons_succ]
         refine AnyTill.take (i := 1) (v := ?_) (by simp only [List.getElem?_toArray, List.getElem?_cons_succ, List.getElem?_cons_zero]; rfl) (by kernel_rfl) (by kernel_rfl) (by kernel_rfl) (by kernel_rfl) (fun _ _ _ h => h) (Or.inl ⟨by rfl, ?_⟩) scd ?_
         rotate_left
         · intro w' hw'; (try dsimp only at hw'); go_simp <;> with_reducible rfl
         try simp only [Act.put, List.setIfInBounds_toArray, List.set_cons_zero, List.set_cons_succ]
         refine AnyTill.take (i := 2) (v := ?_) (by simp only [List.getElem?_toArray, List.getElem?_cons_succ, List.getElem?_cons_zero]; rfl) (by kernel_rfl) (by kernel_rfl) (by kernel_rfl) (by kernel_rfl) (fun _ _ _ h => h) (Or.inl ⟨by rfl, ?_⟩) scd ?_
         rotate_left
         · intro w' hw'; (try dsimp only at hw'); go_simp <;> with_reducible rfl
         try simp only [Act.put, List.setIfInBounds_toArray, List.set_cons_zero, List.set_cons_succ]
         refine AnyTill.take (i := 3) (v := ?_) (by simp only [List.getElem?_toArray, List.getElem?_cons_succ, List.getElem?_cons_zero]; rfl) (by kernel_rfl) (by kernel_rfl) (by kernel_rfl) (by kernel_rfl) (fun _ _ _ h => h) (Or.inl ⟨by rfl, ?_⟩) scd ?_
         rotate_left
         · intro w' hw'; (try dsimp only at hw'); go_simp <;> with_reducible rfl
         try simp only [Act.put, List.setIfInBounds_toArray, List.set_cons_zero, List.set_cons_succ]
         refine AnyTill.take (i := 4) (v := ?_) (by simp only [List.getElem?_toArray, List.getElem?_cons_succ, List.getElem?_cons_zero]; rfl) (by kernel_rfl) (by kernel_rfl) (by kernel_rfl) (by kernel_rfl) (fun _ _ _ h => h) (Or.inl ⟨by rfl, ?_⟩) scd ?_
         rotate_left
         · intro w' hw'; (try dsimp only at hw'); go_simp <;> with_reducible rfl
         try simp only [Act.put, List.setIfInBounds_toArray, List.set_cons_zero, List.set_cons_succ]
         refine AnyTill.take (i := 5) (v := ?_) (by simp only [List.getElem?_toArray, List.getElem?_cons_succ, List.getElem?_cons_zero]; rfl) (by kernel_rfl) (by kernel_rfl) (by kernel_rfl) (by kernel_rfl) (fun _ _ _ h => h) (Or.inl ⟨by rfl, ?_⟩) scd ?_
         rotate_left
         · intro w' hw'; (try dsimp only at hw'); go_simp <;> with_reducible rfl
         try simp only [Act.put, List.setIfInBounds_toArray, List.set_cons_zero, List.set_cons_succ]
         refine AnyTill.take (i := 6) (v := ?_) (by simp only [List.getElem?_toArray, List.getElem?_cons_succ, List.getElem?_cons_zero]; rfl) (by kernel_rfl) (by kernel_rfl) (by kernel_rfl) (by kernel_rfl) (fun _ _ _ h => h) (Or.inl ⟨by rfl, ?_⟩) scd ?_
         rotate_left
         · intro w' hw'; (try dsimp only at hw'); go_simp <;> with_reducible rfl
         try simp only [Act.put, List.setIfInBounds_toArray, List.set_cons_zero, List.set_cons_succ]
         refine AnyTill.take (i := 7) (v := ?_) (by simp only [List.getElem?_toArray, List.getElem?_cons_succ, List.getElem?_cons_zero]; rfl) (by kernel_rfl) (by kernel_rfl) (by kernel_rfl) (by kernel_rfl) (fun _ _ _ h => h) (Or.inl ⟨by rfl, ?_⟩) scd ?_
         rotate_left
         · intro w' hw'; (try dsimp only at hw'); go_simp <;> with_reducible rfl
         try simp only [Act.put, List.setIfInBounds_toArray, List.set_cons_zero, List.set_cons_succ]
         refine AnyTill.takeC (i := 8) (v := .int .i64 p) (by simp only [List.getElem?_toArray, List.getElem?_cons_succ, List.getElem?_cons_zero]; rfl) (by kernel_rfl) (by kernel_rfl) (by kernel_rfl) (by kernel_rfl) (fun _ _ _ h => h) ⟨by rfl, 70, #[.int .i64 a, .int .i64 x], fun w' hw' => ?_, fun w' hw' => rpart_v a x w' (by omega) (by omega) _ HP.out⟩ scd ?_
         · (try dsimp only at hw'); go_simp <;> with_reducible rfl
         try simp only [Act.put, List.setIfInBounds_toArray, List.set_cons_zero, List.set_cons_succ]
         refine AnyTill.take (i := 9) (v := ?_) (by simp only [List.getElem?_toArray, List.getElem?_cons_succ, List.getElem?_cons_zero]; rfl) (by kernel_rfl) (by kernel_rfl) (by kernel_rfl) (by kernel_rfl) (fun _ _ _ h => h) (Or.inl ⟨by rfl, ?_⟩) scd ?_
         rotate_left
         · intro w' hw'; (try dsimp only at hw'); go_simp <;> with_reducible rfl
         try simp only [Act.put, List.setIfInBounds_toArray, List.set_cons_zero, List.set_cons_succ]
         refine AnyTill.take (i := 10) (v := ?_) (by simp only [List.getElem?_toArray, List.getElem?_cons_succ, List.getElem?_cons_zero]; rfl) (by kernel_rfl) (by kernel_rfl) (by kernel_rfl) (by kernel_rfl) (fun _ _ _ h => h) (Or.inl ⟨by rfl, ?_⟩) scd ?_
         rotate_left
         · intro w' hw'; (try dsimp only at hw'); go_simp <;> with_reducible rfl
         try simp only [Act.put, List.setIfInBounds_toArray, List.set_cons_zero, List.set_cons_succ]
         refine AnyTill.take (i := 11) (v := ?_) (by simp only [List.getElem?_toArray, List.getElem?_cons_succ, List.getElem?_cons_zero]; rfl) (by kernel_rfl) (by kernel_rfl) (by kernel_rfl) (by kernel_rfl) (fun _ _ _ h => h) (Or.inl ⟨by rfl, ?_⟩) scd ?_
         rotate_left
         · intro w' hw'; (try dsimp only at hw'); go_simp <;> with_reducible rfl
         try simp only [Act.put, List.setIfInBounds_toArray, List.set_cons_zero, List.set_cons_succ]
         refine AnyTill.take (i := 12) (v := ?_) (by simp only [List.getElem?_toArray, List.getElem?_cons_succ, List.getElem?_cons_zero]; rfl) (by kernel_rfl) (by kernel_rfl) (by kernel_rfl) (by kernel_rfl) (fun _ _ _ h => h) (Or.inl ⟨by rfl, ?_⟩) scd ?_
         rotate_left
         · intro w' hw'; (try dsimp only at hw'); go_simp <;> with_reducible rfl
         try simp only [Act.put, List.setIfInBounds_toArray, List.set_cons_zero, List.set_cons_succ]
         refine AnyTill.take (i := 13) (v := ?_) (by simp only [List.getElem?_toArray, List.getElem?_cons_succ, List.getElem?_cons_zero]; rfl) (by kernel_rfl) (by kernel_rfl) (by kernel_rfl) (by kernel_rfl) (fun _ _ _ h => h) (Or.inl ⟨by rfl, ?_⟩) scd ?_
         rotate_left
         · intro w' hw'; (try dsimp only at hw'); go_simp <;> with_reducible rfl
         try simp only [Act.put, List.setIfInBounds_toArray, List.set_cons_zero, List.set_cons_succ]
         refine AnyTill.take (i := 14) (v := ?_) (by simp only [List.getElem?_toArray, List.getElem?_cons_succ, List.getElem?_cons_zero]; rfl) (by kernel_rfl) (by kernel_rfl) (by kernel_rfl) (by kernel_rfl) (fun _ _ _ h => h) (Or.inl ⟨by rfl, ?_⟩) scd ?_
         rotate_left
         · intro w' hw'; (try dsimp only at hw'); go_simp <;> with_reducible rfl
         try simp only [Act.put, List.setIfInBounds_toArray, List.set_cons_zero, List.set_cons_succ]
         refine AnyTill.takeC (i := 15) (v := .int .i64 s) (by simp only [List.getElem?_toArray, List.getElem?_cons_succ, List.getElem?_cons_zero]; rfl) (by kernel_rfl) (by kernel_rfl) (by kernel_rfl) (by kernel_rfl) (fun _ _ _ h => h) ⟨by rfl, 70, #[.int .i64 a, .int .i64 y], fun w' hw' => ?_, fun w' hw' => rpart_v a y w' (by omega) (by omega) _ HS.out⟩ scd ?_
         · (try dsimp only at hw'); go_simp <;> with_reducible rfl
         try simp only [Act.put, List.setIfInBounds_toArray, List.set_cons_zero, List.set_cons_succ]
         refine AnyTill.take (i := 16) (v := ?_) (by simp only [List.getElem?_toArray, List.getElem?_cons_succ, List.getElem?_cons_zero]; rfl) (by kernel_rfl) (by kernel_rfl) (by kernel_rfl) (by kernel_rfl) (fun _ _ _ h => h) (Or.inl ⟨by rfl, ?_⟩) scd ?_
         rotate_left
         · intro w' hw'; (try dsimp only at hw'); go_simp <;> with_reducible rfl
         try simp only [Act.put, List.setIfInBounds_toArray, List.set_cons_zero, List.set_cons_succ]
         refine AnyTill.take (i := 17) (v := ?_) (by simp only [List.getElem?_toArray, List.getElem?_cons_succ, List.getElem?_cons_zero]; rfl) (by kernel_rfl) (by kernel_rfl) (by kernel_rfl) (by kernel_rfl) (fun _ _ _ h => h) (Or.inl ⟨by rfl, ?_⟩) scd ?_
         rotate_left
         · intro w' hw'; (try dsimp only at hw'); go_simp <;> with_reducible rfl
         try simp only [Act.put, List.setIfInBounds_toArray, List.set_cons_zero, List.set_cons_succ]
         refine AnyTill.take (i := 18) (v := ?_) (by simp only [List.getElem?_toArray, List.getElem?_cons_succ, List.getElem?_cons_zero]; rfl) (by kernel_rfl) (by kernel_rfl) (by kernel_rfl) (by kernel_rfl) (fun _ _ _ h => h) (Or.inl ⟨by rfl, ?_⟩) scd ?_
         rotate_left
         · intro w' hw'; (try dsimp only at hw'); go_simp <;> with_reducible rfl
         try simp only [Act.put, List.setIfInBounds_toArray, List.set_cons_zero, List.set_cons_succ]
         refine' AnyTill.one (i := 19) (o := _) (by kernel_rfl) ?ho19setR (fun K' hK => ?hh19setR)
         case ho19setR => (simp only [List.getElem?_toArray, List.getElem?_cons_succ, List.getElem?_cons_zero]; rfl)
         go_simp
         refine hK.out _ _ (.inl rfl) ?_
         clear hK K'
         try simp only [Act.put, List.setIfInBounds_toArray, List.set_cons_zero, List.set_cons_succ]
         refine AnyTill.done (by kernel_rfl) ?_ _
         refine NoPanic.normal ?_
         have TB := Lib.hid ((TA.out.setR (X + (p - s))).below (below_drew _))
         obtain ⟨wb, hwb⟩ : ∃ wb, (wa.setCell ⟨b1, 1, none⟩ (.int .i64 (X + (p - s)))).drew = wb := ⟨_, rfl⟩
         have keepb : ∀ (b' o' : Nat) (v : Value), wa.drew.cell? ⟨b', o', none⟩ = some v → ¬ b' = b1 → wb.cell? ⟨b', o', none⟩ = some v := fun b' o' v h1 h2 => by
           rw [← hwb]
           show (wa.setCell ⟨b1, 1, none⟩ (.int .i64 (X + (p - s)))).cell? ⟨b', o', none⟩ = some v
           rw [World.cell?_setCell_other _ _ _ _ (by intro q; injection q with q _; exact h2 q.symm)]; exact h1
         have e2 := keepb _ _ _ scd.1 gb1
         have e4 := keepb _ _ _ scd.2.1 gb1
         have f0 := keepb _ _ _ scd.2.2.1 gbu
         have f1 := keepb _ _ _ scd.2.2.2.1 gbv
         rw [hwb] at TB
         have KB : Hid (Below w1.heap.size w1 wb) := Lib.hid (by rw [← hwb]; exact (KA.out.setCell (by rw [HB1.out]; exact Nat.le_refl _) _).drew)
         have HWB := Lib.hid hwb
         clear M0 M1 F1 scd keepb hwb RA2 RA4 D0 D1 KA TA
         go_wp2
         rw [HWB.out]
         clear HWB
         have M0 := TB.out.mkg.cell 0 _ rfl
         have M1 := TB.out.mkg.cell 1 _ rfl
         have F0 := TB.out.mkg.frz 0
         have sce : wb.drew.cell? ⟨wr.heap.size, 2, none⟩ = some (.int .i64 a) ∧ wb.drew.cell? ⟨wr.heap.size, 4, none⟩ = some (.int .i64 a') ∧ wb.drew.cell? ⟨bu, ou + k, none⟩ = some (.int .i64 y) ∧ wb.drew.cell? ⟨bv, ov + k, none⟩ = some (.int .i64 x) ∧ wb.drew.cell? ⟨b1, 0, none⟩ = some (.int .i64 T) ∧ wb.drew.cell? ⟨b1, 1, none⟩ = some (.int .i64 (X + (p - s))) := ⟨e2, e4, f0, f1, M0, M1⟩
         refine wp_region_noPanic ?_
         refine AnyTill.begin (C := fun w' => w'.cell? ⟨wr.heap.size, 2, none⟩ = some (.int .i64 a) ∧ w'.cell? ⟨wr.heap.size, 4, none⟩ = some (.int .i64 a') ∧ w'.cell? ⟨bu, ou + k, none⟩ = some (.int .i64 y) ∧ w'.cell? ⟨bv, ov + k, none⟩ = some (.int .i64 x) ∧ w'.cell? ⟨b1, 0, none⟩ = some (.int .i64 T) ∧ w'.cell? ⟨b1, 1, none⟩ = some (.int .i64 (X + (p - s)))) (q := 19) (by kernel_rfl) ?_
         refine AnyTill.take (i := 0) (v := ?_) (by simp only [List.getElem?_toArray, List.getElem?_cons_zero]; rfl) (by kernel_rfl) (by kernel_rfl) (by kernel_rfl) (by kernel_rfl) (fun _ _ _ h => h) (Or.inl ⟨by rfl, ?_⟩) sce ?_
         rotate_left
         · intro w' hw'; (try dsimp only at hw'); go_simp <;> with_reducible rfl
         try simp only [Act.put, List.setIfInBounds_toArray, List.set_cons_zero, List.set_cons_succ]
         refine AnyTill.take (i := 1) (v := ?_) (by simp only [List.getElem?_toArray, List.getElem?_cons_succ, List.getElem?_cons_zero]; rfl) (by kernel_rfl) (by kernel_rfl) (by kernel_rfl) (by kernel_rfl) (fun _ _ _ h => h) (Or.inl ⟨by rfl, ?_⟩) sce ?_
         rotate_left
         · intro w' hw'; (try dsimp only at hw'); go_simp <;> with_reducible rfl
         try simp only [Act.put, List.setIfInBounds_toArray, List.set_cons_zero, List.set_cons_succ]
         refine AnyTill.take (i := 2) (v := ?_) (by simp only [List.getElem?_toArray, List.getElem?_cons_succ, List.getElem?_cons_zero]; rfl) (by kernel_rfl) (by kernel_rfl) (by kernel_rfl) (by kernel_rfl) (fun _ _ _ h => h) (Or.inl ⟨by rfl, ?_⟩) sce ?_
         rotate_left
         · intro w' hw'; (try dsimp only at hw'); go_simp <;> with_reducible rfl
         try simp only [Act.put, List.setIfInBounds_toArray, List.set_cons_zero, List.set_cons_succ]
         refine AnyTill.take (i := 3) (v := ?_) (by simp only [List.getElem?_toArray, List.getElem?_cons_succ, List.getElem?_cons_zero]; rfl) (by kernel_rfl) (by kernel_rfl) (by kernel_rfl) (by kernel_rfl) (fun _ _ _ h => h) (Or.inl ⟨by rfl, ?_⟩) sce ?_
         rotate_left
         · intro w' hw'; (try dsimp only at hw'); go_simp <;> with_reducible rfl
         try simp only [Act.put, List.setIfInBounds_toArray, List.set_cons_zero, List.set_cons_succ]
         refine AnyTill.take (i := 4) (v := ?_) (by simp only [List.getElem?_toArray, List.getElem?_cons_succ, List.getElem?_cons_zero]; rfl) (by kernel_rfl) (by kernel_rfl) (by kernel_rfl) (by kernel_rfl) (fun _ _ _ h => h) (Or.inl ⟨by rfl, ?_⟩) sce ?_
         rotate_left
         · intro w' hw'; (try dsimp only at hw'); go_simp <;> with_reducible rfl
         try simp only [Act.put, List.setIfInBounds_toArray, List.set_cons_zero, List.set_cons_succ]
         refine AnyTill.take (i := 5) (v := ?_) (by simp only [List.getElem?_toArray, List.getElem?_cons_succ, List.getElem?_cons_zero]; rfl) (by kernel_rfl) (by kernel_rfl) (by kernel_rfl) (by kernel_rfl) (fun _ _ _ h => h) (Or.inl ⟨by rfl, ?_⟩) sce ?_
         rotate_left
         · intro w' hw'; (try dsimp only at hw'); go_simp <;> with_reducible rfl
         try simp only [Act.put, List.setIfInBounds_toArray, List.set_cons_zero, List.set_cons_succ]
         refine AnyTill.take (i := 6) (v := ?_) (by simp only [List.getElem?_toArray, List.getElem?_cons_succ, List.getElem?_cons_zero]; rfl) (by kernel_rfl) (by kernel_rfl) (by kernel_rfl) (by kernel_rfl) (fun _ _ _ h => h) (Or.inl ⟨by rfl, ?_⟩) sce ?_
         rotate_left
         · intro w' hw'; (try dsimp only at hw'); go_simp <;> with_reducible rfl
         try simp only [Act.put, List.setIfInBounds_toArray, List.set_cons_zero, List.set_cons_succ]
         refine AnyTill.take (i := 7) (v := ?_) (by simp only [List.getElem?_toArray, List.getElem?_cons_succ, List.getElem?_cons_zero]; rfl) (by kernel_rfl) (by kernel_rfl) (by kernel_rfl) (by kernel_rfl) (fun _ _ _ h => h) (Or.inl ⟨by rfl, ?_⟩) sce ?_
         rotate_left
         · intro w' hw'; (try dsimp only at hw'); go_simp <;> with_reducible rfl
         try simp only [Act.put, List.setIfInBounds_toArray, List.set_cons_zero, List.set_cons_succ]
         refine AnyTill.takeC (i := 8) (v := .int .i64 p') (by simp only [List.getElem?_toArray, List.getElem?_cons_succ, List.getElem?_cons_zero]; rfl) (by kernel_rfl) (by kernel_rfl) (by kernel_rfl) (by kernel_rfl) (fun _ _ _ h => h) ⟨by rfl, 70, #[.int .i64 a', .int .i64 x], fun w' hw' => ?_, fun w' hw' => rpart_v a' x w' (by omega) (by omega) _ HP'.out⟩ sce ?_
         · (try dsimp only at hw'); go_simp <;> with_reducible rfl
         try simp only [Act.put, List.setIfInBounds_toArray, List.set_cons_zero, List.set_cons_succ]
         refine AnyTill.take (i := 9) (v := ?_) (by simp only [List.getElem?_toArray, List.getElem?_cons_succ, List.getElem?_cons_zero]; rfl) (by kernel_rfl) (by kernel_rfl) (by kernel_rfl) (by kernel_rfl) (fun _ _ _ h => h) (Or.inl ⟨by rfl, ?_⟩) sce ?_
         rotate_left
         · intro w' hw'; (try dsimp only at hw'); go_simp <;> with_reducible rfl
         try simp only [Act.put, List.setIfInBounds_toArray, List.set_cons_zero, List.set_cons_succ]
         refine AnyTill.take (i := 10) (v := ?_) (by simp only [List.getElem?_toArray, List.getElem?_cons_succ, List.getElem?_cons_zero]; rfl) (by kernel_rfl) (by kernel_rfl) (by kernel_rfl) (by kernel_rfl) (fun _ _ _ h => h) (Or.inl ⟨by rfl, ?_⟩) sce ?_
         rotate_left
         · intro w' hw'; (try dsimp only at hw'); go_simp <;> with_reducible rfl
         try simp only [Act.put, List.setIfInBounds_toArray, List.set_cons_zero, List.set_cons_succ]
         refine AnyTill.take (i := 11) (v := ?_) (by simp only [List.getElem?_toArray, List.getElem?_cons_succ, List.getElem?_cons_zero]; rfl) (by kernel_rfl) (by kernel_rfl) (by kernel_rfl) (by kernel_rfl) (fun _ _ _ h => h) (Or.inl ⟨by rfl, ?_⟩) sce ?_
         rotate_left
         · intro w' hw'; (try dsimp only at hw'); go_simp <;> with_reducible rfl
         try simp only [Act.put, List.setIfInBounds_toArray, List.set_cons_zero, List.set_cons_succ]
         refine AnyTill.take (i := 12) (v := ?_) (by simp only [List.getElem?_toArray, List.getElem?_cons_succ, List.getElem?_cons_zero]; rfl) (by kernel_rfl) (by kernel_rfl) (by kernel_rfl) (by kernel_rfl) (fun _ _ _ h => h) (Or.inl ⟨by rfl, ?_⟩) sce ?_
         rotate_left
         · intro w' hw'; (try dsimp only at hw'); go_simp <;> with_reducible rfl
         try simp only [Act.put, List.setIfInBounds_toArray, List.set_cons_zero, List.set_cons_succ]
         refine AnyTill.take (i := 13) (v := ?_) (by simp only [List.getElem?_toArray, List.getElem?_cons_succ, List.getElem?_cons_zero]; rfl) (by kernel_rfl) (by kernel_rfl) (by kernel_rfl) (by kernel_rfl) (fun _ _ _ h => h) (Or.inl ⟨by rfl, ?_⟩) sce ?_
         rotate_left
         · intro w' hw'; (try dsimp only at hw'); go_simp <;> with_reducible rfl
         try simp only [Act.put, List.setIfInBounds_toArray, List.set_cons_zero, List.set_cons_succ]
         refine AnyTill.take (i := 14) (v := ?_) (by simp only [List.getElem?_toArray, List.getElem?_cons_succ, List.getElem?_cons_zero]; rfl) (by kernel_rfl) (by kernel_rfl) (by kernel_rfl) (by kernel_rfl) (fun _ _ _ h => h) (Or.inl ⟨by rfl, ?_⟩) sce ?_
         rotate_left
         · intro w' hw'; (try dsimp only at hw'); go_simp <;> with_reducible rfl
         try simp only [Act.put, List.setIfInBounds_toArray, List.set_cons_zero, List.set_cons_succ]
         refine AnyTill.takeC (i := 15) (v := .int .i64 p) (by simp only [List.getElem?_toArray, List.getElem?_cons_succ, List.getElem?_cons_zero]; rfl) (by kernel_rfl) (by kernel_rfl) (by kernel_rfl) (by kernel_rfl) (fun _ _ _ h => h) ⟨by rfl, 70, #[.int .i64 a, .int .i64 x], fun w' hw' => ?_, fun w' hw' => rpart_v a x w' (by omega) (by omega) _ HP.out⟩ sce ?_
         · (try dsimp only at hw'); go_simp <;> with_reducible rfl
         try simp only [Act.put, List.setIfInBounds_toArray, List.set_cons_zero, List.set_cons_succ]
         refine AnyTill.take (i := 16) (v := ?_) (by simp only [List.getElem?_toArray, List.getElem?_cons_succ, List.getElem?_cons_zero]; rfl) (by kernel_rfl) (by kernel_rfl) (by kernel_rfl) (by kernel_rfl) (fun _ _ _ h => h) (Or.inl ⟨by rfl, ?_⟩) sce ?_
         rotate_left
         · intro w' hw'; (try dsimp only at hw'); go_simp <;> with_reducible rfl
         try simp only [Act.put, List.setIfInBounds_toArray, List.set_cons_zero, List.set_cons_succ]
         refine AnyTill.take (i := 17) (v := ?_) (by simp only [List.getElem?_toArray, List.getElem?_cons_succ, List.getElem?_cons_zero]; rfl) (by kernel_rfl) (by kernel_rfl) (by kernel_rfl) (by kernel_rfl) (fun _ _ _ h => h) (Or.inl ⟨by rfl, ?_⟩) sce ?_
         rotate_left
         · intro w' hw'; (try dsimp only at hw'); go_simp <;> with_reducible rfl
         try simp only [Act.put, List.setIfInBounds_toArray, List.set_cons_zero, List.set_cons_succ]
         refine AnyTill.take (i := 18) (v := ?_) (by simp only [List.getElem?_toArray, List.getElem?_cons_succ, List.getElem?_cons_zero]; rfl) (by kernel_rfl) (by kernel_rfl) (by kernel_rfl) (by kernel_rfl) (fun _ _ _ h => h) (Or.inl ⟨by rfl, ?_⟩) sce ?_
         rotate_left
         · intro w' hw'; (try dsimp only at hw'); go_simp <;> with_reducible rfl
         try simp only [Act.put, List.setIfInBounds_toArray, List.set_cons_zero, List.set_cons_succ]
         refine' AnyTill.one (i := 19) (o := _) (by kernel_rfl) ?ho19setM (fun K' hK => ?hh19setM)
         case ho19setM => (simp only [List.getElem?_toArray, List.getElem?_cons_succ, List.getElem?_cons_zero]; rfl)
         go_simp
         refine hK.out _ _ (.inl rfl) ?_
         clear hK K'
         try simp only [Act.put, List.setIfInBounds_toArray, List.set_cons_zero, List.set_cons_succ]
         refine AnyTill.done (by kernel_rfl) ?_ _
         refine NoPanic.normal ?_
         have TD := Lib.hid ((TB.out.setM (T + (p' - p))).below (below_drew _))
         have KD := Lib.hid ((KB.out.setCell (p := ⟨b1, 0, none⟩) (by rw [HB1.out]; exact Nat.le_refl _) (.int .i64 (T + (p' - p)))).drew)
         clear M0 M1 F0 sce e2 e4 f0 f1 TB KB
         go_wp2
         go_roundg (k1 - (k + 1))
         case measure => have := HGK.out; omega
         case rel => exact ⟨k + 1, by omega, rfl, by go_num, by rw [EM.out, ER.out]; exact TD.out, KD.out⟩
       · obtain rfl : k = L := by omega
         obtain ⟨rfl, rfl, rfl⟩ : m = 0 ∧ r = 0 ∧ e = 1 := by rcases HR.out with ⟨_, h⟩ | ⟨h, _⟩; exact h; omega
         have hb0 := H2.out hlt
         have r0 := TC.out.res.cell 0 _ rfl
         have r1 := TC.out.res.cell 1 _ rfl
         have h0 := TC.out.res.frz 0
         have h1 := TC.out.res.frz 1
         have lt0 := TC.out.res.lt
         have TF := Lib.hid (((TC.out.res.set 0 (.int .i64 0) (by simp)).set 1 (.int .i64 0) (by simp)).below ((Below.refl _ _).alloc (Nat.le_refl _) (.cells #[.int .i64 wc, .int .i64 wy, .int .i64 a, .int .i64 wm, .int .i64 a'] 126)))
         have KF : Hid (Below w.heap.size w (((wr.setCell ⟨w.heap.size, 0, none⟩ (.int .i64 0)).setCell ⟨w.heap.size, 1, none⟩ (.int .i64 0)).alloc (.cells #[.int .i64 wc, .int .i64 wy, .int .i64 a, .int .i64 wm, .int .i64 a'] 126))) := Lib.hid (by
           have z := (TC.out.low.setCell (p := ⟨w.heap.size, 0, none⟩) (Nat.le_refl _) (.int .i64 0)).setCell (p := ⟨w.heap.size, 1, none⟩) (Nat.le_refl _) (.int .i64 0)
           exact z.alloc z.size _)
         clear hkL HR
         rcases (show ¬ (0 ≤ y ∧ y ≤ 1000000) ∨ ((0 ≤ y ∧ y ≤ 1000000) ∧ ¬ (0 ≤ x ∧ x ≤ 1000000)) ∨ ((0 ≤ y ∧ y ≤ 1000000) ∧ (0 ≤ x ∧ x ≤ 1000000) ∧ ¬ Mon a) ∨ ((0 ≤ y ∧ y ≤ 1000000) ∧ (0 ≤ x ∧ x ≤ 1000000) ∧ Mon a ∧ ¬ Mon a') by
             unfold WayOk RtOk at hb0
             rw [ha, ha', hy, hx] at hb0
             by_cases q1 : 0 ≤ y ∧ y ≤ 1000000
             · by_cases q2 : 0 ≤ x ∧ x ≤ 1000000
               · by_cases q3 : Mon a
                 · exact .inr (.inr (.inr ⟨q1, q2, q3, fun q4 => hb0 ⟨⟨q1, q2⟩, q3, q4⟩⟩))
                 · exact .inr (.inr (.inl ⟨q1, q2, q3⟩))
               · exact .inr (.inl ⟨q1, q2⟩)
             · exact .inl q1) with q1 | ⟨q1, q2⟩ | ⟨q1, q2, q3⟩ | ⟨q1, q2, q3, q4⟩
         · have Q1 := Lib.hid q1
           clear hb0 q1 ha ha' hy hx
           go_wp2_with (first | (go_at_call 59; (with_reducible refine (rright_no _ _ Q1.out).mono ?_); rintro e w' ⟨rfl, rfl⟩))
           exact bodyPost_ret (results_ct rfl _ _ w.heap.size _ rfl (load_ch TF.out)) rfl ⟨rfl, KF.out⟩
         · have Q1 := Lib.hid q1
           have Q2 := Lib.hid q2
           clear hb0 q1 q2 ha ha' hy hx
           go_wp2_with (first | (go_at_call 59; (with_reducible refine (rright_yes _ _ Q1.out).mono ?_); rintro e w' ⟨rfl, rfl⟩) | (go_at_call 59; (with_reducible refine (rright_no _ _ Q2.out).mono ?_); rintro e w' ⟨rfl, rfl⟩))
           exact bodyPost_ret (results_ct rfl _ _ w.heap.size _ rfl (load_ch TF.out)) rfl ⟨rfl, KF.out⟩
         · have Q1 := Lib.hid q1
           have Q2 := Lib.hid q2
           have Q3 := Lib.hid q3
           clear hb0 q1 q2 q3 ha ha' hy hx
           go_wp2_with (first | (go_at_call 59; (with_reducible refine (rright_yes _ _ Q1.out).mono ?_); rintro e w' ⟨rfl, rfl⟩) | (go_at_call 59; (with_reducible refine (rright_yes _ _ Q2.out).mono ?_); rintro e w' ⟨rfl, rfl⟩) | (go_at_call 50; (with_reducible refine (rmoney_no _ _ Q3.out).mono ?_); rintro e w' ⟨rfl, rfl⟩))
           exact bodyPost_ret (results_ct rfl _ _ w.heap.size _ rfl (load_ch TF.out)) rfl ⟨rfl, KF.out⟩
         · have Q1 := Lib.hid q1
           have Q2 := Lib.hid q2
           have Q3 := Lib.hid q3
           have Q4 := Lib.hid q4
           clear hb0 q1 q2 q3 q4 ha ha' hy hx
           go_wp2_with (first | (go_at_call 59; (with_reducible refine (rright_yes _ _ Q1.out).mono ?_); rintro e w' ⟨rfl, rfl⟩) | (go_at_call 59; (with_reducible refine (rright_yes _ _ Q2.out).mono ?_); rintro e w' ⟨rfl, rfl⟩) | (go_at_call 50; (with_reducible refine (rmoney_yes _ _ Q3.out).mono ?_); rintro e w' ⟨rfl, rfl⟩) | (go_at_call 50; (with_reducible refine (rmoney_no _ _ Q4.out).mono ?_); rintro e w' ⟨rfl, rfl⟩))
           exact bodyPost_ret (results_ct rfl _ _ w.heap.size _ rfl (load_ch TF.out)) rfl ⟨rfl, KF.out⟩
     · obtain rfl : k = k1 := by omega
       obtain rfl : L = k := by omega
       have r0 := TC.out.res.cell 0 _ rfl
       have r1 := TC.out.res.cell 1 _ rfl
       have h0 := TC.out.res.frz 0
       have h1 := TC.out.res.frz 1
       have m0 := TC.out.mkg.cell 0 _ rfl
       have m1 := TC.out.mkg.cell 1 _ rfl
       have TF := Lib.hid fun (x y : Int) => (TC.out.res.set 0 (.int .i64 x) (by simp)).set 1 (.int .i64 y) (by simp)
       have KF := Lib.hid fun (x y : Int) => (TC.out.low.setCell (p := ⟨w.heap.size, 0, none⟩) (Nat.le_refl _) (.int .i64 x)).setCell (p := ⟨w.heap.size, 1, none⟩) (Nat.le_refl _) (.int .i64 y)
       have ne1 := TC.out.ne
       have ne2 := ne1.symm
       rcases HR.out with ⟨h, _⟩ | ⟨_, ⟨hz, rfl, rfl, rfl⟩ | ⟨⟨hz1, hz2⟩, hm, hr, rfl⟩⟩
       · omega
       · rw [HT.out, HX.out] at hz
         rcases (show ¬ Mon T ∨ (Mon T ∧ ¬ Mon X) by
           by_cases q : Mon T
           · exact .inr ⟨q, fun q2 => hz ⟨q, q2⟩⟩
           · exact .inl q) with q1 | ⟨q1, q2⟩
         · have Q1 := Lib.hid q1
           clear hz q1 hlt HR
           go_wp2_with (first | (go_at_call 50; (with_reducible refine (rmoney_no _ _ Q1.out).mono ?_); rintro e w' ⟨rfl, rfl⟩))
           exact bodyPost_ret (results_ct rfl _ _ w.heap.size _ rfl (load_ch (TF.out 0 0))) rfl ⟨rfl, KF.out 0 0⟩
         · have Q1 := Lib.hid q1
           have Q2 := Lib.hid q2
           clear hz q1 q2 hlt HR
           go_wp2_with (first | (go_at_call 50; (with_reducible refine (rmoney_yes _ _ Q1.out).mono ?_); rintro e w' ⟨rfl, rfl⟩) | (go_at_call 50; (with_reducible refine (rmoney_no _ _ Q2.out).mono ?_); rintro e w' ⟨rfl, rfl⟩))
           exact bodyPost_ret (results_ct rfl _ _ w.heap.size _ rfl (load_ch (TF.out 0 0))) rfl ⟨rfl, KF.out 0 0⟩
       · rw [HT.out] at hz1 hm
         rw [HX.out] at hz2 hr
         subst hm hr
         have Q1 := Lib.hid hz1
         have Q2 := Lib.hid hz2
         clear hz1 hz2 hlt HR
         go_wp2_with (first | (go_at_call 50; (with_reducible refine (rmoney_yes _ _ Q1.out).mono ?_); rintro e w' ⟨rfl, rfl⟩) | (go_at_call 50; (with_reducible refine (rmoney_yes _ _ Q2.out).mono ?_); rintro e w' ⟨rfl, rfl⟩))
         exact bodyPost_ret (results_ct rfl _ _ w.heap.size _ rfl (load_ch (TF.out _ _))) rfl ⟨rfl, KF.out _ _⟩
 · obtain ⟨rfl, rfl, rfl⟩ : m = 0 ∧ r = 0 ∧ e = 1 := by
     rcases HH.out with ⟨_, h⟩ | ⟨h, _⟩ | ⟨h, _⟩
     · exact h
     · exact absurd ⟨h.1, h.2.1⟩ hk
     · exact absurd ⟨h.1, h.2.1⟩ hk
   have r0 := R1.out.cell 0 _ rfl
   have r1 := R1.out.cell 1 _ rfl
   have h0 := R1.out.frz 0
   have h1 := R1.out.frz 1
   have TF := Lib.hid ((R1.out.set 0 (.int .i64 0) (by simp)).set 1 (.int .i64 0) (by simp))
   have KF := Lib.hid ((L1.out.setCell (p := ⟨w.heap.size, 0, none⟩) (Nat.le_refl _) (.int .i64 0)).setCell (p := ⟨w.heap.size, 1, none⟩) (Nat.le_refl _) (.int .i64 0))
   clear HH
   rcases (show ((k0 : Int) != (q' : Int)) = true ∨ (((k0 : Int) != (q' : Int)) = false ∧ ((k1 : Int) != (q' : Int)) = true) by
     by_cases q : k0 = q'
     · exact .inr ⟨by simp [q], by simp; omega⟩
     · exact .inl (by simp; omega)) with q1 | ⟨q1, q2⟩
   all_goals
     clear hk
     go_wp2
     exact bodyPost_ret (results_ct rfl _ _ w.heap.size _ rfl (load_ch TF.out)) rfl ⟨rfl, KF.out⟩
end Go.Proofs.YtmlafdehhbhbiaaGreat
