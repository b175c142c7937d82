/- Package roll: the way from opening to closing; what moved: a contract for each. -/
import Derived.Test.YtolmdoigcaaieaaRoll
namespace Go.Proofs.Ytolmdoigcaaieaa
open Go.RowKit

theorem wyrow_info : (Try.prog.info? 59).map (fun i => (i.zero, i.size, i.bytes)) = some (some (.agg #[.int .i64 0, .int .i64 0, .int .i64 0, .int .i64 0, .int .i64 0]), 5, 40) := by kernel_rfl
theorem wyrow_type : Try.prog.underlying 56 = some (.slice 59) := Try.underlying56
/-- a bucket in a block, and its row in the next one -/
structure NR (X : Nat) (c y a o m k : Int) (w : World) : Prop where
  lt : X + 1 < w.heap.size
  nx : ∀ j u, (be ⟨c, y, a⟩)[j]? = some u → w.cell? ⟨X, j, none⟩ = some u
  rw : ∀ j u, (we ⟨c, y, o, m, k⟩)[j]? = some u → w.cell? ⟨X + 1, j, none⟩ = some u
  fz : ∀ j, w.frozen? ⟨X + 1, j, none⟩ = false
section
variable {X : Nat} {c y a o m k : Int} {w w1 : World}
theorem NR.keep (h : NR X c y a o m k w) (b : Below w.heap.size w w1) : NR X c y a o m k w1 :=
  ⟨Nat.lt_of_lt_of_le h.lt b.size, fun j u hu => cell_keep (h.nx j u hu) b, fun j u hu => cell_keep (h.rw j u hu) b, fun j => frz_keep (h.fz j) h.lt b⟩
theorem NR.r5 (h : NR X c y a o m k w) : w.cell? ⟨X + 1, 0, none⟩ = some (.int .i64 c) ∧ w.cell? ⟨X + 1, 1, none⟩ = some (.int .i64 y) ∧ w.cell? ⟨X + 1, 2, none⟩ = some (.int .i64 o) ∧ w.cell? ⟨X + 1, 3, none⟩ = some (.int .i64 m) ∧ w.cell? ⟨X + 1, 4, none⟩ = some (.int .i64 k) :=
  ⟨h.rw 0 _ rfl, h.rw 1 _ rfl, h.rw 2 _ rfl, h.rw 3 _ rfl, h.rw 4 _ rfl⟩
theorem NR.b3 (h : NR X c y a o m k w) : w.cell? ⟨X, 0, none⟩ = some (.int .i64 c) ∧ w.cell? ⟨X, 1, none⟩ = some (.int .i64 y) ∧ w.cell? ⟨X, 2, none⟩ = some (.int .i64 a) :=
  ⟨h.nx 0 _ rfl, h.nx 1 _ rfl, h.nx 2 _ rfl⟩
/-- a number of the row is stored -/
theorem NR.put (h : NR X c y a o m k w) (i : Nat) (v o' m' k' : Int) (he : ∀ j, j ≠ i → (we ⟨c, y, o', m', k'⟩)[j]? = (we ⟨c, y, o, m, k⟩)[j]?) (hi : (we ⟨c, y, o', m', k'⟩)[i]? = some (.int .i64 v)) : NR X c y a o' m' k' (w.setCell ⟨X + 1, i, none⟩ (.int .i64 v)) := by
  have hex : ∃ u, (we ⟨c, y, o, m, k⟩)[i]? = some u := by
    have h5 : i < (we ⟨c, y, o', m', k'⟩).length := (List.getElem?_eq_some_iff.1 hi).1
    exact ⟨_, List.getElem?_eq_getElem (by rw [we_len] at *; exact h5)⟩
  obtain ⟨u0, hu0⟩ := hex
  refine ⟨by rw [World.size_setCell]; exact h.lt, fun j u hu => ?_, fun j u hu => ?_, fun j => by rw [World.frozen?_setCell]; exact h.fz j⟩
  · rw [World.cell?_setCell_far _ _ _ _ (by show X + 1 ≠ X; omega)]; exact h.nx j u hu
  · by_cases e : j = i
    · subst e
      rw [hi] at hu
      rw [World.cell?_setCell_same _ _ _ (h.rw j u0 hu0)]; exact hu
    · rw [World.cell?_setCell_other _ _ _ _ (by intro e2; injection e2 with _ e2 _; exact e e2.symm)]
      exact h.rw j u (by rw [← he j e]; exact hu)
end
set_option maxHeartbeats 8000000 in
set_option maxRecDepth 100000 in
/-- the way from opening to closing -/
theorem pfwd_w {w : World} {A A' : Option Addr} {n c n' c' : Nat} {g g' : Nat → Bk} {S S' : Int → Int → Int} (h : AtR be 3 w A n g) (h' : AtR be 3 w A' n' g') (iv : BIs S n g) (iv' : BIs S' n' g') (hn : n ≤ 1000) (hn' : n' ≤ 1000) (hc : n ≤ c ∧ c ≤ maxLen) (hc' : n' ≤ c' ∧ c' ≤ maxLen) :
    Calls Try.prog 18 #[.slice A n c, .slice A' n' c'] w fun e w' => ∃ A2 q c2 f, e = .returned (.slice A2 q c2) ∧ OwnR we 5 w' 59 w.heap.size (.slice A2 q c2) q f ∧ FIw S S' q f ∧ Below w.heap.size w w' := by
  obtain ⟨i0, hi, hz0, hz1, hz2⟩ := info_parts wyrow_info
  have HA := Lib.hid h
  have HA' := Lib.hid h'
  have IV := Lib.hid iv
  have IV' := Lib.hid iv'
  have HC := Lib.hid hc
  have HC' := Lib.hid hc'
  have HN := Lib.hid hn
  have HN' := Lib.hid hn'
  clear h h' iv iv' hc hc' hn hn'
  go_enter Try.func18, Try.ntmps18
  go_wp2
  go_loopg [0, 1, 5] (n + n') (fun gh s0 s1 s5 wr => ∃ (k k' q : Nat) (f : Nat → Wy) (cc cy : Int) (A1 A1' : Option Addr) (c1 c1' : Nat), gh = n - k + (n' - k') ∧ s0 = .slice A1 (n - k : Nat) c1 ∧ s1 = .slice A1' (n' - k' : Nat) c1' ∧ Sub A n g A1 (n - k) (fun j => g (k + j)) ∧ Sub A' n' g' A1' (n' - k') (fun j => g' (k' + j)) ∧ (n - k ≤ c1 ∧ c1 ≤ maxLen) ∧ (n' - k' ≤ c1' ∧ c1' ≤ maxLen) ∧ Mg n g k cc cy ∧ Mg n' g' k' cc cy ∧ OwnR we 5 wr 59 w.heap.size s5 q f ∧ FUp S S' cc cy q f ∧ q ≤ k + k' ∧ Below w.heap.size w wr)
  case atStart => exact ⟨0, 0, 0, fun _ => ⟨0, 0, 0, 0, 0⟩, 1, 0, A, A', c, c', rfl, rfl, rfl, fun W q => by simpa only [Nat.zero_add, Nat.sub_zero] using q, fun W q => by simpa only [Nat.zero_add, Nat.sub_zero] using q, HC.out, HC'.out, Mg.start IV.out.1, Mg.start IV'.out.1, OwnR.nil _ _ _ _ _ _, FUp.start IV.out IV'.out _, by omega, Below.refl _ _⟩
  case round =>
    obtain ⟨k, k', q, f, cc, cy, A1, A1', c1, c1', hgk, rfl, rfl, hs, hs', hb1, hb1', hm, hm', ho, hu, hq, hb⟩ := hrel
    have HS := Lib.hid hs
    have HS' := Lib.hid hs'
    have ha := hs _ (HA.out.below hb)
    have ha' := hs' _ (HA'.out.below hb)
    clear hs hs'
    have HGK := Lib.hid hgk
    have HB := Lib.hid hb
    have HM := Lib.hid hm
    have HM' := Lib.hid hm'
    have HO := Lib.hid ho
    have HU := Lib.hid hu
    have HQ := Lib.hid hq
    obtain ⟨m, hmm⟩ : ∃ m, m = n - k := ⟨_, rfl⟩
    obtain ⟨m', hmm'⟩ : ∃ m', m' = n' - k' := ⟨_, rfl⟩
    rw [← hmm] at ha hb1
    rw [← hmm'] at ha' hb1'
    have HMM := Lib.hid hmm
    have HMM' := Lib.hid hmm'
    rw [← hmm, ← hmm']
    by_cases h0 : m = 0 ∧ m' = 0
    · obtain ⟨rfl, rfl⟩ := h0
      have HF : Hid (FIw S S' q f) := Lib.hid (by
        have e1 : k = n := by have := HM.out.le; omega
        have e2 : k' = n' := by have := HM'.out.le; omega
        subst e1 e2
        exact HU.out.fin IV.out IV'.out HM.out HM'.out)
      obtain ⟨A2, c2, rfl, _⟩ := ho.form
      clear hgk hb hm hm' ho hu hq hmm hmm' ha ha' hb1 hb1'
      go_wp2
      go_ret
      exact ⟨_, _, _, _, rfl, HO.out, HF.out, HB.out⟩
    · have C1 := Lib.hid fun W (kb : Below wr.heap.size wr W) => pfirst11 (c := c1) (c' := c1') (ha.below kb) (ha'.below kb) (by omega)
      have HA1 := Lib.hid ha
      have HA1' := Lib.hid ha'
      have HB1 := Lib.hid hb1
      have HB1' := Lib.hid hb1'
      rcases (show (m = 0 ∧ decide (0 < m') = true) ∨ decide (0 < m) = true by
          by_cases e : m = 0
          · exact .inl ⟨e, by simpa using (show 0 < m' by omega)⟩
          · exact .inr (by simpa using (show 0 < m by omega))) with ⟨rfl, pm⟩ | pm
      all_goals
        clear h0 hgk hb hm hm' ho hu hq hmm hmm' ha ha' hb1 hb1'
        go_wp2_with fail
        refine (C1.out _ (Below.refl _ _)).mono ?_
        rintro e w2 ⟨x, rfl, hF, hb2⟩
        have HF := Lib.hid hF
        have HB2 := Lib.hid (HB.out.trans (hb2.mono HB.out.size))
        have HA2 := Lib.hid (HA1.out.below hb2)
        have HA2' := Lib.hid (HA1'.out.below hb2)
        have HO2 := Lib.hid (HO.out.below hb2)
        obtain ⟨xc, xy, xa⟩ := x
        clear hF hb2 C1 HA1 HA1' HO pm
        go_wp2_with fail
        obtain ⟨w3, hw3⟩ : ∃ w3, w3 = (w2.alloc (.cells #[.int .i64 xc, .int .i64 xy, .int .i64 xa] 26)).alloc (.cells #[.int .i64 xc, .int .i64 xy, .int .i64 0, .int .i64 0, .int .i64 0] 59) := ⟨_, rfl⟩
        rw [← hw3]
        have HK3 : Hid (Below w2.heap.size w2 w3) := Lib.hid (by rw [hw3]; exact ((Below.refl _ _).alloc (Nat.le_refl _) _).alloc (by simp) _)
        have FX : Hid (NR w2.heap.size xc xy xa 0 0 0 w3) := Lib.hid (by
          rw [hw3]
          exact ⟨by simp, fun j u hu => cell_keep (rec_lit w2 (be ⟨xc, xy, xa⟩) 26 w2.heap.size rfl j u hu) ((Below.refl _ _).alloc (Nat.le_refl _) _),
            fun j u hu => rec_lit (w2.alloc (.cells #[.int .i64 xc, .int .i64 xy, .int .i64 xa] 26)) (we ⟨xc, xy, 0, 0, 0⟩) 59 (w2.heap.size + 1) (by simp) j u hu,
            fun j => (by have := frz_lit (w2.alloc (.cells #[.int .i64 xc, .int .i64 xy, .int .i64 xa] 26)) (we ⟨xc, xy, 0, 0, 0⟩) 59 j; simp only [World.size_alloc] at this; exact this)⟩)
        have C2 := Lib.hid (ptake11 (HA2.out.below HK3.out) HB1.out ⟨xc, xy, xa⟩)
        clear hw3
        refine (C2.out).mono ?_
        rintro e w4 ⟨a, m1, o1, A2, c2, rfl, hT, hat, hcap, hb4⟩
        have HT := Lib.hid hT
        have TS := Lib.hid hat
        have HCAP := Lib.hid hcap
        have HK4 : Hid (Below w2.heap.size w2 w4) := Lib.hid (HK3.out.trans (hb4.mono HK3.out.size))
        have FX4 := Lib.hid (FX.out.keep hb4)
        obtain ⟨g0, g1, g2, g3, g4⟩ := FX4.out.r5
        have g5 := FX4.out.fz 2
        obtain ⟨y0, y1, y2⟩ := FX4.out.b3
        clear hT hat hcap hb4 C2 FX HK3 HA2
        go_wp2_with fail
        obtain ⟨w5, hw5⟩ : ∃ w5, w5 = w4.setCell ⟨w2.heap.size + 1, 2, none⟩ (.int .i64 a) := ⟨_, rfl⟩
        rw [← hw5]
        have HK5 : Hid (Below w2.heap.size w2 w5) := Lib.hid (by rw [hw5]; exact HK4.out.setCell (by simp) _)
        have FX5 : Hid (NR w2.heap.size xc xy xa a 0 0 w5) := Lib.hid (by
          rw [hw5]
          exact FX4.out.put 2 a a 0 0 (fun j hj => by rcases j with _ | _ | _ | j <;> first | rfl | (exact absurd rfl hj)) rfl)
        have C3 := Lib.hid (ptake11 (HA2'.out.below HK5.out) HB1'.out ⟨xc, xy, xa⟩)
        clear hw5 g0 g1 g2 g3 g4 g5 y0 y1 y2 FX4 HK4
        refine (C3.out).mono ?_
        rintro e w6 ⟨a', m1', o1', A2', c2', rfl, hT, hat, hcap, hb6⟩
        have HT' := Lib.hid hT
        have TS' := Lib.hid hat
        have HCAP' := Lib.hid hcap
        have HK6 : Hid (Below w2.heap.size w2 w6) := Lib.hid (HK5.out.trans (hb6.mono HK5.out.size))
        have RD := Lib.hid (HU.out.round IV.out IV'.out HM.out HM'.out (by rw [← HMM.out, ← HMM'.out]; exact HF.out) (by rw [← HMM.out]; exact HT.out) (by rw [← HMM'.out]; exact HT'.out))
        obtain ⟨D, hw⟩ : ∃ D, IntKind.i64.wrap (a' - a) = D := ⟨_, rfl⟩
        rw [hw] at RD
        have FX6 := Lib.hid (FX5.out.keep hb6)
        have FX7 := Lib.hid (FX6.out.put 4 a' a 0 a' (fun j hj => by rcases j with _ | _ | _ | _ | _ | j <;> first | rfl | (exact absurd rfl hj)) rfl)
        have FX8 := Lib.hid (FX7.out.put 3 D a D a' (fun j hj => by rcases j with _ | _ | _ | _ | j <;> first | rfl | (exact absurd rfl hj)) rfl)
        obtain ⟨g0, g1, g2, g3, g4⟩ := FX6.out.r5
        have g5 := FX6.out.fz 4
        have g6 := FX6.out.fz 3
        obtain ⟨w8, hw8⟩ : ∃ w8, w8 = (w6.setCell ⟨w2.heap.size + 1, 4, none⟩ (.int .i64 a')).setCell ⟨w2.heap.size + 1, 3, none⟩ (.int .i64 D) := ⟨_, rfl⟩
        have HK8 : Hid (Below w2.heap.size w2 w8) := Lib.hid (by rw [hw8]; exact (HK6.out.setCell (by simp) _).setCell (by simp) _)
        have HS8 : Hid (w8.heap.size = w6.heap.size) := Lib.hid (by rw [hw8]; simp)
        have HO8 := Lib.hid ((HO2.out.below HK8.out).alloc (.cells (we ⟨xc, xy, a, D, a'⟩).toArray 59))
        have HB8 := Lib.hid (HB2.out.trans (HK8.out.mono HB2.out.size))
        have HC8 := Lib.hid (rec_lit w8 (we ⟨xc, xy, a, D, a'⟩) 59 w6.heap.size HS8.out)
        have HQN : Hid (q ≤ 1000000) := Lib.hid (by have := HQ.out; have := HM.out.le; have := HM'.out.le; have := HN.out; have := HN'.out; omega)
        clear hT hat hcap hb6 C3 FX5 HK5 HA2' HF
        go_wp2_with (at_builtin; rw [← hw8]; (refine wpList_push_r rfl (.tmp 44) (.tmp 46) rfl wyrow_type hi hz0 hz1 hz2 (by decide) rfl (by decide) we_len we_one w w.heap.size q w6.heap.size _ f ⟨xc, xy, a, D, a'⟩ rfl rfl HC8.out HO8.out HQN.out (HB8.out.alloc HB8.out.size _) (by have := HB8.out.size; simp; omega) _ rfl ?_; intro b9 c9 w9 ho9 hb9 hg9 hat9; have HO9 := Lib.hid ho9; have HB9 := Lib.hid hb9; have HK9 := Lib.hid hg9; clear ho9 hb9 hg9 hat9))
        go_roundg (m1 + m1')
        case measure => have := RD.out.2.2.2.2.2.2.2; have := HGK.out; omega
        case rel =>
          obtain ⟨r1, r2, r3, r4, r5, _, _, r8⟩ := RD.out
          refine ⟨k + o1, k' + o1', q + 1, _, xc, xy + 1, A2, A2', c2, c2', by omega, by rw [r3], by rw [r4], ?_, ?_, by rw [r3]; exact HCAP.out, by rw [r4]; exact HCAP'.out, r1, r2, HO9.out, r5, ?_, HB9.out⟩
          · intro W hW
            have := TS.out W (by have z := HS.out W hW; rw [← HMM.out] at z; exact z)
            rw [r3]
            simpa only [Nat.add_assoc] using this
          · intro W hW
            have := TS'.out W (by have z := HS'.out W hW; rw [← HMM'.out] at z; exact z)
            rw [r4]
            simpa only [Nat.add_assoc] using this
          · have h1 := HQ.out
            by_cases e : o1 = 0 ∧ o1' = 0
            · exfalso
              rw [e.1, Nat.add_zero] at r3
              rw [e.2, Nat.add_zero] at r4
              omega
            · omega
/-- .. of registers -/
theorem pfwd {w : World} {A A' : Option Addr} {n c n' c' : Nat} {g g' : Nat → Bk} {S S' : Int → Int → Int} (h : AtR be 3 w A n g) (h' : AtR be 3 w A' n' g') (iv : BInv S n g) (iv' : BInv S' n' g') (hc : n ≤ c ∧ c ≤ maxLen) (hc' : n' ≤ c' ∧ c' ≤ maxLen) :
    Calls Try.prog 18 #[.slice A n c, .slice A' n' c'] w fun e w' => ∃ A2 q c2 f, e = .returned (.slice A2 q c2) ∧ OwnR we 5 w' 59 w.heap.size (.slice A2 q c2) q f ∧ FIs S S' q f ∧ Below w.heap.size w w' := by
  refine (pfwd_w h h' iv.is iv'.is (by have := iv.le; omega) (by have := iv'.le; omega) hc hc').mono ?_
  rintro e w' ⟨A2, q, c2, f, rfl, ho, hf, hb⟩
  exact ⟨A2, q, c2, f, rfl, ho, hf.fis iv.mon iv'.mon, hb⟩
end Go.Proofs.Ytolmdoigcaaieaa
