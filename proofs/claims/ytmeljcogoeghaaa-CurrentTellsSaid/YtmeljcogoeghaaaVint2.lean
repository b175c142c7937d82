/- Package vintage: Add, as the laws meet it: a contract. -/
import Derived.Test.YtmeljcogoeghaaaVint
import Derived.WalkKit
import Derived.WalkSpells
import Derived.WalkLawsBesides
import Derived.Lib.Hide
import Derived.IntWalk
namespace Go.Proofs.Ytmeljcogoeghaaa
open Go.RowKit

section
variable {w0 w w1 : World} {O O1 : Nat → Nat} {base t t' sb n m p : Nat} {v v' : Value} {g h : Nat → Bk} {S : Int → Int → Int} {c y a e : Int}
theorem vsum_yes {T a : Int} (h1 : 0 ≤ T) (h2 : 1 ≤ a) (h3 : T + a ≤ 100000000000) : SumIs (fun j => [T, a].getD j 0) 2 (T + a) true := by
  have e : tot (fun j => [T, a].getD j 0) 2 = T + a := by simp [tot]
  refine .inl ⟨rfl, e.symm, by rw [e]; unfold Mon; omega, fun j hj => ?_⟩
  rcases (show j = 0 ∨ j = 1 by omega) with rfl | rfl
  · show Mon T; unfold Mon; omega
  · show Mon a; unfold Mon; omega
theorem vsum_no {T a : Int} (h3 : 100000000000 < T + a) : SumIs (fun j => [T, a].getD j 0) 2 0 false := by
  have e : tot (fun j => [T, a].getD j 0) 2 = T + a := by simp [tot]
  exact .inr ⟨rfl, rfl, .inr (by rw [e]; unfold Mon; omega)⟩
/-- the place was found, or not -/
theorem vat_found (b : VIs S n g) (h : VAt n g ⟨c, y, 0⟩ p true) (h0 : S c y + a ≠ 0) : p < n ∧ (g p).a = S c y ∧ S c y ≠ 0 ∧ VIs (upS S c y (S c y + a)) n (repB g p ⟨(g p).c, (g p).y, S c y + a⟩) := by
  obtain ⟨h1, h2, h3⟩ := h.fd.1 rfl
  simp only at h2 h3
  subst h2 h3
  have hv := b.at h1
  exact ⟨h1, hv.symm, by rw [hv]; exact b.1.nz p h1, (vis_rep b h1 h0).1⟩
theorem vrep_ins (g : Nat → Bk) (p : Nat) (x z : Bk) : repB (insB g p x) p z = insB g p z := by
  funext j
  unfold repB insB
  by_cases q : j = p
  · rw [if_pos q, if_neg (by omega), if_pos q]
  · rw [if_neg q]
    by_cases r : j < p
    · rw [if_pos r, if_pos r]
    · rw [if_neg r, if_neg r, if_neg q, if_neg q]
theorem vat_new (b : VIs S n g) (hok : VOk c y) (h : VAt n g ⟨c, y, 0⟩ p false) (h0 : a ≠ 0) : p ≤ n ∧ S c y = 0 ∧ (insB g p ⟨c, y, 0⟩ p) = ⟨c, y, 0⟩ ∧ VIs (upS S c y (S c y + a)) (n + 1) (repB (insB g p ⟨c, y, 0⟩) p ⟨c, y, a⟩) := by
  have nf : ¬ (p < n ∧ (g p).c = c ∧ (g p).y = y) := fun q => by cases h.fd.2 q
  have h2 : ∀ j, p ≤ j → j < n → Bl c y (g j).c (g j).y := fun j h1 h2 => by
    rcases h.hi j h1 h2 with ⟨e1, e2⟩ | q
    · exfalso
      simp only at e1 e2
      rcases h.hi p (Nat.le_refl _) (by omega) with e | q
      · exact nf ⟨by omega, e⟩
      · simp only at q
        by_cases z : p = j
        · subst z; exact nf ⟨h2, e1, e2⟩
        · have := b.1.asc p j (by omega) h2
          rw [e1, e2] at this
          unfold Bl at *; omega
    · exact q
  obtain ⟨k1, _, k3⟩ := vis_ins b h.le hok h0 h.lo h2
  refine ⟨h.le, k3, by unfold insB; rw [if_neg (by omega), if_pos rfl], ?_⟩
  rw [vrep_ins, k3, Int.zero_add]; exact k1
set_option maxHeartbeats 4000000 in
set_option maxRecDepth 100000 in
theorem pvadd (h : NowV w0 w O t sb S) (ht : t ≠ 0) {m : Nat} {g' : Nat → Bk} (b : VIs S m g') (c y a e : Int) (he : AErr S m (btot g' m) c y a e) :
    Calls Try.prog 15 #[ptr sb, .int .i64 y, .int .i64 c, .int .i64 a] w fun e' w' => e' = .returned (.int .i64 e) ∧ ∃ O', NowV w0 w' O' t sb (adS e S c y a) ∧ Step w0.heap.size O t w O' w' := by
  obtain ⟨v, n, g, s, iv⟩ := h.st
  rw [← iv.is.total b, ← (iv.is.uniq b).1] at he
  have HH := Lib.hid h
  have HI := Lib.hid iv
  have HS := Lib.hid s
  have hn := iv.le
  have CT := Lib.hid (vleft s (by omega) fun j hj => iv.mon hj)
  have tl := iv.low
  obtain ⟨T, eT⟩ : ∃ T, btot g n = T := ⟨_, rfl⟩
  rw [eT] at he CT tl
  have HT := Lib.hid eT
  clear b h s iv eT
  cases he
  case arg ha =>
    have hres : Hid (∃ O', NowV w0 w O' t sb (adS 1 S c y a) ∧ Step w0.heap.size O t w O' w) := Lib.hid ⟨O, by unfold adS; rw [if_neg (by decide)]; exact HH.out, Step.refl HH.out.fin⟩
    by_cases h1 : VOk c y
    · have R1 := Lib.hid fun w => vright_yes c y w h1
      by_cases h2 : a < 1
      · clear ha h1
        go_enter Try.func15, Try.ntmps15
        go_wp2_with (first | (go_at_call 34; (with_reducible refine (R1.out _).mono ?_); rintro e w' ⟨rfl, rfl⟩))
        go_ret
        exact ⟨rfl, hres.out⟩
      · have R2 := Lib.hid fun w => vmny_no a w (fun z => ha ⟨h1, by omega, z.2⟩)
        have h2' : decide (a < 1) = false := by simpa using h2
        clear ha h1 h2
        go_enter Try.func15, Try.ntmps15
        go_wp2_with (first | (go_at_call 34; (with_reducible refine (R1.out _).mono ?_); rintro e w' ⟨rfl, rfl⟩) | (go_at_call 35; (with_reducible refine (R2.out _).mono ?_); rintro e w' ⟨rfl, rfl⟩))
        go_ret
        exact ⟨rfl, hres.out⟩
    · have R1 := Lib.hid fun w => vright_no c y w h1
      clear ha h1
      go_enter Try.func15, Try.ntmps15
      go_wp2_with (first | (go_at_call 34; (with_reducible refine (R1.out _).mono ?_); rintro e w' ⟨rfl, rfl⟩))
      go_ret
      exact ⟨rfl, hres.out⟩
  case over ha ho =>
    obtain ⟨h1, h2, h3⟩ := ha
    have R1 := Lib.hid fun w => vright_yes c y w h1
    have R2 := Lib.hid fun w => vmny_yes a w ⟨by omega, h3⟩
    have HSUM := Lib.hid (vsum_no (T := T) (a := a) ho)
    have h2' : decide (a < 1) = false := by simp; omega
    have L := Lib.hid fun w1 : World => lit_row w1 [T, a] 3
    clear ho h1 h2 h3
    go_enter Try.func15, Try.ntmps15
    go_wp2_with (first | (go_at_call 34; (with_reducible refine (R1.out _).mono ?_); rintro e w' ⟨rfl, rfl⟩) | (go_at_call 35; (with_reducible refine (R2.out _).mono ?_); rintro e w' ⟨rfl, rfl⟩) | (go_at_call 10; (refine (CT.out).mono ?_); rintro e w1 ⟨rfl, hb1⟩; have K1 := Lib.hid hb1; have C2 := Lib.hid (sum_some w1.heap.size 0 2 2 _ 0 false _ (L.out w1).1 (L.out w1).hid (by omega) (by omega) HSUM); clear hb1) | (go_at_call 36; (refine (C2.out).mono ?_); rintro e w2 ⟨rfl, hb2⟩; have K2 := Lib.hid ((K1.out.alloc K1.out.size _).trans (hb2.mono (by have := K1.out.size; simp; omega))); clear hb2))
    go_ret
    exact ⟨rfl, O, by unfold adS; rw [if_neg (by decide)]; exact HH.out.below K2.out, Step.of_below HH.out.fin K2.out⟩
  case limit ha ho h4 h5 =>
    obtain ⟨h1, h2, h3⟩ := ha
    have R1 := Lib.hid fun w => vright_yes c y w h1
    have R2 := Lib.hid fun w => vmny_yes a w ⟨by omega, h3⟩
    have HSUM := Lib.hid (vsum_yes (T := T) (a := a) tl h2 ho)
    have h2' : decide (a < 1) = false := by simp; omega
    have L := Lib.hid fun w1 : World => lit_row w1 [T, a] 3
    obtain rfl : n = 12 := by omega
    have H4 := Lib.hid h4
    clear ho h1 h2 h3 h4 h5 tl
    go_enter Try.func15, Try.ntmps15
    go_wp2_with (first | (go_at_call 34; (with_reducible refine (R1.out _).mono ?_); rintro e w' ⟨rfl, rfl⟩) | (go_at_call 35; (with_reducible refine (R2.out _).mono ?_); rintro e w' ⟨rfl, rfl⟩) | (go_at_call 10; (refine (CT.out).mono ?_); rintro e w1 ⟨rfl, hb1⟩; have K1 := Lib.hid hb1; have C2 := Lib.hid (sum_some w1.heap.size 0 2 2 _ (T + a) true _ (L.out w1).1 (L.out w1).hid (by omega) (by omega) HSUM); clear hb1) | (go_at_call 36; (refine (C2.out).mono ?_); rintro e w2 ⟨rfl, hb2⟩; have K2 := Lib.hid ((K1.out.alloc K1.out.size _).trans (hb2.mono (by have := K1.out.size; simp; omega))); have C3 := Lib.hid (vfind (HS.out.below K2.out) HI.out.is.1 (by omega) c y); clear hb2) | fail)
    refine (C3.out).mono ?_
    rintro e w3 ⟨p, f, rfl, hp, hb3⟩
    have K3 := Lib.hid (K2.out.trans (hb3.mono K2.out.size))
    have s3 := HS.out.below K3.out
    have c3 := s3.hd.c0
    obtain ⟨A, cc, rfl, _⟩ := s3.at
    cases f with
    | true =>
      exfalso
      obtain ⟨q1, q2, q3⟩ := hp.fd.1 rfl
      have := HI.out.is.at q1
      simp only at q2 q3
      rw [q2, q3, H4.out] at this
      exact HI.out.is.1.nz p q1 this.symm
    | false =>
      clear hp hb3 s3 C3
      go_wp2
      go_ret
      exact ⟨rfl, O, by unfold adS; rw [if_neg (by decide)]; exact HH.out.below K3.out, Step.of_below HH.out.fin K3.out⟩
  case ok ha ho h4 =>
    have HA := Lib.hid ha
    have H4 := Lib.hid h4
    have HO := Lib.hid ho
    obtain ⟨h1, h2, h3⟩ := ha
    have R1 := Lib.hid fun w => vright_yes c y w h1
    have R2 := Lib.hid fun w => vmny_yes a w ⟨by omega, h3⟩
    have HSUM := Lib.hid (vsum_yes (T := T) (a := a) tl h2 ho)
    have h2' : decide (a < 1) = false := by simp; omega
    have L := Lib.hid fun w1 : World => lit_row w1 [T, a] 3
    clear ho h1 h2 h3 h4 tl
    go_enter Try.func15, Try.ntmps15
    go_wp2_with (first | (go_at_call 34; (with_reducible refine (R1.out _).mono ?_); rintro e w' ⟨rfl, rfl⟩) | (go_at_call 35; (with_reducible refine (R2.out _).mono ?_); rintro e w' ⟨rfl, rfl⟩) | (go_at_call 10; (refine (CT.out).mono ?_); rintro e w1 ⟨rfl, hb1⟩; have K1 := Lib.hid hb1; have C2 := Lib.hid (sum_some w1.heap.size 0 2 2 _ (T + a) true _ (L.out w1).1 (L.out w1).hid (by omega) (by omega) HSUM); clear hb1) | (go_at_call 36; (refine (C2.out).mono ?_); rintro e w2 ⟨rfl, hb2⟩; have K2 := Lib.hid ((K1.out.alloc K1.out.size _).trans (hb2.mono (by have := K1.out.size; simp; omega))); have C3 := Lib.hid (vfind (HS.out.below K2.out) HI.out.is.1 (by omega) c y); clear hb2) | fail)
    refine (C3.out).mono ?_
    rintro e w3 ⟨p, f, rfl, hp, hb3⟩
    have K3 := Lib.hid (K2.out.trans (hb3.mono K2.out.size))
    have s3 := HS.out.below K3.out
    have HS3 := Lib.hid s3
    have HF3 := Lib.hid (HH.out.fin.below K3.out)
    have c3 := s3.hd.c0
    have HP := Lib.hid hp
    have sxy := HI.out.at c y
    rw [HT.out] at sxy
    have hx0 : S c y + a ≠ 0 := by have := HA.out.2.1; omega
    have hpi : (0 : Int) ≤ (p : Int) := by omega
    clear hp hb3 C3
    cases f with
    | true =>
      obtain ⟨q1, q2, q3, q4⟩ := vat_found HI.out.is HP.out hx0
      obtain ⟨b, cc, e, _, _⟩ := own_some s3.own (by omega)
      subst e
      obtain ⟨_, _, e, _, _, _, _, hcell, hfz⟩ := s3.own.some ve_len (by omega)
      injection e with e1 _ e3
      injection e1 with e1
      injection e1 with e1
      subst e1 e3
      have k2 := hcell p q1 2 _ rfl
      have f2 := hfz (p * 3 + 2)
      rw [q2] at k2
      have HIV := Lib.hid (HI.out.add HA.out (by rw [HT.out]; exact HO.out) (.inl q3) q4).1
      obtain ⟨V, eV⟩ : ∃ V, S c y = V := ⟨_, rfl⟩
      rw [eV] at k2 sxy hx0
      have ew : IntKind.i64.wrap (V + a) = V + a := IntWalk.i64_in _ (by have := HA.out.2; have := HO.out; omega)
      have hpm : (p : Int) < (n : Int) := by omega
      have HV := Lib.hid eV
      clear hcell hfz q3 q4 q2 eV s3 sxy hx0
      go_wp2
      go_ret
      obtain ⟨s4, st4⟩ := HS3.out.put HF3.out q1 (V + a)
      have st := (Step.of_below (t := t) HH.out.fin K3.out).trans st4
      refine ⟨rfl, O, ⟨⟨_, n, _, s4, ?_⟩, st4.fin, HH.out.low.trans (st.below HH.out.fin ht HH.out.low.size)⟩, st⟩
      unfold adS
      rw [if_pos rfl, ← HV.out]; exact HIV.out
    | false =>
      obtain ⟨q1, q2, q3, q4⟩ := vat_new HI.out.is HA.out.1 HP.out (a := a) (by have := HA.out.2.1; omega)
      have hn2 : n < 12 := H4.out.resolve_left fun z => z q2
      have HIV := Lib.hid (HI.out.add HA.out (by rw [HT.out]; exact HO.out) (.inr hn2) q4).1
      obtain ⟨A, cc, rfl, _⟩ := s3.at
      have X0 := Lib.hid (heap_alloc_new w3 (.cells (ve ⟨c, y, 0⟩).toArray 35))
      have HS4 := Lib.hid (s3.below ((Below.refl _ _).alloc (Nat.le_refl _) (.cells (ve ⟨c, y, 0⟩).toArray 35)))
      have HF4 := Lib.hid (HF3.out.below ((Below.refl _ _).alloc (Nat.le_refl _) (.cells (ve ⟨c, y, 0⟩).toArray 35)))
      have C4 := Lib.hid (vinsert (i := p) HS4.out.own X0.out (fun b hb => by have := (OwnR.lt HS3.out.own b (by rw [hb]; rfl)).2; omega) (by omega) (Nat.le_trans (Nat.le_trans HH.out.low.size K3.out.size) (by simp)) q1)
      have c4 := HS4.out.hd.c0
      have f4 := HS4.out.hd.frz 0
      have lt4 := HS4.out.hd.lt
      have nf4 : ¬ (12 : Int) ≤ (n : Int) := by omega
      have Q3 := Lib.hid q3
      have HN := Lib.hid hn2
      have HQ1 := Lib.hid q1
      have EW : Hid (wrap64 a = a) := Lib.hid (by have := HA.out.2; unfold wrap64; omega)
      have nob : Hid (some sb ≠ (Value.slice A n cc).ownBlock) := Lib.hid fun e => (HS4.out.row.tag sb e.symm).2 rfl
      clear q2 q3 q4 s3 sxy hx0 hn2 q1
      go_wp2_with (go_at_call 38; (refine (C4.out).mono ?_); rintro e w5 ⟨b, c', rfl, ho5, hg5, hat5⟩; have c5 := hg5.cell c4 nob.out; have f5 := (hg5.frozen_far ⟨sb, 0, none⟩ lt4 nob.out).trans f4; obtain ⟨O5, s5, st5⟩ := HS4.out.grows HF4.out hg5 ho5 (fun b' hb' => by injection hb' with e; subst e; exact hat5); have c6 := s5.hd.c0; obtain ⟨_, _, e, _, _, _, _, hcell, hfz⟩ := s5.own.some ve_len (by omega); injection e with e1 _ e3; injection e1 with e1; injection e1 with e1; subst e1 e3; have k2 := hcell p (by have := HQ1.out; omega) 2 _ rfl; have f2 := hfz (p * 3 + 2); rw [Q3.out] at k2; have HS5 := Lib.hid s5; have HT5 := Lib.hid st5; have hpm : (p : Int) < (n : Int) + 1 := (by have := HQ1.out; omega); clear hcell hfz ho5 hg5 hat5 s5 st5 C4)
      go_ret
      rw [EW.out]
      obtain ⟨s7, st7⟩ := HS5.out.put HT5.out.fin (i := p) (by have := HQ1.out; omega) a
      rw [Q3.out] at s7
      have st := ((Step.of_below (t := t) HH.out.fin (K3.out.alloc K3.out.size _)).trans HT5.out).trans st7
      refine ⟨rfl, O5, ⟨⟨_, n + 1, _, s7, ?_⟩, st7.fin, HH.out.low.trans (st.below HH.out.fin ht HH.out.low.size)⟩, st⟩
      unfold adS
      rw [if_pos rfl]; exact HIV.out
end
end Go.Proofs.Ytmeljcogoeghaaa
