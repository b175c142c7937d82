/- Package bucket's register: Move, Reclass, Get, Rows, Total, Clone, New: a contract for each, as the laws meet them. -/
import Derived.Test.YthconfcpajnjgaaBucket
import Derived.WalkKit
import Derived.WalkSpells
import Derived.WalkLawsBesides
import Derived.Lib.Hide
import Derived.IntWalk
import Derived.Deep.LoopGhost
namespace Go.Proofs.Ythconfcpajnjgaa
open Go.RowKit

section
variable {w0 w w1 : World} {O O1 : Nat → Nat} {base t t' sb n : Nat} {v : Value} {g : Nat → Bk} {S : Int → Int → Int}
/-- the program's register in a law's hands -/
abbrev NowP (w0 w : World) (O : Nat → Nat) (t sb : Nat) (S : Int → Int → Int) : Prop := NowB w0 w O t sb S
theorem NowP.below (h : NowP w0 w O t sb S) (k : Below w.heap.size w w1) : NowP w0 w1 O t sb S := NowB.below h k
theorem NowP.step (h : NowP w0 w O t sb S) (k : Step w0.heap.size O t' w O1 w1) (h1 : t ≠ t') (h2 : t' ≠ 0) : NowP w0 w1 O1 t sb S := NowB.step h k h1 h2
theorem NowP.told (h : NowP w0 w O t sb S) : ∃ n g, BInv S n g := NowB.told h
theorem pbnew (w0 w : World) (O : Nat → Nat) (fn : Fin0 w0.heap.size O w) (lo : Below w0.heap.size w0 w) (t : Nat) :
    Calls Try.prog 8 #[] w fun e w' => ∃ sb O', e = .returned (ptr sb) ∧ NowP w0 w' O' t sb (fun _ _ => 0) ∧ ∀ t', Step w0.heap.size O t' w O' w' := by
  have HF := Lib.hid fn
  have HL := Lib.hid lo
  clear fn lo
  go_enter Try.func8, Try.ntmps8
  go_wp2
  go_ret
  obtain ⟨a, b⟩ := nowb_new w0 w O HF.out HL.out 49 t
  exact ⟨_, _, rfl, a, b⟩
theorem pbget (h : NowP w0 w O t sb S) (c y : Int) :
    Calls Try.prog 13 #[ptr sb, .int .i64 c, .int .i64 y] w fun e w' => e = .returned (.int .i64 (S c y)) ∧ Below w.heap.size w w' := by
  obtain ⟨v, n, g, s, iv⟩ := h.st
  have hn := iv.le
  have c0 := s.hd.c0
  obtain ⟨A, cc, rfl, hc, hm, _, ha⟩ := s.at
  have HA := Lib.hid ha
  have HB := Lib.hid iv.is
  have C1 := Lib.hid (bfind A n cc g c y w ha iv.is.1 (by omega) hc)
  clear s ha iv h
  go_enter Try.func13, Try.ntmps13
  go_wp2_with fail
  refine (C1.out).mono ?_
  rintro e w1 ⟨p, f, rfl, hp, hb1⟩
  have d0 := cell_keep c0 hb1
  have HP := Lib.hid hp
  have K1 := Lib.hid hb1
  clear hp hb1 C1
  cases f
  · have HE : Hid (0 = S c y) := Lib.hid (by
      rw [← HB.out.2, bget_none fun j hj e => ?_]
      rcases Nat.lt_or_ge j p with q | q
      · have := HP.out.lo j q
        simp only at this
        rw [e.1, e.2] at this; exact bl_irr _ _ this
      · have z : ¬ (p < n ∧ (g p).c = c ∧ (g p).y = y) := fun z => by cases HP.out.fd.2 z
        rcases HP.out.hi p (Nat.le_refl _) (by omega) with r | r
        · exact z ⟨by omega, r⟩
        · simp only at r
          by_cases x : p = j
          · subst x; exact z ⟨hj, e⟩
          · have := HB.out.1.asc p j (by omega) hj
            rw [e.1, e.2] at this
            unfold Bl at *; omega)
    go_wp2
    go_ret
    exact ⟨congrArg (fun x => Ending.returned (.int .i64 x)) HE.out, K1.out⟩
  · obtain ⟨h1, h2, h3⟩ := HP.out.fd.1 rfl
    simp only at h2 h3
    obtain ⟨b, off, rfl, hb, c0', c1', c2'⟩ := (HA.out.below K1.out).three h1
    have HE : Hid ((g p).a = S c y) := Lib.hid (by rw [← HB.out.at h1, h2, h3])
    have hpn : (p : Int) < (n : Int) := by omega
    have hp0 : (0 : Int) ≤ (p : Int) := by omega
    clear h2 h3
    go_wp2
    go_ret
    exact ⟨congrArg (fun x => Ending.returned (.int .i64 x)) HE.out, K1.out⟩
theorem pbtotal (h : NowP w0 w O t sb S) {m : Nat} {g' : Nat → Bk} (b : BIs S m g') :
    Calls Try.prog 11 #[ptr sb] w fun e w' => e = .returned (.int .i64 (btot g' m)) ∧ Below w.heap.size w w' := by
  obtain ⟨v, n, g, s, iv⟩ := h.st
  rw [← iv.is.total b]
  have hn := iv.le
  have c0 := s.hd.c0
  obtain ⟨A, cc, rfl, hc, hm, _, ha⟩ := s.at
  have C1 := Lib.hid (bsum (c := cc) ha (by omega) (btot g n) true (Lib.hid (sum_yes iv.is iv.mon iv.all)))
  clear s ha iv h b
  go_enter Try.func11, Try.ntmps11
  go_wp2_with fail
  refine (C1.out).mono ?_
  rintro e w1 ⟨rfl, hb1⟩
  go_wp2
  go_ret
  exact ⟨rfl, hb1⟩
theorem pbrows (h : NowP w0 w O t sb S) {m : Nat} {g' : Nat → Bk} (b : BIs S m g') :
    Calls Try.prog 14 #[ptr sb] w fun e w' => ∃ A c, e = .returned (.slice A m c) ∧ m ≤ c ∧ c ≤ maxLen ∧ OwnR be 3 w' 38 w.heap.size (.slice A m c) m g' ∧ Below w.heap.size w w' := by
  obtain ⟨v, n, g, s, iv⟩ := h.st
  obtain ⟨rfl, he⟩ := iv.is.uniq b
  have hn := iv.le
  have c0 := s.hd.c0
  obtain ⟨A, cc, rfl, hc, hm, _, ha⟩ := s.at
  have C1 := Lib.hid (bclone _ n _ g w s.own (by omega))
  have HE := Lib.hid he
  clear s ha iv h b he
  go_enter Try.func14, Try.ntmps14
  go_wp2_with fail
  refine (C1.out).mono ?_
  rintro e w1 ⟨v1, rfl, ho, hb1⟩
  obtain ⟨A1, c1, rfl, h1, h2, _⟩ := ho.form
  go_wp2
  go_ret
  exact ⟨_, _, rfl, h1, h2, ho.ext HE.out, hb1⟩
theorem pbclone (h : NowP w0 w O t sb S) (t' : Nat) :
    Calls Try.prog 18 #[ptr sb] w fun e w' => ∃ sb' O', e = .returned (ptr sb') ∧ NowP w0 w' O' t' sb' S ∧ ∀ t2, Step w0.heap.size O t2 w O' w' := by
  have HF := Lib.hid h.fin
  have HL := Lib.hid h.low
  obtain ⟨n, g, iv⟩ := h.told
  have HI := Lib.hid iv
  have C1 := Lib.hid (pbrows h iv.is)
  clear h iv
  go_enter Try.func18, Try.ntmps18
  go_wp2_with fail
  refine (C1.out).mono ?_
  rintro e w5 ⟨A5, c5, rfl, _, _, ho, hb⟩
  have HO5 := Lib.hid ho
  have K4 := Lib.hid hb
  clear ho hb C1
  go_wp2
  go_ret
  obtain ⟨O1, m1, st1⟩ := fresh_marked HF.out HL.out.size K4.out HO5.out t'
  have z5 : w0.heap.size ≤ w5.heap.size := Nat.le_trans HL.out.size K4.out.size
  refine ⟨w5.heap.size, mark O1 t' w5.heap.size, rfl, ⟨⟨_, n, g, ⟨Head.new w5 O1 t' _ _, ⟨own_mono (World.ownsRow.alloc HO5.out _) HL.out.size, fun b hb => ?_⟩⟩, HI.out⟩, (Step.made (t := t') (st1 0).fin z5 (.cells #[.slice A5 n c5] 49) 0).fin, (HL.out.trans (K4.out.mono HL.out.size)).alloc z5 _⟩, fun t2 => (st1 t2).trans (Step.made (st1 t2).fin z5 _ t2)⟩
  have := m1 b hb
  exact ⟨(mark_ne _ _ (by omega)).trans this.1, by omega⟩
/-- rows of which all is known, as the register takes them, or not -/
theorem ptake (h : NowP w0 w O t sb S) (ht : t ≠ 0) (hb : Below w.heap.size w w1) {v' : Value} {m : Nat} {g' : Nat → Bk} {S' : Int → Int → Int} (o : OwnR be 3 w1 38 w.heap.size v' m g') (b : BIs S' m g') (hm : m ≤ 20) (e : Int)
    (he : (e = 6 ∧ ((∃ c y, ¬ Mon (S' c y)) ∨ ¬ Mon (btot g' m))) ∨ (((∀ c y, Mon (S' c y)) ∧ Mon (btot g' m)) ∧ ((e = 5 ∧ 12 < m) ∨ (e = 0 ∧ m ≤ 12)))) :
    Calls Try.prog 27 #[ptr sb, v'] w1 fun e' w' => e' = .returned (.int .i64 e) ∧ ∃ O', NowP w0 w' O' t sb (if e = 0 then S' else S) ∧ Step w0.heap.size O t w O' w' := by
  obtain ⟨A, c, rfl, _, _, _, hat⟩ := o.at be_len
  rcases he with ⟨rfl, he⟩ | ⟨⟨hS, hT⟩, ⟨rfl, he⟩ | ⟨rfl, he⟩⟩
  · refine (btake_over (sb := sb) hat (by omega) ?_).mono ?_
    · rcases he with ⟨c, y, q⟩ | q
      · exact Lib.hid (sum_bad b q)
      · exact Lib.hid (sum_big q)
    · rintro e' w' ⟨rfl, hb'⟩
      have k := hb.trans (hb'.mono hb.size)
      exact ⟨rfl, O, h.below k, Step.of_below h.fin k⟩
  · refine (btake_limit (sb := sb) hat (by omega) he _ (Lib.hid (sum_yes b hS hT))).mono ?_
    rintro e' w' ⟨rfl, hb'⟩
    have k := hb.trans (hb'.mono hb.size)
    exact ⟨rfl, O, h.below k, Step.of_below h.fin k⟩
  · obtain ⟨v, n, g, s, iv⟩ := h.st
    have s1 := s.hd.below hb
    refine (btake_ok (sb := sb) hat he _ (Lib.hid (sum_yes b hS hT)) s1.c0 (s1.frz 0)).mono ?_
    rintro e' w' ⟨rfl, w2, hb2, rfl⟩
    have k := hb.trans (hb2.mono hb.size)
    obtain ⟨O', q1, q2⟩ := BV.takes s h.fin h.low.size k (o.below hb2)
    exact ⟨rfl, O', ⟨⟨_, m, g', q1, b, he, hS, hT⟩, q2.fin, h.low.trans (q2.below h.fin ht h.low.size)⟩, q2⟩
theorem mon_up {c y x : Int} (hS : ∀ c y, Mon (S c y)) (hx : Mon x) : ∀ c' y', Mon (upS S c y x c' y') := fun c' y' => by
  unfold upS
  split
  · exact hx
  · exact hS c' y'
theorem merr_take {c y a e : Int} {m : Nat} {h : Nat → Bk} (iv : BInv S n g) (he : MErr S n (btot g n) c y a e) (h1 : BOk c y ∧ Mon a) (b1 : BIs (upS S c y (S c y + a)) m h) :
    (e = 6 ∧ ((∃ c' y', ¬ Mon (upS S c y (S c y + a) c' y')) ∨ ¬ Mon (btot h m))) ∨ (((∀ c' y', Mon (upS S c y (S c y + a) c' y')) ∧ Mon (btot h m)) ∧ ((e = 5 ∧ 12 < m) ∨ (e = 0 ∧ m ≤ 12))) := by
  obtain ⟨k1, k2⟩ := bis_count iv.is h1.1 b1
  have k3 : btot h m = btot g n + a := by omega
  rw [k3]
  cases he with
  | arg q => exact absurd h1 q
  | over _ q =>
    refine .inl ⟨rfl, ?_⟩
    by_cases z : Mon (S c y + a)
    · exact .inr fun z2 => q ⟨z, z2⟩
    · exact .inl ⟨c, y, by rw [upS_at]; exact z⟩
  | limit _ q r => exact .inr ⟨⟨mon_up iv.mon q.1, q.2⟩, .inl ⟨rfl, by omega⟩⟩
  | ok _ q r => exact .inr ⟨⟨mon_up iv.mon q.1, q.2⟩, .inr ⟨rfl, by omega⟩⟩
set_option maxHeartbeats 4000000 in
set_option maxRecDepth 100000 in
theorem pbmove (h : NowP w0 w O t sb S) (ht : t ≠ 0) {m : Nat} {g' : Nat → Bk} (b : BIs S m g') (c y a e : Int) (he : MErr S m (btot g' m) c y a e) :
    Calls Try.prog 10 #[ptr sb, .int .i64 c, .int .i64 y, .int .i64 a] w fun e' w' => e' = .returned (.int .i64 e) ∧ ∃ O', NowP w0 w' O' t sb (mvS e S c y a) ∧ Step w0.heap.size O t w O' w' := by
  obtain ⟨v, n, g, s, iv⟩ := h.st
  rw [← iv.is.total b, ← (iv.is.uniq b).1] at he
  have HH := Lib.hid h
  have HI := Lib.hid iv
  have HE := Lib.hid he
  have hn := iv.le
  by_cases h1 : BOk c y ∧ Mon a
  · have R1 := Lib.hid fun w => bright_yes c y w h1.1
    have R2 := Lib.hid fun w => mny_yes a w h1.2
    have hV := iv.mon c y
    have hA := h1.2
    have H1 := Lib.hid h1
    unfold Mon at hV hA
    have c0 := s.hd.c0
    have C1 := Lib.hid (bwith s.own iv.is (by omega) c y a h1.1 (by omega) (by omega) (by omega) (by omega))
    obtain ⟨A, cc, rfl, _, _, _⟩ := s.row.form
    clear s iv h b he h1 hV hA
    go_enter Try.func10, Try.ntmps10
    go_wp2_with (first | (go_at_call 25; (with_reducible refine (R1.out _).mono ?_); rintro e w' ⟨rfl, rfl⟩) | (go_at_call 26; (with_reducible refine (R2.out _).mono ?_); rintro e w' ⟨rfl, rfl⟩))
    refine (C1.out).mono ?_
    rintro e' w2 ⟨v2, m2, g2, rfl, ho, hb, hle, hbw⟩
    have C2 := Lib.hid (ptake HH.out ht hbw ho hb (by omega) e (merr_take HI.out HE.out H1.out hb))
    clear ho hb hbw C1
    go_wp2_with fail
    refine (C2.out).mono ?_
    rintro e' w3 ⟨rfl, O3, n3, s3⟩
    go_wp2
    go_ret
    exact ⟨rfl, O3, n3, s3⟩
  · have e1 : Hid (e = 1) := Lib.hid (by cases he <;> first | rfl | contradiction)
    have hres : Hid (∃ O', NowP w0 w O' t sb (mvS e S c y a) ∧ Step w0.heap.size O t w O' w) := Lib.hid ⟨O, by unfold mvS; rw [e1.out, if_neg (by decide)]; exact h, Step.refl h.fin⟩
    by_cases q : BOk c y
    · have R1 := Lib.hid fun w => bright_yes c y w q
      have R2 := Lib.hid fun w => mny_no a w fun z => h1 ⟨q, z⟩
      clear s iv h b he h1 q
      go_enter Try.func10, Try.ntmps10
      go_wp2_with (first | (go_at_call 25; (with_reducible refine (R1.out _).mono ?_); rintro e w' ⟨rfl, rfl⟩) | (go_at_call 26; (with_reducible refine (R2.out _).mono ?_); rintro e w' ⟨rfl, rfl⟩))
      go_ret
      exact ⟨congrArg (fun x => Ending.returned (.int .i64 x)) e1.out.symm, hres.out⟩
    · have R1 := Lib.hid fun w => bright_no c y w q
      clear s iv h b he h1 q
      go_enter Try.func10, Try.ntmps10
      go_wp2_with (first | (go_at_call 25; (with_reducible refine (R1.out _).mono ?_); rintro e w' ⟨rfl, rfl⟩))
      go_ret
      exact ⟨congrArg (fun x => Ending.returned (.int .i64 x)) e1.out.symm, hres.out⟩
theorem rerr_take {c y c' y' a e : Int} {m1 m : Nat} {h1' h : Nat → Bk} (iv : BInv S n g) (he : RErr S n c y c' y' a e) (h1 : BOk c y ∧ BOk c' y' ∧ Mon a ∧ ¬ (c = c' ∧ y = y')) (b1 : BIs (upS S c y (S c y + -a)) m1 h1') (b2 : BIs (upS (upS S c y (S c y + -a)) c' y' (S c' y' + a)) m h) :
    (e = 6 ∧ ((∃ p q, ¬ Mon (upS (upS S c y (S c y + -a)) c' y' (S c' y' + a) p q)) ∨ ¬ Mon (btot h m))) ∨ (((∀ p q, Mon (upS (upS S c y (S c y + -a)) c' y' (S c' y' + a) p q)) ∧ Mon (btot h m)) ∧ ((e = 5 ∧ 12 < m) ∨ (e = 0 ∧ m ≤ 12))) := by
  obtain ⟨k1, k2⟩ := bis_count iv.is h1.1 b1
  have ne : upS S c y (S c y + -a) c' y' = S c' y' := if_neg fun z => h1.2.2.2 ⟨z.1.symm, z.2.symm⟩
  obtain ⟨k3, k4⟩ := bis_count b1 h1.2.1 b2
  rw [ne] at k3 k4
  have k5 : btot h m = btot g n := by omega
  have k6 : (m : Int) = cntR n (S c y) (S c' y') a := by
    unfold cntB at k1 k3
    unfold cntR cntB
    rw [show S c y - a = S c y + -a by omega]
    omega
  have e2 : upS (upS S c y (S c y + -a)) c' y' (S c' y' + a) c y = S c y - a := by
    have : upS (upS S c y (S c y + -a)) c' y' (S c' y' + a) c y = upS S c y (S c y + -a) c y := if_neg fun z => h1.2.2.2 z
    rw [this, upS_at]; omega
  have ya : ∀ {p q : Int}, Mon (S c y - a) ∧ Mon (S c' y' + a) → Mon (upS (upS S c y (S c y + -a)) c' y' (S c' y' + a) p q) := fun z => mon_up (mon_up iv.mon (by rw [show S c y + -a = S c y - a by omega]; exact z.1)) z.2 _ _
  rw [k5]
  cases he with
  | arg q => exact absurd h1 q
  | over _ q =>
    refine .inl ⟨rfl, .inl ?_⟩
    by_cases z : Mon (S c y - a)
    · exact ⟨c', y', by rw [upS_at]; exact fun z2 => q ⟨z, z2⟩⟩
    · exact ⟨c, y, by rw [e2]; exact z⟩
  | limit _ q r => exact .inr ⟨⟨fun _ _ => ya q, iv.all⟩, .inl ⟨rfl, by omega⟩⟩
  | ok _ q r => exact .inr ⟨⟨fun _ _ => ya q, iv.all⟩, .inr ⟨rfl, by omega⟩⟩
set_option maxHeartbeats 4000000 in
set_option maxRecDepth 100000 in
theorem pbrec (h : NowP w0 w O t sb S) (ht : t ≠ 0) {m : Nat} {g' : Nat → Bk} (b : BIs S m g') (c y c' y' a e : Int) (he : RErr S m c y c' y' a e) :
    Calls Try.prog 12 #[ptr sb, .int .i64 c, .int .i64 y, .int .i64 c', .int .i64 y', .int .i64 a] w fun e' w' => e' = .returned (.int .i64 e) ∧ ∃ O', NowP w0 w' O' t sb (rcS e S c y c' y' a) ∧ Step w0.heap.size O t w O' w' := by
  obtain ⟨v, n, g, s, iv⟩ := h.st
  rw [← (iv.is.uniq b).1] at he
  have HH := Lib.hid h
  have HI := Lib.hid iv
  have HE := Lib.hid he
  have hn := iv.le
  by_cases h1 : BOk c y ∧ BOk c' y' ∧ Mon a ∧ ¬ (c = c' ∧ y = y')
  · have R1 := Lib.hid fun w => bright_yes c y w h1.1
    have R3 := Lib.hid fun w => bright_yes c' y' w h1.2.1
    have R2 := Lib.hid fun w => mny_yes a w h1.2.2.1
    have hV := iv.mon c y
    have hU := iv.mon c' y'
    have hA := h1.2.2.1
    have H1 := Lib.hid h1
    unfold Mon at hV hU hA
    have ne : upS S c y (S c y + -a) c' y' = S c' y' := if_neg fun z => h1.2.2.2 ⟨z.1.symm, z.2.symm⟩
    have c0 := s.hd.c0
    have ewn : wrap64 (-a) = -a := by unfold wrap64; omega
    have C1 := Lib.hid (bwith s.own iv.is (by omega) c y (-a) h1.1 (by omega) (by omega) (by omega) (by omega))
    have ways : ((c == c') = false) ∨ (((c == c') = true) ∧ ((y == y') = false)) := by
      by_cases q : c = c'
      · exact .inr ⟨by simpa using q, by simpa using fun z => h1.2.2.2 ⟨q, z⟩⟩
      · exact .inl (by simpa using q)
    obtain ⟨A, cc, rfl, _, _, _⟩ := s.row.form
    have NE := Lib.hid ne
    have HU := Lib.hid hU
    have HAB := Lib.hid hA
    clear s iv h b he h1 hV hU hA ne
    rcases ways with p1 | ⟨p1, p2⟩
    all_goals
      go_enter Try.func12, Try.ntmps12
      go_wp2_with (first | (go_at_call 25; (with_reducible refine (R1.out _).mono ?_); rintro e w' ⟨rfl, rfl⟩) | (go_at_call 25; (with_reducible refine (R3.out _).mono ?_); rintro e w' ⟨rfl, rfl⟩) | (go_at_call 26; (with_reducible refine (R2.out _).mono ?_); rintro e w' ⟨rfl, rfl⟩))
      refine (C1.out).mono ?_
      rintro e' w2 ⟨v2, m2, g2, rfl, ho, hb, hle, hbw⟩
      have HB1 := Lib.hid hb
      have K2 := Lib.hid hbw
      have C2 := Lib.hid (bwith ho hb (by omega) c' y' a H1.out.2.1 (by rw [NE.out]; have := HU.out.1; omega) (by rw [NE.out]; have := HU.out.2; omega) (by have := HAB.out.1; omega) (by have := HAB.out.2; omega))
      rw [NE.out] at C2
      clear ho hb hbw
      go_wp2_with fail
      refine (C2.out).mono ?_
      rintro e' w3 ⟨v3, m3, g3, rfl, ho3, hb3, hle3, hbw3⟩
      have K3 := K2.out.trans (hbw3.mono K2.out.size)
      have C3 := Lib.hid (ptake HH.out ht K3 (ho3.mono K2.out.size) hb3 (by omega) e (rerr_take HI.out HE.out H1.out HB1.out hb3))
      clear ho3 hb3 hbw3 C2 K3
      go_wp2_with fail
      refine (C3.out).mono ?_
      rintro e' w4 ⟨rfl, O4, n4, s4⟩
      go_wp2
      go_ret
      refine ⟨rfl, O4, ?_, s4⟩
      unfold rcS
      rw [show S c y - a = S c y + -a by omega]
      exact n4
  · have e1 : Hid (e = 1) := Lib.hid (by cases he <;> first | rfl | contradiction)
    have hres : Hid (∃ O', NowP w0 w O' t sb (rcS e S c y c' y' a) ∧ Step w0.heap.size O t w O' w) := Lib.hid ⟨O, by unfold rcS; rw [e1.out, if_neg (by decide)]; exact h, Step.refl h.fin⟩
    by_cases q : BOk c y
    · have R1 := Lib.hid fun w => bright_yes c y w q
      by_cases q2 : BOk c' y'
      · have R3 := Lib.hid fun w => bright_yes c' y' w q2
        by_cases q3 : Mon a
        · have R2 := Lib.hid fun w => mny_yes a w q3
          obtain ⟨rfl, rfl⟩ : c = c' ∧ y = y' := Classical.byContradiction fun z => h1 ⟨q, q2, q3, z⟩
          clear s iv h b he h1 q q2 q3
          go_enter Try.func12, Try.ntmps12
          go_wp2_with (first | (go_at_call 25; (with_reducible refine (R1.out _).mono ?_); rintro e w' ⟨rfl, rfl⟩) | (go_at_call 26; (with_reducible refine (R2.out _).mono ?_); rintro e w' ⟨rfl, rfl⟩))
          go_ret
          exact ⟨congrArg (fun x => Ending.returned (.int .i64 x)) e1.out.symm, hres.out⟩
        · have R2 := Lib.hid fun w => mny_no a w q3
          clear s iv h b he h1 q q2 q3
          go_enter Try.func12, Try.ntmps12
          go_wp2_with (first | (go_at_call 25; (with_reducible refine (R1.out _).mono ?_); rintro e w' ⟨rfl, rfl⟩) | (go_at_call 25; (with_reducible refine (R3.out _).mono ?_); rintro e w' ⟨rfl, rfl⟩) | (go_at_call 26; (with_reducible refine (R2.out _).mono ?_); rintro e w' ⟨rfl, rfl⟩))
          go_ret
          exact ⟨congrArg (fun x => Ending.returned (.int .i64 x)) e1.out.symm, hres.out⟩
      · have R3 := Lib.hid fun w => bright_no c' y' w q2
        clear s iv h b he h1 q q2
        go_enter Try.func12, Try.ntmps12
        go_wp2_with (first | (go_at_call 25; (with_reducible refine (R1.out _).mono ?_); rintro e w' ⟨rfl, rfl⟩) | (go_at_call 25; (with_reducible refine (R3.out _).mono ?_); rintro e w' ⟨rfl, rfl⟩))
        go_ret
        exact ⟨congrArg (fun x => Ending.returned (.int .i64 x)) e1.out.symm, hres.out⟩
    · have R1 := Lib.hid fun w => bright_no c y w q
      clear s iv h b he h1 q
      go_enter Try.func12, Try.ntmps12
      go_wp2_with (first | (go_at_call 25; (with_reducible refine (R1.out _).mono ?_); rintro e w' ⟨rfl, rfl⟩))
      go_ret
      exact ⟨congrArg (fun x => Ending.returned (.int .i64 x)) e1.out.symm, hres.out⟩
end
end Go.Proofs.Ythconfcpajnjgaa
