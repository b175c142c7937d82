/- StatusPlays: its walk. -/
import Derived.Test.YtpbpflhoeidpnaaLaw08b
import Derived.Test.YtpbpflhoeidpnaaRStatus
import Derived.Test.YtpbpflhoeidpnaaSeq
import Derived.WalkKit
import Derived.WalkSpells
import Derived.WalkLawsBesides
import Derived.Lib.Hide
import Derived.IntWalk
import Derived.Deep.LoopGhost
import Derived.Deep.DeepCutAuto
import Derived.Deep.CutBlock
namespace Go.Proofs.Ytpbpflhoeidpnaa
open Go.RowKit

/-- the document's status that the law made, of which something is told -/
structure NowR (w0 w : World) (O : Nat → Nat) (t sb : Nat) (first : Int) (n : Nat) (f : Nat → Bool) : Prop where
  st : ∃ v, RV w O w0.heap.size t sb v first n f
  fin : Fin0 w0.heap.size O w
  low : Below w0.heap.size w0 w
/-- which period is open, and whether one is -/
def opn (first : Int) (n : Nat) : Int := if first + n ≤ 399 then first + n else 0
section
variable {w0 w w1 : World} {O O1 : Nat → Nat} {t t' sb n : Nat} {first : Int} {f : Nat → Bool}
theorem NowR.below (h : NowR w0 w O t sb first n f) (k : Below w.heap.size w w1) : NowR w0 w1 O t sb first n f := by
  obtain ⟨v, s⟩ := h.st
  exact ⟨⟨v, s.below k⟩, h.fin.below k, h.low.trans (k.mono h.low.size)⟩
theorem NowR.step (h : NowR w0 w O t sb first n f) (k : Step w0.heap.size O t' w O1 w1) (h1 : t ≠ t') (h2 : t' ≠ 0) : NowR w0 w1 O1 t sb first n f := by
  obtain ⟨v, s⟩ := h.st
  exact ⟨⟨v, s.step k h1⟩, k.fin, h.low.trans (k.below h.fin h2 h.low.size)⟩
theorem mopen (h : NowR w0 w O t sb first n f) :
    Calls Try.prog 44 #[ptr sb] w fun e w' => e = .returned (.tuple #[.int .i64 (opn first n), .bool (decide (first + n ≤ 399))]) ∧ w = w' := by
  obtain ⟨v, s⟩ := h.st
  by_cases q : first + n ≤ 399
  · unfold opn; rw [if_pos q, decide_eq_true q]; exact ropen_yes s q
  · unfold opn; rw [if_neg q, decide_eq_false q]; exact ropen_no s (by have := s.hi; omega)
theorem nopen (h : NowS w0 w O t sb first n f) :
    Calls Try.prog 32 #[ptr sb] w fun e w' => e = .returned (.tuple #[.int .i64 (opn first n), .bool (decide (first + n ≤ 399))]) ∧ Below w.heap.size w w' := by
  obtain ⟨v, s⟩ := h.st
  by_cases q : first + n ≤ 399
  · unfold opn; rw [if_pos q, decide_eq_true q]; exact topen_yes s q
  · unfold opn; rw [if_neg q, decide_eq_false q]; exact topen_no s (by have := s.hi; omega)
theorem mclosed (h : NowR w0 w O t sb first n f) :
    Calls Try.prog 46 #[ptr sb] w fun e w' => ∃ A c, e = .returned (.slice A n c) ∧ At w' A n (fun j => first + j) ∧ Below w.heap.size w w' := by
  obtain ⟨v, s⟩ := h.st
  refine (rclosed_any s).mono ?_
  rintro e w' ⟨v', rfl, ho, hb⟩
  obtain ⟨A, c, rfl, _, _, ha⟩ := ho.at
  exact ⟨A, c, rfl, ha, hb⟩
theorem mtouch_no (h : NowR w0 w O t sb first n f) (hh : first + n = 400) :
    Calls Try.prog 42 #[ptr sb] w fun e w' => e = .returned (.int .i64 8) ∧ w = w' := by
  obtain ⟨v, s⟩ := h.st
  exact rtouch_no s hh
theorem mtouch_yes (h : NowR w0 w O t sb first n f) (ht : t ≠ 0) (hh : first + n ≤ 399) :
    Calls Try.prog 42 #[ptr sb] w fun e w' => e = .returned (.int .i64 0) ∧ NowR w0 w' O t sb first n (updB f n true) ∧ Step w0.heap.size O t w O w' := by
  obtain ⟨v, s⟩ := h.st
  refine (rtouch_yes s h.fin hh).mono ?_
  rintro e w' ⟨rfl, a, b⟩
  exact ⟨rfl, ⟨⟨_, a⟩, b.fin, h.low.trans (b.below h.fin ht h.low.size)⟩, b⟩
theorem mclose_no (h : NowR w0 w O t sb first n f) (hh : first + n = 400) :
    Calls Try.prog 40 #[ptr sb] w fun e w' => e = .returned (.int .i64 8) ∧ w = w' := by
  obtain ⟨v, s⟩ := h.st
  exact rclose_no s hh
theorem mclose_yes (h : NowR w0 w O t sb first n f) (ht : t ≠ 0) (hh : first + n ≤ 399) :
    Calls Try.prog 40 #[ptr sb] w fun e w' => e = .returned (.int .i64 0) ∧ ∃ O', NowR w0 w' O' t sb first (n + 1) (updB f (n + 1) false) ∧ Step w0.heap.size O t w O' w' := by
  obtain ⟨v, s⟩ := h.st
  refine (rclose_yes s h.fin h.low.size hh).mono ?_
  rintro e w' ⟨rfl, v', O', a, b⟩
  exact ⟨rfl, O', ⟨⟨_, a⟩, b.fin, h.low.trans (b.below h.fin ht h.low.size)⟩, b⟩
theorem mreopen_at0 (h : NowR w0 w O t sb first n f) (hn : n = 0) :
    Calls Try.prog 41 #[ptr sb] w fun e w' => e = .returned (.int .i64 3) ∧ Below w.heap.size w w' := by
  obtain ⟨v, s⟩ := h.st
  subst hn
  exact rreopen_none s
theorem mreopen_held (h : NowR w0 w O t sb first n f) (hn : 0 < n) (hf : f n = true) :
    Calls Try.prog 41 #[ptr sb] w fun e w' => e = .returned (.int .i64 8) ∧ Below w.heap.size w w' := by
  obtain ⟨v, s⟩ := h.st
  exact rreopen_held s hn hf
theorem mreopen_at (h : NowR w0 w O t sb first n f) (ht : t ≠ 0) (p : Nat) (hn : n = p + 1) (hf : f n = false) :
    Calls Try.prog 41 #[ptr sb] w fun e w' => e = .returned (.int .i64 0) ∧ NowR w0 w' O t sb first p f ∧ Step w0.heap.size O t w O w' := by
  subst hn
  obtain ⟨v, s⟩ := h.st
  refine (rreopen_ok s h.fin hf).mono ?_
  rintro e w' ⟨rfl, v', a, b⟩
  exact ⟨rfl, ⟨⟨_, a⟩, b.fin, h.low.trans (b.below h.fin ht h.low.size)⟩, b⟩
theorem nclone (h : NowS w0 w O t sb first n f) (t' : Nat) :
    Calls Try.prog 43 #[ptr sb] w fun e w' => ∃ cb O', e = .returned (ptr cb) ∧ NowS w0 w' O' t' cb first n f ∧ ∀ t2, Step w0.heap.size O t2 w O' w' := by
  obtain ⟨v, s⟩ := h.st
  refine (tclone_any s h.fin h.low.size t').mono ?_
  rintro e w' ⟨v', cb, O', rfl, a, _, b⟩
  exact ⟨cb, O', rfl, ⟨⟨_, a⟩, (b 1).fin, h.low.trans ((b 1).below h.fin (by decide) h.low.size)⟩, b⟩
theorem mnew (w0 w : World) (O : Nat → Nat) (fn : Fin0 w0.heap.size O w) (lo : Below w0.heap.size w0 w) (t : Nat) (first : Int) (h1 : 0 ≤ first) (h2 : first ≤ 399) :
    Calls Try.prog 39 #[.int .i64 first] w fun e w' => ∃ sb O', e = .returned (ptr sb) ∧ NowR w0 w' O' t sb first 0 (fun _ => false) ∧ ∀ t2, Step w0.heap.size O t2 w O' w' := by
  refine (rnew8 first w fn lo.size h1 h2 t).mono ?_
  rintro e w' ⟨v, sb, O', rfl, a, _, b⟩
  exact ⟨sb, O', rfl, ⟨⟨_, a⟩, (b 1).fin, lo.trans ((b 1).below fn (by decide) lo.size)⟩, b⟩
end
set_option maxHeartbeats 4000000 in
set_option maxRecDepth 100000 in
theorem statusPlays_walk (a0 : Int) (a1 : Option Addr) (len1 cap1 : Nat) (z1 : List Int) (w : World) (_w0 : (Lit.int .i64 a0).wf = true) (w1 : IsRow .i64 w a1 len1 cap1 z1) :
    Calls Try.prog 10 #[.int .i64 a0, .slice a1 len1 cap1] w fun e w' => e = .returned (.bool true) ∧ Below w.heap.size w w' := by
  have I1 := Lib.hid w1.at.1
  obtain ⟨g1, hg1⟩ : ∃ g : Nat → Int, (fun j => z1.getD j 0) = g := ⟨_, rfl⟩
  rw [hg1] at I1
  clear _w0 w1 hg1
  go_enter Try.func10, Try.ntmps10
  go_upto_if 18 with fail
  go_cut [0] (fun s0 wx => ∃ x : Int, s0 = .int .i64 x ∧ w = wx)
  case first =>
    go_wp2_with (first | (go_at_call 13; (with_reducible refine (within_some _ _ _ (by omega) (by omega)).mono ?_); rintro e w' ⟨x, hx1, hx2, rfl, rfl⟩))
    all_goals
      go_meet
      exact ⟨_, rfl, rfl⟩
  case rest =>
    obtain ⟨x, rfl, rfl⟩ := hcut
    go_upto_if 23 with fail
    go_cut [0] (fun s0 wx => ∃ x : Int, s0 = .int .i64 x ∧ w = wx)
    case first =>
      go_wp2_with (first | (go_at_call 13; (with_reducible refine (within_some _ _ _ (by omega) (by omega)).mono ?_); rintro e w' ⟨x, hx1, hx2, rfl, rfl⟩))
      all_goals
        go_meet
        exact ⟨_, rfl, rfl⟩
    case rest =>
      obtain ⟨fi, rfl, rfl⟩ := hcut
      by_cases hfi : 0 ≤ fi ∧ fi ≤ 399
      · obtain ⟨f1, f2⟩ := hfi
        go_wp2_with fail
        refine (tnew_yes fi _ f1 f2).mono ?_
        rintro e w1 ⟨rfl, rfl⟩
        obtain ⟨nw, _⟩ := nows_new w w (fun _ => 0) (Fin0.zero _ _) (Below.refl _ _) 1 fi f1 f2
        have NN := Lib.hid nw
        clear nw
        go_wp2_with fail
        refine (rperiod_yes fi _ f1 f2).mono ?_
        rintro e w1 ⟨rfl, rfl⟩
        go_wp2_with fail
        refine (mnew w _ _ NN.out.fin NN.out.low 2 fi f1 f2).mono ?_
        rintro e w2 ⟨rb, O2, rfl, mr, st⟩
        replace NN := Lib.hid (NN.out.step (st 3) (by decide) (by decide))
        have MM := Lib.hid mr
        clear mr st
        go_wp2
        go_loopg [8] 30 (fun gh i wr => ∃ (k n : Nat) (O : Nat → Nat) (f : Nat → Bool), k ≤ 30 ∧ gh = 30 - k ∧ i = .int .i64 k ∧ NowS w wr O 1 w.heap.size fi n f ∧ NowR w wr O 2 rb fi n f)
        case atStart => exact ⟨0, 0, _, _, by omega, rfl, rfl, NN.out, MM.out⟩
        case round =>
          obtain ⟨k, n, O, f, hk, hgk, rfl, hn1, hm1⟩ := hrel
          have HGK := Lib.hid hgk
          have N1 := Lib.hid hn1
          have M1 := Lib.hid hm1
          clear hgk hn1 hm1 NN MM
          by_cases hlt : k < len1 ∧ k < 30
          · obtain ⟨l0, l1⟩ := hlt
            obtain ⟨b, off, rfl, hb, hc⟩ := I1.out.some (by omega)
            have ck : wr.cell? ⟨b, off + k, none⟩ = some (.int .i64 (g1 k)) := (N1.out.low.cell (p := ⟨b, off + k, none⟩) hb).trans (hc k l0)
            clear hc
            go_wp2_with fail
            refine (within_some _ _ _ (by omega) (by omega)).mono ?_
            rintro e w' ⟨x, x1, x2, rfl, rfl⟩
            clear ck
            go_upto_block 2 with fail
            go_cut [9, 10] (fun s0 s1 wx => ∃ (e : Int) (n' : Nat) (O' : Nat → Nat) (f' : Nat → Bool), s0 = .int .i64 e ∧ s1 = .int .i64 e ∧ NowS w wx O' 1 w.heap.size fi n' f' ∧ NowR w wx O' 2 rb fi n' f')
            case first =>
              have bd := N1.out.bd
              obtain ⟨b1, b2⟩ := bd
              rcases (show x = 0 ∨ x = 1 ∨ x = 2 ∨ x = 3 ∨ x = 4 ∨ x = 5 by omega) with rfl | rfl | rfl | rfl | rfl | rfl
              · by_cases hh : fi + (n : Int) ≤ 399
                · have HH := Lib.hid hh
                  clear hh
                  go_wp2_with fail
                  refine (nclose_yes N1.out (by decide) HH.out).mono ?_
                  rintro e w4 ⟨rfl, O4, n4, s4⟩
                  have N4 := Lib.hid n4
                  have M4 := Lib.hid (M1.out.step s4 (by decide) (by decide))
                  clear n4 s4
                  go_wp2_with fail
                  refine (mclose_yes M4.out (by decide) HH.out).mono ?_
                  rintro e w5 ⟨rfl, O5, m5, s5⟩
                  have M5 := Lib.hid m5
                  have N5 := Lib.hid (N4.out.step s5 (by decide) (by decide))
                  clear m5 s5
                  go_wp2
                  go_meet
                  exact ⟨0, n + 1, _, updB f (n + 1) false, rfl, rfl, N5.out, M5.out⟩
                · have HH : Hid (fi + (n : Int) = 400) := Lib.hid (by omega)
                  clear hh
                  go_wp2_with fail
                  refine (nclose_no N1.out HH.out).mono ?_
                  rintro e w4 ⟨rfl, hb4⟩
                  have N4 := Lib.hid (N1.out.below hb4)
                  have M4 := Lib.hid (M1.out.below hb4)
                  clear hb4
                  go_wp2_with fail
                  refine (mclose_no M4.out HH.out).mono ?_
                  rintro e w5 ⟨rfl, rfl⟩
                  go_wp2
                  go_meet
                  exact ⟨8, n, _, f, rfl, rfl, N4.out, M4.out⟩
              · by_cases hh : fi + (n : Int) ≤ 399
                · have HH := Lib.hid hh
                  clear hh
                  go_wp2_with fail
                  refine (nclose_yes N1.out (by decide) HH.out).mono ?_
                  rintro e w4 ⟨rfl, O4, n4, s4⟩
                  have N4 := Lib.hid n4
                  have M4 := Lib.hid (M1.out.step s4 (by decide) (by decide))
                  clear n4 s4
                  go_wp2_with fail
                  refine (mclose_yes M4.out (by decide) HH.out).mono ?_
                  rintro e w5 ⟨rfl, O5, m5, s5⟩
                  have M5 := Lib.hid m5
                  have N5 := Lib.hid (N4.out.step s5 (by decide) (by decide))
                  clear m5 s5
                  go_wp2
                  go_meet
                  exact ⟨0, n + 1, _, updB f (n + 1) false, rfl, rfl, N5.out, M5.out⟩
                · have HH : Hid (fi + (n : Int) = 400) := Lib.hid (by omega)
                  clear hh
                  go_wp2_with fail
                  refine (nclose_no N1.out HH.out).mono ?_
                  rintro e w4 ⟨rfl, hb4⟩
                  have N4 := Lib.hid (N1.out.below hb4)
                  have M4 := Lib.hid (M1.out.below hb4)
                  clear hb4
                  go_wp2_with fail
                  refine (mclose_no M4.out HH.out).mono ?_
                  rintro e w5 ⟨rfl, rfl⟩
                  go_wp2
                  go_meet
                  exact ⟨8, n, _, f, rfl, rfl, N4.out, M4.out⟩
              · by_cases hn0 : n = 0
                · have H0 := Lib.hid hn0
                  clear hn0
                  go_wp2_with fail
                  refine (nreopen_at0 N1.out H0.out).mono ?_
                  rintro e w4 ⟨rfl, rfl⟩
                  go_wp2_with fail
                  refine (mreopen_at0 M1.out H0.out).mono ?_
                  rintro e w5 ⟨rfl, hb5⟩
                  have N5 := Lib.hid (N1.out.below hb5)
                  have M5 := Lib.hid (M1.out.below hb5)
                  clear hb5
                  go_wp2
                  go_meet
                  exact ⟨3, n, _, f, rfl, rfl, N5.out, M5.out⟩
                · cases hf : f n
                  · obtain ⟨p, hp⟩ : ∃ p, n = p + 1 := ⟨n - 1, by omega⟩
                    have HP := Lib.hid hp
                    have HF := Lib.hid hf
                    clear hp hf
                    go_wp2_with fail
                    refine (nreopen_at N1.out (by decide) p HP.out HF.out).mono ?_
                    rintro e w4 ⟨rfl, n4, s4⟩
                    have N4 := Lib.hid n4
                    have M4 := Lib.hid (M1.out.step s4 (by decide) (by decide))
                    clear n4 s4
                    go_wp2_with fail
                    refine (mreopen_at M4.out (by decide) p HP.out HF.out).mono ?_
                    rintro e w5 ⟨rfl, m5, s5⟩
                    have M5 := Lib.hid m5
                    have N5 := Lib.hid (N4.out.step s5 (by decide) (by decide))
                    clear m5 s5
                    go_wp2
                    go_meet
                    exact ⟨0, p, _, f, rfl, rfl, N5.out, M5.out⟩
                  · have HF := Lib.hid hf
                    clear hf
                    go_wp2_with fail
                    refine (nreopen_held N1.out (by omega) HF.out).mono ?_
                    rintro e w4 ⟨rfl, rfl⟩
                    go_wp2_with fail
                    refine (mreopen_held M1.out (by omega) HF.out).mono ?_
                    rintro e w5 ⟨rfl, hb5⟩
                    have N5 := Lib.hid (N1.out.below hb5)
                    have M5 := Lib.hid (M1.out.below hb5)
                    clear hb5
                    go_wp2
                    go_meet
                    exact ⟨8, n, _, f, rfl, rfl, N5.out, M5.out⟩
              · by_cases hn0 : n = 0
                · have H0 := Lib.hid hn0
                  clear hn0
                  go_wp2_with fail
                  refine (nreopen_at0 N1.out H0.out).mono ?_
                  rintro e w4 ⟨rfl, rfl⟩
                  go_wp2_with fail
                  refine (mreopen_at0 M1.out H0.out).mono ?_
                  rintro e w5 ⟨rfl, hb5⟩
                  have N5 := Lib.hid (N1.out.below hb5)
                  have M5 := Lib.hid (M1.out.below hb5)
                  clear hb5
                  go_wp2
                  go_meet
                  exact ⟨3, n, _, f, rfl, rfl, N5.out, M5.out⟩
                · cases hf : f n
                  · obtain ⟨p, hp⟩ : ∃ p, n = p + 1 := ⟨n - 1, by omega⟩
                    have HP := Lib.hid hp
                    have HF := Lib.hid hf
                    clear hp hf
                    go_wp2_with fail
                    refine (nreopen_at N1.out (by decide) p HP.out HF.out).mono ?_
                    rintro e w4 ⟨rfl, n4, s4⟩
                    have N4 := Lib.hid n4
                    have M4 := Lib.hid (M1.out.step s4 (by decide) (by decide))
                    clear n4 s4
                    go_wp2_with fail
                    refine (mreopen_at M4.out (by decide) p HP.out HF.out).mono ?_
                    rintro e w5 ⟨rfl, m5, s5⟩
                    have M5 := Lib.hid m5
                    have N5 := Lib.hid (N4.out.step s5 (by decide) (by decide))
                    clear m5 s5
                    go_wp2
                    go_meet
                    exact ⟨0, p, _, f, rfl, rfl, N5.out, M5.out⟩
                  · have HF := Lib.hid hf
                    clear hf
                    go_wp2_with fail
                    refine (nreopen_held N1.out (by omega) HF.out).mono ?_
                    rintro e w4 ⟨rfl, rfl⟩
                    go_wp2_with fail
                    refine (mreopen_held M1.out (by omega) HF.out).mono ?_
                    rintro e w5 ⟨rfl, hb5⟩
                    have N5 := Lib.hid (N1.out.below hb5)
                    have M5 := Lib.hid (M1.out.below hb5)
                    clear hb5
                    go_wp2
                    go_meet
                    exact ⟨8, n, _, f, rfl, rfl, N5.out, M5.out⟩
              · by_cases hh : fi + (n : Int) ≤ 399
                · have HH := Lib.hid hh
                  clear hh
                  go_wp2_with fail
                  refine (ntouch_yes N1.out (by decide) HH.out).mono ?_
                  rintro e w4 ⟨rfl, n4, s4⟩
                  have N4 := Lib.hid n4
                  have M4 := Lib.hid (M1.out.step s4 (by decide) (by decide))
                  clear n4 s4
                  go_wp2_with fail
                  refine (mtouch_yes M4.out (by decide) HH.out).mono ?_
                  rintro e w5 ⟨rfl, m5, s5⟩
                  have M5 := Lib.hid m5
                  have N5 := Lib.hid (N4.out.step s5 (by decide) (by decide))
                  clear m5 s5
                  go_wp2
                  go_meet
                  exact ⟨0, n, _, updB f n true, rfl, rfl, N5.out, M5.out⟩
                · have HH : Hid (fi + (n : Int) = 400) := Lib.hid (by omega)
                  clear hh
                  go_wp2_with fail
                  refine (ntouch_no N1.out HH.out).mono ?_
                  rintro e w4 ⟨rfl, hb4⟩
                  have N4 := Lib.hid (N1.out.below hb4)
                  have M4 := Lib.hid (M1.out.below hb4)
                  clear hb4
                  go_wp2_with fail
                  refine (mtouch_no M4.out HH.out).mono ?_
                  rintro e w5 ⟨rfl, rfl⟩
                  go_wp2
                  go_meet
                  exact ⟨8, n, _, f, rfl, rfl, N4.out, M4.out⟩
              · go_wp2_with fail
                refine (nclone N1.out 3).mono ?_
                rintro e w4 ⟨cb, O4, rfl, n4, s4⟩
                have C4 := Lib.hid n4
                have N4 := Lib.hid (N1.out.step (s4 4) (by decide) (by decide))
                have M4 := Lib.hid (M1.out.step (s4 4) (by decide) (by decide))
                clear n4 s4
                by_cases hh : fi + (n : Int) ≤ 399
                · have HH := Lib.hid hh
                  clear hh
                  go_wp2_with fail
                  refine (ntouch_yes C4.out (by decide) HH.out).mono ?_
                  rintro e w5 ⟨rfl, n5, s5⟩
                  have C5 := Lib.hid n5
                  have N5 := Lib.hid (N4.out.step s5 (by decide) (by decide))
                  have M5 := Lib.hid (M4.out.step s5 (by decide) (by decide))
                  clear n5 s5
                  go_wp2_with fail
                  refine (nclose_yes C5.out (by decide) HH.out).mono ?_
                  rintro e w6 ⟨rfl, O6, n6, s6⟩
                  have N6 := Lib.hid (N5.out.step s6 (by decide) (by decide))
                  have M6 := Lib.hid (M5.out.step s6 (by decide) (by decide))
                  clear n6 s6
                  go_wp2
                  go_meet
                  exact ⟨0, n, _, f, rfl, rfl, N6.out, M6.out⟩
                · have HH : Hid (fi + (n : Int) = 400) := Lib.hid (by omega)
                  clear hh
                  go_wp2_with fail
                  refine (ntouch_no C4.out HH.out).mono ?_
                  rintro e w5 ⟨rfl, hb5⟩
                  have C5 := Lib.hid (C4.out.below hb5)
                  have N5 := Lib.hid (N4.out.below hb5)
                  have M5 := Lib.hid (M4.out.below hb5)
                  clear hb5
                  go_wp2_with fail
                  refine (nclose_no C5.out HH.out).mono ?_
                  rintro e w6 ⟨rfl, hb6⟩
                  have N6 := Lib.hid (N5.out.below hb6)
                  have M6 := Lib.hid (M5.out.below hb6)
                  clear hb6
                  go_wp2
                  go_meet
                  exact ⟨0, n, _, f, rfl, rfl, N6.out, M6.out⟩
            case rest =>
              obtain ⟨e, n', O', f', rfl, rfl, hn4, hm4⟩ := hcut
              have N4 := Lib.hid hn4
              have M4 := Lib.hid hm4
              clear hn4 hm4 N1 M1
              have bd := N4.out.bd
              obtain ⟨b1, b2⟩ := bd
              obtain ⟨p, hp⟩ : ∃ p, opn fi n' = p := ⟨_, rfl⟩
              obtain ⟨c, hc⟩ : ∃ c, decide (fi + (n' : Int) ≤ 399) = c := ⟨_, rfl⟩
              have C1 := Lib.hid (nopen N4.out)
              have C2 := Lib.hid fun (w9 : World) (h : Below wc.heap.size wc w9) => mopen (M4.out.below h)
              rw [hp, hc] at C1
              simp only [hp, hc] at C2
              clear hp hc
              go_wp2_with fail
              refine (C1.out).mono ?_
              rintro e1 w5 ⟨rfl, hb5⟩
              have C3 := Lib.hid (C2.out w5 hb5)
              have N5 := Lib.hid (N4.out.below hb5)
              have M5 := Lib.hid (M4.out.below hb5)
              clear hb5 C1 C2
              go_wp2_with fail
              refine (C3.out).mono ?_
              rintro e1 w5' ⟨rfl, rfl⟩
              clear C3
              cases c
              all_goals
                go_wp2_with fail
                refine (nclosed N5.out).mono ?_
                rintro e1 w6 ⟨rfl, hr6, hb6⟩
                have M6 := Lib.hid (M5.out.below hb6)
                have N6 := Lib.hid (N5.out.below hb6)
                have R6 := Lib.hid hr6.at
                clear hr6 hb6
                go_wp2_with fail
                refine (mclosed M6.out).mono ?_
                rintro e1 w7 ⟨A7, c7, rfl, ha7, hb7⟩
                have M7 := Lib.hid (M6.out.below hb7)
                have N7 := Lib.hid (N6.out.below hb7)
                have R7 := Lib.hid (R6.out.below hb7)
                have R8 := Lib.hid ha7
                clear ha7 hb7
                go_wp2_with fail
                refine (same_true _ _ n' _ _ _ _ _ R7.out R8.out (by omega) (fun j _ => rfl)).mono ?_
                rintro e1 w8 ⟨rfl, hb8⟩
                have M8 := Lib.hid (M7.out.below hb8)
                have N8 := Lib.hid (N7.out.below hb8)
                clear hb8
                go_wp2
                go_roundg (30 - (k + 1))
                case measure => have := HGK.out; omega
                case rel => exact ⟨k + 1, n', O', f', by omega, rfl, by go_num, N8.out, M8.out⟩
          · rcases (show ¬ k < len1 ∨ (k < len1 ∧ ¬ k < 30) by omega) with hq | ⟨hq1, hq⟩
            all_goals
              clear hlt
              go_wp2_with fail
              refine (wakes8_any _).mono ?_
              rintro e w10 ⟨rfl, hb⟩
              have HL := Lib.hid (N1.out.low.trans (hb.mono N1.out.low.size))
              clear hb
              go_wp2
              go_ret
              exact ⟨rfl, HL.out⟩
      · have hno : fi < 0 ∨ 399 < fi := by omega
        have HNO := Lib.hid hno
        clear hfi hno
        go_wp2_with fail
        refine (tnew_no fi _ HNO.out).mono ?_
        rintro e w1 ⟨rfl, rfl⟩
        go_wp2_with fail
        refine (rperiod_no fi _ HNO.out).mono ?_
        rintro e w1 ⟨rfl, rfl⟩
        go_wp2_with fail
        refine (wakes8_any _).mono ?_
        rintro e w10 ⟨rfl, hb⟩
        have HL := Lib.hid hb
        clear hb
        go_wp2
        go_ret
        exact ⟨rfl, HL.out⟩
end Go.Proofs.Ytpbpflhoeidpnaa
