/- The document's example of chapter 8; a status that a law made; StatusEnd: its walk. -/
import Derived.Test.YtpbpflhoeidpnaaStatus
import Derived.Test.YtpbpflhoeidpnaaPlay
import Derived.WalkKit
import Derived.WalkSpells
import Derived.WalkLawsBesides
import Derived.Lib.Hide
import Derived.IntWalk
import Derived.Deep.LoopGhost
namespace Go.Proofs.Ytpbpflhoeidpnaa
open Go.RowKit

/-- a status that the law made, of which something is told -/
structure NowS (w0 w : World) (O : Nat → Nat) (t sb : Nat) (first : Int) (n : Nat) (f : Nat → Bool) : Prop where
  st : ∃ v, TV w O w0.heap.size t sb v first n f
  fin : Fin0 w0.heap.size O w
  low : Below w0.heap.size w0 w
section
variable {w0 w w1 : World} {O O1 : Nat → Nat} {t t' sb n : Nat} {first : Int} {f : Nat → Bool}
theorem NowS.below (h : NowS w0 w O t sb first n f) (k : Below w.heap.size w w1) : NowS w0 w1 O t sb first n f := by
  obtain ⟨v, s⟩ := h.st
  exact ⟨⟨v, s.below k⟩, h.fin.below k, h.low.trans (k.mono h.low.size)⟩
theorem NowS.step (h : NowS w0 w O t sb first n f) (k : Step w0.heap.size O t' w O1 w1) (h1 : t ≠ t') (h2 : t' ≠ 0) : NowS w0 w1 O1 t sb first n f := by
  obtain ⟨v, s⟩ := h.st
  exact ⟨⟨v, s.step k h1⟩, k.fin, h.low.trans (k.below h.fin h2 h.low.size)⟩
theorem NowS.bd (h : NowS w0 w O t sb first n f) : 0 ≤ first ∧ first + n ≤ 400 := by
  obtain ⟨v, s⟩ := h.st
  exact ⟨s.lo, s.hi⟩
theorem nows_new (w0 w : World) (O : Nat → Nat) (fn : Fin0 w0.heap.size O w) (lo : Below w0.heap.size w0 w) (t : Nat) (first : Int) (h1 : 0 ≤ first) (h2 : first ≤ 399) :
    NowS w0 (w.alloc (.cells #[.int .i64 first, .slice none 0 0, .bool false] 81)) (mark O t w.heap.size) t w.heap.size first 0 (fun _ => false) ∧ ∀ t', Step w0.heap.size O t' w (mark O t w.heap.size) (w.alloc (.cells #[.int .i64 first, .slice none 0 0, .bool false] 81)) := by
  obtain ⟨a, b⟩ := TV.new (t := t) fn lo.size 81 first h1 h2
  exact ⟨⟨⟨_, a⟩, (b 0).fin, lo.alloc lo.size _⟩, b⟩
theorem nopen_yes (h : NowS w0 w O t sb first n f) (p : Int) (hp : first + n = p) (hh : p ≤ 399) :
    Calls Try.prog 32 #[ptr sb] w fun e w' => e = .returned (.tuple #[.int .i64 p, .bool true]) ∧ Below w.heap.size w w' := by
  obtain ⟨v, s⟩ := h.st
  subst hp
  exact topen_yes s hh
theorem nopen_no (h : NowS w0 w O t sb first n f) (hh : first + n = 400) :
    Calls Try.prog 32 #[ptr sb] w fun e w' => e = .returned (.tuple #[.int .i64 0, .bool false]) ∧ Below w.heap.size w w' := by
  obtain ⟨v, s⟩ := h.st
  exact topen_no s hh
theorem nclosed (h : NowS w0 w O t sb first n f) :
    Calls Try.prog 35 #[ptr sb] w fun e w' => e = .returned (.slice (some ⟨w.heap.size, 0, none⟩) n n) ∧ Row w' w.heap.size n (fun j => first + j) ∧ Below w.heap.size w w' := by
  obtain ⟨v, s⟩ := h.st
  exact tclosed_any s
theorem ntouch_no (h : NowS w0 w O t sb first n f) (hh : first + n = 400) :
    Calls Try.prog 34 #[ptr sb] w fun e w' => e = .returned (.int .i64 8) ∧ Below w.heap.size w w' := by
  obtain ⟨v, s⟩ := h.st
  exact ttouch_no s hh
theorem ntouch_yes (h : NowS w0 w O t sb first n f) (ht : t ≠ 0) (hh : first + n ≤ 399) :
    Calls Try.prog 34 #[ptr sb] w fun e w' => e = .returned (.int .i64 0) ∧ NowS w0 w' O t sb first n (updB f n true) ∧ Step w0.heap.size O t w O w' := by
  obtain ⟨v, s⟩ := h.st
  refine (ttouch_yes s h.fin hh).mono ?_
  rintro e w' ⟨rfl, a, b⟩
  exact ⟨rfl, ⟨⟨_, a⟩, b.fin, h.low.trans (b.below h.fin ht h.low.size)⟩, b⟩
theorem nclose_no (h : NowS w0 w O t sb first n f) (hh : first + n = 400) :
    Calls Try.prog 33 #[ptr sb] w fun e w' => e = .returned (.int .i64 8) ∧ Below w.heap.size w w' := by
  obtain ⟨v, s⟩ := h.st
  exact tclose_no s hh
theorem nclose_yes (h : NowS w0 w O t sb first n f) (ht : t ≠ 0) (hh : first + n ≤ 399) :
    Calls Try.prog 33 #[ptr sb] w fun e w' => e = .returned (.int .i64 0) ∧ ∃ O', NowS w0 w' O' t sb first (n + 1) (updB f (n + 1) false) ∧ Step w0.heap.size O t w O' w' := by
  obtain ⟨v, s⟩ := h.st
  refine (tclose_yes s h.fin h.low.size hh).mono ?_
  rintro e w' ⟨rfl, v', O', a, b⟩
  exact ⟨rfl, O', ⟨⟨_, a⟩, b.fin, h.low.trans (b.below h.fin ht h.low.size)⟩, b⟩
theorem nreopen_none (h : NowS w0 w O t sb first 0 f) :
    Calls Try.prog 36 #[ptr sb] w fun e w' => e = .returned (.int .i64 3) ∧ w = w' := by
  obtain ⟨v, s⟩ := h.st
  exact treopen_none s
theorem nreopen_held (h : NowS w0 w O t sb first n f) (hn : 0 < n) (hf : f n = true) :
    Calls Try.prog 36 #[ptr sb] w fun e w' => e = .returned (.int .i64 8) ∧ w = w' := by
  obtain ⟨v, s⟩ := h.st
  exact treopen_held s hn hf
theorem nreopen_ok (h : NowS w0 w O t sb first (n + 1) f) (ht : t ≠ 0) (hf : f (n + 1) = false) :
    Calls Try.prog 36 #[ptr sb] w fun e w' => e = .returned (.int .i64 0) ∧ NowS w0 w' O t sb first n f ∧ Step w0.heap.size O t w O w' := by
  obtain ⟨v, s⟩ := h.st
  refine (treopen_ok s h.fin hf).mono ?_
  rintro e w' ⟨rfl, v', a, b⟩
  exact ⟨rfl, ⟨⟨_, a⟩, b.fin, h.low.trans (b.below h.fin ht h.low.size)⟩, b⟩
end
theorem wakes8_any (w : World) : Calls Try.prog 37 #[] w fun e w' => e = .returned (.bool true) ∧ Below w.heap.size w w' := by
  go_enter Try.func37, Try.ntmps37
  go_wp2_with fail
  refine (tnew_yes 7 _ (by omega) (by omega)).mono ?_
  rintro e w1 ⟨rfl, rfl⟩
  obtain ⟨nw, _⟩ := nows_new w w (fun _ => 0) (Fin0.zero _ _) (Below.refl _ _) 1 7 (by omega) (by omega)
  have NN := Lib.hid nw
  clear nw
  go_wp2_with fail
  refine (nopen_yes NN.out 7 (by omega) (by omega)).mono ?_
  rintro e w1 ⟨rfl, hb⟩
  have HL := Lib.hid (NN.out.low.trans (hb.mono NN.out.low.size))
  clear hb
  go_wp2
  go_ret
  exact ⟨rfl, HL.out⟩
set_option maxHeartbeats 4000000 in
set_option maxRecDepth 100000 in
theorem statusEnd_walk (a0 : Int) (w : World) (_w0 : (Lit.int .i64 a0).wf = true) :
    Calls Try.prog 8 #[.int .i64 a0] w fun e w' => e = .returned (.bool true) ∧ Below w.heap.size w w' := by
  clear _w0
  go_enter Try.func8, Try.ntmps8
  go_wp2_with fail
  refine (within_some _ _ _ (by omega) (by omega)).mono ?_
  rintro e w' ⟨q, q1, q2, rfl, rfl⟩
  obtain ⟨n, rfl⟩ : ∃ n : Nat, q = n := ⟨q.toNat, by omega⟩
  have e1 : IntKind.i64.wrap (399 - (n : Int)) = 399 - (n : Int) := IntWalk.i64_in _ (by omega)
  go_wp2_with fail
  refine (tnew_yes (399 - (n : Int)) _ (by omega) (by omega)).mono ?_
  rintro e w1 ⟨rfl, rfl⟩
  obtain ⟨nw, _⟩ := nows_new w w (fun _ => 0) (Fin0.zero _ _) (Below.refl _ _) 1 (399 - (n : Int)) (by omega) (by omega)
  have NN := Lib.hid nw
  clear nw
  go_wp2
  go_loopg [5] (n + 1) (fun gh i wr => ∃ (k : Nat) (O : Nat → Nat) (f : Nat → Bool), k ≤ n + 1 ∧ gh = n + 1 - k ∧ i = .int .i64 k ∧ f k = false ∧ NowS w wr O 1 w.heap.size (399 - (n : Int)) k f)
  case atStart => exact ⟨0, _, _, by omega, rfl, rfl, rfl, NN.out⟩
  case round =>
    obtain ⟨k, O, f, hk, hgk, rfl, hf, hn1⟩ := hrel
    have HGK := Lib.hid hgk
    have N1 := Lib.hid hn1
    have HF := Lib.hid hf
    clear hgk hn1 NN hf
    by_cases hlt : k ≤ n
    · have e2 : IntKind.i64.wrap (399 - (n : Int) + (k : Int)) = 399 - (n : Int) + (k : Int) := IntWalk.i64_in _ (by omega)
      go_wp2_with fail
      refine (nopen_yes N1.out (399 - (n : Int) + (k : Int)) rfl (by omega)).mono ?_
      rintro e w2 ⟨rfl, hb⟩
      have N2 := Lib.hid (N1.out.below hb)
      clear hb
      go_wp2_with fail
      refine (nclose_yes N2.out (by decide) (by omega)).mono ?_
      rintro e w3 ⟨rfl, O3, n3, _⟩
      have N3 := Lib.hid n3
      clear n3
      go_wp2
      go_roundg (n + 1 - (k + 1))
      case measure => have := HGK.out; omega
      case rel => exact ⟨k + 1, O3, updB f (k + 1) false, by omega, rfl, by go_num, updB_at _ _ _, N3.out⟩
    · obtain rfl : k = n + 1 := by omega
      clear hlt
      have c4 : Hid (399 - (n : Int) + ((n + 1 : Nat) : Int) = 400) := Lib.hid (by omega)
      go_wp2_with fail
      refine (nopen_no N1.out c4.out).mono ?_
      rintro e w2 ⟨rfl, hb⟩
      have N2 := Lib.hid (N1.out.below hb)
      clear hb
      go_wp2_with fail
      refine (ntouch_no N2.out c4.out).mono ?_
      rintro e w3 ⟨rfl, hb⟩
      have N3 := Lib.hid (N2.out.below hb)
      clear hb
      go_wp2_with fail
      refine (nclose_no N3.out c4.out).mono ?_
      rintro e w4 ⟨rfl, hb⟩
      have N4 := Lib.hid (N3.out.below hb)
      clear hb
      go_wp2_with fail
      refine (nclosed N4.out).mono ?_
      rintro e w5 ⟨rfl, _, hb⟩
      have N5 := Lib.hid (N4.out.below hb)
      clear hb
      go_wp2_with fail
      refine (nreopen_ok N5.out (by decide) HF.out).mono ?_
      rintro e w6 ⟨rfl, n6, _⟩
      have N6 := Lib.hid n6
      clear n6
      go_wp2_with fail
      refine (nopen_yes N6.out 399 (by omega) (by omega)).mono ?_
      rintro e w7 ⟨rfl, hb⟩
      have N7 := Lib.hid (N6.out.below hb)
      clear hb
      go_wp2_with fail
      refine (tnew_no (-1) _ (by omega)).mono ?_
      rintro e w8 ⟨rfl, rfl⟩
      go_wp2_with fail
      refine (tnew_no 400 _ (by omega)).mono ?_
      rintro e w8 ⟨rfl, rfl⟩
      go_wp2_with fail
      refine (ntouch_yes N7.out (by decide) (by omega)).mono ?_
      rintro e w8 ⟨rfl, n8, _⟩
      have N8 := Lib.hid n8
      clear n8
      go_wp2_with fail
      refine (nclose_yes N8.out (by decide) (by omega)).mono ?_
      rintro e w9 ⟨rfl, O9, n9, _⟩
      have N9 := Lib.hid n9
      clear n9
      go_wp2_with fail
      refine (wakes8_any _).mono ?_
      rintro e w10 ⟨rfl, hb⟩
      have HL := Lib.hid (N9.out.low.trans (hb.mono N9.out.low.size))
      clear hb
      go_wp2
      go_ret
      exact ⟨rfl, HL.out⟩
set_option maxHeartbeats 4000000 in
set_option maxRecDepth 100000 in
theorem statusBack_walk (a0 a1 a2 : Int) (w : World) (_w0 : (Lit.int .i64 a0).wf = true) (_w1 : (Lit.int .i64 a1).wf = true) (_w2 : (Lit.int .i64 a2).wf = true) :
    Calls Try.prog 11 #[.int .i64 a0, .int .i64 a1, .int .i64 a2] w fun e w' => e = .returned (.bool true) ∧ Below w.heap.size w w' := by
  clear _w0 _w1 _w2
  go_enter Try.func11, Try.ntmps11
  go_wp2_with fail
  refine (within_some _ _ _ (by omega) (by omega)).mono ?_
  rintro e w' ⟨fi, f1, f2, rfl, rfl⟩
  go_wp2_with fail
  refine (within_some _ _ _ (by omega) (by omega)).mono ?_
  rintro e w' ⟨q, q1, q2, rfl, rfl⟩
  obtain ⟨n, hn⟩ : ∃ n : Nat, 1 + q = n := ⟨(1 + q).toNat, by omega⟩
  have n1 : 1 ≤ n := by omega
  have n2 : n ≤ 6 := by omega
  have e1 : IntKind.i64.wrap (1 + q) = (n : Int) := by rw [← hn]; exact IntWalk.i64_in _ (by omega)
  have e2 : IntKind.i64.wrap ((n : Int) + 1) = (n : Int) + 1 := IntWalk.i64_in _ (by omega)
  clear hn
  go_wp2_with fail
  refine (within_some _ _ _ (by omega) (by omega)).mono ?_
  rintro e w' ⟨q', q3, q4, rfl, rfl⟩
  obtain ⟨T, rfl⟩ : ∃ T : Nat, q' = T := ⟨q'.toNat, by omega⟩
  have hT : T ≤ n := by omega
  clear q3 q4 e1 e2 q1 q2
  go_wp2_with fail
  refine (tnew_yes fi _ (by omega) (by omega)).mono ?_
  rintro e w1 ⟨rfl, rfl⟩
  obtain ⟨nw, _⟩ := nows_new w w (fun _ => 0) (Fin0.zero _ _) (Below.refl _ _) 1 fi (by omega) (by omega)
  have NN := Lib.hid nw
  clear nw
  go_wp2
  go_loopg [9] n (fun gh i wr => ∃ (k : Nat) (O : Nat → Nat) (f : Nat → Bool), k ≤ n ∧ gh = n - k ∧ i = .int .i64 k ∧ (∀ j, j ≤ k → f j = decide (j = T ∧ j < k)) ∧ NowS w wr O 1 w.heap.size fi k f)
  case atStart => exact ⟨0, _, _, by omega, rfl, rfl, fun j _ => (by simp), NN.out⟩
  case round =>
    obtain ⟨k, O, f, hk, hgk, rfl, hf, hn1⟩ := hrel
    have HGK := Lib.hid hgk
    have N1 := Lib.hid hn1
    have HF := Lib.hid hf
    clear hgk hn1 NN hf
    by_cases hlt : k < n
    · by_cases hkT : k = T
      · subst hkT
        go_wp2_with fail
        refine (ntouch_yes N1.out (by decide) (by omega)).mono ?_
        rintro e w2 ⟨rfl, n2', _⟩
        have N2 := Lib.hid n2'
        clear n2'
        go_wp2_with fail
        refine (nclose_yes N2.out (by decide) (by omega)).mono ?_
        rintro e w3 ⟨rfl, O3, n3, _⟩
        have N3 := Lib.hid n3
        clear n3
        go_wp2
        go_roundg (n - (k + 1))
        case measure => have := HGK.out; omega
        case rel => exact ⟨k + 1, O3, _, by omega, rfl, by go_num, fun j hj => (by
          by_cases p1 : j = k + 1
          · subst p1; rw [updB_at]; simp
          · rw [updB_ne _ _ p1]
            by_cases p2 : j = k
            · subst p2; rw [updB_at]; simp
            · rw [updB_ne _ _ p2, HF.out j (by omega)]; simp [p2]), N3.out⟩
      · have hb : ((k : Int) == (T : Int)) = false := by simp; omega
        go_wp2_with fail
        refine (nclose_yes N1.out (by decide) (by omega)).mono ?_
        rintro e w3 ⟨rfl, O3, n3, _⟩
        have N3 := Lib.hid n3
        clear n3
        go_wp2
        go_roundg (n - (k + 1))
        case measure => have := HGK.out; omega
        case rel => exact ⟨k + 1, O3, _, by omega, rfl, by go_num, fun j hj => (by
          by_cases p1 : j = k + 1
          · subst p1; rw [updB_at]; simp
          · rw [updB_ne _ _ p1, HF.out j (by omega)]
            have : (j = T ∧ j < k) = (j = T ∧ j < k + 1) := by
              refine propext ⟨fun h => ⟨h.1, by omega⟩, fun h => ⟨h.1, ?_⟩⟩
              rcases Nat.lt_or_ge j k with q | q
              · exact q
              · exact absurd (show k = T by omega) hkT
            simp only [this]), N3.out⟩
    · obtain rfl : k = n := by omega
      clear hlt HGK
      have e3 : IntKind.i64.wrap ((k : Int) - 1) = (k : Int) - 1 := IntWalk.i64_in _ (by omega)
      go_wp2
      go_loopg [10] k (fun gh i wx => ∃ (m : Nat) (z : Int) (O : Nat → Nat), m ≤ k ∧ gh = m ∧ z = (m : Int) - 1 ∧ i = .int .i64 z ∧ NowS w wx O 1 w.heap.size fi m f)
      case atStart => exact ⟨k, _, O, Nat.le_refl _, rfl, rfl, rfl, N1.out⟩
      case round =>
        obtain ⟨m, z, O', hm, hgm, hz, rfl, hn1⟩ := hrel
        have HGM := Lib.hid hgm
        have N1' := Lib.hid hn1
        clear hgm hn1 N1 e3
        by_cases hm0 : m = 0
        · subst hm0
          have hz' : ¬ 0 ≤ z := by omega
          clear hz
          go_wp2_with fail
          refine (nreopen_none N1'.out).mono ?_
          rintro e w3 ⟨rfl, rfl⟩
          go_wp2_with fail
          refine (wakes8_any _).mono ?_
          rintro e w10 ⟨rfl, hb⟩
          have HL := Lib.hid (N1'.out.low.trans (hb.mono N1'.out.low.size))
          clear hb
          go_wp2
          go_ret
          exact ⟨rfl, HL.out⟩
        · obtain ⟨p, rfl⟩ : ∃ p, m = p + 1 := ⟨m - 1, by omega⟩
          obtain rfl : z = (p : Int) := by omega
          clear hz hm0
          have e4 : IntKind.i64.wrap ((p : Int) + 1) = (p : Int) + 1 := IntWalk.i64_in _ (by omega)
          have e5 : IntKind.i64.wrap (fi + (p : Int)) = fi + (p : Int) := IntWalk.i64_in _ (by omega)
          have e6 : IntKind.i64.wrap (fi + (p : Int) + 1) = fi + (p : Int) + 1 := IntWalk.i64_in _ (by omega)
          have e7 : IntKind.i64.wrap ((p : Int) - 1) = (p : Int) - 1 := IntWalk.i64_in _ (by omega)
          by_cases hpT : p + 1 = T ∧ p + 1 < k
          · have fp : Hid (f (p + 1) = true) := Lib.hid (by rw [HF.out (p + 1) hm]; simpa using hpT)
            have b1 : ((p : Int) + 1 == (T : Int)) = true := by simp; omega
            have b2 : ((T : Int) == (k : Int)) = false := by simp; omega
            clear hpT
            go_wp2_with fail
            refine (nreopen_held N1'.out (by omega) fp.out).mono ?_
            rintro e w3 ⟨rfl, rfl⟩
            go_wp2_with fail
            refine (nopen_yes N1'.out (fi + (p : Int) + 1) (by omega) (by omega)).mono ?_
            rintro e w4 ⟨rfl, hb⟩
            have N4 := Lib.hid (N1'.out.below hb)
            clear hb
            go_wp2_with fail
            refine (nclosed N4.out).mono ?_
            rintro e w5 ⟨rfl, _, hb⟩
            have N5 := Lib.hid (N4.out.below hb)
            clear hb
            go_wp2_with fail
            refine (wakes8_any _).mono ?_
            rintro e w10 ⟨rfl, hb⟩
            have HL := Lib.hid (N5.out.low.trans (hb.mono N5.out.low.size))
            clear hb
            go_wp2
            go_ret
            exact ⟨rfl, HL.out⟩
          · have fp : Hid (f (p + 1) = false) := Lib.hid (by rw [HF.out (p + 1) hm]; simpa using hpT)
            rcases (show (p + 1 = T ∧ T = k) ∨ p + 1 ≠ T by omega) with ⟨r1, r2⟩ | r1
            · have b1 : ((p : Int) + 1 == (T : Int)) = true := by simp; omega
              have b2 : ((T : Int) == (k : Int)) = true := by simp; omega
              clear hpT r1 r2
              go_wp2_with fail
              refine (nreopen_ok N1'.out (by decide) fp.out).mono ?_
              rintro e w3 ⟨rfl, n3, _⟩
              have N3 := Lib.hid n3
              clear n3
              go_wp2_with fail
              refine (nopen_yes N3.out (fi + (p : Int)) rfl (by omega)).mono ?_
              rintro e w4 ⟨rfl, hb⟩
              have N4 := Lib.hid (N3.out.below hb)
              clear hb
              go_wp2_with fail
              refine (nclosed N4.out).mono ?_
              rintro e w5 ⟨rfl, _, hb⟩
              have N5 := Lib.hid (N4.out.below hb)
              clear hb
              go_wp2
              go_roundg p
              case measure => have := HGM.out; omega
              case rel => exact ⟨p, _, O', by omega, rfl, rfl, rfl, N5.out⟩
            · have b1 : ((p : Int) + 1 == (T : Int)) = false := by simp; omega
              clear hpT r1
              go_wp2_with fail
              refine (nreopen_ok N1'.out (by decide) fp.out).mono ?_
              rintro e w3 ⟨rfl, n3, _⟩
              have N3 := Lib.hid n3
              clear n3
              go_wp2_with fail
              refine (nopen_yes N3.out (fi + (p : Int)) rfl (by omega)).mono ?_
              rintro e w4 ⟨rfl, hb⟩
              have N4 := Lib.hid (N3.out.below hb)
              clear hb
              go_wp2_with fail
              refine (nclosed N4.out).mono ?_
              rintro e w5 ⟨rfl, _, hb⟩
              have N5 := Lib.hid (N4.out.below hb)
              clear hb
              go_wp2
              go_roundg p
              case measure => have := HGM.out; omega
              case rel => exact ⟨p, _, O', by omega, rfl, rfl, rfl, N5.out⟩
end Go.Proofs.Ytpbpflhoeidpnaa
