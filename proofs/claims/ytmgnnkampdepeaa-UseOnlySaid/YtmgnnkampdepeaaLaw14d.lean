/- UseOnly: the law's own question 'right', two lists held against each other; its walk. -/
import Derived.Test.YtmgnnkampdepeaaLaw14b
import Derived.WalkKit
import Derived.WalkSpells
import Derived.WalkLawsBesides
import Derived.Lib.Hide
import Derived.IntWalk
import Derived.BigQuiet
import Derived.Deep.LoopGhost
import Derived.Deep.QuietTactic
import Derived.Deep.DeepCutAuto
import Derived.Deep.RegionLaw
namespace Go.Proofs.Ytmgnnkampdepeaa
open Go.RowKit

/-- two lists of one length: are they the same? -/
theorem same_iff (A A' : Option Addr) (n c c' : Nat) (g g' : Nat → Int) (w : World) (h : At w A n g) (h' : At w A' n g') (hn : n ≤ 1000000) (b : Bool) (hb : b = true ↔ ∀ j, j < n → g j = g' j) :
    Calls Try.prog 13 #[.slice A n c, .slice A' n c'] w fun e w' => e = .returned (.bool b) ∧ Below w.heap.size w w' := by
  have H1 := Lib.hid h
  have H2 := Lib.hid h'
  have HB := Lib.hid hb
  have ee : ((n : Int) != (n : Int)) = false := by simp
  clear h h' hb
  go_enter Try.func13, Try.ntmps13
  go_wp2
  go_loopg [5] n (fun gh i wr => ∃ k : Nat, k ≤ n ∧ gh = n - k ∧ i = .int .i64 k ∧ (∀ j, j < k → g j = g' j) ∧ Below w.heap.size w wr)
  case atStart => exact ⟨0, Nat.zero_le _, rfl, rfl, fun j hj => by omega, Below.refl _ _⟩
  case round =>
    obtain ⟨k, hk, hgk, rfl, hsame, hbw⟩ := hrel
    have HGK := Lib.hid hgk
    have HW := Lib.hid hbw
    have HS := Lib.hid hsame
    clear hgk hbw hsame
    by_cases hlt : k < n
    · obtain ⟨b1, o1, rfl, _, hc1⟩ := (H1.out.below HW.out).some (by omega)
      obtain ⟨b2, o2, rfl, _, hc2⟩ := (H2.out.below HW.out).some (by omega)
      have q1 := hc1 k hlt
      have q2 := hc2 k hlt
      have k0 : (0 : Int) ≤ (k : Int) := by omega
      have k1 : (k : Int) < (n : Int) := by omega
      clear hc1 hc2
      by_cases e : g k = g' k
      · have HE := Lib.hid e
        have e' : (g k != g' k) = false := by simpa using e
        clear e
        go_wp2
        go_big_quiet (fail)
        go_wp2
        go_roundg (n - (k + 1))
        case measure => have := HGK.out; omega
        case rel => exact ⟨k + 1, by omega, rfl, by go_num, fun j hj => (by
            by_cases z : j = k
            · rw [z]; exact HE.out
            · exact HS.out j (by omega)), below_drewN HW.out _⟩
      · have HR : Hid (false = b) := Lib.hid (by
          cases hq : b with
          | false => rfl
          | true => exact absurd (HB.out.1 hq k hlt) e)
        have e' : (g k != g' k) = true := by simpa using e
        clear e
        go_wp2
        go_big_quiet (fail)
        go_wp2
        go_ret
        exact ⟨ret_b HR.out, below_drewN HW.out _⟩
    · obtain rfl : k = n := by omega
      have HR : Hid (true = b) := Lib.hid (HB.out.2 HS.out).symm
      clear hlt
      go_wp2
      go_ret
      exact ⟨ret_b HR.out, HW.out⟩
theorem whole_succ {g : Nat → Bk} {year : Int} {u : Nat → Int} {k : Nat} : Whole g year u (k + 1) ↔ Whole g year u k ∧ (year ≤ (g k).c → u k = (g k).a) := by
  constructor
  · exact fun h => ⟨fun j hj hy => h j (by omega) hy, fun hy => h k (by omega) hy⟩
  · rintro ⟨h1, h2⟩ j hj hy
    by_cases e : j = k
    · rw [e] at hy ⊢; exact h2 hy
    · exact h1 j (by omega) hy
/-- what the law keeps of that -/
def WB (bw : Bool) (g : Nat → Bk) (year : Int) (u : Nat → Int) (k : Nat) : Prop := bw = true ↔ Whole g year u k
set_option maxHeartbeats 8000000 in
set_option maxRecDepth 100000 in
theorem right14 (A : Option Addr) (n c : Nat) (g : Nat → Bk) (U : Option Addr) (cu : Nat) (u : Nat → Int) (x y : Int) (w : World) (hr : AtR ve 3 w A n g) (hn : n ≤ 1000) (pos : ∀ j, j < n → 1 ≤ (g j).a) (all : btot g n ≤ 100000000000) (hu : At w U n u) (ub : ∀ j, j < n → -10000 ≤ u j ∧ u j ≤ 10000) (b : Bool) (hb : b = true ↔ RightU g x y n u) :
    Calls Try.prog 20 #[.slice A n c, .int .i64 x, .int .i64 y, .slice U n cu] w fun e w' => e = .returned (.bool b) ∧ Below w.heap.size w w' := by
  have H1 := Lib.hid hr
  have H2 := Lib.hid hu
  have HB := Lib.hid hb
  have HU := Lib.hid ub
  have HP := Lib.hid (show (∀ j, j < n → 0 ≤ (g j).a) ∧ (∀ k, k ≤ n → 0 ≤ EU g x k ∧ EU g x k ≤ 100000000000) ∧ ∀ j, j < n → 1 ≤ (g j).a ∧ (g j).a ≤ 100000000000 by
    have p0 : ∀ j, j < n → 0 ≤ (g j).a := fun j hj => by have := pos j hj; omega
    refine ⟨p0, fun k hk => ?_, fun j hj => ?_⟩
    · have h1 := EU_nonneg (year := x) p0 hk
      have h2 := EU_mono (year := x) p0 hk (Nat.le_refl n)
      have h3 := EU_all (year := x) p0
      omega
    · have h1 := tot_one_le (g := fun j => (g j).a) n p0 j hj
      have h2 : btot g n = tot (fun j => (g j).a) n := rfl
      have := pos j hj
      omega)
  have ee : ((n : Int) != (n : Int)) = false := by simp
  clear hr hu hb ub pos all
  go_enter Try.func20, Try.ntmps20
  go_wp2
  go_loopg [9, 10, 11, 21] n (fun gh s9 s10 s11 i wr => ∃ (k : Nat) (bw : Bool), k ≤ n ∧ gh = n - k ∧ i = .int .i64 k ∧ s9 = .int .i64 (tot u k) ∧ s10 = .int .i64 (EU g x k) ∧ s11 = .bool bw ∧ WB bw g x u k ∧ (∀ j, j < k → RowOk g x u j) ∧ Below w.heap.size w wr)
  case atStart => exact ⟨0, true, Nat.zero_le _, rfl, rfl, rfl, rfl, rfl, ⟨fun _ j hj => by omega, fun _ => rfl⟩, fun j hj => by omega, Below.refl _ _⟩
  case round =>
    obtain ⟨k, bw, hk, hgk, rfl, rfl, rfl, rfl, hbw, hrow, hbl⟩ := hrel
    have HGK := Lib.hid hgk
    have HW := Lib.hid hbl
    have HR := Lib.hid hrow
    have HWH := Lib.hid hbw
    clear hgk hbl hrow hbw
    by_cases hlt : k < n
    · obtain ⟨b1, o1, rfl, _, r0, r1, r2⟩ := (H1.out.below HW.out).threeV hlt
      obtain ⟨L, hL⟩ : ∃ L, (g k).a = L := ⟨_, rfl⟩
      rw [hL] at r2
      have K6 := Lib.hid (HW.out.alloc HW.out.size (.cells #[.int .i64 (g k).y, .int .i64 (g k).c, .int .i64 L] 31))
      obtain ⟨b2, o2, rfl, _, hc2⟩ := (H2.out.below K6.out).some (by omega)
      have q2 := hc2 k hlt
      have k0 : (0 : Int) ≤ (k : Int) := by omega
      have k1 : (k : Int) < (n : Int) := by omega
      have hu := HU.out k hlt
      have hp := HP.out.2.2 k hlt
      have he := HP.out.2.1 k (by omega)
      have htb := tot_bd u k fun j hj => (by have := HU.out j (by omega); unfold Mon; omega)
      have HTU : Hid (tot u (k + 1) = tot u k + u k) := Lib.hid rfl
      have HEU : Hid (EU g x (k + 1) = EU g x k + if (g k).c < x then 0 else (g k).a) := Lib.hid rfl
      obtain ⟨V, hV⟩ : ∃ V, u k = V := ⟨_, rfl⟩
      obtain ⟨T, hT⟩ : ∃ T, tot u k = T := ⟨_, rfl⟩
      obtain ⟨E, hE⟩ : ∃ E, EU g x k = E := ⟨_, rfl⟩
      have HROW : Hid (RowOk g x u k ↔ (0 ≤ V ∧ V ≤ L ∧ ((g k).c < x → V = 0) ∧ (0 < V → bw = true))) := Lib.hid (by
        unfold RowOk
        rw [hV, hL, ← show bw = true ↔ Whole g x u k from HWH.out])
      have HWS : Hid (Whole g x u (k + 1) ↔ (bw = true ∧ (x ≤ (g k).c → V = L))) := Lib.hid (by rw [whole_succ, hV, hL, ← show bw = true ↔ Whole g x u k from HWH.out])
      rw [hV] at q2 hu HTU
      rw [hL] at hp HEU
      rw [hT] at htb HTU
      rw [hE] at he HEU
      rw [hT, hE]
      have bad : ¬ RowOk g x u k → Hid (false = b) := fun z => Lib.hid (by
        cases hq : b with
        | false => rfl
        | true => exact absurd ((HB.out.1 hq).1 k hlt) z)
      have HGOOD : Hid (RowOk g x u k → ∀ j, j < k + 1 → RowOk g x u j) := Lib.hid fun z j hj => (by
        by_cases e : j = k
        · rw [e]; exact z
        · exact HR.out j (by omega))
      have ew1 : IntKind.i64.wrap (T + V) = T + V := IntWalk.i64_in _ (by omega)
      have ew2 : IntKind.i64.wrap (E + L) = E + L := IntWalk.i64_in _ (by omega)
      clear hc2 hV hL hT hE htb he
      have ways : (¬ RowOk g x u k ∧ (V < 0 ∨ (¬ V < 0 ∧ L < V) ∨ (¬ V < 0 ∧ ¬ L < V ∧ (g k).c < x ∧ V ≠ 0) ∨ (¬ V < 0 ∧ ¬ L < V ∧ ¬ (g k).c < x ∧ 0 < V ∧ bw = false))) ∨ (RowOk g x u k ∧ ¬ V < 0 ∧ ¬ L < V ∧ (((g k).c < x ∧ V = 0) ∨ (¬ (g k).c < x ∧ V = 0) ∨ (¬ (g k).c < x ∧ 0 < V ∧ bw = true ∧ V = L) ∨ (¬ (g k).c < x ∧ 0 < V ∧ bw = true ∧ V ≠ L))) := by
        by_cases z : RowOk g x u k
        · have z' := HROW.out.1 z
          refine .inr ⟨z, by omega, by omega, ?_⟩
          by_cases hc : (g k).c < x
          · exact .inl ⟨hc, z'.2.2.1 hc⟩
          · by_cases h0 : 0 < V
            · have hb := z'.2.2.2 h0
              by_cases hl : V = L
              · exact .inr (.inr (.inl ⟨hc, h0, hb, hl⟩))
              · exact .inr (.inr (.inr ⟨hc, h0, hb, hl⟩))
            · exact .inr (.inl ⟨hc, by omega⟩)
        · refine .inl ⟨z, ?_⟩
          have z' := fun q => z (HROW.out.2 q)
          by_cases h1 : V < 0
          · exact .inl h1
          · by_cases h2 : L < V
            · exact .inr (.inl ⟨h1, h2⟩)
            · by_cases hc : (g k).c < x
              · refine .inr (.inr (.inl ⟨h1, h2, hc, fun h0 => z' ⟨by omega, by omega, fun _ => h0, fun h => by omega⟩⟩))
              · refine .inr (.inr (.inr ⟨h1, h2, hc, ?_⟩))
                by_cases h0 : 0 < V
                · cases hq : bw with
                  | false => exact ⟨h0, rfl⟩
                  | true => exact absurd ⟨by omega, by omega, fun h => absurd h hc, fun _ => hq⟩ z'
                · exact absurd ⟨by omega, by omega, fun h => absurd h hc, fun h => absurd h h0⟩ z'
      rcases ways with ⟨z, hq⟩ | ⟨z, h1, h2, hq⟩
      · have RB := bad z
        clear bad z
        rcases hq with h1 | ⟨h1, h2⟩ | ⟨h1, h2, h3, h4⟩ | ⟨h1, h2, h3, h4, h5⟩
        · have d1 : decide (V < 0) = true := by simpa using h1
          clear h1
          go_wp2
          go_big_quiet (fail)
          go_wp2
          go_ret
          exact ⟨ret_b RB.out, below_drewN K6.out _⟩
        · have d1 : decide (V < 0) = false := by simpa using h1
          have d2 : decide (L < V) = true := by simpa using h2
          clear h1 h2
          go_wp2
          go_big_quiet (fail)
          go_wp2
          go_ret
          exact ⟨ret_b RB.out, below_drewN K6.out _⟩
        · have d1 : decide (V < 0) = false := by simpa using h1
          have d2 : decide (L < V) = false := by simpa using h2
          have d3 : decide ((g k).c < x) = true := by simpa using h3
          have d4 : (V != 0) = true := by simpa using h4
          clear h1 h2 h3 h4
          go_wp2
          go_big_quiet (fail)
          go_wp2
          go_ret
          exact ⟨ret_b RB.out, below_drewN K6.out _⟩
        · subst h5
          have d1 : decide (V < 0) = false := by simpa using h1
          have d2 : decide (L < V) = false := by simpa using h2
          have d3 : decide ((g k).c < x) = false := by simpa using h3
          have d4 : decide (0 < V) = true := by simpa using h4
          clear h1 h2 h3 h4
          go_wp2
          go_big_quiet (fail)
          go_wp2
          go_ret
          exact ⟨ret_b RB.out, below_drewN K6.out _⟩
      · have GD := Lib.hid (HGOOD.out z)
        have d1 : decide (V < 0) = false := by simpa using h1
        have d2 : decide (L < V) = false := by simpa using h2
        clear bad z h1 h2
        rcases hq with ⟨h3, h4⟩ | ⟨h3, h4⟩ | ⟨h3, h4, rfl, h5⟩ | ⟨h3, h4, rfl, h5⟩
        · have d3 : decide ((g k).c < x) = true := by simpa using h3
          have d3' : decide (x ≤ (g k).c) = false := by simpa using h3
          have d4 : (V != 0) = false := by simpa using h4
          have d5 : decide (0 < V) = false := by simp; omega
          have HE2 : Hid (EU g x (k + 1) = E) := Lib.hid (by rw [HEU.out, if_pos h3]; omega)
          have HW2 : Hid (WB bw g x u (k + 1)) := Lib.hid (by unfold WB; rw [HWS.out]; exact ⟨fun q => ⟨q, fun q2 => by omega⟩, fun q => q.1⟩)
          clear h3 h4
          go_wp2
          go_big_quiet (fail)
          go_wp2
          go_roundg (n - (k + 1))
          case measure => have := HGK.out; omega
          case rel => exact ⟨k + 1, bw, by omega, rfl, by go_num, congrArg (Value.int .i64) HTU.out.symm, congrArg (Value.int .i64) HE2.out.symm, rfl, HW2.out, GD.out, below_drewN K6.out _⟩
        · have d3 : decide ((g k).c < x) = false := by simpa using h3
          have d3' : decide (x ≤ (g k).c) = true := by simpa using h3
          have d5 : decide (0 < V) = false := by simp; omega
          have d6 : (V == L) = false := by simp; omega
          have HE2 : Hid (EU g x (k + 1) = E + L) := Lib.hid (by rw [HEU.out, if_neg h3])
          have HW2 : Hid (WB false g x u (k + 1)) := Lib.hid (by unfold WB; rw [HWS.out]; exact ⟨fun q => (by cases q), fun q => by have := q.2 (by omega); omega⟩)
          clear h3 h4 HWS HROW HWH
          cases bw
          all_goals
            go_wp2
            go_big_quiet (fail)
            go_wp2
            go_big_quiet (fail)
            go_wp2
            go_roundg (n - (k + 1))
            case measure => have := HGK.out; omega
            case rel => exact ⟨k + 1, false, by omega, rfl, by go_num, congrArg (Value.int .i64) HTU.out.symm, congrArg (Value.int .i64) HE2.out.symm, rfl, HW2.out, GD.out, below_drewN K6.out _⟩
        · have d3 : decide ((g k).c < x) = false := by simpa using h3
          have d3' : decide (x ≤ (g k).c) = true := by simpa using h3
          have d5 : decide (0 < V) = true := by simpa using h4
          have d6 : (V == L) = true := by simpa using h5
          have HE2 : Hid (EU g x (k + 1) = E + L) := Lib.hid (by rw [HEU.out, if_neg h3])
          have HW2 : Hid (WB true g x u (k + 1)) := Lib.hid (by unfold WB; rw [HWS.out]; exact ⟨fun _ => ⟨rfl, fun _ => h5⟩, fun _ => rfl⟩)
          clear h3 h4 h5
          go_wp2
          go_big_quiet (fail)
          go_wp2
          go_big_quiet (fail)
          go_wp2
          go_roundg (n - (k + 1))
          case measure => have := HGK.out; omega
          case rel => exact ⟨k + 1, true, by omega, rfl, by go_num, congrArg (Value.int .i64) HTU.out.symm, congrArg (Value.int .i64) HE2.out.symm, rfl, HW2.out, GD.out, below_drewN K6.out _⟩
        · have d3 : decide ((g k).c < x) = false := by simpa using h3
          have d3' : decide (x ≤ (g k).c) = true := by simpa using h3
          have d5 : decide (0 < V) = true := by simpa using h4
          have d6 : (V == L) = false := by simpa using h5
          have HE2 : Hid (EU g x (k + 1) = E + L) := Lib.hid (by rw [HEU.out, if_neg h3])
          have HW2 : Hid (WB false g x u (k + 1)) := Lib.hid (by unfold WB; rw [HWS.out]; exact ⟨fun q => (by cases q), fun q => absurd (q.2 (by omega)) h5⟩)
          clear h3 h4 h5
          go_wp2
          go_big_quiet (fail)
          go_wp2
          go_big_quiet (fail)
          go_wp2
          go_roundg (n - (k + 1))
          case measure => have := HGK.out; omega
          case rel => exact ⟨k + 1, false, by omega, rfl, by go_num, congrArg (Value.int .i64) HTU.out.symm, congrArg (Value.int .i64) HE2.out.symm, rfl, HW2.out, GD.out, below_drewN K6.out _⟩
    · obtain rfl : k = n := by omega
      obtain ⟨T, hT⟩ : ∃ T, tot u k = T := ⟨_, rfl⟩
      obtain ⟨E, hE⟩ : ∃ E, EU g x k = E := ⟨_, rfl⟩
      have HQ : Hid (∀ m, m = min E y → (T == m) = b) := Lib.hid fun m hm => by
        have e : b = true ↔ T = m := by
          rw [HB.out]
          unfold RightU
          rw [hT, hE, hm]
          exact ⟨fun q => q.2, fun q => ⟨HR.out, q⟩⟩
        by_cases q : T = m
        · rw [e.2 q]; simpa using q
        · cases hb : b with
          | false => simpa using q
          | true => exact absurd (e.1 hb) q
      rw [hT, hE]
      clear hlt hT hE
      rcases (show y < E ∨ ¬ y < E by omega) with h1 | h1
      · have Q := Lib.hid (HQ.out y (by omega))
        go_wp2
        go_ret
        exact ⟨ret_b Q.out, HW.out⟩
      · have Q := Lib.hid (HQ.out E (by omega))
        go_wp2
        go_ret
        exact ⟨ret_b Q.out, HW.out⟩
set_option maxHeartbeats 8000000 in
set_option maxRecDepth 100000 in
theorem useOnly_walk (a0 : Option Addr) (len0 cap0 : Nat) (z0 : List Int) (a1 a2 : Int) (a3 : Option Addr) (len3 cap3 : Nat) (z3 : List Int) (w : World) (w0 : IsRow .i64 w a0 len0 cap0 z0) (_k1 : (Lit.int .i64 a1).wf = true) (_k2 : (Lit.int .i64 a2).wf = true) (w3 : IsRow .i64 w a3 len3 cap3 z3) :
    Calls Try.prog 6 #[.slice a0 len0 cap0, .int .i64 a1, .int .i64 a2, .slice a3 len3 cap3] w fun e w' => e = .returned (.bool true) ∧ Below w.heap.size w w' := by
  have W := Lib.hid fun w => wakes14_any w
  have CL := Lib.hid (plosses_some a0 len0 cap0 z0 w w0)
  obtain ⟨at3, hl3, _⟩ := w3.at
  obtain ⟨f3, hf3⟩ : ∃ f : Nat → Int, (fun j => z3.getD j 0) = f := ⟨_, rfl⟩
  rw [hf3] at at3
  have HL3 := Lib.hid at3
  obtain ⟨x, hx⟩ : ∃ x, a1 % 9 = x := ⟨_, rfl⟩
  obtain ⟨y, hy⟩ : ∃ y, a2 % 5000 = y := ⟨_, rfl⟩
  have HX := Lib.hid hx
  have HY := Lib.hid hy
  have y1 : 0 ≤ y := by omega
  have y2 : y < 5000 := by omega
  clear w0 w3 _k1 _k2 hx hy at3 hf3
  go_enter Try.func6, Try.ntmps6
  go_wp2_with fail
  refine (CL.out).mono ?_
  rintro e w1 ⟨sb, S, O, rfl, hnow⟩
  have LOW := Lib.hid hnow.low
  obtain ⟨v, n, g, s, iv⟩ := hnow.st
  have c0 := s.hd.c0
  obtain ⟨A, cc, rfl, hc, hm, _, ha⟩ := s.at
  have hn := iv.le
  have HAT := Lib.hid ha
  have IV := Lib.hid iv
  clear hnow s ha iv CL
  have CV := Lib.hid (puvec A n cc g x y w1 HAT.out ⟨hc, hm⟩ (by omega) (fun j hj => ⟨IV.out.pos j hj, by have := (IV.out.one hj).2; have := IV.out.all; omega⟩) (by omega))
  have HUB : Hid (∀ j, j < n → 0 ≤ usU g x y j ∧ usU g x y j < 5000) := Lib.hid fun j hj => by
    have h1 := us_room (year := x) (room := y) IV.out.pos (show j ≤ n by omega)
    have h2 := us_step (year := x) (room := y) IV.out.pos hj
    have h3 := (us_in (year := x) (room := y) IV.out.pos hj).1
    split at h2 <;> omega
  have CR := Lib.hid fun (U : Option Addr) (cu : Nat) (u : Nat → Int) (b : Bool) (w5 : World) (k5 : Below w1.heap.size w1 w5) (hu : At w5 U n u) (ub : ∀ j, j < n → -10000 ≤ u j ∧ u j ≤ 10000) (hb : b = true ↔ RightU g x y n u) => right14 A n cc g U cu u x y w5 (HAT.out.below k5) (by omega) (fun j hj => (IV.out.one hj).1) IV.out.all hu ub b hb
  go_wp2_with (first | (go_at_call 9; (with_reducible refine (within_at _ _ _ _ (by omega) (by omega) HX).mono ?_); rintro e w' ⟨rfl, rfl⟩) | (go_at_call 9; (with_reducible refine (within_at _ _ _ _ (by omega) (by omega) HY).mono ?_); rintro e w' ⟨rfl, rfl⟩))
  refine (CV.out).mono ?_
  rintro e w2 ⟨v2, rfl, ho2, hb2⟩
  have K2 := Lib.hid hb2
  have HO2 := Lib.hid ho2
  obtain ⟨A2, c2, rfl, h2c, h2m, hat2⟩ := ho2.at
  have C1 := Lib.hid (CR.out A2 c2 (usU g x y) true w2 K2.out hat2 (fun j hj => by have := HUB.out j hj; omega) ⟨fun _ => us_right IV.out.pos y1, fun _ => rfl⟩)
  clear ho2 hb2 hat2
  go_wp2_with fail
  refine (C1.out).mono ?_
  rintro e w4 ⟨rfl, hb4⟩
  have K4 := Lib.hid (K2.out.trans (hb4.mono K2.out.size))
  replace HO2 := Lib.hid (HO2.out.below hb4)
  have HO4 := HO2
  clear hb4 C1
  go_wp2_with fail
  refine (copy_own _ n w1.heap.size (usU g x y) w4 HO2.out (by omega)).mono ?_
  rintro e w5 ⟨v5, rfl, ho5, hb5⟩
  have K5 := Lib.hid (K4.out.trans (hb5.mono K4.out.size))
  replace HO2 := Lib.hid (HO2.out.below hb5)
  obtain ⟨A5, c5, rfl, h5c, h5m, _⟩ := ho5.at
  have HO5 := Lib.hid ho5
  clear ho5 hb5
  go_wp2
  go_loopg [36] n (fun gh i wr => ∃ (k : Nat) (f : Nat → Int), k ≤ n ∧ gh = n - k ∧ i = .int .i64 k ∧ (∀ j, j < n → -2 ≤ f j ∧ f j ≤ 5002) ∧ (∀ j, k ≤ j → j < n → f j = usU g x y j) ∧ Own wr 3 w4.heap.size (.slice A5 n c5) n f ∧ Below w4.heap.size w5 wr)
  case atStart => exact ⟨0, usU g x y, Nat.zero_le _, rfl, rfl, fun j hj => (by have := HUB.out j hj; omega), fun _ _ _ => rfl, HO5.out, Below.refl _ _⟩
  case round =>
    obtain ⟨k, f, hk, hgk, rfl, hfb, hfe, ho, hbw⟩ := hrel
    have HGK := Lib.hid hgk
    have HW := Lib.hid hbw
    have HO := Lib.hid ho
    have HFB := Lib.hid hfb
    have HFE := Lib.hid hfe
    clear hgk hbw ho hfb hfe
    by_cases hlt : k < n
    · by_cases h3 : k < len3
      · obtain ⟨b5, c5', e, _, _, hb5, hrow⟩ := HO.out.some (by omega)
        injection e with e1 _ e3
        subst e1 e3
        obtain ⟨ck, fk⟩ := hrow.2 k hlt
        obtain ⟨b3, o3, rfl, hb3, hc3⟩ := HL3.out.some (by omega)
        have KW : Hid (Below w.heap.size w wr) := Lib.hid (by
          have q1 := LOW.out
          have q2 := K5.out
          have q3 := K4.out.size
          exact (q1.trans (q2.mono q1.size)).trans (HW.out.mono (Nat.le_trans q1.size q3)))
        have c3 := cell_keep (hc3 k h3) KW.out
        have d3 : decide (k < len3) = true := by simpa using h3
        obtain ⟨t, ht⟩ : ∃ t, f3 k % 5 = t := ⟨_, rfl⟩
        have HT := Lib.hid ht
        have t1 : 0 ≤ t ∧ t < 5 := by omega
        obtain ⟨q, hq⟩ : ∃ q, f k = q := ⟨_, rfl⟩
        rw [hq] at ck
        have hqb := HFB.out k hlt
        have hqe := HFE.out k (Nat.le_refl _) hlt
        have hub := HUB.out k hlt
        rw [hq] at hqb hqe
        have HQ : Hid (-2 ≤ q + (t - 2) ∧ q + (t - 2) ≤ 5002) := Lib.hid (by omega)
        have k0 : (0 : Int) ≤ (k : Int) := by omega
        have k1 : (k : Int) < (n : Int) := by omega
        have k2 : (k : Int) < (len3 : Int) := by omega
        have ew1 : IntKind.i64.wrap (t - 2) = t - 2 := IntWalk.i64_in _ (by omega)
        have ew2 : IntKind.i64.wrap (q + (t - 2)) = q + (t - 2) := IntWalk.i64_in _ (by omega)
        clear hc3 ht hq hqe hub h3 t1 hqb
        go_wp2
        go_region_law ((first | (go_simp; go_at_call 9; (with_reducible refine (within_at _ _ _ _ (by omega) (by omega) HT).mono ?_); rintro e w' ⟨rfl, rfl⟩)))
        all_goals
          go_wp2
          go_roundg (n - (k + 1))
          case measure => have := HGK.out; omega
          case rel => exact ⟨k + 1, _, by omega, rfl, by go_num, fun j hj => (by
              show -2 ≤ (if j = k then q + (t - 2) else f j) ∧ (if j = k then q + (t - 2) else f j) ≤ 5002
              by_cases e : j = k
              · rw [if_pos e]; exact HQ.out
              · rw [if_neg e]; exact HFB.out j hj), fun j h1 h2 => (by rw [if_neg (by omega)]; exact HFE.out j (by omega) h2), HO.out.set k (q + (t - 2)), (HW.out.setCell (p := ⟨b5, k, none⟩) hb5 _).drew⟩
      · have d3 : decide (k < len3) = false := by simpa using h3
        clear h3
        go_wp2
        go_roundg (n - (k + 1))
        case measure => have := HGK.out; omega
        case rel => exact ⟨k + 1, f, by omega, rfl, by go_num, HFB.out, fun j h1 h2 => HFE.out j (by omega) h2, HO.out, HW.out⟩
    · obtain rfl : k = n := by omega
      clear hlt
      have z1 := K2.out.size
      have z4 := K4.out.size
      have hat5 : At wr A5 k f := by
        obtain ⟨_, _, e, _, _, q⟩ := HO.out.at
        injection e with e1 _ _
        subst e1; exact q
      have hat2 : At wr A2 k (usU g x y) := by
        have o := HO2.out
        obtain ⟨_, _, e, _, _, q⟩ := Own.at (w := wr) (own_blocks o fun b hb => (HW.out.block b (World.ownsRow.lt HO4.out b hb).2).trans rfl)
        injection e with e1 _ _
        subst e1; exact q
      obtain ⟨b, hb⟩ : ∃ b : Bool, b = true ↔ ∀ j, j < k → usU g x y j = f j := by
        classical
        exact ⟨decide (∀ j, j < k → usU g x y j = f j), by simp⟩
      have K6 : Hid (Below w1.heap.size w1 wr) := Lib.hid (K5.out.trans (HW.out.mono (by omega)))
      have C1 := Lib.hid (CR.out A5 c5 f b wr K6.out hat5 (fun j hj => by have := HFB.out j hj; omega) (by rw [hb, right_iff IV.out.pos y1]))
      have C2 := Lib.hid fun (w7 : World) (k7 : Below wr.heap.size wr w7) => same_iff A2 A5 k c2 c5 _ _ w7 (hat2.below k7) (hat5.below k7) (by omega) b hb
      have eb : (b == b) = true := by simp
      clear hat2 hat5 hb z1 z4
      go_wp2_with fail
      refine (C1.out).mono ?_
      rintro e w7 ⟨rfl, hb7⟩
      have K7 := Lib.hid hb7
      clear hb7
      go_wp2_with fail
      refine (C2.out _ K7.out).mono ?_
      rintro e w8 ⟨rfl, hb8⟩
      have K8 := Lib.hid (K7.out.trans (hb8.mono K7.out.size))
      clear hb8
      go_wp2_with (go_at_call 12; (refine (W.out _).mono ?_); rintro e w9 ⟨rfl, hb9⟩; have K9 := Lib.hid (K8.out.trans (hb9.mono K8.out.size)); clear hb9)
      go_ret
      have q1 := LOW.out
      have q2 := K6.out
      exact ⟨rfl, (q1.trans (q2.mono q1.size)).trans (K9.out.mono (Nat.le_trans q1.size q2.size))⟩
end Go.Proofs.Ytmgnnkampdepeaa
