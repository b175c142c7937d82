/- MeasureKnown: its walk. -/
import Derived.Test.YtnhnimchjbhnfaaLaw16a
namespace Go.Proofs.Ytnhnimchjbhnfaa
open Go.RowKit

/-- a literal list of records -/
theorem at_lit {α : Type} {enc : α → List Value} {k : Nat} (hk : ∀ x, (enc x).length = k) (w : World) (l : List Value) (n : Nat) (g : Nat → α) (hl : l = rl enc g n) (T : TypeId) : AtR enc k (w.alloc (.cells l.toArray T)) (some ⟨w.heap.size, 0, none⟩) n g :=
  .inr ⟨w.heap.size, 0, rfl, by simp, fun j hj i u hu => by
    have hi : i < k := by rw [← hk (g j)]; exact (List.getElem?_eq_some_iff.1 hu).1
    rw [Nat.zero_add]
    exact rec_lit w l T _ rfl (j * k + i) u (by rw [hl, rl_get hk hj hi]; exact hu)⟩
theorem mtadd_pre {w0 w : World} {O : Nat → Nat} {t sb n k : Nat} {R : Nat → Rt} (h : NowT 68 w0 w O t sb k R) (ht : t ≠ 0) (iv : TInv n R) (hk : k < n) (x : Rt) (hx : R k = x) :
    Calls Try.prog 26 #[ptr sb, .string x.j, .int .i64 x.y, .int .i64 x.r, .int .i64 x.p] w fun e' w' => e' = .returned (.int .i64 0) ∧ ∃ O', NowT 68 w0 w' O' t sb (k + 1) R := by
  subst hx
  obtain ⟨v, s⟩ := h.st
  refine (radd_ok s h.fin h.low.size (R k) (pre_terr iv hk)).mono ?_
  rintro e' w' ⟨rfl, v', O', a, st⟩
  rw [push_same] at a
  exact ⟨rfl, O', ⟨⟨_, a⟩, st.fin, h.low.trans (st.below h.fin ht h.low.size)⟩⟩
abbrev ukt : ByteArray := ⟨#[117, 107]⟩
abbrev det : ByteArray := ⟨#[100, 101]⟩
def R16 (a b y p : Int) : Nat → Rt := fun k => if k = 0 then ⟨ukt, 0, a, 0⟩ else if k = 1 then ⟨ukt, y + 1, b, p⟩ else ⟨ukt, y, 777, p + 1⟩
section
variable {a b y p : Int} (ha : 0 ≤ a ∧ a ≤ 1000000) (hb : 0 ≤ b ∧ b ≤ 1000000) (hy : 1 ≤ y ∧ y ≤ 97) (hp : 4 * y ≤ p ∧ p ≤ 4 * y + 3)
theorem three_cases {k : Nat} (h : k < 3) : k = 0 ∨ k = 1 ∨ k = 2 := by omega
include ha hb hy hp in
theorem inv16 : TInv 3 (R16 a b y p) := by
  refine ⟨by omega, fun k hk => ?_, fun i k hi hk h1 h2 h3 => ?_⟩
  · rcases three_cases hk with rfl | rfl | rfl
    · show ROk ukt 0 a 0; exact ⟨by decide, by omega, by omega, ha.1, ha.2, by omega, by omega⟩
    · show ROk ukt (y + 1) b p; exact ⟨by decide, by omega, by omega, hb.1, hb.2, by omega, by omega⟩
    · show ROk ukt y 777 (p + 1); exact ⟨by decide, by omega, by omega, by omega, by omega, by omega, by omega⟩
  · have e0 : (R16 a b y p 0).y = 0 := rfl
    have e1 : (R16 a b y p 1).y = y + 1 := rfl
    have e2 : (R16 a b y p 2).y = y := rfl
    rcases three_cases hi with rfl | rfl | rfl <;> rcases three_cases hk with rfl | rfl | rfl <;> first | rfl | (exfalso; rw [e0] at h2; first | (rw [e1] at h2; omega) | (rw [e2] at h2; omega)) | (exfalso; rw [e1] at h2; first | (rw [e0] at h2; omega) | (rw [e2] at h2; omega)) | (exfalso; rw [e2] at h2; first | (rw [e0] at h2; omega) | (rw [e1] at h2; omega))
/-- the first row holds -/
theorem kn_a (Y q : Int) (h0 : 0 ≤ Y ∧ 0 ≤ q) (h1 : ¬ (y + 1 ≤ Y ∧ p ≤ q)) (h2 : ¬ (y ≤ Y ∧ p + 1 ≤ q)) : Known (R16 a b y p) 3 ukt Y q a true := by
  refine .inl ⟨rfl, 0, by omega, ⟨rfl, h0.1, h0.2⟩, fun k hk hM => ?_, rfl⟩
  rcases three_cases hk with rfl | rfl | rfl
  · exact .inr ⟨rfl, Int.le_refl _⟩
  · exact absurd ⟨hM.2.1, hM.2.2⟩ h1
  · exact absurd ⟨hM.2.1, hM.2.2⟩ h2
/-- the second row holds -/
theorem kn_b (hy : 0 ≤ y) (Y q : Int) (h0 : y + 1 ≤ Y ∧ p ≤ q) : Known (R16 a b y p) 3 ukt Y q b true := by
  refine .inl ⟨rfl, 1, by omega, ⟨rfl, h0.1, h0.2⟩, fun k hk hM => ?_, rfl⟩
  rcases three_cases hk with rfl | rfl | rfl
  · left; show (0 : Int) < y + 1; omega
  · exact .inr ⟨rfl, Int.le_refl _⟩
  · left; show y < y + 1; omega
theorem kn_de (Y q : Int) : Known (R16 a b y p) 3 det Y q 0 false := by
  refine .inr ⟨rfl, rfl, fun k hk hM => ?_⟩
  rcases three_cases hk with rfl | rfl | rfl
  · exact absurd (show ukt = det from hM.1) (by decide)
  · exact absurd (show ukt = det from hM.1) (by decide)
  · exact absurd (show ukt = det from hM.1) (by decide)
end
def g16 (y : Int) : Nat → Bk := fun k => if k = 0 then ⟨1, 0, 1⟩ else if k = 1 then ⟨1, y, 1⟩ else if k = 2 then ⟨1, y + 1, 1⟩ else ⟨1, 99, 1⟩
def r16 (a b : Int) : Nat → Int := fun k => [a, a, b, b].getD k 0
set_option maxHeartbeats 16000000 in
set_option maxRecDepth 100000 in
theorem measureKnown_walk (a0 a1 a2 : Int) (w : World) :
    Calls Try.prog 6 #[.int .i64 a0, .int .i64 a1, .int .i64 a2] w fun e w' => e = .returned (.bool true) ∧ Below w.heap.size w w' := by
  have W := Lib.hid fun w => wakes16_any w
  obtain ⟨a, ha⟩ : ∃ a, a0 % 1000001 = a := ⟨_, rfl⟩
  obtain ⟨b, hb⟩ : ∃ b, a1 % 1000001 = b := ⟨_, rfl⟩
  obtain ⟨y, hy⟩ : ∃ y, a2 % 97 + 1 = y := ⟨_, rfl⟩
  have E1 := Lib.hid ha
  have E2 := Lib.hid hb
  have E3 := Lib.hid (show a2 % 97 = y - 1 by omega)
  have ba : 0 ≤ a ∧ a ≤ 1000000 := by omega
  have bb : 0 ≤ b ∧ b ≤ 1000000 := by omega
  have by' : 1 ≤ y ∧ y ≤ 97 := by omega
  have f3 : 1 + (y - 1) = y := by omega
  clear ha hb hy
  go_enter Try.func6, Try.ntmps6
  go_wp2_with (go_at_call 8; (first | (with_reducible refine (within_at _ _ _ _ (by omega) (by omega) E1).mono ?_) | (with_reducible refine (within_at _ _ _ _ (by omega) (by omega) E2).mono ?_) | (with_reducible refine (within_at _ _ _ _ (by omega) (by omega) E3).mono ?_)); rintro e w' ⟨rfl, rfl⟩)
  clear f3
  refine (within_some _ _ _ (by omega) (by omega)).mono ?_
  rintro e w' ⟨d, d1, d2, rfl, rfl⟩
  obtain ⟨p, hp⟩ : ∃ p, 4 * y + d = p := ⟨_, rfl⟩
  have bp : 4 * y ≤ p ∧ p ≤ 4 * y + 3 := by omega
  have IV := Lib.hid (inv16 ba bb by' bp)
  have hr : RatesIs (R16 a b y p) 3 ukt (g16 y) 4 p 0 4 (r16 a b) := .inr (.inr ⟨by unfold PerOk; omega, rfl, rfl, fun i hi => by
    have e4 : p / 4 = y := by omega
    rw [e4]
    rcases (show i = 0 ∨ i = 1 ∨ i = 2 ∨ i = 3 by omega) with rfl | rfl | rfl | rfl
    · show Known _ 3 ukt (max 0 y) p a true
      exact kn_a _ _ (by omega) (by omega) (by omega)
    · show Known _ 3 ukt (max y y) p a true
      exact kn_a _ _ (by omega) (by omega) (by omega)
    · show Known _ 3 ukt (max (y + 1) y) p b true
      exact kn_b (by omega) _ _ (by omega)
    · show Known _ 3 ukt (max 99 y) p b true
      exact kn_b (by omega) _ _ (by omega)⟩)
  have hn1 : NextIs (R16 a b y p) 3 ukt p b 0 := .inr (.inr ⟨by unfold PerOk; omega, rfl, kn_b (by omega) _ _ (by omega)⟩)
  have hn2 : NextIs (R16 a b y p) 3 ukt (p - 1) a 0 := .inr (.inr ⟨by unfold PerOk; omega, rfl, kn_a _ _ (by omega) (by omega) (by omega)⟩)
  have hn3 : NextIs (R16 a b y p) 3 ukt 399 b 0 := .inr (.inr ⟨by unfold PerOk; omega, rfl, kn_b (by omega) _ _ (by omega)⟩)
  have hn4 : NextIs (R16 a b y p) 3 det p 0 7 := .inr (.inl ⟨by unfold PerOk; omega, rfl, rfl, kn_de _ _⟩)
  have hn5 : NextIs (R16 a b y p) 3 ukt (-1) 0 1 := .inl ⟨by unfold PerOk; omega, rfl, rfl⟩
  have HR := Lib.hid hr
  have H1 := Lib.hid hn1
  have H2 := Lib.hid hn2
  have H3 := Lib.hid hn3
  have H4 := Lib.hid hn4
  have H5 := Lib.hid hn5
  obtain ⟨n0, _⟩ := nowt_new w w (fun _ => 0) (Fin0.zero _ _) (Below.refl _ _) 68 57 2 (R16 a b y p)
  have C1 := Lib.hid (mtadd_pre n0 (by decide) IV.out (by omega) ⟨ukt, 0, a, 0⟩ rfl)
  clear hr hn1 hn2 hn3 hn4 hn5 n0
  go_wp2_with fail
  refine (C1.out).mono ?_
  rintro e v1 ⟨rfl, O1, n1⟩
  have C2 := Lib.hid (mtadd_pre n1 (by decide) IV.out (by omega) ⟨ukt, y + 1, b, p⟩ rfl)
  clear n1 C1
  go_wp2_with fail
  refine (C2.out).mono ?_
  rintro e v2 ⟨rfl, O2, n2⟩
  have C3 := Lib.hid (mtadd_pre n2 (by decide) IV.out (by omega) ⟨ukt, y, 777, p + 1⟩ rfl)
  clear n2 C2
  go_wp2_with fail
  refine (C3.out).mono ?_
  rintro e v3 ⟨rfl, O3, n3⟩
  have CO := Lib.hid (tof n3)
  have L3 := Lib.hid n3.low
  clear n3 C3
  go_wp2_with fail
  refine (CO.out).mono ?_
  rintro e v4 ⟨sbt, Ot, rfl, nt, hb4⟩
  have L4 := Lib.hid (L3.out.trans (hb4.mono L3.out.size))
  have NT := Lib.hid nt
  clear hb4 CO nt
  have AL := Lib.hid (at_lit be_len v4 [.int .i64 1, .int .i64 0, .int .i64 1, .int .i64 1, .int .i64 y, .int .i64 1, .int .i64 1, .int .i64 (y + 1), .int .i64 1, .int .i64 1, .int .i64 99, .int .i64 1] 4 (g16 y) rfl 28)
  have K4 := Lib.hid ((Below.refl v4.heap.size v4).alloc (Nat.le_refl _) (.cells #[.int .i64 1, .int .i64 0, .int .i64 1, .int .i64 1, .int .i64 y, .int .i64 1, .int .i64 1, .int .i64 (y + 1), .int .i64 1, .int .i64 1, .int .i64 99, .int .i64 1] 28))
  obtain ⟨vt, st⟩ := (NT.out.below K4.out).st
  have CR := Lib.hid (prates_any st ukt (some ⟨v4.heap.size, 0, none⟩) 4 4 (g16 y) AL.out (by unfold maxLen; omega) (by omega) p 0 4 (r16 a b) HR.out)
  have TN := Lib.hid fun w5 (k : Below v4.heap.size v4 w5) (j : ByteArray) (q v e : Int) (h : NextIs (R16 a b y p) 3 j q v e) => (show Calls Try.prog 20 #[ptr sbt, .string j, .int .i64 q] w5 fun e' w' => e' = .returned (.tuple #[.int .i64 v, .int .i64 e]) ∧ Below w5.heap.size w5 w' from by
    obtain ⟨vt, st⟩ := (NT.out.below k).st
    exact pnext_any st j q v e h)
  clear st
  go_wp2_with fail
  refine (CR.out).mono ?_
  rintro e v5 ⟨s5, rfl, ho5, hb5⟩
  obtain ⟨A5, c5, rfl, _, _, hat5⟩ := ho5.at
  have HA5 := Lib.hid hat5
  have K5 := Lib.hid (K4.out.trans (hb5.mono K4.out.size))
  clear hb5 ho5 hat5 CR AL
  go_wp2_with fail
  refine (TN.out _ K5.out _ _ _ _ H1.out).mono ?_
  rintro e v6 ⟨rfl, hb6⟩
  have K6 := Lib.hid (K5.out.trans (hb6.mono K5.out.size))
  replace HA5 := Lib.hid (HA5.out.below hb6)
  clear hb6
  go_wp2_with fail
  refine (TN.out _ K6.out _ _ _ _ H2.out).mono ?_
  rintro e v7 ⟨rfl, hb7⟩
  have K7 := Lib.hid (K6.out.trans (hb7.mono K6.out.size))
  replace HA5 := Lib.hid (HA5.out.below hb7)
  clear hb7
  go_wp2_with fail
  refine (TN.out _ K7.out _ _ _ _ H3.out).mono ?_
  rintro e v8 ⟨rfl, hb8⟩
  have K8 := Lib.hid (K7.out.trans (hb8.mono K7.out.size))
  replace HA5 := Lib.hid (HA5.out.below hb8)
  clear hb8
  go_wp2_with fail
  refine (TN.out _ K8.out _ _ _ _ H4.out).mono ?_
  rintro e v9 ⟨rfl, hb9⟩
  have K9 := Lib.hid (K8.out.trans (hb9.mono K8.out.size))
  replace HA5 := Lib.hid (HA5.out.below hb9)
  clear hb9
  go_wp2_with fail
  refine (TN.out _ K9.out _ _ _ _ H5.out).mono ?_
  rintro e v10 ⟨rfl, hb10⟩
  have K10 := Lib.hid (K9.out.trans (hb10.mono K9.out.size))
  replace HA5 := Lib.hid (HA5.out.below hb10)
  clear hb10
  have LL := Lib.hid (lit_row v10 [a, a, b, b] 3)
  have K11 := Lib.hid ((Below.refl v10.heap.size v10).alloc (Nat.le_refl _) (.cells #[.int .i64 a, .int .i64 a, .int .i64 b, .int .i64 b] 3))
  have HA10 := Lib.hid (HA5.out.below K11.out)
  have CS := Lib.hid (same_true A5 (some ⟨v10.heap.size, 0, none⟩) 4 c5 4 _ _ _ HA10.out LL.out.at (by omega) (fun j hj => rfl))
  have q1 : (a == a) = true := by simp
  have q2 : (b == b) = true := by simp
  go_wp2_with fail
  refine (CS.out).mono ?_
  rintro e v12 ⟨rfl, hb12⟩
  have K12 := Lib.hid (K10.out.trans ((K11.out.trans (hb12.mono K11.out.size)).mono K10.out.size))
  clear hb12 CS
  go_wp2_with (go_at_call 15; (with_reducible refine (W.out _).mono ?_); rintro e v13 ⟨rfl, hb13⟩; have K13 := Lib.hid (K12.out.trans (hb13.mono K12.out.size)); clear hb13)
  go_ret
  exact ⟨rfl, L4.out.trans (K13.out.mono L4.out.size)⟩
end Go.Proofs.Ytnhnimchjbhnfaa
