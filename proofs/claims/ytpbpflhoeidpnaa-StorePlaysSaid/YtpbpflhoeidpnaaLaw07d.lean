/- StoreTurns: its walk. -/
import Derived.Test.YtpbpflhoeidpnaaLaw07a
import Derived.Test.YtpbpflhoeidpnaaJSome
import Derived.Test.YtpbpflhoeidpnaaCutL
import Derived.Test.YtpbpflhoeidpnaaJour3
import Derived.WalkKit
import Derived.WalkSpells
import Derived.WalkLawsBesides
import Derived.Lib.Hide
import Derived.Deep.LoopGhost
import Derived.IntWalk
namespace Go.Proofs.Ytpbpflhoeidpnaa
open Go.RowKit

theorem ltrialT {w0 w : World} {O : Nat → Nat} {t sb n : Nat} {js : Nat → Jn} (h : Now w0 w O t sb n js) (ent : ByteArray) (u : Int) (T : Int → Int) (hT : ∀ a : Int, 1 ≤ a → a ≤ (7 : Nat) → bal js n ent a u = T a) :
    Calls Try.prog 18 #[ptr sb, .string ent, .int .i64 u] w fun e w' => ∃ v, e = .returned v ∧ OwnL w' 26 w.heap.size v (mc T 7) (ma T 7) (mm T 7) ∧ Below w.heap.size w w' := by
  refine (ltrial h ent u _ (fun _ => rfl)).mono ?_
  rintro e w' ⟨v, rfl, ho, hb⟩
  exact ⟨v, rfl, ho.by hT, hb⟩
/-- right lines that a law has made -/
abbrev RL (O : Nat → Nat) (v : Value) (w : World) (S : Int → Int) : Prop := SomeF O v w (mc S 7) (ma S 7) (mm S 7)
/-- journals of merged lines -/
def mjn (s p kd of : Int) (ent : ByteArray) (S : Int → Int) : Jn := ⟨s, ent, p, kd, of, mc S 7, ma S 7, mm S 7⟩
theorem mjn_jb (s p kd of : Int) (ent e' : ByteArray) (S : Int → Int) (a u : Int) : jb (mjn s p kd of ent S) e' a u = if ent = e' ∧ p ≤ u then (if 1 ≤ a ∧ a ≤ (7 : Nat) then S a else 0) else 0 := by
  show (if ent = e' ∧ p ≤ u then sm a (ma S 7) (mm S 7) (mc S 7) else 0) = _
  rw [sm_mrg]
/-- .. and their turn -/
def mjr (s p of : Int) (ent : ByteArray) (S : Int → Int) : Jn := ⟨s, ent, p, 2, of, mc S 7, ma S 7, fun j => -mm S 7 j⟩
theorem mjr_jb (s p of : Int) (ent e' : ByteArray) (S : Int → Int) (a u : Int) : jb (mjr s p of ent S) e' a u = if ent = e' ∧ p ≤ u then -(if 1 ≤ a ∧ a ≤ (7 : Nat) then S a else 0) else 0 := by
  show (if ent = e' ∧ p ≤ u then sm a (ma S 7) (fun j => -mm S 7 j) (mc S 7) else 0) = _
  rw [sm_neg, sm_mrg]
def sx : ByteArray := ⟨#[120]⟩
def sy : ByteArray := ⟨#[121]⟩
theorem sx_ne : sx ≠ ⟨#[]⟩ := by decide
theorem sy_ne : sy ≠ ⟨#[]⟩ := by decide
theorem sxy : sx ≠ sy := by decide
section
variable (p : Int) (A B : Int → Int)
def tj0 : Nat → Jn := fun _ => jz
def tj1 : Nat → Jn := pushJ tj0 0 (mjn 1 p 1 0 sx A)
def tj2 : Nat → Jn := pushJ (tj1 p A) 1 (mjn 2 (p + 1) 1 0 sx B)
def tj3 : Nat → Jn := pushJ (tj2 p A B) 2 (mjr 3 p 1 sx A)
variable {p A B}
theorem tb1 (e : ByteArray) (a u : Int) : bal (tj1 p A) 1 e a u = if sx = e ∧ p ≤ u then (if 1 ≤ a ∧ a ≤ (7 : Nat) then A a else 0) else 0 := by
  unfold tj1; rw [show (1 : Nat) = 0 + 1 from rfl, bal_push, bal_0, mjn_jb, Int.zero_add]
theorem tb2 (e : ByteArray) (a u : Int) : bal (tj2 p A B) 2 e a u = (if sx = e ∧ p ≤ u then (if 1 ≤ a ∧ a ≤ (7 : Nat) then A a else 0) else 0) + (if sx = e ∧ p + 1 ≤ u then (if 1 ≤ a ∧ a ≤ (7 : Nat) then B a else 0) else 0) := by
  unfold tj2; rw [show (2 : Nat) = 1 + 1 from rfl, bal_push, tb1, mjn_jb]
theorem tb3 (e : ByteArray) (a u : Int) : bal (tj3 p A B) 3 e a u = (if sx = e ∧ p ≤ u then (if 1 ≤ a ∧ a ≤ (7 : Nat) then A a else 0) else 0) + (if sx = e ∧ p + 1 ≤ u then (if 1 ≤ a ∧ a ≤ (7 : Nat) then B a else 0) else 0) + (if sx = e ∧ p ≤ u then -(if 1 ≤ a ∧ a ≤ (7 : Nat) then A a else 0) else 0) := by
  unfold tj3; rw [show (3 : Nat) = 2 + 1 from rfl, bal_push, tb2, mjr_jb]
theorem tt_a (a : Int) (q1 : 1 ≤ a) (q2 : a ≤ (7 : Nat)) : bal (tj2 p A B) 2 sx a p = A a := by
  have l2 : ¬ p + 1 ≤ p := by omega
  rw [tb2]; simp only [q1, q2, l2, Int.le_refl, and_self, and_false, if_true, if_false]; omega
theorem tt_ab (h : p < 399) (a : Int) (q1 : 1 ≤ a) (q2 : a ≤ (7 : Nat)) : bal (tj2 p A B) 2 sx a 399 = A a + B a := by
  have l1 : p ≤ 399 := by omega
  have l2 : p + 1 ≤ 399 := by omega
  rw [tb2]; simp only [q1, q2, l1, l2, and_self, if_true]
theorem tt_0 (a : Int) (q1 : 1 ≤ a) (q2 : a ≤ (7 : Nat)) : bal (tj3 p A B) 3 sx a p = 0 := by
  have l2 : ¬ p + 1 ≤ p := by omega
  rw [tb3]; simp only [q1, q2, l2, Int.le_refl, and_self, and_false, if_true, if_false]; omega
theorem tt_b (a : Int) (q1 : 1 ≤ a) (q2 : a ≤ (7 : Nat)) : bal (tj3 p A B) 3 sx a (p + 1) = B a := by
  have l1 : p ≤ p + 1 := by omega
  rw [tb3]; simp only [q1, q2, l1, Int.le_refl, and_self, if_true]; omega
theorem tt_y (a : Int) : bal (tj3 p A B) 3 sy a 399 = 0 := by
  rw [tb3, if_neg (fun q => sxy q.1), if_neg (fun q => sxy q.1), if_neg (fun q => sxy q.1)]; rfl
theorem tbd {S : Int → Int} (h : RightS S) (a : Int) : -1000000000 ≤ (if 1 ≤ a ∧ a ≤ (7 : Nat) then S a else 0) ∧ (if 1 ≤ a ∧ a ≤ (7 : Nat) then S a else 0) ≤ 1000000000 := by
  split
  · rename_i q; exact h.1 a q.1 (by omega)
  · omega
theorem tp1 (h1 : 0 ≤ p) (h2 : p < 399) (hA : RightS A) : PErr tj0 0 sx p 1 0 (mc A 7) (ma A 7) (mm A 7) 0 :=
  perr_prov sx_ne h1 (by omega) hA.good (by omega) fun i hi => by
    have := hA.mm_bd i hi
    rw [bal_0]; unfold Mon; omega
theorem tp2 (h1 : 0 ≤ p) (h2 : p < 399) (hA : RightS A) (hB : RightS B) : PErr (tj1 p A) 1 sx (p + 1) 1 0 (mc B 7) (ma B 7) (mm B 7) 0 :=
  perr_prov sx_ne (by omega) (by omega) hB.good (by omega) fun i hi => by
    have := hB.mm_bd i hi
    have k := tbd hA (ma B 7 i)
    rw [tb1, if_pos ⟨rfl, by omega⟩]; unfold Mon; omega
theorem tother (h1 : 0 ≤ p) (h2 : p < 399) (m : Nat) (ga gm : Nat → Int) : PErr (tj2 p A B) 2 sy p 2 1 m ga gm 3 :=
  .none ⟨sy_ne, h1, by omega, .inl rfl⟩ rfl fun ⟨k, hk, hp⟩ => by
    obtain rfl : k = 0 := by omega
    exact sxy hp.2.1
theorem twhen (h1 : 0 ≤ p) (h2 : p < 399) (m : Nat) (ga gm : Nat → Int) : PErr (tj2 p A B) 2 sx (p + 1) 2 1 m ga gm 3 :=
  .none ⟨sx_ne, by omega, by omega, .inl rfl⟩ rfl fun ⟨k, hk, hp⟩ => by
    obtain rfl : k = 0 := by omega
    have e : p = p + 1 := hp.2.2.1
    omega
theorem tnone (h1 : 0 ≤ p) (h2 : p < 399) (m : Nat) (ga gm : Nat → Int) : PErr (tj2 p A B) 2 sx p 2 9 m ga gm 3 :=
  .none ⟨sx_ne, by omega, by omega, .inl rfl⟩ rfl fun ⟨k, hk, hp⟩ => by have := hp.1; omega
theorem tturn (h1 : 0 ≤ p) (h2 : p < 399) (hA : RightS A) (hB : RightS B) : PErr (tj2 p A B) 2 sx p 2 1 (mc A 7) (ma A 7) (fun j => -mm A 7 j) 0 :=
  .ok2 0 ⟨sx_ne, h1, by omega, .inl rfl⟩ rfl (by decide) ⟨by omega, rfl, rfl, by show (1 : Int) ≠ 2; omega⟩ (fun ⟨j, hj, e⟩ => by
    rcases (show j = 0 ∨ j = 1 by omega) with rfl | rfl
    · have e2 : (0 : Int) = 1 := e
      omega
    · have e2 : (0 : Int) = 1 := e
      omega) (good_neg hA.good) ⟨rfl, fun i _ => ⟨rfl, rfl⟩⟩ (by omega) fun ⟨i, hi, h⟩ => h (by
      obtain ⟨a1, a2, _⟩ := ma_spec A 7 i hi
      have k := tbd hB (ma A 7 i)
      have a2' : ma A 7 i ≤ 7 := by omega
      have l1 : p ≤ 399 := by omega
      have l2 : p + 1 ≤ 399 := by omega
      rw [tb2]
      simp only [a1, a2, l1, l2, and_self, if_true] at k ⊢
      show Mon (A (ma A 7 i) + B (ma A 7 i) + -A (ma A 7 i))
      unfold Mon; omega)
theorem ttwice (h1 : 0 ≤ p) (h2 : p < 399) (m : Nat) (ga gm : Nat → Int) : PErr (tj3 p A B) 3 sx p 2 1 m ga gm 4 :=
  .there 0 ⟨sx_ne, h1, by omega, .inl rfl⟩ rfl (by decide) ⟨by omega, rfl, rfl, by show (1 : Int) ≠ 2; omega⟩ ⟨2, by omega, rfl⟩
theorem tback (h1 : 0 ≤ p) (h2 : p < 399) (m : Nat) (ga gm : Nat → Int) : PErr (tj3 p A B) 3 sx p 2 3 m ga gm 3 :=
  .none ⟨sx_ne, h1, by omega, .inl rfl⟩ rfl fun ⟨k, hk, hp⟩ => by
    obtain rfl : k = 2 := by omega
    exact hp.2.2.2 rfl
end
/-- two lists of right lines are the same where their accounts' sums are -/
theorem lsame {w : World} {v v' : Value} {S : Int → Int} (h : SomeL v w (mc S 7) (ma S 7) (mm S 7)) (h' : SomeL v' w (mc S 7) (ma S 7) (mm S 7)) :
    Calls Try.prog 21 #[v, v'] w fun e w' => e = .returned (.bool true) ∧ Below w.heap.size w w' := by
  obtain ⟨A, c, rfl, _, _, _, hA⟩ := h
  obtain ⟨A', c', rfl, _, _, _, hA'⟩ := h'
  exact samel_true A A' _ c c' _ _ _ _ w hA hA' (by have := mc_le S 7; omega) fun j _ => ⟨rfl, rfl⟩
theorem lrev {w : World} {v : Value} {S : Int → Int} (hS : RightS S) (h : SomeL v w (mc S 7) (ma S 7) (mm S 7)) :
    Calls Try.prog 30 #[v] w fun e w' => ∃ v', e = .returned v' ∧ SomeL v' w' (mc S 7) (ma S 7) (fun j => -mm S 7 j) ∧ Below w.heap.size w w' := by
  obtain ⟨A, c, rfl, _, _, _, hA⟩ := h
  refine (jrev_any A _ c _ _ w hA (by have := mc_le S 7; omega)).mono ?_
  rintro e w' ⟨v', rfl, ho, hb⟩
  exact ⟨v', rfl, (ho.ext fun j hj => ⟨rfl, wrap_mon (hS.mon.row j hj)⟩).someL, hb⟩
set_option maxHeartbeats 8000000 in
set_option maxRecDepth 100000 in
theorem storeTurns_walk (a0 : Option Addr) (len0 cap0 : Nat) (z0 : List Int) (a1 : Option Addr) (len1 cap1 : Nat) (z1 : List Int) (a2 : Option Addr) (len2 cap2 : Nat) (z2 : List Int) (a3 : Int) (w : World) (w0 : IsRow .i64 w a0 len0 cap0 z0) (w1 : IsRow .i64 w a1 len1 cap1 z1) (w2 : IsRow .i64 w a2 len2 cap2 z2) (_w3 : (Lit.int .i64 a3).wf = true) :
    Calls Try.prog 7 #[.slice a0 len0 cap0, .slice a1 len1 cap1, .slice a2 len2 cap2, .int .i64 a3] w fun e w' => e = .returned (.bool true) ∧ Below w.heap.size w w' := by
  obtain ⟨i0, hi, hz0, hz1, hz2⟩ := info_parts line_info
  have I0 := Lib.hid w0.at.1
  have I1 := Lib.hid w1.at.1
  have I2 := Lib.hid w2.at.1
  clear w0 w1 w2
  go_enter Try.func7, Try.ntmps7
  go_wp2_with fail
  refine (new_any _).mono ?_
  rintro e w1 ⟨rfl, rfl⟩
  obtain ⟨O1, nw, _⟩ := now_new w w (fun _ => 0) (Fin0.zero _ _) (Below.refl _ _) 1 73 tj0
  have NN := Lib.hid nw
  obtain ⟨wb, hw2⟩ : ∃ wb, w.alloc (.cells #[.slice none 0 0] 73) = wb := ⟨_, rfl⟩
  rw [hw2] at NN
  rw [hw2]
  clear nw hw2
  go_wp2_with fail
  refine (within_some _ _ _ (by omega) (by omega)).mono ?_
  rintro e w' ⟨p, p1, p2, rfl, rfl⟩
  go_wp2_with fail
  refine (right_any _ _ _ _ _ _ _ _ _ (I0.out.below NN.out.low) (I1.out.below NN.out.low)).mono ?_
  rintro e wc ⟨va, A, rfl, hA, hoa, hb⟩
  have RA := Lib.hid hA
  have HA := Lib.hid (SomeF.fresh NN.out.fin hoa (Nat.le_refl _))
  replace NN := Lib.hid (NN.out.below hb)
  clear hA hoa hb
  go_wp2_with fail
  refine (right_any _ _ _ _ _ _ _ _ _ (I0.out.below NN.out.low) (I2.out.below NN.out.low)).mono ?_
  rintro e wd ⟨vb, B, rfl, hB, hob, hb⟩
  have RB := Lib.hid hB
  have HBB := Lib.hid (SomeF.fresh NN.out.fin hob (Nat.le_refl _))
  replace NN := Lib.hid (NN.out.below hb)
  replace HA := Lib.hid (HA.out.below hb)
  clear hB hob hb I0 I1 I2
  have p3 : p < 399 := p2
  have hmA := mc_le A 7
  have hmB := mc_le B 7
  obtain ⟨Aa, ca, rfl, _, _, _, _⟩ := HA.out.1
  obtain ⟨Ab, cb, rfl, _, _, _, _⟩ := HBB.out.1
  go_wp2_with fail
  refine (lpost_ok NN.out (by decide) sx p 1 0 (mc A 7) (ma A 7) (mm A 7) _ HA.out.1 (tp1 p1 p3 RA.out)).mono ?_
  rintro r we ⟨rfl, O2, nn, st⟩
  replace NN : Hid (Now w we O2 1 w.heap.size 1 (tj1 p A)) := Lib.hid nn
  replace HA := Lib.hid (HA.out.step st (by decide))
  replace HBB := Lib.hid (HBB.out.step st (by decide))
  clear nn st
  go_wp2_with fail
  refine (lpost_ok NN.out (by decide) sx (p + 1) 1 0 (mc B 7) (ma B 7) (mm B 7) _ HBB.out.1 (tp2 p1 p3 RA.out RB.out)).mono ?_
  rintro r wf ⟨rfl, O3, nn, st⟩
  replace NN : Hid (Now w wf O3 1 w.heap.size 2 (tj2 p A B)) := Lib.hid nn
  replace HA := Lib.hid (HA.out.step st (by decide))
  replace HBB := Lib.hid (HBB.out.step st (by decide))
  clear nn st
  go_wp2_with fail
  refine (ltrialT NN.out sx p A tt_a).mono ?_
  rintro r w10 ⟨v10, rfl, ho, hb⟩
  have HO10 := Lib.hid ho.someL
  replace NN := Lib.hid (NN.out.below hb)
  replace HA := Lib.hid (HA.out.below hb)
  replace HBB := Lib.hid (HBB.out.below hb)
  clear ho hb
  go_wp2_with fail
  refine (lsame HO10.out HA.out.1).mono ?_
  rintro r w11 ⟨rfl, hb⟩
  replace NN := Lib.hid (NN.out.below hb)
  replace HA := Lib.hid (HA.out.below hb)
  replace HBB := Lib.hid (HBB.out.below hb)
  clear hb
  go_wp2_with fail
  refine (ltrialT NN.out sx 399 (fun a => A a + B a) (tt_ab p3)).mono ?_
  rintro r w12 ⟨v12, rfl, ho, hb⟩
  have HO12 := Lib.hid ho.someL
  replace NN := Lib.hid (NN.out.below hb)
  replace HA := Lib.hid (HA.out.below hb)
  replace HBB := Lib.hid (HBB.out.below hb)
  clear ho hb
  go_wp2_with fail
  obtain ⟨Aq, cq, eq, _, _, hNq, hAq⟩ := HA.out.1
  injection eq with eq1 _ eq3
  subst eq1 eq3
  refine (copyl_any _ _ _ _ _ _ hAq (by omega) hNq).mono ?_
  rintro r w13 ⟨v13, rfl, hoc, hb⟩
  have HOC := Lib.hid hoc
  have HB13 := Lib.hid hb
  have hz13 := hb.size
  clear hoc hNq hAq
  obtain ⟨Ap, cp, ep, _, _, hNp, hAp⟩ := HBB.out.1
  injection ep with ep1 _ ep3
  subst ep1 ep3
  have HNp := Lib.hid hNp
  have HAp := Lib.hid (hAp.below hb)
  clear hNp hAp hb
  obtain ⟨A13, c13, rfl, _, _, _⟩ := HOC.out.form
  go_wp2_with (at_builtin; (refine wpList_app_g (by rfl) (.tmp 80) (.tmp 81) rfl line_type hi hz0 hz1 hz2 w12 w12.heap.size (mc A 7) (mc B 7) _ _ _ (ma A 7) (mm A 7) (ma B 7) (mm B 7) rfl rfl HOC.out HAp.out HNp.out (by omega) (by omega) HB13.out hz13 ?_; intro v14 w14 ho14 hb14 hg14; obtain ⟨A14, c14, rfl, _, _, _, hat14⟩ := ho14.cut; have HAT14 := Lib.hid hat14; have HB14 := Lib.hid hb14; clear ho14 hb14 hat14 hg14))
  replace HO12 := Lib.hid (HO12.out.below HB14.out)
  replace NN := Lib.hid (NN.out.below HB14.out)
  replace HA := Lib.hid (HA.out.below HB14.out)
  replace HBB := Lib.hid (HBB.out.below HB14.out)
  refine (mjoin A14 c14 (mc A 7) (mc B 7) (ma A 7) (mm A 7) (ma B 7) (mm B 7) (fun a => A a + B a) w14 HAT14.out (by omega) (fun j hj => RA.out.mon.row j hj) (fun j hj => RB.out.mon.row j hj) (fun a q1 q2 => by rw [sm_mrg, sm_mrg, if_pos ⟨q1, q2⟩, if_pos ⟨q1, q2⟩])).mono ?_
  rintro r w15 ⟨v15, rfl, ho, hb⟩
  have HO15 := Lib.hid ho.someL
  replace HO12 := Lib.hid (HO12.out.below hb)
  replace NN := Lib.hid (NN.out.below hb)
  replace HA := Lib.hid (HA.out.below hb)
  replace HBB := Lib.hid (HBB.out.below hb)
  clear ho hb HAT14 HB14 HOC HNp HAp HB13
  go_wp2_with fail
  refine (lsame HO12.out HO15.out).mono ?_
  rintro r w16 ⟨rfl, hb⟩
  replace NN := Lib.hid (NN.out.below hb)
  replace HA := Lib.hid (HA.out.below hb)
  replace HBB := Lib.hid (HBB.out.below hb)
  clear hb
  go_wp2_with fail
  refine (lrev RA.out HA.out.1).mono ?_
  rintro r w17 ⟨v17, rfl, hr, hb⟩
  have HR17 := Lib.hid hr
  obtain ⟨Ar17, cr17, rfl, _, _, _, _⟩ := hr
  replace NN := Lib.hid (NN.out.below hb)
  replace HA := Lib.hid (HA.out.below hb)
  replace HBB := Lib.hid (HBB.out.below hb)
  clear hb
  go_wp2_with fail
  refine (lpost_no NN.out sy p 2 1 (mc A 7) (ma A 7) (fun j => -mm A 7 j) _ 3 HR17.out (by omega) (tother p1 p3 _ _ _) (by omega)).mono ?_
  rintro r w18 ⟨rfl, hb⟩
  replace NN := Lib.hid (NN.out.below hb)
  replace HA := Lib.hid (HA.out.below hb)
  replace HBB := Lib.hid (HBB.out.below hb)
  clear hb
  go_wp2_with fail
  refine (lrev RA.out HA.out.1).mono ?_
  rintro r w19 ⟨v19, rfl, hr, hb⟩
  have HR19 := Lib.hid hr
  obtain ⟨Ar19, cr19, rfl, _, _, _, _⟩ := hr
  replace NN := Lib.hid (NN.out.below hb)
  replace HA := Lib.hid (HA.out.below hb)
  replace HBB := Lib.hid (HBB.out.below hb)
  clear hb
  go_wp2_with fail
  refine (lpost_no NN.out sx (p + 1) 2 1 (mc A 7) (ma A 7) (fun j => -mm A 7 j) _ 3 HR19.out (by omega) (twhen p1 p3 _ _ _) (by omega)).mono ?_
  rintro r w20 ⟨rfl, hb⟩
  replace NN := Lib.hid (NN.out.below hb)
  replace HA := Lib.hid (HA.out.below hb)
  replace HBB := Lib.hid (HBB.out.below hb)
  clear hb
  go_wp2_with fail
  refine (lrev RA.out HA.out.1).mono ?_
  rintro r w21 ⟨v21, rfl, hr, hb⟩
  have HR21 := Lib.hid hr
  obtain ⟨Ar21, cr21, rfl, _, _, _, _⟩ := hr
  replace NN := Lib.hid (NN.out.below hb)
  replace HA := Lib.hid (HA.out.below hb)
  replace HBB := Lib.hid (HBB.out.below hb)
  clear hb
  go_wp2_with fail
  refine (lpost_no NN.out sx p 2 9 (mc A 7) (ma A 7) (fun j => -mm A 7 j) _ 3 HR21.out (by omega) (tnone p1 p3 _ _ _) (by omega)).mono ?_
  rintro r w22 ⟨rfl, hb⟩
  replace NN := Lib.hid (NN.out.below hb)
  replace HA := Lib.hid (HA.out.below hb)
  replace HBB := Lib.hid (HBB.out.below hb)
  clear hb
  go_wp2_with fail
  refine (lrev RA.out HA.out.1).mono ?_
  rintro r w23 ⟨v23, rfl, hr, hb⟩
  have HR23 := Lib.hid hr
  obtain ⟨Ar23, cr23, rfl, _, _, _, _⟩ := hr
  replace NN := Lib.hid (NN.out.below hb)
  replace HA := Lib.hid (HA.out.below hb)
  replace HBB := Lib.hid (HBB.out.below hb)
  clear hb
  go_wp2_with fail
  refine (lpost_ok NN.out (by decide) sx p 2 1 (mc A 7) (ma A 7) (fun j => -mm A 7 j) _ HR23.out (tturn p1 p3 RA.out RB.out)).mono ?_
  rintro r w24 ⟨rfl, O4, nn, st⟩
  replace NN : Hid (Now w w24 O4 1 w.heap.size 3 (tj3 p A B)) := Lib.hid nn
  replace HA := Lib.hid (HA.out.step st (by decide))
  replace HBB := Lib.hid (HBB.out.step st (by decide))
  clear nn st
  go_wp2_with fail
  refine (lrev RA.out HA.out.1).mono ?_
  rintro r w25 ⟨v25, rfl, hr, hb⟩
  have HR25 := Lib.hid hr
  obtain ⟨Ar25, cr25, rfl, _, _, _, _⟩ := hr
  replace NN := Lib.hid (NN.out.below hb)
  replace HA := Lib.hid (HA.out.below hb)
  replace HBB := Lib.hid (HBB.out.below hb)
  clear hb
  go_wp2_with fail
  refine (lpost_no NN.out sx p 2 1 (mc A 7) (ma A 7) (fun j => -mm A 7 j) _ 4 HR25.out (by omega) (ttwice p1 p3 _ _ _) (by omega)).mono ?_
  rintro r w26 ⟨rfl, hb⟩
  replace NN := Lib.hid (NN.out.below hb)
  replace HA := Lib.hid (HA.out.below hb)
  replace HBB := Lib.hid (HBB.out.below hb)
  clear hb
  go_wp2_with fail
  refine (lpost_no NN.out sx p 2 3 (mc A 7) (ma A 7) (mm A 7) _ 3 HA.out.1 (by omega) (tback p1 p3 _ _ _) (by omega)).mono ?_
  rintro r w27 ⟨rfl, hb⟩
  replace NN := Lib.hid (NN.out.below hb)
  replace HA := Lib.hid (HA.out.below hb)
  replace HBB := Lib.hid (HBB.out.below hb)
  clear hb
  go_wp2_with fail
  refine (ltrialT NN.out sx p (fun _ => 0) tt_0).mono ?_
  rintro r w28 ⟨v28, rfl, ho, hb⟩
  rw [mc_none] at ho
  obtain ⟨A28, c28, rfl, _⟩ := ho.form
  replace NN := Lib.hid (NN.out.below hb)
  replace HA := Lib.hid (HA.out.below hb)
  replace HBB := Lib.hid (HBB.out.below hb)
  clear ho hb
  go_wp2_with fail
  refine (ltrialT NN.out sx (p + 1) B tt_b).mono ?_
  rintro r w29 ⟨v29, rfl, ho, hb⟩
  have HO29 := Lib.hid ho.someL
  replace NN := Lib.hid (NN.out.below hb)
  replace HA := Lib.hid (HA.out.below hb)
  replace HBB := Lib.hid (HBB.out.below hb)
  clear ho hb
  go_wp2_with fail
  refine (lsame HO29.out HBB.out.1).mono ?_
  rintro r w30 ⟨rfl, hb⟩
  replace NN := Lib.hid (NN.out.below hb)
  replace HA := Lib.hid (HA.out.below hb)
  replace HBB := Lib.hid (HBB.out.below hb)
  clear hb
  go_wp2_with fail
  refine (ljournals NN.out).mono ?_
  rintro r w31 ⟨rfl, _, hb⟩
  replace NN := Lib.hid (NN.out.below hb)
  clear hb
  go_wp2_with fail
  refine (ltrialT NN.out sy 399 (fun _ => 0) (fun a _ _ => tt_y a)).mono ?_
  rintro r w32 ⟨v32, rfl, ho, hb⟩
  rw [mc_none] at ho
  obtain ⟨A32, c32, rfl, _⟩ := ho.form
  replace NN := Lib.hid (NN.out.below hb)
  clear ho hb
  go_wp2_with fail
  refine (wakes7_any _).mono ?_
  rintro r w33 ⟨rfl, hb⟩
  have H10 := Lib.hid (NN.out.low.trans (hb.mono NN.out.low.size))
  clear hb
  go_wp2
  go_ret
  exact ⟨rfl, H10.out⟩
end Go.Proofs.Ytpbpflhoeidpnaa
