/- StoreOwn: its walk. -/
import Derived.Test.YtpafhakgpmgmeaaLaw07d
import Derived.WalkKit
import Derived.WalkSpells
import Derived.WalkLawsBesides
import Derived.Lib.Hide
import Derived.Deep.LoopGhost
import Derived.IntWalk
namespace Go.Proofs.Ytpafhakgpmgmeaa
open Go.RowKit

open Classical in
/-- new blocks are given a mark of their own -/
theorem now_tag {w0 w w1 : World} {O : Nat → Nat} {t sb n : Nat} {js : Nat → Jn} (h : Now w0 w O t sb n js) (k : Below w.heap.size w w1) (P : Nat → Prop) (hP : ∀ b, P b → w.heap.size ≤ b ∧ b < w1.heap.size) (t2 : Nat) :
    ∃ O', (∀ b, P b → O' b = t2) ∧ Now w0 w1 O' t sb n js ∧ ∀ t3, Step w0.heap.size O t3 w O' w1 := by
  obtain ⟨v, L, s⟩ := h.st
  have hB := h.low.size
  have e : ∀ b, b < w.heap.size → (if P b then t2 else O b) = O b := fun b hb => if_neg fun q => by have := (hP b q).1; omega
  have f : Fin0 w0.heap.size (fun b => if P b then t2 else O b) w1 := ⟨fun b hb => (e b (by omega)).trans (h.fin.1 b hb), fun b hb => (if_neg fun q => by have := (hP b q).2; omega).trans (h.fin.2 b (by have := k.size; omega))⟩
  refine ⟨fun b => if P b then t2 else O b, fun b q => if_pos q, ⟨⟨v, L, ?_⟩, f, h.low.trans (k.mono hB)⟩, fun t3 => ⟨⟨k.os, k.tape, k.output, k.size, fun i hi _ => k.block i hi⟩, e, f⟩⟩
  have s' := s.below k
  refine ⟨s'.cell, s'.frz, (e sb s.lt).trans s.tag, s'.own, fun b hb => ?_, fun j hj => ⟨(s'.lines j hj).1, fun b hb => ?_⟩, s.inv⟩
  · have := s.vtag b hb
    exact ⟨(e b (s.own.lt b hb).2).trans this.1, this.2⟩
  · by_cases h0 : (js j).n = 0
    · exact .inl h0
    · rcases (s.lines j hj).2 b hb with q | q
      · exact .inl q
      · exact .inr ((e b ((s.lines j hj).1.lt h0 b hb)).trans q)
theorem step_set {base t : Nat} {O : Nat → Nat} {w : World} (f : Fin0 base O w) (a : Addr) (u : Value) (h : O a.block = t) : Step base O t w O (w.setCell a u) :=
  ⟨⟨rfl, rfl, rfl, by simp, fun k _ hO => Below.heap_setCell _ _ _ _ fun e => hO (by rw [e]; exact h)⟩, fun _ _ => rfl, ⟨f.1, fun k hk => f.2 k (by simpa using hk)⟩⟩
theorem ownL_at {w : World} {E : TypeId} {base n b c : Nat} {ga gm : Nat → Int} (o : OwnL w E base (.slice (some ⟨b, 0, none⟩) n c) n ga gm) (k : Nat) (hk : k < n) : base ≤ b ∧ b < w.heap.size ∧ w.cell? ⟨b, k * 2, none⟩ = some (.int .i64 (ga k)) ∧ w.cell? ⟨b, k * 2 + 1, none⟩ = some (.int .i64 (gm k)) := by
  obtain ⟨b', c', e, _, _, h1, h2, h3⟩ := o.some (by omega)
  injection e with e1 _ _
  injection e1 with e1
  injection e1 with e1 _ _
  subst e1
  exact ⟨h1, h2, h3 k hk⟩
theorem own_addr {w : World} {E : TypeId} {base n c : Nat} {A : Option Addr} {ga gm : Nat → Int} (o : OwnL w E base (.slice A n c) n ga gm) (hn : 0 < n) : ∃ b, A = some ⟨b, 0, none⟩ := by
  obtain ⟨b', c', e, _⟩ := o.some hn
  injection e with e1 _ _
  exact ⟨b', e1⟩
section
variable (A B : Int → Int)
def oj1 : Nat → Jn := pushJ tj0 0 (mjn 1 3 1 0 ⟨#[97]⟩ A)
def oj2 : Nat → Jn := pushJ (oj1 A) 1 (mjn 2 1 1 0 ⟨#[98]⟩ B)
variable {A B}
theorem ob1 (e : ByteArray) (a u : Int) : bal (oj1 A) 1 e a u = if (⟨#[97]⟩ : ByteArray) = e ∧ 3 ≤ u then (if 1 ≤ a ∧ a ≤ (7 : Nat) then A a else 0) else 0 := by
  unfold oj1; rw [show (1 : Nat) = 0 + 1 from rfl, bal_push, bal_0, mjn_jb, Int.zero_add]
theorem ob2 (e : ByteArray) (a u : Int) : bal (oj2 A B) 2 e a u = (if (⟨#[97]⟩ : ByteArray) = e ∧ 3 ≤ u then (if 1 ≤ a ∧ a ≤ (7 : Nat) then A a else 0) else 0) + (if (⟨#[98]⟩ : ByteArray) = e ∧ 1 ≤ u then (if 1 ≤ a ∧ a ≤ (7 : Nat) then B a else 0) else 0) := by
  unfold oj2; rw [show (2 : Nat) = 1 + 1 from rfl, bal_push, ob1, mjn_jb]
theorem ab_ne : (⟨#[97]⟩ : ByteArray) ≠ ⟨#[98]⟩ := by decide
theorem ba_ne : (⟨#[98]⟩ : ByteArray) ≠ ⟨#[97]⟩ := by decide
theorem op1 (hA : RightS A) : PErr tj0 0 ⟨#[97]⟩ 3 1 0 (mc A 7) (ma A 7) (mm A 7) 0 :=
  perr_prov (by decide) (by omega) (by omega) hA.good (by omega) fun i hi => by
    have := hA.mm_bd i hi
    rw [bal_0]; unfold Mon; omega
theorem op2 (hB : RightS B) : PErr (oj1 A) 1 ⟨#[98]⟩ 1 1 0 (mc B 7) (ma B 7) (mm B 7) 0 :=
  perr_prov (by decide) (by omega) (by omega) hB.good (by omega) fun i hi => by
    have := hB.mm_bd i hi
    rw [ob1, if_neg (fun q => ab_ne q.1)]; unfold Mon; omega
theorem ot_a (u : Int) (hu : 3 ≤ u) (a : Int) (q1 : 1 ≤ a) (q2 : a ≤ (7 : Nat)) : bal (oj2 A B) 2 ⟨#[97]⟩ a u = A a := by
  rw [ob2, if_neg (c := (⟨#[98]⟩ : ByteArray) = ⟨#[97]⟩ ∧ 1 ≤ u) (fun q => ba_ne q.1)]
  simp only [q1, q2, hu, and_self, if_true]; omega
theorem ot_b (a : Int) (q1 : 1 ≤ a) (q2 : a ≤ (7 : Nat)) : bal (oj2 A B) 2 ⟨#[98]⟩ a 9 = B a := by
  have l : (1 : Int) ≤ 9 := by omega
  rw [ob2, if_neg (c := (⟨#[97]⟩ : ByteArray) = ⟨#[98]⟩ ∧ (3 : Int) ≤ 9) (fun q => ab_ne q.1)]
  simp only [q1, q2, l, and_self, if_true]; omega
theorem ot_0 (a : Int) : bal (oj2 A B) 2 ⟨#[97]⟩ a 2 = 0 := by
  rw [ob2, if_neg (c := (⟨#[98]⟩ : ByteArray) = ⟨#[97]⟩ ∧ (1 : Int) ≤ 2) (fun q => ba_ne q.1), if_neg (fun q => by have := q.2; omega)]; rfl
end
set_option maxHeartbeats 8000000 in
set_option maxRecDepth 100000 in
theorem storeOwn_walk (a0 : Option Addr) (len0 cap0 : Nat) (z0 : List Int) (a1 : Option Addr) (len1 cap1 : Nat) (z1 : List Int) (a2 : Option Addr) (len2 cap2 : Nat) (z2 : List Int) (w : World) (w0 : IsRow .i64 w a0 len0 cap0 z0) (w1 : IsRow .i64 w a1 len1 cap1 z1) (w2 : IsRow .i64 w a2 len2 cap2 z2) :
    Calls Try.prog 5 #[.slice a0 len0 cap0, .slice a1 len1 cap1, .slice a2 len2 cap2] w fun e w' => e = .returned (.bool true) ∧ Below w.heap.size w w' := by
  have I0 := Lib.hid w0.at.1
  have I1 := Lib.hid w1.at.1
  have I2 := Lib.hid w2.at.1
  clear w0 w1 w2
  go_enter Try.func5, Try.ntmps5
  go_wp2_with fail
  refine (new_any _).mono ?_
  rintro e w1 ⟨rfl, rfl⟩
  obtain ⟨O1, nw, _⟩ := now_new w w (fun _ => 0) (Fin0.zero _ _) (Below.refl _ _) 1 60 tj0
  have NN := Lib.hid nw
  obtain ⟨wb, hw2⟩ : ∃ wb, w.alloc (.cells #[.slice none 0 0] 60) = wb := ⟨_, rfl⟩
  rw [hw2] at NN
  rw [hw2]
  clear nw hw2
  go_wp2_with fail
  refine (right_any _ _ _ _ _ _ _ _ _ (I0.out.below NN.out.low) (I1.out.below NN.out.low)).mono ?_
  rintro e wc ⟨va, A, rfl, hA, hoa, hb⟩
  have RA := Lib.hid hA
  have HA := Lib.hid (SomeF.fresh NN.out.fin hoa (Nat.le_refl _))
  replace NN := Lib.hid (NN.out.below hb)
  clear hA hoa hb
  go_wp2_with fail
  refine (right_any _ _ _ _ _ _ _ _ _ (I0.out.below NN.out.low) (I2.out.below NN.out.low)).mono ?_
  rintro e wd ⟨vb, B, rfl, hB, hob, hb⟩
  have RB := Lib.hid hB
  have HBB := Lib.hid (SomeF.fresh NN.out.fin hob (Nat.le_refl _))
  replace NN := Lib.hid (NN.out.below hb)
  replace HA := Lib.hid (HA.out.below hb)
  clear hB hob hb I0 I1 I2
  have hmA := mc_le A 7
  have hmB := mc_le B 7
  obtain ⟨Aa, ca, rfl, _, _, hNa, hAa⟩ := HA.out.1
  obtain ⟨Ab, cb, rfl, _, _, _, _⟩ := HBB.out.1
  go_wp2_with fail
  refine (copyl_any _ _ _ _ _ _ hAa (by omega) hNa).mono ?_
  rintro r we ⟨vl, rfl, hoc, hb⟩
  obtain ⟨O2, ht2, nn, st⟩ := now_tag NN.out hb (fun b => vl.ownBlock = some b) (fun b h => World.ownsRow.lt hoc b h) 2
  have HT := Lib.hid ht2
  replace NN := Lib.hid nn
  replace HA := Lib.hid (HA.out.step (st 3) (by decide))
  replace HBB := Lib.hid (HBB.out.step (st 3) (by decide))
  have HOC := Lib.hid hoc
  obtain ⟨Al, cl, rfl, hl1, hl2, _⟩ := hoc.form
  clear hNa hAa hoc hb ht2 nn st
  go_wp2_with fail
  refine (lpost_ok NN.out (by decide) ⟨#[97]⟩ 3 1 0 (mc A 7) (ma A 7) (mm A 7) _ HOC.out.someL (op1 RA.out)).mono ?_
  rintro r wf ⟨rfl, O3, nn, st⟩
  replace HOC := Lib.hid (ownL_blocks HOC.out fun b hb => st.kept.block b (World.ownsRow.lt HOC.out b hb).2 (by rw [HT.out b hb]; decide))
  replace HT : Hid (∀ b, (Value.slice Al (mc A 7) cl).ownBlock = some b → O3 b = 2) := Lib.hid fun b hb => by
    have hlt := (World.ownsRow.lt HOC.out b hb).2
    by_cases q : b < we.heap.size
    · rw [st.ext b q]; exact HT.out b hb
    · exact absurd (NN.out.fin.2 b (by omega)) (by rw [HT.out b hb]; decide)
  replace NN : Hid (Now w wf O3 1 w.heap.size 1 (oj1 A)) := Lib.hid nn
  replace HA := Lib.hid (HA.out.step st (by decide))
  replace HBB := Lib.hid (HBB.out.step st (by decide))
  clear nn st
  go_wp2_with fail
  go_loopg [42] (mc A 7) (fun gh i wr => ∃ k : Nat, k ≤ mc A 7 ∧ gh = mc A 7 - k ∧ i = .int .i64 k ∧ OwnL wr 26 wd.heap.size (.slice Al (mc A 7) cl) (mc A 7) (ma A 7) (fun j => if j < k then mm A 7 j + 1 else mm A 7 j) ∧ Step w.heap.size O3 2 wf O3 wr)
  case atStart => exact ⟨0, Nat.zero_le _, by omega, rfl, HOC.out.ext fun j hj => ⟨rfl, (if_neg (by omega)).symm⟩, Step.refl NN.out.fin⟩
  case round =>
    obtain ⟨k, hk, hgk, rfl, ho, hst⟩ := hrel
    have HGK := Lib.hid hgk
    have HO := Lib.hid ho
    have HST := Lib.hid hst
    clear hgk ho hst
    by_cases hlt : k < mc A 7
    · obtain ⟨lb, rfl⟩ := own_addr HO.out (by omega)
      obtain ⟨e1, e2, d1, d2⟩ := ownL_at HO.out k hlt
      have f2 := World.ownsRow.frozenAt HO.out (k * 2 + 1)
      rw [if_neg (by omega)] at d2
      have bd := RA.out.mm_bd k hlt
      obtain ⟨_, _, bd1, bd2⟩ := bd
      have HT1 := Lib.hid (HT.out lb rfl)
      obtain ⟨x, hx⟩ : ∃ x, mm A 7 k = x := ⟨_, rfl⟩
      rw [hx] at d2 bd1 bd2
      have HX := Lib.hid hx
      clear hx
      go_wp2
      go_roundg (mc A 7 - (k + 1))
      case measure => have := HGK.out; omega
      case rel =>
        refine ⟨k + 1, by omega, rfl, by go_num, ?_, HST.out.trans (step_set HST.out.fin _ _ HT1.out)⟩
        refine (HO.out.setM k (x + 1)).ext fun j hj => ⟨rfl, ?_⟩
        by_cases q : j = k
        · subst q; rw [if_pos rfl, if_pos (by omega), HX.out]
        · by_cases p : j < k
          · rw [if_neg q, if_pos p, if_pos (by omega)]
          · rw [if_neg q, if_neg p, if_neg (by omega)]
    · have hke : k = mc A 7 := by omega
      replace NN := Lib.hid (NN.out.step HST.out (by decide) (by decide))
      replace HA := Lib.hid (HA.out.step HST.out (by decide))
      replace HBB := Lib.hid (HBB.out.step HST.out (by decide))
      clear HO HST HT HOC hlt hk
      subst hke
      go_wp2_with fail
      refine (lpost_ok NN.out (by decide) ⟨#[98]⟩ 1 1 0 (mc B 7) (ma B 7) (mm B 7) _ HBB.out.1 (op2 RB.out)).mono ?_
      rintro r wg ⟨rfl, O4, nn, st⟩
      replace NN : Hid (Now w wg O4 1 w.heap.size 2 (oj2 A B)) := Lib.hid nn
      replace HA := Lib.hid (HA.out.step st (by decide))
      replace HBB := Lib.hid (HBB.out.step st (by decide))
      clear nn st
      go_wp2_with fail
      refine (ljournals NN.out).mono ?_
      rintro r wh ⟨rfl, ⟨L1, hj1, hj2⟩, hb⟩
      have HJ := Lib.hid hj1
      have HL0 : Hid (OwnL wh 26 (wg.heap.size + 1) (L1 0) (mc A 7) (ma A 7) (mm A 7)) := Lib.hid (hj2 0 (by omega))
      have HBH := Lib.hid hb
      obtain ⟨B0, c0, hL0, _, _, _⟩ := HL0.out.form
      rw [hL0] at HL0
      have c5 : wh.cell? ⟨wg.heap.size, 5, none⟩ = some (.slice B0 (mc A 7) c0) := by rw [← hL0]; exact (ownJ_at HJ.out 0 (by omega)).2.2.2.2.2.2
      have C5 := Lib.hid c5
      clear hj1 hj2 hb hL0
      go_wp2_with fail
      go_loopg [72] (mc A 7) (fun gh i wr => ∃ k : Nat, k ≤ mc A 7 ∧ gh = mc A 7 - k ∧ i = .int .i64 k ∧ OwnL wr 26 (wg.heap.size + 1) (.slice B0 (mc A 7) c0) (mc A 7) (ma A 7) (fun j => if j < k then mm A 7 j - 1 else mm A 7 j) ∧ OwnJ wr wg.heap.size (.slice (some ⟨wg.heap.size, 0, none⟩) 2 2) 2 L1 (oj2 A B) ∧ wr.cell? ⟨wg.heap.size, 5, none⟩ = some (.slice B0 (mc A 7) c0) ∧ Below wg.heap.size wg wr)
      case atStart => exact ⟨0, Nat.zero_le _, by omega, rfl, HL0.out.ext fun j hj => ⟨rfl, (if_neg (by omega)).symm⟩, HJ.out, C5.out, HBH.out⟩
      case round =>
        obtain ⟨k, hk, hgk, rfl, ho, hoj, hc5, hbk⟩ := hrel
        have HGK := Lib.hid hgk
        have HO := Lib.hid ho
        have HJ2 := Lib.hid hoj
        have C52 := Lib.hid hc5
        have HBK := Lib.hid hbk
        clear hgk ho hoj hbk
        by_cases hlt : k < mc A 7
        · obtain ⟨lb, rfl⟩ := own_addr HO.out (by omega)
          obtain ⟨e1, e2, d1, d2⟩ := ownL_at HO.out k hlt
          have f2 := World.ownsRow.frozenAt HO.out (k * 2 + 1)
          rw [if_neg (by omega)] at d2
          have bd := RA.out.mm_bd k hlt
          obtain ⟨_, _, bd1, bd2⟩ := bd
          obtain ⟨x, hx⟩ : ∃ x, mm A 7 k = x := ⟨_, rfl⟩
          rw [hx] at d2 bd1 bd2
          have HX := Lib.hid hx
          clear hx
          go_wp2
          go_roundg (mc A 7 - (k + 1))
          case measure => have := HGK.out; omega
          case rel =>
            have hne : wg.heap.size ≠ lb := by omega
            refine ⟨k + 1, by omega, rfl, by go_num, ?_, ?_, ?_, HBK.out.setCell (p := ⟨lb, k * 2 + 1, none⟩) (by show wg.heap.size ≤ lb; omega) _⟩
            · refine (HO.out.setM k (x - 1)).ext fun j hj => ⟨rfl, ?_⟩
              by_cases q : j = k
              · subst q; rw [if_pos rfl, if_pos (by omega), HX.out]
              · by_cases p : j < k
                · rw [if_neg q, if_pos p, if_pos (by omega)]
                · rw [if_neg q, if_neg p, if_neg (by omega)]
            · refine HJ2.out.blocks fun b hb => ?_
              have : wg.heap.size = b := by simpa [Value.ownBlock] using hb
              subst this
              exact Below.heap_setCell _ _ _ _ hne
            · rw [World.cell?_setCell_far _ _ _ _ (by show lb ≠ wg.heap.size; omega)]; exact C52.out
        · have hke : k = mc A 7 := by omega
          obtain ⟨hlb, j0, j1, j2, j3, j4, j5⟩ := ownJ_at HJ2.out 1 (by omega)
          have d7 : wr.cell? ⟨wg.heap.size, 7, none⟩ = some (.string ⟨#[98]⟩) := j1
          have f7 := World.ownsRow.frozenAt HJ2.out 7
          clear HO hlt hk j0 j1 j2 j3 j4 j5 C52 hc5 HJ2 HJ HL0 C5
          subst hke
          go_wp2_with fail
          have hbx := HBK.out.setCell (p := ⟨wg.heap.size, 7, none⟩) (Nat.le_refl _) (.string ⟨#[120]⟩)
          replace NN := Lib.hid (NN.out.below hbx)
          replace HA := Lib.hid (HA.out.below hbx)
          replace HBB := Lib.hid (HBB.out.below hbx)
          clear hbx d7 f7 HBK HBH
          refine (ltrialT NN.out ⟨#[97]⟩ 9 A (ot_a 9 (by omega))).mono ?_
          rintro r wi ⟨vt, rfl, hot, hb⟩
          have HOT := Lib.hid hot
          have HBI := Lib.hid hb
          obtain ⟨At, ct, rfl, _, _, _⟩ := hot.form
          clear hot hb
          go_wp2_with fail
          refine (lsame HOT.out.someL (HA.out.1.below HBI.out)).mono ?_
          rintro r wj ⟨rfl, hb⟩
          replace HOT := Lib.hid (HOT.out.below hb)
          replace HBI := Lib.hid (HBI.out.trans (hb.mono HBI.out.size))
          clear hb
          go_wp2_with fail
          obtain ⟨wt, hwt⟩ : ∃ wt, wr.setCell ⟨wg.heap.size, 7, none⟩ (.string ⟨#[120]⟩) = wt := ⟨_, rfl⟩
          rw [hwt] at NN HA HBB HOT HBI
          clear hwt
          go_loopg [98] (mc A 7) (fun gh i wr => ∃ k : Nat, k ≤ mc A 7 ∧ gh = mc A 7 - k ∧ i = .int .i64 k ∧ OwnL wr 26 wt.heap.size (.slice At (mc A 7) ct) (mc A 7) (ma A 7) (fun j => if j < k then 0 else mm A 7 j) ∧ Below wt.heap.size wt wr)
          case atStart => exact ⟨0, Nat.zero_le _, by omega, rfl, HOT.out.ext fun j hj => ⟨rfl, (if_neg (by omega)).symm⟩, HBI.out⟩
          case round =>
            obtain ⟨k, hk, hgk, rfl, ho, hbk⟩ := hrel
            have HGK := Lib.hid hgk
            have HO := Lib.hid ho
            have HBK := Lib.hid hbk
            clear hgk ho hbk
            by_cases hlt : k < mc A 7
            · obtain ⟨lb, rfl⟩ := own_addr HO.out (by omega)
              obtain ⟨e1, e2, d1, d2⟩ := ownL_at HO.out k hlt
              have f2 := World.ownsRow.frozenAt HO.out (k * 2 + 1)
              go_wp2
              go_roundg (mc A 7 - (k + 1))
              case measure => have := HGK.out; omega
              case rel =>
                refine ⟨k + 1, by omega, rfl, by go_num, ?_, HBK.out.setCell (p := ⟨lb, k * 2 + 1, none⟩) e1 _⟩
                refine (HO.out.setM k 0).ext fun j hj => ⟨rfl, ?_⟩
                by_cases q : j = k
                · subst q; rw [if_pos rfl, if_pos (by omega)]
                · by_cases p : j < k
                  · rw [if_neg q, if_pos p, if_pos (by omega)]
                  · rw [if_neg q, if_neg p, if_neg (by omega)]
            · have hke : k = mc A 7 := by omega
              replace NN := Lib.hid (NN.out.below HBK.out)
              replace HA := Lib.hid (HA.out.below HBK.out)
              replace HBB := Lib.hid (HBB.out.below HBK.out)
              clear HO hlt hk HBK HOT HBI
              subst hke
              go_wp2_with fail
              refine (ljournals NN.out).mono ?_
              rintro r wk ⟨rfl, ⟨L2, hj1, hj2⟩, hb⟩
              have HL0 : Hid (OwnL wk 26 _ (L2 0) (mc A 7) (ma A 7) (mm A 7)) := Lib.hid (hj2 0 (by omega))
              obtain ⟨B2, c2, hL0, _, _, _⟩ := HL0.out.form
              rw [hL0] at HL0
              have m5 := (ownJ_at hj1 0 (by omega)).2.2.2.2.2.2
              have m7 := (ownJ_at hj1 1 (by omega)).2.2.1
              have M7 := Lib.hid m7
              rw [hL0] at m5
              replace NN := Lib.hid (NN.out.below hb)
              replace HA := Lib.hid (HA.out.below hb)
              replace HBB := Lib.hid (HBB.out.below hb)
              clear hj1 hj2 hb hL0 m7
              go_wp2_with fail
              refine (lsame HL0.out.someL HA.out.1).mono ?_
              rintro r x1 ⟨rfl, hb⟩
              replace NN := Lib.hid (NN.out.below hb)
              replace HA := Lib.hid (HA.out.below hb)
              replace HBB := Lib.hid (HBB.out.below hb)
              have m7 : x1.cell? ⟨wr.heap.size, 7, none⟩ = some (.string ⟨#[98]⟩) := cell_keep M7.out hb
              clear hb
              go_wp2_with fail
              refine (ltrialT NN.out ⟨#[98]⟩ 9 B ot_b).mono ?_
              rintro r x2 ⟨v2, rfl, ho, hb⟩
              have HO2 := Lib.hid ho.someL
              replace NN := Lib.hid (NN.out.below hb)
              replace HA := Lib.hid (HA.out.below hb)
              replace HBB := Lib.hid (HBB.out.below hb)
              clear ho hb
              go_wp2_with fail
              refine (lsame HO2.out HBB.out.1).mono ?_
              rintro r x3 ⟨rfl, hb⟩
              replace NN := Lib.hid (NN.out.below hb)
              replace HA := Lib.hid (HA.out.below hb)
              replace HBB := Lib.hid (HBB.out.below hb)
              clear hb
              go_wp2_with fail
              refine (ltrialT NN.out ⟨#[97]⟩ 3 A (ot_a 3 (by omega))).mono ?_
              rintro r x4 ⟨v4, rfl, ho, hb⟩
              have HO4 := Lib.hid ho.someL
              replace NN := Lib.hid (NN.out.below hb)
              replace HA := Lib.hid (HA.out.below hb)
              replace HBB := Lib.hid (HBB.out.below hb)
              clear ho hb
              go_wp2_with fail
              refine (lsame HO4.out HA.out.1).mono ?_
              rintro r x5 ⟨rfl, hb⟩
              replace NN := Lib.hid (NN.out.below hb)
              replace HA := Lib.hid (HA.out.below hb)
              replace HBB := Lib.hid (HBB.out.below hb)
              clear hb
              go_wp2_with fail
              refine (ltrialT NN.out ⟨#[97]⟩ 2 (fun _ => 0) (fun a _ _ => ot_0 a)).mono ?_
              rintro r x6 ⟨v6, rfl, ho, hb⟩
              rw [mc_none] at ho
              obtain ⟨A6, c6, rfl, _⟩ := ho.form
              replace NN := Lib.hid (NN.out.below hb)
              clear ho hb
              go_wp2_with fail
              refine (wakes7_any _).mono ?_
              rintro r x7 ⟨rfl, hb⟩
              have H10 := Lib.hid (NN.out.low.trans (hb.mono NN.out.low.size))
              clear hb
              go_wp2
              go_ret
              exact ⟨rfl, H10.out⟩
end Go.Proofs.Ytpafhakgpmgmeaa
