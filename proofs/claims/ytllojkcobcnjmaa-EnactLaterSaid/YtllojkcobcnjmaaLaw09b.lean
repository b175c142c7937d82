/- EnactLater: its walk. -/
import Derived.Test.YtllojkcobcnjmaaLaw09a
import Derived.WalkKit
import Derived.WalkSpells
import Derived.WalkLawsBesides
import Derived.Lib.Hide
import Derived.IntWalk
import Derived.Deep.LoopGhost
namespace Go.Proofs.Ytllojkcobcnjmaa
open Go.RowKit

/-- the three rates of EnactLater -/
def xL (y r p : Int) : Rt := ⟨⟨#[120]⟩, y, r, p⟩
def rL1 (y p a : Int) : Nat → Rt := pushT rno 0 (xL y a p)
def rL2 (y p a b : Int) : Nat → Rt := pushT (rL1 y p a) 1 (xL (y + 2) b p)
def rL3 (y p a b l : Int) : Nat → Rt := pushT (rL2 y p a b) 2 (xL y b (p + l))
section
variable {y p a b l : Int}
theorem rL_at (k : Nat) (h : k < 3) : (k = 0 ∧ rL3 y p a b l k = xL y a p) ∨ (k = 1 ∧ rL3 y p a b l k = xL (y + 2) b p) ∨ (k = 2 ∧ rL3 y p a b l k = xL y b (p + l)) := by
  rcases (show k = 0 ∨ k = 1 ∨ k = 2 by omega) with rfl | rfl | rfl
  · exact .inl ⟨rfl, rfl⟩
  · exact .inr (.inl ⟨rfl, rfl⟩)
  · exact .inr (.inr ⟨rfl, rfl⟩)
theorem later_one (Y P : Int) (h1 : y + 2 ≤ Y) (h2 : p ≤ P) : Known (rL3 y p a b l) 3 ⟨#[120]⟩ Y P b true := by
  refine .inl ⟨rfl, 1, by omega, ⟨rfl, h1, h2⟩, fun k hk hM => ?_, rfl⟩
  show Le _ (xL (y + 2) b p)
  rcases rL_at (y := y) (p := p) (a := a) (b := b) (l := l) k hk with ⟨_, e⟩ | ⟨_, e⟩ | ⟨_, e⟩ <;> rw [e] <;> unfold Le xL <;> simp <;> omega
theorem later_two (hl : 1 ≤ l) (Y P : Int) (h1 : y ≤ Y) (h2 : Y < y + 2) (h3 : p + l ≤ P) : Known (rL3 y p a b l) 3 ⟨#[120]⟩ Y P b true := by
  refine .inl ⟨rfl, 2, by omega, ⟨rfl, h1, h3⟩, fun k hk hM => ?_, rfl⟩
  show Le _ (xL y b (p + l))
  rcases rL_at (y := y) (p := p) (a := a) (b := b) (l := l) k hk with ⟨_, e⟩ | ⟨_, e⟩ | ⟨_, e⟩ <;> rw [e] at hM ⊢ <;> unfold Mt xL at hM <;> unfold Le xL <;> simp at hM ⊢ <;> omega
theorem later_zero (Y P : Int) (h1 : y ≤ Y) (h2 : Y < y + 2) (h3 : p ≤ P) (h4 : P < p + l) : Known (rL3 y p a b l) 3 ⟨#[120]⟩ Y P a true := by
  refine .inl ⟨rfl, 0, by omega, ⟨rfl, h1, h3⟩, fun k hk hM => ?_, rfl⟩
  show Le _ (xL y a p)
  rcases rL_at (y := y) (p := p) (a := a) (b := b) (l := l) k hk with ⟨_, e⟩ | ⟨_, e⟩ | ⟨_, e⟩ <;> rw [e] at hM ⊢ <;> unfold Mt xL at hM <;> unfold Le xL <;> simp at hM ⊢ <;> omega
theorem later_none (hl : 1 ≤ l) (Y P : Int) (h : Y < y ∨ P < p) : Known (rL3 y p a b l) 3 ⟨#[120]⟩ Y P 0 false := by
  refine .inr ⟨rfl, rfl, fun k hk hM => ?_⟩
  rcases rL_at (y := y) (p := p) (a := a) (b := b) (l := l) k hk with ⟨_, e⟩ | ⟨_, e⟩ | ⟨_, e⟩ <;> rw [e] at hM <;> unfold Mt xL at hM <;> simp at hM <;> omega
theorem later_other (Y P : Int) : Known (rL3 y p a b l) 3 ⟨#[121]⟩ Y P 0 false := by
  refine .inr ⟨rfl, rfl, fun k hk hM => ?_⟩
  have h : (⟨#[120]⟩ : ByteArray) = ⟨#[121]⟩ := by
    rcases rL_at (y := y) (p := p) (a := a) (b := b) (l := l) k hk with ⟨_, e⟩ | ⟨_, e⟩ | ⟨_, e⟩ <;> rw [e] at hM <;> exact hM.1
  exact absurd h (by decide)
theorem later_e0 (hy : 0 ≤ y ∧ y < 90) (hp : 0 ≤ p ∧ p < 300) (ha : 0 ≤ a ∧ a ≤ 1000000) : TErr rno 0 ⟨#[120]⟩ y a p 0 := terr_first _ ⟨by decide, by omega, by omega, by omega, by omega, by omega, by omega⟩
theorem later_e1 (hy : 0 ≤ y ∧ y < 90) (hp : 0 ≤ p ∧ p < 300) (hb : 0 ≤ b ∧ b ≤ 1000000) : TErr (rL1 y p a) 1 ⟨#[120]⟩ (y + 2) b p 0 :=
  .ok ⟨by decide, by omega, by omega, by omega, by omega, by omega, by omega⟩ (fun ⟨k, hk, _, e, _⟩ => by
    obtain rfl : k = 0 := by omega
    have : y = y + 2 := e
    omega) (by omega)
theorem later_e2 (hy : 0 ≤ y ∧ y < 90) (hp : 0 ≤ p ∧ p < 300) (hb : 0 ≤ b ∧ b ≤ 1000000) (hl : 1 ≤ l ∧ l ≤ 50) : TErr (rL2 y p a b) 2 ⟨#[120]⟩ y b (p + l) 0 :=
  .ok ⟨by decide, by omega, by omega, by omega, by omega, by omega, by omega⟩ (fun ⟨k, hk, _, e, e'⟩ => by
    rcases (show k = 0 ∨ k = 1 by omega) with rfl | rfl
    · have : p = p + l := e'
      omega
    · have : y + 2 = y := e
      omega) (by omega)
theorem later_e3 (hy : 0 ≤ y ∧ y < 90) (hp : 0 ≤ p ∧ p < 300) (hb : 0 ≤ b ∧ b ≤ 1000000) : TErr (rL3 y p a b l) 3 ⟨#[120]⟩ y b p 4 :=
  .there ⟨by decide, by omega, by omega, by omega, by omega, by omega, by omega⟩ ⟨0, by omega, rfl, rfl, rfl⟩
end
/-- what is asked, and told -/
structure Qr where
  y : Int
  p : Int
  r : Int
  ok : Bool
def qe (q : Qr) : List Value := [.int .i64 q.y, .int .i64 q.p, .int .i64 q.r, .bool q.ok]
/-- the nine questions -/
def gq (y p a b l : Int) : Nat → Qr
  | 0 => ⟨y, p - 1, 0, false⟩
  | 1 => ⟨y - 1, p, 0, false⟩
  | 2 => ⟨y, p, a, true⟩
  | 3 => ⟨y + 1, p, a, true⟩
  | 4 => ⟨y + 2, p, b, true⟩
  | 5 => ⟨y + 9, p + 90, b, true⟩
  | 6 => ⟨y, p + l, b, true⟩
  | 7 => ⟨y + 1, p + l - 1, a, true⟩
  | _ => ⟨y + 1, p + l, b, true⟩
theorem gq_known {y p a b l : Int} (hl : 1 ≤ l ∧ l ≤ 50) (k : Nat) (hk : k < 9) : Known (rL3 y p a b l) 3 ⟨#[120]⟩ (gq y p a b l k).y (gq y p a b l k).p (gq y p a b l k).r (gq y p a b l k).ok := by
  rcases (show k = 0 ∨ k = 1 ∨ k = 2 ∨ k = 3 ∨ k = 4 ∨ k = 5 ∨ k = 6 ∨ k = 7 ∨ k = 8 by omega) with rfl | rfl | rfl | rfl | rfl | rfl | rfl | rfl | rfl
  · exact later_none hl.1 y (p - 1) (.inr (by omega))
  · exact later_none hl.1 (y - 1) p (.inl (by omega))
  · exact later_zero y p (by omega) (by omega) (by omega) (by omega)
  · exact later_zero (y + 1) p (by omega) (by omega) (by omega) (by omega)
  · exact later_one (y + 2) p (by omega) (by omega)
  · exact later_one (y + 9) (p + 90) (by omega) (by omega)
  · exact later_two hl.1 y (p + l) (by omega) (by omega) (by omega)
  · exact later_zero (y + 1) (p + l - 1) (by omega) (by omega) (by omega) (by omega)
  · exact later_two hl.1 (y + 1) (p + l) (by omega) (by omega) (by omega)
set_option maxRecDepth 100000 in
theorem gl_is (y p a b l : Int) : [Value.int .i64 y, .int .i64 (p - 1), .int .i64 0, .bool false, .int .i64 (y - 1), .int .i64 p, .int .i64 0, .bool false, .int .i64 y, .int .i64 p, .int .i64 a, .bool true, .int .i64 (y + 1), .int .i64 p, .int .i64 a, .bool true, .int .i64 (y + 2), .int .i64 p, .int .i64 b, .bool true, .int .i64 (y + 9), .int .i64 (p + 90), .int .i64 b, .bool true, .int .i64 y, .int .i64 (p + l), .int .i64 b, .bool true, .int .i64 (y + 1), .int .i64 (p + l - 1), .int .i64 a, .bool true, .int .i64 (y + 1), .int .i64 (p + l), .int .i64 b, .bool true] = rl qe (gq y p a b l) 9 := rfl
set_option maxHeartbeats 4000000 in
set_option maxRecDepth 100000 in
theorem enactLater_walk (a0 a1 a2 a3 a4 : Int) (w : World) (_w0 : (Lit.int .i64 a0).wf = true) (_w1 : (Lit.int .i64 a1).wf = true) (_w2 : (Lit.int .i64 a2).wf = true) (_w3 : (Lit.int .i64 a3).wf = true) (_w4 : (Lit.int .i64 a4).wf = true) :
    Calls Try.prog 6 #[.int .i64 a0, .int .i64 a1, .int .i64 a2, .int .i64 a3, .int .i64 a4] w fun e w' => e = .returned (.bool true) ∧ Below w.heap.size w w' := by
  clear _w0 _w1 _w2 _w3 _w4
  go_enter Try.func6, Try.ntmps6
  go_wp2_with fail
  refine (enew_any _).mono ?_
  rintro e w1 ⟨rfl, rfl⟩
  obtain ⟨nw, _⟩ := nowt_new w w (fun _ => 0) (Fin0.zero _ _) (Below.refl _ _) 31 53 1 rno
  have N0 := Lib.hid nw
  clear nw
  go_wp2_with fail
  refine (within_some _ _ _ (by omega) (by omega)).mono ?_
  rintro e w' ⟨y, y1, y2, rfl, rfl⟩
  go_wp2_with fail
  refine (within_some _ _ _ (by omega) (by omega)).mono ?_
  rintro e w' ⟨p, p1, p2, rfl, rfl⟩
  go_wp2_with fail
  refine (within_some _ _ _ (by omega) (by omega)).mono ?_
  rintro e w' ⟨a, a1, a2, rfl, rfl⟩
  go_wp2_with fail
  refine (within_some _ _ _ (by omega) (by omega)).mono ?_
  rintro e w' ⟨b, b1, b2, rfl, rfl⟩
  go_wp2_with fail
  refine (within_some _ _ _ (by omega) (by omega)).mono ?_
  rintro e w' ⟨l', l1, l2, rfl, rfl⟩
  obtain ⟨l, hl⟩ : ∃ l, 1 + l' = l := ⟨_, rfl⟩
  have ew0 : IntKind.i64.wrap (1 + l') = l := by rw [← hl]; exact IntWalk.i64_in _ (by omega)
  have l3 : 1 ≤ l ∧ l ≤ 50 := by omega
  clear hl
  have ew1 : IntKind.i64.wrap (y + 2) = y + 2 := IntWalk.i64_in _ (by omega)
  have ew2 : IntKind.i64.wrap (p + l) = p + l := IntWalk.i64_in _ (by omega)
  have ew3 : IntKind.i64.wrap (p - 1) = p - 1 := IntWalk.i64_in _ (by omega)
  have ew4 : IntKind.i64.wrap (y - 1) = y - 1 := IntWalk.i64_in _ (by omega)
  have ew5 : IntKind.i64.wrap (y + 1) = y + 1 := IntWalk.i64_in _ (by omega)
  have ew6 : IntKind.i64.wrap (y + 9) = y + 9 := IntWalk.i64_in _ (by omega)
  have ew7 : IntKind.i64.wrap (p + 90) = p + 90 := IntWalk.i64_in _ (by omega)
  have ew8 : IntKind.i64.wrap (p + l - 1) = p + l - 1 := IntWalk.i64_in _ (by omega)
  have E0 := Lib.hid (later_e0 (y := y) (p := p) (a := a) ⟨y1, y2⟩ ⟨p1, p2⟩ ⟨a1, by omega⟩)
  have E1 := Lib.hid (later_e1 (y := y) (p := p) (a := a) (b := b) ⟨y1, y2⟩ ⟨p1, p2⟩ ⟨b1, by omega⟩)
  have E2 := Lib.hid (later_e2 (y := y) (p := p) (a := a) (b := b) (l := l) ⟨y1, y2⟩ ⟨p1, p2⟩ ⟨b1, by omega⟩ l3)
  have E3 := Lib.hid (later_e3 (y := y) (p := p) (a := a) (b := b) (l := l) ⟨y1, y2⟩ ⟨p1, p2⟩ ⟨b1, by omega⟩)
  have KN := Lib.hid fun (k : Nat) (hk : k < 9) => gq_known (y := y) (p := p) (a := a) (b := b) l3 k hk
  go_wp2_with fail
  refine (nadd_ok N0.out (by decide) (xL y a p) E0.out).mono ?_
  rintro e w1 ⟨rfl, O1, n1, _⟩
  have N1 := Lib.hid n1
  clear n1
  go_wp2_with fail
  refine (nadd_ok N1.out (by decide) (xL (y + 2) b p) E1.out).mono ?_
  rintro e w2 ⟨rfl, O2, n2, _⟩
  have N2 := Lib.hid n2
  clear n2
  go_wp2_with fail
  refine (nadd_ok N2.out (by decide) (xL y b (p + l)) E2.out).mono ?_
  rintro e w3 ⟨rfl, O3, n3, _⟩
  have N3 := Lib.hid n3
  clear n3
  go_wp2_with fail
  refine (nadd_no N3.out (xL y b p) 4 E3.out (by decide)).mono ?_
  rintro e w4 ⟨rfl, hb⟩
  have N4 : Hid (NowT 31 w w4 O3 1 w.heap.size 3 (rL3 y p a b l)) := Lib.hid (N3.out.below hb)
  clear hb
  have LI := Lib.hid (rec_lit w4 [.int .i64 y, .int .i64 (p - 1), .int .i64 0, .bool false, .int .i64 (y - 1), .int .i64 p, .int .i64 0, .bool false, .int .i64 y, .int .i64 p, .int .i64 a, .bool true, .int .i64 (y + 1), .int .i64 p, .int .i64 a, .bool true, .int .i64 (y + 2), .int .i64 p, .int .i64 b, .bool true, .int .i64 (y + 9), .int .i64 (p + 90), .int .i64 b, .bool true, .int .i64 y, .int .i64 (p + l), .int .i64 b, .bool true, .int .i64 (y + 1), .int .i64 (p + l - 1), .int .i64 a, .bool true, .int .i64 (y + 1), .int .i64 (p + l), .int .i64 b, .bool true] 48 w4.heap.size rfl)
  have N5 := Lib.hid (N4.out.below ((Below.refl _ _).alloc (Nat.le_refl _) (.cells #[.int .i64 y, .int .i64 (p - 1), .int .i64 0, .bool false, .int .i64 (y - 1), .int .i64 p, .int .i64 0, .bool false, .int .i64 y, .int .i64 p, .int .i64 a, .bool true, .int .i64 (y + 1), .int .i64 p, .int .i64 a, .bool true, .int .i64 (y + 2), .int .i64 p, .int .i64 b, .bool true, .int .i64 (y + 9), .int .i64 (p + 90), .int .i64 b, .bool true, .int .i64 y, .int .i64 (p + l), .int .i64 b, .bool true, .int .i64 (y + 1), .int .i64 (p + l - 1), .int .i64 a, .bool true, .int .i64 (y + 1), .int .i64 (p + l), .int .i64 b, .bool true] 48)))
  clear N0 N1 N2 N3 E0 E1 E2 E3
  go_wp2
  go_loopg [116] 9 (fun gh i wr => ∃ (k : Nat), k ≤ 9 ∧ gh = 9 - k ∧ i = .int .i64 k ∧ Below (w4.heap.size + 1) (w4.alloc (.cells #[.int .i64 y, .int .i64 (p - 1), .int .i64 0, .bool false, .int .i64 (y - 1), .int .i64 p, .int .i64 0, .bool false, .int .i64 y, .int .i64 p, .int .i64 a, .bool true, .int .i64 (y + 1), .int .i64 p, .int .i64 a, .bool true, .int .i64 (y + 2), .int .i64 p, .int .i64 b, .bool true, .int .i64 (y + 9), .int .i64 (p + 90), .int .i64 b, .bool true, .int .i64 y, .int .i64 (p + l), .int .i64 b, .bool true, .int .i64 (y + 1), .int .i64 (p + l - 1), .int .i64 a, .bool true, .int .i64 (y + 1), .int .i64 (p + l), .int .i64 b, .bool true] 48)) wr)
  case atStart => exact ⟨0, by omega, rfl, rfl, Below.refl _ _⟩
  case round =>
    obtain ⟨k, hk, hgk, rfl, hbw⟩ := hrel
    have HGK := Lib.hid hgk
    have N6 := Lib.hid (N5.out.below (hbw.mono (by simp)))
    by_cases hlt : k < 9
    · have hc : ∀ i u, (qe (gq y p a b l k))[i]? = some u → wr.cell? ⟨w4.heap.size, k * 4 + i, none⟩ = some u := fun i u hu => by
        have hi : i < 4 := by
          have := (List.getElem?_eq_some_iff.1 hu).1
          simpa [qe] using this
        exact (hbw.cell (p := ⟨w4.heap.size, k * 4 + i, none⟩) (by simp)).trans (LI.out _ _ (by rw [gl_is, rl_get (k := 4) (enc := qe) (fun x => (rfl : (qe x).length = 4)) hlt hi]; exact hu))
      have K1 := KN.out k hlt
      obtain ⟨Q, hQ⟩ : ∃ Q, gq y p a b l k = Q := ⟨_, rfl⟩
      rw [hQ] at hc K1
      clear hQ
      obtain ⟨qy, qp, qr, qo⟩ := Q
      replace K1 := Lib.hid K1
      have c0 : wr.cell? ⟨w4.heap.size, k * 4, none⟩ = some (.int .i64 qy) := hc 0 _ rfl
      have c1 : wr.cell? ⟨w4.heap.size, k * 4 + 1, none⟩ = some (.int .i64 qp) := hc 1 _ rfl
      have c2 : wr.cell? ⟨w4.heap.size, k * 4 + 2, none⟩ = some (.int .i64 qr) := hc 2 _ rfl
      have c3 : wr.cell? ⟨w4.heap.size, k * 4 + 3, none⟩ = some (.bool qo) := hc 3 _ rfl
      clear hc
      have zl : w4.heap.size < wr.heap.size := by have := hbw.size; simp at this; omega
      have HB := Lib.hid hbw
      clear hgk hbw
      have N7 := Lib.hid (N6.out.below ((Below.refl _ _).alloc (Nat.le_refl _) (.cells #[.int .i64 qy, .int .i64 qp, .int .i64 qr, .bool qo] 48)))
      have LN := Lib.hid (rec_lit wr [.int .i64 qy, .int .i64 qp, .int .i64 qr, .bool qo] 48 wr.heap.size rfl)
      go_wp2_with fail
      refine (nrate N7.out ⟨#[120]⟩ qy qp qr qo K1.out).mono ?_
      rintro e w5 ⟨rfl, hb⟩
      have k0 := cell_keep (LN.out 0 _ rfl) hb
      have k1 := cell_keep (LN.out 1 _ rfl) hb
      have k2 := cell_keep (LN.out 2 _ rfl) hb
      have k3 := cell_keep (LN.out 3 _ rfl) hb
      have HB2 := Lib.hid ((HB.out.alloc (by have := HB.out.size; simpa using this) _).trans (hb.mono (by simp; have := HB.out.size; simp at this; omega)))
      have e1 : (qr != qr) = false := by simp
      have e2 : (qo != qo) = false := by simp
      clear hb
      go_wp2
      go_roundg (9 - (k + 1))
      case measure => have := HGK.out; omega
      case rel => exact ⟨k + 1, by omega, rfl, by go_num, HB2.out⟩
    · obtain rfl : k = 9 := by omega
      clear hlt hgk hbw
      go_wp2_with fail
      refine (nrate N6.out ⟨#[121]⟩ y (p + l) 0 false (later_other _ _)).mono ?_
      rintro e w5 ⟨rfl, hb⟩
      have N7 := Lib.hid (N6.out.below hb)
      clear hb
      go_wp2_with fail
      refine (wakes9_any _).mono ?_
      rintro e w8 ⟨rfl, hb⟩
      have N8 := Lib.hid (N7.out.below hb)
      clear hb
      go_wp2
      go_ret
      exact ⟨rfl, N8.out.low⟩
end Go.Proofs.Ytllojkcobcnjmaa
