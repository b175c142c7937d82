/- The document's example of chapter 9; tables that a law made; EnactErrors, EnactLater: their walks. -/
import Derived.Test.YtllojkcobcnjmaaEnact3
import Derived.Test.YtllojkcobcnjmaaPlay
import Derived.WalkKit
import Derived.WalkSpells
import Derived.WalkLawsBesides
import Derived.Lib.Hide
import Derived.IntWalk
import Derived.Laws.StructEq
import Derived.Deep.LoopGhost
namespace Go.Proofs.Ytllojkcobcnjmaa
open Go.RowKit

/-- a table that the law made, of which something is told -/
structure NowT (E : TypeId) (w0 w : World) (O : Nat → Nat) (t sb n : Nat) (R : Nat → Rt) : Prop where
  st : ∃ v, TabV E w O w0.heap.size t sb v n R
  fin : Fin0 w0.heap.size O w
  low : Below w0.heap.size w0 w
section
variable {w0 w w1 : World} {O O1 : Nat → Nat} {t t' sb n : Nat} {R : Nat → Rt} {E : TypeId}
theorem NowT.below (h : NowT E w0 w O t sb n R) (k : Below w.heap.size w w1) : NowT E w0 w1 O t sb n R := by
  obtain ⟨v, s⟩ := h.st
  exact ⟨⟨v, s.below k⟩, h.fin.below k, h.low.trans (k.mono h.low.size)⟩
theorem NowT.step (h : NowT E w0 w O t sb n R) (k : Step w0.heap.size O t' w O1 w1) (h1 : t ≠ t') (h2 : t' ≠ 0) : NowT E w0 w1 O1 t sb n R := by
  obtain ⟨v, s⟩ := h.st
  exact ⟨⟨v, s.step k h1⟩, k.fin, h.low.trans (k.below h.fin h2 h.low.size)⟩
theorem NowT.inv (h : NowT E w0 w O t sb n R) : TInv n R := by
  obtain ⟨v, s⟩ := h.st
  exact s.inv
theorem nowt_new (w0 w : World) (O : Nat → Nat) (fn : Fin0 w0.heap.size O w) (lo : Below w0.heap.size w0 w) (E T : TypeId) (t : Nat) (R : Nat → Rt) :
    NowT E w0 (w.alloc (.cells #[.slice none 0 0] T)) (mark O t w.heap.size) t w.heap.size 0 R ∧ ∀ t', Step w0.heap.size O t' w (mark O t w.heap.size) (w.alloc (.cells #[.slice none 0 0] T)) := by
  obtain ⟨a, b⟩ := TabV.new (t := t) fn lo.size E T R
  exact ⟨⟨⟨_, a⟩, (b 0).fin, lo.alloc lo.size _⟩, b⟩
theorem nadd_no (h : NowT 31 w0 w O t sb n R) (x : Rt) (e : Int) (he : TErr R n x.j x.y x.r x.p e) (h0 : e ≠ 0) :
    Calls Try.prog 9 #[ptr sb, .string x.j, .int .i64 x.y, .int .i64 x.r, .int .i64 x.p] w fun e' w' => e' = .returned (.int .i64 e) ∧ Below w.heap.size w w' := by
  obtain ⟨v, s⟩ := h.st
  exact eadd_no s x e he h0
theorem nadd_ok (h : NowT 31 w0 w O t sb n R) (ht : t ≠ 0) (x : Rt) (he : TErr R n x.j x.y x.r x.p 0) :
    Calls Try.prog 9 #[ptr sb, .string x.j, .int .i64 x.y, .int .i64 x.r, .int .i64 x.p] w fun e' w' => e' = .returned (.int .i64 0) ∧ ∃ O', NowT 31 w0 w' O' t sb (n + 1) (pushT R n x) ∧ Step w0.heap.size O t w O' w' := by
  obtain ⟨v, s⟩ := h.st
  refine (eadd_ok s h.fin h.low.size x he).mono ?_
  rintro e w' ⟨rfl, v', O', a, b⟩
  exact ⟨rfl, O', ⟨⟨_, a⟩, b.fin, h.low.trans (b.below h.fin ht h.low.size)⟩, b⟩
theorem nrate (h : NowT 31 w0 w O t sb n R) (j : ByteArray) (y p r : Int) (ok : Bool) (hk : Known R n j y p r ok) :
    Calls Try.prog 12 #[ptr sb, .string j, .int .i64 y, .int .i64 p] w fun e w' => e = .returned (.tuple #[.int .i64 r, .bool ok]) ∧ Below w.heap.size w w' := by
  obtain ⟨v, s⟩ := h.st
  exact erate_any s j y p r ok hk
theorem nrows (h : NowT 31 w0 w O t sb n R) :
    Calls Try.prog 10 #[ptr sb] w fun e w' => ∃ A c, e = .returned (.slice A n c) ∧ n ≤ c ∧ c ≤ maxLen ∧ OwnR re 4 w' 31 w.heap.size (.slice A n c) n R ∧ Below w.heap.size w w' := by
  obtain ⟨v, s⟩ := h.st
  refine (erows_any s).mono ?_
  rintro e w' ⟨v', rfl, ho, hb⟩
  obtain ⟨A, c, rfl, h1, h2, _⟩ := ho.form
  exact ⟨A, c, rfl, h1, h2, ho, hb⟩
theorem nclone (h : NowT 31 w0 w O t sb n R) (t' : Nat) :
    Calls Try.prog 15 #[ptr sb] w fun e w' => ∃ sb' O', e = .returned (ptr sb') ∧ NowT 31 w0 w' O' t' sb' n R ∧ ∀ t2, Step w0.heap.size O t2 w O' w' := by
  obtain ⟨v, s⟩ := h.st
  refine (etabclone s h.fin h.low.size t').mono ?_
  rintro e w' ⟨v', sb', O', rfl, a, hs, b⟩
  refine ⟨sb', O', rfl, ⟨⟨_, a⟩, (b 0).fin, h.low.trans ((b 1).below h.fin (by decide) h.low.size)⟩, b⟩
end
/-- no rates at all -/
def rno : Nat → Rt := fun _ => ⟨⟨#[]⟩, 0, 0, 0⟩
theorem known_none (R : Nat → Rt) (j : ByteArray) (y p : Int) : Known R 0 j y p 0 false := .inr ⟨rfl, rfl, fun k h => by omega⟩
theorem terr_first (R : Nat → Rt) {j : ByteArray} {y r p : Int} (h : ROk j y r p) : TErr R 0 j y r p 0 := .ok h (fun ⟨k, hk, _⟩ => by omega) (by omega)
set_option maxHeartbeats 4000000 in
set_option maxRecDepth 100000 in
theorem wakes9_any (w : World) : Calls Try.prog 13 #[] w fun e w' => e = .returned (.bool true) ∧ Below w.heap.size w w' := by
  go_enter Try.func13, Try.ntmps13
  go_wp2_with fail
  refine (enew_any _).mono ?_
  rintro e w1 ⟨rfl, rfl⟩
  obtain ⟨nw, _⟩ := nowt_new w w (fun _ => 0) (Fin0.zero _ _) (Below.refl _ _) 31 53 1 rno
  have N0 := Lib.hid nw
  clear nw
  go_wp2_with fail
  refine (nrate N0.out ⟨#[117, 107]⟩ 5 5 0 false (known_none _ _ _ _)).mono ?_
  rintro e w1 ⟨rfl, hb⟩
  have N1 := Lib.hid (N0.out.below hb)
  clear hb
  go_wp2_with fail
  refine (nadd_ok N1.out (by decide) ⟨⟨#[117, 107]⟩, 2, 250000, 3⟩ (terr_first _ (by unfold ROk; exact ⟨by decide, by decide, by decide, by decide, by decide, by decide, by decide⟩))).mono ?_
  rintro e w2 ⟨rfl, O2, n2, _⟩
  have N2 := Lib.hid n2
  clear n2
  go_wp2_with fail
  refine (nrows N2.out).mono ?_
  rintro e w3 ⟨A, c, rfl, h1, h2, _, hb⟩
  have N3 := Lib.hid (N2.out.below hb)
  clear hb
  go_wp2
  go_ret
  exact ⟨rfl, N3.out.low⟩
/-- the rates of EnactErrors -/
def rA : Nat → Rt := fun k => ⟨⟨#[97]⟩, k, 1000 * k, k⟩
theorem rA_push (k : Nat) : pushT rA k (rA k) = rA := by
  funext j
  unfold pushT
  split
  · rename_i h; rw [h]
  · rfl
theorem rA_ok {k : Nat} (h : k < 24) : TErr rA k ⟨#[97]⟩ k (1000 * k) k 0 :=
  .ok ⟨by decide, by omega, by omega, by omega, by omega, by omega, by omega⟩ (fun ⟨i, hi, _, e, _⟩ => by
    have e' : (i : Int) = k := e
    omega) (by omega)
theorem rA_known {q : Nat} {y p : Int} (hq : q < 24) (h : (y = q ∧ (q : Int) ≤ p) ∨ (p = q ∧ (q : Int) ≤ y)) : Known rA 24 ⟨#[97]⟩ y p (1000 * q) true := by
  refine .inl ⟨rfl, q, hq, ⟨rfl, ?_, ?_⟩, fun k hk hM => ?_, rfl⟩
  · show (q : Int) ≤ y
    omega
  · show (q : Int) ≤ p
    omega
  · obtain ⟨_, h1, h2⟩ := hM
    have h1' : (k : Int) ≤ y := h1
    have h2' : (k : Int) ≤ p := h2
    show (k : Int) < q ∨ ((k : Int) = q ∧ (k : Int) ≤ q)
    omega
theorem rA_there {q : Nat} (hq : q < 24) : TErr rA 24 ⟨#[97]⟩ q 1 q 4 := .there ⟨by decide, by omega, by omega, by omega, by omega, by omega, by omega⟩ ⟨q, hq, rfl, rfl, rfl⟩
theorem rA_limit : TErr rA 24 ⟨#[97]⟩ 90 1 1 5 := .limit ⟨by decide, by omega, by omega, by omega, by omega, by omega, by omega⟩ (fun ⟨i, _, _, e1, e2⟩ => by
    have e1' : (i : Int) = 90 := e1
    have e2' : (i : Int) = 1 := e2
    omega) rfl
set_option maxHeartbeats 4000000 in
set_option maxRecDepth 100000 in
theorem enactErrors_walk (a0 : Int) (w : World) (_w0 : (Lit.int .i64 a0).wf = true) :
    Calls Try.prog 3 #[.int .i64 a0] w fun e w' => e = .returned (.bool true) ∧ Below w.heap.size w w' := by
  clear _w0
  go_enter Try.func3, Try.ntmps3
  go_wp2_with fail
  refine (enew_any _).mono ?_
  rintro e w1 ⟨rfl, rfl⟩
  obtain ⟨nw, _⟩ := nowt_new w w (fun _ => 0) (Fin0.zero _ _) (Below.refl _ _) 31 53 1 rA
  have N0 := Lib.hid nw
  clear nw
  go_wp2_with fail
  refine (nadd_no N0.out ⟨⟨#[]⟩, 1, 1, 1⟩ 1 (.arg fun h => h.1 rfl) (by decide)).mono ?_
  rintro e w1 ⟨rfl, hb⟩
  have N1 := Lib.hid (N0.out.below hb)
  clear hb
  go_wp2_with fail
  refine (nadd_no N1.out ⟨⟨#[97]⟩, -1, 1, 1⟩ 1 (.arg fun h => by have := h.2.1; simp at this) (by decide)).mono ?_
  rintro e w2 ⟨rfl, hb⟩
  have N2 := Lib.hid (N1.out.below hb)
  clear hb
  go_wp2_with fail
  refine (nadd_no N2.out ⟨⟨#[97]⟩, 100, 1, 1⟩ 1 (.arg fun h => by have := h.2.2.1; simp at this) (by decide)).mono ?_
  rintro e w3 ⟨rfl, hb⟩
  have N3 := Lib.hid (N2.out.below hb)
  clear hb
  go_wp2_with fail
  refine (nadd_no N3.out ⟨⟨#[97]⟩, 1, -1, 1⟩ 1 (.arg fun h => by have := h.2.2.2.1; simp at this) (by decide)).mono ?_
  rintro e w4 ⟨rfl, hb⟩
  have N4 := Lib.hid (N3.out.below hb)
  clear hb
  go_wp2_with fail
  refine (nadd_no N4.out ⟨⟨#[97]⟩, 1, 1000001, 1⟩ 1 (.arg fun h => by have := h.2.2.2.2.1; simp at this) (by decide)).mono ?_
  rintro e w5 ⟨rfl, hb⟩
  have N5 := Lib.hid (N4.out.below hb)
  clear hb
  go_wp2_with fail
  refine (nadd_no N5.out ⟨⟨#[97]⟩, 1, 1, -1⟩ 1 (.arg fun h => by have := h.2.2.2.2.2.1; simp at this) (by decide)).mono ?_
  rintro e w6 ⟨rfl, hb⟩
  have N6 := Lib.hid (N5.out.below hb)
  clear hb
  go_wp2_with fail
  refine (nadd_no N6.out ⟨⟨#[97]⟩, 1, 1, 400⟩ 1 (.arg fun h => by have := h.2.2.2.2.2.2; simp at this) (by decide)).mono ?_
  rintro e w7 ⟨rfl, hb⟩
  have N7 := Lib.hid (N6.out.below hb)
  have lit : Hid (∀ j, j < 7 → ∀ u, (w7.alloc (.cells #[.int .i64 1, .int .i64 1, .int .i64 1, .int .i64 1, .int .i64 1, .int .i64 1, .int .i64 1] 24)).cell? ⟨w7.heap.size, j, none⟩ = u → u = some (.int .i64 1)) := by
    refine Lib.hid fun j hj u hu => ?_
    rcases (show j = 0 ∨ j = 1 ∨ j = 2 ∨ j = 3 ∨ j = 4 ∨ j = 5 ∨ j = 6 by omega) with rfl | rfl | rfl | rfl | rfl | rfl | rfl <;> rw [← hu] <;> exact rec_lit w7 [.int .i64 1, .int .i64 1, .int .i64 1, .int .i64 1, .int .i64 1, .int .i64 1, .int .i64 1] _ _ rfl _ _ rfl
  have N8 := Lib.hid (N7.out.below ((Below.refl _ _).alloc (Nat.le_refl _) (.cells #[.int .i64 1, .int .i64 1, .int .i64 1, .int .i64 1, .int .i64 1, .int .i64 1, .int .i64 1] 24)))
  clear hb
  go_wp2
  go_loop [31] (fun i => ∃ k : Nat, k ≤ 7 ∧ i = .int .i64 k) (fun i => 7 - (intOf i).toNat)
  case atStart => exact ⟨0, by omega, rfl⟩
  case round =>
    obtain ⟨k, hk, rfl⟩ := hrel
    by_cases hlt : k < 7
    · have ck := lit.out k hlt _ rfl
      go_wp2
      go_round
      case rel => exact ⟨k + 1, by omega, by go_num⟩
      case measure => simp [intOf]; omega
    · obtain rfl : k = 7 := by omega
      clear hlt
      go_wp2_with fail
      refine (nrows N8.out).mono ?_
      rintro e w8 ⟨A, c, rfl, h1, h2, _, hb⟩
      have N9 := Lib.hid (N8.out.below hb)
      clear hb N0 N1 N2 N3 N4 N5 N6 N7 lit
      go_wp2
      go_loopg [6] 24 (fun gh i wr => ∃ (k : Nat) (O : Nat → Nat), k ≤ 24 ∧ gh = 24 - k ∧ i = .int .i64 k ∧ NowT 31 w wr O 1 w.heap.size k rA)
      case atStart => exact ⟨0, _, by omega, rfl, rfl, N9.out⟩
      case round =>
        obtain ⟨k, O, hk, hgk, rfl, hn1⟩ := hrel
        have HGK := Lib.hid hgk
        have N1 := Lib.hid hn1
        clear hgk hn1 N9 N8
        by_cases hlt : k < 24
        · have e1 : IntKind.i64.wrap (1000 * (k : Int)) = 1000 * (k : Int) := IntWalk.i64_in _ (by omega)
          go_wp2_with fail
          refine (nadd_ok N1.out (by decide) (rA k) (rA_ok hlt)).mono ?_
          rintro e w2 ⟨rfl, O2, n2, _⟩
          rw [rA_push] at n2
          have N2 := Lib.hid n2
          clear n2
          go_wp2
          go_roundg (24 - (k + 1))
          case measure => have := HGK.out; omega
          case rel => exact ⟨k + 1, O2, by omega, rfl, by go_num, N2.out⟩
        · obtain rfl : k = 24 := by omega
          clear hlt hk
          go_wp2_with fail
          refine (within_some _ _ _ (by omega) (by omega)).mono ?_
          rintro e w' ⟨q, q1, q2, rfl, rfl⟩
          obtain ⟨q, rfl⟩ : ∃ p : Nat, q = p := ⟨q.toNat, by omega⟩
          have hq : q < 24 := by omega
          have e1 : IntKind.i64.wrap (1000 * (q : Int)) = 1000 * (q : Int) := IntWalk.i64_in _ (by omega)
          go_wp2_with fail
          refine (nrows N1.out).mono ?_
          rintro e w2 ⟨A, c, rfl, h1, h2, ho, hb⟩
          have N2 := Lib.hid (N1.out.below hb)
          obtain ⟨b, c', e', _, _, hbb, hbl, hcell, hfrz⟩ := ho.some re_len (by omega)
          injection e' with e1' _ e3'
          subst e1' e3'
          have c0 : w2.cell? ⟨b, q * 4, none⟩ = some (.string ⟨#[97]⟩) := hcell q hq 0 _ rfl
          have c1 : w2.cell? ⟨b, q * 4 + 1, none⟩ = some (.int .i64 q) := hcell q hq 1 _ rfl
          have c2 : w2.cell? ⟨b, q * 4 + 2, none⟩ = some (.int .i64 (1000 * q)) := hcell q hq 2 _ rfl
          have c3 : w2.cell? ⟨b, q * 4 + 3, none⟩ = some (.int .i64 q) := hcell q hq 3 _ rfl
          have f2 := hfrz (q * 4 + 2)
          have N3 := Lib.hid (N1.out.below (hb.setCell (p := ⟨b, q * 4 + 2, none⟩) hbb (.int .i64 7)))
          clear hb ho hcell hfrz N2
          go_wp2_with fail
          refine (nrate N3.out ⟨#[97]⟩ q 399 (1000 * q) true (rA_known hq (.inl ⟨rfl, by omega⟩))).mono ?_
          rintro e w4 ⟨rfl, hb⟩
          have N4 := Lib.hid (N3.out.below hb)
          clear hb
          go_wp2_with fail
          refine (nrate N4.out ⟨#[97]⟩ 99 q (1000 * q) true (rA_known hq (.inr ⟨rfl, by omega⟩))).mono ?_
          rintro e w5 ⟨rfl, hb⟩
          have N5 := Lib.hid (N4.out.below hb)
          clear hb
          go_wp2_with fail
          refine (nadd_no N5.out ⟨⟨#[97]⟩, 90, 1, 1⟩ 5 rA_limit (by decide)).mono ?_
          rintro e w6 ⟨rfl, hb⟩
          have N6 := Lib.hid (N5.out.below hb)
          clear hb
          go_wp2_with fail
          refine (nadd_no N6.out ⟨⟨#[97]⟩, q, 1, q⟩ 4 (rA_there hq) (by decide)).mono ?_
          rintro e w7 ⟨rfl, hb⟩
          have N7 := Lib.hid (N6.out.below hb)
          clear hb
          go_wp2_with fail
          refine (wakes9_any _).mono ?_
          rintro e w8 ⟨rfl, hb⟩
          have N8 := Lib.hid (N7.out.below hb)
          clear hb
          go_wp2
          go_ret
          exact ⟨rfl, N8.out.low⟩
end Go.Proofs.Ytllojkcobcnjmaa
