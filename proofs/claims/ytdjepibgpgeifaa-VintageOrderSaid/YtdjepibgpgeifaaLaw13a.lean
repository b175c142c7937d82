/- Law 13: losses of which all is known; the document's example. -/
import Derived.Test.YtdjepibgpgeifaaVint4
import Derived.WalkKit
import Derived.WalkSpells
import Derived.WalkLawsBesides
import Derived.Lib.Hide
import Derived.IntWalk
import Derived.Deep.LoopGhost
namespace Go.Proofs.Ytdjepibgpgeifaa
open Go.RowKit

/-- losses of which the rows are known -/
structure PV (w0 w : World) (O : Nat → Nat) (sb : Nat) (S : Int → Int → Int) (n : Nat) (T : Int) : Prop where
  now : NowV w0 w O 1 sb S
  is : ∃ g, VIs S n g ∧ btot g n = T
section
variable {w0 w w1 : World} {O : Nat → Nat} {sb n : Nat} {S : Int → Int → Int} {T : Int}
theorem PV.below (h : PV w0 w O sb S n T) (k : Below w.heap.size w w1) : PV w0 w1 O sb S n T := ⟨h.now.below k, h.is⟩
theorem PV.low (h : PV w0 w O sb S n T) : Below w0.heap.size w0 w := h.now.low
theorem pv_new (h : NowV w0 w O 1 sb (fun _ _ => 0)) : PV w0 w O sb (fun _ _ => 0) 0 0 := ⟨h, fun _ => ⟨0, 0, 0⟩, vis_zero _, rfl⟩
theorem pvadd_ok (h : PV w0 w O sb S n T) (c y a V : Int) (hV : S c y + a = V) (h1 : VOk c y ∧ 1 ≤ a ∧ a ≤ 100000000000) (h2 : T + a ≤ 100000000000) (h3 : S c y ≠ 0 ∨ n < 12) :
    Calls Try.prog 10 #[ptr sb, .int .i64 y, .int .i64 c, .int .i64 a] w fun e' w' => e' = .returned (.int .i64 0) ∧ ∃ O' m, PV w0 w' O' sb (upS S c y V) m (T + a) ∧ (m : Int) = n + (if S c y = 0 then 1 else 0) := by
  subst hV
  obtain ⟨g, b, rfl⟩ := h.is
  obtain ⟨n0, g0, iv0⟩ := h.now.told
  obtain ⟨rfl, _⟩ := iv0.is.uniq b
  refine (pvadd h.now (by decide) b c y a 0 (.ok h1 h2 h3)).mono ?_
  rintro e' w' ⟨rfl, O', h', _⟩
  have h'' : NowV w0 w' O' 1 sb (upS S c y (S c y + a)) := h'
  obtain ⟨m, g', iv⟩ := h''.told
  obtain ⟨k1, k2⟩ := vis_count b h1.1 iv.is
  have hs := (iv0.at c y).1
  refine ⟨rfl, O', m, ⟨h'', g', iv.is, by omega⟩, ?_⟩
  unfold cntB at k1
  rw [if_neg (show ¬ S c y + a = 0 by omega)] at k1
  rw [k1]
  split <;> omega
theorem pvadd_no (h : PV w0 w O sb S n T) (c y a e : Int) (he : AErr S n T c y a e) (h0 : e ≠ 0) :
    Calls Try.prog 10 #[ptr sb, .int .i64 y, .int .i64 c, .int .i64 a] w fun e' w' => e' = .returned (.int .i64 e) ∧ ∃ O', PV w0 w' O' sb S n T := by
  obtain ⟨g, b, rfl⟩ := h.is
  refine (pvadd h.now (by decide) b c y a e he).mono ?_
  rintro e' w' ⟨rfl, O', h', _⟩
  unfold adS at h'
  rw [if_neg h0] at h'
  exact ⟨rfl, O', h', g, b, rfl⟩
theorem pvleft_k (h : PV w0 w O sb S n T) :
    Calls Try.prog 11 #[ptr sb] w fun e w' => e = .returned (.int .i64 T) ∧ PV w0 w' O sb S n T := by
  obtain ⟨g, b, e⟩ := h.is
  refine (pvleft h.now b).mono ?_
  rintro e' w' ⟨rfl, hb⟩
  exact ⟨by rw [e], h.below hb⟩
theorem pvtake_no (h : PV w0 w O sb S n T) {m : Nat} {g' : Nat → Bk} (b' : VIs S m g') {U : Option Addr} {q c : Nat} {u : Nat → Int} (hu : At w U q u) (hU : ∀ b off, U = some ⟨b, off, none⟩ → O b ≠ 1) (hn : ¬ UOk m g' q u) :
    Calls Try.prog 13 #[ptr sb, .slice U q c] w fun e' w' => e' = .returned (.int .i64 1) ∧ ∃ O', PV w0 w' O' sb S n T := by
  obtain ⟨g, b, rfl⟩ := h.is
  refine (pvtake h.now (by decide) b' hu hU 1 (.inr ⟨hn, rfl⟩)).mono ?_
  rintro e' w' ⟨rfl, O', h', _⟩
  unfold tkS at h'
  rw [if_neg (by decide)] at h'
  exact ⟨rfl, O', h', g, b, rfl⟩
/-- what there is, by places, less what there is a year later -/
theorem pvexp_k (h : PV w0 w O sb S n T) (year : Int) (n' : Nat) (T' : Int) (hi : ∃ g', VIs (xpS S year) n' g' ∧ btot g' n' = T') :
    Calls Try.prog 14 #[ptr sb, .int .i64 year] w fun e w' => e = .returned (.int .i64 (T - T')) ∧ ∃ O', PV w0 w' O' sb (xpS S year) n' T' := by
  obtain ⟨g, b, rfl⟩ := h.is
  obtain ⟨g', b', rfl⟩ := hi
  refine (pvexp h.now (by decide) b year).mono ?_
  rintro e w' ⟨rfl, O', h', _⟩
  have e1 : tot (goneU g year) n = btot g n - btot g' n' := by
    obtain ⟨n0, g0, iv0⟩ := h.now.told
    obtain ⟨rfl, eg⟩ := iv0.is.uniq b
    have iv : VInv S n0 g := ⟨b, iv0.le, fun j hj => by rw [← eg j hj]; exact iv0.pos j hj, by have := b.total iv0.is; have := iv0.all; omega⟩
    obtain ⟨m, f0, f⟩ := flt_any (n := n0) (G := lessG g (goneU g year)) (fun j hj => b.1.ok j hj) (fun i j hi hj => b.1.asc i j hi hj) g n0 (Nat.le_refl _)
    have f1 := (iv.less (iv.gone year) f).2
    have f2 := f.done
    rw [less_gone b] at f2
    have := f2.total b'
    omega
  exact ⟨congrArg (fun x => Ending.returned (.int .i64 x)) e1, O', h', g', b', rfl⟩
end
set_option maxHeartbeats 4000000 in
theorem wakes13_any (w : World) : Calls Try.prog 15 #[] w fun e w' => e = .returned (.bool true) ∧ Below w.heap.size w w' := by
  have CN := Lib.hid (pvnew w w (fun _ => 0) (Fin0.zero _ _) (Below.refl _ _) 1)
  go_enter Try.func15, Try.ntmps15
  go_wp2_with fail
  refine (CN.out).mono ?_
  rintro e w1 ⟨sb, O1, rfl, n1, _⟩
  have K1 := Lib.hid (pv_new n1)
  clear n1 CN
  go_wp2_with fail
  refine (pvleft_k K1.out).mono ?_
  rintro e w2 ⟨rfl, k2⟩
  have C2 := Lib.hid (pvadd_ok k2 8 3 100 100 (by omega) (by unfold VOk; omega) (by omega) (.inr (by omega)))
  clear k2 K1
  go_wp2_with fail
  refine (C2.out).mono ?_
  rintro e w3 ⟨rfl, O3, m3, k3, hm3⟩
  obtain rfl : m3 = 1 := by simp at hm3; omega
  have K3 := Lib.hid k3
  clear k3 C2 hm3
  go_wp2_with fail
  refine (pvleft_k K3.out).mono ?_
  rintro e w4 ⟨rfl, k4⟩
  have E4 : xpS (upS (fun _ _ => 0) 8 3 100) 9 = fun _ _ => 0 := by
    funext c y
    unfold xpS upS
    split
    · rfl
    · rw [if_neg (by omega)]
  have C5 := Lib.hid (pvexp_k k4 9 0 0 ⟨fun _ => ⟨0, 0, 0⟩, by rw [E4]; exact vis_zero _, rfl⟩)
  clear k4 K3 E4
  go_wp2_with fail
  refine (C5.out).mono ?_
  rintro e w5 ⟨rfl, O5, k5⟩
  have K5 := Lib.hid k5.low
  clear k5 C5
  go_wp2
  go_ret
  exact ⟨rfl, K5.out⟩
end Go.Proofs.Ytdjepibgpgeifaa
