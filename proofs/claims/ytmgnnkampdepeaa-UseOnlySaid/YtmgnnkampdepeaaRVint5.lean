/- The document's losses in a law's hands: a contract for each call; rows told alike. -/
import Derived.Test.YtmgnnkampdepeaaRVint2
import Derived.Test.YtmgnnkampdepeaaRVint4
import Derived.WalkKit
import Derived.WalkSpells
import Derived.WalkLawsBesides
import Derived.Lib.Hide
import Derived.IntWalk
import Derived.Laws.StructEq
import Derived.Deep.LoopGhost
import Derived.Deep.QuietTactic
import Derived.BigQuiet
namespace Go.Proofs.Ytmgnnkampdepeaa
open Go.RowKit

/-- what is in the losses behind an answer -/
def adS (e : Int) (S : Int → Int → Int) (c y a : Int) : Int → Int → Int := if e = 0 then upS S c y (S c y + a) else S
def xpS (S : Int → Int → Int) (year : Int) : Int → Int → Int := fun c y => if c < year then 0 else S c y
def tkS (r : Int) (S : Int → Int → Int) (m : Nat) (g : Nat → Bk) (u : Nat → Int) : Int → Int → Int := if r = 0 then bget (lessG g u) m else S
/-- may it be taken? -/
def TErr (m : Nat) (g : Nat → Bk) (q : Nat) (u : Nat → Int) (r : Int) : Prop := (UOk m g q u ∧ r = 0) ∨ (¬ UOk m g q u ∧ r = 1)
theorem terr_any (m : Nat) (g : Nat → Bk) (q : Nat) (u : Nat → Int) : ∃ r, TErr m g q u r := by
  by_cases h : UOk m g q u
  · exact ⟨0, .inl ⟨h, rfl⟩⟩
  · exact ⟨1, .inr ⟨h, rfl⟩⟩
theorem bget_ext {g h : Nat → Bk} {n : Nat} (e : ∀ j, j < n → g j = h j) : bget g n = bget h n := by
  funext c y
  exact tot_ext n fun j hj => by rw [e j hj]
theorem less_ext {g h : Nat → Bk} {n : Nat} (u : Nat → Int) (e : ∀ j, j < n → g j = h j) : bget (lessG g u) n = bget (lessG h u) n := bget_ext fun j hj => by unfold lessG; rw [e j hj]
theorem less_gone {S : Int → Int → Int} {n : Nat} {g : Nat → Bk} (b : VIs S n g) (year : Int) : bget (lessG g (goneU g year)) n = xpS S year := by
  funext c y
  unfold xpS
  split
  · rename_i h
    refine tot_zero n fun j _ => ?_
    show bval (lessG g (goneU g year) j) c y = 0
    unfold bval lessG goneU
    dsimp only
    split
    · rename_i q
      rw [if_pos (by omega)]; omega
    · rfl
  · rename_i h
    rw [← b.2]
    refine tot_ext n fun j _ => ?_
    show bval (lessG g (goneU g year) j) c y = bval (g j) c y
    unfold bval lessG goneU
    dsimp only
    split
    · rename_i q
      rw [if_neg (by omega)]; omega
    · rfl
/-- the document's losses in a law's hands -/
structure NowL (w0 w : World) (O : Nat → Nat) (t sb : Nat) (S : Int → Int → Int) : Prop where
  st : ∃ v n g, LV w O w0.heap.size t sb v n g ∧ VInv S n g
  fin : Fin0 w0.heap.size O w
  low : Below w0.heap.size w0 w
section
variable {w0 w w1 : World} {O O1 : Nat → Nat} {t t' sb n : Nat} {g : Nat → Bk} {S : Int → Int → Int}
theorem NowL.below (h : NowL w0 w O t sb S) (k : Below w.heap.size w w1) : NowL w0 w1 O t sb S := by
  obtain ⟨v, n, g, s, iv⟩ := h.st
  exact ⟨⟨v, n, g, s.below k, iv⟩, h.fin.below k, h.low.trans (k.mono h.low.size)⟩
theorem NowL.step (h : NowL w0 w O t sb S) (k : Step w0.heap.size O t' w O1 w1) (h1 : t ≠ t') (h2 : t' ≠ 0) : NowL w0 w1 O1 t sb S := by
  obtain ⟨v, n, g, s, iv⟩ := h.st
  exact ⟨⟨v, n, g, s.step k h1, iv⟩, k.fin, h.low.trans (k.below h.fin h2 h.low.size)⟩
theorem nowl_new (w0 w : World) (O : Nat → Nat) (fn : Fin0 w0.heap.size O w) (lo : Below w0.heap.size w0 w) (T : TypeId) (t : Nat) :
    NowL w0 (w.alloc (.cells #[.slice none 0 0] T)) (mark O t w.heap.size) t w.heap.size (fun _ _ => 0) ∧ ∀ t', Step w0.heap.size O t' w (mark O t w.heap.size) (w.alloc (.cells #[.slice none 0 0] T)) := by
  obtain ⟨a, b⟩ := LV.new (t := t) fn lo.size T (fun _ => ⟨0, 0, 0⟩)
  exact ⟨⟨⟨_, _, _, a, VInv.zero _⟩, (b 0).fin, lo.alloc lo.size _⟩, b⟩
/-- what there is -/
theorem NowL.told (h : NowL w0 w O t sb S) : ∃ n g, VInv S n g := by
  obtain ⟨v, n, g, _, iv⟩ := h.st
  exact ⟨n, g, iv⟩
theorem nlleft (h : NowL w0 w O t sb S) {m : Nat} {g' : Nat → Bk} (b : VIs S m g') :
    Calls Try.prog 25 #[ptr sb] w fun e w' => e = .returned (.int .i64 (btot g' m)) ∧ Below w.heap.size w w' := by
  obtain ⟨v, n, g, s, iv⟩ := h.st
  rw [← iv.is.total b]
  exact rlleft s (by have := iv.le; omega) fun j hj => iv.mon hj
theorem nladd (h : NowL w0 w O t sb S) (ht : t ≠ 0) {m : Nat} {g' : Nat → Bk} (b : VIs S m g') (c y a e : Int) (he : AErr S m (btot g' m) c y a e) :
    Calls Try.prog 21 #[ptr sb, .int .i64 y, .int .i64 c, .int .i64 a] w fun e' w' => e' = .returned (.int .i64 e) ∧ ∃ O', NowL w0 w' O' t sb (adS e S c y a) ∧ Step w0.heap.size O t w O' w' := by
  obtain ⟨v, n, g, s, iv⟩ := h.st
  rw [← iv.is.total b, ← (iv.is.uniq b).1] at he
  by_cases h0 : e = 1 ∨ e = 6
  · refine (rladd_no s iv c y a e he h0).mono ?_
    rintro e' w' ⟨rfl, hb⟩
    refine ⟨rfl, O, ?_, Step.of_below h.fin hb⟩
    unfold adS
    rw [if_neg (by omega)]
    exact h.below hb
  · cases he
    case arg => omega
    case over => omega
    case limit h1 h2 h3 h4 =>
      refine (rladd s iv h.fin h.low.size c y a (S c y + a) rfl h1 h2).mono ?_
      rintro e' w' ⟨m', h', r, rfl, hi, hr⟩
      have k1 := (vis_count iv.is h1.1 hi).1
      unfold cntB at k1
      rw [if_pos h3, if_neg (show ¬ S c y + a = 0 by omega)] at k1
      rcases hr with ⟨_, rfl, hb⟩ | ⟨h5, _⟩
      · exact ⟨rfl, O, h.below hb, Step.of_below h.fin hb⟩
      · omega
    case ok h1 h2 h3 =>
      refine (rladd s iv h.fin h.low.size c y a (S c y + a) rfl h1 h2).mono ?_
      rintro e' w' ⟨m', h', r, rfl, hi, hr⟩
      have hv := iv.add h1 h2 h3 hi
      rcases hr with ⟨h5, _⟩ | ⟨_, rfl, v', O', s', st⟩
      · have := hv.1.le; omega
      · exact ⟨rfl, O', ⟨⟨_, _, _, s', hv.1⟩, st.fin, h.low.trans (st.below h.fin ht h.low.size)⟩, st⟩
end
end Go.Proofs.Ytmgnnkampdepeaa
