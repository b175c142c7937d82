/- The document's losses in a law's hands: a contract for each call; rows told alike. -/
import Derived.Test.YtmeljcogoeghaaaRVint2
import Derived.Test.YtmeljcogoeghaaaRVint4
import Derived.WalkKit
import Derived.WalkSpells
import Derived.WalkLawsBesides
import Derived.Lib.Hide
import Derived.IntWalk
import Derived.Laws.StructEq
import Derived.Deep.LoopGhost
import Derived.Deep.QuietTactic
import Derived.BigQuiet
namespace Go.Proofs.Ytmeljcogoeghaaa
open Go.RowKit

set_option maxHeartbeats 4000000 in
theorem vsame_true (A A' : Option Addr) (n c c' : Nat) (g g' : Nat → Bk) (w : World) (h : AtR ve 3 w A n g) (h' : AtR ve 3 w A' n g') (hn : n ≤ 1000000) (e : ∀ j, j < n → g j = g' j) :
    Calls Try.prog 22 #[.slice A n c, .slice A' n c'] w fun e' w' => e' = .returned (.bool true) ∧ Below w.heap.size w w' := by
  have H1 := Lib.hid h
  have H2 := Lib.hid (h'.ext fun j hj => (e j hj).symm)
  have ee : ((n : Int) != (n : Int)) = false := by simp
  clear h h' e
  go_enter Try.func22, Try.ntmps22
  go_wp2
  go_loopg [5] n (fun gh i wr => ∃ k : Nat, k ≤ n ∧ gh = n - k ∧ i = .int .i64 k ∧ Below w.heap.size w wr)
  case atStart => exact ⟨0, Nat.zero_le _, rfl, rfl, Below.refl _ _⟩
  case round =>
    obtain ⟨k, hk, hgk, rfl, hbw⟩ := hrel
    have HGK := Lib.hid hgk
    have HB := Lib.hid hbw
    clear hgk hbw
    by_cases hlt : k < n
    · obtain ⟨b, off, rfl, hb, c0, c1, c2⟩ := (H1.out.below HB.out).threeV hlt
      obtain ⟨b', off', rfl, hb', c0', c1', c2'⟩ := (H2.out.below HB.out).threeV hlt
      have k0 : (0 : Int) ≤ (k : Int) := by omega
      have k1 : (k : Int) < (n : Int) := by omega
      go_wp2
      go_big_quiet (fail)
      go_wp2
      go_roundg (n - (k + 1))
      case measure => have := HGK.out; omega
      case rel => exact ⟨k + 1, by omega, rfl, by go_num, below_drewN HB.out _⟩
    · obtain rfl : k = n := by omega
      clear hlt
      go_wp2
      go_ret
      exact ⟨rfl, HB.out⟩
/-- what is in the losses behind an answer -/
def adS (e : Int) (S : Int → Int → Int) (c y a : Int) : Int → Int → Int := if e = 0 then upS S c y (S c y + a) else S
def xpS (S : Int → Int → Int) (year : Int) : Int → Int → Int := fun c y => if c < year then 0 else S c y
def tkS (r : Int) (S : Int → Int → Int) (m : Nat) (g : Nat → Bk) (u : Nat → Int) : Int → Int → Int := if r = 0 then bget (lessG g u) m else S
/-- may it be taken? -/
def TErr (m : Nat) (g : Nat → Bk) (q : Nat) (u : Nat → Int) (r : Int) : Prop := (UOk m g q u ∧ r = 0) ∨ (¬ UOk m g q u ∧ r = 1)
theorem terr_any (m : Nat) (g : Nat → Bk) (q : Nat) (u : Nat → Int) : ∃ r, TErr m g q u r := by
  by_cases h : UOk m g q u
  · exact ⟨0, .inl ⟨h, rfl⟩⟩
  · exact ⟨1, .inr ⟨h, rfl⟩⟩
theorem bget_ext {g h : Nat → Bk} {n : Nat} (e : ∀ j, j < n → g j = h j) : bget g n = bget h n := by
  funext c y
  exact tot_ext n fun j hj => by rw [e j hj]
theorem less_ext {g h : Nat → Bk} {n : Nat} (u : Nat → Int) (e : ∀ j, j < n → g j = h j) : bget (lessG g u) n = bget (lessG h u) n := bget_ext fun j hj => by unfold lessG; rw [e j hj]
theorem less_gone {S : Int → Int → Int} {n : Nat} {g : Nat → Bk} (b : VIs S n g) (year : Int) : bget (lessG g (goneU g year)) n = xpS S year := by
  funext c y
  unfold xpS
  split
  · rename_i h
    refine tot_zero n fun j _ => ?_
    show bval (lessG g (goneU g year) j) c y = 0
    unfold bval lessG goneU
    dsimp only
    split
    · rename_i q
      rw [if_pos (by omega)]; omega
    · rfl
  · rename_i h
    rw [← b.2]
    refine tot_ext n fun j _ => ?_
    show bval (lessG g (goneU g year) j) c y = bval (g j) c y
    unfold bval lessG goneU
    dsimp only
    split
    · rename_i q
      rw [if_neg (by omega)]; omega
    · rfl
/-- the document's losses in a law's hands -/
structure NowL (w0 w : World) (O : Nat → Nat) (t sb : Nat) (S : Int → Int → Int) : Prop where
  st : ∃ v n g, LV w O w0.heap.size t sb v n g ∧ VInv S n g
  fin : Fin0 w0.heap.size O w
  low : Below w0.heap.size w0 w
section
variable {w0 w w1 : World} {O O1 : Nat → Nat} {t t' sb n : Nat} {g : Nat → Bk} {S : Int → Int → Int}
theorem NowL.below (h : NowL w0 w O t sb S) (k : Below w.heap.size w w1) : NowL w0 w1 O t sb S := by
  obtain ⟨v, n, g, s, iv⟩ := h.st
  exact ⟨⟨v, n, g, s.below k, iv⟩, h.fin.below k, h.low.trans (k.mono h.low.size)⟩
theorem NowL.step (h : NowL w0 w O t sb S) (k : Step w0.heap.size O t' w O1 w1) (h1 : t ≠ t') (h2 : t' ≠ 0) : NowL w0 w1 O1 t sb S := by
  obtain ⟨v, n, g, s, iv⟩ := h.st
  exact ⟨⟨v, n, g, s.step k h1, iv⟩, k.fin, h.low.trans (k.below h.fin h2 h.low.size)⟩
theorem nowl_new (w0 w : World) (O : Nat → Nat) (fn : Fin0 w0.heap.size O w) (lo : Below w0.heap.size w0 w) (T : TypeId) (t : Nat) :
    NowL w0 (w.alloc (.cells #[.slice none 0 0] T)) (mark O t w.heap.size) t w.heap.size (fun _ _ => 0) ∧ ∀ t', Step w0.heap.size O t' w (mark O t w.heap.size) (w.alloc (.cells #[.slice none 0 0] T)) := by
  obtain ⟨a, b⟩ := LV.new (t := t) fn lo.size T (fun _ => ⟨0, 0, 0⟩)
  exact ⟨⟨⟨_, _, _, a, VInv.zero _⟩, (b 0).fin, lo.alloc lo.size _⟩, b⟩
/-- what there is -/
theorem NowL.told (h : NowL w0 w O t sb S) : ∃ n g, VInv S n g := by
  obtain ⟨v, n, g, _, iv⟩ := h.st
  exact ⟨n, g, iv⟩
theorem nlleft (h : NowL w0 w O t sb S) {m : Nat} {g' : Nat → Bk} (b : VIs S m g') :
    Calls Try.prog 61 #[ptr sb] w fun e w' => e = .returned (.int .i64 (btot g' m)) ∧ Below w.heap.size w w' := by
  obtain ⟨v, n, g, s, iv⟩ := h.st
  rw [← iv.is.total b]
  exact rlleft s (by have := iv.le; omega) fun j hj => iv.mon hj
theorem nladd (h : NowL w0 w O t sb S) (ht : t ≠ 0) {m : Nat} {g' : Nat → Bk} (b : VIs S m g') (c y a e : Int) (he : AErr S m (btot g' m) c y a e) :
    Calls Try.prog 39 #[ptr sb, .int .i64 y, .int .i64 c, .int .i64 a] w fun e' w' => e' = .returned (.int .i64 e) ∧ ∃ O', NowL w0 w' O' t sb (adS e S c y a) ∧ Step w0.heap.size O t w O' w' := by
  obtain ⟨v, n, g, s, iv⟩ := h.st
  rw [← iv.is.total b, ← (iv.is.uniq b).1] at he
  by_cases h0 : e = 1 ∨ e = 6
  · refine (rladd_no s iv c y a e he h0).mono ?_
    rintro e' w' ⟨rfl, hb⟩
    refine ⟨rfl, O, ?_, Step.of_below h.fin hb⟩
    unfold adS
    rw [if_neg (by omega)]
    exact h.below hb
  · cases he
    case arg => omega
    case over => omega
    case limit h1 h2 h3 h4 =>
      refine (rladd s iv h.fin h.low.size c y a (S c y + a) rfl h1 h2).mono ?_
      rintro e' w' ⟨m', h', r, rfl, hi, hr⟩
      have k1 := (vis_count iv.is h1.1 hi).1
      unfold cntB at k1
      rw [if_pos h3, if_neg (show ¬ S c y + a = 0 by omega)] at k1
      rcases hr with ⟨_, rfl, hb⟩ | ⟨h5, _⟩
      · exact ⟨rfl, O, h.below hb, Step.of_below h.fin hb⟩
      · omega
    case ok h1 h2 h3 =>
      refine (rladd s iv h.fin h.low.size c y a (S c y + a) rfl h1 h2).mono ?_
      rintro e' w' ⟨m', h', r, rfl, hi, hr⟩
      have hv := iv.add h1 h2 h3 hi
      rcases hr with ⟨h5, _⟩ | ⟨_, rfl, v', O', s', st⟩
      · have := hv.1.le; omega
      · exact ⟨rfl, O', ⟨⟨_, _, _, s', hv.1⟩, st.fin, h.low.trans (st.below h.fin ht h.low.size)⟩, st⟩
theorem nlexp (h : NowL w0 w O t sb S) (ht : t ≠ 0) {m : Nat} {g' : Nat → Bk} (b : VIs S m g') (year : Int) :
    Calls Try.prog 44 #[ptr sb, .int .i64 year] w fun e' w' => e' = .returned (.int .i64 (tot (goneU g' year) m)) ∧ ∃ O', NowL w0 w' O' t sb (xpS S year) ∧ Step w0.heap.size O t w O' w' := by
  obtain ⟨v, n, g, s, iv⟩ := h.st
  obtain ⟨eq, eg⟩ := iv.is.uniq b
  subst eq
  refine (rlexp s iv h.fin h.low.size year).mono ?_
  rintro e' w' ⟨rfl, v', m', h', O', s', f, st⟩
  refine ⟨congrArg (fun x => Ending.returned (.int .i64 x)) (tot_ext n fun j hj => by unfold goneU; rw [eg j hj]), O', ⟨⟨_, _, _, s', ?_⟩, st.fin, h.low.trans (st.below h.fin ht h.low.size)⟩, st⟩
  have := (iv.less (iv.gone year) f).1
  rw [less_gone iv.is] at this
  exact this
theorem nltake (h : NowL w0 w O t sb S) (ht : t ≠ 0) {m : Nat} {g' : Nat → Bk} (b : VIs S m g') {U : Option Addr} {q c : Nat} {u : Nat → Int} (hu : At w U q u) (hq : q ≤ 1000000) (r : Int) (hr : TErr m g' q u r) :
    Calls Try.prog 48 #[ptr sb, .slice U q c] w fun e' w' => e' = .returned (.int .i64 r) ∧ ∃ O', NowL w0 w' O' t sb (tkS r S m g' u) ∧ Step w0.heap.size O t w O' w' := by
  obtain ⟨v, n, g, s, iv⟩ := h.st
  obtain ⟨eq, eg⟩ := iv.is.uniq b
  subst eq
  have eo : UOk n g q u ↔ UOk n g' q u := by
    unfold UOk
    constructor
    · exact fun z => ⟨z.1, fun j hj => by rw [← eg j hj]; exact z.2 j hj⟩
    · exact fun z => ⟨z.1, fun j hj => by rw [eg j hj]; exact z.2 j hj⟩
  refine (rltake s iv h.fin h.low.size hu hq).mono ?_
  rintro e' w' ⟨r', rfl, h1⟩
  unfold tkS
  rcases hr with ⟨k1, rfl⟩ | ⟨k1, rfl⟩
  · rcases h1 with ⟨_, k2, _⟩ | ⟨rfl, k2, v', m', h', O', s', f, st⟩
    · exact absurd (eo.2 k1) k2
    · refine ⟨rfl, O', ⟨⟨_, _, _, s', ?_⟩, st.fin, h.low.trans (st.below h.fin ht h.low.size)⟩, st⟩
      rw [if_pos rfl, ← less_ext u eg]
      exact (iv.less k2.2 f).1
  · rcases h1 with ⟨rfl, _, hb⟩ | ⟨_, k2, _⟩
    · exact ⟨rfl, O, by rw [if_neg (by decide)]; exact h.below hb, Step.of_below h.fin hb⟩
    · exact absurd (eo.1 k2) k1
end
end Go.Proofs.Ytmeljcogoeghaaa
