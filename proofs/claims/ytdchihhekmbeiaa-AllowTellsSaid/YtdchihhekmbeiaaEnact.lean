/- Package enact: a table in memory; a contract for each function. -/
import Derived.Test.YtdchihhekmbeiaaRows
import Derived.Test.YtdchihhekmbeiaaRec
import Derived.Test.YtdchihhekmbeiaaEnMath
import Derived.Test.YtdchihhekmbeiaaM1
import Derived.WalkKit
import Derived.WalkSpells
import Derived.WalkLawsBesides
import Derived.Lib.Hide
import Derived.IntWalk
import Derived.Lib.LazyBuf
import Derived.Deep.LoopGhost
import Derived.Deep.QuietTactic
import Derived.BigQuiet
import Derived.Deep.RegionHeld3
import Derived.Deep.RegionLaw
namespace Go.Proofs.Ytdchihhekmbeiaa
open Go.RowKit

/-- the four cells of a rate -/
def re (x : Rt) : List Value := [.string x.j, .int .i64 x.y, .int .i64 x.r, .int .i64 x.p]
theorem re_len (x : Rt) : (re x).length = 4 := rfl
theorem re_one (x : Rt) : ∀ u ∈ re x, u.oneCell' = true := by
  intro u hu
  unfold re at hu
  simp only [List.mem_cons, List.not_mem_nil, or_false] at hu
  rcases hu with rfl | rfl | rfl | rfl <;> rfl
/-- a rate, as a value -/
abbrev ra (x : Rt) : Value := .agg #[.string x.j, .int .i64 x.y, .int .i64 x.r, .int .i64 x.p]
/-- a table of rates behind block sb, whose mark is t -/
structure TabV (E : TypeId) (w : World) (O : Nat → Nat) (base t sb : Nat) (v : Value) (n : Nat) (R : Nat → Rt) : Prop where
  hd : Head w O t sb [v]
  row : RowT w O base t sb E 4 v n (rl re R n)
  inv : TInv n R
section
variable {w w1 : World} {O O1 : Nat → Nat} {base t t' sb n : Nat} {v : Value} {R : Nat → Rt} {E : TypeId}
theorem TabV.below (s : TabV E w O base t sb v n R) (k : Below w.heap.size w w1) : TabV E w1 O base t sb v n R := ⟨s.hd.below k, s.row.below k, s.inv⟩
theorem TabV.step (s : TabV E w O base t sb v n R) (k : Step base O t' w O1 w1) (h : t ≠ t') : TabV E w1 O1 base t sb v n R := ⟨s.hd.step k h, s.row.step k h, s.inv⟩
theorem TabV.own (s : TabV E w O base t sb v n R) : OwnR re 4 w E base v n R := s.row.own
theorem TabV.new (fn : Fin0 base O w) (hb : base ≤ w.heap.size) (E T : TypeId) (R : Nat → Rt) :
    TabV E (w.alloc (.cells #[.slice none 0 0] T)) (mark O t w.heap.size) base t w.heap.size (.slice none 0 0) 0 R ∧ ∀ t', Step base O t' w (mark O t w.heap.size) (w.alloc (.cells #[.slice none 0 0] T)) :=
  ⟨⟨Head.new w O t _ T, RowT.nil _ _ _ _ _ _ _, TInv.nil R⟩, fun t' => Step.made fn hb _ t'⟩
/-- the rates can be read -/
theorem TabV.at (s : TabV E w O base t sb v n R) : ∃ A c, v = .slice A n c ∧ n ≤ c ∧ c ≤ maxLen ∧ (A = none → n = 0 ∧ c = 0) ∧ AtR re 4 w A n R := s.own.at re_len
/-- cells of one of them -/
theorem AtR.four {A : Option Addr} (r : AtR re 4 w A n R) {k : Nat} (hk : k < n) : ∃ b off, A = Option.some ⟨b, off, none⟩ ∧ b < w.heap.size ∧ w.cell? ⟨b, off + k * 4, none⟩ = Option.some (.string (R k).j) ∧ w.cell? ⟨b, off + k * 4 + 1, none⟩ = Option.some (.int .i64 (R k).y) ∧ w.cell? ⟨b, off + k * 4 + 2, none⟩ = Option.some (.int .i64 (R k).r) ∧ w.cell? ⟨b, off + k * 4 + 3, none⟩ = Option.some (.int .i64 (R k).p) := by
  obtain ⟨b, off, e, hb, hc⟩ := r.some (by omega)
  exact ⟨b, off, e, hb, hc k hk 0 _ rfl, hc k hk 1 _ rfl, hc k hk 2 _ rfl, hc k hk 3 _ rfl⟩
/-- whether two rates are for the same -/
def eqv (y x : Rt) : Bool := (y.j.toList == x.j.toList) && (y.y == x.y) && (y.p == x.p)
theorem eqv_is (y x : Rt) : eqv y x = true ↔ y.j = x.j ∧ y.y = x.y ∧ y.p = x.p := by
  unfold eqv
  rw [Bool.and_eq_true, Bool.and_eq_true, bytes_is, beq_iff_eq, beq_iff_eq, and_assoc]
end
end Go.Proofs.Ytdchihhekmbeiaa
