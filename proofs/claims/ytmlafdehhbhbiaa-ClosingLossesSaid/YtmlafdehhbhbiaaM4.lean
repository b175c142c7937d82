/- Several texts of mine in one: EnMath Enact Enact2 Enact3 REnact. -/
import Derived.WalkKit
import Derived.Test.YtmlafdehhbhbiaaRows
import Derived.Test.YtmlafdehhbhbiaaM2
import Derived.Test.YtmlafdehhbhbiaaM1
import Derived.WalkSpells
import Derived.WalkLawsBesides
import Derived.Lib.Hide
import Derived.IntWalk
import Derived.Lib.LazyBuf
import Derived.Deep.LoopGhost
import Derived.Deep.QuietTactic
import Derived.BigQuiet
import Derived.Deep.RegionHeld3
import Derived.Deep.RegionLaw
/- Rates as they are known: mathematics alone. -/
namespace Go.Proofs.Ytmlafdehhbhbiaa

/-- a rate of a place, from a year on, enacted in a period -/
structure Rt where
  j : ByteArray
  y : Int
  r : Int
  p : Int
/-- it says something of a place and a year, as known at a period -/
def Mt (x : Rt) (j : ByteArray) (y p : Int) : Prop := x.j = j ∧ x.y ≤ y ∧ x.p ≤ p
/-- .. no more than another one does -/
def Le (x b : Rt) : Prop := x.y < b.y ∨ (x.y = b.y ∧ x.p ≤ b.p)
/-- what is known -/
def Known (R : Nat → Rt) (n : Nat) (j : ByteArray) (y p r : Int) (ok : Bool) : Prop :=
  (ok = true ∧ ∃ b, b < n ∧ Mt (R b) j y p ∧ (∀ k, k < n → Mt (R k) j y p → Le (R k) (R b)) ∧ r = (R b).r) ∨ (ok = false ∧ r = 0 ∧ ∀ k, k < n → ¬ Mt (R k) j y p)
/-- which row counts, so far: -1: none -/
def BestAt (R : Nat → Rt) (n : Nat) (j : ByteArray) (y p b : Int) : Prop :=
  (b = -1 ∧ ∀ k, k < n → ¬ Mt (R k) j y p) ∨ ∃ i : Nat, b = i ∧ i < n ∧ Mt (R i) j y p ∧ ∀ k, k < n → Mt (R k) j y p → Le (R k) (R i)
/-- no two rows are of one place, year and period -/
def Uniq (R : Nat → Rt) (n : Nat) : Prop := ∀ i k, i < n → k < n → (R i).j = (R k).j → (R i).y = (R k).y → (R i).p = (R k).p → i = k
/-- a row that may be -/
def ROk (j : ByteArray) (y r p : Int) : Prop := j ≠ ⟨#[]⟩ ∧ 0 ≤ y ∧ y ≤ 99 ∧ 0 ≤ r ∧ r ≤ 1000000 ∧ 0 ≤ p ∧ p ≤ 399
def pushT (R : Nat → Rt) (n : Nat) (x : Rt) : Nat → Rt := fun k => if k = n then x else R k
theorem pushT_at (R : Nat → Rt) (n : Nat) (x : Rt) : pushT R n x n = x := if_pos rfl
theorem pushT_ne (R : Nat → Rt) {n k : Nat} (x : Rt) (h : k ≠ n) : pushT R n x k = R k := if_neg h
structure TInv (n : Nat) (R : Nat → Rt) : Prop where
  le : n ≤ 24
  ok : ∀ k, k < n → ROk (R k).j (R k).y (R k).r (R k).p
  uniq : Uniq R n
theorem TInv.nil (R : Nat → Rt) : TInv 0 R := ⟨by omega, fun k h => by omega, fun i k h => by omega⟩
/-- there is such a row -/
def TThere (R : Nat → Rt) (n : Nat) (j : ByteArray) (y p : Int) : Prop := ∃ k, k < n ∧ (R k).j = j ∧ (R k).y = y ∧ (R k).p = p
/-- why a rate is refused: 0: it is not -/
inductive TErr (R : Nat → Rt) (n : Nat) (j : ByteArray) (y r p : Int) : Int → Prop
  | arg : ¬ ROk j y r p → TErr R n j y r p 1
  | there : ROk j y r p → TThere R n j y p → TErr R n j y r p 4
  | limit : ROk j y r p → ¬ TThere R n j y p → n = 24 → TErr R n j y r p 5
  | ok : ROk j y r p → ¬ TThere R n j y p → n < 24 → TErr R n j y r p 0
section
variable {R S : Nat → Rt} {n m : Nat} {j : ByteArray} {y p r r' : Int} {ok ok' : Bool}
theorem terr_any (hn : n ≤ 24) (j : ByteArray) (y r p : Int) : ∃ e, TErr R n j y r p e := by
  by_cases h1 : ROk j y r p
  · by_cases h2 : TThere R n j y p
    · exact ⟨_, .there h1 h2⟩
    · by_cases h3 : n = 24
      · exact ⟨_, .limit h1 h2 h3⟩
      · exact ⟨_, .ok h1 h2 (by omega)⟩
  · exact ⟨_, .arg h1⟩
theorem TErr.uniq {e e' : Int} (h : TErr R n j y r p e) (h' : TErr R n j y r p e') : e = e' := by
  cases h <;> cases h' <;> first | rfl | contradiction | omega
theorem TErr.row (h : TErr R n j y r p 0) : ROk j y r p ∧ ¬ TThere R n j y p ∧ n < 24 := by
  cases h; exact ⟨‹_›, ‹_›, ‹_›⟩
theorem TInv.push (h : TInv n R) (e : TErr R n j y r p 0) : TInv (n + 1) (pushT R n ⟨j, y, r, p⟩) := by
  obtain ⟨h1, h2, h3⟩ := e.row
  refine ⟨by omega, fun k hk => ?_, fun i k hi hk e1 e2 e3 => ?_⟩
  · by_cases q : k = n
    · subst q; rw [pushT_at]; exact h1
    · rw [pushT_ne R _ q]; exact h.ok k (by omega)
  · by_cases q : i = n
    · by_cases q' : k = n
      · omega
      · rw [q, pushT_at, pushT_ne R _ q'] at e1 e2 e3
        exact absurd ⟨k, by omega, e1.symm, e2.symm, e3.symm⟩ h2
    · by_cases q' : k = n
      · rw [q', pushT_at, pushT_ne R _ q] at e1 e2 e3
        exact absurd ⟨i, by omega, e1, e2, e3⟩ h2
      · rw [pushT_ne R _ q, pushT_ne R _ q'] at e1 e2 e3
        exact h.uniq i k (by omega) (by omega) e1 e2 e3
theorem Known.uniq (hu : Uniq R n) (h : Known R n j y p r ok) (h' : Known R n j y p r' ok') : r = r' ∧ ok = ok' := by
  rcases h with ⟨rfl, b, b1, b2, b3, rfl⟩ | ⟨rfl, rfl, h0⟩
  · rcases h' with ⟨rfl, c, c1, c2, c3, rfl⟩ | ⟨rfl, rfl, h0⟩
    · have l1 := b3 c c1 c2
      have l2 := c3 b b1 b2
      have : b = c := by
        unfold Le at l1 l2
        exact hu b c b1 c1 (b2.1.trans c2.1.symm) (by omega) (by omega)
      subst this; exact ⟨rfl, rfl⟩
    · exact absurd b2 (h0 b b1)
  · rcases h' with ⟨rfl, c, c1, c2, c3, rfl⟩ | ⟨rfl, rfl, _⟩
    · exact absurd c2 (h0 c c1)
    · exact ⟨rfl, rfl⟩
theorem BestAt.zero (R : Nat → Rt) (j : ByteArray) (y p : Int) : BestAt R 0 j y p (-1) := .inl ⟨rfl, fun k h => by omega⟩
theorem BestAt.bd {b : Int} (h : BestAt R n j y p b) : -1 ≤ b ∧ b < n := by
  rcases h with ⟨rfl, _⟩ | ⟨i, rfl, h, _⟩ <;> omega
/-- a row that says nothing -/
theorem BestAt.skip {b : Int} (h : BestAt R n j y p b) (hm : ¬ Mt (R n) j y p) : BestAt R (n + 1) j y p b := by
  rcases h with ⟨rfl, h0⟩ | ⟨i, rfl, h1, h2, h3⟩
  · refine .inl ⟨rfl, fun k hk => ?_⟩
    by_cases q : k = n
    · rw [q]; exact hm
    · exact h0 k (by omega)
  · refine .inr ⟨i, rfl, by omega, h2, fun k hk hM => ?_⟩
    by_cases q : k = n
    · rw [q] at hM; exact absurd hM hm
    · exact h3 k (by omega) hM
/-- a row that counts -/
theorem BestAt.take {b : Int} (h : BestAt R n j y p b) (hm : Mt (R n) j y p) (hb : ∀ i : Nat, b = i → Le (R i) (R n)) : BestAt R (n + 1) j y p n := by
  refine .inr ⟨n, rfl, by omega, hm, fun k hk hM => ?_⟩
  by_cases q : k = n
  · rw [q]; exact .inr ⟨rfl, Int.le_refl _⟩
  · rcases h with ⟨rfl, h0⟩ | ⟨i, rfl, h1, h2, h3⟩
    · exact absurd hM (h0 k (by omega))
    · have l1 := h3 k (by omega) hM
      have l2 := hb i rfl
      unfold Le at *; omega
/-- a row that says no more than the one that counts -/
theorem BestAt.keep {i : Nat} (h : BestAt R n j y p i) (hl : Le (R n) (R i)) : BestAt R (n + 1) j y p i := by
  rcases h with ⟨h, _⟩ | ⟨i', e, h1, h2, h3⟩
  · omega
  · obtain rfl : i = i' := by omega
    refine .inr ⟨i, rfl, by omega, h2, fun k hk hM => ?_⟩
    by_cases q : k = n
    · rw [q]; exact hl
    · exact h3 k (by omega) hM
theorem BestAt.none (h : BestAt R n j y p (-1)) : Known R n j y p 0 false := by
  rcases h with ⟨_, h0⟩ | ⟨i, e, _⟩
  · exact .inr ⟨rfl, rfl, h0⟩
  · omega
theorem BestAt.some {i : Nat} (h : BestAt R n j y p i) : i < n ∧ Known R n j y p (R i).r true := by
  rcases h with ⟨h, _⟩ | ⟨i', e, h1, h2, h3⟩
  · omega
  · obtain rfl : i = i' := by omega
    exact ⟨h1, .inl ⟨rfl, i, h1, h2, h3, rfl⟩⟩
theorem le_total (x b : Rt) : Le x b ∨ (b.y < x.y ∨ (x.y = b.y ∧ b.p < x.p)) := by unfold Le; omega
theorem best_any (R : Nat → Rt) (n : Nat) (j : ByteArray) (y p : Int) : ∃ b, BestAt R n j y p b := by
  induction n with
  | zero => exact ⟨_, .zero R j y p⟩
  | succ n ih =>
    obtain ⟨b, h⟩ := ih
    by_cases hm : Mt (R n) j y p
    · by_cases hb : b = -1
      · exact ⟨_, h.take hm fun i e => by omega⟩
      · obtain ⟨i, rfl⟩ : ∃ i : Nat, b = i := ⟨b.toNat, by have := h.bd; omega⟩
        rcases le_total (R n) (R i) with q | q
        · exact ⟨_, h.keep q⟩
        · exact ⟨_, h.take hm fun i' e => by
            obtain rfl : i = i' := by omega
            unfold Le; omega⟩
    · exact ⟨_, h.skip hm⟩
theorem known_any (R : Nat → Rt) (n : Nat) (j : ByteArray) (y p : Int) : ∃ r ok, Known R n j y p r ok := by
  obtain ⟨b, h⟩ := best_any R n j y p
  by_cases hb : b = -1
  · subst hb; exact ⟨_, _, h.none⟩
  · obtain ⟨i, rfl⟩ : ∃ i : Nat, b = i := ⟨b.toNat, by have := h.bd; omega⟩
    exact ⟨_, _, h.some.2⟩
/-- what is known hangs on which rows there are alone -/
theorem Known.rows (h : Known R n j y p r ok) (h1 : ∀ k, k < n → ∃ i, i < m ∧ S i = R k) (h2 : ∀ i, i < m → ∃ k, k < n ∧ R k = S i) : Known S m j y p r ok := by
  rcases h with ⟨rfl, b, b1, b2, b3, rfl⟩ | ⟨rfl, rfl, h0⟩
  · obtain ⟨i, i1, e⟩ := h1 b b1
    refine .inl ⟨rfl, i, i1, by rw [e]; exact b2, fun k hk hM => ?_, by rw [e]⟩
    obtain ⟨c, c1, e'⟩ := h2 k hk
    rw [← e'] at hM ⊢
    rw [e]; exact b3 c c1 hM
  · refine .inr ⟨rfl, rfl, fun k hk hM => ?_⟩
    obtain ⟨c, c1, e'⟩ := h2 k hk
    rw [← e'] at hM
    exact h0 c c1 hM
/-- a row more that says nothing there changes nothing -/
theorem Known.more (h : Known R n j y p r ok) (x : Rt) (hx : ¬ Mt x j y p) : Known (pushT R n x) (n + 1) j y p r ok := by
  rcases h with ⟨rfl, b, b1, b2, b3, rfl⟩ | ⟨rfl, rfl, h0⟩
  · refine .inl ⟨rfl, b, by omega, by rw [pushT_ne R x (by omega)]; exact b2, fun k hk hM => ?_, by rw [pushT_ne R x (by omega)]⟩
    rw [pushT_ne R x (show b ≠ n by omega)]
    by_cases q : k = n
    · rw [q, pushT_at] at hM; exact absurd hM hx
    · rw [pushT_ne R x q] at hM ⊢; exact b3 k (by omega) hM
  · refine .inr ⟨rfl, rfl, fun k hk hM => ?_⟩
    by_cases q : k = n
    · rw [q, pushT_at] at hM; exact hx hM
    · rw [pushT_ne R x q] at hM; exact h0 k (by omega) hM
/-- a row that says most -/
theorem Known.last (x : Rt) (hx : Mt x j y p) (hl : ∀ k, k < n → Mt (R k) j y p → Le (R k) x) : Known (pushT R n x) (n + 1) j y p x.r true := by
  refine .inl ⟨rfl, n, by omega, by rw [pushT_at]; exact hx, fun k hk hM => ?_, by rw [pushT_at]⟩
  rw [pushT_at]
  by_cases q : k = n
  · rw [q, pushT_at]; exact .inr ⟨rfl, Int.le_refl _⟩
  · rw [pushT_ne R x q] at hM ⊢; exact hl k (by omega) hM
end
end Go.Proofs.Ytmlafdehhbhbiaa

/- Package enact: a table in memory; a contract for each function. -/
namespace Go.Proofs.Ytmlafdehhbhbiaa
open Go.RowKit

/-- the four cells of a rate -/
def re (x : Rt) : List Value := [.string x.j, .int .i64 x.y, .int .i64 x.r, .int .i64 x.p]
theorem re_len (x : Rt) : (re x).length = 4 := rfl
theorem re_one (x : Rt) : ∀ u ∈ re x, u.oneCell' = true := by
  intro u hu
  unfold re at hu
  simp only [List.mem_cons, List.not_mem_nil, or_false] at hu
  rcases hu with rfl | rfl | rfl | rfl <;> rfl
/-- a rate, as a value -/
abbrev ra (x : Rt) : Value := .agg #[.string x.j, .int .i64 x.y, .int .i64 x.r, .int .i64 x.p]
theorem row_info : (Try.prog.info? 57).map (fun i => (i.zero, i.size, i.bytes)) = some (some (.agg #[.string ⟨#[]⟩, .int .i64 0, .int .i64 0, .int .i64 0]), 4, 40) := by kernel_rfl
theorem row_type : Try.prog.underlying 59 = some (.slice 57) := Try.underlying59
/-- a table of rates behind block sb, whose mark is t -/
structure TabV (E : TypeId) (w : World) (O : Nat → Nat) (base t sb : Nat) (v : Value) (n : Nat) (R : Nat → Rt) : Prop where
  hd : Head w O t sb [v]
  row : RowT w O base t sb E 4 v n (rl re R n)
  inv : TInv n R
section
variable {w w1 : World} {O O1 : Nat → Nat} {base t t' sb n : Nat} {v : Value} {R : Nat → Rt} {E : TypeId}
theorem TabV.below (s : TabV E w O base t sb v n R) (k : Below w.heap.size w w1) : TabV E w1 O base t sb v n R := ⟨s.hd.below k, s.row.below k, s.inv⟩
theorem TabV.step (s : TabV E w O base t sb v n R) (k : Step base O t' w O1 w1) (h : t ≠ t') : TabV E w1 O1 base t sb v n R := ⟨s.hd.step k h, s.row.step k h, s.inv⟩
theorem TabV.own (s : TabV E w O base t sb v n R) : OwnR re 4 w E base v n R := s.row.own
theorem TabV.new (fn : Fin0 base O w) (hb : base ≤ w.heap.size) (E T : TypeId) (R : Nat → Rt) :
    TabV E (w.alloc (.cells #[.slice none 0 0] T)) (mark O t w.heap.size) base t w.heap.size (.slice none 0 0) 0 R ∧ ∀ t', Step base O t' w (mark O t w.heap.size) (w.alloc (.cells #[.slice none 0 0] T)) :=
  ⟨⟨Head.new w O t _ T, RowT.nil _ _ _ _ _ _ _, TInv.nil R⟩, fun t' => Step.made fn hb _ t'⟩
/-- the rates can be read -/
theorem TabV.at (s : TabV E w O base t sb v n R) : ∃ A c, v = .slice A n c ∧ n ≤ c ∧ c ≤ maxLen ∧ (A = none → n = 0 ∧ c = 0) ∧ AtR re 4 w A n R := s.own.at re_len
/-- cells of one of them -/
theorem AtR.four {A : Option Addr} (r : AtR re 4 w A n R) {k : Nat} (hk : k < n) : ∃ b off, A = Option.some ⟨b, off, none⟩ ∧ b < w.heap.size ∧ w.cell? ⟨b, off + k * 4, none⟩ = Option.some (.string (R k).j) ∧ w.cell? ⟨b, off + k * 4 + 1, none⟩ = Option.some (.int .i64 (R k).y) ∧ w.cell? ⟨b, off + k * 4 + 2, none⟩ = Option.some (.int .i64 (R k).r) ∧ w.cell? ⟨b, off + k * 4 + 3, none⟩ = Option.some (.int .i64 (R k).p) := by
  obtain ⟨b, off, e, hb, hc⟩ := r.some (by omega)
  exact ⟨b, off, e, hb, hc k hk 0 _ rfl, hc k hk 1 _ rfl, hc k hk 2 _ rfl, hc k hk 3 _ rfl⟩
theorem enew_any (w : World) : Calls Try.prog 13 #[] w fun e w' => e = .returned (ptr w.heap.size) ∧ w' = w.alloc (.cells #[.slice none 0 0] 61) := by
  go_enter Try.func13, Try.ntmps13
  go_wp2
  go_ret
  exact ⟨rfl, rfl⟩
theorem eright_yes (x : Rt) (w : World) (h : ROk x.j x.y x.r x.p) : Calls Try.prog 16 #[ra x] w fun e w' => e = .returned (.bool true) ∧ Below w.heap.size w w' := by
  obtain ⟨j, y, r, p⟩ := x
  obtain ⟨h1, h2, h3, h4, h5, h6, h7⟩ := h
  obtain ⟨q1, q1'⟩ := ent_some h1
  simp only [ra] at *
  clear h1
  go_enter Try.func16, Try.ntmps16
  go_wp2_with (first | (go_at_call 19; (with_reducible refine (right_yes _ _ h4 h5).mono ?_); rintro e w' ⟨rfl, rfl⟩) | (go_at_call 18; (with_reducible refine (pright_yes _ _ h6 h7).mono ?_); rintro e w' ⟨rfl, rfl⟩))
  go_ret
  exact ⟨rfl, (Below.refl _ _).alloc (Nat.le_refl _) _⟩
theorem eright_no (x : Rt) (w : World) (h : ¬ ROk x.j x.y x.r x.p) : Calls Try.prog 16 #[ra x] w fun e w' => e = .returned (.bool false) ∧ Below w.heap.size w w' := by
  obtain ⟨j, y, r, p⟩ := x
  simp only [ra] at *
  by_cases h1 : j = ⟨#[]⟩
  · subst h1
    go_enter Try.func16, Try.ntmps16
    go_wp2
    go_ret
    exact ⟨rfl, (Below.refl _ _).alloc (Nat.le_refl _) _⟩
  obtain ⟨q1, q1'⟩ := ent_some h1
  rcases (show y < 0 ∨ (0 ≤ y ∧ 99 < y) ∨ (0 ≤ y ∧ y ≤ 99) by omega) with h2 | ⟨h2, h3⟩ | ⟨h2, h3⟩
  · clear h h1
    go_enter Try.func16, Try.ntmps16
    go_wp2
    go_ret
    exact ⟨rfl, (Below.refl _ _).alloc (Nat.le_refl _) _⟩
  · clear h h1
    go_enter Try.func16, Try.ntmps16
    go_wp2
    go_ret
    exact ⟨rfl, (Below.refl _ _).alloc (Nat.le_refl _) _⟩
  · by_cases h4 : 0 ≤ r ∧ r ≤ 1000000
    · have h5 : p < 0 ∨ 399 < p := by
        by_cases q : 0 ≤ p ∧ p ≤ 399
        · exact absurd ⟨h1, h2, h3, h4.1, h4.2, q.1, q.2⟩ h
        · omega
      have R1 := Lib.hid fun w => right_yes r w h4.1 h4.2
      have R2 := Lib.hid fun w => pright_no p w h5
      clear h h1 h4 h5
      go_enter Try.func16, Try.ntmps16
      go_wp2_with (first | (go_at_call 19; (with_reducible refine (R1.out _).mono ?_); rintro e w' ⟨rfl, rfl⟩) | (go_at_call 18; (with_reducible refine (R2.out _).mono ?_); rintro e w' ⟨rfl, rfl⟩))
      go_ret
      exact ⟨rfl, (Below.refl _ _).alloc (Nat.le_refl _) _⟩
    · have R1 := Lib.hid fun w => right_no r w (by omega)
      clear h h1 h4
      go_enter Try.func16, Try.ntmps16
      go_wp2_with (go_at_call 19; (with_reducible refine (R1.out _).mono ?_); rintro e w' ⟨rfl, rfl⟩)
      go_ret
      exact ⟨rfl, (Below.refl _ _).alloc (Nat.le_refl _) _⟩
/-- whether two rates are for the same -/
def eqv (y x : Rt) : Bool := (y.j.toList == x.j.toList) && (y.y == x.y) && (y.p == x.p)
theorem eqv_is (y x : Rt) : eqv y x = true ↔ y.j = x.j ∧ y.y = x.y ∧ y.p = x.p := by
  unfold eqv
  rw [Bool.and_eq_true, Bool.and_eq_true, bytes_is, beq_iff_eq, beq_iff_eq, and_assoc]
theorem ehas1 (y x : Rt) (B : Nat) (w : World) (hB : B < w.heap.size) (hc : ∀ j u, (re x)[j]? = some u → w.cell? ⟨B, j, none⟩ = some u) :
    Calls Try.prog 31 #[ra y, ptr B] w fun e w' => e = .returned (.bool (eqv y x)) ∧ Below w.heap.size w w' := by
  obtain ⟨yj, yy, yr, yp⟩ := y
  obtain ⟨xj, xy, xr, xp⟩ := x
  have c0 := hc 0 _ rfl
  have c1 := hc 1 _ rfl
  have c3 := hc 3 _ rfl
  have hne : B ≠ w.heap.size := by omega
  simp only [ra] at *
  clear hc
  cases h1 : (yj.toList == xj.toList) <;> cases h2 : (yy == xy) <;> cases h3 : (yp == xp)
  all_goals
    go_enter Try.func31, Try.ntmps31
    go_wp2
    go_ret
    exact ⟨by simp [eqv, h1, h2, h3], (Below.refl _ _).alloc (Nat.le_refl _) _⟩
set_option maxHeartbeats 2000000 in
theorem eindex (A : Option Addr) (n c B : Nat) (R : Nat → Rt) (x : Rt) (w : World) (hr : AtR re 4 w A n R) (hn : n ≤ 1000000) (hnc : n ≤ c) (hB : B < w.heap.size) (hc : ∀ j u, (re x)[j]? = some u → w.cell? ⟨B, j, none⟩ = some u) :
    Calls Try.prog 58 #[.slice A n c, .func (.func 31) #[] #[ptr B]] w fun e w' => ∃ i : Int, e = .returned (.int .i64 i) ∧ (0 ≤ i ↔ ∃ k, k < n ∧ eqv (R k) x = true) ∧ Below w.heap.size w w' := by
  have HR := Lib.hid hr
  have HC := Lib.hid hc
  clear hr hc
  go_enter Try.func58, Try.ntmps58
  go_wp2
  go_loopg [5, 8] n (fun gh _ i wr => ∃ k : Nat, k ≤ n ∧ gh = n - k ∧ i = .int .i64 k ∧ (∀ j, j < k → eqv (R j) x = false) ∧ Below w.heap.size w wr)
  case atStart => exact ⟨0, Nat.zero_le _, rfl, rfl, fun j hj => absurd hj (Nat.not_lt_zero _), Below.refl _ _⟩
  case round =>
    obtain ⟨k, hk, hgk, rfl, h0, hbw⟩ := hrel
    have HGK := Lib.hid hgk
    have HB := Lib.hid hbw
    have H0 := Lib.hid h0
    clear hgk hbw h0
    by_cases hlt : k < n
    · obtain ⟨b, off, rfl, hb, c0, c1, c2, c3⟩ := (HR.out.below HB.out).four hlt
      have CL := Lib.hid (ehas1 (R k) x B wr (Nat.lt_of_lt_of_le hB HB.out.size) fun j u hu => cell_keep (HC.out j u hu) HB.out)
      cases hq : eqv (R k) x
      · rw [hq] at CL
        have HQ := Lib.hid hq
        clear hq
        go_wp2_with (go_at_call 31; (refine (CL.out).mono ?_); rintro e w' ⟨rfl, hb'⟩; have HB2 := Lib.hid (HB.out.trans (hb'.mono HB.out.size)); clear hb')
        go_roundg (n - (k + 1))
        case measure => have := HGK.out; omega
        case rel => exact ⟨k + 1, by omega, rfl, by go_num, fun j hj => by
            by_cases e : j = k
            · rw [e]; exact HQ.out
            · exact H0.out j (by omega), HB2.out⟩
      · rw [hq] at CL
        have HQ := Lib.hid hq
        clear hq
        go_wp2_with (go_at_call 31; (refine (CL.out).mono ?_); rintro e w' ⟨rfl, hb'⟩; have HB2 := Lib.hid (HB.out.trans (hb'.mono HB.out.size)); clear hb')
        go_ret
        exact ⟨_, rfl, ⟨fun _ => ⟨k, hlt, HQ.out⟩, fun _ => by omega⟩, HB2.out⟩
    · obtain rfl : k = n := by omega
      clear hlt
      go_wp2
      go_ret
      exact ⟨_, rfl, ⟨fun h => by omega, fun ⟨j, hj, e⟩ => by rw [H0.out j hj] at e; cases e⟩, HB.out⟩
theorem econtains (A : Option Addr) (n c B : Nat) (R : Nat → Rt) (x : Rt) (w : World) (hr : AtR re 4 w A n R) (hn : n ≤ 1000000) (hnc : n ≤ c) (hB : B < w.heap.size) (hc : ∀ j u, (re x)[j]? = some u → w.cell? ⟨B, j, none⟩ = some u)
    (b : Bool) (hb : b = true ↔ ∃ k, k < n ∧ eqv (R k) x = true) :
    Calls Try.prog 30 #[.slice A n c, .func (.func 31) #[] #[ptr B]] w fun e w' => e = .returned (.bool b) ∧ Below w.heap.size w w' := by
  have HB := Lib.hid hb
  have CI := Lib.hid (eindex A n c B R x w hr hn hnc hB hc)
  clear hr hc hb
  go_enter Try.func30, Try.ntmps30
  go_wp2_with fail
  refine (CI.out).mono ?_
  rintro e w1 ⟨i, rfl, hi, hb⟩
  rw [← HB.out] at hi
  have HI := Lib.hid hi
  clear hi
  go_wp2
  go_ret
  refine ⟨congrArg (fun b : Bool => Ending.returned (.bool b)) ?_, hb⟩
  have := HI.out
  cases b
  · simp at this ⊢; omega
  · simp at this ⊢; omega
theorem ehas_any (s : TabV 57 w O base t sb v n R) (x : Rt) (b : Bool) (hb : b = true ↔ TThere R n x.j x.y x.p) :
    Calls Try.prog 17 #[ptr sb, ra x] w fun e w' => e = .returned (.bool b) ∧ Below w.heap.size w w' := by
  have c0 := s.hd.c0
  have lt := s.hd.lt
  have hn := s.inv.le
  obtain ⟨A, c, rfl, hc, hm, _, ha⟩ := s.at
  have z : AtR re 4 (w.alloc (.cells #[.string x.j, .int .i64 x.y, .int .i64 x.r, .int .i64 x.p] 57)) A n R := ha.below ((Below.refl _ _).alloc (Nat.le_refl _) _)
  have CC := Lib.hid (econtains A n c w.heap.size R x _ z (by omega) hc (by simp) (rec_lit w (re x) 57 _ rfl) b (by
    rw [hb]; unfold TThere
    exact ⟨fun ⟨k, hk, e⟩ => ⟨k, hk, (eqv_is _ _).2 e⟩, fun ⟨k, hk, e⟩ => ⟨k, hk, (eqv_is _ _).1 e⟩⟩))
  clear s ha hb z
  simp only [ra] at *
  go_enter Try.func17, Try.ntmps17
  go_wp2_with (go_at_call 30; (refine (CC.out).mono ?_); rintro e w' ⟨rfl, hb'⟩)
  go_ret
  exact ⟨rfl, ((Below.refl _ _).alloc (Nat.le_refl _) _).trans (hb'.mono (by simp))⟩
end
end Go.Proofs.Ytmlafdehhbhbiaa

/- Package enact: Rate, Rows, Clone: a contract for each. -/
namespace Go.Proofs.Ytmlafdehhbhbiaa
open Go.RowKit

section
variable {w w1 : World} {O O1 : Nat → Nat} {base t t' sb n : Nat} {v : Value} {R : Nat → Rt} {E : TypeId}
/-- the later one holds -/
def Sup (x b : Rt) : Prop := b.y < x.y ∨ (x.y = b.y ∧ b.p < x.p)
theorem esup (x b : Rt) (q : Bool) (hq : q = true ↔ Sup x b) (w : World) : Calls Try.prog 32 #[ra x, ra b] w fun e w' => e = .returned (.bool q) ∧ Below w.heap.size w w' := by
  obtain ⟨xj, xy, xr, xp⟩ := x
  obtain ⟨bj, b_y, br, bp⟩ := b
  have HQ := Lib.hid hq
  clear hq
  simp only [ra] at *
  by_cases h : xy = b_y
  · subst h
    have h1 : (xy != xy) = false := by simp
    go_enter Try.func32, Try.ntmps32
    go_wp2
    go_ret
    refine ⟨congrArg (fun b : Bool => Ending.returned (.bool b)) ?_, ((Below.refl _ _).alloc (Nat.le_refl _) _).alloc (by simp) _⟩
    have := HQ.out
    unfold Sup at this
    cases q <;> simp at this ⊢ <;> omega
  · have h1 : (xy != b_y) = true := by simpa using h
    go_enter Try.func32, Try.ntmps32
    go_wp2
    go_ret
    refine ⟨congrArg (fun b : Bool => Ending.returned (.bool b)) ?_, ((Below.refl _ _).alloc (Nat.le_refl _) _).alloc (by simp) _⟩
    have := HQ.out
    unfold Sup at this
    cases q <;> simp at this ⊢ <;> omega
/-- the best row so far lies in a block of the call's own -/
structure EBest (w wr : World) (R : Nat → Rt) (k : Nat) (j : ByteArray) (y p : Int) (f : Bool) (X : Rt) : Prop where
  best : (f = true ∧ ∃ i : Nat, BestAt R k j y p i ∧ X = R i) ∨ (f = false ∧ BestAt R k j y p (-1) ∧ X.r = 0)
  cell : ∀ i u, (re X)[i]? = some u → wr.cell? ⟨w.heap.size, i, none⟩ = some u
  frz : ∀ i, wr.frozen? ⟨w.heap.size, i, none⟩ = false
  lt : w.heap.size < wr.heap.size
  low : Below w.heap.size w wr
theorem EBest.moved {wr w2 : World} {k : Nat} {j : ByteArray} {y p : Int} {f : Bool} {X : Rt} (h : EBest w wr R k j y p f X) (b : Below wr.heap.size wr w2) {f' : Bool}
    (e : (f' = true ∧ ∃ i : Nat, BestAt R (k + 1) j y p i ∧ X = R i) ∨ (f' = false ∧ BestAt R (k + 1) j y p (-1) ∧ X.r = 0)) : EBest w w2 R (k + 1) j y p f' X :=
  ⟨e, fun i u hu => cell_keep (h.cell i u hu) b, fun i => (b.frozen (p := ⟨w.heap.size, i, none⟩) h.lt).trans (h.frz i), Nat.lt_of_lt_of_le h.lt b.size, h.low.trans (b.mono h.low.size)⟩
theorem EBest.over {wr w2 : World} {k : Nat} {j : ByteArray} {y p : Int} {f : Bool} {X : Rt} (h : EBest w wr R k j y p f X) (b : Below wr.heap.size wr w2) : EBest w w2 R k j y p f X :=
  ⟨h.best, fun i u hu => cell_keep (h.cell i u hu) b, fun i => (b.frozen (p := ⟨w.heap.size, i, none⟩) h.lt).trans (h.frz i), Nat.lt_of_lt_of_le h.lt b.size, h.low.trans (b.mono h.low.size)⟩
theorem EBest.skip {wr w2 : World} {k : Nat} {j : ByteArray} {y p : Int} {f : Bool} {X : Rt} (h : EBest w wr R k j y p f X) (hM : ¬ Mt (R k) j y p) (b : Below wr.heap.size wr w2) : EBest w w2 R (k + 1) j y p f X :=
  h.moved b (by
    rcases h.best with ⟨e, i, hi, hX⟩ | ⟨e, hi, hX⟩
    · exact .inl ⟨e, i, hi.skip hM, hX⟩
    · exact .inr ⟨e, hi.skip hM, hX⟩)
theorem EBest.stay {wr w2 : World} {k : Nat} {j : ByteArray} {y p : Int} {X : Rt} (h : EBest w wr R k j y p true X) (hs : ¬ Sup (R k) X) (b : Below wr.heap.size wr w2) : EBest w w2 R (k + 1) j y p true X :=
  h.moved b (by
    rcases h.best with ⟨e, i, hi, rfl⟩ | ⟨e, _⟩
    · exact .inl ⟨rfl, i, hi.keep (by unfold Sup at hs; unfold Le; omega), rfl⟩
    · cases e)
/-- the four cells of a rate, written -/
def set4 (w : World) (B : Nat) (x : Rt) : World := (((w.setCell ⟨B, 0, none⟩ (.string x.j)).setCell ⟨B, 1, none⟩ (.int .i64 x.y)).setCell ⟨B, 2, none⟩ (.int .i64 x.r)).setCell ⟨B, 3, none⟩ (.int .i64 x.p)
theorem set4_cell {w : World} {B : Nat} {X : Rt} (h : ∀ i u, (re X)[i]? = some u → w.cell? ⟨B, i, none⟩ = some u) (hf : ∀ i, w.frozen? ⟨B, i, none⟩ = false) (hl : B < w.heap.size) (x : Rt) : ∀ i u, (re x)[i]? = some u → (set4 w B x).cell? ⟨B, i, none⟩ = some u :=
  have hd : Head w (fun _ => 0) 0 B (re X) := ⟨h, hf, rfl, hl⟩
  ((((hd.set 0 (.string x.j) (by simp [re])).set 1 (.int .i64 x.y) (by simp [re])).set 2 (.int .i64 x.r) (by simp [re])).set 3 (.int .i64 x.p) (by simp [re])).cell
theorem EBest.take {wr : World} {k : Nat} {j : ByteArray} {y p : Int} {f : Bool} {X : Rt} (h : EBest w wr R k j y p f X) (hM : Mt (R k) j y p) (hs : f = true → Sup (R k) X) : EBest w (set4 wr w.heap.size (R k)) R (k + 1) j y p true (R k) := by
  refine ⟨.inl ⟨rfl, k, ?_, rfl⟩, set4_cell h.cell h.frz h.lt _, fun i => by simpa [set4] using h.frz i, by simpa [set4] using h.lt, ?_⟩
  · rcases h.best with ⟨e, i, hi, rfl⟩ | ⟨_, hi, _⟩
    · refine hi.take hM fun i' e' => ?_
      obtain rfl : i = i' := by omega
      have := hs e
      unfold Sup at this; unfold Le; omega
    · exact hi.take hM fun i e' => by omega
  · exact (((h.low.setCell (Nat.le_refl _) _).setCell (Nat.le_refl _) _).setCell (Nat.le_refl _) _).setCell (Nat.le_refl _) _
set_option maxHeartbeats 4000000 in
set_option maxRecDepth 100000 in
theorem erate_any (s : TabV 57 w O base t sb v n R) (j : ByteArray) (y p r : Int) (ok : Bool) (hk : Known R n j y p r ok) :
    Calls Try.prog 22 #[ptr sb, .string j, .int .i64 y, .int .i64 p] w fun e w' => e = .returned (.tuple #[.int .i64 r, .bool ok]) ∧ Below w.heap.size w w' := by
  have c0 := s.hd.c0
  have lt := s.hd.lt
  have hn := s.inv.le
  have HU := Lib.hid s.inv.uniq
  have HK := Lib.hid hk
  obtain ⟨A, c, rfl, hc, hm, _, ha⟩ := s.at
  have HA := Lib.hid ha
  clear s ha hk
  go_enter Try.func22, Try.ntmps22
  go_wp2
  go_loopg [11, 19] n (fun gh f i wr => ∃ (k : Nat) (fb : Bool) (X : Rt), k ≤ n ∧ gh = n - k ∧ i = .int .i64 k ∧ f = .bool fb ∧ EBest w wr R k j y p fb X)
  case atStart =>
    refine ⟨0, false, ⟨⟨#[]⟩, 0, 0, 0⟩, Nat.zero_le _, rfl, rfl, rfl, .inr ⟨rfl, BestAt.zero _ _ _ _, rfl⟩, ?_, ?_, ?_, ?_⟩
    · exact rec_lit w (re ⟨⟨#[]⟩, 0, 0, 0⟩) _ _ rfl
    · exact fun i => frozen_of_row _ w.heap.size i _ _ (heap_alloc_new w _)
    · simp
    · exact (Below.refl _ _).alloc (Nat.le_refl _) _
  case round =>
    obtain ⟨k, fb, X, hk, hgk, rfl, rfl, hbest⟩ := hrel
    have HGK := Lib.hid hgk
    have HB := Lib.hid hbest
    have b0 := hbest.cell 0 _ rfl
    have b1 := hbest.cell 1 _ rfl
    have b2 := hbest.cell 2 _ rfl
    have b3 := hbest.cell 3 _ rfl
    have bl := hbest.lt
    have f0 := hbest.frz 0
    have f1 := hbest.frz 1
    have f2 := hbest.frz 2
    have f3 := hbest.frz 3
    clear hgk hbest
    have bne : w.heap.size ≠ wr.heap.size := by omega
    by_cases hlt : k < n
    · obtain ⟨b, off, rfl, hb, c0, c1, c2, c3⟩ := (HA.out.below HB.out.low).four hlt
      by_cases hcc : Mt (R k) j y p
      rotate_left
      · have hM := Lib.hid hcc
        rcases (show ((R k).j.toList == j.toList) = false ∨ (((R k).j.toList == j.toList) = true ∧ y < (R k).y) ∨ (((R k).j.toList == j.toList) = true ∧ (R k).y ≤ y ∧ p < (R k).p) from by
            by_cases q1 : (R k).j = j
            · have q1' := (bytes_is _ _).2 q1
              by_cases q2 : (R k).y ≤ y
              · by_cases q3 : (R k).p ≤ p
                · exact absurd ⟨q1, q2, q3⟩ hM.out
                · exact .inr (.inr ⟨q1', q2, by omega⟩)
              · exact .inr (.inl ⟨q1', by omega⟩)
            · exact .inl (bytes_not q1)) with q1 | ⟨q1, q2⟩ | ⟨q1, q2, q3⟩
        all_goals
          clear hcc
          go_wp2
          go_roundg (n - (k + 1))
          case measure => have := HGK.out; omega
          case rel => exact ⟨k + 1, fb, X, by omega, rfl, by go_num, rfl, HB.out.skip hM.out ((Below.refl _ _).alloc (Nat.le_refl _) _)⟩
      · have hM := Lib.hid hcc
        obtain ⟨q1, q2, q3⟩ := hM.out
        replace q1 := (bytes_is _ _).2 q1
        clear hcc
        cases fb
        · go_wp2
          go_roundg (n - (k + 1))
          case measure => have := HGK.out; omega
          case rel => exact ⟨k + 1, true, R k, by omega, rfl, by go_num, rfl, (HB.out.take hM.out (fun e => Bool.noConfusion e)).over ((Below.refl _ _).alloc (Nat.le_refl _) _)⟩
        · by_cases hcc : Sup (R k) X
          rotate_left
          · have CS := Lib.hid fun w => esup (R k) X false ⟨fun q => Bool.noConfusion q, fun q => absurd q hcc⟩ w
            have HS := Lib.hid hcc
            clear hcc
            go_wp2_with (go_at_call 32; (refine (CS.out _).mono ?_); rintro e w5 ⟨rfl, hb5⟩; have B5 := Lib.hid hb5; clear hb5)
            go_roundg (n - (k + 1))
            case measure => have := HGK.out; omega
            case rel => exact ⟨k + 1, true, X, by omega, rfl, by go_num, rfl, HB.out.stay HS.out (((Below.refl _ _).alloc (Nat.le_refl _) _).trans (B5.out.mono (by simp)))⟩
          · have CS := Lib.hid fun w => esup (R k) X true ⟨fun _ => hcc, fun _ => rfl⟩ w
            have HS := Lib.hid hcc
            clear hcc
            have WB := Lib.hid ((Below.refl wr.heap.size wr).alloc (Nat.le_refl _) (.cells #[.string (R k).j, .int .i64 (R k).y, .int .i64 (R k).r, .int .i64 (R k).p] 57))
            have NL := Lib.hid (rec_lit wr (re (R k)) 57 wr.heap.size rfl)
            go_wp2_with (go_at_call 32; (refine (CS.out _).mono ?_); rintro e w5 ⟨rfl, hb5⟩; have k0 := cell_keep (NL.out 0 _ rfl) hb5; have k1 := cell_keep (NL.out 1 _ rfl) hb5; have k2 := cell_keep (NL.out 2 _ rfl) hb5; have k3 := cell_keep (NL.out 3 _ rfl) hb5; have hb6 := HB.out.over (WB.out.trans (hb5.mono WB.out.size)); have d0 := hb6.cell 0 _ rfl; have d1 := hb6.cell 1 _ rfl; have d2 := hb6.cell 2 _ rfl; have d3 := hb6.cell 3 _ rfl; have f0 := hb6.frz 0; have f1 := hb6.frz 1; have f2 := hb6.frz 2; have f3 := hb6.frz 3; have B5 := Lib.hid hb6; clear hb5 hb6)
            go_roundg (n - (k + 1))
            case measure => have := HGK.out; omega
            case rel => exact ⟨k + 1, true, R k, by omega, rfl, by go_num, rfl, B5.out.take hM.out (fun _ => HS.out)⟩
    · obtain rfl : k = n := by omega
      clear hlt
      go_wp2
      go_ret2
      refine ⟨?_, HB.out.low⟩
      rcases HB.out.best with ⟨rfl, i, hi, rfl⟩ | ⟨rfl, hi, e0⟩
      · obtain ⟨rfl, rfl⟩ := HK.out.uniq HU.out hi.some.2
        rfl
      · obtain ⟨rfl, rfl⟩ := HK.out.uniq HU.out hi.none
        exact congrArg (fun x => Ending.returned (.tuple #[.int .i64 x, .bool false])) e0
end
end Go.Proofs.Ytmlafdehhbhbiaa

/- Package enact: Add: a contract, by why a rate is refused. -/
namespace Go.Proofs.Ytmlafdehhbhbiaa
open Go.RowKit

section
variable {w w1 : World} {O O1 : Nat → Nat} {base t t' sb n : Nat} {v : Value} {R : Nat → Rt} {E : TypeId}
/-- one rate more -/
theorem TabV.pushed (s : TabV E w O base t sb v n R) (fn : Fin0 base O w) {x : Rt} (hx : TErr R n x.j x.y x.r x.p 0) {w2 : World} {b2 c2 H : Nat} (b1 : Below w.heap.size w w1) (g : w1.grownBy w2 v.ownBlock)
    (o2 : OwnR re 4 w2 E base (.slice (some ⟨b2, 0, none⟩) (n + 1) c2) (n + 1) (fun j => if j = n then x else R j)) (hat : v.ownBlock = some b2 ∨ b2 = H) (hH : w1.heap.size ≤ H) :
    TabV E (w2.setCell ⟨sb, 0, none⟩ (.slice (some ⟨b2, 0, none⟩) (n + 1) c2)) (mark O t b2) base t sb (.slice (some ⟨b2, 0, none⟩) (n + 1) c2) (n + 1) (pushT R n x) ∧
      Step base O t w (mark O t b2) (w2.setCell ⟨sb, 0, none⟩ (.slice (some ⟨b2, 0, none⟩) (n + 1) c2)) := by
  have hd1 := s.hd.below b1
  have hl := World.ownsRow.lt o2 b2 rfl
  have hne : b2 ≠ sb := by
    rcases hat with q | q
    · exact (s.row.tag b2 q).2
    · have := hd1.lt; omega
  have k1 := Step.of_below (t := t) fn b1
  have k2 := Step.grown (t := t) k1.fin g (fun b hb => (s.row.tag b hb).1) hat hH hl.1 hl.2
  have hd2 := (hd1.block (O1 := O) (g.block sb hd1.lt fun e => (s.row.tag sb e.symm).2 rfl) g.size rfl).marked b2
  have k3 := Step.set (t := t) k2.fin 0 (.slice (some ⟨b2, 0, none⟩) (n + 1) c2) hd2.tag
  have hd3 := hd2.set 0 (.slice (some ⟨b2, 0, none⟩) (n + 1) c2) (by simp)
  refine ⟨⟨hd3, ⟨?_, fun b hb => ?_⟩, s.inv.push hx⟩, k1.trans (k2.trans k3)⟩
  · refine own_blocks o2 fun b hb => ?_
    have : b2 = b := by simpa [Value.ownBlock] using hb
    subst this
    exact Below.heap_setCell _ _ _ _ hne
  · have : b2 = b := by simpa [Value.ownBlock] using hb
    subst this
    exact ⟨mark_at _ _ _, hne⟩
set_option maxHeartbeats 4000000 in
set_option maxRecDepth 100000 in
theorem eadd_no (s : TabV 57 w O base t sb v n R) (x : Rt) (e : Int) (he : TErr R n x.j x.y x.r x.p e) (h0 : e ≠ 0) :
    Calls Try.prog 6 #[ptr sb, .string x.j, .int .i64 x.y, .int .i64 x.r, .int .i64 x.p] w fun e' w' => e' = .returned (.int .i64 e) ∧ Below w.heap.size w w' := by
  have HS := Lib.hid s
  have WB := Lib.hid ((Below.refl w.heap.size w).alloc (Nat.le_refl _) (.cells #[.string x.j, .int .i64 x.y, .int .i64 x.r, .int .i64 x.p] 57))
  have NL := Lib.hid (rec_lit w (re x) 57 w.heap.size rfl)
  have hn := s.inv.le
  cases he
  case ok => exact absurd rfl h0
  case arg ha =>
    have RN := Lib.hid fun w => eright_no x w ha
    clear s ha h0
    go_enter Try.func6, Try.ntmps6
    go_wp2_with fail
    refine (RN.out _).mono ?_
    rintro e w1 ⟨rfl, hb⟩
    have HB := Lib.hid (WB.out.trans (hb.mono WB.out.size))
    clear hb
    go_wp2
    go_ret
    exact ⟨rfl, HB.out⟩
  case there ha ht =>
    have RY := Lib.hid fun w => eright_yes x w ha
    have HT := Lib.hid ht
    clear s ha h0 ht
    go_enter Try.func6, Try.ntmps6
    go_wp2_with fail
    refine (RY.out _).mono ?_
    rintro e w1 ⟨rfl, hb⟩
    have HB := Lib.hid (WB.out.trans (hb.mono WB.out.size))
    have k0 := cell_keep (NL.out 0 _ rfl) hb
    have k1 := cell_keep (NL.out 1 _ rfl) hb
    have k2 := cell_keep (NL.out 2 _ rfl) hb
    have k3 := cell_keep (NL.out 3 _ rfl) hb
    have CH := Lib.hid (ehas_any (HS.out.below HB.out) x true ⟨fun _ => HT.out, fun _ => rfl⟩)
    clear hb
    go_wp2_with fail
    refine (CH.out).mono ?_
    rintro e w2 ⟨rfl, hb⟩
    have HB2 := Lib.hid (HB.out.trans (hb.mono HB.out.size))
    clear hb
    go_wp2
    go_ret
    exact ⟨rfl, HB2.out⟩
  case limit ha ht hl =>
    have RY := Lib.hid fun w => eright_yes x w ha
    have HT := Lib.hid ht
    have HL := Lib.hid hl
    clear s ha h0 ht hl
    go_enter Try.func6, Try.ntmps6
    go_wp2_with fail
    refine (RY.out _).mono ?_
    rintro e w1 ⟨rfl, hb⟩
    have HB := Lib.hid (WB.out.trans (hb.mono WB.out.size))
    have k0 := cell_keep (NL.out 0 _ rfl) hb
    have k1 := cell_keep (NL.out 1 _ rfl) hb
    have k2 := cell_keep (NL.out 2 _ rfl) hb
    have k3 := cell_keep (NL.out 3 _ rfl) hb
    have CH := Lib.hid (ehas_any (HS.out.below HB.out) x false ⟨fun q => Bool.noConfusion q, fun q => absurd q HT.out⟩)
    clear hb
    go_wp2_with fail
    refine (CH.out).mono ?_
    rintro e w2 ⟨rfl, hb⟩
    have HB2 := Lib.hid (HB.out.trans (hb.mono HB.out.size))
    have c0 := (HS.out.below HB2.out).hd.c0
    obtain ⟨A, c, rfl, hc, hm, _⟩ := HS.out.row.form
    have hl := HL.out
    clear hb
    go_wp2
    go_ret
    exact ⟨rfl, HB2.out⟩
set_option maxHeartbeats 4000000 in
set_option maxRecDepth 100000 in
theorem eadd_ok (s : TabV 57 w O base t sb v n R) (fn : Fin0 base O w) (hbase : base ≤ w.heap.size) (x : Rt) (he : TErr R n x.j x.y x.r x.p 0) :
    Calls Try.prog 6 #[ptr sb, .string x.j, .int .i64 x.y, .int .i64 x.r, .int .i64 x.p] w fun e' w' => e' = .returned (.int .i64 0) ∧ ∃ v' O', TabV 57 w' O' base t sb v' (n + 1) (pushT R n x) ∧ Step base O t w O' w' := by
  obtain ⟨i0, hi, hz0, hz1, hz2⟩ := info_parts row_info
  have HS := Lib.hid s
  have HF := Lib.hid fn
  have WB := Lib.hid ((Below.refl w.heap.size w).alloc (Nat.le_refl _) (.cells #[.string x.j, .int .i64 x.y, .int .i64 x.r, .int .i64 x.p] 57))
  have NL := Lib.hid (rec_lit w (re x) 57 w.heap.size rfl)
  have HE := Lib.hid he
  obtain ⟨ha, ht, hn⟩ := he.row
  have RY := Lib.hid fun w => eright_yes x w ha
  have HT := Lib.hid ht
  clear s ha ht fn he
  go_enter Try.func6, Try.ntmps6
  go_wp2_with fail
  refine (RY.out _).mono ?_
  rintro e w1 ⟨rfl, hb⟩
  have HB := Lib.hid (WB.out.trans (hb.mono WB.out.size))
  have k0 := cell_keep (NL.out 0 _ rfl) hb
  have k1 := cell_keep (NL.out 1 _ rfl) hb
  have k2 := cell_keep (NL.out 2 _ rfl) hb
  have k3 := cell_keep (NL.out 3 _ rfl) hb
  have l1 : w.heap.size < w1.heap.size := by have := hb.size; simp at this; omega
  have CH := Lib.hid (ehas_any (HS.out.below HB.out) x false ⟨fun q => Bool.noConfusion q, fun q => absurd q HT.out⟩)
  clear hb
  go_wp2_with fail
  refine (CH.out).mono ?_
  rintro e w2 ⟨rfl, hb⟩
  replace k0 := cell_keep k0 hb
  replace k1 := cell_keep k1 hb
  replace k2 := cell_keep k2 hb
  replace k3 := cell_keep k3 hb
  have HB2 := Lib.hid (HB.out.trans (hb.mono HB.out.size))
  have l2 : w.heap.size < w2.heap.size := by have := hb.size; omega
  have S1 := Lib.hid (HS.out.below HB2.out)
  have F1 := Lib.hid (HF.out.below HB2.out)
  have B1 := Lib.hid (Step.of_below (t := t) HF.out HB2.out)
  have z1 : base ≤ w2.heap.size := by omega
  have c0 := S1.out.hd.c0
  have f0 := S1.out.hd.frz 0
  have lt1 := S1.out.hd.lt
  have g0 : w2.frozen? ⟨sb, 0, none⟩ = false := f0
  obtain ⟨A, c, rfl, hc, hm, _⟩ := HS.out.row.form
  clear hb f0
  go_wp2
  go_region_law ((refine step_push_r rfl (.tmp 33) (.tmp 35) rfl row_type hi hz0 hz1 hz2 (by decide) rfl (by decide) re_len re_one w2 base n w2.heap.size _ R x rfl rfl (rec_lit w2.drew (re x) 57 _ rfl) (World.ownsRow.alloc S1.out.own _) (by omega) ((Below.refl _ _).drew.alloc z1 _) (by simp; omega) _ rfl ?_; intro b2 c3 w3 ho2 hb2 hg2 hat2; have hd2 : Head w3 O t sb _ := Head.block (O1 := O) (S1.out.hd.below ((Below.refl _ _).drew.alloc (Nat.le_refl _) _)) (hg2.block sb (by simp; omega) (fun e => (S1.out.row.tag sb e.symm).2 rfl)) hg2.size rfl; have d0 := hd2.c0; have e0 := hd2.frz 0; have HD2 := Lib.hid hd2; have HO2 := Lib.hid ho2; have HG2 := Lib.hid hg2; have HAT := Lib.hid hat2; clear hd2 ho2 hb2 hg2 hat2))
  all_goals
    go_wp2
    go_ret
    obtain ⟨q1, q2⟩ := TabV.pushed S1.out F1.out HE.out ((Below.refl _ _).drew.alloc (Nat.le_refl _) _) HG2.out HO2.out HAT.out (by simp)
    exact ⟨rfl, _, _, q1, B1.out.trans q2⟩
end
end Go.Proofs.Ytmlafdehhbhbiaa

/- The document's own table of rates: Add, Rate: a contract for each. -/
namespace Go.Proofs.Ytmlafdehhbhbiaa
open Go.RowKit

section
variable {w w1 : World} {O O1 : Nat → Nat} {base t t' sb n : Nat} {v : Value} {R : Nat → Rt} {E : TypeId}
end
end Go.Proofs.Ytmlafdehhbhbiaa
