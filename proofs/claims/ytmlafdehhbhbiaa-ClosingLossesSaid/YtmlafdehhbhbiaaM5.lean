/- Several texts of mine in one: RBucket Cmp BkCmp RBucket2 RBucket3 RBucket4 RBucket5 RBucket6. -/
import Derived.Test.YtmlafdehhbhbiaaRows
import Derived.Test.YtmlafdehhbhbiaaM2
import Derived.WalkKit
import Derived.WalkSpells
import Derived.WalkLawsBesides
import Derived.Lib.Hide
import Derived.IntWalk
import Derived.Deep.LoopGhost
import Derived.Test.YtmlafdehhbhbiaaM1
import Derived.Deep.QuietTactic
import Derived.BigQuiet
import Derived.Deep.RegionHeld3
import Derived.Laws.StructEq
/- The document's own register of buckets: Get, Total, Copy, set: a contract for each. -/
namespace Go.Proofs.Ytmlafdehhbhbiaa
open Go.RowKit

/-- the three cells of a bucket -/
def be (x : Bk) : List Value := [.int .i64 x.c, .int .i64 x.y, .int .i64 x.a]
theorem be_len (x : Bk) : (be x).length = 3 := rfl
theorem be_one (x : Bk) : ∀ u ∈ be x, u.oneCell' = true := by
  intro u hu
  unfold be at hu
  simp only [List.mem_cons, List.not_mem_nil, or_false] at hu
  rcases hu with rfl | rfl | rfl <;> rfl
theorem bk_info : (Try.prog.info? 81).map (fun i => (i.zero, i.size, i.bytes)) = some (some (.agg #[.int .i64 0, .int .i64 0, .int .i64 0]), 3, 24) := by kernel_rfl
theorem bk_type : Try.prog.underlying 34 = some (.slice 81) := Try.underlying34
/-- a register behind block sb, whose mark is t: rows of buckets -/
structure BV (w : World) (O : Nat → Nat) (base t sb : Nat) (v : Value) (n : Nat) (g : Nat → Bk) : Prop where
  hd : Head w O t sb [v]
  row : RowT w O base t sb 81 3 v n (rl be g n)
section
variable {w w1 : World} {O O1 : Nat → Nat} {base t t' sb n : Nat} {v : Value} {g : Nat → Bk} {S : Int → Int → Int}
theorem BV.below (s : BV w O base t sb v n g) (k : Below w.heap.size w w1) : BV w1 O base t sb v n g := ⟨s.hd.below k, s.row.below k⟩
theorem BV.step (s : BV w O base t sb v n g) (k : Step base O t' w O1 w1) (h : t ≠ t') : BV w1 O1 base t sb v n g := ⟨s.hd.step k h, s.row.step k h⟩
theorem BV.own (s : BV w O base t sb v n g) : OwnR be 3 w 81 base v n g := s.row.own
theorem BV.new (fn : Fin0 base O w) (hb : base ≤ w.heap.size) (T : TypeId) (g : Nat → Bk) :
    BV (w.alloc (.cells #[.slice none 0 0] T)) (mark O t w.heap.size) base t w.heap.size (.slice none 0 0) 0 g ∧ ∀ t', Step base O t' w (mark O t w.heap.size) (w.alloc (.cells #[.slice none 0 0] T)) :=
  ⟨⟨Head.new w O t _ T, RowT.nil _ _ _ _ _ _ _⟩, fun t' => Step.made fn hb _ t'⟩
theorem BV.at (s : BV w O base t sb v n g) : ∃ A c, v = .slice A n c ∧ n ≤ c ∧ c ≤ maxLen ∧ (A = none → n = 0 ∧ c = 0) ∧ AtR be 3 w A n g := s.own.at be_len
theorem AtR.three {A : Option Addr} (r : AtR be 3 w A n g) {k : Nat} (hk : k < n) : ∃ b off, A = Option.some ⟨b, off, none⟩ ∧ b < w.heap.size ∧ w.cell? ⟨b, off + k * 3, none⟩ = Option.some (.int .i64 (g k).c) ∧ w.cell? ⟨b, off + k * 3 + 1, none⟩ = Option.some (.int .i64 (g k).y) ∧ w.cell? ⟨b, off + k * 3 + 2, none⟩ = Option.some (.int .i64 (g k).a) := by
  obtain ⟨b, off, e, hb, hc⟩ := r.some (by omega)
  exact ⟨b, off, e, hb, hc k hk 0 _ rfl, hc k hk 1 _ rfl, hc k hk 2 _ rfl⟩
end
end Go.Proofs.Ytmlafdehhbhbiaa

/- cmp.isNaN, cmp.Compare, cmp.Or of two numbers, walked: a contract for each. -/
namespace Go.Proofs.Ytmlafdehhbhbiaa
open Go.RowKit

set_option maxRecDepth 100000 in
theorem isnan_any (n : Int) (w : World) : Calls Try.prog 89 #[.int .i64 n] w fun e w' => e = .returned (.bool false) ∧ w = w' := by
  have p : (n != n) = false := by simp
  go_enter Try.func89, Try.ntmps89
  go_wp2
  go_ret
  exact ⟨rfl, rfl⟩
/-- how two numbers compare -/
def cmpc (a b : Int) : Int := if a < b then -1 else if b < a then 1 else 0
set_option maxRecDepth 100000 in
theorem cmpc_zero {a b : Int} : cmpc a b = 0 ↔ a = b := by unfold cmpc; split <;> (try split) <;> omega
set_option maxRecDepth 100000 in
theorem cmpc_neg {a b : Int} : cmpc a b < 0 ↔ a < b := by unfold cmpc; split <;> (try split) <;> omega
set_option maxRecDepth 100000 in
theorem cmpi_any (a b : Int) (w : World) : Calls Try.prog 85 #[.int .i64 a, .int .i64 b] w fun e w' => e = .returned (.int .i64 (cmpc a b)) ∧ w = w' := by
  rcases (show a < b ∨ (¬ a < b ∧ b < a) ∨ (¬ a < b ∧ ¬ b < a) by omega) with h | ⟨h1, h2⟩ | ⟨h1, h2⟩
  · have e : Hid (-1 = cmpc a b) := Lib.hid (by unfold cmpc; rw [if_pos h])
    go_enter Try.func85, Try.ntmps85
    go_wp2_with (go_at_call 89; (with_reducible refine (isnan_any _ _).mono ?_); rintro e w' ⟨rfl, rfl⟩)
    go_ret
    exact ⟨ret_i e.out, rfl⟩
  · have e : Hid (1 = cmpc a b) := Lib.hid (by unfold cmpc; rw [if_neg h1, if_pos h2])
    go_enter Try.func85, Try.ntmps85
    go_wp2_with (go_at_call 89; (with_reducible refine (isnan_any _ _).mono ?_); rintro e w' ⟨rfl, rfl⟩)
    go_ret
    exact ⟨ret_i e.out, rfl⟩
  · have e : Hid (0 = cmpc a b) := Lib.hid (by unfold cmpc; rw [if_neg h1, if_neg h2])
    go_enter Try.func85, Try.ntmps85
    go_wp2_with (go_at_call 89; (with_reducible refine (isnan_any _ _).mono ?_); rintro e w' ⟨rfl, rfl⟩)
    go_ret
    exact ⟨ret_i e.out, rfl⟩
/-- the first of two that is not 0 -/
def orc (p q : Int) : Int := if p = 0 then q else p
set_option maxRecDepth 100000 in
theorem cmpor_any (X : Nat) (p q : Int) (w : World) (c0 : w.cell? ⟨X, 0, none⟩ = some (.int .i64 p)) (c1 : w.cell? ⟨X, 1, none⟩ = some (.int .i64 q)) :
    Calls Try.prog 84 #[.slice (some ⟨X, 0, none⟩) 2 2] w fun e w' => e = .returned (.int .i64 (orc p q)) ∧ Below w.heap.size w w' := by
  have HR := Lib.hid (rfl : orc p q = orc p q)
  unfold orc at HR
  go_enter Try.func84, Try.ntmps84
  go_wp2
  go_loopg [8] 2 (fun gh i wr => ∃ k : Nat, k ≤ 2 ∧ gh = 2 - k ∧ i = .int .i64 k ∧ (1 ≤ k → p = 0) ∧ (2 ≤ k → q = 0) ∧ Below w.heap.size w wr)
  case atStart => exact ⟨0, by omega, rfl, rfl, by omega, by omega, Below.refl _ _⟩
  case round =>
    obtain ⟨k, hk, hgk, rfl, h1, h2, hbw⟩ := hrel
    have HGK := Lib.hid hgk
    have HB := Lib.hid hbw
    have H1 := Lib.hid h1
    have H2 := Lib.hid h2
    have d0 := cell_keep c0 hbw
    have d1 := cell_keep c1 hbw
    clear hgk hbw h1 h2
    obtain rfl | rfl | rfl : k = 0 ∨ k = 1 ∨ k = 2 := by omega
    · by_cases hp : p = 0
      · subst hp
        go_wp2
        go_roundg 1
        case measure => have := HGK.out; omega
        case rel => exact ⟨1, by omega, rfl, by go_num, by simp, fun h => by omega, HB.out⟩
      · have HP : Hid (p = orc p q) := Lib.hid (by unfold orc; rw [if_neg hp])
        have hp' : (p != 0) = true := by simpa using hp
        clear hp
        go_wp2
        go_ret
        exact ⟨ret_i HP.out, HB.out⟩
    · have hp0 := H1.out (by omega)
      by_cases hp : q = 0
      · subst hp
        go_wp2
        go_roundg 0
        case measure => have := HGK.out; omega
        case rel => exact ⟨2, by omega, rfl, by go_num, fun _ => H1.out (by omega), by simp, HB.out⟩
      · have HP : Hid (q = orc p q) := Lib.hid (by unfold orc; rw [if_pos hp0])
        have hp' : (q != 0) = true := by simpa using hp
        clear hp hp0
        go_wp2
        go_ret
        exact ⟨ret_i HP.out, HB.out⟩
    · have HP : Hid (0 = orc p q) := Lib.hid (by unfold orc; rw [if_pos (H1.out (by omega)), H2.out (by omega)])
      go_wp2
      go_ret
      exact ⟨ret_i HP.out, HB.out⟩
end Go.Proofs.Ytmlafdehhbhbiaa

/- Package bucket: how two buckets compare; where one stands among others (cmp.Compare, cmp.Or, slices.BinarySearchFunc walked): a contract for each. -/
namespace Go.Proofs.Ytmlafdehhbhbiaa
open Go.RowKit

/-- a bucket, as a value -/
abbrev ba (x : Bk) : Value := .agg #[.int .i64 x.c, .int .i64 x.y, .int .i64 x.a]
/-- how two buckets compare -/
def bkc (x z : Bk) : Int := orc (cmpc x.c z.c) (cmpc x.y z.y)
set_option maxRecDepth 100000 in
theorem bkc_neg {x z : Bk} : bkc x z < 0 ↔ Bl x.c x.y z.c z.y := by unfold bkc orc Bl cmpc; split <;> (repeat' split) <;> omega
set_option maxRecDepth 100000 in
theorem bkc_zero {x z : Bk} : bkc x z = 0 ↔ x.c = z.c ∧ x.y = z.y := by unfold bkc orc cmpc; split <;> (repeat' split) <;> omega
/-- where a bucket is, or would be -/
structure PAt (n : Nat) (g : Nat → Bk) (z : Bk) (p : Nat) (f : Bool) : Prop where
  le : p ≤ n
  lo : ∀ j, j < p → Bl (g j).c (g j).y z.c z.y
  hi : ∀ j, p ≤ j → j < n → ((g j).c = z.c ∧ (g j).y = z.y) ∨ Bl z.c z.y (g j).c (g j).y
  fd : f = true ↔ p < n ∧ (g p).c = z.c ∧ (g p).y = z.y
set_option maxRecDepth 100000 in
theorem bl_upto {n : Nat} {g : Nat → Bk} {c y : Int} {k j : Nat} (r : BRow n g) (hk : k < n) (h : Bl (g k).c (g k).y c y) (hj : j ≤ k) : Bl (g j).c (g j).y c y := by
  by_cases e : j = k
  · rw [e]; exact h
  · have := r.asc j k (by omega) hk
    unfold Bl at *; omega
set_option maxRecDepth 100000 in
theorem bl_from {n : Nat} {g : Nat → Bk} {c y : Int} {k j : Nat} (r : BRow n g) (hj : j < n) (h : ¬ Bl (g k).c (g k).y c y) (hk : k ≤ j) : ¬ Bl (g j).c (g j).y c y := by
  by_cases e : j = k
  · rw [e]; exact h
  · have := r.asc k j (by omega) hj
    unfold Bl at *; omega
set_option maxRecDepth 100000 in
theorem bl_where {n : Nat} {g : Nat → Bk} {c y : Int} {p : Nat} (_r : BRow n g) (h : ∀ j, p ≤ j → j < n → ¬ Bl (g j).c (g j).y c y) : ∀ j, p ≤ j → j < n → ((g j).c = c ∧ (g j).y = y) ∨ Bl c y (g j).c (g j).y := fun j h1 h2 => by
  have := h j h1 h2
  unfold Bl at *; omega
end Go.Proofs.Ytmlafdehhbhbiaa

/- The document's own register of buckets: set: a contract. -/
namespace Go.Proofs.Ytmlafdehhbhbiaa
open Go.RowKit

section
variable {w w1 : World} {O O1 : Nat → Nat} {base t t' sb n : Nat} {v : Value} {g : Nat → Bk} {S : Int → Int → Int}
/-- rows of the call's own become the register's -/
theorem BV.takes (s : BV w O base t sb v n g) (fn : Fin0 base O w) (hb : base ≤ w.heap.size) (b : Below w.heap.size w w1) {v' : Value} {m : Nat} {h : Nat → Bk} (o : OwnR be 3 w1 81 w.heap.size v' m h) :
    ∃ O', BV (w1.setCell ⟨sb, 0, none⟩ v') O' base t sb v' m h ∧ Step base O t w O' (w1.setCell ⟨sb, 0, none⟩ v') := by
  obtain ⟨O1, m1, st1⟩ := fresh_marked fn hb b o t
  have hd1 : Head w1 O1 t sb [v] := (s.hd.below b).block (O1 := O1) rfl (Nat.le_refl _) ((st1 t).ext sb s.hd.lt)
  have lt := s.hd.lt
  have k2 := Step.set (t := t) (st1 t).fin 0 v' hd1.tag
  refine ⟨O1, ⟨hd1.set 0 v' (by simp), ⟨?_, fun x hx => ⟨(m1 x hx).1, ?_⟩⟩⟩, (st1 t).trans k2⟩
  · refine own_blocks (own_mono o hb) fun x hx => Below.heap_setCell _ _ _ _ ?_
    have := (World.ownsRow.lt o x hx).1
    show x ≠ sb
    omega
  · have := (World.ownsRow.lt o x hx).1
    omega
end
end Go.Proofs.Ytmlafdehhbhbiaa

/- The document's own register of buckets: Move, Reclass: a contract for each, by why they are refused. -/
namespace Go.Proofs.Ytmlafdehhbhbiaa
open Go.RowKit

section
variable {w w1 : World} {O O1 : Nat → Nat} {base t t' sb n : Nat} {v : Value} {g : Nat → Bk} {S : Int → Int → Int}
end
end Go.Proofs.Ytmlafdehhbhbiaa

/- The document's own register of buckets: Reclass: a contract, by why it is refused. -/
namespace Go.Proofs.Ytmlafdehhbhbiaa
open Go.RowKit

section
variable {w w1 : World} {O O1 : Nat → Nat} {base t t' sb n : Nat} {v : Value} {g : Nat → Bk} {S : Int → Int → Int}
/-- two places are not one -/
theorem not_one {c y c' y' : Int} (h : ¬ (c = c' ∧ y = y')) : (c == c') = false ∨ ((c == c') = true ∧ (y == y') = false) := by
  by_cases q : c = c'
  · exact .inr ⟨by simpa using q, by simpa using fun z => h ⟨q, z⟩⟩
  · exact .inl (by simpa using q)
end
end Go.Proofs.Ytmlafdehhbhbiaa

/- Rows of buckets told alike; the document's own register in a law's hands: Move, Reclass, Get, Total. -/
namespace Go.Proofs.Ytmlafdehhbhbiaa
open Go.RowKit

/-- what is in the buckets behind an answer -/
def mvS (e : Int) (S : Int → Int → Int) (c y a : Int) : Int → Int → Int := if e = 0 then upS S c y (S c y + a) else S
def rcS (e : Int) (S : Int → Int → Int) (c y c' y' a : Int) : Int → Int → Int := if e = 0 then upS (upS S c y (S c y - a)) c' y' (S c' y' + a) else S
/-- the document's register in a law's hands -/
structure NowB (w0 w : World) (O : Nat → Nat) (t sb : Nat) (S : Int → Int → Int) : Prop where
  st : ∃ v n g, BV w O w0.heap.size t sb v n g ∧ BInv S n g
  fin : Fin0 w0.heap.size O w
  low : Below w0.heap.size w0 w
section
variable {w0 w w1 : World} {O O1 : Nat → Nat} {t t' sb n : Nat} {g : Nat → Bk} {S : Int → Int → Int}
theorem NowB.below (h : NowB w0 w O t sb S) (k : Below w.heap.size w w1) : NowB w0 w1 O t sb S := by
  obtain ⟨v, n, g, s, iv⟩ := h.st
  exact ⟨⟨v, n, g, s.below k, iv⟩, h.fin.below k, h.low.trans (k.mono h.low.size)⟩
theorem NowB.step (h : NowB w0 w O t sb S) (k : Step w0.heap.size O t' w O1 w1) (h1 : t ≠ t') (h2 : t' ≠ 0) : NowB w0 w1 O1 t sb S := by
  obtain ⟨v, n, g, s, iv⟩ := h.st
  exact ⟨⟨v, n, g, s.step k h1, iv⟩, k.fin, h.low.trans (k.below h.fin h2 h.low.size)⟩
theorem nowb_new (w0 w : World) (O : Nat → Nat) (fn : Fin0 w0.heap.size O w) (lo : Below w0.heap.size w0 w) (T : TypeId) (t : Nat) :
    NowB w0 (w.alloc (.cells #[.slice none 0 0] T)) (mark O t w.heap.size) t w.heap.size (fun _ _ => 0) ∧ ∀ t', Step w0.heap.size O t' w (mark O t w.heap.size) (w.alloc (.cells #[.slice none 0 0] T)) := by
  obtain ⟨a, b⟩ := BV.new (t := t) fn lo.size T (fun _ => ⟨0, 0, 0⟩)
  exact ⟨⟨⟨_, _, _, a, BInv.zero _⟩, (b 0).fin, lo.alloc lo.size _⟩, b⟩
/-- how many buckets there are, and what they come to -/
theorem NowB.told (h : NowB w0 w O t sb S) : ∃ n g, BInv S n g := by
  obtain ⟨v, n, g, _, iv⟩ := h.st
  exact ⟨n, g, iv⟩
end
end Go.Proofs.Ytmlafdehhbhbiaa

/- Registers of numbers, made by the document's own moves: some register. -/
namespace Go.Proofs.Ytmlafdehhbhbiaa
open Go.RowKit

end Go.Proofs.Ytmlafdehhbhbiaa
