/- Several texts of mine in one: BrMath TxMath Bridge RInc TxMem RTax. -/
import Derived.Test.YtmlafdehhbhbiaaGreatM2
import Derived.Test.YtmlafdehhbhbiaaGreatM1
import Derived.Test.YtmlafdehhbhbiaaGreatUsMath
import Derived.Test.YtmlafdehhbhbiaaGreatM3
import Derived.Test.YtmlafdehhbhbiaaGreatM6
import Derived.WalkKit
import Derived.WalkSpells
import Derived.WalkLawsBesides
import Derived.Lib.Hide
import Derived.IntWalk
import Derived.Test.YtmlafdehhbhbiaaGreatRUse
import Derived.Laws.ResultCell
import Derived.Deep.LoopGhost
import Derived.BigQuiet
import Derived.Deep.QuietTactic
import Derived.Deep.RegionHeld3
/- Law 12: from the books to the tax: mathematics, and a line's two cells. -/
namespace Go.Proofs.YtmlafdehhbhbiaaGreat
open Go.RowKit
def IncIs (a b c n : Int) (ok : Bool) : Prop := (Mon a ∧ Mon b ∧ Mon c ∧ Mon (a + b - c) ∧ ok = true ∧ n = a + b - c) ∨ (¬ (Mon a ∧ Mon b ∧ Mon c ∧ Mon (a + b - c)) ∧ ok = false ∧ n = 0)
theorem inc_yes {a b c : Int} (h : Mon a ∧ Mon b ∧ Mon c ∧ Mon (a + b - c)) : IncIs a b c (a + b - c) true := .inl ⟨h.1, h.2.1, h.2.2.1, h.2.2.2, rfl, rfl⟩
theorem inc_no {a b c : Int} (h : ¬ (Mon a ∧ Mon b ∧ Mon c ∧ Mon (a + b - c))) : IncIs a b c 0 false := .inr ⟨h, rfl, rfl⟩
theorem inc_y {a b c n : Int} (h : Mon a ∧ Mon b ∧ Mon c ∧ Mon n) (e : n = a + b - c) : IncIs a b c n true := .inl ⟨h.1, h.2.1, h.2.2.1, e ▸ h.2.2.2, rfl, e⟩
theorem inc_any (a b c : Int) : ∃ n ok, IncIs a b c n ok := by
 by_cases h : Mon a ∧ Mon b ∧ Mon c ∧ Mon (a + b - c)
 · exact ⟨_, _, inc_yes h⟩
 · exact ⟨_, _, inc_no h⟩
end Go.Proofs.YtmlafdehhbhbiaaGreat
/- The tax of a period, and the losses behind it: mathematics alone. -/
namespace Go.Proofs.YtmlafdehhbhbiaaGreat
structure Tq where
 book : Int
 perm : Int
 moved : Int
 cap : Int
 life : Int
 year : Int
 r : Int
structure Tx where
 inc : Int
 exp : Int
 used : Int
 new : Int
 txb : Int
 tax : Int
 q : Nat
 u : Nat → Int
def TArg (p : Tq) : Prop := (0 ≤ p.cap ∧ p.cap ≤ 1000000) ∧ (0 ≤ p.r ∧ p.r ≤ 1000000) ∧ (0 ≤ p.life ∧ p.life ≤ 99) ∧ (0 ≤ p.year ∧ p.year ≤ 99)
structure TLeft (S : Int → Int → Int) (n : Nat) (g : Nat → Bk) (year : Int) (m : Nat) (h : Nat → Bk) (X : Int) : Prop where
 inv : VInv (xpS S year) m h
 exp : tot (goneU g year) n = X
 sum : btot h m + X = btot g n
section
variable {S S' : Int → Int → Int} {n m : Nat} {g h : Nat → Bk} {year X e : Int} {p : Tq} {x : Tx}
theorem left_any (iv : VInv S n g) (year : Int) : ∃ m h X, TLeft S n g year m h X := by
 obtain ⟨m, f0, f⟩ := flt_any (n := n) (G := lessG g (goneU g year)) (fun j hj => iv.is.1.ok j hj) (fun i j hi hj => iv.is.1.asc i j hi hj) g n (Nat.le_refl _)
 have f1 := iv.less (iv.gone year) f
 rw [less_gone iv.is] at f1
 exact ⟨m, f0, _, f1.1, rfl, by omega⟩
theorem TLeft.pos (t : TLeft S n g year m h X) : ∀ j, j < m → 0 ≤ (h j).a ∧ (h j).a ≤ 100000000000 := fun j hj => by
 have := t.inv.one hj
 have := t.inv.all
 omega
theorem TLeft.low (t : TLeft S n g year m h X) (iv : VInv S n g) : 0 ≤ X ∧ X ≤ btot g n := by
 have h1 := t.inv.low
 have h2 : 0 ≤ tot (goneU g year) n := tot_nonneg n fun j hj => (iv.gone year j hj).1
 have := t.sum
 have := t.exp
 omega
inductive TNo (S : Int → Int → Int) (n : Nat) (g : Nat → Bk) (p : Tq) : Int → Prop
 | arg : ¬ TArg p → TNo S n g p 1
 | over : TArg p → IncIs p.book p.perm p.moved 0 false → TNo S n g p 6
 | add {N m h X e} : TArg p → IncIs p.book p.perm p.moved N true → N < 0 → TLeft S n g p.year m h X → AErr (xpS S p.year) m (btot h m) (p.year + p.life) p.year (-N) e → e ≠ 0 → TNo S n g p e
def TNext (S : Int → Int → Int) (p : Tq) (x : Tx) (m : Nat) (h : Nat → Bk) (S' : Int → Int → Int) : Prop :=
 (0 < x.inc ∧ x.q = m ∧ x.u = usU h p.year (floorV x.inc p.cap) ∧ x.used = tot x.u m ∧ x.new = 0 ∧ S' = bget (lessG h x.u) m) ∨
 (x.inc = 0 ∧ x.q = 0 ∧ x.used = 0 ∧ x.new = 0 ∧ S' = xpS S p.year) ∨
 (x.inc < 0 ∧ x.q = 0 ∧ x.used = 0 ∧ x.new = -x.inc ∧ AErr (xpS S p.year) m (btot h m) (p.year + p.life) p.year (-x.inc) 0 ∧ S' = upS (xpS S p.year) (p.year + p.life) p.year (xpS S p.year (p.year + p.life) p.year + -x.inc))
structure TOk (S : Int → Int → Int) (n : Nat) (g : Nat → Bk) (p : Tq) (x : Tx) (S' : Int → Int → Int) : Prop where
 arg : TArg p
 inc : IncIs p.book p.perm p.moved x.inc true
 next : ∃ m h, TLeft S n g p.year m h x.exp ∧ TNext S p x m h S'
 txb : x.txb = x.inc - x.used + x.new
 tax : x.tax = rof x.txb p.r
theorem inc_mon {a b c N : Int} (h : IncIs a b c N true) : Mon N ∧ N = a + b - c := by
 rcases h with ⟨_, _, _, h4, _, h5⟩ | ⟨_, h2, _⟩
 · exact ⟨h5 ▸ h4, h5⟩
 · cases h2
theorem tax_any (iv : VInv S n g) (p : Tq) : (∃ e, e ≠ 0 ∧ TNo S n g p e) ∨ ∃ x S', TOk S n g p x S' := by
 by_cases ha : TArg p
 · obtain ⟨N, ok, hi⟩ := inc_any p.book p.perm p.moved
   cases ok with
   | false =>
     obtain rfl : N = 0 := by
       rcases hi with ⟨_, _, _, _, h1, _⟩ | ⟨_, _, h1⟩
       · cases h1
       · exact h1
     exact .inl ⟨6, by decide, .over ha hi⟩
   | true =>
     obtain ⟨m, h, X, tl⟩ := left_any iv p.year
     rcases (show 0 < N ∨ N = 0 ∨ N < 0 by omega) with q | rfl | q
     · exact .inr ⟨⟨N, X, tot (usU h p.year (floorV N p.cap)) m, 0, N - tot (usU h p.year (floorV N p.cap)) m + 0, rof (N - tot (usU h p.year (floorV N p.cap)) m + 0) p.r, m, usU h p.year (floorV N p.cap)⟩, _, ha, hi, ⟨m, h, tl, .inl ⟨q, rfl, rfl, rfl, rfl, rfl⟩⟩, rfl, rfl⟩
     · exact .inr ⟨⟨0, X, 0, 0, 0 - 0 + 0, rof (0 - 0 + 0) p.r, 0, fun _ => 0⟩, _, ha, hi, ⟨m, h, tl, .inr (.inl ⟨rfl, rfl, rfl, rfl, rfl⟩)⟩, rfl, rfl⟩
     · obtain ⟨e, he⟩ := aerr_any (xpS S p.year) m (btot h m) (p.year + p.life) p.year (-N)
       by_cases e0 : e = 0
       · subst e0
         exact .inr ⟨⟨N, X, 0, -N, N - 0 + -N, rof (N - 0 + -N) p.r, 0, fun _ => 0⟩, _, ha, hi, ⟨m, h, tl, .inr (.inr ⟨q, rfl, rfl, rfl, he, rfl⟩)⟩, rfl, rfl⟩
       · exact .inl ⟨e, e0, .add ha hi q tl he e0⟩
 · exact .inl ⟨1, by decide, .arg ha⟩
theorem floorV_in {N cap : Int} (h : 0 < N) (hm : Mon N) (hc : 0 ≤ cap ∧ cap ≤ 1000000) : 0 ≤ floorV N cap ∧ floorV N cap ≤ N ∧ floorV N cap * 1000000 ≤ N * cap := by
 unfold Mon at hm
 have hb : floorB N cap = true := decide_eq_true (by omega)
 have h1 := Int.mul_nonneg (show 0 ≤ N by omega) hc.1
 have h2 := Int.mul_le_mul_of_nonneg_left hc.2 (show 0 ≤ N by omega)
 rw [floorV, hb, if_pos rfl]
 omega
theorem TOk.bd (t : TOk S n g p x S') (iv : VInv S n g) : Mon x.inc ∧ (0 ≤ x.exp ∧ x.exp ≤ 100000000000) ∧ 0 ≤ x.used ∧ x.used ≤ max x.inc 0 ∧ 0 ≤ x.new ∧ x.new ≤ 100000000000 ∧ x.txb = max x.inc 0 - x.used ∧ (0 < x.inc → x.used * 1000000 ≤ x.inc * p.cap) ∧ (x.inc ≤ 0 → x.new = -x.inc) ∧ (0 < x.inc → x.new = 0) ∧ x.q ≤ 12 := by
 obtain ⟨hm, _⟩ := inc_mon t.inc
 obtain ⟨m, h, tl, nx⟩ := t.next
 have h1 := tl.low iv
 have h2 := iv.all
 have h3 := t.txb
 have h5 := tl.inv.le
 refine ⟨hm, by omega, ?_⟩
 unfold Mon at hm
 rcases nx with ⟨q, q1, hu, h4, hn, _⟩ | ⟨q, q1, h4, hn, _⟩ | ⟨q, q1, h4, hn, _⟩
 · have h6 := us_room (year := p.year) (room := floorV x.inc p.cap) (fun j hj => (tl.pos j hj).1) (Nat.le_refl m)
   have h7 := floorV_in q (by unfold Mon; omega) t.arg.1
   rw [← hu, ← h4] at h6
   refine ⟨h6.1, by omega, by omega, by omega, by omega, fun _ => by omega, by omega, by omega, by omega⟩
 · exact ⟨by omega, by omega, by omega, by omega, by omega, by omega, by omega, by omega, by omega⟩
 · exact ⟨by omega, by omega, by omega, by omega, by omega, by omega, by omega, by omega, by omega⟩
theorem TOk.left (t : TOk S n g p x S') (_iv : VInv S n g) : ∃ n' g', VInv S' n' g' ∧ btot g' n' = btot g n - x.exp - x.used + x.new := by
 obtain ⟨m, h, tl, nx⟩ := t.next
 have h1 := tl.sum
 rcases nx with ⟨q, q1, hu, h4, hn, rfl⟩ | ⟨q, q1, h4, hn, rfl⟩ | ⟨q, q1, h4, hn, he, rfl⟩
 · have hin : ∀ j, j < m → 0 ≤ x.u j ∧ x.u j ≤ (h j).a := fun j hj => by
     rw [hu]
     have := us_in (year := p.year) (room := floorV x.inc p.cap) (fun j hj => (tl.pos j hj).1) hj
     exact ⟨this.1, this.2.1⟩
   obtain ⟨m', f0, f⟩ := flt_any (n := m) (G := lessG h x.u) (fun j hj => tl.inv.is.1.ok j hj) (fun i j hi hj => tl.inv.is.1.asc i j hi hj) h m (Nat.le_refl _)
   have f1 := tl.inv.less hin f
   exact ⟨m', f0, f1.1, by omega⟩
 · exact ⟨m, h, tl.inv, by omega⟩
 · cases he with
   | ok h2 h3 h4 =>
     obtain ⟨m', h', b, _, _⟩ := vis_set tl.inv.is h2.1 (xpS S p.year (p.year + p.life) p.year + -x.inc)
     obtain ⟨k1, k2⟩ := tl.inv.add h2 h3 h4 b
     exact ⟨m', h', k1, by omega⟩
end
end Go.Proofs.YtmlafdehhbhbiaaGreat
/- Package bridge: a contract for each of its functions. -/
namespace Go.Proofs.YtmlafdehhbhbiaaGreat
open Go.RowKit
theorem inc_sum {a b c n : Int} {ok : Bool} (h : IncIs a b c n ok) (hc : -9223372036854775808 ≤ c ∧ c ≤ 9223372036854775807) : SumIs (fun j => [a, b, wrap64 (-c)].getD j 0) 3 n ok := by
 have hw : wrap64 (-c) = if c = -9223372036854775808 then c else -c := by unfold wrap64; split <;> omega
 have e : tot (fun j => [a, b, wrap64 (-c)].getD j 0) 3 = a + b + wrap64 (-c) := by simp [tot]
 rcases h with ⟨h1, h2, h3, h4, rfl, rfl⟩ | ⟨h1, rfl, rfl⟩
 · unfold Mon at h1 h2 h3 h4
   rw [if_neg (by omega)] at hw
   refine .inl ⟨rfl, ?_, ?_, ?_⟩
   · rw [e, hw]; omega
   · rw [e, hw]; unfold Mon; omega
   · intro j hj
     rcases (show j = 0 ∨ j = 1 ∨ j = 2 by omega) with rfl | rfl | rfl
     · exact h1
     · exact h2
     · show Mon (wrap64 (-c)); rw [hw]; unfold Mon; omega
 · refine .inr ⟨rfl, rfl, ?_⟩
   by_cases ha : Mon a
   · by_cases hb : Mon b
     · by_cases hcm : Mon c
       · refine .inr ?_
         rw [e, hw, if_neg (by unfold Mon at hcm; omega)]
         intro q
         exact h1 ⟨ha, hb, hcm, by rwa [Int.sub_eq_add_neg]⟩
       · refine .inl ⟨2, by omega, ?_⟩
         show ¬ Mon (wrap64 (-c))
         rw [hw]; unfold Mon at hcm ⊢; split <;> omega
     · exact .inl ⟨1, by omega, hb⟩
   · exact .inl ⟨0, by omega, ha⟩
theorem pinc {a b c n : Int} {ok : Bool} (h : IncIs a b c n ok) (hc : -9223372036854775808 ≤ c ∧ c ≤ 9223372036854775807) (w : World) :
   Calls Tryz.prog 87 #[.int .i64 a, .int .i64 b, .int .i64 c] w fun e w' => e = .returned (.tuple #[.int .i64 n, .bool ok]) ∧ Below w.heap.size w w' := by
 have HS := Lib.hid (inc_sum h hc)
 clear h hc
 obtain ⟨u, hu⟩ : ∃ u, wrap64 (-c) = u := ⟨_, rfl⟩
 rw [hu] at HS
 have L := Lib.hid (lit_row w [a, b, u] 3)
 have C1 := Lib.hid (fun w1 : World => fun (q : Row w1 w.heap.size 3 (fun j => [a, b, u].getD j 0)) => sum_some w.heap.size 0 3 3 _ n ok w1 q.1 q.hid (by omega) (by omega) HS)
 go_enter Tryz.func87, Tryz.ntmps87
 go_wp2_with fail
 refine (C1.out _ L.out).mono ?_
 rintro e w1 ⟨rfl, hb1⟩
 have K1 := Lib.hid (((Below.refl _ _).alloc (Nat.le_refl _) _).trans (hb1.mono (by simp)))
 clear hb1
 go_wp2
 go_ret2
 exact ⟨rfl, K1.out⟩
end Go.Proofs.YtmlafdehhbhbiaaGreat
/- The document's own income by the tax: a contract. -/
namespace Go.Proofs.YtmlafdehhbhbiaaGreat
open Go.RowKit
theorem rinc {a b c n : Int} {ok : Bool} (h : IncIs a b c n ok) (w : World) :
   Calls Tryz.prog 111 #[.int .i64 a, .int .i64 b, .int .i64 c] w fun e w' => e = .returned (.tuple #[.int .i64 n, .bool ok]) ∧ w = w' := by
 by_cases ha : Mon a
 · by_cases hb : Mon b
   · by_cases hc : Mon c
     · have ka := ha; have kb := hb; have kc := hc
       unfold Mon at ka kb kc
       by_cases hs : Mon (a + b - c)
       · have e1 : Hid (n = a + b - c ∧ ok = true) := Lib.hid (by
           rcases h with ⟨_, _, _, _, h1, h2⟩ | ⟨h1, _⟩
           · exact ⟨h2, h1⟩
           · exact absurd ⟨ha, hb, hc, hs⟩ h1)
         have HA := Lib.hid ha; have HB := Lib.hid hb; have HC := Lib.hid hc; have HS := Lib.hid hs
         clear h ha hb hc hs
         go_enter Tryz.func111, Tryz.ntmps111
         go_wp2_with (first | (go_at_call 50; (with_reducible refine (rmny_yes _ _ HA.out).mono ?_); rintro e w' ⟨rfl, rfl⟩) | (go_at_call 50; (with_reducible refine (rmny_yes _ _ HB.out).mono ?_); rintro e w' ⟨rfl, rfl⟩) | (go_at_call 50; (with_reducible refine (rmny_yes _ _ HC.out).mono ?_); rintro e w' ⟨rfl, rfl⟩) | (go_at_call 50; (with_reducible refine (rmny_yes _ _ HS.out).mono ?_); rintro e w' ⟨rfl, rfl⟩))
         go_ret2
         exact ⟨by rw [e1.out.1, e1.out.2]; rfl, rfl⟩
       · have e1 : Hid (n = 0 ∧ ok = false) := Lib.hid (by
           rcases h with ⟨h1, h2, h3, h4, _⟩ | ⟨_, h1, h2⟩
           · exact absurd h4 hs
           · exact ⟨h2, h1⟩)
         have HA := Lib.hid ha; have HB := Lib.hid hb; have HC := Lib.hid hc; have HS := Lib.hid hs
         clear h ha hb hc hs
         go_enter Tryz.func111, Tryz.ntmps111
         go_wp2_with (first | (go_at_call 50; (with_reducible refine (rmny_yes _ _ HA.out).mono ?_); rintro e w' ⟨rfl, rfl⟩) | (go_at_call 50; (with_reducible refine (rmny_yes _ _ HB.out).mono ?_); rintro e w' ⟨rfl, rfl⟩) | (go_at_call 50; (with_reducible refine (rmny_yes _ _ HC.out).mono ?_); rintro e w' ⟨rfl, rfl⟩) | (go_at_call 50; (with_reducible refine (rmny_no _ _ HS.out).mono ?_); rintro e w' ⟨rfl, rfl⟩))
         go_ret2
         exact ⟨by rw [e1.out.1, e1.out.2]; rfl, rfl⟩
     · have e1 : Hid (n = 0 ∧ ok = false) := Lib.hid (by
         rcases h with ⟨h1, h2, h3, h4, _⟩ | ⟨_, h1, h2⟩
         · exact absurd h3 hc
         · exact ⟨h2, h1⟩)
       have HA := Lib.hid ha; have HB := Lib.hid hb; have HC := Lib.hid hc
       clear h ha hb hc
       go_enter Tryz.func111, Tryz.ntmps111
       go_wp2_with (first | (go_at_call 50; (with_reducible refine (rmny_yes _ _ HA.out).mono ?_); rintro e w' ⟨rfl, rfl⟩) | (go_at_call 50; (with_reducible refine (rmny_yes _ _ HB.out).mono ?_); rintro e w' ⟨rfl, rfl⟩) | (go_at_call 50; (with_reducible refine (rmny_no _ _ HC.out).mono ?_); rintro e w' ⟨rfl, rfl⟩))
       go_ret2
       exact ⟨by rw [e1.out.1, e1.out.2]; rfl, rfl⟩
   · have e1 : Hid (n = 0 ∧ ok = false) := Lib.hid (by
       rcases h with ⟨h1, h2, h3, h4, _⟩ | ⟨_, h1, h2⟩
       · exact absurd h2 hb
       · exact ⟨h2, h1⟩)
     have HA := Lib.hid ha; have HB := Lib.hid hb
     clear h ha hb
     go_enter Tryz.func111, Tryz.ntmps111
     go_wp2_with (first | (go_at_call 50; (with_reducible refine (rmny_yes _ _ HA.out).mono ?_); rintro e w' ⟨rfl, rfl⟩) | (go_at_call 50; (with_reducible refine (rmny_no _ _ HB.out).mono ?_); rintro e w' ⟨rfl, rfl⟩))
     go_ret2
     exact ⟨by rw [e1.out.1, e1.out.2]; rfl, rfl⟩
 · have e1 : Hid (n = 0 ∧ ok = false) := Lib.hid (by
     rcases h with ⟨h1, h2, h3, h4, _⟩ | ⟨_, h1, h2⟩
     · exact absurd h1 ha
     · exact ⟨h2, h1⟩)
   have HA := Lib.hid ha
   clear h ha
   go_enter Tryz.func111, Tryz.ntmps111
   go_wp2_with (first | (go_at_call 50; (with_reducible refine (rmny_no _ _ HA.out).mono ?_); rintro e w' ⟨rfl, rfl⟩))
   go_ret2
   exact ⟨by rw [e1.out.1, e1.out.2]; rfl, rfl⟩
end Go.Proofs.YtmlafdehhbhbiaaGreat
/- A tax in the making: the losses' copy, the result's cells, rows that nobody writes: what lies in memory; small contracts of the document's. -/
namespace Go.Proofs.YtmlafdehhbhbiaaGreat
open Go.RowKit
def AtO (b0 : Nat) (O : Nat → Nat) (w : World) (U : Option Addr) (q : Nat) (u : Nat → Int) : Prop := At w U q u ∧ ∀ b off, U = some ⟨b, off, none⟩ → b0 ≤ b ∧ b < w.heap.size ∧ O b = 0
section
variable {w0 w w1 : World} {O O1 : Nat → Nat} {b0 base t t' sb n q : Nat} {U : Option Addr} {u : Nat → Int} {g : Nat → Bk} {S : Int → Int → Int} {xs : List Value}
theorem AtO.step (h : AtO b0 O w U q u) (k : Step base O t w O1 w1) (ht : t ≠ 0) : AtO b0 O1 w1 U q u := by
 refine ⟨?_, fun b off e => ?_⟩
 · rcases h.1 with h0 | ⟨b, off, e, hb, hc⟩
   · exact .inl h0
   · refine .inr ⟨b, off, e, Nat.lt_of_lt_of_le hb k.kept.size, fun j hj => ?_⟩
     rw [← hc j hj]
     refine World.cell?_of_block (a := ⟨b, off + j, none⟩) (k.kept.block b hb ?_)
     rw [(h.2 b off e).2.2]; exact fun e => ht e.symm
 · obtain ⟨h0, h1, h2⟩ := h.2 b off e
   exact ⟨h0, Nat.lt_of_lt_of_le h1 k.kept.size, by rw [k.ext b h1]; exact h2⟩
theorem AtO.of {E : TypeId} {c : Nat} (hb : b0 ≤ w.heap.size) (fn : Fin0 base O w) (o : Own w1 E w.heap.size (.slice U q c) q u) : AtO b0 O w1 U q u := by
 obtain ⟨A', c', e, _, _, ha⟩ := o.at
 injection e with e1 _ _
 subst e1
 refine ⟨ha, fun b off e => ?_⟩
 obtain ⟨z1, z2⟩ := World.ownsRow.lt o b (by rw [e]; rfl)
 exact ⟨Nat.le_trans hb z1, z2, fn.2 b z1⟩
theorem AtO.none (O : Nat → Nat) (w : World) (u : Nat → Int) : AtO b0 O w .none 0 u := ⟨.inl rfl, fun _ _ e => by cases e⟩
theorem Head.far (h : Head w O t sb xs) {b : Nat} (o : Nat) (x : Value) (hne : sb ≠ b) : Head (w.setCell ⟨b, o, .none⟩ x) O t sb xs :=
 h.block (Below.heap_setCell _ _ _ _ hne) (by simp) rfl
theorem fz_keep {b j : Nat} (h : w.frozen? ⟨b, j, .none⟩ = false) (hb : b < w.heap.size) (k : Below w.heap.size w w1) : w1.frozen? ⟨b, j, .none⟩ = false := (k.frozen hb).trans h
structure TXS (w wr : World) (O : Nat → Nat) (sb : Nat) (S : Int → Int → Int) (xs ys : List Value) : Prop where
 now : NowL w wr O 1 sb S
 res : Head wr O 2 w.heap.size xs
 mkg : Head wr O 2 (w.heap.size + 1) ys
variable {wr : World} {ys : List Value} {S1 : Int → Int → Int}
theorem TXS.below (h : TXS w wr O sb S xs ys) (k : Below wr.heap.size wr w1) : TXS w w1 O sb S xs ys := ⟨h.now.below k, h.res.below k, h.mkg.below k⟩
theorem TXS.step (h : TXS w wr O sb S xs ys) (k : Step w.heap.size O 1 wr O1 w1) (n1 : NowL w w1 O1 1 sb S1) : TXS w w1 O1 sb S1 xs ys := ⟨n1, h.res.step k (by decide), h.mkg.step k (by decide)⟩
theorem TXS.set (h : TXS w wr O sb S xs ys) (j : Nat) (x : Value) (hj : j < ys.length) : TXS w (wr.setCell ⟨w.heap.size + 1, j, .none⟩ x) O sb S xs (ys.set j x) ∧ Step w.heap.size O 2 wr O (wr.setCell ⟨w.heap.size + 1, j, .none⟩ x) := by
 have st := Step.set (t := 2) h.now.fin j x h.mkg.tag
 exact ⟨⟨h.now.step st (by decide) (by decide), h.res.far _ _ (by omega), h.mkg.set j x hj⟩, st⟩
theorem TXS.setR (h : TXS w wr O sb S xs ys) (j : Nat) (x : Value) (hj : j < xs.length) : TXS w (wr.setCell ⟨w.heap.size, j, .none⟩ x) O sb S (xs.set j x) ys ∧ Step w.heap.size O 2 wr O (wr.setCell ⟨w.heap.size, j, .none⟩ x) := by
 have st := Step.set (t := 2) h.now.fin j x h.res.tag
 exact ⟨⟨h.now.step st (by decide) (by decide), h.res.set j x hj, h.mkg.far _ _ (by omega)⟩, st⟩
theorem two_heads (w : World) (xs ys : List Value) (T T' : TypeId) : ∃ O, Fin0 w.heap.size O ((w.alloc (.cells xs.toArray T)).alloc (.cells ys.toArray T')) ∧ Head ((w.alloc (.cells xs.toArray T)).alloc (.cells ys.toArray T')) O 2 w.heap.size xs ∧ Head ((w.alloc (.cells xs.toArray T)).alloc (.cells ys.toArray T')) O 2 (w.heap.size + 1) ys := by
 have s1 := Step.made (t := 2) (Fin0.zero w.heap.size w) (Nat.le_refl _) (.cells xs.toArray T) 3
 have h1 := Head.new w (fun _ => 0) 2 xs.toArray T
 obtain ⟨w1, hw1⟩ : ∃ w1, w.alloc (.cells xs.toArray T) = w1 := ⟨_, rfl⟩
 have z1 : w1.heap.size = w.heap.size + 1 := by rw [← hw1]; simp
 obtain ⟨O1, hO⟩ : ∃ O1, mark (fun _ => 0) 2 w.heap.size = O1 := ⟨_, rfl⟩
 rw [hw1, hO] at s1 h1
 rw [hw1]
 have s2 := Step.made (t := 2) s1.fin (by omega) (.cells ys.toArray T') 3
 have h2 := Head.new w1 O1 2 ys.toArray T'
 rw [z1] at s2 h2
 exact ⟨_, s2.fin, h1.step s2 (by decide), h2⟩
theorem nlcopy (h : NowL w0 w O t sb S) (W0 : World) {O2 : Nat → Nat} (fn : Fin0 W0.heap.size O2 w) (lo : Below W0.heap.size W0 w) (t' : Nat) :
   Calls Tryz.prog 112 #[ptr sb] w fun e w' => ∃ sb' O', e = .returned (ptr sb') ∧ NowL W0 w' O' t' sb' S ∧ ∀ t2, Step W0.heap.size O2 t2 w O' w' := by
 obtain ⟨v, n, g, s, iv⟩ := h.st
 refine (rlcopy s (by have := iv.le; omega) fn lo.size t').mono ?_
 rintro e w' ⟨v', sb', O', rfl, s', _, st⟩
 exact ⟨sb', O', rfl, ⟨⟨v', n, g, s', iv⟩, (st 0).fin, lo.trans ((st 1).below fn (by decide) lo.size)⟩, st⟩
end
theorem rtotal (A : Option Addr) (n c : Nat) (u : Nat → Int) (w : World) (hu : At w A n u) (_hn : n ≤ 1000) (pos : ∀ j, j < n → 0 ≤ u j ∧ u j ≤ 100000000000) :
   Calls Tryz.prog 116 #[.slice A n c] w fun e w' => e = .returned (.int .i64 (tot u n)) ∧ Below w.heap.size w w' := by
 have HU := Lib.hid hu
 have TB : Hid (∀ k, k ≤ n → 0 ≤ tot u k ∧ tot u k ≤ 100000000000000) := Lib.hid fun k hk => by
   refine ⟨tot_nonneg k fun j hj => (pos j (by omega)).1, ?_⟩
   have := tot_le (h := fun _ => 100000000000) k fun j hj => (pos j (by omega)).2
   rw [tot_const] at this; omega
 clear hu pos
 go_enter Tryz.func116, Tryz.ntmps116
 go_wp2
 go_loopg [3, 8] n (fun gh s i wr => ∃ k : Nat, k ≤ n ∧ gh = n - k ∧ i = .int .i64 k ∧ s = .int .i64 (tot u k) ∧ Below w.heap.size w wr)
 case atStart => exact ⟨0, Nat.zero_le _, rfl, rfl, rfl, Below.refl _ _⟩
 case round =>
   obtain ⟨k, hk, hgk, rfl, rfl, hbw⟩ := hrel
   have HGK := Lib.hid hgk
   have HW := Lib.hid hbw
   clear hgk hbw
   by_cases hlt : k < n
   · obtain ⟨b, off, rfl, hb, hc⟩ := (HU.out.below HW.out).some (by omega)
     have c0 := hc k hlt
     have e0 : tot u (k + 1) = tot u k + u k := rfl
     obtain ⟨t1, t2⟩ := TB.out k hk
     obtain ⟨t3, t4⟩ := TB.out (k + 1) (by omega)
     obtain ⟨x, hx⟩ : ∃ x, u k = x := ⟨_, rfl⟩
     obtain ⟨t, ht⟩ : ∃ t, tot u k = t := ⟨_, rfl⟩
     rw [e0] at t3 t4
     rw [hx] at c0 t3 t4 e0
     rw [ht] at t1 t2 t3 t4 e0 ⊢
     have E0 := Lib.hid e0
     clear hc e0 hx ht
     go_wp2
     go_roundg (n - (k + 1))
     case measure => have := HGK.out; omega
     case rel => exact ⟨k + 1, by omega, rfl, by go_num, by rw [E0.out]; try go_num, HW.out⟩
   · obtain rfl : k = n := by omega
     clear hlt
     go_wp2
     go_ret
     exact ⟨rfl, HW.out⟩
def txa (i e u n t x : Int) (v : Value) : Value := .agg #[.int .i64 i, .int .i64 e, .int .i64 u, .int .i64 n, .int .i64 t, .int .i64 x, v]
def txl (i e u n t x : Int) (v : Value) : List Value := [.int .i64 i, .int .i64 e, .int .i64 u, .int .i64 n, .int .i64 t, .int .i64 x, v]
theorem load_t {w : World} {O : Nat → Nat} {t b q c : Nat} {i e u n tb x : Int} {U : Option Addr} (h : Head w O t b (txl i e u n tb x (.slice U q c))) : (loadVar 71 ⟨b, 0, none⟩).run Tryz.prog w = .ok (txa i e u n tb x (.slice U q c)) w := by
 have c0 := h.cell 0 _ rfl
 have c1 := h.cell 1 _ rfl
 have c2 := h.cell 2 _ rfl
 have c3 := h.cell 3 _ rfl
 have c4 := h.cell 4 _ rfl
 have c5 := h.cell 5 _ rfl
 have c6 := h.cell 6 _ rfl
 clear h
 go_simp
 rfl
theorem results_ctt {fn : Func} {p u v : Tmp} {T : TypeId} (h : fn.results = #[.cell p T, .tmp u, .tmp v]) (tmps : Array Value) (w : World) (b : Nat) (x : Value) (hp : tmps.getD p undef = .pointer (some ⟨b, 0, none⟩)) (hl : (loadVar T ⟨b, 0, none⟩).run Tryz.prog w = .ok x w) :
   (results fn tmps).run Tryz.prog w = .ok (.tuple #[x, tmps.getD u undef, tmps.getD v undef]) w := by
 have hp' : tmps[p]?.getD undef = .pointer (some ⟨b, 0, none⟩) := by simpa using hp
 simp [results, h, hp', asAddr, hl, Result.andThen]
end Go.Proofs.YtmlafdehhbhbiaaGreat
/- The document's own tax of a period: a contract. -/
namespace Go.Proofs.YtmlafdehhbhbiaaGreat
open Go.RowKit
section
variable {w0 w : World} {O : Nat → Nat} {t sb n : Nat} {S S' : Int → Int → Int} {g : Nat → Bk}
set_option maxHeartbeats 4000000 in
set_option maxRecDepth 100000 in
theorem rtax_arg (p : Tq) (H : ¬ TArg p) :
   Calls Tryz.prog 64 #[ptr sb, .int .i64 p.book, .int .i64 p.perm, .int .i64 p.moved, .int .i64 p.cap, .int .i64 p.life, .int .i64 p.year, .int .i64 p.r] w fun e w' => e = .returned (.tuple #[txa 0 0 0 0 0 0 (.slice none 0 0), .pointer none, .int .i64 1]) ∧ Below w.heap.size w w' := by
 obtain ⟨book, perm, moved, cap, life, year, r⟩ := p
 dsimp only
 unfold TArg at H
 dsimp only at H
 rcases (show (cap < 0 ∨ 1000000 < cap) ∨ ((0 ≤ cap ∧ cap ≤ 1000000) ∧ (r < 0 ∨ 1000000 < r)) ∨ ((0 ≤ cap ∧ cap ≤ 1000000) ∧ (0 ≤ r ∧ r ≤ 1000000) ∧ (life < 0 ∨ 99 < life)) ∨ ((0 ≤ cap ∧ cap ≤ 1000000) ∧ (0 ≤ r ∧ r ≤ 1000000) ∧ (0 ≤ life ∧ life ≤ 99) ∧ (year < 0 ∨ 99 < year)) by omega) with q | ⟨q1, q⟩ | ⟨q1, q2, q⟩ | ⟨q1, q2, q3, q⟩
 all_goals
   clear H
   go_enter Tryz.func64, Tryz.ntmps64
   go_wp2_with (first | (go_at_call 59; (with_reducible refine (rrt_yes _ _ (by omega) (by omega)).mono ?_); rintro e w' ⟨rfl, rfl⟩) | (go_at_call 59; (with_reducible refine (rrt_no _ _ (by omega)).mono ?_); rintro e w' ⟨rfl, rfl⟩) | (go_at_call 106; (with_reducible refine (ryr_yes _ _ (by omega) (by omega)).mono ?_); rintro e w' ⟨rfl, rfl⟩) | (go_at_call 106; (with_reducible refine (ryr_no _ _ (by omega)).mono ?_); rintro e w' ⟨rfl, rfl⟩))
   exact bodyPost_ret (results_ctt rfl _ _ w.heap.size _ rfl (load_t (Head.new w (fun _ => 0) 2 _ _))) rfl ⟨rfl, (Below.refl _ _).alloc (Nat.le_refl _) _⟩
set_option maxHeartbeats 4000000 in
set_option maxRecDepth 100000 in
theorem rtax_over (p : Tq) (H : TArg p) (HI : IncIs p.book p.perm p.moved 0 false) :
   Calls Tryz.prog 64 #[ptr sb, .int .i64 p.book, .int .i64 p.perm, .int .i64 p.moved, .int .i64 p.cap, .int .i64 p.life, .int .i64 p.year, .int .i64 p.r] w fun e w' => e = .returned (.tuple #[txa 0 0 0 0 0 0 (.slice none 0 0), .pointer none, .int .i64 6]) ∧ Below w.heap.size w w' := by
 obtain ⟨book, perm, moved, cap, life, year, r⟩ := p
 unfold TArg at H
 dsimp only at H HI ⊢
 obtain ⟨q1, q2, q3, q4⟩ := H
 have HI' := Lib.hid HI
 clear HI
 go_enter Tryz.func64, Tryz.ntmps64
 go_wp2_with (first | (go_at_call 59; (with_reducible refine (rrt_yes _ _ (by omega) (by omega)).mono ?_); rintro e w' ⟨rfl, rfl⟩) | (go_at_call 59; (with_reducible refine (rrt_no _ _ (by omega)).mono ?_); rintro e w' ⟨rfl, rfl⟩) | (go_at_call 106; (with_reducible refine (ryr_yes _ _ (by omega) (by omega)).mono ?_); rintro e w' ⟨rfl, rfl⟩) | (go_at_call 106; (with_reducible refine (ryr_no _ _ (by omega)).mono ?_); rintro e w' ⟨rfl, rfl⟩) | (go_at_call 111; (with_reducible refine (rinc HI'.out _).mono ?_); rintro e w' ⟨rfl, rfl⟩))
 exact bodyPost_ret (results_ctt rfl _ _ w.heap.size _ rfl (load_t (Head.new w (fun _ => 0) 2 _ _))) rfl ⟨rfl, (Below.refl _ _).alloc (Nat.le_refl _) _⟩
set_option maxHeartbeats 4000000 in
set_option maxRecDepth 100000 in
theorem rtax_oko (h : NowL w0 w O t sb S) (iv : VInv S n g) (p : Tq) (x : Tx) (H : TOk S n g p x S') :
   Calls Tryz.prog 64 #[ptr sb, .int .i64 p.book, .int .i64 p.perm, .int .i64 p.moved, .int .i64 p.cap, .int .i64 p.life, .int .i64 p.year, .int .i64 p.r] w fun e w' => ∃ sb' O' U c, e = .returned (.tuple #[txa x.inc x.exp x.used x.new x.txb x.tax (.slice U x.q c), ptr sb', .int .i64 0]) ∧ NowL w w' O' 1 sb' S' ∧ AtO w.heap.size O' w' U x.q x.u ∧ x.q ≤ c ∧ c ≤ maxLen ∧ Below w.heap.size w w' := by
 obtain ⟨book, perm, moved, cap, life, year, r⟩ := p
 obtain ⟨inc, ex, used, nw, txb, tax, q, u⟩ := x
 obtain ⟨hm, he, hu0, hu1, hn0, hn1, htx, b1, b2, b3, hq⟩ := H.bd iv
 clear b1 b2 b3
 obtain ⟨⟨q1, q2, q3, q4⟩, hi, ⟨m, h', tl, nx⟩, htb, hta⟩ := H
 have HE := Lib.hid tl.exp
 have HI := Lib.hid hi
 unfold TNext at nx
 dsimp only at *
 unfold Mon at hm
 obtain ⟨hm1, hm2⟩ := hm
 obtain ⟨O2, fn, r1, k1⟩ := two_heads w [.int .i64 0, .int .i64 0, .int .i64 0, .int .i64 0, .int .i64 0, .int .i64 0, .slice none 0 0] [.int .i64 inc, .int .i64 0, .int .i64 0, .int .i64 0, .int .i64 0, .int .i64 0, .slice none 0 0] 71 71
 have lo0 := (Below.refl w.heap.size w).alloc (Nat.le_refl _) (.cells #[.int .i64 0, .int .i64 0, .int .i64 0, .int .i64 0, .int .i64 0, .int .i64 0, .slice none 0 0] 71)
 have lo1 := lo0.alloc lo0.size (.cells #[.int .i64 inc, .int .i64 0, .int .i64 0, .int .i64 0, .int .i64 0, .int .i64 0, .slice none 0 0] 71)
 have CC := Lib.hid (nlcopy (h.below lo1) w fn lo1 1)
 have R1 := Lib.hid r1
 have K1 := Lib.hid k1
 have IV := Lib.hid iv
 have TL := Lib.hid tl
 have NX := Lib.hid nx
 have HT := Lib.hid (show txb = inc - used + nw ∧ tax = rof txb r from ⟨htb, hta⟩)
 have BD := Lib.hid (show 0 ≤ used ∧ used ≤ max inc 0 ∧ 0 ≤ nw ∧ nw ≤ 100000000000 ∧ txb = max inc 0 - used from ⟨hu0, hu1, hn0, hn1, htx⟩)
 clear h fn r1 k1 lo0 lo1 iv tl nx hi he hu0 hu1 hn0 hn1 htx htb hta
 go_enter Tryz.func64, Tryz.ntmps64
 go_wp2_with (first | (go_at_call 59; (with_reducible refine (rrt_yes _ _ (by omega) (by omega)).mono ?_); rintro e w' ⟨rfl, rfl⟩) | (go_at_call 59; (with_reducible refine (rrt_no _ _ (by omega)).mono ?_); rintro e w' ⟨rfl, rfl⟩) | (go_at_call 106; (with_reducible refine (ryr_yes _ _ (by omega) (by omega)).mono ?_); rintro e w' ⟨rfl, rfl⟩) | (go_at_call 106; (with_reducible refine (ryr_no _ _ (by omega)).mono ?_); rintro e w' ⟨rfl, rfl⟩) | (go_at_call 111; (with_reducible refine (rinc HI.out _).mono ?_); rintro e w' ⟨rfl, rfl⟩))
 refine (CC.out).mono ?_
 rintro e w5 ⟨sbk, O5, rfl, n5, st5⟩
 have T5 := Lib.hid (show TXS w w5 O5 sbk S (txl 0 0 0 0 0 0 (.slice none 0 0)) (txl inc 0 0 0 0 0 (.slice none 0 0)) from ⟨n5, R1.out.step (st5 1) (by decide), K1.out.step (st5 1) (by decide)⟩)
 clear n5 st5 CC R1 K1
 go_wp2_with fail
 refine (nlexp T5.out.now (by decide) IV.out.is _).mono ?_
 rintro e w6 ⟨rfl, O6, n6, st6⟩
 rw [HE.out]
 have t6 := T5.out.step st6 n6
 have c1 := t6.mkg.cell 1 _ rfl
 have f1 := t6.mkg.frz 1
 have T6 := Lib.hid (show TXS w (w6.setCell ⟨w.heap.size + 1, 1, none⟩ (.int .i64 ex)) O6 sbk (xpS S year) (txl 0 0 0 0 0 0 (.slice none 0 0)) (txl inc ex 0 0 0 0 (.slice none 0 0)) from (t6.set 1 (.int .i64 ex) (by simp [txl])).1)
 clear t6 n6 st6 T5
 obtain ⟨w7, hw7⟩ : ∃ w7, w6.setCell ⟨w.heap.size + 1, 1, none⟩ (.int .i64 ex) = w7 := ⟨_, rfl⟩
 rw [hw7] at T6
 have W7 := Lib.hid hw7
 clear hw7
 obtain ⟨e1, e2⟩ := HT.out
 have E2 := Lib.hid e2.symm
 subst e1
 clear e2 HT
 obtain ⟨u0, u1, n0, n1, u3⟩ := BD.out
 have u2 : used ≤ 100000000000 := by omega
 clear u1 u3 BD
 rcases NX.out with ⟨z, hqm, hu, hus, hnw, hS⟩ | ⟨z, rfl, hus, hnw, hS⟩ | ⟨z, rfl, hus, hnw, hae, hS⟩
 · subst hqm
   have HS := Lib.hid hS
   have HN := Lib.hid hnw
   have HU := Lib.hid hus
   have fv := floorV_in (N := inc) (cap := cap) z (by unfold Mon; omega) q1
   obtain ⟨v7, n7, g7, s7, iv7⟩ := T6.out.now.st
   obtain ⟨hq7, eg⟩ := iv7.is.uniq TL.out.inv.is
   subst hq7
   obtain ⟨A7, c7, rfl, hc7, hm7, _, ha7⟩ := s7.at
   have k0 := s7.hd.c0
   have c6 := T6.out.mkg.cell 6 _ rfl
   have f6 := T6.out.mkg.frz 6
   have lt6 := T6.out.mkg.lt
   have hne : ¬ w.heap.size + 1 = sbk := fun e => by have a := T6.out.mkg.tag; rw [e, s7.hd.tag] at a; cases a
   have CV := Lib.hid (rvec A7 n7 c7 h' year (floorV inc cap) w7.drew ((ha7.ext eg).below (below_drew w7)) (by omega) TL.out.pos (by omega))
   rw [← hu] at CV
   have hin : ∀ j, j < n7 → 0 ≤ u j ∧ u j ≤ (h' j).a := fun j hj => by
     rw [hu]
     have := us_in (year := year) (room := floorV inc cap) (fun j hj => (TL.out.pos j hj).1) hj
     exact ⟨this.1, this.2.1⟩
   have HIN := Lib.hid hin
   have FZ := Lib.hid fun w8 (k : Below w7.drew.heap.size w7.drew w8) => And.intro (cell_keep (w := w7.drew) k0 k) (And.intro (cell_keep (w := w7.drew) c6 k) (fz_keep (w := w7.drew) f6 lt6 k))
   clear hS hnw hus fv s7 iv7 eg ha7 hin hu NX
   go_wp2_with fail
   rw [W7.out]
   clear c1 f1 W7
   go_region_held3 (fun w' => w'.cell? ⟨sbk, 0, none⟩ = some (.slice A7 n7 c7)) (first | go_keep) (first | (go_at_call 115; (with_reducible refine (rroom _ _ _).mono ?_); rintro e w' ⟨rfl, rfl⟩) | (go_at_call 114; (refine (CV.out).mono ?_); rintro e w8 ⟨v8, rfl, ho8, hb8⟩; obtain ⟨A8, c8, rfl, hc8, hm8, _⟩ := ho8.form; obtain ⟨d0, d1, d2⟩ := FZ.out _ hb8; have HO8 := Lib.hid ho8; have HB8 := Lib.hid hb8; clear ho8 hb8))
   have s8 := T6.out.below (((below_drew w7).trans HB8.out))
   have x8 := s8.set 6 (.slice A8 n7 c8) (by simp [txl])
   have T8 := Lib.hid (show TXS w (w8.setCell ⟨w.heap.size + 1, 6, none⟩ (.slice A8 n7 c8)) O6 sbk (xpS S year) (txl 0 0 0 0 0 0 (.slice none 0 0)) (txl inc ex 0 0 0 0 (.slice A8 n7 c8)) from x8.1)
   have AT8 := Lib.hid ((AtO.of (b0 := w.heap.size) (w := w7.drew) T6.out.now.low.size T6.out.now.fin HO8.out).step x8.2 (by decide))
   clear s8 x8 HO8 HB8 FZ CV k0 c6 f6 lt6 hne d0 d1 d2 T6
   obtain ⟨w9, hw9⟩ : ∃ w9, w8.setCell ⟨w.heap.size + 1, 6, none⟩ (.slice A8 n7 c8) = w9 := ⟨_, rfl⟩
   rw [hw9] at T8 AT8 ⊢
   clear hw9
   have c6 := T8.out.mkg.cell 6 _ rfl
   have CT := Lib.hid (rtotal A8 n7 c8 u w9 AT8.out.1 (by omega) (fun j hj => by have := HIN.out j hj; have := TL.out.pos j hj; omega))
   rw [← HU.out] at CT
   go_wp2_with fail
   refine (CT.out).mono ?_
   rintro e w10 ⟨rfl, hb10⟩
   have t10 := T8.out.below hb10
   have c2 := t10.mkg.cell 2 _ rfl
   have f2 := t10.mkg.frz 2
   have d6 := t10.mkg.cell 6 _ rfl
   have x10 := t10.set 2 (.int .i64 used) (by simp [txl])
   have T10 := Lib.hid (show TXS w (w10.setCell ⟨w.heap.size + 1, 2, none⟩ (.int .i64 used)) O6 sbk (xpS S year) (txl 0 0 0 0 0 0 (.slice none 0 0)) (txl inc ex used 0 0 0 (.slice A8 n7 c8)) from x10.1)
   have AT10 := Lib.hid ((AT8.out.step (Step.of_below (t := 2) T8.out.now.fin hb10) (by decide)).step x10.2 (by decide))
   have CK := Lib.hid (nltake (c := c8) x10.1.now (by decide) TL.out.inv.is AT10.out.1 (by omega) 0 (.inl ⟨⟨rfl, HIN.out⟩, rfl⟩))
   clear t10 x10 hb10 T8 AT8 CT c6
   go_wp2_with fail
   refine (CK.out).mono ?_
   rintro e w12 ⟨rfl, O12, m12, st12⟩
   have e12 : tkS 0 (xpS S year) n7 h' u = S' := by rw [HS.out]; exact if_pos rfl
   rw [e12] at m12
   have T12 := Lib.hid (show TXS w w12 O12 sbk S' (txl 0 0 0 0 0 0 (.slice none 0 0)) (txl inc ex used nw 0 0 (.slice A8 n7 c8)) from by rw [HN.out]; exact T10.out.step st12 m12)
   have AT12 := Lib.hid (AT10.out.step st12 (by decide))
   clear CK e12 m12 st12 T10 AT10 c2 f2 d6 HIN HU HS HN
   have m0 := T12.out.mkg.cell 0 _ rfl
   have m1 := T12.out.mkg.cell 1 _ rfl
   have m2 := T12.out.mkg.cell 2 _ rfl
   have m3 := T12.out.mkg.cell 3 _ rfl
   have m4 := T12.out.mkg.cell 4 _ rfl
   have m5 := T12.out.mkg.cell 5 _ rfl
   have m6 := T12.out.mkg.cell 6 _ rfl
   have g4 := T12.out.mkg.frz 4
   have g5 := T12.out.mkg.frz 5
   have r0 := T12.out.res.cell 0 _ rfl
   have h0 := T12.out.res.frz 0
   have r1 := T12.out.res.cell 1 _ rfl
   have h1 := T12.out.res.frz 1
   have r2 := T12.out.res.cell 2 _ rfl
   have h2 := T12.out.res.frz 2
   have r3 := T12.out.res.cell 3 _ rfl
   have h3 := T12.out.res.frz 3
   have r4 := T12.out.res.cell 4 _ rfl
   have h4 := T12.out.res.frz 4
   have r5 := T12.out.res.cell 5 _ rfl
   have h5 := T12.out.res.frz 5
   have r6 := T12.out.res.cell 6 _ rfl
   have h6 := T12.out.res.frz 6
   have y1 := T12.out.set 4 (.int .i64 (inc - used + nw)) (by simp [txl])
   have y2 := y1.1.set 5 (.int .i64 tax) (by simp [txl])
   have z0 := y2.1.setR 0 (.int .i64 inc) (by simp [txl])
   have z1 := z0.1.setR 1 (.int .i64 ex) (by simp [txl])
   have z2 := z1.1.setR 2 (.int .i64 used) (by simp [txl])
   have z3 := z2.1.setR 3 (.int .i64 nw) (by simp [txl])
   have z4 := z3.1.setR 4 (.int .i64 (inc - used + nw)) (by simp [txl])
   have z5 := z4.1.setR 5 (.int .i64 tax) (by simp [txl])
   have z6 := z5.1.setR 6 (.slice A8 n7 c8) (by simp [txl])
   have TF := Lib.hid (show TXS w _ O12 sbk S' (txl inc ex used nw (inc - used + nw) tax (.slice A8 n7 c8)) _ from z6.1)
   have ATF := Lib.hid (((((((((AT12.out.step y1.2 (by decide)).step y2.2 (by decide)).step z0.2 (by decide)).step z1.2 (by decide)).step z2.2 (by decide)).step z3.2 (by decide)).step z4.2 (by decide)).step z5.2 (by decide)).step z6.2 (by decide))
   clear y1 y2 z0 z1 z2 z3 z4 z5 z6 T12 AT12
   go_wp2_with (first | (go_at_call 70; (with_reducible refine (rpart_v _ _ _ (by omega) (by omega) _ E2).mono ?_); rintro e w' ⟨rfl, rfl⟩))
   exact bodyPost_ret (results_ctt rfl _ _ w.heap.size _ rfl (load_t TF.out.res)) rfl ⟨sbk, O12, A8, c8, rfl, TF.out.now, ATF.out, hc8, hm8, TF.out.now.low⟩
 · have i1 : ¬ 0 < inc := by omega
   have i2 : ¬ inc < 0 := by omega
   have T12 := Lib.hid (show TXS w w7 O6 sbk S' (txl 0 0 0 0 0 0 (.slice none 0 0)) (txl inc ex used nw 0 0 (.slice none 0 0)) from by rw [hus, hnw, hS]; exact T6.out)
   have AT12 := Lib.hid (AtO.none (b0 := w.heap.size) O6 w7 u)
   obtain ⟨O12, hO⟩ : ∃ O12, O6 = O12 := ⟨_, rfl⟩
   rw [hO] at T12 AT12
   rw [← W7.out] at T12 AT12
   clear z hus hnw NX T6 hO hS W7
   have m0 := T12.out.mkg.cell 0 _ rfl
   have m1 := T12.out.mkg.cell 1 _ rfl
   have m2 := T12.out.mkg.cell 2 _ rfl
   have m3 := T12.out.mkg.cell 3 _ rfl
   have m4 := T12.out.mkg.cell 4 _ rfl
   have m5 := T12.out.mkg.cell 5 _ rfl
   have m6 := T12.out.mkg.cell 6 _ rfl
   have g4 := T12.out.mkg.frz 4
   have g5 := T12.out.mkg.frz 5
   have r0 := T12.out.res.cell 0 _ rfl
   have h0 := T12.out.res.frz 0
   have r1 := T12.out.res.cell 1 _ rfl
   have h1 := T12.out.res.frz 1
   have r2 := T12.out.res.cell 2 _ rfl
   have h2 := T12.out.res.frz 2
   have r3 := T12.out.res.cell 3 _ rfl
   have h3 := T12.out.res.frz 3
   have r4 := T12.out.res.cell 4 _ rfl
   have h4 := T12.out.res.frz 4
   have r5 := T12.out.res.cell 5 _ rfl
   have h5 := T12.out.res.frz 5
   have r6 := T12.out.res.cell 6 _ rfl
   have h6 := T12.out.res.frz 6
   have y1 := T12.out.set 4 (.int .i64 (inc - used + nw)) (by simp [txl])
   have y2 := y1.1.set 5 (.int .i64 tax) (by simp [txl])
   have z0 := y2.1.setR 0 (.int .i64 inc) (by simp [txl])
   have z1 := z0.1.setR 1 (.int .i64 ex) (by simp [txl])
   have z2 := z1.1.setR 2 (.int .i64 used) (by simp [txl])
   have z3 := z2.1.setR 3 (.int .i64 nw) (by simp [txl])
   have z4 := z3.1.setR 4 (.int .i64 (inc - used + nw)) (by simp [txl])
   have z5 := z4.1.setR 5 (.int .i64 tax) (by simp [txl])
   have z6 := z5.1.setR 6 (.slice none 0 0) (by simp [txl])
   have TF := Lib.hid (show TXS w _ O12 sbk S' (txl inc ex used nw (inc - used + nw) tax (.slice none 0 0)) _ from z6.1)
   have ATF := Lib.hid (((((((((AT12.out.step y1.2 (by decide)).step y2.2 (by decide)).step z0.2 (by decide)).step z1.2 (by decide)).step z2.2 (by decide)).step z3.2 (by decide)).step z4.2 (by decide)).step z5.2 (by decide)).step z6.2 (by decide))
   clear y1 y2 z0 z1 z2 z3 z4 z5 z6 T12 AT12
   go_wp2_with (first | (go_at_call 70; (with_reducible refine (rpart_v _ _ _ (by omega) (by omega) _ E2).mono ?_); rintro e w' ⟨rfl, rfl⟩))
   exact bodyPost_ret (results_ctt rfl _ _ w.heap.size _ rfl (load_t TF.out.res)) rfl ⟨sbk, O12, none, 0, rfl, TF.out.now, ATF.out, Nat.le_refl _, Nat.zero_le _, TF.out.now.low⟩
 · have i1 : ¬ 0 < inc := by omega
   have n2 : -inc = nw := by omega
   have HUS := Lib.hid hus
   have HS := Lib.hid hS
   have N2 := Lib.hid n2
   have yb : 0 ≤ year + life ∧ year + life ≤ 198 := by omega
   have c3 := T6.out.mkg.cell 3 _ rfl
   have f3 := T6.out.mkg.frz 3
   have x7 := T6.out.set 3 (.int .i64 nw) (by simp [txl])
   have T7 := Lib.hid (show TXS w (w7.setCell ⟨w.heap.size + 1, 3, none⟩ (.int .i64 nw)) O6 sbk (xpS S year) (txl 0 0 0 0 0 0 (.slice none 0 0)) (txl inc ex 0 nw 0 0 (.slice none 0 0)) from x7.1)
   rw [n2] at hae
   have CA := Lib.hid (nladd x7.1.now (by decide) TL.out.inv.is _ _ _ 0 hae)
   clear hus hnw hS NX x7 hae T6
   rw [← W7.out] at c3 f3 T7 CA
   clear W7
   go_wp2_with fail
   refine (CA.out).mono ?_
   rintro e w12 ⟨rfl, O12, m12, st12⟩
   have e12 : adS 0 (xpS S year) (year + life) year nw = S' := by rw [HS.out, N2.out]; exact if_pos rfl
   rw [e12] at m12
   have T12 := Lib.hid (show TXS w w12 O12 sbk S' (txl 0 0 0 0 0 0 (.slice none 0 0)) (txl inc ex used nw 0 0 (.slice none 0 0)) from by rw [HUS.out]; exact T7.out.step st12 m12)
   have AT12 := Lib.hid (AtO.none (b0 := w.heap.size) O12 w12 u)
   clear CA e12 m12 st12 T7 HUS HS N2 n2
   have m0 := T12.out.mkg.cell 0 _ rfl
   have m1 := T12.out.mkg.cell 1 _ rfl
   have m2 := T12.out.mkg.cell 2 _ rfl
   have m3 := T12.out.mkg.cell 3 _ rfl
   have m4 := T12.out.mkg.cell 4 _ rfl
   have m5 := T12.out.mkg.cell 5 _ rfl
   have m6 := T12.out.mkg.cell 6 _ rfl
   have g4 := T12.out.mkg.frz 4
   have g5 := T12.out.mkg.frz 5
   have r0 := T12.out.res.cell 0 _ rfl
   have h0 := T12.out.res.frz 0
   have r1 := T12.out.res.cell 1 _ rfl
   have h1 := T12.out.res.frz 1
   have r2 := T12.out.res.cell 2 _ rfl
   have h2 := T12.out.res.frz 2
   have r3 := T12.out.res.cell 3 _ rfl
   have h3 := T12.out.res.frz 3
   have r4 := T12.out.res.cell 4 _ rfl
   have h4 := T12.out.res.frz 4
   have r5 := T12.out.res.cell 5 _ rfl
   have h5 := T12.out.res.frz 5
   have r6 := T12.out.res.cell 6 _ rfl
   have h6 := T12.out.res.frz 6
   have y1 := T12.out.set 4 (.int .i64 (inc - used + nw)) (by simp [txl])
   have y2 := y1.1.set 5 (.int .i64 tax) (by simp [txl])
   have z0 := y2.1.setR 0 (.int .i64 inc) (by simp [txl])
   have z1 := z0.1.setR 1 (.int .i64 ex) (by simp [txl])
   have z2 := z1.1.setR 2 (.int .i64 used) (by simp [txl])
   have z3 := z2.1.setR 3 (.int .i64 nw) (by simp [txl])
   have z4 := z3.1.setR 4 (.int .i64 (inc - used + nw)) (by simp [txl])
   have z5 := z4.1.setR 5 (.int .i64 tax) (by simp [txl])
   have z6 := z5.1.setR 6 (.slice none 0 0) (by simp [txl])
   have TF := Lib.hid (show TXS w _ O12 sbk S' (txl inc ex used nw (inc - used + nw) tax (.slice none 0 0)) _ from z6.1)
   have ATF := Lib.hid (((((((((AT12.out.step y1.2 (by decide)).step y2.2 (by decide)).step z0.2 (by decide)).step z1.2 (by decide)).step z2.2 (by decide)).step z3.2 (by decide)).step z4.2 (by decide)).step z5.2 (by decide)).step z6.2 (by decide))
   clear y1 y2 z0 z1 z2 z3 z4 z5 z6 T12 AT12
   go_wp2_with (first | (go_at_call 70; (with_reducible refine (rpart_v _ _ _ (by omega) (by omega) _ E2).mono ?_); rintro e w' ⟨rfl, rfl⟩))
   exact bodyPost_ret (results_ctt rfl _ _ w.heap.size _ rfl (load_t TF.out.res)) rfl ⟨sbk, O12, none, 0, rfl, TF.out.now, ATF.out, Nat.le_refl _, Nat.zero_le _, TF.out.now.low⟩
set_option maxHeartbeats 8000000 in
set_option maxRecDepth 100000 in
theorem rtax_add (h : NowL w0 w O t sb S) (iv : VInv S n g) (p : Tq) {inc ex er : Int} {m : Nat} {h' : Nat → Bk} (H : TArg p) (hi : IncIs p.book p.perm p.moved inc true) (hN : inc < 0) (tl : TLeft S n g p.year m h' ex) (ha : AErr (xpS S p.year) m (btot h' m) (p.year + p.life) p.year (-inc) er) (h0 : er ≠ 0) :
   Calls Tryz.prog 64 #[ptr sb, .int .i64 p.book, .int .i64 p.perm, .int .i64 p.moved, .int .i64 p.cap, .int .i64 p.life, .int .i64 p.year, .int .i64 p.r] w fun e w' => e = .returned (.tuple #[txa 0 0 0 0 0 0 (.slice none 0 0), .pointer none, .int .i64 er]) ∧ Below w.heap.size w w' := by
 obtain ⟨book, perm, moved, cap, life, year, r⟩ := p
 obtain ⟨hm, hj⟩ := inc_mon hi
 clear hj
 obtain ⟨q1, q2, q3, q4⟩ := H
 have HE := Lib.hid tl.exp
 have HI := Lib.hid hi
 dsimp only at *
 unfold Mon at hm
 obtain ⟨hm1, hm2⟩ := hm
 obtain ⟨O2, fn, r1, k1⟩ := two_heads w [.int .i64 0, .int .i64 0, .int .i64 0, .int .i64 0, .int .i64 0, .int .i64 0, .slice none 0 0] [.int .i64 inc, .int .i64 0, .int .i64 0, .int .i64 0, .int .i64 0, .int .i64 0, .slice none 0 0] 71 71
 have lo0 := (Below.refl w.heap.size w).alloc (Nat.le_refl _) (.cells #[.int .i64 0, .int .i64 0, .int .i64 0, .int .i64 0, .int .i64 0, .int .i64 0, .slice none 0 0] 71)
 have lo1 := lo0.alloc lo0.size (.cells #[.int .i64 inc, .int .i64 0, .int .i64 0, .int .i64 0, .int .i64 0, .int .i64 0, .slice none 0 0] 71)
 have CC := Lib.hid (nlcopy (h.below lo1) w fn lo1 1)
 have R1 := Lib.hid r1
 have K1 := Lib.hid k1
 have IV := Lib.hid iv
 have TL := Lib.hid tl
 clear h fn r1 k1 lo0 lo1 iv tl hi
 go_enter Tryz.func64, Tryz.ntmps64
 go_wp2_with (first | (go_at_call 59; (with_reducible refine (rrt_yes _ _ (by omega) (by omega)).mono ?_); rintro e w' ⟨rfl, rfl⟩) | (go_at_call 59; (with_reducible refine (rrt_no _ _ (by omega)).mono ?_); rintro e w' ⟨rfl, rfl⟩) | (go_at_call 106; (with_reducible refine (ryr_yes _ _ (by omega) (by omega)).mono ?_); rintro e w' ⟨rfl, rfl⟩) | (go_at_call 106; (with_reducible refine (ryr_no _ _ (by omega)).mono ?_); rintro e w' ⟨rfl, rfl⟩) | (go_at_call 111; (with_reducible refine (rinc HI.out _).mono ?_); rintro e w' ⟨rfl, rfl⟩))
 refine (CC.out).mono ?_
 rintro e w5 ⟨sbk, O5, rfl, n5, st5⟩
 have T5 := Lib.hid (show TXS w w5 O5 sbk S (txl 0 0 0 0 0 0 (.slice none 0 0)) (txl inc 0 0 0 0 0 (.slice none 0 0)) from ⟨n5, R1.out.step (st5 1) (by decide), K1.out.step (st5 1) (by decide)⟩)
 clear n5 st5 CC R1 K1
 go_wp2_with fail
 refine (nlexp T5.out.now (by decide) IV.out.is _).mono ?_
 rintro e w6 ⟨rfl, O6, n6, st6⟩
 rw [HE.out]
 have t6 := T5.out.step st6 n6
 have c1 := t6.mkg.cell 1 _ rfl
 have f1 := t6.mkg.frz 1
 have T6 := Lib.hid (show TXS w (w6.setCell ⟨w.heap.size + 1, 1, none⟩ (.int .i64 ex)) O6 sbk (xpS S year) (txl 0 0 0 0 0 0 (.slice none 0 0)) (txl inc ex 0 0 0 0 (.slice none 0 0)) from (t6.set 1 (.int .i64 ex) (by simp [txl])).1)
 clear t6 n6 st6 T5
 obtain ⟨w7, hw7⟩ : ∃ w7, w6.setCell ⟨w.heap.size + 1, 1, none⟩ (.int .i64 ex) = w7 := ⟨_, rfl⟩
 rw [hw7] at T6
 have W7 := Lib.hid hw7
 clear hw7
 have i1 : ¬ 0 < inc := by omega
 have c3 := T6.out.mkg.cell 3 _ rfl
 have f3 := T6.out.mkg.frz 3
 have yb : 0 ≤ year + life ∧ year + life ≤ 198 := by omega
 obtain ⟨nw, hnw⟩ : ∃ nw, -inc = nw := ⟨_, rfl⟩
 rw [hnw] at ha
 have x7 := T6.out.set 3 (.int .i64 nw) (by simp [txl])
 have T7 := Lib.hid (show TXS w (w7.setCell ⟨w.heap.size + 1, 3, none⟩ (.int .i64 nw)) O6 sbk (xpS S year) (txl 0 0 0 0 0 0 (.slice none 0 0)) (txl inc ex 0 nw 0 0 (.slice none 0 0)) from x7.1)
 have CA := Lib.hid (nladd x7.1.now (by decide) TL.out.inv.is _ _ _ er ha)
 have e0 : (er == 0) = false := by simpa using h0
 clear x7 ha T6
 rw [← W7.out] at c3 f3 T7 CA
 clear W7
 go_wp2_with fail
 refine (CA.out).mono ?_
 rintro e w12 ⟨rfl, O12, m12, st12⟩
 have T12 := Lib.hid (T7.out.step st12 m12)
 clear CA m12 st12 T7
 have r0 := T12.out.res.cell 0 _ rfl
 have r1 := T12.out.res.cell 1 _ rfl
 have r2 := T12.out.res.cell 2 _ rfl
 have r3 := T12.out.res.cell 3 _ rfl
 have r4 := T12.out.res.cell 4 _ rfl
 have r5 := T12.out.res.cell 5 _ rfl
 have r6 := T12.out.res.cell 6 _ rfl
 have h0 := T12.out.res.frz 0
 have h1 := T12.out.res.frz 1
 have h2 := T12.out.res.frz 2
 have h3 := T12.out.res.frz 3
 have h4 := T12.out.res.frz 4
 have h5 := T12.out.res.frz 5
 have h6 := T12.out.res.frz 6
 have z0 := T12.out.setR 0 (.int .i64 0) (by simp [txl])
 have z1 := z0.1.setR 1 (.int .i64 0) (by simp [txl])
 have z2 := z1.1.setR 2 (.int .i64 0) (by simp [txl])
 have z3 := z2.1.setR 3 (.int .i64 0) (by simp [txl])
 have z4 := z3.1.setR 4 (.int .i64 0) (by simp [txl])
 have z5 := z4.1.setR 5 (.int .i64 0) (by simp [txl])
 have z6 := z5.1.setR 6 (.slice none 0 0) (by simp [txl])
 have TF := Lib.hid (show TXS w _ O12 sbk _ (txl 0 0 0 0 0 0 (.slice none 0 0)) _ from z6.1)
 clear z0 z1 z2 z3 z4 z5 z6 T12
 go_wp2
 exact bodyPost_ret (results_ctt rfl _ _ w.heap.size _ rfl (load_t TF.out.res)) rfl ⟨rfl, TF.out.now.low⟩
theorem rtax_no (h : NowL w0 w O t sb S) (iv : VInv S n g) (p : Tq) {er : Int} (H : TNo S n g p er) :
   Calls Tryz.prog 64 #[ptr sb, .int .i64 p.book, .int .i64 p.perm, .int .i64 p.moved, .int .i64 p.cap, .int .i64 p.life, .int .i64 p.year, .int .i64 p.r] w fun e w' => e = .returned (.tuple #[txa 0 0 0 0 0 0 (.slice none 0 0), .pointer none, .int .i64 er]) ∧ Below w.heap.size w w' := by
 cases H with
 | arg h1 => exact rtax_arg p h1
 | over h1 h2 => exact rtax_over p h1 h2
 | add h1 h2 h3 h4 h5 h6 => exact rtax_add h iv p h1 h2 h3 h4 h5 h6
end
end Go.Proofs.YtmlafdehhbhbiaaGreat
