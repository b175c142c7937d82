/- Several texts of mine in one: BrMath TxMath Bridge RInc TxMem RTax. -/
import Derived.Test.YtmlafdehhbhbiaaM2
import Derived.Test.YtmlafdehhbhbiaaM1
import Derived.Test.YtmlafdehhbhbiaaUsMath
import Derived.Test.YtmlafdehhbhbiaaM3
import Derived.Test.YtmlafdehhbhbiaaM6
import Derived.WalkKit
import Derived.WalkSpells
import Derived.WalkLawsBesides
import Derived.Lib.Hide
import Derived.IntWalk
import Derived.Test.YtmlafdehhbhbiaaRUse
import Derived.Laws.ResultCell
import Derived.Deep.LoopGhost
import Derived.BigQuiet
import Derived.Deep.QuietTactic
import Derived.Deep.RegionHeld3
/- Law 12: from the books to the tax: mathematics, and a line's two cells. -/
namespace Go.Proofs.Ytmlafdehhbhbiaa
open Go.RowKit

/-- the income by the tax, or that there is none -/
def IncIs (a b c n : Int) (ok : Bool) : Prop := (Mon a ∧ Mon b ∧ Mon c ∧ Mon (a + b - c) ∧ ok = true ∧ n = a + b - c) ∨ (¬ (Mon a ∧ Mon b ∧ Mon c ∧ Mon (a + b - c)) ∧ ok = false ∧ n = 0)
theorem inc_yes {a b c : Int} (h : Mon a ∧ Mon b ∧ Mon c ∧ Mon (a + b - c)) : IncIs a b c (a + b - c) true := .inl ⟨h.1, h.2.1, h.2.2.1, h.2.2.2, rfl, rfl⟩
theorem inc_no {a b c : Int} (h : ¬ (Mon a ∧ Mon b ∧ Mon c ∧ Mon (a + b - c))) : IncIs a b c 0 false := .inr ⟨h, rfl, rfl⟩
theorem inc_y {a b c n : Int} (h : Mon a ∧ Mon b ∧ Mon c ∧ Mon n) (e : n = a + b - c) : IncIs a b c n true := .inl ⟨h.1, h.2.1, h.2.2.1, e ▸ h.2.2.2, rfl, e⟩
theorem inc_any (a b c : Int) : ∃ n ok, IncIs a b c n ok := by
  by_cases h : Mon a ∧ Mon b ∧ Mon c ∧ Mon (a + b - c)
  · exact ⟨_, _, inc_yes h⟩
  · exact ⟨_, _, inc_no h⟩
/-- a line of the way -/
structure It where
  k : Int
  a : Int
def ie (x : It) : List Value := [.int .i64 x.k, .int .i64 x.a]
theorem ie_len (x : It) : (ie x).length = 2 := rfl
theorem ie_one (x : It) : ∀ u ∈ ie x, u.oneCell' = true := by
  intro u hu
  unfold ie at hu
  simp only [List.mem_cons, List.not_mem_nil, or_false] at hu
  rcases hu with rfl | rfl <;> rfl
/-- the four lines -/
def lns (a b c n : Int) : Nat → It := fun j => if j = 0 then ⟨1, a⟩ else if j = 1 then ⟨2, b⟩ else if j = 2 then ⟨3, -c⟩ else ⟨4, n⟩
theorem AtR.two {w : World} {A : Option Addr} {n : Nat} {g : Nat → It} (r : AtR ie 2 w A n g) {k : Nat} (hk : k < n) : ∃ b off, A = Option.some ⟨b, off, none⟩ ∧ b < w.heap.size ∧ w.cell? ⟨b, off + k * 2, none⟩ = Option.some (.int .i64 (g k).k) ∧ w.cell? ⟨b, off + k * 2 + 1, none⟩ = Option.some (.int .i64 (g k).a) := by
  obtain ⟨b, off, e, hb, hc⟩ := r.some (by omega)
  exact ⟨b, off, e, hb, hc k hk 0 _ rfl, hc k hk 1 _ rfl⟩
end Go.Proofs.Ytmlafdehhbhbiaa

/- The tax of a period, and the losses behind it: mathematics alone. -/
namespace Go.Proofs.Ytmlafdehhbhbiaa

/-- what is asked -/
structure Tq where
  book : Int
  perm : Int
  moved : Int
  cap : Int
  life : Int
  year : Int
  r : Int
/-- how a tax comes about -/
structure Tx where
  inc : Int
  exp : Int
  used : Int
  new : Int
  txb : Int
  tax : Int
  q : Nat
  u : Nat → Int
def TArg (p : Tq) : Prop := (0 ≤ p.cap ∧ p.cap ≤ 1000000) ∧ (0 ≤ p.r ∧ p.r ≤ 1000000) ∧ (0 ≤ p.life ∧ p.life ≤ 99) ∧ (0 ≤ p.year ∧ p.year ≤ 99)
/-- the losses when what expired is gone -/
structure TLeft (S : Int → Int → Int) (n : Nat) (g : Nat → Bk) (year : Int) (m : Nat) (h : Nat → Bk) (X : Int) : Prop where
  inv : VInv (xpS S year) m h
  exp : tot (goneU g year) n = X
  sum : btot h m + X = btot g n
section
variable {S S' : Int → Int → Int} {n m : Nat} {g h : Nat → Bk} {year X e : Int} {p : Tq} {x : Tx}
theorem left_any (iv : VInv S n g) (year : Int) : ∃ m h X, TLeft S n g year m h X := by
  obtain ⟨m, f0, f⟩ := flt_any (n := n) (G := lessG g (goneU g year)) (fun j hj => iv.is.1.ok j hj) (fun i j hi hj => iv.is.1.asc i j hi hj) g n (Nat.le_refl _)
  have f1 := iv.less (iv.gone year) f
  rw [less_gone iv.is] at f1
  exact ⟨m, f0, _, f1.1, rfl, by omega⟩
theorem TLeft.pos (t : TLeft S n g year m h X) : ∀ j, j < m → 0 ≤ (h j).a ∧ (h j).a ≤ 100000000000 := fun j hj => by
  have := t.inv.one hj
  have := t.inv.all
  omega
theorem TLeft.low (t : TLeft S n g year m h X) (iv : VInv S n g) : 0 ≤ X ∧ X ≤ btot g n := by
  have h1 := t.inv.low
  have h2 : 0 ≤ tot (goneU g year) n := tot_nonneg n fun j hj => (iv.gone year j hj).1
  have := t.sum
  have := t.exp
  omega
/-- why there is no tax -/
inductive TNo (S : Int → Int → Int) (n : Nat) (g : Nat → Bk) (p : Tq) : Int → Prop
  | arg : ¬ TArg p → TNo S n g p 1
  | over : TArg p → IncIs p.book p.perm p.moved 0 false → TNo S n g p 6
  | add {N m h X e} : TArg p → IncIs p.book p.perm p.moved N true → N < 0 → TLeft S n g p.year m h X → AErr (xpS S p.year) m (btot h m) (p.year + p.life) p.year (-N) e → e ≠ 0 → TNo S n g p e
/-- the losses behind an income: some are used, or one comes -/
def TNext (S : Int → Int → Int) (p : Tq) (x : Tx) (m : Nat) (h : Nat → Bk) (S' : Int → Int → Int) : Prop :=
  (0 < x.inc ∧ x.q = m ∧ x.u = usU h p.year (floorV x.inc p.cap) ∧ x.used = tot x.u m ∧ x.new = 0 ∧ S' = bget (lessG h x.u) m) ∨
  (x.inc = 0 ∧ x.q = 0 ∧ x.used = 0 ∧ x.new = 0 ∧ S' = xpS S p.year) ∨
  (x.inc < 0 ∧ x.q = 0 ∧ x.used = 0 ∧ x.new = -x.inc ∧ AErr (xpS S p.year) m (btot h m) (p.year + p.life) p.year (-x.inc) 0 ∧ S' = upS (xpS S p.year) (p.year + p.life) p.year (xpS S p.year (p.year + p.life) p.year + -x.inc))
/-- the tax -/
structure TOk (S : Int → Int → Int) (n : Nat) (g : Nat → Bk) (p : Tq) (x : Tx) (S' : Int → Int → Int) : Prop where
  arg : TArg p
  inc : IncIs p.book p.perm p.moved x.inc true
  next : ∃ m h, TLeft S n g p.year m h x.exp ∧ TNext S p x m h S'
  txb : x.txb = x.inc - x.used + x.new
  tax : x.tax = rof x.txb p.r
theorem inc_mon {a b c N : Int} (h : IncIs a b c N true) : Mon N ∧ N = a + b - c := by
  rcases h with ⟨_, _, _, h4, _, h5⟩ | ⟨_, h2, _⟩
  · exact ⟨h5 ▸ h4, h5⟩
  · cases h2
theorem tax_any (iv : VInv S n g) (p : Tq) : (∃ e, e ≠ 0 ∧ TNo S n g p e) ∨ ∃ x S', TOk S n g p x S' := by
  by_cases ha : TArg p
  · obtain ⟨N, ok, hi⟩ := inc_any p.book p.perm p.moved
    cases ok with
    | false =>
      obtain rfl : N = 0 := by
        rcases hi with ⟨_, _, _, _, h1, _⟩ | ⟨_, _, h1⟩
        · cases h1
        · exact h1
      exact .inl ⟨6, by decide, .over ha hi⟩
    | true =>
      obtain ⟨m, h, X, tl⟩ := left_any iv p.year
      rcases (show 0 < N ∨ N = 0 ∨ N < 0 by omega) with q | rfl | q
      · exact .inr ⟨⟨N, X, tot (usU h p.year (floorV N p.cap)) m, 0, N - tot (usU h p.year (floorV N p.cap)) m + 0, rof (N - tot (usU h p.year (floorV N p.cap)) m + 0) p.r, m, usU h p.year (floorV N p.cap)⟩, _, ha, hi, ⟨m, h, tl, .inl ⟨q, rfl, rfl, rfl, rfl, rfl⟩⟩, rfl, rfl⟩
      · exact .inr ⟨⟨0, X, 0, 0, 0 - 0 + 0, rof (0 - 0 + 0) p.r, 0, fun _ => 0⟩, _, ha, hi, ⟨m, h, tl, .inr (.inl ⟨rfl, rfl, rfl, rfl, rfl⟩)⟩, rfl, rfl⟩
      · obtain ⟨e, he⟩ := aerr_any (xpS S p.year) m (btot h m) (p.year + p.life) p.year (-N)
        by_cases e0 : e = 0
        · subst e0
          exact .inr ⟨⟨N, X, 0, -N, N - 0 + -N, rof (N - 0 + -N) p.r, 0, fun _ => 0⟩, _, ha, hi, ⟨m, h, tl, .inr (.inr ⟨q, rfl, rfl, rfl, he, rfl⟩)⟩, rfl, rfl⟩
        · exact .inl ⟨e, e0, .add ha hi q tl he e0⟩
  · exact .inl ⟨1, by decide, .arg ha⟩
theorem floorV_in {N cap : Int} (h : 0 < N) (hm : Mon N) (hc : 0 ≤ cap ∧ cap ≤ 1000000) : 0 ≤ floorV N cap ∧ floorV N cap ≤ N ∧ floorV N cap * 1000000 ≤ N * cap := by
  unfold Mon at hm
  have hb : floorB N cap = true := decide_eq_true (by omega)
  have h1 := Int.mul_nonneg (show 0 ≤ N by omega) hc.1
  have h2 := Int.mul_le_mul_of_nonneg_left hc.2 (show 0 ≤ N by omega)
  rw [floorV, hb, if_pos rfl]
  omega
/-- its numbers -/
theorem TOk.bd (t : TOk S n g p x S') (iv : VInv S n g) : Mon x.inc ∧ (0 ≤ x.exp ∧ x.exp ≤ 100000000000) ∧ 0 ≤ x.used ∧ x.used ≤ max x.inc 0 ∧ 0 ≤ x.new ∧ x.new ≤ 100000000000 ∧ x.txb = max x.inc 0 - x.used ∧ (0 < x.inc → x.used * 1000000 ≤ x.inc * p.cap) ∧ (x.inc ≤ 0 → x.new = -x.inc) ∧ (0 < x.inc → x.new = 0) ∧ x.q ≤ 12 := by
  obtain ⟨hm, _⟩ := inc_mon t.inc
  obtain ⟨m, h, tl, nx⟩ := t.next
  have h1 := tl.low iv
  have h2 := iv.all
  have h3 := t.txb
  have h5 := tl.inv.le
  refine ⟨hm, by omega, ?_⟩
  unfold Mon at hm
  rcases nx with ⟨q, q1, hu, h4, hn, _⟩ | ⟨q, q1, h4, hn, _⟩ | ⟨q, q1, h4, hn, _⟩
  · have h6 := us_room (year := p.year) (room := floorV x.inc p.cap) (fun j hj => (tl.pos j hj).1) (Nat.le_refl m)
    have h7 := floorV_in q (by unfold Mon; omega) t.arg.1
    rw [← hu, ← h4] at h6
    refine ⟨h6.1, by omega, by omega, by omega, by omega, fun _ => by omega, by omega, by omega, by omega⟩
  · exact ⟨by omega, by omega, by omega, by omega, by omega, by omega, by omega, by omega, by omega⟩
  · exact ⟨by omega, by omega, by omega, by omega, by omega, by omega, by omega, by omega, by omega⟩
/-- the losses behind it -/
theorem TOk.left (t : TOk S n g p x S') (_iv : VInv S n g) : ∃ n' g', VInv S' n' g' ∧ btot g' n' = btot g n - x.exp - x.used + x.new := by
  obtain ⟨m, h, tl, nx⟩ := t.next
  have h1 := tl.sum
  rcases nx with ⟨q, q1, hu, h4, hn, rfl⟩ | ⟨q, q1, h4, hn, rfl⟩ | ⟨q, q1, h4, hn, he, rfl⟩
  · have hin : ∀ j, j < m → 0 ≤ x.u j ∧ x.u j ≤ (h j).a := fun j hj => by
      rw [hu]
      have := us_in (year := p.year) (room := floorV x.inc p.cap) (fun j hj => (tl.pos j hj).1) hj
      exact ⟨this.1, this.2.1⟩
    obtain ⟨m', f0, f⟩ := flt_any (n := m) (G := lessG h x.u) (fun j hj => tl.inv.is.1.ok j hj) (fun i j hi hj => tl.inv.is.1.asc i j hi hj) h m (Nat.le_refl _)
    have f1 := tl.inv.less hin f
    exact ⟨m', f0, f1.1, by omega⟩
  · exact ⟨m, h, tl.inv, by omega⟩
  · cases he with
    | ok h2 h3 h4 =>
      obtain ⟨m', h', b, _, _⟩ := vis_set tl.inv.is h2.1 (xpS S p.year (p.year + p.life) p.year + -x.inc)
      obtain ⟨k1, k2⟩ := tl.inv.add h2 h3 h4 b
      exact ⟨m', h', k1, by omega⟩
end
end Go.Proofs.Ytmlafdehhbhbiaa

/- Package bridge: a contract for each of its functions. -/
namespace Go.Proofs.Ytmlafdehhbhbiaa
open Go.RowKit

theorem inc_sum {a b c n : Int} {ok : Bool} (h : IncIs a b c n ok) (hc : -9223372036854775808 ≤ c ∧ c ≤ 9223372036854775807) : SumIs (fun j => [a, b, wrap64 (-c)].getD j 0) 3 n ok := by
  have hw : wrap64 (-c) = if c = -9223372036854775808 then c else -c := by unfold wrap64; split <;> omega
  have e : tot (fun j => [a, b, wrap64 (-c)].getD j 0) 3 = a + b + wrap64 (-c) := by simp [tot]
  rcases h with ⟨h1, h2, h3, h4, rfl, rfl⟩ | ⟨h1, rfl, rfl⟩
  · unfold Mon at h1 h2 h3 h4
    rw [if_neg (by omega)] at hw
    refine .inl ⟨rfl, ?_, ?_, ?_⟩
    · rw [e, hw]; omega
    · rw [e, hw]; unfold Mon; omega
    · intro j hj
      rcases (show j = 0 ∨ j = 1 ∨ j = 2 by omega) with rfl | rfl | rfl
      · exact h1
      · exact h2
      · show Mon (wrap64 (-c)); rw [hw]; unfold Mon; omega
  · refine .inr ⟨rfl, rfl, ?_⟩
    by_cases ha : Mon a
    · by_cases hb : Mon b
      · by_cases hcm : Mon c
        · refine .inr ?_
          rw [e, hw, if_neg (by unfold Mon at hcm; omega)]
          intro q
          exact h1 ⟨ha, hb, hcm, by rwa [Int.sub_eq_add_neg]⟩
        · refine .inl ⟨2, by omega, ?_⟩
          show ¬ Mon (wrap64 (-c))
          rw [hw]; unfold Mon at hcm ⊢; split <;> omega
      · exact .inl ⟨1, by omega, hb⟩
    · exact .inl ⟨0, by omega, ha⟩
theorem pinc {a b c n : Int} {ok : Bool} (h : IncIs a b c n ok) (hc : -9223372036854775808 ≤ c ∧ c ≤ 9223372036854775807) (w : World) :
    Calls Try.prog 37 #[.int .i64 a, .int .i64 b, .int .i64 c] w fun e w' => e = .returned (.tuple #[.int .i64 n, .bool ok]) ∧ Below w.heap.size w w' := by
  have HS := Lib.hid (inc_sum h hc)
  clear h hc
  obtain ⟨u, hu⟩ : ∃ u, wrap64 (-c) = u := ⟨_, rfl⟩
  rw [hu] at HS
  have L := Lib.hid (lit_row w [a, b, u] 3)
  have C1 := Lib.hid (fun w1 : World => fun (q : Row w1 w.heap.size 3 (fun j => [a, b, u].getD j 0)) => sum_some w.heap.size 0 3 3 _ n ok w1 q.1 q.hid (by omega) (by omega) HS)
  go_enter Try.func37, Try.ntmps37
  go_wp2_with fail
  refine (C1.out _ L.out).mono ?_
  rintro e w1 ⟨rfl, hb1⟩
  have K1 := Lib.hid (((Below.refl _ _).alloc (Nat.le_refl _) _).trans (hb1.mono (by simp)))
  clear hb1
  go_wp2
  go_ret2
  exact ⟨rfl, K1.out⟩
end Go.Proofs.Ytmlafdehhbhbiaa

/- The document's own income by the tax: a contract. -/
namespace Go.Proofs.Ytmlafdehhbhbiaa
open Go.RowKit

end Go.Proofs.Ytmlafdehhbhbiaa

/- A tax in the making: the losses' copy, the result's cells, rows that nobody writes: what lies in memory; small contracts of the document's. -/
namespace Go.Proofs.Ytmlafdehhbhbiaa
open Go.RowKit

/-- whole numbers that can be read, in a block without a mark, from block b0 on -/
def AtO (b0 : Nat) (O : Nat → Nat) (w : World) (U : Option Addr) (q : Nat) (u : Nat → Int) : Prop := At w U q u ∧ ∀ b off, U = some ⟨b, off, none⟩ → b0 ≤ b ∧ b < w.heap.size ∧ O b = 0
section
variable {w0 w w1 : World} {O O1 : Nat → Nat} {b0 base t t' sb n q : Nat} {U : Option Addr} {u : Nat → Int} {g : Nat → Bk} {S : Int → Int → Int} {xs : List Value}
theorem AtO.step (h : AtO b0 O w U q u) (k : Step base O t w O1 w1) (ht : t ≠ 0) : AtO b0 O1 w1 U q u := by
  refine ⟨?_, fun b off e => ?_⟩
  · rcases h.1 with h0 | ⟨b, off, e, hb, hc⟩
    · exact .inl h0
    · refine .inr ⟨b, off, e, Nat.lt_of_lt_of_le hb k.kept.size, fun j hj => ?_⟩
      rw [← hc j hj]
      refine World.cell?_of_block (a := ⟨b, off + j, none⟩) (k.kept.block b hb ?_)
      rw [(h.2 b off e).2.2]; exact fun e => ht e.symm
  · obtain ⟨h0, h1, h2⟩ := h.2 b off e
    exact ⟨h0, Nat.lt_of_lt_of_le h1 k.kept.size, by rw [k.ext b h1]; exact h2⟩
theorem AtO.of {E : TypeId} {c : Nat} (hb : b0 ≤ w.heap.size) (fn : Fin0 base O w) (o : Own w1 E w.heap.size (.slice U q c) q u) : AtO b0 O w1 U q u := by
  obtain ⟨A', c', e, _, _, ha⟩ := o.at
  injection e with e1 _ _
  subst e1
  refine ⟨ha, fun b off e => ?_⟩
  obtain ⟨z1, z2⟩ := World.ownsRow.lt o b (by rw [e]; rfl)
  exact ⟨Nat.le_trans hb z1, z2, fn.2 b z1⟩
theorem AtO.none (O : Nat → Nat) (w : World) (u : Nat → Int) : AtO b0 O w .none 0 u := ⟨.inl rfl, fun _ _ e => by cases e⟩
theorem Head.far (h : Head w O t sb xs) {b : Nat} (o : Nat) (x : Value) (hne : sb ≠ b) : Head (w.setCell ⟨b, o, .none⟩ x) O t sb xs :=
  h.block (Below.heap_setCell _ _ _ _ hne) (by simp) rfl
theorem fz_keep {b j : Nat} (h : w.frozen? ⟨b, j, .none⟩ = false) (hb : b < w.heap.size) (k : Below w.heap.size w w1) : w1.frozen? ⟨b, j, .none⟩ = false := (k.frozen hb).trans h
/-- the losses' copy bears mark 1; the result and what it is made from (two blocks of w's end) bear mark 2 -/
structure TXS (w wr : World) (O : Nat → Nat) (sb : Nat) (S : Int → Int → Int) (xs ys : List Value) : Prop where
  now : NowL w wr O 1 sb S
  res : Head wr O 2 w.heap.size xs
  mkg : Head wr O 2 (w.heap.size + 1) ys
variable {wr : World} {ys : List Value} {S1 : Int → Int → Int}
theorem TXS.below (h : TXS w wr O sb S xs ys) (k : Below wr.heap.size wr w1) : TXS w w1 O sb S xs ys := ⟨h.now.below k, h.res.below k, h.mkg.below k⟩
theorem TXS.step (h : TXS w wr O sb S xs ys) (k : Step w.heap.size O 1 wr O1 w1) (n1 : NowL w w1 O1 1 sb S1) : TXS w w1 O1 sb S1 xs ys := ⟨n1, h.res.step k (by decide), h.mkg.step k (by decide)⟩
theorem TXS.set (h : TXS w wr O sb S xs ys) (j : Nat) (x : Value) (hj : j < ys.length) : TXS w (wr.setCell ⟨w.heap.size + 1, j, .none⟩ x) O sb S xs (ys.set j x) ∧ Step w.heap.size O 2 wr O (wr.setCell ⟨w.heap.size + 1, j, .none⟩ x) := by
  have st := Step.set (t := 2) h.now.fin j x h.mkg.tag
  exact ⟨⟨h.now.step st (by decide) (by decide), h.res.far _ _ (by omega), h.mkg.set j x hj⟩, st⟩
theorem TXS.setR (h : TXS w wr O sb S xs ys) (j : Nat) (x : Value) (hj : j < xs.length) : TXS w (wr.setCell ⟨w.heap.size, j, .none⟩ x) O sb S (xs.set j x) ys ∧ Step w.heap.size O 2 wr O (wr.setCell ⟨w.heap.size, j, .none⟩ x) := by
  have st := Step.set (t := 2) h.now.fin j x h.res.tag
  exact ⟨⟨h.now.step st (by decide) (by decide), h.res.set j x hj, h.mkg.far _ _ (by omega)⟩, st⟩
theorem two_heads (w : World) (xs ys : List Value) (T T' : TypeId) : ∃ O, Fin0 w.heap.size O ((w.alloc (.cells xs.toArray T)).alloc (.cells ys.toArray T')) ∧ Head ((w.alloc (.cells xs.toArray T)).alloc (.cells ys.toArray T')) O 2 w.heap.size xs ∧ Head ((w.alloc (.cells xs.toArray T)).alloc (.cells ys.toArray T')) O 2 (w.heap.size + 1) ys := by
  have s1 := Step.made (t := 2) (Fin0.zero w.heap.size w) (Nat.le_refl _) (.cells xs.toArray T) 3
  have h1 := Head.new w (fun _ => 0) 2 xs.toArray T
  obtain ⟨w1, hw1⟩ : ∃ w1, w.alloc (.cells xs.toArray T) = w1 := ⟨_, rfl⟩
  have z1 : w1.heap.size = w.heap.size + 1 := by rw [← hw1]; simp
  obtain ⟨O1, hO⟩ : ∃ O1, mark (fun _ => 0) 2 w.heap.size = O1 := ⟨_, rfl⟩
  rw [hw1, hO] at s1 h1
  rw [hw1]
  have s2 := Step.made (t := 2) s1.fin (by omega) (.cells ys.toArray T') 3
  have h2 := Head.new w1 O1 2 ys.toArray T'
  rw [z1] at s2 h2
  exact ⟨_, s2.fin, h1.step s2 (by decide), h2⟩
end
/-- a tax's seven cells as one value -/
def txa (i e u n t x : Int) (v : Value) : Value := .agg #[.int .i64 i, .int .i64 e, .int .i64 u, .int .i64 n, .int .i64 t, .int .i64 x, v]
def txl (i e u n t x : Int) (v : Value) : List Value := [.int .i64 i, .int .i64 e, .int .i64 u, .int .i64 n, .int .i64 t, .int .i64 x, v]
theorem results_ctt {fn : Func} {p u v : Tmp} {T : TypeId} (h : fn.results = #[.cell p T, .tmp u, .tmp v]) (tmps : Array Value) (w : World) (b : Nat) (x : Value) (hp : tmps.getD p undef = .pointer (some ⟨b, 0, none⟩)) (hl : (loadVar T ⟨b, 0, none⟩).run Try.prog w = .ok x w) :
    (results fn tmps).run Try.prog w = .ok (.tuple #[x, tmps.getD u undef, tmps.getD v undef]) w := by
  have hp' : tmps[p]?.getD undef = .pointer (some ⟨b, 0, none⟩) := by simpa using hp
  simp [results, h, hp', asAddr, hl, Result.andThen]
end Go.Proofs.Ytmlafdehhbhbiaa

/- The document's own tax of a period: a contract. -/
namespace Go.Proofs.Ytmlafdehhbhbiaa
open Go.RowKit
section
variable {w0 w : World} {O : Nat → Nat} {t sb n : Nat} {S S' : Int → Int → Int} {g : Nat → Bk}
end
end Go.Proofs.Ytmlafdehhbhbiaa
