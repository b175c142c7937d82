/- The tax of a period, and the losses behind it: mathematics alone. -/
import Derived.Test.YtmeljcogoeghaaaUsMath
import Derived.Test.YtmeljcogoeghaaaBrMath
import Derived.Test.YtmeljcogoeghaaaRVint5
import Derived.Test.YtmeljcogoeghaaaRef01
namespace Go.Proofs.Ytmeljcogoeghaaa

/-- what is asked -/
structure Tq where
  book : Int
  perm : Int
  moved : Int
  cap : Int
  life : Int
  year : Int
  r : Int
/-- how a tax comes about -/
structure Tx where
  inc : Int
  exp : Int
  used : Int
  new : Int
  txb : Int
  tax : Int
  q : Nat
  u : Nat → Int
def TArg (p : Tq) : Prop := (0 ≤ p.cap ∧ p.cap ≤ 1000000) ∧ (0 ≤ p.r ∧ p.r ≤ 1000000) ∧ (0 ≤ p.life ∧ p.life ≤ 99) ∧ (0 ≤ p.year ∧ p.year ≤ 99)
/-- the losses when what expired is gone -/
structure TLeft (S : Int → Int → Int) (n : Nat) (g : Nat → Bk) (year : Int) (m : Nat) (h : Nat → Bk) (X : Int) : Prop where
  inv : VInv (xpS S year) m h
  exp : tot (goneU g year) n = X
  sum : btot h m + X = btot g n
section
variable {S S' : Int → Int → Int} {n m : Nat} {g h : Nat → Bk} {year X e : Int} {p : Tq} {x : Tx}
theorem left_any (iv : VInv S n g) (year : Int) : ∃ m h X, TLeft S n g year m h X := by
  obtain ⟨m, f0, f⟩ := flt_any (n := n) (G := lessG g (goneU g year)) (fun j hj => iv.is.1.ok j hj) (fun i j hi hj => iv.is.1.asc i j hi hj) g n (Nat.le_refl _)
  have f1 := iv.less (iv.gone year) f
  rw [less_gone iv.is] at f1
  exact ⟨m, f0, _, f1.1, rfl, by omega⟩
theorem TLeft.pos (t : TLeft S n g year m h X) : ∀ j, j < m → 0 ≤ (h j).a ∧ (h j).a ≤ 100000000000 := fun j hj => by
  have := t.inv.one hj
  have := t.inv.all
  omega
theorem TLeft.low (t : TLeft S n g year m h X) (iv : VInv S n g) : 0 ≤ X ∧ X ≤ btot g n := by
  have h1 := t.inv.low
  have h2 : 0 ≤ tot (goneU g year) n := tot_nonneg n fun j hj => (iv.gone year j hj).1
  have := t.sum
  have := t.exp
  omega
/-- why there is no tax -/
inductive TNo (S : Int → Int → Int) (n : Nat) (g : Nat → Bk) (p : Tq) : Int → Prop
  | arg : ¬ TArg p → TNo S n g p 1
  | over : TArg p → IncIs p.book p.perm p.moved 0 false → TNo S n g p 6
  | add {N m h X e} : TArg p → IncIs p.book p.perm p.moved N true → N < 0 → TLeft S n g p.year m h X → AErr (xpS S p.year) m (btot h m) (p.year + p.life) p.year (-N) e → e ≠ 0 → TNo S n g p e
/-- the losses behind an income: some are used, or one comes -/
def TNext (S : Int → Int → Int) (p : Tq) (x : Tx) (m : Nat) (h : Nat → Bk) (S' : Int → Int → Int) : Prop :=
  (0 < x.inc ∧ x.q = m ∧ x.u = usU h p.year (floorV x.inc p.cap) ∧ x.used = tot x.u m ∧ x.new = 0 ∧ S' = bget (lessG h x.u) m) ∨
  (x.inc = 0 ∧ x.q = 0 ∧ x.used = 0 ∧ x.new = 0 ∧ S' = xpS S p.year) ∨
  (x.inc < 0 ∧ x.q = 0 ∧ x.used = 0 ∧ x.new = -x.inc ∧ AErr (xpS S p.year) m (btot h m) (p.year + p.life) p.year (-x.inc) 0 ∧ S' = upS (xpS S p.year) (p.year + p.life) p.year (xpS S p.year (p.year + p.life) p.year + -x.inc))
/-- the tax -/
structure TOk (S : Int → Int → Int) (n : Nat) (g : Nat → Bk) (p : Tq) (x : Tx) (S' : Int → Int → Int) : Prop where
  arg : TArg p
  inc : IncIs p.book p.perm p.moved x.inc true
  next : ∃ m h, TLeft S n g p.year m h x.exp ∧ TNext S p x m h S'
  txb : x.txb = x.inc - x.used + x.new
  tax : x.tax = rof x.txb p.r
theorem inc_mon {a b c N : Int} (h : IncIs a b c N true) : Mon N ∧ N = a + b - c := by
  rcases h with ⟨_, _, _, h4, _, h5⟩ | ⟨_, h2, _⟩
  · exact ⟨h5 ▸ h4, h5⟩
  · cases h2
theorem tax_any (iv : VInv S n g) (p : Tq) : (∃ e, e ≠ 0 ∧ TNo S n g p e) ∨ ∃ x S', TOk S n g p x S' := by
  by_cases ha : TArg p
  · obtain ⟨N, ok, hi⟩ := inc_any p.book p.perm p.moved
    cases ok with
    | false =>
      obtain rfl : N = 0 := by
        rcases hi with ⟨_, _, _, _, h1, _⟩ | ⟨_, _, h1⟩
        · cases h1
        · exact h1
      exact .inl ⟨6, by decide, .over ha hi⟩
    | true =>
      obtain ⟨m, h, X, tl⟩ := left_any iv p.year
      rcases (show 0 < N ∨ N = 0 ∨ N < 0 by omega) with q | rfl | q
      · exact .inr ⟨⟨N, X, tot (usU h p.year (floorV N p.cap)) m, 0, N - tot (usU h p.year (floorV N p.cap)) m + 0, rof (N - tot (usU h p.year (floorV N p.cap)) m + 0) p.r, m, usU h p.year (floorV N p.cap)⟩, _, ha, hi, ⟨m, h, tl, .inl ⟨q, rfl, rfl, rfl, rfl, rfl⟩⟩, rfl, rfl⟩
      · exact .inr ⟨⟨0, X, 0, 0, 0 - 0 + 0, rof (0 - 0 + 0) p.r, 0, fun _ => 0⟩, _, ha, hi, ⟨m, h, tl, .inr (.inl ⟨rfl, rfl, rfl, rfl, rfl⟩)⟩, rfl, rfl⟩
      · obtain ⟨e, he⟩ := aerr_any (xpS S p.year) m (btot h m) (p.year + p.life) p.year (-N)
        by_cases e0 : e = 0
        · subst e0
          exact .inr ⟨⟨N, X, 0, -N, N - 0 + -N, rof (N - 0 + -N) p.r, 0, fun _ => 0⟩, _, ha, hi, ⟨m, h, tl, .inr (.inr ⟨q, rfl, rfl, rfl, he, rfl⟩)⟩, rfl, rfl⟩
        · exact .inl ⟨e, e0, .add ha hi q tl he e0⟩
  · exact .inl ⟨1, by decide, .arg ha⟩
theorem floorV_in {N cap : Int} (h : 0 < N) (hm : Mon N) (hc : 0 ≤ cap ∧ cap ≤ 1000000) : 0 ≤ floorV N cap ∧ floorV N cap ≤ N ∧ floorV N cap * 1000000 ≤ N * cap := by
  unfold Mon at hm
  have hb : floorB N cap = true := decide_eq_true (by omega)
  have h1 := Int.mul_nonneg (show 0 ≤ N by omega) hc.1
  have h2 := Int.mul_le_mul_of_nonneg_left hc.2 (show 0 ≤ N by omega)
  rw [floorV, hb, if_pos rfl]
  omega
/-- its numbers -/
theorem TOk.bd (t : TOk S n g p x S') (iv : VInv S n g) : Mon x.inc ∧ (0 ≤ x.exp ∧ x.exp ≤ 100000000000) ∧ 0 ≤ x.used ∧ x.used ≤ max x.inc 0 ∧ 0 ≤ x.new ∧ x.new ≤ 100000000000 ∧ x.txb = max x.inc 0 - x.used ∧ (0 < x.inc → x.used * 1000000 ≤ x.inc * p.cap) ∧ (x.inc ≤ 0 → x.new = -x.inc) ∧ (0 < x.inc → x.new = 0) ∧ x.q ≤ 12 := by
  obtain ⟨hm, _⟩ := inc_mon t.inc
  obtain ⟨m, h, tl, nx⟩ := t.next
  have h1 := tl.low iv
  have h2 := iv.all
  have h3 := t.txb
  have h5 := tl.inv.le
  refine ⟨hm, by omega, ?_⟩
  unfold Mon at hm
  rcases nx with ⟨q, q1, hu, h4, hn, _⟩ | ⟨q, q1, h4, hn, _⟩ | ⟨q, q1, h4, hn, _⟩
  · have h6 := us_room (year := p.year) (room := floorV x.inc p.cap) (fun j hj => (tl.pos j hj).1) (Nat.le_refl m)
    have h7 := floorV_in q (by unfold Mon; omega) t.arg.1
    rw [← hu, ← h4] at h6
    refine ⟨h6.1, by omega, by omega, by omega, by omega, fun _ => by omega, by omega, by omega, by omega⟩
  · exact ⟨by omega, by omega, by omega, by omega, by omega, by omega, by omega, by omega, by omega⟩
  · exact ⟨by omega, by omega, by omega, by omega, by omega, by omega, by omega, by omega, by omega⟩
/-- the losses behind it -/
theorem TOk.left (t : TOk S n g p x S') (_iv : VInv S n g) : ∃ n' g', VInv S' n' g' ∧ btot g' n' = btot g n - x.exp - x.used + x.new := by
  obtain ⟨m, h, tl, nx⟩ := t.next
  have h1 := tl.sum
  rcases nx with ⟨q, q1, hu, h4, hn, rfl⟩ | ⟨q, q1, h4, hn, rfl⟩ | ⟨q, q1, h4, hn, he, rfl⟩
  · have hin : ∀ j, j < m → 0 ≤ x.u j ∧ x.u j ≤ (h j).a := fun j hj => by
      rw [hu]
      have := us_in (year := p.year) (room := floorV x.inc p.cap) (fun j hj => (tl.pos j hj).1) hj
      exact ⟨this.1, this.2.1⟩
    obtain ⟨m', f0, f⟩ := flt_any (n := m) (G := lessG h x.u) (fun j hj => tl.inv.is.1.ok j hj) (fun i j hi hj => tl.inv.is.1.asc i j hi hj) h m (Nat.le_refl _)
    have f1 := tl.inv.less hin f
    exact ⟨m', f0, f1.1, by omega⟩
  · exact ⟨m, h, tl.inv, by omega⟩
  · cases he with
    | ok h2 h3 h4 =>
      obtain ⟨m', h', b, _, _⟩ := vis_set tl.inv.is h2.1 (xpS S p.year (p.year + p.life) p.year + -x.inc)
      obtain ⟨k1, k2⟩ := tl.inv.add h2 h3 h4 b
      exact ⟨m', h', k1, by omega⟩
end
end Go.Proofs.Ytmeljcogoeghaaa
