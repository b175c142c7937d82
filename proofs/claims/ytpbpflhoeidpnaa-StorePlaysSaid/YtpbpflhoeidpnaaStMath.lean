/- Plain mathematics of a store of journals: a journal, balances, what is refused and why. No function of the program is named here. -/
import Derived.Test.YtpbpflhoeidpnaaJMath
namespace Go.Proofs.Ytpbpflhoeidpnaa

/-- a journal -/
structure Jn where
  seq : Int
  ent : ByteArray
  per : Int
  kind : Int
  of : Int
  n : Nat
  ga : Nat → Int
  gm : Nat → Int
/-- what a journal has on an account of an entity, if it is of a period that counts -/
def jb (x : Jn) (ent : ByteArray) (a u : Int) : Int := if x.ent = ent ∧ x.per ≤ u then sm a x.ga x.gm x.n else 0
/-- the balance -/
def bal (js : Nat → Jn) (n : Nat) (ent : ByteArray) (a u : Int) : Int := tot (fun j => jb (js j) ent a u) n
theorem bal_ext {js ks : Nat → Jn} {n : Nat} (h : ∀ j, j < n → js j = ks j) (ent : ByteArray) (a u : Int) : bal js n ent a u = bal ks n ent a u := tot_ext n fun j hj => by rw [h j hj]
theorem bal_yes {js : Nat → Jn} {n : Nat} {ent : ByteArray} {a u : Int} (h : (js n).ent = ent ∧ (js n).per ≤ u) : bal js (n + 1) ent a u = bal js n ent a u + sm a (js n).ga (js n).gm (js n).n := by
  unfold bal; rw [tot]; unfold jb; rw [if_pos h]
theorem bal_no {js : Nat → Jn} {n : Nat} {ent : ByteArray} {a u : Int} (h : ¬ ((js n).ent = ent ∧ (js n).per ≤ u)) : bal js (n + 1) ent a u = bal js n ent a u := by
  unfold bal; rw [tot]; unfold jb; rw [if_neg h, Int.add_zero]
/-- one journal more -/
def pushJ (js : Nat → Jn) (n : Nat) (x : Jn) : Nat → Jn := fun j => if j = n then x else js j
theorem pushJ_at (js : Nat → Jn) (n : Nat) (x : Jn) : pushJ js n x n = x := if_pos rfl
theorem pushJ_ne (js : Nat → Jn) {n j : Nat} (x : Jn) (h : j ≠ n) : pushJ js n x j = js j := if_neg h
theorem bal_push (js : Nat → Jn) (n : Nat) (x : Jn) (ent : ByteArray) (a u : Int) : bal (pushJ js n x) (n + 1) ent a u = bal js n ent a u + jb x ent a u := by
  show bal (pushJ js n x) n ent a u + jb (pushJ js n x n) ent a u = _
  rw [pushJ_at, bal_ext fun j hj => pushJ_ne js x (by omega)]
/-- a journal as it is kept -/
def JGood (x : Jn) : Prop := Good x.n x.ga x.gm ∧ (x.kind = 1 ∨ x.kind = 2) ∧ 0 ≤ x.per ∧ x.per ≤ 399
def Inv (n : Nat) (js : Nat → Jn) : Prop := n ≤ 200 ∧ (∀ j, j < n → JGood (js j)) ∧ ∀ ent a, Mon (bal js n ent a 399)
theorem Inv.nil (js : Nat → Jn) : Inv 0 js := ⟨by omega, fun j hj => by omega, fun ent a => by unfold Mon bal; rw [tot]; omega⟩
theorem good_sm0 {n : Nat} {ga gm : Nat → Int} {a : Int} (h : ∀ j, j < n → ga j ≠ a) : sm a ga gm n = 0 := tot_zero n fun j hj => if_neg (h j hj)
theorem up_lt {n : Nat} {ga : Nat → Int} (h : ∀ j, j + 1 < n → ga j < ga (j + 1)) : ∀ j i, i < j → j < n → ga i < ga j
  | 0, i, hi, _ => by omega
  | j + 1, i, hi, hj => by
    have a := h j hj
    by_cases e : i = j
    · rw [e]; exact a
    · have b := up_lt h j i (by omega) (by omega)
      omega
theorem good_sm {n : Nat} {ga gm : Nat → Int} (h : ∀ j, j + 1 < n → ga j < ga (j + 1)) {i : Nat} (hi : i < n) : sm (ga i) ga gm n = gm i := by
  induction n with
  | zero => omega
  | succ n ih =>
    by_cases e : i = n
    · subst e
      rw [sm_yes rfl, good_sm0 fun j hj => by have := up_lt h i j hj (by omega); omega]; omega
    · rw [sm_no (by have := up_lt h n i (by omega) (by omega); omega)]
      exact ih (fun j hj => h j (by omega)) (by omega)
theorem Good.sm_mon {n : Nat} {ga gm : Nat → Int} (h : Good n ga gm) (a : Int) : Mon (sm a ga gm n) := by
  by_cases q : ∃ i, i < n ∧ ga i = a
  · obtain ⟨i, hi, rfl⟩ := q
    rw [good_sm h.2.2.1 hi]; exact (h.2.1 i hi).2.2.2
  · rw [good_sm0 fun j hj e => q ⟨j, hj, e⟩]; unfold Mon; omega
theorem jb_mon {x : Jn} (h : JGood x) (ent : ByteArray) (a u : Int) : Mon (jb x ent a u) := by
  unfold jb
  split
  · exact h.1.sm_mon a
  · unfold Mon; omega
/-- on the way a balance fits -/
theorem bal_bd {n : Nat} {js : Nat → Jn} (h : ∀ j, j < n → JGood (js j)) (ent : ByteArray) (a u : Int) : ∀ k, k ≤ n → -(100000000000 * (k : Int)) ≤ bal js k ent a u ∧ bal js k ent a u ≤ 100000000000 * k := fun k hk =>
  tot_abs (by omega) k fun j hj => by have := jb_mon (h j (by omega)) ent a u; unfold Mon at this; exact this

/-- what is told of kind and place can be -/
def PArg (ent : ByteArray) (p kind of : Int) : Prop := ent ≠ ⟨#[]⟩ ∧ 0 ≤ p ∧ p ≤ 399 ∧ (kind = 2 ∨ (kind = 1 ∧ of = 0))
/-- journal k is one that can be reversed there -/
def PIs (js : Nat → Jn) (n : Nat) (ent : ByteArray) (p : Int) (k : Nat) : Prop := k < n ∧ (js k).ent = ent ∧ (js k).per = p ∧ (js k).kind ≠ 2
def PThere (js : Nat → Jn) (n : Nat) (of : Int) : Prop := ∃ j, j < n ∧ (js j).of = of
/-- these lines are that journal's, turned -/
def PUndo (x : Jn) (m : Nat) (ga gm : Nat → Int) : Prop := m = x.n ∧ ∀ i, i < m → ga i = x.ga i ∧ gm i = -x.gm i
def POver (js : Nat → Jn) (n : Nat) (ent : ByteArray) (m : Nat) (ga gm : Nat → Int) : Prop := ∃ i, i < m ∧ ¬ Mon (bal js n ent (ga i) 399 + gm i)
inductive PErr (js : Nat → Jn) (n : Nat) (ent : ByteArray) (p kind of : Int) (m : Nat) (ga gm : Nat → Int) : Int → Prop
  | arg : ¬ PArg ent p kind of → PErr js n ent p kind of m ga gm 1
  | none : PArg ent p kind of → kind = 2 → (¬ ∃ k : Nat, of = (k : Int) + 1 ∧ PIs js n ent p k) → PErr js n ent p kind of m ga gm 3
  | there (k : Nat) : PArg ent p kind of → kind = 2 → of = (k : Int) + 1 → PIs js n ent p k → PThere js n of → PErr js n ent p kind of m ga gm 4
  | form1 : PArg ent p kind of → kind = 1 → ¬ Good m ga gm → PErr js n ent p kind of m ga gm 2
  | form2 (k : Nat) : PArg ent p kind of → kind = 2 → of = (k : Int) + 1 → PIs js n ent p k → ¬ PThere js n of → ¬ (Good m ga gm ∧ PUndo (js k) m ga gm) → PErr js n ent p kind of m ga gm 2
  | limit1 : PArg ent p kind of → kind = 1 → Good m ga gm → n = 200 → PErr js n ent p kind of m ga gm 5
  | limit2 (k : Nat) : PArg ent p kind of → kind = 2 → of = (k : Int) + 1 → PIs js n ent p k → ¬ PThere js n of → Good m ga gm → PUndo (js k) m ga gm → n = 200 → PErr js n ent p kind of m ga gm 5
  | over1 : PArg ent p kind of → kind = 1 → Good m ga gm → n < 200 → POver js n ent m ga gm → PErr js n ent p kind of m ga gm 6
  | over2 (k : Nat) : PArg ent p kind of → kind = 2 → of = (k : Int) + 1 → PIs js n ent p k → ¬ PThere js n of → Good m ga gm → PUndo (js k) m ga gm → n < 200 → POver js n ent m ga gm → PErr js n ent p kind of m ga gm 6
  | ok1 : PArg ent p kind of → kind = 1 → Good m ga gm → n < 200 → ¬ POver js n ent m ga gm → PErr js n ent p kind of m ga gm 0
  | ok2 (k : Nat) : PArg ent p kind of → kind = 2 → of = (k : Int) + 1 → PIs js n ent p k → ¬ PThere js n of → Good m ga gm → PUndo (js k) m ga gm → n < 200 → ¬ POver js n ent m ga gm → PErr js n ent p kind of m ga gm 0
/-- why a journal is refused: in the document's order; 0: it is not -/
theorem perr_any {js : Nat → Jn} {n : Nat} (hn : n ≤ 200) (ent : ByteArray) (p kind of : Int) (m : Nat) (ga gm : Nat → Int) : ∃ e, PErr js n ent p kind of m ga gm e := by
  by_cases h1 : PArg ent p kind of
  · rcases h1.2.2.2 with h2 | h2
    · by_cases h3 : ∃ k : Nat, of = (k : Int) + 1 ∧ PIs js n ent p k
      · obtain ⟨k, hk, hi⟩ := h3
        by_cases h4 : PThere js n of
        · exact ⟨_, .there k h1 h2 hk hi h4⟩
        by_cases h5 : Good m ga gm ∧ PUndo (js k) m ga gm
        · by_cases h6 : n = 200
          · exact ⟨_, .limit2 k h1 h2 hk hi h4 h5.1 h5.2 h6⟩
          by_cases h7 : POver js n ent m ga gm
          · exact ⟨_, .over2 k h1 h2 hk hi h4 h5.1 h5.2 (by omega) h7⟩
          · exact ⟨_, .ok2 k h1 h2 hk hi h4 h5.1 h5.2 (by omega) h7⟩
        · exact ⟨_, .form2 k h1 h2 hk hi h4 h5⟩
      · exact ⟨_, .none h1 h2 h3⟩
    · by_cases h5 : Good m ga gm
      · by_cases h6 : n = 200
        · exact ⟨_, .limit1 h1 h2.1 h5 h6⟩
        by_cases h7 : POver js n ent m ga gm
        · exact ⟨_, .over1 h1 h2.1 h5 (by omega) h7⟩
        · exact ⟨_, .ok1 h1 h2.1 h5 (by omega) h7⟩
      · exact ⟨_, .form1 h1 h2.1 h5⟩
  · exact ⟨_, .arg h1⟩
theorem PErr.good {js : Nat → Jn} {n : Nat} {ent : ByteArray} {p kind of : Int} {m : Nat} {ga gm : Nat → Int} (h : PErr js n ent p kind of m ga gm 0) : PArg ent p kind of ∧ Good m ga gm ∧ n < 200 ∧ ¬ POver js n ent m ga gm := by
  cases h with
  | ok1 a b c d e => exact ⟨a, c, d, e⟩
  | ok2 k a b c d e f g h i => exact ⟨a, f, h, i⟩
/-- a store with one journal more -/
theorem Inv.push {js : Nat → Jn} {n : Nat} (hi : Inv n js) {ent : ByteArray} {p kind of s : Int} {m : Nat} {ga gm : Nat → Int} (h : PErr js n ent p kind of m ga gm 0) : Inv (n + 1) (pushJ js n ⟨s, ent, p, kind, of, m, ga, gm⟩) := by
  obtain ⟨a, g, l, o⟩ := h.good
  refine ⟨by omega, fun j hj => ?_, fun e c => ?_⟩
  · by_cases q : j = n
    · rw [q, pushJ_at]; exact ⟨g, by have := a.2.2.2; show kind = 1 ∨ kind = 2; omega, a.2.1, a.2.2.1⟩
    · rw [pushJ_ne js _ q]; exact hi.2.1 j (by omega)
  · rw [bal_push]
    unfold jb
    split
    · rename_i q
      obtain ⟨rfl, _⟩ := q
      by_cases z : ∃ i, i < m ∧ ga i = c
      · obtain ⟨i, h1, rfl⟩ := z
        show Mon (_ + sm (ga i) ga gm m)
        rw [good_sm g.2.2.1 h1]
        exact Classical.byContradiction fun k => o ⟨i, h1, k⟩
      · show Mon (_ + sm c ga gm m)
        rw [good_sm0 fun j hj e => z ⟨j, hj, e⟩, Int.add_zero]; exact hi.2.2 ent c
    · rw [Int.add_zero]; exact hi.2.2 e c
/-- the lines of a journal and their turn -/
theorem PUndo.good {x : Jn} {m : Nat} {ga gm : Nat → Int} (h : JGood x) (u : PUndo x m ga gm) : Good m ga gm := by
  obtain ⟨rfl, e⟩ := u
  exact good_ext (good_neg h.1) fun j hj => ⟨((e j hj).1).symm, ((e j hj).2).symm⟩
end Go.Proofs.Ytpbpflhoeidpnaa
