/- A set of texts, 'map[string]bool', that the call itself makes and fills: what it holds, what is looked up. -/
import Derived.Test.YtnnjmhfcalimeaaChart
import Derived.Maps.Own
import Derived.Maps.OwnSet
import Derived.Maps.OwnOps
import Derived.Maps.Views
import Derived.StringKeys
namespace Go.Proofs.Ytnnjmhfcalimeaa
open Go.RowKit

/-- a text as a key -/
def kl (t : ByteArray) : Lit := .string t.data.toList
theorem kl_inj {s t : ByteArray} (h : kl s = kl t) : s = t := by
  unfold kl at h
  injection h with h
  exact Go.WideShapes.bytes_inj h
theorem kl_is (t : ByteArray) : WideAt.IsKeyLit (kl t) := trivial
abbrev yes : DataW Unit := .lit (.bool true)
/-- the set of the first n accounts' names -/
def seenD : Nat → DataW Unit
  | 0 => .map []
  | n + 1 => (seenD n).put (kl (nm (n + 1))) yes
theorem seenD_tidy : ∀ n, Maps.Tidy (seenD n)
  | 0 => Maps.tidy_empty
  | n + 1 => (seenD_tidy n).put (kl_is _) _
theorem seen_yes {n K : Nat} (h1 : 1 ≤ K) (h2 : K ≤ n) (z : DataW Unit) : (seenD n).atKey (kl (nm K)) z = yes := by
  induction n with
  | zero => omega
  | succ n ih =>
    by_cases e : nm K = nm (n + 1)
    · rw [seenD, e]; exact Maps.atKey_put_same (seenD_tidy n).isMap (kl_is _) _ _
    · rw [seenD, Maps.atKey_put_other (fun h => e (kl_inj h))]
      exact ih (by by_cases h : K = n + 1; · subst h; exact absurd rfl e
                   · omega)
theorem seen_has {n : Nat} {t : ByteArray} (h : ∀ j, 1 ≤ j → j ≤ n → nm j ≠ t) : Maps.has (seenD n) (kl t) = false := by
  induction n with
  | zero => rfl
  | succ n ih =>
    rw [seenD, Maps.has_put_other (fun e => h (n + 1) (by omega) (Nat.le_refl _) (kl_inj e).symm)]
    exact ih fun j a b => h j a (by omega)
theorem seen_no {n : Nat} {t : ByteArray} (h : ∀ j, 1 ≤ j → j ≤ n → nm j ≠ t) (z : DataW Unit) : (seenD n).atKey (kl t) z = z := Maps.atKey_of_not_has (seen_has h) z
theorem seen_size : ∀ n, n ≤ 7 → Maps.size (seenD n) = n
  | 0, _ => rfl
  | n + 1, h => by
    rw [seenD, Maps.size_put (seenD_tidy n), seen_has (fun j a b e => by have := nm_inj a (by omega) (by omega) h e; omega), if_neg (by simp), seen_size n (by omega)]
theorem seen_found {t : ByteArray} {n K : Nat} {b : Bool} (f : Found t n K b) : (seenD n).atKey (kl t) (.lit (.bool false)) = .lit (.bool b) := by
  rcases f with ⟨rfl, h1, h2, rfl⟩ | ⟨rfl, _, h⟩
  · exact seen_yes h1 h2 _
  · exact seen_no h _
/-- block M is a set of texts of the call's own, of at most n texts -/
abbrev SetAt (w : World) (M n : Nat) (D : DataW Unit) : Prop := w.ownsMap Try.prog 9 (plainElem Try.prog 4) M n D
theorem SetAt.below {w w' : World} {M n : Nat} {D : DataW Unit} (h : SetAt w M n D) (k : Below w.heap.size w w') : SetAt w' M n D :=
  World.ownsMap.kept (row := none) h ⟨k.os, k.tape, k.output, k.size, fun i hi _ => k.block i hi⟩ (by simp)
theorem kl_key (t : ByteArray) (h : t.size ≤ maxLen) : Go.keyOf Try.prog 9 (.string t) = some (kl t) := Go.WideMaps.keyOf_string_mk Try.underlying9 h
/-- 'm[t]' -/
theorem SetAt.look {w : World} {M n : Nat} {D : DataW Unit} (h : SetAt w M n D) (t : ByteArray) (ht : t.size ≤ maxLen) (b : Bool) (hb : D.atKey (kl t) (.lit (.bool false)) = .lit (.bool b)) :
    (Instr.lookup 22 (.map (some M)) (.string t) false).run Try.prog w = .ok (.bool b) w := by
  obtain ⟨v, ps, hrun, hv⟩ := World.ownsMap.lookup h (Maps.string_keyed Try.underlying9) Try.underlying22 (z := .bool false) (by rfl) (plainElem_bool Try.underlying4 false) (kl_key t ht)
  rw [hb] at hv
  have : v = .bool b := by
    unfold plainElem at hv
    rw [Try.underlying4] at hv
    cases v <;> simp at hv
    rw [hv.1]
  rw [hrun, this]
end Go.Proofs.Ytnnjmhfcalimeaa
