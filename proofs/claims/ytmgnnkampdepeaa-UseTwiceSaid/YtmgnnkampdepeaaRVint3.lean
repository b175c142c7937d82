/- The document's own losses: Expire: a contract. -/
import Derived.Test.YtmgnnkampdepeaaRVint
import Derived.WalkKit
import Derived.WalkSpells
import Derived.WalkLawsBesides
import Derived.Lib.Hide
import Derived.IntWalk
import Derived.Deep.LoopGhost
namespace Go.Proofs.Ytmgnnkampdepeaa
open Go.RowKit

theorem tot_upto {g : Nat → Int} {n k : Nat} (h : ∀ j, j < n → 0 ≤ g j) (hk : k ≤ n) : 0 ≤ tot g k ∧ tot g k ≤ tot g n := by
  refine ⟨tot_nonneg k fun j hj => h j (by omega), ?_⟩
  obtain ⟨d, rfl⟩ : ∃ d, n = k + d := ⟨n - k, by omega⟩
  clear hk
  induction d with
  | zero => exact Int.le_refl _
  | succ d ih =>
    have a := ih fun j hj => h j (by omega)
    have b := h (k + d) (by omega)
    show tot g k ≤ tot g (k + d) + g (k + d)
    omega
section
variable {w w1 : World} {O O1 : Nat → Nat} {base t t' sb n : Nat} {v : Value} {g : Nat → Bk} {S : Int → Int → Int}
/-- what goes is not more than there is -/
theorem VInv.goes (iv : VInv S n g) {u : Nat → Int} (hu : ∀ j, j < n → 0 ≤ u j ∧ u j ≤ (g j).a) {k : Nat} (hk : k ≤ n) : 0 ≤ tot u k ∧ tot u k ≤ 100000000000 := by
  have h1 := tot_upto (g := u) (fun j hj => (hu j hj).1) hk
  have h2 : tot u n ≤ btot g n := tot_le n fun j hj => (hu j hj).2
  have h3 := iv.all
  omega
end
end Go.Proofs.Ytmgnnkampdepeaa
