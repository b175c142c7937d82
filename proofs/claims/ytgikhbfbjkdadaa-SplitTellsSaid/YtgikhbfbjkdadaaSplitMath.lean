/- Plain mathematics of dividing an amount by weights: the index of the greatest rest; units that are missing are given one by one; what the parts are then. -/
import Derived.Test.YtgikhbfbjkdadaaTot
import Derived.WalkKit
namespace Go.Proofs.Ytgikhbfbjkdadaa

/-- the index of the greatest of the first k numbers, of equal ones the first -/
def bst (h : Nat → Int) : Nat → Nat
  | 0 => 0
  | k + 1 => if h (bst h k) < h k then k else bst h k
theorem bst_lt (h : Nat → Int) : ∀ k, 0 < k → bst h k < k
  | 1, _ => by simp [bst]
  | k + 2, _ => by rw [bst]; have := bst_lt h (k + 1) (by omega); split <;> omega
theorem bst_le (h : Nat → Int) : ∀ k, bst h k ≤ k
  | 0 => Nat.le_refl _
  | k + 1 => by have := bst_lt h (k + 1) (by omega); omega
theorem bst_max (h : Nat → Int) : ∀ k j, j < k → h j ≤ h (bst h k)
  | k + 1, j, hj => by
    rw [bst]
    by_cases e : j = k
    · subst e; split <;> omega
    · have := bst_max h k j (by omega); split <;> omega
theorem bst_first (h : Nat → Int) : ∀ k j, j < bst h k → h j < h (bst h k)
  | 0, j, hj => by simp [bst] at hj
  | k + 1, j, hj => by
    rw [bst] at hj ⊢
    split at hj
    · rename_i c; rw [if_pos c]
      have := bst_max h k j (by omega); omega
    · rename_i c; rw [if_neg c]; exact bst_first h k j hj
theorem bst_is {h : Nat → Int} {n k : Nat} (hk : k < n) (a : ∀ j, j < n → h j ≤ h k) (b : ∀ j, j < k → h j < h k) : bst h n = k := by
  have h1 := bst_lt h n (by omega)
  have h2 := bst_max h n k hk
  have h3 := a _ h1
  rcases Nat.lt_trichotomy (bst h n) k with e | e | e
  · have := b _ e; omega
  · exact e
  · have := bst_first h n k e; omega

/-- how many of the first n numbers are above 0 -/
def cp (r : Nat → Int) : Nat → Nat
  | 0 => 0
  | k + 1 => cp r k + if 0 < r k then 1 else 0
theorem cp_ext {r r' : Nat → Int} : ∀ n, (∀ j, j < n → r j = r' j) → cp r n = cp r' n
  | 0, _ => rfl
  | n + 1, e => by rw [cp, cp, cp_ext n (fun j hj => e j (by omega)), e n (by omega)]
theorem cp_upd {r : Nat → Int} {b : Nat} {z : Int} (hz : z ≤ 0) : ∀ n, b < n → 0 < r b → cp (upd r b z) n + 1 = cp r n
  | n + 1, hb, h => by
    rw [cp, cp]
    by_cases e : b = n
    · subst e
      rw [upd_same, cp_ext (r' := r) b (fun j hj => upd_other r z (by omega)), if_pos h, if_neg (by omega)]
    · rw [upd_other r z (by omega)]
      have := cp_upd (r := r) hz n (by omega) h
      omega
theorem cp_pos {r : Nat → Int} : ∀ n, 0 < cp r n → 0 < r (bst r n)
  | n + 1, h => by
    rw [cp] at h
    by_cases e : 0 < r n
    · have := bst_max r (n + 1) n (by omega); omega
    · have := cp_pos (r := r) n (by rw [if_neg e] at h; omega)
      rw [bst]; split <;> omega
theorem cp_le (r : Nat → Int) : ∀ n, cp r n ≤ n
  | 0 => Nat.le_refl _
  | n + 1 => by rw [cp]; have := cp_le r n; split <;> omega
theorem cp_many {r : Nat → Int} {T : Int} (hT : 0 ≤ T) : ∀ n, (∀ j, j < n → r j ≤ T) → tot r n ≤ T * cp r n
  | 0, _ => by simp [tot, cp]
  | n + 1, h => by
    rw [tot, cp]
    have a := cp_many hT n (fun j hj => h j (by omega))
    have b := h n (by omega)
    by_cases e : 0 < r n
    · rw [if_pos e, show ((cp r n + 1 : Nat) : Int) = (cp r n : Int) + 1 by omega, Int.mul_add]; omega
    · rw [if_neg e]; simp; omega

/-- m units are given, each to the greatest rest, which then is z -/
def gv (z : Int) (n : Nat) : Nat → (Nat → Int) → (Nat → Int) → (Nat → Int)
  | 0, p, _ => p
  | m + 1, p, r => gv z n m (upd p (bst r n) (p (bst r n) + 1)) (upd r (bst r n) z)
theorem bst_agree {r r' : Nat → Int} {n : Nat} (h : ∀ j, j < n → 0 < r j ∨ 0 < r' j → r j = r' j) (hp : 0 < cp r n) : bst r' n = bst r n := by
  have hn : 0 < n := by rcases Nat.eq_zero_or_pos n with rfl | e; · simp [cp] at hp
                        · exact e
  have hb := bst_lt r n hn
  have pos := cp_pos n hp
  have eb := h _ hb (.inl pos)
  refine bst_is hb (fun j hj => ?_) (fun j hj => ?_)
  · have m := bst_max r n j hj
    by_cases e : 0 < r j ∨ 0 < r' j
    · rw [← h j hj e]; omega
    · omega
  · have m := bst_first r n j hj
    by_cases e : 0 < r j ∨ 0 < r' j
    · rw [← h j (by omega) e]; omega
    · omega
theorem gv_agree {z z' : Int} (hz : z ≤ 0) (hz' : z' ≤ 0) {n : Nat} : ∀ m (p r r' : Nat → Int), (∀ j, j < n → 0 < r j ∨ 0 < r' j → r j = r' j) → m ≤ cp r n → gv z n m p r = gv z' n m p r'
  | 0, _, _, _, _, _ => rfl
  | m + 1, p, r, r', h, hc => by
    have hn : 0 < n := by have := cp_le r n; omega
    have hb := bst_lt r n hn
    have pos := cp_pos (r := r) n (by omega)
    have ha := bst_agree h (by omega)
    have hu := cp_upd (r := r) (b := bst r n) hz n hb pos
    rw [gv, gv, ha]
    refine gv_agree hz hz' m _ _ _ (fun j hj e => ?_) (by omega)
    by_cases q : j = bst r n
    · subst q; rw [upd_same, upd_same] at e; omega
    · rw [upd_other _ _ q, upd_other _ _ q] at e ⊢; exact h j hj e
theorem gv_tot {z : Int} {n : Nat} (hn : 0 < n) : ∀ m (p r : Nat → Int), tot (gv z n m p r) n = tot p n + m
  | 0, p, r => by simp [gv]
  | m + 1, p, r => by
    rw [gv, gv_tot hn m, tot_upd _ _ _ _ (bst_lt r n hn)]; omega
theorem gv_each {n : Nat} : ∀ m (p r : Nat → Int), m ≤ cp r n → ∀ j, j < n → gv 0 n m p r j = p j ∨ (gv 0 n m p r j = p j + 1 ∧ 0 < r j)
  | 0, p, r, _, j, _ => .inl rfl
  | m + 1, p, r, hc, j, hj => by
    have hn : 0 < n := by have := cp_le r n; omega
    have pos := cp_pos (r := r) n (by omega)
    have hu := cp_upd (r := r) (b := bst r n) (z := 0) (by omega) n (bst_lt r n hn) pos
    rw [gv]
    rcases gv_each m (upd p (bst r n) (p (bst r n) + 1)) (upd r (bst r n) 0) (by omega) j hj with e | ⟨e, e2⟩
    · rw [e]
      by_cases q : j = bst r n
      · subst q; rw [upd_same]; exact .inr ⟨rfl, pos⟩
      · rw [upd_other _ _ q]; exact .inl rfl
    · by_cases q : j = bst r n
      · subst q; rw [upd_same] at e2; omega
      · rw [upd_other _ _ q] at e e2; exact .inr ⟨e, e2⟩
/-- who has a greater rest than one that is given a unit, or the same and stands ahead, is given one, too -/
theorem gv_mono {n : Nat} : ∀ m (p r : Nat → Int), m ≤ cp r n → ∀ i k, i < n → k < n → (r i < r k ∨ r i = r k ∧ k < i) → gv 0 n m p r i = p i + 1 → gv 0 n m p r k = p k + 1
  | 0, p, r, _, i, k, _, _, _, h => by simp [gv] at h; omega
  | m + 1, p, r, hc, i, k, hi, hk, hr, h => by
    have hn : 0 < n := by have := cp_le r n; omega
    have pos := cp_pos (r := r) n (by omega)
    have hu := cp_upd (r := r) (b := bst r n) (z := 0) (by omega) n (bst_lt r n hn) pos
    rw [gv] at h ⊢
    have ek := gv_each m (upd p (bst r n) (p (bst r n) + 1)) (upd r (bst r n) 0) (by omega) k hk
    by_cases q : k = bst r n
    · rw [← q] at ek ⊢; rw [upd_same, upd_same] at ek; omega
    · by_cases q' : i = bst r n
      · exfalso
        rw [q'] at hr
        rcases hr with hr | ⟨_, hr⟩
        · have := bst_max r n k hk; omega
        · have := bst_first r n k hr; omega
      · have := gv_mono m (upd p (bst r n) (p (bst r n) + 1)) (upd r (bst r n) 0) (by omega) i k hi hk (by rw [upd_other _ _ q, upd_other _ _ q']; exact hr) (by rw [upd_other _ _ q']; exact h)
        rw [this, upd_other _ _ q]
theorem bst_scale {r : Nat → Int} {t : Int} (ht : 0 < t) : ∀ n, bst (fun j => r j * t) n = bst r n
  | 0 => rfl
  | n + 1 => by
    rw [bst, bst, bst_scale ht n]
    by_cases e : r (bst r n) < r n
    · rw [if_pos e, if_pos (Int.mul_lt_mul_of_pos_right e ht)]
    · rw [if_neg e, if_neg (by have := Int.mul_le_mul_of_nonneg_right (show r n ≤ r (bst r n) by omega) (show 0 ≤ t by omega); omega)]
theorem gv_scale {n : Nat} {t : Int} (ht : 0 < t) : ∀ m (p r : Nat → Int), gv 0 n m p (fun j => r j * t) = gv 0 n m p r
  | 0, p, r => rfl
  | m + 1, p, r => by
    rw [gv, gv, bst_scale ht]
    rw [show upd (fun j => r j * t) (bst r n) 0 = fun j => upd r (bst r n) 0 j * t from ?_, gv_scale ht m]
    funext j
    by_cases e : j = bst r n
    · subst e; simp [upd_same]
    · simp [upd_other _ _ e]

/-- the parts of n (from 0 on) by the weights g, which come to T -/
def splitF (n T : Int) (len : Nat) (g : Nat → Int) : Nat → Int :=
  gv 0 len (n - tot (fun j => n * g j / T) len).toNat (fun j => n * g j / T) (fun j => n * g j % T)
def splitV (n : Int) (len : Nat) (g : Nat → Int) : Nat → Int :=
  if n < 0 then fun j => -splitF (-n) (tot g len) len g j else splitF n (tot g len) len g
def SplitOk (n : Int) (len : Nat) (g : Nat → Int) : Prop := Mon n ∧ len ≤ 16 ∧ (∀ j, j < len → 0 ≤ g j ∧ g j ≤ 1000000) ∧ 0 < tot g len

section
variable {n T : Int} {len : Nat} {g : Nat → Int}
theorem parts_whole (hg : tot g len = T) : tot (fun j => n * g j / T) len * T + tot (fun j => n * g j % T) len = n * T := by
  have h1 : tot (fun j => T * (n * g j / T) + n * g j % T) len = tot (fun j => n * g j) len := tot_ext _ fun j _ => Int.mul_ediv_add_emod ..
  rw [tot_add, tot_mul, tot_mul, hg, Int.mul_comm T] at h1
  exact h1
/-- what is missing is not below 0, and there are as many rests above 0 -/
theorem missing_bd (hT : 0 < T) (hg : tot g len = T) : 0 ≤ n - tot (fun j => n * g j / T) len ∧ (n - tot (fun j => n * g j / T) len).toNat ≤ cp (fun j => n * g j % T) len := by
  have h := parts_whole (n := n) hg
  have h0 : 0 ≤ tot (fun j => n * g j % T) len := tot_nonneg _ fun j _ => Int.emod_nonneg _ (by omega)
  have h1 := cp_many (r := fun j => n * g j % T) (T := T) (by omega) len fun j _ => by have := Int.emod_lt_of_pos (n * g j) hT; show n * g j % T ≤ T; omega
  have e : T * (n - tot (fun j => n * g j / T) len) = tot (fun j => n * g j % T) len := by rw [Int.mul_sub, Int.mul_comm T n, Int.mul_comm T]; omega
  have a : 0 ≤ n - tot (fun j => n * g j / T) len := Int.le_of_mul_le_mul_left (a := T) (by rw [e]; simpa using h0) hT
  refine ⟨a, ?_⟩
  have b : n - tot (fun j => n * g j / T) len ≤ (cp (fun j => n * g j % T) len : Int) := Int.le_of_mul_le_mul_left (a := T) (by rw [e]; exact h1) hT
  omega
theorem splitF_tot (hT : 0 < T) (hg : tot g len = T) : tot (splitF n T len g) len = n := by
  have hl : 0 < len := by rcases Nat.eq_zero_or_pos len with e | e; · subst e; simp [tot] at hg; omega
                          · exact e
  rw [splitF, gv_tot hl]; have := (missing_bd (n := n) hT hg).1; omega
theorem splitF_each (hT : 0 < T) (hg : tot g len = T) {j : Nat} (hj : j < len) :
    splitF n T len g j = n * g j / T ∨ (splitF n T len g j = n * g j / T + 1 ∧ 0 < n * g j % T) := gv_each _ _ _ (missing_bd hT hg).2 j hj
theorem splitF_off (hT : 0 < T) (hg : tot g len = T) {j : Nat} (hj : j < len) : -T < n * g j - splitF n T len g j * T ∧ n * g j - splitF n T len g j * T < T := by
  have e := Int.mul_ediv_add_emod (n * g j) T
  have a := Int.emod_nonneg (n * g j) (show T ≠ 0 by omega)
  have b := Int.emod_lt_of_pos (n * g j) hT
  rw [Int.mul_comm] at e
  rcases splitF_each (n := n) hT hg hj with h | ⟨h, k⟩
  · rw [h]; omega
  · rw [h, Int.add_mul]; omega
theorem splitF_mono (hT : 0 < T) (hg : tot g len = T) (hn : 0 ≤ n) {i k : Nat} (hi : i < len) (hk : k < len) (h : g i < g k) : splitF n T len g i ≤ splitF n T len g k := by
  have hm := Int.mul_le_mul_of_nonneg_left (show g i ≤ g k by omega) hn
  have hd := Int.ediv_le_ediv hT hm
  have ei := splitF_each (n := n) hT hg hi
  have ek := splitF_each (n := n) hT hg hk
  by_cases q : n * g i / T = n * g k / T
  · rcases ei with ei | ⟨ei, e0⟩
    · omega
    · have hn' : 0 < n := by
        rcases Int.lt_or_eq_of_le hn with h | h
        · exact h
        · subst h; simp at e0
      have hs := Int.mul_lt_mul_of_pos_left h hn'
      have a := Int.mul_ediv_add_emod (n * g i) T
      have b := Int.mul_ediv_add_emod (n * g k) T
      rw [q] at a
      have := gv_mono _ _ (fun j => n * g j % T) (missing_bd (n := n) hT hg).2 i k hi hk (.inl (by show n * g i % T < n * g k % T; omega)) ei
      have : splitF n T len g k = n * g k / T + 1 := this
      omega
  · omega
theorem splitF_nonneg (hT : 0 < T) (hg : tot g len = T) (hn : 0 ≤ n) {j : Nat} (hj : j < len) (h : 0 ≤ g j) : 0 ≤ splitF n T len g j := by
  have := Int.ediv_nonneg (Int.mul_nonneg hn h) (show 0 ≤ T by omega)
  rcases splitF_each (n := n) hT hg hj with e | ⟨e, _⟩ <;> omega
theorem splitF_none (hT : 0 < T) (hg : tot g len = T) {j : Nat} (hj : j < len) (h : g j = 0) : splitF n T len g j = 0 := by
  rcases splitF_each (n := n) hT hg hj with e | ⟨_, e⟩
  · rw [e, h]; simp
  · rw [h] at e; simp at e
theorem splitF_whole (hT : 0 < T) (hg : tot g len = T) (t : Int) {j : Nat} : splitF (T * t) T len g j = g j * t := by
  have e : ∀ j, T * t * g j = T * (g j * t) := fun j => by rw [Int.mul_assoc, Int.mul_comm t]
  have e1 : (fun j => T * t * g j / T) = fun j => g j * t := by funext j; rw [e, Int.mul_ediv_cancel_left _ (by omega)]
  have e2 : tot (fun j => g j * t) len = T * t := by
    rw [show (fun j => g j * t) = fun j => t * g j from funext fun j => Int.mul_comm .., tot_mul, hg, Int.mul_comm]
  rw [splitF, e1, e2]; simp [gv]
theorem splitF_scale {t : Int} (ht : 0 < t) : splitF n (T * t) len (fun j => g j * t) = splitF n T len g := by
  have e1 : (fun j => n * (g j * t) / (T * t)) = fun j => n * g j / T := by funext j; rw [← Int.mul_assoc, Int.mul_ediv_mul_of_pos_left _ _ ht]
  have e2 : (fun j => n * (g j * t) % (T * t)) = fun j => n * g j % T * t := by funext j; rw [← Int.mul_assoc, Int.mul_comm _ t, Int.mul_comm T t, Int.mul_emod_mul_of_pos _ _ ht, Int.mul_comm]
  rw [splitF, splitF, e1, e2, gv_scale ht]
theorem splitV_tot {n : Int} (hT : 0 < tot g len) : tot (splitV n len g) len = n := by
  unfold splitV; split
  · rw [tot_neg, splitF_tot hT rfl, Int.neg_neg]
  · exact splitF_tot hT rfl
theorem splitV_off {n : Int} (hT : 0 < tot g len) {j : Nat} (hj : j < len) : -tot g len < n * g j - splitV n len g j * tot g len ∧ n * g j - splitV n len g j * tot g len < tot g len := by
  unfold splitV; split
  · have := splitF_off (n := -n) hT rfl hj
    rw [Int.neg_mul] at this
    simp only [Int.neg_mul]
    omega
  · exact splitF_off hT rfl hj
theorem splitV_mono {n : Int} (hT : 0 < tot g len) {i k : Nat} (hi : i < len) (hk : k < len) (h : g i < g k) : (0 ≤ n → splitV n len g i ≤ splitV n len g k) ∧ (n ≤ 0 → splitV n len g k ≤ splitV n len g i) := by
  unfold splitV; split
  · have := splitF_mono (n := -n) hT rfl (by omega) hi hk h
    constructor <;> intro _ <;> simp only [] <;> omega
  · refine ⟨fun h0 => splitF_mono hT rfl h0 hi hk h, fun h0 => ?_⟩
    have e : n = 0 := by omega
    subst e
    have z : ∀ j, j < len → splitF 0 (tot g len) len g j = 0 := fun j hj => by
      rcases splitF_each (n := 0) hT rfl hj with e | ⟨_, e⟩
      · rw [e]; simp
      · simp at e
    rw [z i hi, z k hk]; exact Int.le_refl _
end
/-- rests that are alike but for the first, which are spent: the units go to the next ones -/
theorem gv_even {n : Nat} {c : Int} (hc : 0 < c) : ∀ m a (p : Nat → Int), a + m ≤ n → ∀ j, gv 0 n m p (fun j => if j < a then 0 else c) j = p j + if a ≤ j ∧ j < a + m then 1 else 0
  | 0, a, p, _, j => by rw [gv, if_neg (by omega)]; omega
  | m + 1, a, p, h, j => by
    have hb : bst (fun j => if j < a then 0 else c) n = a := bst_is (by omega) (fun j _ => by split <;> split <;> omega) (fun j hj => by rw [if_pos hj, if_neg (by omega)]; exact hc)
    rw [gv, hb]
    have e : upd (fun j => if j < a then 0 else c) a 0 = fun j => if j < a + 1 then 0 else c := by
      funext j
      by_cases q : j = a
      · subst q; rw [upd_same, if_pos (by omega)]
      · rw [upd_other _ _ q]
        by_cases l : j < a
        · rw [if_pos l, if_pos (by omega)]
        · rw [if_neg l, if_neg (by omega)]
    rw [e, gv_even hc m (a + 1) _ (by omega) j]
    by_cases q : j = a
    · subst q; rw [upd_same, if_neg (by omega), if_pos (by omega)]; omega
    · rw [upd_other _ _ q]
      by_cases l : a ≤ j ∧ j < a + (m + 1)
      · rw [if_pos (by omega), if_pos l]
      · rw [if_neg (by omega), if_neg l]
theorem splitF_even {n : Int} {len : Nat} (hl : 0 < len) (j : Nat) : splitF n (7 * len) len (fun _ => 7) j = n / len + if (j : Int) < n % len then 1 else 0 := by
  have e1 : n * 7 / (7 * (len : Int)) = n / len := by rw [Int.mul_comm 7]; exact Int.mul_ediv_mul_of_pos_left _ _ (by omega)
  have e2 : n * 7 % (7 * (len : Int)) = 7 * (n % len) := by rw [Int.mul_comm n]; exact Int.mul_emod_mul_of_pos _ _ (by omega)
  have a := Int.emod_nonneg n (show (len : Int) ≠ 0 by omega)
  have b := Int.emod_lt_of_pos n (show 0 < (len : Int) by omega)
  have d := Int.mul_ediv_add_emod n len
  have t : n - tot (fun _ => n / (len : Int)) len = n % len := by rw [tot_const, Int.mul_comm]; omega
  unfold splitF
  rw [show (fun _ : Nat => n * 7 / (7 * (len : Int))) = fun _ => n / (len : Int) from funext fun _ => e1, show (fun _ : Nat => n * 7 % (7 * (len : Int))) = fun _ => 7 * (n % len) from funext fun _ => e2, t]
  by_cases z : n % len = 0
  · rw [z]; simp [gv]; omega
  · have := gv_even (n := len) (c := 7 * (n % len)) (by omega) (n % len).toNat 0 (fun _ => n / (len : Int)) (by omega) j
    simp only [Nat.not_lt_zero, if_false] at this
    rw [this]
    congr 1
    by_cases q : (j : Int) < n % len
    · rw [if_pos q, if_pos (by omega)]
    · rw [if_neg q, if_neg (by omega)]
theorem splitV_scale {n : Int} {len : Nat} {g : Nat → Int} (hn : 0 ≤ n) {t : Int} (ht : 0 < t) : splitV n len (fun j => g j * t) = splitV n len g := by
  rw [splitV, splitV, if_neg (by omega), if_neg (by omega)]
  have e : tot (fun j => g j * t) len = tot g len * t := by
    rw [show (fun j => g j * t) = fun j => t * g j from funext fun j => Int.mul_comm .., tot_mul, Int.mul_comm]
  rw [e, splitF_scale ht]
end Go.Proofs.Ytgikhbfbjkdadaa
