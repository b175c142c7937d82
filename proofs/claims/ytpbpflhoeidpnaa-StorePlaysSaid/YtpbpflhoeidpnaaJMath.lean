/- Plain mathematics of journals' lines: each account's sum; a line for each account, ascending; right lines. No function of the program is named here. -/
import Derived.Test.YtpbpflhoeidpnaaTot
namespace Go.Proofs.Ytpbpflhoeidpnaa
/-- the sum of the amounts of account a -/
def sm (a : Int) (ga gm : Nat → Int) (n : Nat) : Int := tot (fun j => if ga j = a then gm j else 0) n
theorem sm_zero (a : Int) (ga gm : Nat → Int) : sm a ga gm 0 = 0 := rfl
theorem sm_yes {a : Int} {ga gm : Nat → Int} {n : Nat} (h : ga n = a) : sm a ga gm (n + 1) = sm a ga gm n + gm n := by unfold sm; rw [tot, if_pos h]
theorem sm_no {a : Int} {ga gm : Nat → Int} {n : Nat} (h : ¬ ga n = a) : sm a ga gm (n + 1) = sm a ga gm n := by unfold sm; rw [tot, if_neg h, Int.add_zero]
theorem sm_ext {a : Int} {ga gm ga' gm' : Nat → Int} {n : Nat} (h : ∀ j, j < n → ga j = ga' j ∧ gm j = gm' j) : sm a ga gm n = sm a ga' gm' n :=
  tot_ext n fun j hj => by rw [(h j hj).1, (h j hj).2]
theorem tot_abs {g : Nat → Int} {B : Int} (hB : 0 ≤ B) : ∀ n : Nat, (∀ j, j < n → -B ≤ g j ∧ g j ≤ B) → -(B * n) ≤ tot g n ∧ tot g n ≤ B * n
  | 0, _ => by simp [tot]
  | n + 1, h => by
    have a := tot_abs (g := g) hB n fun j hj => h j (by omega)
    have b := h n (by omega)
    rw [tot, show ((n + 1 : Nat) : Int) = (n : Int) + 1 by omega, Int.mul_add]; omega
theorem sm_abs {a : Int} {ga gm : Nat → Int} {B : Int} (hB : 0 ≤ B) {n : Nat} (h : ∀ j, j < n → -B ≤ gm j ∧ gm j ≤ B) : -(B * n) ≤ sm a ga gm n ∧ sm a ga gm n ≤ B * n :=
  tot_abs hB n fun j hj => by
    have := h j hj
    by_cases e : ga j = a
    · rw [if_pos e]; exact this
    · rw [if_neg e]; omega
theorem sm_neg (a : Int) (ga gm : Nat → Int) (n : Nat) : sm a ga (fun j => -gm j) n = -sm a ga gm n := by
  unfold sm; rw [← tot_neg]
  refine tot_ext n fun j _ => ?_
  split <;> simp
theorem sm_rev (a : Int) (ga gm : Nat → Int) (n : Nat) : sm a (fun j => ga (n - 1 - j)) (fun j => gm (n - 1 - j)) n = sm a ga gm n := tot_rev (fun j => if ga j = a then gm j else 0) n
/-- one row behind another -/
def cat (n : Nat) (f g : Nat → Int) : Nat → Int := fun j => if j < n then f j else g (j - n)
theorem cat_lt {n j : Nat} {f g : Nat → Int} (h : j < n) : cat n f g j = f j := if_pos h
theorem cat_ge {n j : Nat} {f g : Nat → Int} (h : n ≤ j) : cat n f g j = g (j - n) := if_neg (by omega)
theorem tot_cat (f g : Nat → Int) (n : Nat) : ∀ m, tot (cat n f g) (n + m) = tot f n + tot g m
  | 0 => by rw [Nat.add_zero, tot_ext n (h := f) (fun j hj => cat_lt hj), tot]; omega
  | m + 1 => by rw [show n + (m + 1) = (n + m) + 1 by omega, tot, tot_cat f g n m, cat_ge (by omega), tot, show n + m - n = m by omega]; omega
theorem sm_cat (a : Int) (ga gm fa fm : Nat → Int) (n m : Nat) : sm a (cat n ga fa) (cat n gm fm) (n + m) = sm a ga gm n + sm a fa fm m := by
  unfold sm
  rw [← tot_cat]
  refine tot_ext _ fun j _ => ?_
  unfold cat; by_cases e : j < n
  · simp [e]
  · simp [e]

/-- how many of the accounts 1 to k have something -/
def mc (S : Int → Int) : Nat → Nat
  | 0 => 0
  | k + 1 => if S ((k : Int) + 1) = 0 then mc S k else mc S k + 1
/-- which these are, ascending -/
def ma (S : Int → Int) : Nat → Nat → Int
  | 0 => fun _ => 0
  | k + 1 => if S ((k : Int) + 1) = 0 then ma S k else fun j => if j = mc S k then (k : Int) + 1 else ma S k j
/-- and what they have -/
def mm (S : Int → Int) (k : Nat) : Nat → Int := fun j => S (ma S k j)
theorem mc_zero {S : Int → Int} {k : Nat} (h : S ((k : Int) + 1) = 0) : mc S (k + 1) = mc S k ∧ ma S (k + 1) = ma S k := ⟨if_pos h, if_pos h⟩
theorem mc_some {S : Int → Int} {k : Nat} (h : ¬ S ((k : Int) + 1) = 0) : mc S (k + 1) = mc S k + 1 ∧ ma S (k + 1) = fun j => if j = mc S k then (k : Int) + 1 else ma S k j := ⟨if_neg h, if_neg h⟩
theorem ma_at {S : Int → Int} {k : Nat} (h : ¬ S ((k : Int) + 1) = 0) (j : Nat) : ma S (k + 1) j = if j = mc S k then (k : Int) + 1 else ma S k j := congrFun (mc_some h).2 j
theorem mc_le (S : Int → Int) : ∀ k, mc S k ≤ k
  | 0 => Nat.le_refl _
  | k + 1 => by rw [mc]; have := mc_le S k; split <;> omega
theorem ma_spec (S : Int → Int) : ∀ k j, j < mc S k → 1 ≤ ma S k j ∧ ma S k j ≤ k ∧ S (ma S k j) ≠ 0
  | 0, j, h => by simp [mc] at h
  | k + 1, j, h => by
    by_cases e : S ((k : Int) + 1) = 0
    · rw [(mc_zero e).1] at h; rw [(mc_zero e).2]
      have := ma_spec S k j h; exact ⟨this.1, by omega, this.2.2⟩
    · rw [(mc_some e).1] at h; rw [ma_at e]
      by_cases q : j = mc S k
      · simp only [if_pos q]; exact ⟨by omega, by omega, e⟩
      · simp only [if_neg q]
        have := ma_spec S k j (by omega); exact ⟨this.1, by omega, this.2.2⟩
theorem ma_up (S : Int → Int) : ∀ k j, j + 1 < mc S k → ma S k j < ma S k (j + 1)
  | 0, j, h => by simp [mc] at h
  | k + 1, j, h => by
    by_cases e : S ((k : Int) + 1) = 0
    · rw [(mc_zero e).1] at h; rw [(mc_zero e).2]; exact ma_up S k j h
    · rw [(mc_some e).1] at h; rw [ma_at e, ma_at e]
      rw [if_neg (show ¬ j = mc S k by omega)]
      by_cases q : j + 1 = mc S k
      · simp only [if_pos q]; have := ma_spec S k j (by omega); omega
      · simp only [if_neg q]; exact ma_up S k j (by omega)
theorem ma_congr {S T : Int → Int} : ∀ k : Nat, (∀ a : Int, 1 ≤ a → a ≤ k → S a = T a) → mc S k = mc T k ∧ ma S k = ma T k
  | 0, _ => ⟨rfl, rfl⟩
  | k + 1, h => by
    obtain ⟨a, b⟩ := ma_congr (S := S) (T := T) k fun a h1 h2 => h a h1 (by omega)
    have c := h ((k : Int) + 1) (by omega) (by omega)
    rw [mc, mc, ma, ma, a, b, c]; exact ⟨rfl, rfl⟩
theorem mm_congr {S T : Int → Int} {k : Nat} (h : ∀ a : Int, 1 ≤ a → a ≤ k → S a = T a) (j : Nat) (hj : j < mc S k) : mm S k j = mm T k j := by
  unfold mm; rw [← (ma_congr k h).2]
  have := ma_spec S k j hj
  exact h _ this.1 this.2.1
theorem tot_mrg (S : Int → Int) : ∀ k, tot (mm S k) (mc S k) = tot (fun j => S ((j : Int) + 1)) k
  | 0 => rfl
  | k + 1 => by
    rw [tot, ← tot_mrg S k]
    unfold mm
    by_cases e : S ((k : Int) + 1) = 0
    · rw [(mc_zero e).1, (mc_zero e).2, e]; simp
    · rw [(mc_some e).1, tot, ma_at e, if_pos rfl, tot_ext (mc S k) (h := fun j => S (ma S k j)) fun j hj => by rw [ma_at e, if_neg (by omega)]]
theorem sm_mrg (S : Int → Int) (a : Int) : ∀ k, sm a (ma S k) (mm S k) (mc S k) = if 1 ≤ a ∧ a ≤ k then S a else 0
  | 0 => by rw [if_neg (by omega)]; rfl
  | k + 1 => by
    have ih := sm_mrg S a k
    by_cases e : S ((k : Int) + 1) = 0
    · unfold mm at *
      rw [(mc_zero e).1, (mc_zero e).2, ih]
      by_cases q : a = (k : Int) + 1
      · rw [if_neg (by omega), if_pos (by omega), q, e]
      · by_cases p : 1 ≤ a ∧ a ≤ k
        · rw [if_pos p, if_pos (by omega)]
        · rw [if_neg p, if_neg (by omega)]
    · have e2 : sm a (ma S (k + 1)) (mm S (k + 1)) (mc S k) = sm a (ma S k) (mm S k) (mc S k) := sm_ext fun j hj => by
        unfold mm; rw [ma_at e, if_neg (by omega)]; exact ⟨rfl, rfl⟩
      rw [(mc_some e).1]
      have e3 : ma S (k + 1) (mc S k) = (k : Int) + 1 := by rw [ma_at e, if_pos rfl]
      by_cases q : a = (k : Int) + 1
      · rw [sm_yes (by rw [e3, q]), e2, ih, if_neg (by omega), if_pos (by omega)]
        unfold mm; rw [e3, q]; omega
      · rw [sm_no (by rw [e3]; omega), e2, ih]
        by_cases p : 1 ≤ a ∧ a ≤ k
        · rw [if_pos p, if_pos (by omega)]
        · rw [if_neg p, if_neg (by omega)]
/-- lines put together: of each account -/
def smf (ga gm : Nat → Int) (n : Nat) : Int → Int := fun a => sm a ga gm n
theorem smf_mrg (S : Int → Int) : ∀ a : Int, 1 ≤ a → a ≤ (7 : Nat) → smf (ma S 7) (mm S 7) (mc S 7) a = S a := fun a h1 h2 => by
  unfold smf; rw [sm_mrg, if_pos ⟨h1, h2⟩]
theorem tot_pick {a x : Int} (h1 : 1 ≤ a) (h2 : a ≤ 7) : tot (fun j => if a = (j : Int) + 1 then x else 0) 7 = x := by
  rcases (show a = 1 ∨ a = 2 ∨ a = 3 ∨ a = 4 ∨ a = 5 ∨ a = 6 ∨ a = 7 by omega) with rfl | rfl | rfl | rfl | rfl | rfl | rfl <;> simp [tot]
/-- all accounts' sums together are the sum of all amounts -/
theorem tot_smf {ga gm : Nat → Int} : ∀ n : Nat, (∀ j, j < n → 1 ≤ ga j ∧ ga j ≤ 7) → tot (fun j => smf ga gm n ((j : Int) + 1)) 7 = tot gm n
  | 0, _ => tot_zero 7 fun j _ => rfl
  | n + 1, h => by
    show _ = tot gm n + gm n
    rw [← tot_smf n fun j hj => h j (by omega), ← tot_pick (x := gm n) (h n (by omega)).1 (h n (by omega)).2, ← tot_add]
    rfl
/-- a line that may be -/
def LineOk (a m : Int) : Prop := 1 ≤ a ∧ a ≤ 7 ∧ m ≠ 0 ∧ Mon m
/-- lines that are right -/
def Good (n : Nat) (ga gm : Nat → Int) : Prop := n ≤ 20 ∧ (∀ j, j < n → LineOk (ga j) (gm j)) ∧ (∀ j, j + 1 < n → ga j < ga (j + 1)) ∧ tot gm n = 0
theorem good_mrg {S : Int → Int} (h : ∀ a : Int, 1 ≤ a → a ≤ 7 → Mon (S a)) (h0 : tot (fun j => S ((j : Int) + 1)) 7 = 0) : Good (mc S 7) (ma S 7) (mm S 7) := by
  refine ⟨by have := mc_le S 7; omega, fun j hj => ?_, ma_up S 7, by rw [tot_mrg, h0]⟩
  obtain ⟨a, b, c⟩ := ma_spec S 7 j hj
  exact ⟨a, b, c, h _ a b⟩
theorem good_neg {n : Nat} {ga gm : Nat → Int} (h : Good n ga gm) : Good n ga (fun j => -gm j) := by
  refine ⟨h.1, fun j hj => ?_, h.2.2.1, by rw [tot_neg, h.2.2.2]; rfl⟩
  obtain ⟨a, b, c, d⟩ := h.2.1 j hj
  unfold Mon at d
  exact ⟨a, b, (by show -gm j ≠ 0; omega), (by show Mon (-gm j); unfold Mon; omega)⟩
theorem good_ext {n : Nat} {ga gm ga' gm' : Nat → Int} (h : Good n ga gm) (e : ∀ j, j < n → ga j = ga' j ∧ gm j = gm' j) : Good n ga' gm' := by
  refine ⟨h.1, fun j hj => by rw [← (e j hj).1, ← (e j hj).2]; exact h.2.1 j hj, fun j hj => (by have := h.2.2.1 j hj; rw [(e j (by omega)).1, (e (j + 1) hj).1] at this; exact this), by rw [← h.2.2.2]; exact (tot_ext n fun j hj => (e j hj).2).symm⟩
instance instMon (x : Int) : Decidable (Mon x) := by unfold Mon; infer_instance
/-- debits and credits of what is money -/
def dm (x : Int) : Int := if Mon x then (if 0 < x then x else 0) else 0
def cm (x : Int) : Int := if Mon x then (if 0 < x then 0 else -x) else 0
theorem dm_bd (x : Int) : 0 ≤ dm x ∧ dm x ≤ 100000000000 ∧ 0 ≤ cm x ∧ cm x ≤ 100000000000 := by
  by_cases h : Mon x
  · unfold dm cm; rw [if_pos h, if_pos h]
    unfold Mon at h
    by_cases p : 0 < x
    · rw [if_pos p, if_pos p]; omega
    · rw [if_neg p, if_neg p]; omega
  · unfold dm cm; rw [if_neg h, if_neg h]; omega
theorem dm_net {x : Int} (h : Mon x) : dm x - cm x = x := by
  unfold dm cm; rw [if_pos h, if_pos h]; split <;> omega
theorem tot_sub (f g : Nat → Int) : ∀ n, tot (fun j => f j - g j) n = tot f n - tot g n
  | 0 => rfl
  | n + 1 => by rw [tot, tot, tot, tot_sub f g n]; omega
theorem tot_net {gm : Nat → Int} {n : Nat} (h : ∀ j, j < n → Mon (gm j)) : tot (fun j => dm (gm j)) n - tot (fun j => cm (gm j)) n = tot gm n := by
  rw [← tot_sub]; exact tot_ext n fun j hj => dm_net (h j hj)
theorem dm_tot (gm : Nat → Int) (n : Nat) : 0 ≤ tot (fun j => dm (gm j)) n ∧ tot (fun j => dm (gm j)) n ≤ 100000000000 * n ∧ 0 ≤ tot (fun j => cm (gm j)) n ∧ tot (fun j => cm (gm j)) n ≤ 100000000000 * n := by
  have a := tot_nonneg (g := fun j => dm (gm j)) n fun j _ => (dm_bd (gm j)).1
  have b := tot_nonneg (g := fun j => cm (gm j)) n fun j _ => (dm_bd (gm j)).2.2.1
  have c := tot_abs (g := fun j => dm (gm j)) (B := 100000000000) (by omega) n fun j _ => by have := dm_bd (gm j); omega
  have d := tot_abs (g := fun j => cm (gm j)) (B := 100000000000) (by omega) n fun j _ => by have := dm_bd (gm j); omega
  omega
end Go.Proofs.Ytpbpflhoeidpnaa
