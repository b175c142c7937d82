/- Law 15: the years of a loss; what has no tax: mathematics. -/
import Derived.Test.YtmeljcogoeghaaaLaw15a
namespace Go.Proofs.Ytmeljcogoeghaaa

/-- one loss -/
def g15 (loss life : Int) : Nat → Bk := fun _ => ⟨3 + life, 3, loss⟩
def S15 (loss life : Int) : Int → Int → Int := upS (fun _ _ => 0) (3 + life) 3 loss
theorem is15 {loss life : Int} (h1 : 1 ≤ loss ∧ loss ≤ 100000) (h2 : 1 ≤ life ∧ life ≤ 5) : VInv (S15 loss life) 1 (g15 loss life) := by
  refine ⟨⟨⟨fun j _ => ?_, fun j _ => ?_, fun i j hi hj => by omega⟩, fun c y => ?_⟩, by omega, fun j _ => ?_, ?_⟩
  · show VOk (3 + life) 3; unfold VOk; omega
  · show loss ≠ 0; omega
  · show 0 + bval ⟨3 + life, 3, loss⟩ c y = _
    unfold bval S15 upS
    dsimp only
    by_cases q : 3 + life = c ∧ 3 = y
    · rw [if_pos q, if_pos ⟨q.1.symm, q.2.symm⟩]; omega
    · rw [if_neg q, if_neg (fun z => q ⟨z.1.symm, z.2.symm⟩)]; rfl
  · show 0 ≤ loss; omega
  · show 0 + loss ≤ _; omega
theorem xp_zero (year : Int) : xpS (fun _ _ => 0) year = fun _ _ => 0 := by funext c y; unfold xpS; split <;> rfl
/-- the loss is made -/
theorem made15 {loss life : Int} (h1 : 1 ≤ loss ∧ loss ≤ 100000) (h2 : 1 ≤ life ∧ life ≤ 5) : TOk (fun _ _ => 0) 0 (fun _ => ⟨0, 0, 0⟩) ⟨-loss, 0, 0, 500000, life, 3, 250000⟩ ⟨-loss, 0, 0, loss, 0, 0, 0, fun _ => 0⟩ (S15 loss life) := by
  refine ⟨by unfold TArg; dsimp only; omega, inc_y (by unfold Mon; dsimp only; omega) (by dsimp only; omega), ⟨0, fun _ => ⟨0, 0, 0⟩, ⟨?_, rfl, rfl⟩, .inr (.inr ⟨by dsimp only; omega, rfl, rfl, by dsimp only; omega, ?_, ?_⟩)⟩, by dsimp only; omega, by dsimp only; decide⟩
  · dsimp only; rw [xp_zero]; exact VInv.zero _
  · dsimp only
    exact .ok ⟨by unfold VOk; omega, by omega, by omega⟩ (by show (0 : Int) + _ ≤ _; omega) (.inr (by omega))
  · dsimp only
    rw [xp_zero]
    unfold S15
    rw [show (0 : Int) + - -loss = loss by omega]
/-- and spared, or it expires -/
theorem years15 {loss income life wait : Int} (h1 : 1 ≤ loss ∧ loss ≤ 100000) (h2 : 1 ≤ life ∧ life ≤ 5) (h3 : 0 ≤ income ∧ income ≤ 200000) (h4 : 1 ≤ wait ∧ wait ≤ 8) :
    ∃ x S', TOk (S15 loss life) 1 (g15 loss life) ⟨income, 0, 0, 500000, life, 3 + wait, 250000⟩ x S' ∧ x.inc = income ∧ x.txb = income - x.used ∧
      ((life < wait ∧ x.exp = loss ∧ x.used = 0) ∨ (¬ life < wait ∧ x.exp = 0 ∧ x.used = min loss (income / 2) ∧ ((income = 0 ∧ x.q = 0) ∨ (income ≠ 0 ∧ x.q = 1 ∧ x.u 0 = x.used)))) := by
  have iv := is15 h1 h2
  rcases tax_any iv ⟨income, 0, 0, 500000, life, 3 + wait, 250000⟩ with ⟨e, _, hno⟩ | ⟨x, S', hok⟩
  · exfalso
    cases hno with
    | arg q => exact q (by unfold TArg; dsimp only; omega)
    | over _ q =>
      rcases q with ⟨_, _, _, _, q, _⟩ | ⟨q, _⟩
      · cases q
      · exact q (by dsimp only; unfold Mon; omega)
    | add _ hi hn _ _ _ =>
      obtain ⟨_, hj⟩ := inc_mon hi
      dsimp only at hj; omega
  · obtain ⟨_, hj⟩ := inc_mon hok.inc
    obtain ⟨m, h, tl, nx⟩ := hok.next
    have ht := hok.txb
    have hx := tl.exp
    have hs := tl.sum
    have hb : btot (g15 loss life) 1 = loss := by show 0 + loss = loss; omega
    dsimp only at hj hx hs tl
    have hg : tot (goneU (g15 loss life) (3 + wait)) 1 = if life < wait then loss else 0 := by
      show 0 + goneU (g15 loss life) (3 + wait) 0 = _
      unfold goneU g15
      dsimp only
      by_cases q : life < wait
      · rw [if_pos q, if_pos (by omega)]; omega
      · rw [if_neg q, if_neg (by omega)]; omega
    rw [hg] at hx
    rw [hb] at hs
    refine ⟨x, S', hok, by omega, ?_, ?_⟩
    · rcases nx with ⟨_, _, _, _, q, _⟩ | ⟨_, _, _, q, _⟩ | ⟨q, _⟩ <;> omega
    · by_cases q : life < wait
      · rw [if_pos q] at hx
        refine .inl ⟨q, hx.symm, ?_⟩
        rcases nx with ⟨_, _, hu, hus, _, _⟩ | ⟨_, _, z, _, _⟩ | ⟨z, _⟩
        · rw [hus, hu, us_tot]
          have k1 := EU_all (year := 3 + wait) (n := m) (fun j hj => (tl.pos j hj).1)
          have k2 := EU_nonneg (year := 3 + wait) (n := m) (fun j hj => (tl.pos j hj).1) (Nat.le_refl m)
          dsimp only
          omega
        · exact z
        · omega
      · rw [if_neg q] at hx
        refine .inr ⟨q, hx.symm, ?_⟩
        have ex : xpS (S15 loss life) (3 + wait) = S15 loss life := by
          funext c y
          unfold xpS S15 upS
          by_cases z : c = 3 + life ∧ y = 3
          · rw [if_neg (by omega)]
          · rw [if_neg z]; split <;> rfl
        have ti := tl.inv.is
        rw [ex] at ti
        obtain ⟨rfl, hh⟩ := ti.uniq iv.is
        have h0 := hh 0 (by omega)
        have hE : EU h (3 + wait) 1 = loss := by
          show 0 + eU h (3 + wait) 0 = loss
          unfold eU
          rw [h0]
          show 0 + (if 3 + life < 3 + wait then 0 else loss) = loss
          rw [if_neg (by omega)]; omega
        rcases nx with ⟨z, hq, hu, hus, _, _⟩ | ⟨z, hq, hus, _, _⟩ | ⟨z, _⟩
        · have hf : floorV x.inc 500000 = income / 2 := by
            have b : floorB x.inc 500000 = true := decide_eq_true (by omega)
            rw [floorV, b, if_pos rfl]; omega
          have hu1 : x.used = min loss (income / 2) := by
            rw [hus, hu, us_tot, hE]
            dsimp only
            rw [hf]; omega
          refine ⟨hu1, .inr ⟨by omega, hq, ?_⟩⟩
          rw [hus]
          show x.u 0 = 0 + x.u 0
          omega
        · exact ⟨by omega, .inl ⟨by omega, hq⟩⟩
        · omega
/-- twelve losses -/
def g12 : Nat → Bk := fun j => ⟨j + 20, j, 5⟩
theorem is12 : VInv (bget g12 12) 12 g12 := by
  refine ⟨⟨⟨fun j hj => ?_, fun j _ => ?_, fun i j hi hj => ?_⟩, fun _ _ => rfl⟩, by omega, fun j _ => ?_, ?_⟩
  · show VOk ((j : Int) + 20) j; unfold VOk; omega
  · show (5 : Int) ≠ 0; omega
  · show Bl ((i : Int) + 20) i ((j : Int) + 20) j; unfold Bl; omega
  · show (0 : Int) ≤ 5; omega
  · show tot (fun _ => 5) 12 ≤ _; rw [tot_const]; omega
theorem left12 : TLeft (bget g12 12) 12 g12 15 12 g12 0 := by
  have e : xpS (bget g12 12) 15 = bget g12 12 := by
    funext c y
    unfold xpS
    by_cases q : c < 15
    · rw [if_pos q]
      refine (tot_zero 12 fun j _ => ?_).symm
      show (if (j : Int) + 20 = c ∧ (j : Int) = y then (5 : Int) else 0) = 0
      rw [if_neg (by omega)]
    · rw [if_neg q]
  refine ⟨by rw [e]; exact is12, ?_, by omega⟩
  refine tot_zero 12 fun j _ => ?_
  show (if (j : Int) + 20 < 15 then (5 : Int) else 0) = 0
  rw [if_neg (by omega)]
theorem btot12 : btot g12 12 = 60 := by
  show tot (fun _ => 5) 12 = 60
  rw [tot_const]; rfl
theorem none12 : xpS (bget g12 12) 15 75 15 = 0 := by
  unfold xpS
  rw [if_neg (by omega)]
  refine tot_zero 12 fun j _ => ?_
  show (if (j : Int) + 20 = 75 ∧ (j : Int) = 15 then (5 : Int) else 0) = 0
  rw [if_neg (by omega)]
/-- what is tried -/
def p15 (n : Int) : Nat → Tq × Int := fun j =>
  if j = 0 then (⟨n, 0, 0, -1, 1, 1, 1⟩, 1) else if j = 1 then (⟨n, 0, 0, 1000001, 1, 1, 1⟩, 1) else if j = 2 then (⟨n, 0, 0, 1, -1, 1, 1⟩, 1) else if j = 3 then (⟨n, 0, 0, 1, 1, 100, 1⟩, 1)
  else if j = 4 then (⟨n, 0, 0, 1, 1, 1, -1⟩, 1) else if j = 5 then (⟨100000000000, 1, 0, 1, 1, 1, 1⟩, 6) else if j = 6 then (⟨100000000001, 0, 0, 1, 1, 1, 1⟩, 6) else if j = 7 then (⟨-1 - n, 0, 0, 1, 60, 15, 1⟩, 5)
  else if j = 8 then (⟨-100000000000, 0, 0, 1, 5, 15, 1⟩, 6) else (⟨n, 0, 0, 1, 1, 15, 1⟩, 0)
theorem errs15 {n : Int} (h : 0 ≤ n ∧ n ≤ 1000) (j : Nat) (hj : j < 10) : (-9223372036854775808 ≤ (p15 n j).1.moved ∧ (p15 n j).1.moved ≤ 9223372036854775807) ∧
    (((p15 n j).2 ≠ 0 ∧ TNo (bget g12 12) 12 g12 (p15 n j).1 (p15 n j).2) ∨ ((p15 n j).2 = 0 ∧ ∃ x S', TOk (bget g12 12) 12 g12 (p15 n j).1 x S')) := by
  rcases (show j = 0 ∨ j = 1 ∨ j = 2 ∨ j = 3 ∨ j = 4 ∨ j = 5 ∨ j = 6 ∨ j = 7 ∨ j = 8 ∨ j = 9 by omega) with rfl | rfl | rfl | rfl | rfl | rfl | rfl | rfl | rfl | rfl
  · exact ⟨by simp [p15], .inl ⟨by simp [p15], .arg (by simp [p15, TArg])⟩⟩
  · exact ⟨by simp [p15], .inl ⟨by simp [p15], .arg (by simp [p15, TArg])⟩⟩
  · exact ⟨by simp [p15], .inl ⟨by simp [p15], .arg (by simp [p15, TArg])⟩⟩
  · exact ⟨by simp [p15], .inl ⟨by simp [p15], .arg (by simp [p15, TArg])⟩⟩
  · exact ⟨by simp [p15], .inl ⟨by simp [p15], .arg (by simp [p15, TArg])⟩⟩
  · exact ⟨by simp [p15], .inl ⟨by simp [p15], .over (by simp [p15, TArg]) (inc_no (by simp [p15, Mon]))⟩⟩
  · exact ⟨by simp [p15], .inl ⟨by simp [p15], .over (by simp [p15, TArg]) (inc_no (by simp [p15, Mon]))⟩⟩
  · refine ⟨by simp [p15], .inl ⟨by simp [p15], ?_⟩⟩
    show TNo _ _ _ ⟨-1 - n, 0, 0, 1, 60, 15, 1⟩ 5
    refine .add (N := -1 - n) (by unfold TArg; dsimp only; omega) (inc_y (by unfold Mon; dsimp only; omega) (by dsimp only; omega)) (by omega) left12 ?_ (by decide)
    exact .limit ⟨by unfold VOk; dsimp only; omega, by omega, by omega⟩ (by rw [btot12]; omega) none12 (by omega)
  · refine ⟨by simp [p15], .inl ⟨by simp [p15], ?_⟩⟩
    show TNo _ _ _ ⟨-100000000000, 0, 0, 1, 5, 15, 1⟩ 6
    refine .add (N := -100000000000) (by unfold TArg; dsimp only; omega) (inc_y (by unfold Mon; dsimp only; omega) (by dsimp only; omega)) (by omega) left12 ?_ (by decide)
    exact .over ⟨by unfold VOk; dsimp only; omega, by omega, by omega⟩ (by rw [btot12]; omega)
  · refine ⟨by simp [p15], .inr ⟨by simp [p15], ?_⟩⟩
    show ∃ x S', TOk _ _ _ ⟨n, 0, 0, 1, 1, 15, 1⟩ x S'
    rcases tax_any is12 ⟨n, 0, 0, 1, 1, 15, 1⟩ with ⟨e, _, hno⟩ | hok
    · exfalso
      cases hno with
      | arg q => exact q (by unfold TArg; dsimp only; omega)
      | over _ q =>
        rcases q with ⟨_, _, _, _, q, _⟩ | ⟨q, _⟩
        · cases q
        · exact q (by dsimp only; unfold Mon; omega)
      | add _ hi hn _ _ _ =>
        obtain ⟨_, hj⟩ := inc_mon hi
        dsimp only at hj; omega
    · exact hok
end Go.Proofs.Ytmeljcogoeghaaa
