/- Several texts of mine in one: VnMath VnMath2 VnMath3 RVint RVint2 RVint3 RVint4 RVint5. -/
import Derived.Test.YtmlafdehhbhbiaaGreatM2
import Derived.Test.YtmlafdehhbhbiaaGreatRows
import Derived.WalkKit
import Derived.WalkSpells
import Derived.WalkLawsBesides
import Derived.Lib.Hide
import Derived.IntWalk
import Derived.Deep.LoopGhost
import Derived.BigQuiet
import Derived.Deep.RegionLaw
import Derived.Deep.QuietTactic
import Derived.Laws.StructEq
/- Losses, as far as they are left: rows of them (a row's c is its expiry, its y its origin, its a what is left), ascending, none of them nothing; what a place has; one more, one changed, one gone: mathematics alone. -/
namespace Go.Proofs.YtmlafdehhbhbiaaGreat
def VOk (c y : Int) : Prop := 0 ≤ y ∧ y ≤ 99 ∧ y ≤ c ∧ c ≤ 198
structure VRow (n : Nat) (g : Nat → Bk) : Prop where
 ok : ∀ j, j < n → VOk (g j).c (g j).y
 nz : ∀ j, j < n → (g j).a ≠ 0
 asc : ∀ i j, i < j → j < n → Bl (g i).c (g i).y (g j).c (g j).y
def VIs (S : Int → Int → Int) (n : Nat) (g : Nat → Bk) : Prop := VRow n g ∧ ∀ c y, bget g n c y = S c y
section
variable {S : Int → Int → Int} {n m p : Nat} {g h : Nat → Bk} {c y v : Int}
theorem VRow.inj (r : VRow n g) {i j : Nat} (hi : i < n) (hj : j < n) (h1 : (g i).c = (g j).c) (h2 : (g i).y = (g j).y) : i = j := by
 rcases Nat.lt_trichotomy i j with q | q | q
 · have := r.asc i j q hj; rw [h1, h2] at this; exact absurd this (bl_irr _ _)
 · exact q
 · have := r.asc j i q hi; rw [h1, h2] at this; exact absurd this (bl_irr _ _)
theorem vget_at (r : VRow n g) {i : Nat} (hi : i < n) : bget g n (g i).c (g i).y = (g i).a := by
 unfold bget
 rw [tot_one _ i n hi fun j hj hne => ?_]
 · exact if_pos ⟨rfl, rfl⟩
 · exact if_neg fun e => hne (r.inj hj hi e.1 e.2)
theorem VIs.at (b : VIs S n g) {i : Nat} (hi : i < n) : S (g i).c (g i).y = (g i).a := (b.2 _ _).symm.trans (vget_at b.1 hi)
theorem VIs.has (b : VIs S n g) (h : S c y ≠ 0) : ∃ j, j < n ∧ (g j).c = c ∧ (g j).y = y := bget_some (by rw [b.2]; exact h)
theorem vis_zero (g : Nat → Bk) : VIs (fun _ _ => 0) 0 g := ⟨⟨fun j hj => by omega, fun j hj => by omega, fun i j _ hj => by omega⟩, fun _ _ => rfl⟩
theorem vis_le (b : VIs S n g) (b' : VIs S m h) : ∀ j, j < n → j < m ∧ g j = h j := by
 intro j
 induction j using Nat.strongRecOn with
 | _ j ih =>
   intro hj
   have same : ∀ i k, i < n → k < m → (g i).c = (h k).c → (g i).y = (h k).y → (g i).a = (h k).a := fun i k hi hk e1 e2 => by
     rw [← b.at hi, ← b'.at hk, e1, e2]
   obtain ⟨k, hk, e1, e2⟩ := b'.has (c := (g j).c) (y := (g j).y) (by rw [b.at hj]; exact b.1.nz j hj)
   have hjk : j ≤ k := by
     rcases Nat.lt_or_ge k j with q | q
     · obtain ⟨_, e⟩ := ih k q (by omega)
       have := b.1.inj (i := k) (j := j) (by omega) hj (by rw [e]; exact e1) (by rw [e]; exact e2)
       omega
     · exact q
   refine ⟨by omega, ?_⟩
   rcases Nat.lt_or_ge j k with q | q
   · exfalso
     have lt := b'.1.asc j k q hk
     rw [e1, e2] at lt
     obtain ⟨i, hi, f1, f2⟩ := b.has (c := (h j).c) (y := (h j).y) (by rw [b'.at (show j < m by omega)]; exact b'.1.nz j (by omega))
     rcases Nat.lt_trichotomy i j with z | z | z
     · obtain ⟨_, e⟩ := ih i z hi
       have := b'.1.inj (i := i) (j := j) (by omega) (by omega) (by rw [← e]; exact f1) (by rw [← e]; exact f2)
       omega
     · subst z
       rw [f1, f2] at lt
       exact bl_irr _ _ lt
     · have l2 := b.1.asc j i z hi
       rw [f1, f2] at l2
       unfold Bl at lt l2; omega
   · obtain rfl : j = k := by omega
     have e3 := same j j hj hk e1.symm e2.symm
     cases hg : g j; cases hh : h j
     simp only [hg, hh] at e1 e2 e3
     subst e1 e2 e3; rfl
theorem VIs.uniq (b : VIs S n g) (b' : VIs S m h) : n = m ∧ ∀ j, j < n → g j = h j := by
 refine ⟨?_, fun j hj => (vis_le b b' j hj).2⟩
 rcases Nat.lt_trichotomy n m with q | q | q
 · have := (vis_le b' b n q).1; omega
 · exact q
 · have := (vis_le b b' m q).1; omega
theorem VIs.total (b : VIs S n g) (b' : VIs S m h) : btot g n = btot h m := by
 obtain ⟨rfl, e⟩ := b.uniq b'
 exact tot_ext n fun j hj => by show (g j).a = (h j).a; rw [e j hj]
theorem vplace (r : VRow n g) (c y : Int) : ∃ p, p ≤ n ∧ (∀ j, j < p → Bl (g j).c (g j).y c y) ∧ ∀ j, p ≤ j → j < n → ((g j).c = c ∧ (g j).y = y) ∨ Bl c y (g j).c (g j).y := by
 induction n with
 | zero => exact ⟨0, by omega, fun j hj => by omega, fun j _ hj => by omega⟩
 | succ n ih =>
   obtain ⟨p, h1, h2, h3⟩ := ih ⟨fun j hj => r.ok j (by omega), fun j hj => r.nz j (by omega), fun i j hi hj => r.asc i j hi (by omega)⟩
   by_cases q : p < n
   · refine ⟨p, by omega, h2, fun j hp hj => ?_⟩
     by_cases e : j = n
     · subst e
       have := r.asc p j q hj
       rcases h3 p (Nat.le_refl _) q with ⟨rfl, rfl⟩ | z
       · exact .inr this
       · right; unfold Bl at *; omega
     · exact h3 j hp (by omega)
   · obtain rfl : p = n := by omega
     by_cases z : Bl (g p).c (g p).y c y
     · refine ⟨p + 1, Nat.le_refl _, fun j hj => ?_, fun j hp hj => by omega⟩
       by_cases e : j = p
       · rw [e]; exact z
       · exact h2 j (by omega)
     · refine ⟨p, by omega, h2, fun j hp hj => ?_⟩
       obtain rfl : j = p := by omega
       unfold Bl at *; omega
theorem vis_rep (b : VIs S n g) (hp : p < n) (hv : v ≠ 0) : VIs (upS S (g p).c (g p).y v) n (repB g p ⟨(g p).c, (g p).y, v⟩) ∧ btot (repB g p ⟨(g p).c, (g p).y, v⟩) n = btot g n - (g p).a + v := by
 have hc : ∀ j, (repB g p ⟨(g p).c, (g p).y, v⟩ j).c = (g j).c ∧ (repB g p ⟨(g p).c, (g p).y, v⟩ j).y = (g j).y := fun j => by
   unfold repB
   split
   · rename_i e; subst e; exact ⟨rfl, rfl⟩
   · exact ⟨rfl, rfl⟩
 refine ⟨⟨⟨fun j hj => ?_, fun j hj => ?_, fun i j hi hj => ?_⟩, fun c y => ?_⟩, ?_⟩
 · rw [(hc j).1, (hc j).2]; exact b.1.ok j hj
 · unfold repB
   split
   · exact hv
   · exact b.1.nz j hj
 · rw [(hc i).1, (hc i).2, (hc j).1, (hc j).2]; exact b.1.asc i j hi hj
 · have e : bget (repB g p ⟨(g p).c, (g p).y, v⟩) n c y = bget g n c y - bval (g p) c y + bval ⟨(g p).c, (g p).y, v⟩ c y := by
     unfold bget
     rw [← tot_rep (fun j => bval (g j) c y) p _ n hp]
     refine tot_ext n fun j _ => ?_
     unfold repB
     split <;> rfl
   rw [e, b.2]
   unfold upS bval
   by_cases q : (g p).c = c ∧ (g p).y = y
   · have q' : c = (g p).c ∧ y = (g p).y := ⟨q.1.symm, q.2.symm⟩
     rw [if_pos q, if_pos q, if_pos q', ← b.at hp, q.1, q.2]; dsimp only; omega
   · have q' : ¬ (c = (g p).c ∧ y = (g p).y) := fun z => q ⟨z.1.symm, z.2.symm⟩
     rw [if_neg q, if_neg q, if_neg q']; omega
 · unfold btot
   rw [← tot_rep (fun j => (g j).a) p v n hp]
   refine tot_ext n fun j _ => ?_
   unfold repB
   split <;> rfl
theorem vis_del (b : VIs S (n + 1) g) (hp : p < n + 1) : VIs (upS S (g p).c (g p).y 0) n (delB g p) ∧ btot (delB g p) n = btot g (n + 1) - (g p).a := by
 have hd : ∀ j, j < n → delB g p j = g (if j < p then j else j + 1) := fun j _ => by
   unfold delB
   split <;> rfl
 have hlt : ∀ j, j < n → (if j < p then j else j + 1) < n + 1 := fun j hj => by split <;> omega
 refine ⟨⟨⟨fun j hj => ?_, fun j hj => ?_, fun i j hi hj => ?_⟩, fun c y => ?_⟩, ?_⟩
 · rw [hd j hj]; exact b.1.ok _ (hlt j hj)
 · rw [hd j hj]; exact b.1.nz _ (hlt j hj)
 · rw [hd i (by omega), hd j hj]
   exact b.1.asc _ _ (by split <;> split <;> omega) (hlt j hj)
 · have e := tot_del (fun j => bval (g j) c y) p n (by omega)
   have e' : bget (delB g p) n c y = tot (fun j => if j < p then bval (g j) c y else bval (g (j + 1)) c y) n := by
     unfold bget
     refine tot_ext n fun j _ => ?_
     unfold delB
     split <;> rfl
   have e2 := b.2 c y
   unfold bget at e2
   rw [e']
   unfold upS
   by_cases q : (g p).c = c ∧ (g p).y = y
   · have q' : c = (g p).c ∧ y = (g p).y := ⟨q.1.symm, q.2.symm⟩
     have z : bval (g p) c y = (g p).a := if_pos q
     have za := b.at hp
     rw [q.1, q.2] at za
     rw [if_pos q']
     simp only [z] at e; omega
   · have q' : ¬ (c = (g p).c ∧ y = (g p).y) := fun z => q ⟨z.1.symm, z.2.symm⟩
     have z : bval (g p) c y = 0 := if_neg q
     rw [if_neg q']
     simp only [z] at e; omega
 · have e := tot_del (fun j => (g j).a) p n (by omega)
   have e' : btot (delB g p) n = tot (fun j => if j < p then (g j).a else (g (j + 1)).a) n := by
     unfold btot
     refine tot_ext n fun j _ => ?_
     unfold delB
     split <;> rfl
   rw [e']
   unfold btot
   omega
theorem vis_ins (b : VIs S n g) (hp : p ≤ n) (hok : VOk c y) (hv : v ≠ 0) (h1 : ∀ j, j < p → Bl (g j).c (g j).y c y) (h2 : ∀ j, p ≤ j → j < n → Bl c y (g j).c (g j).y) :
   VIs (upS S c y v) (n + 1) (insB g p ⟨c, y, v⟩) ∧ btot (insB g p ⟨c, y, v⟩) (n + 1) = btot g n + v ∧ S c y = 0 := by
 have hS : S c y = 0 := by
   rw [← b.2]
   refine bget_none fun j hj e => ?_
   by_cases q : j < p
   · have := h1 j q; rw [e.1, e.2] at this; exact bl_irr _ _ this
   · have := h2 j (by omega) hj; rw [e.1, e.2] at this; exact bl_irr _ _ this
 refine ⟨⟨⟨fun j hj => ?_, fun j hj => ?_, fun i j hi hj => ?_⟩, fun c' y' => ?_⟩, ?_, hS⟩
 · unfold insB
   split
   · exact b.1.ok j (by omega)
   · split
     · exact hok
     · exact b.1.ok _ (by omega)
 · unfold insB
   split
   · exact b.1.nz j (by omega)
   · split
     · exact hv
     · exact b.1.nz _ (by omega)
 · unfold insB
   by_cases q1 : i < p
   · rw [if_pos q1]
     by_cases q2 : j < p
     · rw [if_pos q2]; exact b.1.asc i j hi (by omega)
     · rw [if_neg q2]
       by_cases q3 : j = p
       · rw [if_pos q3]; exact h1 i q1
       · rw [if_neg q3]; exact b.1.asc i (j - 1) (by omega) (by omega)
   · rw [if_neg q1, if_neg (show ¬ j < p by omega), if_neg (show ¬ j = p by omega)]
     by_cases q3 : i = p
     · rw [if_pos q3]; exact h2 (j - 1) (by omega) (by omega)
     · rw [if_neg q3]; exact b.1.asc (i - 1) (j - 1) (by omega) (by omega)
 · have e := tot_ins (fun j => bval (g j) c' y') p (bval ⟨c, y, v⟩ c' y') n hp
   have e' : bget (insB g p ⟨c, y, v⟩) (n + 1) c' y' = tot (fun j => if j < p then bval (g j) c' y' else if j = p then bval ⟨c, y, v⟩ c' y' else bval (g (j - 1)) c' y') (n + 1) := by
     unfold bget
     refine tot_ext (n + 1) fun j _ => ?_
     unfold insB
     split
     · rfl
     · split <;> rfl
   have e2 := b.2 c' y'
   unfold bget at e2
   rw [e', e, e2]
   unfold upS bval
   by_cases q : c' = c ∧ y' = y
   · rw [if_pos q, if_pos ⟨q.1.symm, q.2.symm⟩, q.1, q.2, hS]; dsimp only; omega
   · rw [if_neg q, if_neg fun z => q ⟨z.1.symm, z.2.symm⟩]; omega
 · unfold btot
   rw [← tot_ins (fun j => (g j).a) p v n hp]
   refine tot_ext (n + 1) fun j _ => ?_
   unfold insB
   split
   · rfl
   · split <;> rfl
theorem vis_set (b : VIs S n g) (hok : VOk c y) (v : Int) : ∃ m h, VIs (upS S c y v) m h ∧ btot h m = btot g n - S c y + v ∧ (m : Int) = n - (if S c y = 0 then 0 else 1) + (if v = 0 then 0 else 1) := by
 by_cases q : S c y = 0
 · by_cases hv : v = 0
   · subst hv
     have e := upS_same S c y
     rw [q] at e
     exact ⟨n, g, by rw [e]; exact b, by omega, by rw [if_pos q, if_pos rfl]; omega⟩
   · obtain ⟨p, h1, h2, h3⟩ := vplace b.1 c y
     obtain ⟨k1, k2, _⟩ := vis_ins b h1 hok hv h2 fun j hp hj => (h3 j hp hj).resolve_left fun e => by
       have := b.at hj
       rw [e.1, e.2, q] at this
       exact b.1.nz j hj this.symm
     exact ⟨n + 1, _, k1, by omega, by rw [if_pos q, if_neg hv]; omega⟩
 · obtain ⟨p, hp, rfl, rfl⟩ := b.has q
   have ha := b.at hp
   by_cases hv : v = 0
   · subst hv
     obtain ⟨n', rfl⟩ : ∃ n', n = n' + 1 := ⟨n - 1, by omega⟩
     obtain ⟨k1, k2⟩ := vis_del b hp
     exact ⟨n', _, k1, by omega, by rw [if_neg q, if_pos rfl]; omega⟩
   · obtain ⟨k1, k2⟩ := vis_rep b hp hv
     exact ⟨n, _, k1, by omega, by rw [if_neg q, if_neg hv]; omega⟩
end
section
variable {S : Int → Int → Int} {n m k : Nat} {g h : Nat → Bk} {c y v : Int} {x : Bk} {ins : Bool}
theorem VRow.push (r : VRow m h) (hok : VOk x.c x.y) (hnz : x.a ≠ 0) (hlt : ∀ i, i < m → Bl (h i).c (h i).y x.c x.y) : VRow (m + 1) (pushB h m x) := by
 refine ⟨fun j hj => ?_, fun j hj => ?_, fun i j hi hj => ?_⟩
 · by_cases e : j = m
   · rw [e, pushB_at]; exact hok
   · rw [pushB_ne h x e]; exact r.ok j (by omega)
 · by_cases e : j = m
   · rw [e, pushB_at]; exact hnz
   · rw [pushB_ne h x e]; exact r.nz j (by omega)
 · rw [pushB_ne h x (show i ≠ m by omega)]
   by_cases e : j = m
   · rw [e, pushB_at]; exact hlt i (by omega)
   · rw [pushB_ne h x e]; exact r.asc i j hi (by omega)
structure VSet (g : Nat → Bk) (n k : Nat) (c y v : Int) (ins : Bool) (m : Nat) (h : Nat → Bk) : Prop where
 row : VRow m h
 val : ∀ c' y', bget h m c' y' = if c' = c ∧ y' = y then (if ins = true then v else 0) else bget g k c' y'
 ahead : ∀ i j, i < m → k ≤ j → j < n → Bl (h i).c (h i).y (g j).c (g j).y
 low : v ≠ 0 → ins = false → ∀ i, i < m → Bl (h i).c (h i).y c y
 insv : ins = true → v ≠ 0
 size : m ≤ k + 1 ∧ (ins = false → m ≤ k)
theorem VSet.zero (g : Nat → Bk) (n : Nat) (c y v : Int) (h : Nat → Bk) : VSet g n 0 c y v false 0 h :=
 ⟨⟨fun j hj => by omega, fun j hj => by omega, fun i j _ hj => by omega⟩, fun c' y' => by
   rw [if_neg (show ¬ (false = true) by decide)]
   split <;> rfl, fun i j hi => by omega, fun _ _ i hi => by omega, fun e => (by cases e), by omega, fun _ => by omega⟩
theorem VSet.skip (s : VSet g n k c y v ins m h) (hx : (g k).c = c ∧ (g k).y = y) : VSet g n (k + 1) c y v ins m h := by
 refine ⟨s.row, fun c' y' => ?_, fun i j hi hj => s.ahead i j hi (by omega), s.low, s.insv, by have := s.size.1; omega, fun e => by have := s.size.2 e; omega⟩
 rw [s.val]
 split
 · rfl
 · rename_i q
   rw [bget_succ, show bval (g k) c' y' = 0 from if_neg fun e => q ⟨e.1.symm.trans hx.1, e.2.symm.trans hx.2⟩]; omega
theorem VSet.keep (s : VSet g n k c y v ins m h) (r : VRow n g) (hk : k < n) (hx : ¬ ((g k).c = c ∧ (g k).y = y)) (hd : v = 0 ∨ ins = true ∨ ¬ Bl c y (g k).c (g k).y) : VSet g n (k + 1) c y v ins (m + 1) (pushB h m (g k)) := by
 refine ⟨s.row.push (r.ok k hk) (r.nz k hk) fun i hi => s.ahead i k hi (Nat.le_refl _) hk, fun c' y' => ?_, fun i j hi hj hn => ?_, fun hv hi0 i hi => ?_, s.insv, by have := s.size.1; omega, fun e => by have := s.size.2 e; omega⟩
 · rw [bget_push, s.val]
   split
   · rename_i q
     rw [show bval (g k) c' y' = 0 from if_neg fun e => hx ⟨e.1.trans q.1, e.2.trans q.2⟩]; omega
   · rw [bget_succ]
 · by_cases e : i = m
   · rw [e, pushB_at]; exact r.asc k j (by omega) hn
   · rw [pushB_ne h _ e]; exact s.ahead i j (by omega) (by omega) hn
 · by_cases e : i = m
   · rw [e, pushB_at]
     rcases hd with h0 | h1 | h2
     · exact absurd h0 hv
     · rw [hi0] at h1; cases h1
     · unfold Bl at *
       omega
   · rw [pushB_ne h _ e]; exact s.low hv hi0 i (by omega)
theorem VSet.put (s : VSet g n k c y v false m h) (hok : VOk c y) (hv : v ≠ 0) (hlt : ∀ j, k ≤ j → j < n → Bl c y (g j).c (g j).y) : VSet g n k c y v true (m + 1) (pushB h m ⟨c, y, v⟩) := by
 refine ⟨s.row.push hok hv fun i hi => s.low hv rfl i hi, fun c' y' => ?_, fun i j hi hj hn => ?_, fun _ e => (by cases e), fun _ => hv, by have := s.size.2 rfl; omega, fun e => by cases e⟩
 · rw [bget_push, s.val]
   by_cases q : c' = c ∧ y' = y
   · have z : bval ⟨c, y, v⟩ c' y' = v := if_pos ⟨q.1.symm, q.2.symm⟩
     rw [if_pos q, if_pos q, z, if_neg (show ¬ (false = true) by decide), if_pos rfl]; omega
   · have z : bval ⟨c, y, v⟩ c' y' = 0 := if_neg fun e => q ⟨e.1.symm, e.2.symm⟩
     rw [if_neg q, if_neg q, z]; omega
 · by_cases e : i = m
   · rw [e, pushB_at]; exact hlt j hj hn
   · rw [pushB_ne h _ e]; exact s.ahead i j (by omega) hj hn
theorem vbehind (r : VRow n g) (hx : Bl c y (g k).c (g k).y) : ∀ j, k ≤ j → j < n → Bl c y (g j).c (g j).y := fun j hj hn => by
 rcases Nat.lt_or_ge k j with q | q
 · have := r.asc k j q hn
   unfold Bl at *; omega
 · obtain rfl : j = k := by omega
   exact hx
theorem VSet.done (s : VSet g n n c y v ins m h) (b : VIs S n g) (hd : v = 0 ∨ ins = true) : VIs (upS S c y v) m h := by
 refine ⟨s.row, fun c' y' => ?_⟩
 rw [s.val, b.2]
 unfold upS
 split
 · split
   · rfl
   · rename_i q
     exact (hd.resolve_right q).symm
 · rfl
end
theorem vis_count {S : Int → Int → Int} {n m : Nat} {g h : Nat → Bk} {c y v : Int} (b : VIs S n g) (hok : VOk c y) (b' : VIs (upS S c y v) m h) : (m : Int) = cntB n (S c y) v ∧ btot h m = btot g n - S c y + v := by
 obtain ⟨m', h', k1, k2, k3⟩ := vis_set b hok v
 obtain ⟨rfl, _⟩ := b'.uniq k1
 exact ⟨k3, (b'.total k1).trans k2⟩
end Go.Proofs.YtmlafdehhbhbiaaGreat
/- Losses: what may be; a loss more; some less, some gone: mathematics alone. -/
namespace Go.Proofs.YtmlafdehhbhbiaaGreat
structure VInv (S : Int → Int → Int) (n : Nat) (g : Nat → Bk) : Prop where
 is : VIs S n g
 le : n ≤ 12
 pos : ∀ j, j < n → 0 ≤ (g j).a
 all : btot g n ≤ 100000000000
theorem VInv.zero (g : Nat → Bk) : VInv (fun _ _ => 0) 0 g := ⟨vis_zero g, by omega, fun j hj => by omega, by unfold btot; simp [tot]⟩
section
variable {S : Int → Int → Int} {n m k : Nat} {g h G : Nat → Bk} {c y a e e' : Int}
theorem VInv.low (iv : VInv S n g) : 0 ≤ btot g n := tot_nonneg n fun j hj => iv.pos j hj
theorem VInv.one (iv : VInv S n g) {j : Nat} (hj : j < n) : 1 ≤ (g j).a ∧ (g j).a ≤ btot g n := by
 have h1 := iv.pos j hj
 have h2 := iv.is.1.nz j hj
 have h3 := tot_one_le (g := fun j => (g j).a) n (fun j hj => iv.pos j hj) j hj
 exact ⟨by omega, h3⟩
theorem VInv.mon (iv : VInv S n g) {j : Nat} (hj : j < n) : Mon (g j).a := by
 have := iv.one hj
 have := iv.all
 unfold Mon; omega
theorem VInv.at (iv : VInv S n g) (c y : Int) : 0 ≤ S c y ∧ S c y ≤ btot g n := by
 by_cases z : S c y = 0
 · rw [z]; exact ⟨Int.le_refl _, iv.low⟩
 · obtain ⟨j, hj, e1, e2⟩ := iv.is.has z
   have := iv.is.at hj
   rw [e1, e2] at this
   rw [this]
   have := iv.one hj
   omega
inductive AErr (S : Int → Int → Int) (n : Nat) (T c y a : Int) : Int → Prop
 | arg : ¬ (VOk c y ∧ 1 ≤ a ∧ a ≤ 100000000000) → AErr S n T c y a 1
 | over : VOk c y ∧ 1 ≤ a ∧ a ≤ 100000000000 → 100000000000 < T + a → AErr S n T c y a 6
 | limit : VOk c y ∧ 1 ≤ a ∧ a ≤ 100000000000 → T + a ≤ 100000000000 → S c y = 0 → 12 ≤ n → AErr S n T c y a 5
 | ok : VOk c y ∧ 1 ≤ a ∧ a ≤ 100000000000 → T + a ≤ 100000000000 → (S c y ≠ 0 ∨ n < 12) → AErr S n T c y a 0
theorem aerr_any (S : Int → Int → Int) (n : Nat) (T c y a : Int) : ∃ e, AErr S n T c y a e := by
 by_cases h1 : VOk c y ∧ 1 ≤ a ∧ a ≤ 100000000000
 · by_cases h2 : T + a ≤ 100000000000
   · by_cases h3 : S c y = 0 ∧ 12 ≤ n
     · exact ⟨5, .limit h1 h2 h3.1 h3.2⟩
     · exact ⟨0, .ok h1 h2 (by omega)⟩
   · exact ⟨6, .over h1 (by omega)⟩
 · exact ⟨1, .arg h1⟩
theorem VInv.add (iv : VInv S n g) (h1 : VOk c y ∧ 1 ≤ a ∧ a ≤ 100000000000) (h2 : btot g n + a ≤ 100000000000) (h3 : S c y ≠ 0 ∨ n < 12) (b : VIs (upS S c y (S c y + a)) m h) : VInv (upS S c y (S c y + a)) m h ∧ btot h m = btot g n + a := by
 obtain ⟨k1, k2⟩ := vis_count iv.is h1.1 b
 have hs := iv.at c y
 have hn := iv.le
 refine ⟨⟨b, ?_, fun j hj => ?_, by omega⟩, by omega⟩
 · unfold cntB at k1
   rw [if_neg (show ¬ S c y + a = 0 by omega)] at k1
   rcases h3 with h3 | h3
   · rw [if_neg h3] at k1; omega
   · split at k1 <;> omega
 · rw [← b.at hj]
   unfold upS
   split
   · omega
   · exact (iv.at _ _).1
structure Flt (n : Nat) (G : Nat → Bk) (k m : Nat) (h : Nat → Bk) : Prop where
 row : VRow m h
 val : ∀ c y, bget h m c y = bget G k c y
 sum : btot h m = btot G k
 ahead : ∀ i j, i < m → k ≤ j → j < n → Bl (h i).c (h i).y (G j).c (G j).y
 le : m ≤ k
theorem Flt.zero (n : Nat) (G h : Nat → Bk) : Flt n G 0 0 h := ⟨⟨fun j hj => by omega, fun j hj => by omega, fun i j _ hj => by omega⟩, fun _ _ => rfl, rfl, fun i j hi => by omega, Nat.le_refl _⟩
theorem Flt.skip (f : Flt n G k m h) (hz : (G k).a = 0) : Flt n G (k + 1) m h :=
 ⟨f.row, fun c y => by
   rw [bget_succ, f.val, show bval (G k) c y = 0 by unfold bval; split <;> first | exact hz | rfl]; omega,
   by rw [f.sum]; show btot G k = btot G k + (G k).a; omega, fun i j hi hj => f.ahead i j hi (by omega), by have := f.le; omega⟩
theorem Flt.keep (f : Flt n G k m h) (hk : k < n) (hok : ∀ j, j < n → VOk (G j).c (G j).y) (hasc : ∀ i j, i < j → j < n → Bl (G i).c (G i).y (G j).c (G j).y) (hz : (G k).a ≠ 0) : Flt n G (k + 1) (m + 1) (pushB h m (G k)) := by
 refine ⟨f.row.push (hok k hk) hz fun i hi => f.ahead i k hi (Nat.le_refl _) hk, fun c y => by rw [bget_push, f.val, bget_succ], ?_, fun i j hi hj hn => ?_, by have := f.le; omega⟩
 · show btot (pushB h m (G k)) m + (pushB h m (G k) m).a = btot G k + (G k).a
   rw [pushB_at, ← f.sum]
   refine congrArg (· + (G k).a) (tot_ext m fun j hj => ?_)
   rw [pushB_ne h _ (show j ≠ m by omega)]
 · by_cases e : i = m
   · rw [e, pushB_at]; exact hasc k j (by omega) hn
   · rw [pushB_ne h _ e]; exact f.ahead i j (by omega) (by omega) hn
theorem Flt.done (f : Flt n G n m h) : VIs (bget G n) m h := ⟨f.row, f.val⟩
theorem flt_any (hok : ∀ j, j < n → VOk (G j).c (G j).y) (hasc : ∀ i j, i < j → j < n → Bl (G i).c (G i).y (G j).c (G j).y) (h0 : Nat → Bk) : ∀ k, k ≤ n → ∃ m h, Flt n G k m h
 | 0, _ => ⟨0, h0, Flt.zero _ _ _⟩
 | k + 1, hk => by
   obtain ⟨m, h, f⟩ := flt_any hok hasc h0 k (by omega)
   by_cases z : (G k).a = 0
   · exact ⟨m, h, f.skip z⟩
   · exact ⟨m + 1, _, f.keep (by omega) hok hasc z⟩
def lessG (g : Nat → Bk) (u : Nat → Int) : Nat → Bk := fun j => ⟨(g j).c, (g j).y, (g j).a - u j⟩
theorem VInv.less (iv : VInv S n g) {u : Nat → Int} (hu : ∀ j, j < n → 0 ≤ u j ∧ u j ≤ (g j).a) (f : Flt n (lessG g u) n m h) : VInv (bget (lessG g u) n) m h ∧ btot h m = btot g n - tot u n := by
 have e : btot (lessG g u) n = btot g n - tot u n := by
   unfold btot
   have : ∀ k, tot (fun j => (lessG g u j).a) k = tot (fun j => (g j).a) k - tot u k := by
     intro k
     induction k with
     | zero => rfl
     | succ k ih => rw [tot, tot, tot, ih]; show _ + ((g k).a - u k) = _; omega
   exact this n
 have hu0 : 0 ≤ tot u n := tot_nonneg n fun j hj => (hu j hj).1
 have hl := f.le
 have hle := iv.le
 have hal := iv.all
 refine ⟨⟨f.done, by omega, fun j hj => ?_, by rw [f.sum, e]; omega⟩, by rw [f.sum, e]⟩
 rw [← f.done.at hj]
 show 0 ≤ bget (lessG g u) n (h j).c (h j).y
 refine tot_nonneg n fun i hi => ?_
 show 0 ≤ bval (lessG g u i) _ _
 unfold bval
 split
 · show 0 ≤ (g i).a - u i
   have := hu i hi; omega
 · exact Int.le_refl _
def goneU (g : Nat → Bk) (year : Int) : Nat → Int := fun j => if (g j).c < year then (g j).a else 0
theorem VInv.gone (iv : VInv S n g) (year : Int) : ∀ j, j < n → 0 ≤ goneU g year j ∧ goneU g year j ≤ (g j).a := fun j hj => by
 have := iv.one hj
 unfold goneU; split <;> omega
end
end Go.Proofs.YtmlafdehhbhbiaaGreat
/- A loss more, row by row: mathematics alone. -/
namespace Go.Proofs.YtmlafdehhbhbiaaGreat
structure AIn (g : Nat → Bk) (n k : Nat) (c y X : Int) (ins : Bool) (m : Nat) (h : Nat → Bk) : Prop where
 set : VSet g n k c y X ins m h
 new : ins = false → ∀ j, j < k → ¬ ((g j).c = c ∧ (g j).y = y)
section
variable {S : Int → Int → Int} {n m k : Nat} {g h : Nat → Bk} {c y a X : Int} {ins : Bool}
theorem AIn.zero (g : Nat → Bk) (n : Nat) (c y X : Int) (h : Nat → Bk) : AIn g n 0 c y X false 0 h := ⟨VSet.zero _ _ _ _ _ _, fun _ j hj => by omega⟩
theorem AIn.fresh (s : AIn g n k c y X ins m h) (hk : k < n) (hx : (g k).c = c ∧ (g k).y = y) : ins = false := by
 cases e : ins with
 | false => rfl
 | true =>
   exfalso
   subst e
   have hv := s.set.val c y
   rw [if_pos ⟨rfl, rfl⟩, if_pos rfl] at hv
   obtain ⟨i, hi, e1, e2⟩ := bget_some (g := h) (n := m) (c := c) (y := y) (by rw [hv]; exact s.set.insv rfl)
   have := s.set.ahead i k hi (Nat.le_refl _) hk
   rw [e1, e2, hx.1, hx.2] at this
   exact bl_irr _ _ this
theorem AIn.same (s : AIn g n k c y X ins m h) (b : VIs S n g) (hX : X = S c y + a) (h0 : X ≠ 0) (hok : VOk c y) (hk : k < n) (hx : (g k).c = c ∧ (g k).y = y) :
   AIn g n (k + 1) c y X true (m + 1) (pushB h m ⟨c, y, X⟩) ∧ (g k).a + a = X := by
 have e := s.fresh hk hx
 subst e
 refine ⟨⟨(s.set.skip hx).put hok h0 fun j hj hn => ?_, fun e => by cases e⟩, ?_⟩
 · have := b.1.asc k j (by omega) hn
   rw [hx.1, hx.2] at this
   exact this
 · have := b.at hk
   rw [hx.1, hx.2] at this
   omega
theorem AIn.ahead (s : AIn g n k c y X ins m h) (b : VIs S n g) (hk : k < n) (hx : ¬ ((g k).c = c ∧ (g k).y = y)) (hd : ins = true ∨ ¬ Bl c y (g k).c (g k).y) : AIn g n (k + 1) c y X ins (m + 1) (pushB h m (g k)) :=
 ⟨s.set.keep b.1 hk hx (.inr hd), fun e j hj => by
   by_cases q : j = k
   · rw [q]; exact hx
   · exact s.new e j (by omega)⟩
theorem AIn.none (s : AIn g n k c y X false m h) (b : VIs S n g) (hl : ∀ j, k ≤ j → j < n → Bl c y (g j).c (g j).y) : S c y = 0 := by
 refine Classical.byContradiction fun z => ?_
 obtain ⟨j, hj, e1, e2⟩ := b.has z
 by_cases q : j < k
 · exact s.new rfl j q ⟨e1, e2⟩
 · have := hl j (by omega) hj
   rw [e1, e2] at this
   exact bl_irr _ _ this
theorem AIn.between (s : AIn g n k c y X false m h) (b : VIs S n g) (hX : X = S c y + a) (h0 : X ≠ 0) (hok : VOk c y) (hk : k < n) (hl : Bl c y (g k).c (g k).y) :
   a = X ∧ AIn g n (k + 1) c y X true (m + 1 + 1) (pushB (pushB h m ⟨c, y, X⟩) (m + 1) (g k)) := by
 have hb := vbehind b.1 hl
 have z := s.none b hb
 refine ⟨by omega, ⟨(s.set.put hok h0 hb).keep b.1 hk (fun e => ?_) (.inr (.inl rfl)), fun e => by cases e⟩⟩
 rw [e.1, e.2] at hl
 exact bl_irr _ _ hl
theorem AIn.last (s : AIn g n n c y X false m h) (b : VIs S n g) (hX : X = S c y + a) (h0 : X ≠ 0) (hok : VOk c y) : a = X ∧ VIs (upS S c y X) (m + 1) (pushB h m ⟨c, y, X⟩) := by
 have z := s.none b fun j hj hn => by omega
 exact ⟨by omega, (s.set.put hok h0 fun j hj hn => by omega).done b (.inr rfl)⟩
theorem AIn.fin (s : AIn g n n c y X true m h) (b : VIs S n g) : VIs (upS S c y X) m h := s.set.done b (.inr rfl)
end
end Go.Proofs.YtmlafdehhbhbiaaGreat
/- The document's own losses: what is left, a copy: a contract for each; its rows. -/
namespace Go.Proofs.YtmlafdehhbhbiaaGreat
open Go.RowKit
def ve (x : Bk) : List Value := [.int .i64 x.y, .int .i64 x.c, .int .i64 x.a]
theorem ve_len (x : Bk) : (ve x).length = 3 := rfl
theorem ve_one (x : Bk) : ∀ u ∈ ve x, u.oneCell' = true := by
 intro u hu
 unfold ve at hu
 simp only [List.mem_cons, List.not_mem_nil, or_false] at hu
 rcases hu with rfl | rfl | rfl <;> rfl
theorem vn_info : (Tryz.prog.info? 85).map (fun i => (i.zero, i.size, i.bytes)) = some (some (.agg #[.int .i64 0, .int .i64 0, .int .i64 0]), 3, 24) := by kernel_rfl
theorem vn_type : Tryz.prog.underlying 60 = some (.slice 85) := Tryz.underlying60
structure LV (w : World) (O : Nat → Nat) (base t sb : Nat) (v : Value) (n : Nat) (g : Nat → Bk) : Prop where
 hd : Head w O t sb [v]
 row : RowT w O base t sb 85 3 v n (rl ve g n)
section
variable {w w1 : World} {O O1 : Nat → Nat} {base t t' sb n : Nat} {v : Value} {g : Nat → Bk} {S : Int → Int → Int}
theorem LV.below (s : LV w O base t sb v n g) (k : Below w.heap.size w w1) : LV w1 O base t sb v n g := ⟨s.hd.below k, s.row.below k⟩
theorem LV.step (s : LV w O base t sb v n g) (k : Step base O t' w O1 w1) (h : t ≠ t') : LV w1 O1 base t sb v n g := ⟨s.hd.step k h, s.row.step k h⟩
theorem LV.own (s : LV w O base t sb v n g) : OwnR ve 3 w 85 base v n g := s.row.own
theorem LV.new (fn : Fin0 base O w) (hb : base ≤ w.heap.size) (T : TypeId) (g : Nat → Bk) :
   LV (w.alloc (.cells #[.slice none 0 0] T)) (mark O t w.heap.size) base t w.heap.size (.slice none 0 0) 0 g ∧ ∀ t', Step base O t' w (mark O t w.heap.size) (w.alloc (.cells #[.slice none 0 0] T)) :=
 ⟨⟨Head.new w O t _ T, RowT.nil _ _ _ _ _ _ _⟩, fun t' => Step.made fn hb _ t'⟩
theorem LV.at (s : LV w O base t sb v n g) : ∃ A c, v = .slice A n c ∧ n ≤ c ∧ c ≤ maxLen ∧ (A = none → n = 0 ∧ c = 0) ∧ AtR ve 3 w A n g := s.own.at ve_len
theorem AtR.threeV {A : Option Addr} (r : AtR ve 3 w A n g) {k : Nat} (hk : k < n) : ∃ b off, A = Option.some ⟨b, off, none⟩ ∧ b < w.heap.size ∧ w.cell? ⟨b, off + k * 3, none⟩ = Option.some (.int .i64 (g k).y) ∧ w.cell? ⟨b, off + k * 3 + 1, none⟩ = Option.some (.int .i64 (g k).c) ∧ w.cell? ⟨b, off + k * 3 + 2, none⟩ = Option.some (.int .i64 (g k).a) := by
 obtain ⟨b, off, e, hb, hc⟩ := r.some (by omega)
 exact ⟨b, off, e, hb, hc k hk 0 _ rfl, hc k hk 1 _ rfl, hc k hk 2 _ rfl⟩
theorem rlleft (s : LV w O base t sb v n g) (hn : n ≤ 1000) (hg : ∀ j, j < n → Mon (g j).a) :
   Calls Tryz.prog 65 #[ptr sb] w fun e w' => e = .returned (.int .i64 (btot g n)) ∧ Below w.heap.size w w' := by
 have c0 := s.hd.c0
 obtain ⟨A, cc, rfl, hc, hm, _, ha⟩ := s.at
 have HA := Lib.hid ha
 have HG := Lib.hid hg
 clear s ha hg
 go_enter Tryz.func65, Tryz.ntmps65
 go_wp2
 go_loopg [3, 11] n (fun gh x i wr => ∃ k : Nat, k ≤ n ∧ gh = n - k ∧ i = .int .i64 k ∧ x = .int .i64 (btot g k) ∧ Below w.heap.size w wr)
 case atStart => exact ⟨0, Nat.zero_le _, rfl, rfl, rfl, Below.refl _ _⟩
 case round =>
   obtain ⟨k, hk, hgk, rfl, rfl, hbw⟩ := hrel
   have HGK := Lib.hid hgk
   have HW := Lib.hid hbw
   have tb := tot_bd (fun j => (g j).a) k fun j hj => HG.out j (by omega)
   obtain ⟨T, hT⟩ : ∃ T, btot g k = T := ⟨_, rfl⟩
   rw [show tot (fun j => (g j).a) k = T from hT] at tb
   rw [hT]
   have HT := Lib.hid hT
   clear hgk hbw hT
   by_cases hlt : k < n
   · obtain ⟨b, off, rfl, hb, c0, c1, c2⟩ := (HA.out.below HW.out).threeV hlt
     have hx := HG.out k hlt
     obtain ⟨x, hx'⟩ : ∃ x, (g k).a = x := ⟨_, rfl⟩
     rw [hx'] at c2 hx
     have HX := Lib.hid hx'
     clear hx'
     unfold Mon at hx
     obtain ⟨x1, x2⟩ := hx
     obtain ⟨t1, t2⟩ := tb
     have ew : IntKind.i64.wrap (T + x) = T + x := IntWalk.i64_in _ (by omega)
     clear t1 t2
     go_wp2
     go_roundg (n - (k + 1))
     case measure => have := HGK.out; omega
     case rel => exact ⟨k + 1, by omega, rfl, by go_num, by rw [← HT.out, ← HX.out]; rfl, HW.out.alloc HW.out.size _⟩
   · obtain rfl : k = n := by omega
     clear hlt tb
     go_wp2
     go_ret
     exact ⟨congrArg (fun x => Ending.returned (.int .i64 x)) HT.out.symm, HW.out⟩
theorem rlcopy (s : LV w O base t sb v n g) (hn : n ≤ 1000) {base2 : Nat} {O2 : Nat → Nat} (fn : Fin0 base2 O2 w) (hb : base2 ≤ w.heap.size) (t' : Nat) :
   Calls Tryz.prog 112 #[ptr sb] w fun e w' => ∃ v' sb' O', e = .returned (ptr sb') ∧ LV w' O' base2 t' sb' v' n g ∧ w.heap.size ≤ sb' ∧ ∀ t2, Step base2 O2 t2 w O' w' := by
 obtain ⟨i0, hi, hz0, hz1, hz2⟩ := info_parts vn_info
 have c0 := s.hd.c0
 obtain ⟨A, cc, rfl, hc, hm, _⟩ := s.row.form
 have HS := Lib.hid s
 have HF := Lib.hid fn
 clear s fn
 go_enter Tryz.func112, Tryz.ntmps112
 go_wp2_with (at_builtin; (refine wpList_app_row rfl (.const (.slice none 0 0)) (.tmp 6) rfl vn_type hi hz0 hz1 hz2 rfl (by decide) w w.heap.size base 0 n cc _ _ [] _ rfl rfl (World.ownsRow_nil _ _ _ _) HS.out.row.own (rl_one ve_one) (by unfold maxLen; omega) (by omega) (Below.refl _ _) (Nat.le_refl _) ?_; intro v1 w5 ho1 hb1 hg1; rw [Nat.zero_add, List.nil_append] at ho1; obtain ⟨A5, c5, rfl, _, _, _⟩ := own_form ho1; have HO5 := Lib.hid ho1; have K4 := Lib.hid hb1; clear ho1 hb1 hg1))
 go_ret
 obtain ⟨O1, m1, st1⟩ := fresh_marked HF.out hb K4.out HO5.out t'
 have z5 : base2 ≤ w5.heap.size := Nat.le_trans hb K4.out.size
 refine ⟨_, w5.heap.size, mark O1 t' w5.heap.size, rfl, ⟨Head.new w5 O1 t' _ _, ⟨own_mono (World.ownsRow.alloc HO5.out _) hb, fun b hb => ?_⟩⟩, K4.out.size, fun t2 => (st1 t2).trans (Step.made (st1 t2).fin z5 _ t2)⟩
 have := m1 b hb
 exact ⟨(mark_ne _ _ (by omega)).trans this.1, by omega⟩
theorem LV.takes (s : LV w O base t sb v n g) (fn : Fin0 base O w) (hb : base ≤ w.heap.size) (b : Below w.heap.size w w1) {v' : Value} {m : Nat} {h : Nat → Bk} (o : OwnR ve 3 w1 85 w.heap.size v' m h) :
   ∃ O', LV (w1.setCell ⟨sb, 0, none⟩ v') O' base t sb v' m h ∧ Step base O t w O' (w1.setCell ⟨sb, 0, none⟩ v') := by
 obtain ⟨O1, m1, st1⟩ := fresh_marked fn hb b o t
 have hd1 : Head w1 O1 t sb [v] := (s.hd.below b).block (O1 := O1) rfl (Nat.le_refl _) ((st1 t).ext sb s.hd.lt)
 have lt := s.hd.lt
 have k2 := Step.set (t := t) (st1 t).fin 0 v' hd1.tag
 refine ⟨O1, ⟨hd1.set 0 v' (by simp), ⟨?_, fun x hx => ⟨(m1 x hx).1, ?_⟩⟩⟩, (st1 t).trans k2⟩
 · refine own_blocks (own_mono o hb) fun x hx => Below.heap_setCell _ _ _ _ ?_
   have := (World.ownsRow.lt o x hx).1
   show x ≠ sb
   omega
 · have := (World.ownsRow.lt o x hx).1
   omega
end
end Go.Proofs.YtmlafdehhbhbiaaGreat
/- The document's own losses: Add: a contract. -/
namespace Go.Proofs.YtmlafdehhbhbiaaGreat
open Go.RowKit
section
variable {w w1 : World} {O O1 : Nat → Nat} {base t t' sb n : Nat} {v : Value} {g : Nat → Bk} {S : Int → Int → Int}
set_option maxHeartbeats 4000000 in
set_option maxRecDepth 100000 in
theorem rladd_no (s : LV w O base t sb v n g) (iv : VInv S n g) (c y a e : Int) (he : AErr S n (btot g n) c y a e) (h1 : e = 1 ∨ e = 6) :
   Calls Tryz.prog 118 #[ptr sb, .int .i64 y, .int .i64 c, .int .i64 a] w fun e' w' => e' = .returned (.int .i64 e) ∧ Below w.heap.size w w' := by
 have HS := Lib.hid s
 have HI := Lib.hid iv
 have hn : n ≤ 1000 := by have := iv.le; omega
 cases he
 case ok => omega
 case limit => omega
 case arg ha =>
   clear s iv h1
   unfold VOk at ha
   by_cases hy : 0 ≤ y ∧ y ≤ 99
   · have R1 := Lib.hid fun w => ryr_yes y w hy.1 hy.2
     obtain ⟨hy1, hy2⟩ := hy
     by_cases q1 : c < y
     · clear ha
       go_enter Tryz.func118, Tryz.ntmps118
       go_wp2_with (go_at_call 106; (with_reducible refine (R1.out _).mono ?_); rintro e w' ⟨rfl, rfl⟩)
       go_ret
       exact ⟨rfl, Below.refl _ _⟩
     · have d1 : decide (c < y) = false := by simpa using q1
       by_cases q2 : 198 < c
       · clear ha q1
         go_enter Tryz.func118, Tryz.ntmps118
         go_wp2_with (go_at_call 106; (with_reducible refine (R1.out _).mono ?_); rintro e w' ⟨rfl, rfl⟩)
         go_ret
         exact ⟨rfl, Below.refl _ _⟩
       · have d2 : decide (198 < c) = false := by simpa using q2
         by_cases q3 : a < 1
         · clear ha q1 q2
           go_enter Tryz.func118, Tryz.ntmps118
           go_wp2_with (go_at_call 106; (with_reducible refine (R1.out _).mono ?_); rintro e w' ⟨rfl, rfl⟩)
           go_ret
           exact ⟨rfl, Below.refl _ _⟩
         · have d3 : decide (a < 1) = false := by simpa using q3
           have q4 : 100000000000 < a := by omega
           clear ha q1 q2 q3
           go_enter Tryz.func118, Tryz.ntmps118
           go_wp2_with (go_at_call 106; (with_reducible refine (R1.out _).mono ?_); rintro e w' ⟨rfl, rfl⟩)
           go_ret
           exact ⟨rfl, Below.refl _ _⟩
   · have R1 := Lib.hid fun w => ryr_no y w (by omega)
     clear ha hy
     go_enter Tryz.func118, Tryz.ntmps118
     go_wp2_with (go_at_call 106; (with_reducible refine (R1.out _).mono ?_); rintro e w' ⟨rfl, rfl⟩)
     go_ret
     exact ⟨rfl, Below.refl _ _⟩
 case over ha ho =>
   obtain ⟨hv, ha1, ha2⟩ := ha
   unfold VOk at hv
   obtain ⟨hy1, hy2, hc1, hc2⟩ := hv
   have R1 := Lib.hid fun w => ryr_yes y w hy1 hy2
   have CT := Lib.hid (rlleft s hn fun j hj => iv.mon hj)
   have t1 := iv.low
   have t2 := iv.all
   obtain ⟨T, eT⟩ : ∃ T, btot g n = T := ⟨_, rfl⟩
   rw [eT] at ho t1 t2 CT
   have ew : IntKind.i64.wrap (T + a) = T + a := IntWalk.i64_in _ (by omega)
   have d1 : decide (c < y) = false := by simpa using hc1
   have d2 : decide (198 < c) = false := by simpa using hc2
   have d3 : decide (a < 1) = false := by simp; omega
   have d4 : decide (100000000000 < a) = false := by simpa using ha2
   clear s iv h1 eT
   go_enter Tryz.func118, Tryz.ntmps118
   go_wp2_with (first | (go_at_call 106; (with_reducible refine (R1.out _).mono ?_); rintro e w' ⟨rfl, rfl⟩) | (go_at_call 65; (with_reducible refine (CT.out).mono ?_); rintro e w1 ⟨rfl, hb1⟩; have K1 := Lib.hid hb1; clear hb1))
   go_ret
   exact ⟨rfl, K1.out⟩
set_option maxHeartbeats 8000000 in
set_option maxRecDepth 100000 in
theorem rladd (s : LV w O base t sb v n g) (iv : VInv S n g) (fn : Fin0 base O w) (hbase : base ≤ w.heap.size) (c y a X : Int) (hX : X = S c y + a) (h1 : VOk c y ∧ 1 ≤ a ∧ a ≤ 100000000000) (h2 : btot g n + a ≤ 100000000000) :
   Calls Tryz.prog 118 #[ptr sb, .int .i64 y, .int .i64 c, .int .i64 a] w fun e w' => ∃ (m : Nat) (h : Nat → Bk), ∃ r : Int, e = .returned (.int .i64 r) ∧ VIs (upS S c y X) m h ∧ ((12 < m ∧ r = 5 ∧ Below w.heap.size w w') ∨ (m ≤ 12 ∧ r = 0 ∧ ∃ v' O', LV w' O' base t sb v' m h ∧ Step base O t w O' w')) := by
 obtain ⟨i0, hi, hz0, hz1, hz2⟩ := info_parts vn_info
 have hn : n ≤ 1000 := by have := iv.le; omega
 have CT := Lib.hid (rlleft s hn fun j hj => iv.mon hj)
 have c0 := s.hd.c0
 have lt0 := s.hd.lt
 have g0 := s.hd.frz 0
 obtain ⟨A, cc, rfl, hc, hm, _, ha⟩ := s.at
 have hx0 : X ≠ 0 := by have := (iv.at c y).1; omega
 have xb : 1 ≤ X ∧ X ≤ 100000000000 := by have := iv.at c y; omega
 have HA := Lib.hid ha
 have HB := Lib.hid iv.is
 have HS := Lib.hid s
 have HF := Lib.hid fn
 have OK := Lib.hid h1.1
 have EX := Lib.hid hX
 have X0 := Lib.hid hx0
 have HN := Lib.hid hn
 obtain ⟨hv, ha1, ha2⟩ := h1
 unfold VOk at hv
 obtain ⟨hy1, hy2, hc1, hc2⟩ := hv
 have R1 := Lib.hid fun w => ryr_yes y w hy1 hy2
 have t1 := iv.low
 obtain ⟨T, eT⟩ : ∃ T, btot g n = T := ⟨_, rfl⟩
 rw [eT] at h2 t1 CT
 have ew : IntKind.i64.wrap (T + a) = T + a := IntWalk.i64_in _ (by omega)
 have d1 : decide (c < y) = false := by simpa using hc1
 have d2 : decide (198 < c) = false := by simpa using hc2
 have d3 : decide (a < 1) = false := by simp; omega
 have d4 : decide (100000000000 < a) = false := by simpa using ha2
 have d5 : decide (100000000000 < T + a) = false := by simpa using h2
 have XB := Lib.hid xb
 clear s iv ha fn hX hx0 hn eT t1 h2 hy1 hy2 hc1 hc2 ha1 ha2 xb hc hm
 go_enter Tryz.func118, Tryz.ntmps118
 go_wp2_with (first | (go_at_call 106; (with_reducible refine (R1.out _).mono ?_); rintro e w' ⟨rfl, rfl⟩) | (go_at_call 65; (with_reducible refine (CT.out).mono ?_); rintro e w1 ⟨rfl, hb1⟩; have K1 := Lib.hid hb1; have z0 := cell_keep c0 hb1; clear hb1))
 go_loopg [9, 10, 43] n (fun gh s9 s10 i wr => ∃ (k m : Nat) (h : Nat → Bk) (ins : Bool), k ≤ n ∧ gh = n - k ∧ i = .int .i64 k ∧ s10 = .bool ins ∧ AIn g n k c y X ins m h ∧ m ≤ k + 1 ∧ OwnR ve 3 wr 85 w.heap.size s9 m h ∧ Below w.heap.size w wr)
 case atStart => exact ⟨0, 0, g, false, Nat.zero_le _, rfl, rfl, rfl, AIn.zero _ _ _ _ _ _, by omega, OwnR.nil _ _ _ _ _ _, K1.out⟩
 case round =>
   obtain ⟨k, m, h, ins, hk, hgk, rfl, rfl, hsi, hmk, ho, hbw⟩ := hrel
   have HGK := Lib.hid hgk
   have HW := Lib.hid hbw
   have SI := Lib.hid hsi
   have HO := Lib.hid ho
   have hz := hbw.size
   have hn := HN.out
   clear hgk hbw hsi ho
   by_cases hlt : k < n
   · obtain ⟨b, off, rfl, hb, k0', k1', k2'⟩ := (HA.out.below HW.out).threeV hlt
     by_cases hcc : (g k).c = c ∧ (g k).y = y
     · have HC := Lib.hid hcc
       have p1 : ((g k).y == y) = true := by simpa using hcc.2
       have p2 : ((g k).c == c) = true := by simpa using hcc.1
       obtain ⟨hs1, hs2⟩ := SI.out.same HB.out EX.out X0.out OK.out hlt hcc
       have SN := Lib.hid hs1
       have ewx : IntKind.i64.wrap ((g k).a + a) = X := by rw [hs2]; exact IntWalk.i64_in _ (by have := XB.out; omega)
       clear hcc hs1 hs2
       go_wp2_with (at_builtin; (refine wpList_push_r rfl (.tmp 89) (.tmp 91) rfl vn_type hi hz0 hz1 hz2 (by decide) rfl (by decide) ve_len ve_one w w.heap.size m (wr.heap.size + 1) _ h ⟨(g k).c, (g k).y, X⟩ rfl rfl (rec_lit (wr.alloc _) (ve ⟨(g k).c, (g k).y, X⟩) 85 _ (by simp)) ((HO.out.alloc _).alloc _) (by omega) ((HW.out.alloc hz _).alloc (by simp; omega) _) (by simp; omega) _ rfl ?_; intro b2 c3 w6 ho2 hb2 hg2 hat2; have HO2 := Lib.hid ho2; have HW2 := Lib.hid hb2; clear ho2 hb2 hg2 hat2))
       go_roundg (n - (k + 1))
       case measure => have := HGK.out; omega
       case rel => exact ⟨k + 1, m + 1, _, true, by omega, rfl, by go_num, rfl, SN.out, by omega, by have q := HO2.out; rw [HC.out.1, HC.out.2] at q; exact q, HW2.out⟩
     · have HC := Lib.hid hcc
       have ways : (((g k).y == y) = false) ∨ (((g k).y == y) = true ∧ ((g k).c == c) = false) := by
         by_cases q1 : (g k).y = y
         · exact .inr ⟨by simpa using q1, by simpa using fun q2 => hcc ⟨q2, q1⟩⟩
         · exact .inl (by simpa using q1)
       cases ins with
       | true =>
         have SN := Lib.hid (SI.out.ahead HB.out hlt hcc (.inl rfl))
         clear hcc
         rcases ways with p1 | ⟨p1, p2⟩
         all_goals
           go_wp2_with (at_builtin; (refine wpList_push_r rfl (.tmp 89) (.tmp 91) rfl vn_type hi hz0 hz1 hz2 (by decide) rfl (by decide) ve_len ve_one w w.heap.size m (wr.heap.size + 1) _ h (g k) rfl rfl (rec_lit (wr.alloc _) (ve (g k)) 85 _ (by simp)) ((HO.out.alloc _).alloc _) (by omega) ((HW.out.alloc hz _).alloc (by simp; omega) _) (by simp; omega) _ rfl ?_; intro b2 c3 w6 ho2 hb2 hg2 hat2; have HO2 := Lib.hid ho2; have HW2 := Lib.hid hb2; clear ho2 hb2 hg2 hat2))
           go_roundg (n - (k + 1))
           case measure => have := HGK.out; omega
           case rel => exact ⟨k + 1, m + 1, _, true, by omega, rfl, by go_num, rfl, SN.out, by omega, HO2.out, HW2.out⟩
       | false =>
         by_cases hl : Bl c y (g k).c (g k).y
         · obtain ⟨ea, hs1⟩ := SI.out.between HB.out EX.out X0.out OK.out hlt hl
           subst ea
           have SN := Lib.hid hs1
           have lw : (decide (c < (g k).c) = true) ∨ (decide (c < (g k).c) = false ∧ ((g k).c == c) = true ∧ decide (y < (g k).y) = true) := by
             unfold Bl at hl
             by_cases q1 : c < (g k).c
             · exact .inl (by simpa using q1)
             · exact .inr ⟨by simpa using q1, by simp; omega, by simp; omega⟩
           clear hcc hs1 hl
           rcases ways with p1 | ⟨p1, p2⟩ <;> rcases lw with l1 | ⟨l1, l2, l3⟩
           all_goals first
             | (exfalso; rw [l2] at p2; cases p2)
             | (go_wp2_with (first | (at_builtin; (refine wpList_push_r rfl (.tmp 82) (.tmp 87) rfl vn_type hi hz0 hz1 hz2 (by decide) rfl (by decide) ve_len ve_one w w.heap.size m (wr.heap.size + 1) _ h ⟨c, y, a⟩ rfl rfl (rec_lit (wr.alloc _) (ve ⟨c, y, a⟩) 85 _ (by simp)) ((HO.out.alloc _).alloc _) (by omega) ((HW.out.alloc hz _).alloc (by simp; omega) _) (by simp; omega) _ rfl ?_; intro b2 c3 w6 ho2 hb2 hg2 hat2; have hcell : ∀ j u, (ve (g k))[j]? = some u → w6.cell? ⟨wr.heap.size, j, none⟩ = some u := (fun j u hu => (World.cell?_of_block (a := ⟨wr.heap.size, j, none⟩) (hg2.block wr.heap.size (by simp; omega) (fun e => by have := (World.ownsRow.lt HO.out _ e.symm).2; omega))).trans (cell_keep (rec_lit wr (ve (g k)) 85 wr.heap.size rfl j u hu) ((Below.refl _ _).alloc (Nat.le_refl _) _))); have k0 := hcell 0 _ rfl; have k1 := hcell 1 _ rfl; have k2 := hcell 2 _ rfl; have HO2 := Lib.hid ho2; have HW2 := Lib.hid hb2; have hz6 := hb2.size; clear hcell; clear ho2 hb2 hg2 hat2)) | (at_builtin; (refine wpList_push_r rfl (.tmp 89) (.tmp 91) rfl vn_type hi hz0 hz1 hz2 (by decide) rfl (by decide) ve_len ve_one w w.heap.size (m + 1) w6.heap.size _ (pushB h m ⟨c, y, a⟩) (g k) rfl rfl (rec_lit w6 (ve (g k)) 85 _ rfl) (HO2.out.alloc _) (by omega) (HW2.out.alloc hz6 _) (by simp; omega) _ rfl ?_; intro b2 c3 w8 ho2 hb2 hg2 hat2; have HO4 := Lib.hid ho2; have HW4 := Lib.hid hb2; clear ho2 hb2 hg2 hat2)))
                go_roundg (n - (k + 1))
                case measure => have := HGK.out; omega
                case rel => exact ⟨k + 1, m + 1 + 1, _, true, by omega, rfl, by go_num, rfl, SN.out, by have := SI.out.set.size.2 rfl; omega, HO4.out, HW4.out⟩)
         · have SN := Lib.hid (SI.out.ahead HB.out hlt hcc (.inr hl))
           have lw : decide (c < (g k).c) = false ∧ (((g k).c == c) = false ∨ (((g k).c == c) = true ∧ decide (y < (g k).y) = false)) := by
             unfold Bl at hl
             refine ⟨by simp; omega, ?_⟩
             by_cases q1 : (g k).c = c
             · exact .inr ⟨by simpa using q1, by simp; omega⟩
             · exact .inl (by simpa using q1)
           obtain ⟨l1, lw⟩ := lw
           clear hcc hl
           rcases ways with p1 | ⟨p1, p2⟩ <;> rcases lw with l2 | ⟨l2, l3⟩
           all_goals
             go_wp2_with (at_builtin; (refine wpList_push_r rfl (.tmp 89) (.tmp 91) rfl vn_type hi hz0 hz1 hz2 (by decide) rfl (by decide) ve_len ve_one w w.heap.size m (wr.heap.size + 1) _ h (g k) rfl rfl (rec_lit (wr.alloc _) (ve (g k)) 85 _ (by simp)) ((HO.out.alloc _).alloc _) (by omega) ((HW.out.alloc hz _).alloc (by simp; omega) _) (by simp; omega) _ rfl ?_; intro b2 c3 w6 ho2 hb2 hg2 hat2; have HO2 := Lib.hid ho2; have HW2 := Lib.hid hb2; clear ho2 hb2 hg2 hat2))
             go_roundg (n - (k + 1))
             case measure => have := HGK.out; omega
             case rel => exact ⟨k + 1, m + 1, _, false, by omega, rfl, by go_num, rfl, SN.out, by omega, HO2.out, HW2.out⟩
   · obtain rfl : k = n := by omega
     clear hlt
     have e0 := cell_keep c0 HW.out
     have f0 := (HW.out.frozen (p := ⟨sb, 0, none⟩) lt0).trans g0
     cases ins with
     | false =>
       obtain ⟨ea, hl⟩ := SI.out.last HB.out EX.out X0.out OK.out
       subst ea
       have HL := Lib.hid hl
       clear hl
       by_cases h12 : 12 < (m : Int) + 1
       · have d12 : decide (12 < (m : Int) + 1) = true := by simpa using h12
         have H12 := Lib.hid h12
         clear h12
         go_wp2_with (at_builtin; (refine wpList_push_r rfl (.tmp 96) (.tmp 101) rfl vn_type hi hz0 hz1 hz2 (by decide) rfl (by decide) ve_len ve_one w w.heap.size m wr.heap.size _ h ⟨c, y, a⟩ rfl rfl (rec_lit wr (ve ⟨c, y, a⟩) 85 _ rfl) (HO.out.alloc _) (by omega) (HW.out.alloc hz _) (by simp; omega) _ rfl ?_; intro b2 c3 w6 ho2 hb2 hg2 hat2; have e0 := cell_keep c0 hb2; have e1 := (hb2.frozen (p := ⟨sb, 0, none⟩) lt0).trans g0; have HO2 := Lib.hid ho2; have HW2 := Lib.hid hb2; clear ho2 hb2 hg2 hat2))
         go_ret
         exact ⟨m + 1, _, _, rfl, HL.out, .inl ⟨by have := H12.out; omega, rfl, HW2.out⟩⟩
       · have d12 : decide (12 < (m : Int) + 1) = false := by simpa using h12
         have H12 := Lib.hid h12
         clear h12
         go_wp2_with (at_builtin; (refine wpList_push_r rfl (.tmp 96) (.tmp 101) rfl vn_type hi hz0 hz1 hz2 (by decide) rfl (by decide) ve_len ve_one w w.heap.size m wr.heap.size _ h ⟨c, y, a⟩ rfl rfl (rec_lit wr (ve ⟨c, y, a⟩) 85 _ rfl) (HO.out.alloc _) (by omega) (HW.out.alloc hz _) (by simp; omega) _ rfl ?_; intro b2 c3 w6 ho2 hb2 hg2 hat2; have e0 := cell_keep c0 hb2; have e1 := (hb2.frozen (p := ⟨sb, 0, none⟩) lt0).trans g0; have HO2 := Lib.hid ho2; have HW2 := Lib.hid hb2; clear ho2 hb2 hg2 hat2))
         go_ret
         obtain ⟨O', q1, q2⟩ := LV.takes HS.out HF.out hbase HW2.out HO2.out
         exact ⟨m + 1, _, _, rfl, HL.out, .inr ⟨by have := H12.out; omega, rfl, _, O', q1, q2⟩⟩
     | true =>
       have HL := Lib.hid (SI.out.fin HB.out)
       obtain ⟨A8, c8, rfl, _, _, _⟩ := HO.out.form
       by_cases h12 : 12 < (m : Int)
       · have d12 : decide (12 < (m : Int)) = true := by simpa using h12
         have H12 := Lib.hid h12
         clear h12
         go_wp2
         go_ret
         exact ⟨m, _, _, rfl, HL.out, .inl ⟨by have := H12.out; omega, rfl, HW.out⟩⟩
       · have d12 : decide (12 < (m : Int)) = false := by simpa using h12
         have H12 := Lib.hid h12
         clear h12
         go_wp2
         go_ret
         obtain ⟨O', q1, q2⟩ := LV.takes HS.out HF.out hbase HW.out HO.out
         exact ⟨m, _, _, rfl, HL.out, .inr ⟨by have := H12.out; omega, rfl, _, O', q1, q2⟩⟩
end
end Go.Proofs.YtmlafdehhbhbiaaGreat
/- The document's own losses: Expire: a contract. -/
namespace Go.Proofs.YtmlafdehhbhbiaaGreat
open Go.RowKit
theorem tot_upto {g : Nat → Int} {n k : Nat} (h : ∀ j, j < n → 0 ≤ g j) (hk : k ≤ n) : 0 ≤ tot g k ∧ tot g k ≤ tot g n := by
 refine ⟨tot_nonneg k fun j hj => h j (by omega), ?_⟩
 obtain ⟨d, rfl⟩ : ∃ d, n = k + d := ⟨n - k, by omega⟩
 clear hk
 induction d with
 | zero => exact Int.le_refl _
 | succ d ih =>
   have a := ih fun j hj => h j (by omega)
   have b := h (k + d) (by omega)
   show tot g k ≤ tot g (k + d) + g (k + d)
   omega
section
variable {w w1 : World} {O O1 : Nat → Nat} {base t t' sb n : Nat} {v : Value} {g : Nat → Bk} {S : Int → Int → Int}
theorem VInv.goes (iv : VInv S n g) {u : Nat → Int} (hu : ∀ j, j < n → 0 ≤ u j ∧ u j ≤ (g j).a) {k : Nat} (hk : k ≤ n) : 0 ≤ tot u k ∧ tot u k ≤ 100000000000 := by
 have h1 := tot_upto (g := u) (fun j hj => (hu j hj).1) hk
 have h2 : tot u n ≤ btot g n := tot_le n fun j hj => (hu j hj).2
 have h3 := iv.all
 omega
set_option maxHeartbeats 8000000 in
set_option maxRecDepth 100000 in
theorem rlexp (s : LV w O base t sb v n g) (iv : VInv S n g) (fn : Fin0 base O w) (hbase : base ≤ w.heap.size) (year : Int) :
   Calls Tryz.prog 113 #[ptr sb, .int .i64 year] w fun e w' => e = .returned (.int .i64 (tot (goneU g year) n)) ∧ ∃ v' m h O', LV w' O' base t sb v' m h ∧ Flt n (lessG g (goneU g year)) n m h ∧ Step base O t w O' w' := by
 obtain ⟨i0, hi, hz0, hz1, hz2⟩ := info_parts vn_info
 have c0 := s.hd.c0
 have lt0 := s.hd.lt
 have g0 := s.hd.frz 0
 obtain ⟨A, cc, rfl, hc, hm, _, ha⟩ := s.at
 have hn : n ≤ 1000 := by have := iv.le; omega
 have HN := Lib.hid hn
 have HA := Lib.hid ha
 have HI := Lib.hid iv
 have HS := Lib.hid s
 have HF := Lib.hid fn
 clear s iv ha fn hn hc hm
 go_enter Tryz.func113, Tryz.ntmps113
 go_wp2
 go_loopg [5, 6, 14] n (fun gh s5 s6 i wr => ∃ (k m : Nat) (h : Nat → Bk), k ≤ n ∧ gh = n - k ∧ i = .int .i64 k ∧ s5 = .int .i64 (tot (goneU g year) k) ∧ Flt n (lessG g (goneU g year)) k m h ∧ OwnR ve 3 wr 85 w.heap.size s6 m h ∧ Below w.heap.size w wr)
 case atStart => exact ⟨0, 0, g, Nat.zero_le _, rfl, rfl, rfl, Flt.zero _ _ _, OwnR.nil _ _ _ _ _ _, Below.refl _ _⟩
 case round =>
   obtain ⟨k, m, h, hk, hgk, rfl, rfl, hf, ho, hbw⟩ := hrel
   have HGK := Lib.hid hgk
   have HW := Lib.hid hbw
   have FL := Lib.hid hf
   have HO := Lib.hid ho
   have hmk := hf.le
   have hz := hbw.size
   have hn := HN.out
   obtain ⟨T, hT⟩ : ∃ T, tot (goneU g year) k = T := ⟨_, rfl⟩
   rw [hT]
   have HT := Lib.hid hT
   clear hgk hbw hf ho hT
   by_cases hlt : k < n
   · obtain ⟨b, off, rfl, hb, k0, k1, k2⟩ := (HA.out.below HW.out).threeV hlt
     by_cases hy : (g k).c < year
     · have eu : goneU g year k = (g k).a := if_pos hy
       have FN := Lib.hid (FL.out.skip (by show (g k).a - goneU g year k = 0; omega))
       have HT2 : Hid (T + (g k).a = tot (goneU g year) (k + 1)) := Lib.hid (by rw [tot, HT.out, eu])
       have ew : IntKind.i64.wrap (T + (g k).a) = T + (g k).a := IntWalk.i64_in _ (by
         have := HI.out.goes (HI.out.gone year) (k := k + 1) (by omega)
         rw [← HT2.out] at this
         omega)
       clear eu
       go_wp2
       go_roundg (n - (k + 1))
       case measure => have := HGK.out; omega
       case rel => exact ⟨k + 1, m, h, by omega, rfl, by go_num, by rw [HT2.out], FN.out, HO.out.alloc _, HW.out.alloc hz _⟩
     · have eu : goneU g year k = 0 := if_neg hy
       have hy' : decide ((g k).c < year) = false := by simpa using hy
       have eg : lessG g (goneU g year) k = g k := by
         unfold lessG
         rw [eu]
         cases g k
         simp
       have FN := Lib.hid (FL.out.keep hlt (fun j hj => HI.out.is.1.ok j hj) (fun i j hi hj => HI.out.is.1.asc i j hi hj) (by rw [eg]; exact HI.out.is.1.nz k hlt))
       rw [eg] at FN
       have HT2 : Hid (T = tot (goneU g year) (k + 1)) := Lib.hid (by rw [tot, HT.out, eu, Int.add_zero])
       clear eu hy eg
       go_wp2_with (at_builtin; (refine wpList_push_r rfl (.tmp 26) (.tmp 28) rfl vn_type hi hz0 hz1 hz2 (by decide) rfl (by decide) ve_len ve_one w w.heap.size m (wr.heap.size + 1) _ h (g k) rfl rfl (rec_lit (wr.alloc _) (ve (g k)) 85 _ (by simp)) ((HO.out.alloc _).alloc _) (by omega) ((HW.out.alloc hz _).alloc (by simp; omega) _) (by simp; omega) _ rfl ?_; intro b2 c3 w6 ho2 hb2 hg2 hat2; have HO2 := Lib.hid ho2; have HW2 := Lib.hid hb2; clear ho2 hb2 hg2 hat2))
       go_roundg (n - (k + 1))
       case measure => have := HGK.out; omega
       case rel => exact ⟨k + 1, m + 1, _, by omega, rfl, by go_num, by rw [← HT2.out], FN.out, HO2.out, HW2.out⟩
   · obtain rfl : k = n := by omega
     clear hlt
     have e0 := cell_keep c0 HW.out
     have f0 := (HW.out.frozen (p := ⟨sb, 0, none⟩) lt0).trans g0
     obtain ⟨A8, c8, rfl, _, _, _⟩ := HO.out.form
     go_wp2
     go_ret
     obtain ⟨O', q1, q2⟩ := LV.takes HS.out HF.out hbase HW.out HO.out
     exact ⟨congrArg (fun x => Ending.returned (.int .i64 x)) HT.out.symm, _, _, _, O', q1, FL.out, q2⟩
end
end Go.Proofs.YtmlafdehhbhbiaaGreat
/- The document's own losses: Take: a contract. -/
namespace Go.Proofs.YtmlafdehhbhbiaaGreat
open Go.RowKit
section
variable {w w1 : World} {O O1 : Nat → Nat} {base t t' sb n : Nat} {v : Value} {g : Nat → Bk} {S : Int → Int → Int}
def UOk (n : Nat) (g : Nat → Bk) (q : Nat) (u : Nat → Int) : Prop := q = n ∧ ∀ j, j < n → 0 ≤ u j ∧ u j ≤ (g j).a
set_option maxHeartbeats 8000000 in
set_option maxRecDepth 100000 in
theorem rltake (s : LV w O base t sb v n g) (iv : VInv S n g) (fn : Fin0 base O w) (hbase : base ≤ w.heap.size) {U : Option Addr} {q c : Nat} {u : Nat → Int} (hu : At w U q u) (_hq : q ≤ 1000000) :
   Calls Tryz.prog 117 #[ptr sb, .slice U q c] w fun e w' => ∃ r : Int, e = .returned (.int .i64 r) ∧ ((r = 1 ∧ ¬ UOk n g q u ∧ Below w.heap.size w w') ∨ (r = 0 ∧ UOk n g q u ∧ ∃ v' m h O', LV w' O' base t sb v' m h ∧ Flt n (lessG g u) n m h ∧ Step base O t w O' w')) := by
 obtain ⟨i0, hi, hz0, hz1, hz2⟩ := info_parts vn_info
 have c0 := s.hd.c0
 have lt0 := s.hd.lt
 have g0 := s.hd.frz 0
 obtain ⟨A, cc, rfl, hc, hm, _, ha⟩ := s.at
 have hn : n ≤ 1000 := by have := iv.le; omega
 have HN := Lib.hid hn
 have HA := Lib.hid ha
 have HI := Lib.hid iv
 have HS := Lib.hid s
 have HF := Lib.hid fn
 have HU := Lib.hid hu
 by_cases hqn : q = n
 · subst hqn
   have ee : ((q : Int) != (q : Int)) = false := by simp
   clear s iv ha fn hn hc hm hu
   go_enter Tryz.func117, Tryz.ntmps117
   go_wp2
   go_loopg [5, 21] q (fun gh s5 i wr => ∃ (k m : Nat) (h : Nat → Bk), k ≤ q ∧ gh = q - k ∧ i = .int .i64 k ∧ (∀ j, j < k → 0 ≤ u j ∧ u j ≤ (g j).a) ∧ Flt q (lessG g u) k m h ∧ OwnR ve 3 wr 85 w.heap.size s5 m h ∧ Below w.heap.size w wr)
   case atStart => exact ⟨0, 0, g, Nat.zero_le _, rfl, rfl, fun j hj => by omega, Flt.zero _ _ _, OwnR.nil _ _ _ _ _ _, Below.refl _ _⟩
   case round =>
     obtain ⟨k, m, h, hk, hgk, rfl, hok, hf, ho, hbw⟩ := hrel
     have HGK := Lib.hid hgk
     have HW := Lib.hid hbw
     have FL := Lib.hid hf
     have HO := Lib.hid ho
     have HK := Lib.hid hok
     have hmk := hf.le
     have hz := hbw.size
     have hn := HN.out
     clear hgk hbw hf ho hok
     by_cases hlt : k < q
     · obtain ⟨b, off, rfl, hb, k0, k1, k2⟩ := (HA.out.below HW.out).threeV hlt
       obtain ⟨bu, ou, rfl, hbu, hcu⟩ := (HU.out.below HW.out).some (show 0 < q by omega)
       have cu := hcu k hlt
       have i1 : (0 : Int) ≤ (k : Int) := by omega
       have i2 : (k : Int) < (q : Int) := by omega
       obtain ⟨x, hx⟩ : ∃ x, u k = x := ⟨_, rfl⟩
       obtain ⟨L, hL⟩ : ∃ L, (g k).a = L := ⟨_, rfl⟩
       rw [hx] at cu
       rw [hL] at k2
       have HX := Lib.hid hx
       have HL := Lib.hid hL
       have lb := HI.out.mon hlt
       rw [hL] at lb
       have hp := HI.out.pos k hlt
       rw [hL] at hp
       unfold Mon at lb
       clear hx hL hcu
       by_cases h1 : x < 0
       · have hbad : Hid (¬ UOk q g q u) := Lib.hid fun z => by have := (z.2 k hlt).1; rw [HX.out] at this; omega
         have d1 : decide (x < 0) = true := by simpa using h1
         clear h1 lb hp
         go_wp2
         go_big_quiet (fail)
         go_wp2
         go_ret
         exact ⟨_, rfl, .inl ⟨rfl, hbad.out, below_drewN (HW.out.alloc hz _) _⟩⟩
       · by_cases h2 : L < x
         · have hbad : Hid (¬ UOk q g q u) := Lib.hid fun z => by have := (z.2 k hlt).2; rw [HX.out, HL.out] at this; omega
           have d1 : decide (x < 0) = false := by simpa using h1
           have d2 : decide (L < x) = true := by simpa using h2
           clear h1 h2 lb hp
           go_wp2
           go_big_quiet (fail)
           go_wp2
           go_ret
           exact ⟨_, rfl, .inl ⟨rfl, hbad.out, below_drewN (HW.out.alloc hz _) _⟩⟩
         · have d1 : decide (x < 0) = false := by simpa using h1
           have d2 : decide (L < x) = false := by simpa using h2
           have ew : IntKind.i64.wrap (L - x) = L - x := IntWalk.i64_in _ (by omega)
           have HK2 : Hid (∀ j, j < k + 1 → 0 ≤ u j ∧ u j ≤ (g j).a) := Lib.hid fun j hj => by
             by_cases e : j = k
             · rw [e, HX.out, HL.out]; omega
             · exact HK.out j (by omega)
           have eg : Hid (lessG g u k = ⟨(g k).c, (g k).y, L - x⟩) := Lib.hid (by unfold lessG; rw [HX.out, HL.out])
           by_cases hz0 : L - x = 0
           · have FN := Lib.hid (FL.out.skip (by rw [eg.out]; exact hz0))
             have d3 : decide (x < L) = false := by simp; omega
             clear h1 h2 lb hp hz0
             go_wp2
             go_big_quiet (fail)
             go_wp2
             obtain ⟨w8, hw8⟩ : ∃ w8, w8 = ((wr.alloc (.cells #[.int .i64 (g k).y, .int .i64 (g k).c, .int .i64 L] 85)).drewN (nq + 1)).setCell ⟨wr.heap.size, 2, none⟩ (.int .i64 (L - x)) := ⟨_, rfl⟩
             have HB8 : Hid (Below wr.heap.size wr w8) := Lib.hid (by rw [hw8]; exact (below_drewN ((Below.refl _ _).alloc (Nat.le_refl _) _) _).setCell (Nat.le_refl _) _)
             have HS8 : Hid (w8.heap.size = wr.heap.size + 1) := Lib.hid (by rw [hw8]; simp)
             have HO8 := Lib.hid (HO.out.below HB8.out)
             have HW8 := Lib.hid (HW.out.trans (HB8.out.mono hz))
             go_region_law (fail)
             all_goals
               go_wp2
               rw [← hw8]
               go_roundg (q - (k + 1))
               case measure => have := HGK.out; omega
               case rel => exact ⟨k + 1, m, h, by omega, rfl, by go_num, HK2.out, FN.out, HO8.out, HW8.out⟩
           · have FN := Lib.hid (FL.out.keep hlt (fun j hj => HI.out.is.1.ok j hj) (fun i j hi hj => HI.out.is.1.asc i j hi hj) (by rw [eg.out]; exact hz0))
             have d3 : decide (x < L) = true := by simp; omega
             rw [eg.out] at FN
             clear h1 h2 lb hp hz0
             go_wp2
             go_big_quiet (fail)
             go_wp2
             obtain ⟨w8, hw8⟩ : ∃ w8, w8 = ((wr.alloc (.cells #[.int .i64 (g k).y, .int .i64 (g k).c, .int .i64 L] 85)).drewN (nq + 1)).setCell ⟨wr.heap.size, 2, none⟩ (.int .i64 (L - x)) := ⟨_, rfl⟩
             have HB8 : Hid (Below wr.heap.size wr w8) := Lib.hid (by rw [hw8]; exact (below_drewN ((Below.refl _ _).alloc (Nat.le_refl _) _) _).setCell (Nat.le_refl _) _)
             have HS8 : Hid (w8.heap.size = wr.heap.size + 1) := Lib.hid (by rw [hw8]; simp)
             have HO8 := Lib.hid (HO.out.below HB8.out)
             have HW8 := Lib.hid (HW.out.trans (HB8.out.mono hz))
             have HC8 := Lib.hid (rec_lit w8 (ve ⟨(g k).c, (g k).y, L - x⟩) 85 (wr.heap.size + 1) HS8.out)
             have HW9 := Lib.hid (HW8.out.alloc HW8.out.size (.cells (ve ⟨(g k).c, (g k).y, L - x⟩).toArray 85))
             have HZ9 := Lib.hid HW9.out.size
             go_region_law (fail)
             all_goals
               go_wp2_with (at_builtin; rw [← hw8]; (refine wpList_push_r rfl (.tmp 51) (.tmp 53) rfl vn_type hi hz0 hz1 hz2 (by decide) rfl (by decide) ve_len ve_one w w.heap.size m (wr.heap.size + 1) _ h ⟨(g k).c, (g k).y, L - x⟩ rfl rfl HC8.out (HO8.out.alloc _) (by omega) HW9.out HZ9.out _ rfl ?_; intro b2 c3 w6 ho2 hb2 hg2 hat2; have HO2 := Lib.hid ho2; have HW2 := Lib.hid hb2; clear ho2 hb2 hg2 hat2))
               go_roundg (q - (k + 1))
               case measure => have := HGK.out; omega
               case rel => exact ⟨k + 1, m + 1, _, by omega, rfl, by go_num, HK2.out, FN.out, HO2.out, HW2.out⟩
     · obtain rfl : k = q := by omega
       clear hlt
       have e0 := cell_keep c0 HW.out
       have f0 := (HW.out.frozen (p := ⟨sb, 0, none⟩) lt0).trans g0
       obtain ⟨A8, c8, rfl, _, _, _⟩ := HO.out.form
       go_wp2
       go_ret
       obtain ⟨O', q1, q2⟩ := LV.takes HS.out HF.out hbase HW.out HO.out
       exact ⟨_, rfl, .inr ⟨rfl, ⟨rfl, HK.out⟩, _, _, _, O', q1, FL.out, q2⟩⟩
 · have ee : ((q : Int) != (n : Int)) = true := by simp; omega
   have HQ := Lib.hid hqn
   clear s iv ha fn hn hc hm hu hqn
   go_enter Tryz.func117, Tryz.ntmps117
   go_wp2
   go_ret
   exact ⟨_, rfl, .inl ⟨rfl, fun z => HQ.out z.1, Below.refl _ _⟩⟩
end
end Go.Proofs.YtmlafdehhbhbiaaGreat
/- The document's losses in a law's hands: a contract for each call; rows told alike. -/
namespace Go.Proofs.YtmlafdehhbhbiaaGreat
open Go.RowKit
set_option maxHeartbeats 4000000 in
theorem vsame_true (A A' : Option Addr) (n c c' : Nat) (g g' : Nat → Bk) (w : World) (h : AtR ve 3 w A n g) (h' : AtR ve 3 w A' n g') (hn : n ≤ 1000000) (e : ∀ j, j < n → g j = g' j) :
   Calls Tryz.prog 26 #[.slice A n c, .slice A' n c'] w fun e' w' => e' = .returned (.bool true) ∧ Below w.heap.size w w' := by
 have H1 := Lib.hid h
 have H2 := Lib.hid (h'.ext fun j hj => (e j hj).symm)
 have ee : ((n : Int) != (n : Int)) = false := by simp
 clear h h' e
 go_enter Tryz.func26, Tryz.ntmps26
 go_wp2
 go_loopg [5] n (fun gh i wr => ∃ k : Nat, k ≤ n ∧ gh = n - k ∧ i = .int .i64 k ∧ Below w.heap.size w wr)
 case atStart => exact ⟨0, Nat.zero_le _, rfl, rfl, Below.refl _ _⟩
 case round =>
   obtain ⟨k, hk, hgk, rfl, hbw⟩ := hrel
   have HGK := Lib.hid hgk
   have HB := Lib.hid hbw
   clear hgk hbw
   by_cases hlt : k < n
   · obtain ⟨b, off, rfl, hb, c0, c1, c2⟩ := (H1.out.below HB.out).threeV hlt
     obtain ⟨b', off', rfl, hb', c0', c1', c2'⟩ := (H2.out.below HB.out).threeV hlt
     have k0 : (0 : Int) ≤ (k : Int) := by omega
     have k1 : (k : Int) < (n : Int) := by omega
     go_wp2
     go_big_quiet (fail)
     go_wp2
     go_roundg (n - (k + 1))
     case measure => have := HGK.out; omega
     case rel => exact ⟨k + 1, by omega, rfl, by go_num, below_drewN HB.out _⟩
   · obtain rfl : k = n := by omega
     clear hlt
     go_wp2
     go_ret
     exact ⟨rfl, HB.out⟩
def adS (e : Int) (S : Int → Int → Int) (c y a : Int) : Int → Int → Int := if e = 0 then upS S c y (S c y + a) else S
def xpS (S : Int → Int → Int) (year : Int) : Int → Int → Int := fun c y => if c < year then 0 else S c y
def tkS (r : Int) (S : Int → Int → Int) (m : Nat) (g : Nat → Bk) (u : Nat → Int) : Int → Int → Int := if r = 0 then bget (lessG g u) m else S
def TkErr (m : Nat) (g : Nat → Bk) (q : Nat) (u : Nat → Int) (r : Int) : Prop := (UOk m g q u ∧ r = 0) ∨ (¬ UOk m g q u ∧ r = 1)
theorem bget_ext {g h : Nat → Bk} {n : Nat} (e : ∀ j, j < n → g j = h j) : bget g n = bget h n := by
 funext c y
 exact tot_ext n fun j hj => by rw [e j hj]
theorem less_ext {g h : Nat → Bk} {n : Nat} (u : Nat → Int) (e : ∀ j, j < n → g j = h j) : bget (lessG g u) n = bget (lessG h u) n := bget_ext fun j hj => by unfold lessG; rw [e j hj]
theorem less_gone {S : Int → Int → Int} {n : Nat} {g : Nat → Bk} (b : VIs S n g) (year : Int) : bget (lessG g (goneU g year)) n = xpS S year := by
 funext c y
 unfold xpS
 split
 · rename_i h
   refine tot_zero n fun j _ => ?_
   show bval (lessG g (goneU g year) j) c y = 0
   unfold bval lessG goneU
   dsimp only
   split
   · rename_i q
     rw [if_pos (by omega)]; omega
   · rfl
 · rename_i h
   rw [← b.2]
   refine tot_ext n fun j _ => ?_
   show bval (lessG g (goneU g year) j) c y = bval (g j) c y
   unfold bval lessG goneU
   dsimp only
   split
   · rename_i q
     rw [if_neg (by omega)]; omega
   · rfl
structure NowL (w0 w : World) (O : Nat → Nat) (t sb : Nat) (S : Int → Int → Int) : Prop where
 st : ∃ v n g, LV w O w0.heap.size t sb v n g ∧ VInv S n g
 fin : Fin0 w0.heap.size O w
 low : Below w0.heap.size w0 w
section
variable {w0 w w1 : World} {O O1 : Nat → Nat} {t t' sb n : Nat} {g : Nat → Bk} {S : Int → Int → Int}
theorem NowL.below (h : NowL w0 w O t sb S) (k : Below w.heap.size w w1) : NowL w0 w1 O t sb S := by
 obtain ⟨v, n, g, s, iv⟩ := h.st
 exact ⟨⟨v, n, g, s.below k, iv⟩, h.fin.below k, h.low.trans (k.mono h.low.size)⟩
theorem NowL.step (h : NowL w0 w O t sb S) (k : Step w0.heap.size O t' w O1 w1) (h1 : t ≠ t') (h2 : t' ≠ 0) : NowL w0 w1 O1 t sb S := by
 obtain ⟨v, n, g, s, iv⟩ := h.st
 exact ⟨⟨v, n, g, s.step k h1, iv⟩, k.fin, h.low.trans (k.below h.fin h2 h.low.size)⟩
theorem nowl_new (w0 w : World) (O : Nat → Nat) (fn : Fin0 w0.heap.size O w) (lo : Below w0.heap.size w0 w) (T : TypeId) (t : Nat) :
   NowL w0 (w.alloc (.cells #[.slice none 0 0] T)) (mark O t w.heap.size) t w.heap.size (fun _ _ => 0) ∧ ∀ t', Step w0.heap.size O t' w (mark O t w.heap.size) (w.alloc (.cells #[.slice none 0 0] T)) := by
 obtain ⟨a, b⟩ := LV.new (t := t) fn lo.size T (fun _ => ⟨0, 0, 0⟩)
 exact ⟨⟨⟨_, _, _, a, VInv.zero _⟩, (b 0).fin, lo.alloc lo.size _⟩, b⟩
theorem NowL.told (h : NowL w0 w O t sb S) : ∃ n g, VInv S n g := by
 obtain ⟨v, n, g, _, iv⟩ := h.st
 exact ⟨n, g, iv⟩
theorem nlleft (h : NowL w0 w O t sb S) {m : Nat} {g' : Nat → Bk} (b : VIs S m g') :
   Calls Tryz.prog 65 #[ptr sb] w fun e w' => e = .returned (.int .i64 (btot g' m)) ∧ Below w.heap.size w w' := by
 obtain ⟨v, n, g, s, iv⟩ := h.st
 rw [← iv.is.total b]
 exact rlleft s (by have := iv.le; omega) fun j hj => iv.mon hj
theorem nladd (h : NowL w0 w O t sb S) (ht : t ≠ 0) {m : Nat} {g' : Nat → Bk} (b : VIs S m g') (c y a e : Int) (he : AErr S m (btot g' m) c y a e) :
   Calls Tryz.prog 118 #[ptr sb, .int .i64 y, .int .i64 c, .int .i64 a] w fun e' w' => e' = .returned (.int .i64 e) ∧ ∃ O', NowL w0 w' O' t sb (adS e S c y a) ∧ Step w0.heap.size O t w O' w' := by
 obtain ⟨v, n, g, s, iv⟩ := h.st
 rw [← iv.is.total b, ← (iv.is.uniq b).1] at he
 by_cases h0 : e = 1 ∨ e = 6
 · refine (rladd_no s iv c y a e he h0).mono ?_
   rintro e' w' ⟨rfl, hb⟩
   refine ⟨rfl, O, ?_, Step.of_below h.fin hb⟩
   unfold adS
   rw [if_neg (by omega)]
   exact h.below hb
 · cases he
   case arg => omega
   case over => omega
   case limit h1 h2 h3 h4 =>
     refine (rladd s iv h.fin h.low.size c y a (S c y + a) rfl h1 h2).mono ?_
     rintro e' w' ⟨m', h', r, rfl, hi, hr⟩
     have k1 := (vis_count iv.is h1.1 hi).1
     unfold cntB at k1
     rw [if_pos h3, if_neg (show ¬ S c y + a = 0 by omega)] at k1
     rcases hr with ⟨_, rfl, hb⟩ | ⟨h5, _⟩
     · exact ⟨rfl, O, h.below hb, Step.of_below h.fin hb⟩
     · omega
   case ok h1 h2 h3 =>
     refine (rladd s iv h.fin h.low.size c y a (S c y + a) rfl h1 h2).mono ?_
     rintro e' w' ⟨m', h', r, rfl, hi, hr⟩
     have hv := iv.add h1 h2 h3 hi
     rcases hr with ⟨h5, _⟩ | ⟨_, rfl, v', O', s', st⟩
     · have := hv.1.le; omega
     · exact ⟨rfl, O', ⟨⟨_, _, _, s', hv.1⟩, st.fin, h.low.trans (st.below h.fin ht h.low.size)⟩, st⟩
theorem nlexp (h : NowL w0 w O t sb S) (ht : t ≠ 0) {m : Nat} {g' : Nat → Bk} (b : VIs S m g') (year : Int) :
   Calls Tryz.prog 113 #[ptr sb, .int .i64 year] w fun e' w' => e' = .returned (.int .i64 (tot (goneU g' year) m)) ∧ ∃ O', NowL w0 w' O' t sb (xpS S year) ∧ Step w0.heap.size O t w O' w' := by
 obtain ⟨v, n, g, s, iv⟩ := h.st
 obtain ⟨eq, eg⟩ := iv.is.uniq b
 subst eq
 refine (rlexp s iv h.fin h.low.size year).mono ?_
 rintro e' w' ⟨rfl, v', m', h', O', s', f, st⟩
 refine ⟨congrArg (fun x => Ending.returned (.int .i64 x)) (tot_ext n fun j hj => by unfold goneU; rw [eg j hj]), O', ⟨⟨_, _, _, s', ?_⟩, st.fin, h.low.trans (st.below h.fin ht h.low.size)⟩, st⟩
 have := (iv.less (iv.gone year) f).1
 rw [less_gone iv.is] at this
 exact this
theorem nltake (h : NowL w0 w O t sb S) (ht : t ≠ 0) {m : Nat} {g' : Nat → Bk} (b : VIs S m g') {U : Option Addr} {q c : Nat} {u : Nat → Int} (hu : At w U q u) (hq : q ≤ 1000000) (r : Int) (hr : TkErr m g' q u r) :
   Calls Tryz.prog 117 #[ptr sb, .slice U q c] w fun e' w' => e' = .returned (.int .i64 r) ∧ ∃ O', NowL w0 w' O' t sb (tkS r S m g' u) ∧ Step w0.heap.size O t w O' w' := by
 obtain ⟨v, n, g, s, iv⟩ := h.st
 obtain ⟨eq, eg⟩ := iv.is.uniq b
 subst eq
 have eo : UOk n g q u ↔ UOk n g' q u := by
   unfold UOk
   constructor
   · exact fun z => ⟨z.1, fun j hj => by rw [← eg j hj]; exact z.2 j hj⟩
   · exact fun z => ⟨z.1, fun j hj => by rw [eg j hj]; exact z.2 j hj⟩
 refine (rltake s iv h.fin h.low.size hu hq).mono ?_
 rintro e' w' ⟨r', rfl, h1⟩
 unfold tkS
 rcases hr with ⟨k1, rfl⟩ | ⟨k1, rfl⟩
 · rcases h1 with ⟨_, k2, _⟩ | ⟨rfl, k2, v', m', h', O', s', f, st⟩
   · exact absurd (eo.2 k1) k2
   · refine ⟨rfl, O', ⟨⟨_, _, _, s', ?_⟩, st.fin, h.low.trans (st.below h.fin ht h.low.size)⟩, st⟩
     rw [if_pos rfl, ← less_ext u eg]
     exact (iv.less k2.2 f).1
 · rcases h1 with ⟨rfl, _, hb⟩ | ⟨_, k2, _⟩
   · exact ⟨rfl, O, by rw [if_neg (by decide)]; exact h.below hb, Step.of_below h.fin hb⟩
   · exact absurd (eo.1 k2) k1
end
end Go.Proofs.YtmlafdehhbhbiaaGreat
