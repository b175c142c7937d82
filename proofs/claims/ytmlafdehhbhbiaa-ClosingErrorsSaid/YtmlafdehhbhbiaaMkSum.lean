/- The deferred cost is what the balances came to, less what they come to: mathematics alone. -/
import Derived.Test.YtmlafdehhbhbiaaMkMath
namespace Go.Proofs.Ytmlafdehhbhbiaa

section
variable {S S' : Int → Int → Int} {n q : Nat} {g : Nat → Bk} {f : Nat → Wy}
theorem bis_sum (b : BIs S n g) (F : Int → Int → Int → Int) (h0 : ∀ c y, F c y 0 = 0) : tot (fun k => F (g k).c (g k).y (g k).a) n = grid (fun c y => F c y (S c y)) := by
  have e := btot_grid (g := fun k => ⟨(g k).c, (g k).y, F (g k).c (g k).y (g k).a⟩) n b.1.ok
  have e2 : bget (fun k => ⟨(g k).c, (g k).y, F (g k).c (g k).y (g k).a⟩) n = fun c y => F c y (S c y) := by
    funext c y
    by_cases h : S c y = 0
    · rw [h, h0]
      refine bget_none fun j hj z => ?_
      have := b.at hj
      rw [z.1, z.2, h] at this
      exact b.1.nz j hj this.symm
    · obtain ⟨j, hj, rfl, rfl⟩ := b.has h
      unfold Go.Proofs.Ytmlafdehhbhbiaa.bget
      rw [tot_one _ j n hj fun i hi hne => ?_]
      · show (if (g j).c = (g j).c ∧ (g j).y = (g j).y then F (g j).c (g j).y (g j).a else 0) = _
        rw [if_pos ⟨rfl, rfl⟩, b.at hj]
      · exact if_neg fun z => hne (b.1.inj hi hj z.1 z.2)
  rw [e2] at e
  exact e
theorem way_sum_k (h : FIs S S' q f) (F : Int → Int → Int → Int) (h0 : ∀ c y, F c y 0 = 0) : tot (fun j => F (f j).c (f j).y (f j).k) q = grid (fun c y => F c y (S' c y)) :=
  h.sum (fun w => F w.c w.y w.k) (fun c y => F c y (S' c y)) (fun j hj => by rw [h.cl j hj]) fun c y _ z => by rw [z, h0]
theorem way_sum_o (h : FIs S S' q f) (F : Int → Int → Int → Int) (h0 : ∀ c y, F c y 0 = 0) : tot (fun j => F (f j).c (f j).y (f j).o) q = grid (fun c y => F c y (S c y)) :=
  h.sum (fun w => F w.c w.y w.o) (fun c y => F c y (S c y)) (fun j hj => by rw [h.op j hj]) fun c y z _ => by rw [z, h0]
theorem rof_no (z : Int) : rof 0 z = 0 := by unfold rof; simp
/-- the rate of a place among rows -/
def rateOf (g : Nat → Bk) (r : Nat → Int) (n : Nat) (c y : Int) : Int := bget (fun k => ⟨(g k).c, (g k).y, r k⟩) n c y
theorem rateOf_at (b : BRow n g) (r : Nat → Int) {k : Nat} (hk : k < n) : rateOf g r n (g k).c (g k).y = r k := by
  unfold rateOf Go.Proofs.Ytmlafdehhbhbiaa.bget
  rw [tot_one _ k n hk fun i hi hne => ?_]
  · exact if_pos ⟨rfl, rfl⟩
  · exact if_neg fun z => hne (b.inj hi hk z.1 z.2)
end
section
variable {R : Nat → Rt} {nr : Nat} {i : MIn} {op : MBal} {S0 S SL SL' : Int → Int → Int} {m nl : Nat} {g gl : Nat → Bk} {v : MPv}
theorem MkAt.temp_sum (h : MkAt R nr i op S0 S m g SL nl gl v SL') (iv : TInv nr R) (ok : op.Ok S0) (b : BInv S m g) : v.tm + v.tr = op.tmp - v.cl.tmp := by
  have uq : Uniq R nr := iv.uniq
  obtain ⟨W, hW⟩ : ∃ W : Int → Int, ∀ y, Known R nr i.j (max y (i.p / 4)) i.p (W y) true :=
    ⟨fun y => (known_up h.rate (show i.p / 4 ≤ max y (i.p / 4) by omega)).choose, fun y => (known_up h.rate (show i.p / 4 ≤ max y (i.p / 4) by omega)).choose_spec⟩
  have e1 : tot (partU g v.cl.r) m = grid (fun c y => rof (S c y) (W y)) := by
    rw [← bis_sum b.is (fun _ y a => rof a (W y)) fun _ _ => rof_no _]
    exact tot_ext m fun k hk => by
      unfold partU
      rw [(Known.uniq uq (h.rs k hk) (hW (g k).y)).1]
  have e2 : tot (fun j => rof (v.f j).k (v.now j)) v.q = grid (fun c y => rof (S c y) (W y)) := by
    rw [← way_sum_k h.way (fun _ y a => rof a (W y)) fun _ _ => rof_no _]
    exact tot_ext v.q fun k hk => by rw [(Known.uniq uq (h.now k hk) (hW (v.f k).y)).1]
  have e3 : tot (partU op.g op.r) op.n = grid (fun c y => rof (S0 c y) (rateOf op.g op.r op.n c y)) := by
    rw [← bis_sum ok.iv.is (fun c y a => rof a (rateOf op.g op.r op.n c y)) fun _ _ => rof_no _]
    exact tot_ext op.n fun k hk => by
      unfold partU
      rw [rateOf_at ok.iv.is.1 op.r hk]
  have e4 : tot (fun j => rof (v.f j).o (v.was j)) v.q = grid (fun c y => rof (S0 c y) (rateOf op.g op.r op.n c y)) := by
    rw [← way_sum_o h.way (fun c y a => rof a (rateOf op.g op.r op.n c y)) fun _ _ => rof_no _]
    refine tot_ext v.q fun k hk => ?_
    rcases h.was k hk with ⟨l, hl, z1, z2, z3⟩ | ⟨hn, _⟩
    · rw [z3, ← z1, ← z2, rateOf_at ok.iv.is.1 op.r hl]
    · have : (v.f k).o = 0 := by
        rw [h.way.op k hk, ← ok.iv.is.2]
        exact bget_none hn
      rw [this, rof_no, rof_no]
  have s : tot (mvU v.f v.now) v.q + tot (rtU v.f v.was v.now) v.q = tot (fun j => rof (v.f j).k (v.now j)) v.q - tot (fun j => rof (v.f j).o (v.was j)) v.q := by
    have key : ∀ k, tot (mvU v.f v.now) k + tot (rtU v.f v.was v.now) k = tot (fun j => rof (v.f j).k (v.now j)) k - tot (fun j => rof (v.f j).o (v.was j)) k := by
      intro k
      induction k with
      | zero => rfl
      | succ k ih =>
        rw [tot, tot, tot, tot]
        unfold mvU rtU at ih ⊢
        omega
    exact key v.q
  rw [h.tm, h.tr, s, e2, e4, h.tmp, ok.tmp.1, e1, e3]
  omega
/-- P19.3 -/
theorem MkAt.deferred (h : MkAt R nr i op S0 S m g SL nl gl v SL') (iv : TInv nr R) (ok : op.Ok S0) (b : BInv S m g) : v.df = op.tmp + op.ls + op.al - v.cl.tmp - v.cl.ls - v.cl.al := by
  have := h.temp_sum iv ok b
  have h1 := h.df; have h2 := h.lm; have h3 := h.am
  omega
end
end Go.Proofs.Ytmlafdehhbhbiaa
