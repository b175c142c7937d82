/- Provisions where one rate holds for all years: mathematics alone. -/
import Derived.Test.YtmlafdehhbhbiaaMkSum
import Derived.Test.YtmlafdehhbhbiaaM9
namespace Go.Proofs.Ytmlafdehhbhbiaa

/-- one rate for all years -/
def Flat (R : Nat → Rt) (n : Nat) (j : ByteArray) (r : Int) : Prop := ∀ y p, 0 ≤ y → 0 ≤ p → Known R n j y p r true
theorem flat_first (R0 : Nat → Rt) (j : ByteArray) (r : Int) : Flat (pushT R0 0 ⟨j, 0, r, 0⟩) 1 j r := fun y p hy hp =>
  .inl ⟨rfl, 0, by omega, by rw [pushT_at]; exact ⟨rfl, hy, hp⟩, fun k hk _ => by
    obtain rfl : k = 0 := by omega
    exact .inr ⟨rfl, Int.le_refl _⟩, by rw [pushT_at]⟩
/-- a whole part -/
theorem rof_hund (a b : Int) : rof (100 * a) (10000 * b) = a * b := by
  obtain ⟨p, hp⟩ : ∃ p, a * b = p := ⟨_, rfl⟩
  have e : 100 * a * (10000 * b) = 1000000 * p := by
    rw [← hp, Int.mul_assoc, Int.mul_left_comm a 10000 b, ← Int.mul_assoc]; rfl
  unfold rof
  rw [e, hp]
  split <;> omega
section
variable {R : Nat → Rt} {nr : Nat} {i : MIn} {op : MBal} {S0 S SL SL' : Int → Int → Int} {m nl q : Nat} {g gl : Nat → Bk} {f : Nat → Wy} {v : MPv} {r : Int}
/-- a provision whose tax is known -/
theorem mk_make (ha : MArg i) (hr : Known R nr i.j (i.p / 4) i.p r true) (hf : FIs S0 S q f) {x : Tx} (ht : TOk SL nl gl (tqOf i op m g r) x SL') :
    ∃ v, MkAt R nr i op S0 S m g SL nl gl v SL' ∧ v.x = x ∧ v.r = r ∧ v.q = q ∧ v.f = f := by
  have hp := ha.1
  unfold PerOk at hp
  obtain ⟨nx, hnx⟩ := known_up (y' := min (i.p / 4 + 1) 99) hr (by omega)
  obtain ⟨rs, hrs⟩ := known_rows hr (fun k => max (g k).y (i.p / 4)) (fun k => by show i.p / 4 ≤ max (g k).y (i.p / 4); omega)
  obtain ⟨now, hnow⟩ := known_rows hr (fun k => max (f k).y (i.p / 4)) (fun k => by show i.p / 4 ≤ max (f k).y (i.p / 4); omega)
  let was : Nat → Int := fun k => (old_any op (f k).c (f k).y (now k)).choose
  have hwas : ∀ k, OldIs op (f k).c (f k).y (now k) (was k) := fun k => (old_any op (f k).c (f k).y (now k)).choose_spec
  let left := btot gl nl - x.exp - x.used + x.new
  let ls := rof left nx
  let lr := -(rof op.left nx - rof op.left op.nx)
  let lm := op.ls - ls - lr
  let al := -rof ls i.jd
  let tm := tot (mvU f now) q
  let tr := tot (rtU f was now) q
  let df := tm + tr + lm + lr + (op.al - al)
  exact ⟨⟨r, ⟨i.p, m, g, rs, nx, left, -tot (partU g rs) m, ls, al⟩, x, q, f, was, now, tm, tr, lm, lr, op.al - al, df, x.tax + df + i.tu⟩,
    ⟨ha, hr, hnx, fun k _ => hrs k, hf, ht, rfl, rfl, rfl, rfl, rfl, rfl, rfl, fun k _ => hnow k, fun k _ => hwas k, rfl, rfl, rfl, rfl, rfl, rfl, rfl⟩, rfl, rfl, rfl, rfl⟩
/-- what one rate makes of it -/
structure FlatIs (op : MBal) (v : MPv) (r : Int) : Prop where
  er : v.r = r
  nx : v.cl.nx = r
  rs : ∀ k, k < v.cl.n → v.cl.r k = r
  now : ∀ k, k < v.q → v.now k = r
  tr : v.tr = 0
  tm : v.tm = op.tmp - v.cl.tmp
  lr : v.lr = 0
  lm : v.lm = op.ls - v.cl.ls
  am : v.am = op.al - v.cl.al
  df : v.df = op.tmp - v.cl.tmp + (op.ls - v.cl.ls) + (op.al - v.cl.al)
theorem MkAt.flat (h : MkAt R nr i op S0 S m g SL nl gl v SL') (iv : TInv nr R) (ok : op.Ok S0) (b : BInv S m g) (F : Flat R nr i.j r) (h1 : ∀ k, k < op.n → op.r k = r) (h2 : op.nx = r ∨ op.left = 0) : FlatIs op v r := by
  have hp := h.arg.1
  unfold PerOk at hp
  have uq := iv.uniq
  have e1 := (Known.uniq uq h.rate (F _ _ (by omega) (by omega))).1
  have e2 := (Known.uniq uq h.nx (F _ _ (by omega) (by omega))).1
  have e3 : ∀ k, k < v.cl.n → v.cl.r k = r := fun k hk => (Known.uniq uq (h.rs k (by rw [← h.cn]; exact hk)) (F _ _ (by omega) (by omega))).1
  have e4 : ∀ k, k < v.q → v.now k = r := fun k hk => (Known.uniq uq (h.now k hk) (F _ _ (by omega) (by omega))).1
  have e5 : v.tr = 0 := by
    rw [h.tr]
    refine tot_zero v.q fun k hk => ?_
    unfold rtU
    have z : v.was k = r := by
      rcases h.was k hk with ⟨l, hl, _, _, z⟩ | ⟨_, z⟩
      · rw [z]; exact h1 l hl
      · rw [z]; exact e4 k hk
    rw [e4 k hk, z]; omega
  have e6 : v.lr = 0 := by
    rw [h.lr, e2]
    rcases h2 with z | z
    · rw [z]; omega
    · rw [z, rof_no, rof_no]; rfl
  have e7 := h.temp_sum iv ok b
  have e8 := h.lm
  have e9 := h.am
  have e10 := h.df
  refine ⟨e1, e2, e3, e4, e5, by omega, e6, by omega, e9, by omega⟩
/-- small balances fit -/
theorem FlatIs.fit (z : FlatIs op v r) (ht : v.tt = v.x.tax + v.df + i.tu) (h1 : (-10000000000 ≤ op.tmp ∧ op.tmp ≤ 10000000000) ∧ (-10000000000 ≤ op.ls ∧ op.ls ≤ 10000000000) ∧ -10000000000 ≤ op.al ∧ op.al ≤ 10000000000)
    (h2 : (-10000000000 ≤ v.cl.tmp ∧ v.cl.tmp ≤ 10000000000) ∧ (-10000000000 ≤ v.cl.ls ∧ v.cl.ls ≤ 10000000000) ∧ -10000000000 ≤ v.cl.al ∧ v.cl.al ≤ 10000000000)
    (h3 : (-10000000000 ≤ v.x.tax ∧ v.x.tax ≤ 10000000000) ∧ -10000000000 ≤ i.tu ∧ i.tu ≤ 10000000000) : Fit i op v := by
  have e1 := z.tr; have e2 := z.tm; have e3 := z.lr; have e4 := z.lm; have e5 := z.am; have e6 := z.df
  refine ⟨by unfold Mon; omega, ⟨by unfold Mon; omega, by unfold Mon; omega⟩, fun k hk => ?_⟩
  rcases (show k = 0 ∨ k = 1 ∨ k = 2 ∨ k = 3 ∨ k = 4 ∨ k = 5 ∨ k = 6 ∨ k = 7 ∨ k = 8 by omega) with rfl | rfl | rfl | rfl | rfl | rfl | rfl | rfl | rfl
  · show Mon v.lm; unfold Mon; omega
  · show Mon v.lr; unfold Mon; omega
  · show Mon v.am; unfold Mon; omega
  · show Mon (v.x.tax + i.tu); unfold Mon; omega
  · show Mon (v.cl.tmp - op.tmp); unfold Mon; omega
  · show Mon (v.cl.ls - op.ls); unfold Mon; omega
  · show Mon (v.cl.al - op.al); unfold Mon; omega
  · show Mon v.df; unfold Mon; omega
  · show Mon v.tt; unfold Mon; omega
end
/-- one bucket -/
def gOne (c y a : Int) : Nat → Bk := fun _ => ⟨c, y, a⟩
theorem bOne {c y a : Int} (h : BOk c y) (ha : Mon a) (h0 : a ≠ 0) : BInv (upS (fun _ _ => 0) c y a) 1 (gOne c y a) := by
  refine ⟨⟨⟨fun j _ => h, fun j _ => h0, fun i j hi hj => by omega⟩, fun c' y' => ?_⟩, by omega, fun c' y' => ?_, ?_⟩
  · show 0 + bval ⟨c, y, a⟩ c' y' = _
    unfold bval upS
    dsimp only
    by_cases q : c = c' ∧ y = y'
    · rw [if_pos q, if_pos ⟨q.1.symm, q.2.symm⟩]; omega
    · rw [if_neg q, if_neg (fun z => q ⟨z.1.symm, z.2.symm⟩)]; rfl
  · unfold upS
    split
    · exact ha
    · show Mon 0; unfold Mon; omega
  · show Mon (0 + a)
    rw [Int.zero_add]; exact ha
theorem tot_gOne (c y a : Int) (r : Nat → Int) : tot (partU (gOne c y a) r) 1 = rof a (r 0) := by
  show 0 + rof a (r 0) = _; omega
theorem xps_zero (year : Int) : xpS (fun _ _ => 0) year = fun _ _ => 0 := by funext c y; unfold xpS; split <;> rfl
/-- the tax of an income that is no loss, where there are no losses -/
theorem tax_plain {p : Tq} (ha : TArg p) {N : Int} (hi : IncIs p.book p.perm p.moved N true) (h0 : 0 ≤ N) (gl : Nat → Bk) :
    TOk (fun _ _ => 0) 0 gl p ⟨N, 0, 0, 0, N, rof N p.r, 0, usU (fun _ => ⟨0, 0, 0⟩) p.year (floorV N p.cap)⟩ (fun _ _ => 0) := by
  refine ⟨ha, hi, ⟨0, fun _ => ⟨0, 0, 0⟩, ⟨by rw [xps_zero]; exact VInv.zero _, rfl, rfl⟩, ?_⟩, by dsimp only; omega, rfl⟩
  by_cases q : 0 < N
  · exact .inl ⟨q, rfl, rfl, rfl, rfl, rfl⟩
  · exact .inr (.inl ⟨by dsimp only; omega, rfl, rfl, rfl, by rw [xps_zero]⟩)
/-- a difference that comes: what the close comes to -/
theorem turns_one {R : Nat → Rt} {nr : Nat} {j : ByteArray} {B M K : Int} (iv : TInv nr R) (F : Flat R nr j (10000 * K)) (hB : 100000 ≤ B ∧ B ≤ 200000) (hM : 1 ≤ M ∧ M ≤ 100000) (hK : 0 ≤ K ∧ K ≤ 100) (gl : Nat → Bk) :
    ∃ v, MkAt R nr ⟨j, 0, 100 * B, 0, 0, 0, 3, 0⟩ MBal.none (fun _ _ => 0) (upS (fun _ _ => 0) 2 7 (100 * M)) 1 (gOne 2 7 (100 * M)) (fun _ _ => 0) 0 gl v (fun _ _ => 0) ∧ Fit ⟨j, 0, 100 * B, 0, 0, 0, 3, 0⟩ MBal.none v ∧
      v.x.tax = B * K - M * K ∧ v.df = M * K ∧ v.tt = B * K ∧ v.cl.tmp = -(M * K) ∧ v.cl.ls = 0 ∧ v.cl.al = 0 ∧ v.cl.left = 0 ∧ v.cl.n = 1 ∧ (∀ k, k < v.cl.n → v.cl.r k = 10000 * K) ∧ v.cl.nx = 10000 * K ∧ v.x.q = 0 ∧ v.q = 1 := by
  have hb := bOne (c := 2) (y := 7) (a := 100 * M) (by unfold BOk; omega) (by unfold Mon; omega) (by omega)
  have p1 : 0 ≤ M * K ∧ M * K ≤ 100000 * 100 := ⟨Int.mul_nonneg (by omega) hK.1, Int.mul_le_mul hM.2 hK.2 hK.1 (by omega)⟩
  have p2 : 0 ≤ B * K ∧ B * K ≤ 200000 * 100 := ⟨Int.mul_nonneg (by omega) hK.1, Int.mul_le_mul hB.2 hK.2 hK.1 (by omega)⟩
  have bt : btot (gOne 2 7 (100 * M)) 1 - btot MBal.none.g MBal.none.n = 100 * M := by show 0 + 100 * M - 0 = _; omega
  obtain ⟨v, h, hx, hr, hq, hf⟩ := mk_make (op := MBal.none) (i := ⟨j, 0, 100 * B, 0, 0, 0, 3, 0⟩) (m := 1) (g := gOne 2 7 (100 * M)) (SL := fun _ _ => 0) (nl := 0) (gl := gl) ⟨by unfold PerOk; dsimp only; omega, by unfold RtOk; dsimp only; omega, by unfold Mon; dsimp only; omega⟩ (F _ _ (by dsimp only; omega) (by dsimp only; omega)) (fis_fresh hb.is)
    (tax_plain (N := 100 * (B - M)) (by unfold TArg tqOf; dsimp only; omega) (inc_y (by unfold Mon tqOf; dsimp only; rw [bt]; omega) (by unfold tqOf; dsimp only; rw [bt]; omega)) (by omega) gl)
  have fl := h.flat iv MBal.none_ok hb F (fun k hk => absurd hk (Nat.not_lt_zero _)) (.inr rfl)
  have e1 : v.x.tax = B * K - M * K := by
    rw [hx]
    show rof (100 * (B - M)) (10000 * K) = _
    rw [rof_hund, Int.sub_mul]
  have e2 : v.cl.tmp = -(M * K) := by
    rw [h.tmp, tot_gOne, fl.rs 0 (by rw [h.cn]; decide), rof_hund]
  have e3 : v.cl.left = 0 := by rw [h.left, hx]; rfl
  have e4 : v.cl.ls = 0 := by rw [h.ls, e3, rof_no]
  have e5 : v.cl.al = 0 := by rw [h.al, e4, rof_no]; rfl
  have e6 := fl.df
  have e7 := h.tt
  have z : MBal.none.tmp = 0 ∧ MBal.none.ls = 0 ∧ MBal.none.al = 0 := ⟨rfl, rfl, rfl⟩
  dsimp only at e7
  refine ⟨v, h, fl.fit h.tt (by omega) (by omega) (by dsimp only; omega), e1, by omega, by omega, e2, e4, e5, e3, h.cn, fl.rs, fl.nx, by rw [hx], hq⟩
/-- it goes -/
theorem turns_two {R : Nat → Rt} {nr : Nat} {j : ByteArray} {B M K : Int} {op : MBal} (iv : TInv nr R) (F : Flat R nr j (10000 * K)) (hB : 100000 ≤ B ∧ B ≤ 200000) (hM : 1 ≤ M ∧ M ≤ 100000) (hK : 0 ≤ K ∧ K ≤ 100) (gl : Nat → Bk) (ok : op.Ok (upS (fun _ _ => 0) 2 7 (100 * M))) (_hn : op.n = 1)
    (o1 : op.tmp = -(M * K)) (o2 : op.ls = 0) (o3 : op.al = 0) (o5 : ∀ k, k < op.n → op.r k = 10000 * K) (o6 : op.nx = 10000 * K) (g : Nat → Bk) :
    ∃ v, MkAt R nr ⟨j, 1, 100 * B, 0, 0, 0, 3, 0⟩ op (upS (fun _ _ => 0) 2 7 (100 * M)) (fun _ _ => 0) 0 g (fun _ _ => 0) 0 gl v (fun _ _ => 0) ∧ Fit ⟨j, 1, 100 * B, 0, 0, 0, 3, 0⟩ op v ∧
      v.x.tax = B * K + M * K ∧ v.df = -(M * K) ∧ v.tt = B * K ∧ v.cl.tmp = 0 ∧ v.cl.n = 0 ∧ v.x.q = 0 ∧ v.q = 1 ∧ (v.f 0).m = -(100 * M) := by
  have hb := bOne (c := 2) (y := 7) (a := 100 * M) (by unfold BOk; omega) (by unfold Mon; omega) (by omega)
  have p1 : 0 ≤ M * K ∧ M * K ≤ 100000 * 100 := ⟨Int.mul_nonneg (by omega) hK.1, Int.mul_le_mul hM.2 hK.2 hK.1 (by omega)⟩
  have p2 : 0 ≤ B * K ∧ B * K ≤ 200000 * 100 := ⟨Int.mul_nonneg (by omega) hK.1, Int.mul_le_mul hB.2 hK.2 hK.1 (by omega)⟩
  have bt : btot g 0 - btot op.g op.n = -(100 * M) := by
    rw [ok.iv.is.total hb.is]
    show (0 : Int) - (0 + 100 * M) = _; omega
  obtain ⟨v, h, hx, hr, hq, hf⟩ := mk_make (op := op) (i := ⟨j, 1, 100 * B, 0, 0, 0, 3, 0⟩) (m := 0) (g := g) (SL := fun _ _ => 0) (nl := 0) (gl := gl) ⟨by unfold PerOk; dsimp only; omega, by unfold RtOk; dsimp only; omega, by unfold Mon; dsimp only; omega⟩ (F _ _ (by dsimp only; omega) (by dsimp only; omega)) (fis_gone hb.is)
    (tax_plain (N := 100 * (B + M)) (by unfold TArg tqOf; dsimp only; omega) (inc_y (by unfold Mon tqOf; dsimp only; rw [bt]; omega) (by unfold tqOf; dsimp only; rw [bt]; omega)) (by omega) gl)
  have fl := h.flat iv ok (BInv.zero g) F o5 (.inl o6)
  have e1 : v.x.tax = B * K + M * K := by
    rw [hx]
    show rof (100 * (B + M)) (10000 * K) = _
    rw [rof_hund, Int.add_mul]
  have e2 : v.cl.tmp = 0 := by rw [h.tmp]; rfl
  have e3 : v.cl.left = 0 := by rw [h.left, hx]; rfl
  have e4 : v.cl.ls = 0 := by rw [h.ls, e3, rof_no]
  have e5 : v.cl.al = 0 := by rw [h.al, e4, rof_no]; rfl
  have e6 := fl.df
  have e7 := h.tt
  dsimp only at e7
  refine ⟨v, h, fl.fit h.tt (by omega) (by omega) (by dsimp only; omega), e1, by omega, by omega, e2, h.cn, by rw [hx], hq, by rw [hf]; rfl⟩
theorem fis_nil : FIs (fun _ _ => 0) (fun _ _ => 0) 0 (fun _ => (⟨0, 0, 0, 0, 0⟩ : Wy)) := by
  have e : both (fun _ _ => 0) (fun _ _ => 0) = fun _ _ => 0 := by funext c y; unfold both; rfl
  exact ⟨by rw [e]; exact bis_zero _, fun j hj => by omega, fun j hj => by omega, fun j hj => by omega⟩
/-- one loss of year 0, till year 2 -/
def gLoss (L : Int) : Nat → Bk := fun _ => ⟨2, 0, L⟩
def sLoss (L : Int) : Int → Int → Int := upS (fun _ _ => 0) 2 0 L
theorem isLoss {L : Int} (h1 : 1 ≤ L ∧ L ≤ 100000000000) : VInv (sLoss L) 1 (gLoss L) := by
  refine ⟨⟨⟨fun j _ => ?_, fun j _ => ?_, fun i j hi hj => by omega⟩, fun c y => ?_⟩, by omega, fun j _ => ?_, ?_⟩
  · show VOk 2 0; unfold VOk; omega
  · show L ≠ 0; omega
  · show 0 + bval ⟨2, 0, L⟩ c y = _
    unfold bval sLoss upS
    dsimp only
    by_cases q : (2 : Int) = c ∧ (0 : Int) = y
    · rw [if_pos q, if_pos ⟨q.1.symm, q.2.symm⟩]; omega
    · rw [if_neg q, if_neg (fun z => q ⟨z.1.symm, z.2.symm⟩)]; rfl
  · show 0 ≤ L; omega
  · show 0 + L ≤ _; omega
theorem btotLoss (L : Int) : btot (gLoss L) 1 = L := by show 0 + L = L; omega
/-- the loss comes -/
theorem tax_loss {L r : Int} (h1 : 1 ≤ L ∧ L ≤ 50000000) (hr : 0 ≤ r ∧ r ≤ 1000000) (gl : Nat → Bk) : TOk (fun _ _ => 0) 0 gl ⟨-L, 0, 0, 1000000, 2, 0, r⟩ ⟨-L, 0, 0, L, 0, 0, 0, fun _ => 0⟩ (sLoss L) := by
  refine ⟨by unfold TArg; dsimp only; omega, inc_y (by unfold Mon; dsimp only; omega) (by dsimp only; omega), ⟨0, fun _ => ⟨0, 0, 0⟩, ⟨by rw [xps_zero]; exact VInv.zero _, rfl, rfl⟩, .inr (.inr ⟨by dsimp only; omega, rfl, rfl, by dsimp only; omega, ?_, ?_⟩)⟩, by dsimp only; omega, by dsimp only; rw [rof_no]⟩
  · dsimp only
    exact .ok ⟨by unfold VOk; omega, by omega, by omega⟩ (by show (0 : Int) + _ ≤ _; omega) (.inr (by omega))
  · dsimp only
    rw [xps_zero]
    unfold sLoss
    rw [show (0 : Int) + - -L = L by omega]
    rfl
/-- and is used, or it expires -/
theorem tax_used {L r y : Int} (h1 : 1 ≤ L ∧ L ≤ 50000000) (hr : 0 ≤ r ∧ r ≤ 1000000) (hy : 0 ≤ y ∧ y ≤ 99) :
    ∃ x S', TOk (sLoss L) 1 (gLoss L) ⟨L, 0, 0, 1000000, 2, y, r⟩ x S' ∧ x.new = 0 ∧ ((2 < y ∧ x.exp = L ∧ x.used = 0 ∧ x.tax = rof L r) ∨ (¬ 2 < y ∧ x.exp = 0 ∧ x.used = L ∧ x.tax = 0)) := by
  have iv := isLoss (L := L) (by omega)
  rcases tax_any iv ⟨L, 0, 0, 1000000, 2, y, r⟩ with ⟨e, _, hno⟩ | ⟨x, S', hok⟩
  · exfalso
    cases hno with
    | arg q => exact q (by unfold TArg; dsimp only; omega)
    | over _ q =>
      rcases q with ⟨_, _, _, _, q, _⟩ | ⟨q, _⟩
      · cases q
      · exact q (by dsimp only; unfold Mon; omega)
    | add _ hi hn _ _ _ =>
      obtain ⟨_, hj⟩ := inc_mon hi
      dsimp only at hj; omega
  · obtain ⟨_, hj⟩ := inc_mon hok.inc
    obtain ⟨m, h, tl, nx⟩ := hok.next
    have ht := hok.txb
    have hta := hok.tax
    have hx := tl.exp
    have hs := tl.sum
    have hb := btotLoss L
    dsimp only at hj hx hs tl hta
    have hg : tot (goneU (gLoss L) y) 1 = if 2 < y then L else 0 := by
      show 0 + goneU (gLoss L) y 0 = _
      unfold goneU gLoss
      dsimp only
      by_cases q : 2 < y
      · rw [if_pos q]; omega
      · rw [if_neg q]; omega
    rw [hg] at hx
    rw [hb] at hs
    have hnew : x.new = 0 := by rcases nx with ⟨_, _, _, _, q, _⟩ | ⟨_, _, _, q, _⟩ | ⟨q, _⟩ <;> omega
    refine ⟨x, S', hok, hnew, ?_⟩
    by_cases q : 2 < y
    · rw [if_pos q] at hx
      have hu : x.used = 0 := by
        rcases nx with ⟨_, _, hu, hus, _, _⟩ | ⟨_, _, z, _, _⟩ | ⟨z, _⟩
        · rw [hus, hu, us_tot]
          have k1 := EU_all (year := y) (n := m) (fun j hj => (tl.pos j hj).1)
          have k2 := EU_nonneg (year := y) (n := m) (fun j hj => (tl.pos j hj).1) (Nat.le_refl m)
          dsimp only
          omega
        · exact z
        · omega
      refine .inl ⟨q, hx.symm, hu, ?_⟩
      rw [hta, show x.txb = L by omega]
    · rw [if_neg q] at hx
      have ex : xpS (sLoss L) y = sLoss L := by
        funext c y'
        unfold xpS sLoss upS
        by_cases z : c = 2 ∧ y' = 0
        · rw [if_neg (by omega)]
        · rw [if_neg z]; split <;> rfl
      have ti := tl.inv.is
      rw [ex] at ti
      obtain ⟨rfl, hh⟩ := ti.uniq iv.is
      have h0 := hh 0 (by omega)
      have hE : EU h y 1 = L := by
        show 0 + eU h y 0 = L
        unfold eU
        rw [h0]
        show 0 + (if 2 < y then 0 else L) = L
        rw [if_neg q]; omega
      have hu1 : x.used = L := by
        rcases nx with ⟨z, hq, hu, hus, _, _⟩ | ⟨z, hq, hus, _, _⟩ | ⟨z, _⟩
        · have hf : floorV x.inc 1000000 = L := by
            have b : floorB x.inc 1000000 = true := decide_eq_true (by omega)
            rw [floorV, b, if_pos rfl]; omega
          rw [hus, hu, us_tot, hE]
          dsimp only
          rw [hf]; omega
        · omega
        · omega
      refine .inr ⟨q, hx.symm, hu1, ?_⟩
      rw [hta, show x.txb = 0 by omega, rof_no]
section
variable {R : Nat → Rt} {nr : Nat} {j : ByteArray} {L J : Int} {op : MBal}
theorem losses_one (iv : TInv nr R) (F : Flat R nr j 200000) (hL : 1 ≤ L ∧ L ≤ 100000) (hJ : 0 ≤ J ∧ J ≤ 100) (gl g : Nat → Bk) :
    ∃ v, MkAt R nr ⟨j, 0, -(500 * L), 0, 10000 * J, 1000000, 2, 0⟩ MBal.none (fun _ _ => 0) (fun _ _ => 0) 0 g (fun _ _ => 0) 0 gl v (sLoss (500 * L)) ∧ Fit ⟨j, 0, -(500 * L), 0, 10000 * J, 1000000, 2, 0⟩ MBal.none v ∧
      v.x.tax = 0 ∧ v.cl.tmp = 0 ∧ v.cl.ls = 100 * L ∧ v.cl.al = -(L * J) ∧ v.df = L * J - 100 * L ∧ v.lm = -(100 * L) ∧ v.am = L * J ∧ v.cl.left = 500 * L ∧ v.cl.n = 0 ∧ v.cl.nx = 200000 ∧ v.x.q = 0 ∧ v.q = 0 := by
  have p1 : 0 ≤ L * J ∧ L * J ≤ 100000 * 100 := ⟨Int.mul_nonneg (by omega) hJ.1, Int.mul_le_mul hL.2 hJ.2 hJ.1 (by omega)⟩
  have bt : btot g 0 - btot MBal.none.g MBal.none.n = 0 := rfl
  obtain ⟨v, h, hx, hr, hq, hf⟩ := mk_make (op := MBal.none) (i := ⟨j, 0, -(500 * L), 0, 10000 * J, 1000000, 2, 0⟩) (m := 0) (g := g) (gl := gl) ⟨by unfold PerOk; dsimp only; omega, by unfold RtOk; dsimp only; omega, by unfold Mon; dsimp only; omega⟩ (F _ _ (by dsimp only; omega) (by dsimp only; omega)) (fis_fresh (bis_zero g))
    (show TOk _ _ gl (tqOf _ _ _ _ _) _ _ from tax_loss (L := 500 * L) (r := 200000) (by omega) (by omega) gl)
  have fl := h.flat iv MBal.none_ok (BInv.zero g) F (fun k hk => absurd hk (Nat.not_lt_zero _)) (.inr rfl)
  have e2 : v.cl.tmp = 0 := by rw [h.tmp]; rfl
  have e3 : v.cl.left = 500 * L := by rw [h.left, hx]; show (0 : Int) - 0 - 0 + 500 * L = _; omega
  have e4 : v.cl.ls = 100 * L := by
    rw [h.ls, e3, fl.nx, show 500 * L = 100 * (5 * L) by omega, show (200000 : Int) = 10000 * 20 by rfl, rof_hund]; omega
  have e5 : v.cl.al = -(L * J) := by rw [h.al, e4]; dsimp only; rw [rof_hund]
  have e6 := fl.df
  have e7 := h.tt
  have e8 := fl.lm
  have e9 := fl.am
  have e10 : v.x.tax = 0 := by rw [hx]
  have z : MBal.none.tmp = 0 ∧ MBal.none.ls = 0 ∧ MBal.none.al = 0 := ⟨rfl, rfl, rfl⟩
  dsimp only at e7
  exact ⟨v, h, fl.fit h.tt (by omega) (by omega) (by dsimp only; omega), e10, e2, e4, e5, by omega, by omega, by omega, e3, h.cn, fl.nx, by rw [hx], hq⟩
theorem losses_two {per : Int} (iv : TInv nr R) (F : Flat R nr j 200000) (hL : 1 ≤ L ∧ L ≤ 100000) (hJ : 0 ≤ J ∧ J ≤ 100) (hp : 0 ≤ per ∧ per ≤ 399) (ok : op.Ok (fun _ _ => 0)) (hn : op.n = 0)
    (o1 : op.tmp = 0) (o2 : op.ls = 100 * L) (o3 : op.al = -(L * J)) (o6 : op.nx = 200000) (g : Nat → Bk) :
    ∃ v S', MkAt R nr ⟨j, per, 500 * L, 0, 10000 * J, 1000000, 2, 0⟩ op (fun _ _ => 0) (fun _ _ => 0) 0 g (sLoss (500 * L)) 1 (gLoss (500 * L)) v S' ∧ Fit ⟨j, per, 500 * L, 0, 10000 * J, 1000000, 2, 0⟩ op v ∧
      ((12 ≤ per ∧ v.x.tax = 100 * L ∧ v.x.used = 0 ∧ v.x.exp = 500 * L) ∨ (¬ 12 ≤ per ∧ v.x.tax = 0 ∧ v.x.used = 500 * L ∧ v.x.exp = 0)) ∧ v.cl.ls = 0 ∧ v.cl.al = 0 ∧ v.df = 100 * L - L * J ∧ v.tt = v.x.tax + (100 * L - L * J) ∧ v.x.q ≤ 12 ∧ v.q = 0 ∧ v.cl.n = 0 ∧ ∃ n' g', VInv S' n' g' ∧ btot g' n' = 0 := by
  have p1 : 0 ≤ L * J ∧ L * J ≤ 100000 * 100 := ⟨Int.mul_nonneg (by omega) hJ.1, Int.mul_le_mul hL.2 hJ.2 hJ.1 (by omega)⟩
  have ivL := isLoss (L := 500 * L) (by omega)
  have bt : btot g 0 - btot op.g op.n = 0 := by rw [hn]; rfl
  obtain ⟨x, S', hok, hnew, hx⟩ := tax_used (L := 500 * L) (r := 200000) (y := per / 4) (by omega) (by omega) (by omega)
  have hok' : TOk (sLoss (500 * L)) 1 (gLoss (500 * L)) (tqOf ⟨j, per, 500 * L, 0, 10000 * J, 1000000, 2, 0⟩ op 0 g 200000) x S' := by
    unfold tqOf; rw [bt]; exact hok
  obtain ⟨v, h, hvx, hr, hq, hf⟩ := mk_make (op := op) (i := ⟨j, per, 500 * L, 0, 10000 * J, 1000000, 2, 0⟩) (m := 0) (g := g) ⟨by unfold PerOk; dsimp only; omega, by unfold RtOk; dsimp only; omega, by unfold Mon; dsimp only; omega⟩ (F _ _ (by dsimp only; omega) (by dsimp only; omega)) fis_nil hok'
  have fl := h.flat iv ok (BInv.zero g) F (fun k hk => by omega) (.inl o6)
  obtain ⟨n', g', iv', hl⟩ := h.tax.left ivL
  rw [btotLoss, hvx] at hl
  have hbd := (hok.bd ivL).2.2.2.2.2.2.2.2.2.2
  have e2 : v.cl.tmp = 0 := by rw [h.tmp]; rfl
  have e3 : v.cl.left = 0 := by rw [h.left, hvx, btotLoss]; omega
  have e4 : v.cl.ls = 0 := by rw [h.ls, e3, rof_no]
  have e5 : v.cl.al = 0 := by rw [h.al, e4, rof_no]; rfl
  have e6 := fl.df
  have e7 := h.tt
  have e8 : rof (500 * L) 200000 = 100 * L := by rw [show 500 * L = 100 * (5 * L) by omega, show (200000 : Int) = 10000 * 20 by rfl, rof_hund]; omega
  have e9 : (12 ≤ per ∧ v.x.tax = 100 * L ∧ v.x.used = 0 ∧ v.x.exp = 500 * L) ∨ (¬ 12 ≤ per ∧ v.x.tax = 0 ∧ v.x.used = 500 * L ∧ v.x.exp = 0) := by
    rw [hvx]
    rcases hx with ⟨a, b, c, d⟩ | ⟨a, b, c, d⟩
    · exact .inl ⟨by omega, by rw [d, e8], c, b⟩
    · exact .inr ⟨by omega, d, c, b⟩
  dsimp only at e7
  exact ⟨v, S', h, fl.fit h.tt (by omega) (by omega) (by dsimp only; omega), e9, e4, e5, by omega, by omega, by rw [hvx]; exact hbd, hq, h.cn, n', g', iv', by omega⟩
end
/-- nothing there, no loss: only the tax and what is trued up -/
structure Bare (v : MPv) (tu : Int) : Prop where
  tmp : v.cl.tmp = 0
  ls : v.cl.ls = 0
  al : v.cl.al = 0
  tm : v.tm = 0
  tr : v.tr = 0
  lr : v.lr = 0
  lm : v.lm = 0
  am : v.am = 0
  df : v.df = 0
  tt : v.tt = v.x.tax + tu
section
variable {R : Nat → Rt} {nr : Nat} {i : MIn} {SL' : Int → Int → Int} {g gl : Nat → Bk} {v : MPv} {r N : Int}
theorem MkAt.bare (h : MkAt R nr i MBal.none (fun _ _ => 0) (fun _ _ => 0) 0 g (fun _ _ => 0) 0 gl v SL') (hq : v.q = 0) (h1 : v.x.exp = 0 ∧ v.x.used = 0 ∧ v.x.new = 0) : Bare v i.tu := by
  have e1 : v.cl.tmp = 0 := by rw [h.tmp]; rfl
  have e2 : v.cl.left = 0 := by rw [h.left, h1.1, h1.2.1, h1.2.2]; rfl
  have e3 : v.cl.ls = 0 := by rw [h.ls, e2, rof_no]
  have e4 : v.cl.al = 0 := by rw [h.al, e3, rof_no]; rfl
  have e5 : v.tm = 0 := by rw [h.tm, hq]; rfl
  have e6 : v.tr = 0 := by rw [h.tr, hq]; rfl
  have e7 : v.lr = 0 := by rw [h.lr]; show -(rof 0 _ - rof 0 _) = 0; rw [rof_no, rof_no]; rfl
  have z : MBal.none.tmp = 0 ∧ MBal.none.ls = 0 ∧ MBal.none.al = 0 := ⟨rfl, rfl, rfl⟩
  have e8 : v.lm = 0 := by rw [h.lm]; omega
  have e9 : v.am = 0 := by rw [h.am]; omega
  have e10 : v.df = 0 := by rw [h.df]; omega
  exact ⟨e1, e3, e4, e5, e6, e7, e8, e9, e10, by rw [h.tt, e10]; omega⟩
theorem Bare.fit (z : Bare v i.tu) (h : Mon (v.x.tax + i.tu)) : Fit i MBal.none v := by
  obtain ⟨e1, e2, e3, e4, e5, e6, e7, e8, e9, e10⟩ := z
  have n0 : Mon 0 := by unfold Mon; decide
  refine ⟨by rw [e1]; exact n0, ⟨by rw [e4]; exact n0, by rw [e5]; exact n0⟩, fun k hk => ?_⟩
  rcases (show k = 0 ∨ k = 1 ∨ k = 2 ∨ k = 3 ∨ k = 4 ∨ k = 5 ∨ k = 6 ∨ k = 7 ∨ k = 8 by omega) with rfl | rfl | rfl | rfl | rfl | rfl | rfl | rfl | rfl
  · show Mon v.lm; rw [e7]; exact n0
  · show Mon v.lr; rw [e6]; exact n0
  · show Mon v.am; rw [e8]; exact n0
  · exact h
  · show Mon (v.cl.tmp - 0); rw [e1]; exact n0
  · show Mon (v.cl.ls - 0); rw [e2]; exact n0
  · show Mon (v.cl.al - 0); rw [e3]; exact n0
  · show Mon v.df; rw [e9]; exact n0
  · show Mon v.tt; rw [e10]; exact h
/-- of an income that is no loss -/
theorem mk_bare (ha : MArg i) (hr : Known R nr i.j (i.p / 4) i.p r true) (hc : (0 ≤ i.cp ∧ i.cp ≤ 1000000) ∧ 0 ≤ i.lf ∧ i.lf ≤ 99) (hrt : 0 ≤ r ∧ r ≤ 1000000) (h0 : 0 ≤ i.bk + i.pm) (hm : Mon i.bk ∧ Mon i.pm ∧ Mon (i.bk + i.pm)) (g gl : Nat → Bk) :
    ∃ v, MkAt R nr i MBal.none (fun _ _ => 0) (fun _ _ => 0) 0 g (fun _ _ => 0) 0 gl v (fun _ _ => 0) ∧ Bare v i.tu ∧ v.x.tax = rof (i.bk + i.pm) r ∧ v.x.q = 0 ∧ v.q = 0 ∧ v.cl.n = 0 := by
  have hp := ha.1
  unfold PerOk at hp
  have bt : btot g 0 - btot MBal.none.g MBal.none.n = 0 := rfl
  obtain ⟨v, h, hx, _, hq, _⟩ := mk_make (op := MBal.none) (m := 0) (g := g) (gl := gl) (nl := 0) (SL := fun _ _ => 0) ha hr fis_nil
    (tax_plain (N := i.bk + i.pm) (by unfold TArg tqOf; dsimp only; omega) (inc_y (by unfold tqOf; dsimp only; exact ⟨hm.1, hm.2.1, by rw [bt]; unfold Mon; decide, hm.2.2⟩) (by unfold tqOf; dsimp only; rw [bt]; omega)) h0 gl)
  exact ⟨v, h, h.bare hq (by rw [hx]; exact ⟨rfl, rfl, rfl⟩), by rw [hx]; rfl, by rw [hx], hq, h.cn⟩
end
/-- two places: one rate for all years, one from year 5 on, as known from period 3 on -/
def R19 : Nat → Rt := pushT (pushT (fun _ => ⟨⟨#[]⟩, 0, 0, 0⟩) 0 ⟨⟨#[117, 107]⟩, 0, 250000, 0⟩) 1 ⟨⟨#[100, 101]⟩, 5, 1, 3⟩
theorem R19_0 : R19 0 = ⟨⟨#[117, 107]⟩, 0, 250000, 0⟩ := rfl
theorem R19_1 : R19 1 = ⟨⟨#[100, 101]⟩, 5, 1, 3⟩ := rfl
theorem uk_de : ¬ (⟨#[117, 107]⟩ : ByteArray) = ⟨#[100, 101]⟩ := by decide
theorem R19_uk {y p : Int} (hy : 0 ≤ y) (hp : 0 ≤ p) : Known R19 2 ⟨#[117, 107]⟩ y p 250000 true := by
  refine .inl ⟨rfl, 0, by omega, ⟨rfl, hy, hp⟩, fun k hk hM => ?_, rfl⟩
  rcases (show k = 0 ∨ k = 1 by omega) with rfl | rfl
  · exact .inr ⟨rfl, Int.le_refl _⟩
  · exact absurd hM.1 (fun e => uk_de e.symm)
theorem R19_de {y p : Int} (hy : 5 ≤ y) (hp : 3 ≤ p) : Known R19 2 ⟨#[100, 101]⟩ y p 1 true := by
  refine .inl ⟨rfl, 1, by omega, ⟨rfl, hy, hp⟩, fun k hk hM => ?_, rfl⟩
  rcases (show k = 0 ∨ k = 1 by omega) with rfl | rfl
  · exact absurd hM.1 uk_de
  · exact .inr ⟨rfl, Int.le_refl _⟩
theorem R19_de_no {y p : Int} (h : y < 5 ∨ p < 3) : Known R19 2 ⟨#[100, 101]⟩ y p 0 false := by
  refine .inr ⟨rfl, rfl, fun k hk hM => ?_⟩
  rcases (show k = 0 ∨ k = 1 by omega) with rfl | rfl
  · exact uk_de hM.1
  · have h1 : (5 : Int) ≤ y := hM.2.1
    have h2 : (3 : Int) ≤ p := hM.2.2
    omega
theorem R19_fr (y p : Int) : Known R19 2 ⟨#[102, 114]⟩ y p 0 false := by
  refine .inr ⟨rfl, rfl, fun k hk hM => ?_⟩
  rcases (show k = 0 ∨ k = 1 by omega) with rfl | rfl
  · exact absurd hM.1 (by decide)
  · exact absurd hM.1 (by decide)
/-- what is tried -/
def p19 (n : Int) : Nat → MIn × Int
  | 0 => (⟨⟨#[117, 107]⟩, -1, 0, 0, 0, 0, 0, 0⟩, 1)
  | 1 => (⟨⟨#[117, 107]⟩, 400, 0, 0, 0, 0, 0, 0⟩, 1)
  | 2 => (⟨⟨#[117, 107]⟩, 0, 0, 0, -n, 0, 0, 0⟩, 1)
  | 3 => (⟨⟨#[117, 107]⟩, 0, 0, 0, 0, 0, 0, 100000000000 + n⟩, 1)
  | 4 => (⟨⟨#[102, 114]⟩, 0, 0, 0, 0, 0, 0, 0⟩, 7)
  | 5 => (⟨⟨#[100, 101]⟩, 2, 0, 0, 0, 0, 0, 0⟩, 7)
  | 6 => (⟨⟨#[100, 101]⟩, 16, 0, 0, 0, 0, 0, 0⟩, 7)
  | 7 => (⟨⟨#[100, 101]⟩, 20, 0, 0, 0, 0, 0, 0⟩, 0)
  | 8 => (⟨⟨#[117, 107]⟩, 0, 100000000000 + n, 0, 0, 0, 0, 0⟩, 6)
  | 9 => (⟨⟨#[117, 107]⟩, 0, 100000000000, n, 0, 0, 0, 0⟩, 6)
  | 10 => (⟨⟨#[117, 107]⟩, 0, 0, 0, 0, -1, 0, 0⟩, 1)
  | 11 => (⟨⟨#[117, 107]⟩, 0, 0, 0, 0, 0, -1, 0⟩, 1)
  | 12 => (⟨⟨#[117, 107]⟩, 0, 100000000000, 0, 0, 0, 0, 100000000000⟩, 6)
  | _ => (⟨⟨#[117, 107]⟩, 0, n, 0, 0, 0, 0, -n⟩, 0)
def No19 (x : MIn × Int) (g gl : Nat → Bk) : Prop := x.2 ≠ 0 ∧ MkNo R19 2 x.1 MBal.none (fun _ _ => 0) (fun _ _ => 0) 0 g (fun _ _ => 0) 0 gl x.2
def Yes19 (x : MIn × Int) (g gl : Nat → Bk) : Prop := x.2 = 0 ∧ ∃ v SL', MkAt R19 2 x.1 MBal.none (fun _ _ => 0) (fun _ _ => 0) 0 g (fun _ _ => 0) 0 gl v SL' ∧ Fit x.1 MBal.none v ∧ v.x.q = 0 ∧ v.q = 0 ∧ v.cl.n = 0
section
variable {n : Int} {g gl : Nat → Bk}
theorem no_arg {i : MIn} (h : ¬ MArg i) : No19 (i, 1) g gl := ⟨(by show (1 : Int) ≠ 0; decide), .arg h⟩
theorem no_rate {i : MIn} (h : MArg i) (k : Known R19 2 i.j (i.p / 4) i.p 0 false) : No19 (i, 7) g gl := ⟨(by show (7 : Int) ≠ 0; decide), .rate h k⟩
theorem no_tax {i : MIn} {e : Int} (h : MArg i) (hj : i.j = ⟨#[117, 107]⟩) (he : e ≠ 0) (t : TNo (fun _ _ => 0) 0 gl ⟨i.bk, i.pm, 0, i.cp, i.lf, i.p / 4, 250000⟩ e) : No19 (i, e) g gl := by
  have hp := h.1
  unfold PerOk at hp
  refine ⟨he, .tax (r := 250000) (nx := 250000) (rs := fun _ => 0) h (by rw [hj]; exact R19_uk (by dsimp only; omega) hp.1) (by rw [hj]; exact R19_uk (by dsimp only; omega) hp.1) (fun k hk => by omega) ?_ he⟩
  exact t
theorem errs19 (hn : 1 ≤ n ∧ n ≤ 1000) (g gl : Nat → Bk) : ∀ k, k < 14 → No19 (p19 n k) g gl ∨ Yes19 (p19 n k) g gl := by
  have aA : ∀ j b q c l, MArg ⟨j, 0, b, q, 0, c, l, 0⟩ := fun j b q c l => ⟨by unfold PerOk; dsimp only; omega, by unfold RtOk; dsimp only; omega, by unfold Mon; dsimp only; omega⟩
  have a0 : ∀ j, MArg ⟨j, 0, 0, 0, 0, 0, 0, 0⟩ := fun j => ⟨by unfold PerOk; dsimp only; omega, by unfold RtOk; dsimp only; omega, by unfold Mon; dsimp only; omega⟩
  intro k hk
  rcases (show k = 0 ∨ k = 1 ∨ k = 2 ∨ k = 3 ∨ k = 4 ∨ k = 5 ∨ k = 6 ∨ k = 7 ∨ k = 8 ∨ k = 9 ∨ k = 10 ∨ k = 11 ∨ k = 12 ∨ k = 13 by omega) with rfl | rfl | rfl | rfl | rfl | rfl | rfl | rfl | rfl | rfl | rfl | rfl | rfl | rfl
  · exact .inl (no_arg fun h => by have := h.1; unfold PerOk at this; dsimp only at this; omega)
  · exact .inl (no_arg fun h => by have := h.1; unfold PerOk at this; dsimp only at this; omega)
  · exact .inl (no_arg fun h => by have := h.2.1; unfold RtOk at this; dsimp only at this; omega)
  · exact .inl (no_arg fun h => by have := h.2.2; unfold Mon at this; dsimp only at this; omega)
  · exact .inl (no_rate (a0 _) (R19_fr _ _))
  · exact .inl (no_rate ⟨by unfold PerOk; dsimp only; omega, by unfold RtOk; dsimp only; omega, by unfold Mon; dsimp only; omega⟩ (R19_de_no (.inl (by decide))))
  · exact .inl (no_rate ⟨by unfold PerOk; dsimp only; omega, by unfold RtOk; dsimp only; omega, by unfold Mon; dsimp only; omega⟩ (R19_de_no (.inl (by decide))))
  · obtain ⟨v, h, z, ht, h1, h2, h3⟩ := mk_bare (R := R19) (nr := 2) (i := ⟨⟨#[100, 101]⟩, 20, 0, 0, 0, 0, 0, 0⟩) (r := 1) ⟨by unfold PerOk; dsimp only; omega, by unfold RtOk; dsimp only; omega, by unfold Mon; dsimp only; omega⟩ (R19_de (by decide) (by decide)) (by decide) (by decide) (by decide) (by unfold Mon; decide) g gl
    exact .inr ⟨rfl, v, _, h, z.fit (by rw [ht]; unfold Mon; decide), h1, h2, h3⟩
  · exact .inl (no_tax (aA _ _ _ _ _) rfl (by decide) (.over (by unfold TArg; dsimp only; omega) (inc_no fun q => by have := q.1; unfold Mon at this; dsimp only at this; omega)))
  · exact .inl (no_tax (aA _ _ _ _ _) rfl (by decide) (.over (by unfold TArg; dsimp only; omega) (inc_no fun q => by have := q.2.2.2; unfold Mon at this; dsimp only at this; omega)))
  · exact .inl (no_tax (aA _ _ _ _ _) rfl (by decide) (.arg fun q => by unfold TArg at q; dsimp only at q; omega))
  · exact .inl (no_tax (aA _ _ _ _ _) rfl (by decide) (.arg fun q => by unfold TArg at q; dsimp only at q; omega))
  · obtain ⟨v, h, z, ht, h1, h2, h3⟩ := mk_bare (R := R19) (nr := 2) (i := ⟨⟨#[117, 107]⟩, 0, 100000000000, 0, 0, 0, 0, 100000000000⟩) (r := 250000) ⟨by unfold PerOk; dsimp only; omega, by unfold RtOk; dsimp only; omega, by unfold Mon; dsimp only; omega⟩ (R19_uk (by decide) (by decide)) (by decide) (by decide) (by decide) (by unfold Mon; decide) g gl
    refine .inl ⟨(by show (6 : Int) ≠ 0; decide), .over h fun f => ?_⟩
    have : Mon (finU ⟨⟨#[117, 107]⟩, 0, 100000000000, 0, 0, 0, 0, 100000000000⟩ MBal.none v 3) := f.2.2 3 (by omega)
    have e : finU ⟨⟨#[117, 107]⟩, 0, 100000000000, 0, 0, 0, 0, 100000000000⟩ MBal.none v 3 = rof (100000000000 + 0) 250000 + 100000000000 := by show v.x.tax + _ = _; rw [ht]
    rw [e] at this
    revert this; unfold Mon; decide
  · have e : rof (n + 0) 250000 = (n * 250000 + 500000) / 1000000 := by rw [Int.add_zero, rof_pos (by omega)]
    obtain ⟨v, h, z, ht, h1, h2, h3⟩ := mk_bare (R := R19) (nr := 2) (i := ⟨⟨#[117, 107]⟩, 0, n, 0, 0, 0, 0, -n⟩) (r := 250000) ⟨by unfold PerOk; dsimp only; omega, by unfold RtOk; dsimp only; omega, by unfold Mon; dsimp only; omega⟩ (R19_uk (by dsimp only; omega) (by dsimp only; omega)) (by dsimp only; omega) (by decide) (by dsimp only; omega) (by unfold Mon; dsimp only; omega) g gl
    exact .inr ⟨rfl, v, _, h, z.fit (by rw [ht]; dsimp only; rw [e]; unfold Mon; omega), h1, h2, h3⟩
end
end Go.Proofs.Ytmlafdehhbhbiaa
