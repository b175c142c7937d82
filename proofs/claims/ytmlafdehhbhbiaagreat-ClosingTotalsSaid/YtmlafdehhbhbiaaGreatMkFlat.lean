/- Provisions where one rate holds for all years: mathematics alone. -/
import Derived.Test.YtmlafdehhbhbiaaGreatMkSum
import Derived.Test.YtmlafdehhbhbiaaGreatM9
namespace Go.Proofs.YtmlafdehhbhbiaaGreat
def Flat (R : Nat → Rt) (n : Nat) (j : ByteArray) (r : Int) : Prop := ∀ y p, 0 ≤ y → 0 ≤ p → Known R n j y p r true
theorem flat_first (R0 : Nat → Rt) (j : ByteArray) (r : Int) : Flat (pushT R0 0 ⟨j, 0, r, 0⟩) 1 j r := fun y p hy hp =>
 .inl ⟨rfl, 0, by omega, by rw [pushT_at]; exact ⟨rfl, hy, hp⟩, fun k hk _ => by
   obtain rfl : k = 0 := by omega
   exact .inr ⟨rfl, Int.le_refl _⟩, by rw [pushT_at]⟩
theorem rof_hund (a b : Int) : rof (100 * a) (10000 * b) = a * b := by
 obtain ⟨p, hp⟩ : ∃ p, a * b = p := ⟨_, rfl⟩
 have e : 100 * a * (10000 * b) = 1000000 * p := by
   rw [← hp, Int.mul_assoc, Int.mul_left_comm a 10000 b, ← Int.mul_assoc]; rfl
 unfold rof
 rw [e, hp]
 split <;> omega
section
variable {R : Nat → Rt} {nr : Nat} {i : MIn} {op : MBal} {S0 S SL SL' : Int → Int → Int} {m nl q : Nat} {g gl : Nat → Bk} {f : Nat → Wy} {v : MPv} {r : Int}
theorem mk_make (ha : MArg i) (hr : Known R nr i.j (i.p / 4) i.p r true) (hf : FIs S0 S q f) {x : Tx} (ht : TOk SL nl gl (tqOf i op m g r) x SL') :
   ∃ v, MkAt R nr i op S0 S m g SL nl gl v SL' ∧ v.x = x ∧ v.r = r ∧ v.q = q ∧ v.f = f := by
 have hp := ha.1
 unfold PerOk at hp
 obtain ⟨nx, hnx⟩ := known_up (y' := min (i.p / 4 + 1) 99) hr (by omega)
 obtain ⟨rs, hrs⟩ := known_rows hr (fun k => max (g k).y (i.p / 4)) (fun k => by show i.p / 4 ≤ max (g k).y (i.p / 4); omega)
 obtain ⟨now, hnow⟩ := known_rows hr (fun k => max (f k).y (i.p / 4)) (fun k => by show i.p / 4 ≤ max (f k).y (i.p / 4); omega)
 let was : Nat → Int := fun k => (old_any op (f k).c (f k).y (now k)).choose
 have hwas : ∀ k, OldIs op (f k).c (f k).y (now k) (was k) := fun k => (old_any op (f k).c (f k).y (now k)).choose_spec
 let left := btot gl nl - x.exp - x.used + x.new
 let ls := rof left nx
 let lr := -(rof op.left nx - rof op.left op.nx)
 let lm := op.ls - ls - lr
 let al := -rof ls i.jd
 let tm := tot (mvU f now) q
 let tr := tot (rtU f was now) q
 let df := tm + tr + lm + lr + (op.al - al)
 exact ⟨⟨r, ⟨i.p, m, g, rs, nx, left, -tot (partU g rs) m, ls, al⟩, x, q, f, was, now, tm, tr, lm, lr, op.al - al, df, x.tax + df + i.tu⟩,
   ⟨ha, hr, hnx, fun k _ => hrs k, hf, ht, rfl, rfl, rfl, rfl, rfl, rfl, rfl, fun k _ => hnow k, fun k _ => hwas k, rfl, rfl, rfl, rfl, rfl, rfl, rfl⟩, rfl, rfl, rfl, rfl⟩
structure FlatIs (op : MBal) (v : MPv) (r : Int) : Prop where
 er : v.r = r
 nx : v.cl.nx = r
 rs : ∀ k, k < v.cl.n → v.cl.r k = r
 now : ∀ k, k < v.q → v.now k = r
 tr : v.tr = 0
 tm : v.tm = op.tmp - v.cl.tmp
 lr : v.lr = 0
 lm : v.lm = op.ls - v.cl.ls
 am : v.am = op.al - v.cl.al
 df : v.df = op.tmp - v.cl.tmp + (op.ls - v.cl.ls) + (op.al - v.cl.al)
theorem MkAt.flat (h : MkAt R nr i op S0 S m g SL nl gl v SL') (iv : TInv nr R) (ok : op.Ok S0) (b : BInv S m g) (F : Flat R nr i.j r) (h1 : ∀ k, k < op.n → op.r k = r) (h2 : op.nx = r ∨ op.left = 0) : FlatIs op v r := by
 have hp := h.arg.1
 unfold PerOk at hp
 have uq := iv.uniq
 have e1 := (Known.uniq uq h.rate (F _ _ (by omega) (by omega))).1
 have e2 := (Known.uniq uq h.nx (F _ _ (by omega) (by omega))).1
 have e3 : ∀ k, k < v.cl.n → v.cl.r k = r := fun k hk => (Known.uniq uq (h.rs k (by rw [← h.cn]; exact hk)) (F _ _ (by omega) (by omega))).1
 have e4 : ∀ k, k < v.q → v.now k = r := fun k hk => (Known.uniq uq (h.now k hk) (F _ _ (by omega) (by omega))).1
 have e5 : v.tr = 0 := by
   rw [h.tr]
   refine tot_zero v.q fun k hk => ?_
   unfold rtU
   have z : v.was k = r := by
     rcases h.was k hk with ⟨l, hl, _, _, z⟩ | ⟨_, z⟩
     · rw [z]; exact h1 l hl
     · rw [z]; exact e4 k hk
   rw [e4 k hk, z]; omega
 have e6 : v.lr = 0 := by
   rw [h.lr, e2]
   rcases h2 with z | z
   · rw [z]; omega
   · rw [z, rof_no, rof_no]; rfl
 have e7 := h.temp_sum iv ok b
 have e8 := h.lm
 have e9 := h.am
 have e10 := h.df
 refine ⟨e1, e2, e3, e4, e5, by omega, e6, by omega, e9, by omega⟩
theorem FlatIs.fit (z : FlatIs op v r) (ht : v.tt = v.x.tax + v.df + i.tu) (h1 : (-10000000000 ≤ op.tmp ∧ op.tmp ≤ 10000000000) ∧ (-10000000000 ≤ op.ls ∧ op.ls ≤ 10000000000) ∧ -10000000000 ≤ op.al ∧ op.al ≤ 10000000000)
   (h2 : (-10000000000 ≤ v.cl.tmp ∧ v.cl.tmp ≤ 10000000000) ∧ (-10000000000 ≤ v.cl.ls ∧ v.cl.ls ≤ 10000000000) ∧ -10000000000 ≤ v.cl.al ∧ v.cl.al ≤ 10000000000)
   (h3 : (-10000000000 ≤ v.x.tax ∧ v.x.tax ≤ 10000000000) ∧ -10000000000 ≤ i.tu ∧ i.tu ≤ 10000000000) : Fit i op v := by
 have e1 := z.tr; have e2 := z.tm; have e3 := z.lr; have e4 := z.lm; have e5 := z.am; have e6 := z.df
 refine ⟨by unfold Mon; omega, ⟨by unfold Mon; omega, by unfold Mon; omega⟩, fun k hk => ?_⟩
 rcases (show k = 0 ∨ k = 1 ∨ k = 2 ∨ k = 3 ∨ k = 4 ∨ k = 5 ∨ k = 6 ∨ k = 7 ∨ k = 8 by omega) with rfl | rfl | rfl | rfl | rfl | rfl | rfl | rfl | rfl
 · show Mon v.lm; unfold Mon; omega
 · show Mon v.lr; unfold Mon; omega
 · show Mon v.am; unfold Mon; omega
 · show Mon (v.x.tax + i.tu); unfold Mon; omega
 · show Mon (v.cl.tmp - op.tmp); unfold Mon; omega
 · show Mon (v.cl.ls - op.ls); unfold Mon; omega
 · show Mon (v.cl.al - op.al); unfold Mon; omega
 · show Mon v.df; unfold Mon; omega
 · show Mon v.tt; unfold Mon; omega
end
def gOne (c y a : Int) : Nat → Bk := fun _ => ⟨c, y, a⟩
theorem bOne {c y a : Int} (h : BOk c y) (ha : Mon a) (h0 : a ≠ 0) : BInv (upS (fun _ _ => 0) c y a) 1 (gOne c y a) := by
 refine ⟨⟨⟨fun j _ => h, fun j _ => h0, fun i j hi hj => by omega⟩, fun c' y' => ?_⟩, by omega, fun c' y' => ?_, ?_⟩
 · show 0 + bval ⟨c, y, a⟩ c' y' = _
   unfold bval upS
   dsimp only
   by_cases q : c = c' ∧ y = y'
   · rw [if_pos q, if_pos ⟨q.1.symm, q.2.symm⟩]; omega
   · rw [if_neg q, if_neg (fun z => q ⟨z.1.symm, z.2.symm⟩)]; rfl
 · unfold upS
   split
   · exact ha
   · show Mon 0; unfold Mon; omega
 · show Mon (0 + a)
   rw [Int.zero_add]; exact ha
theorem tot_gOne (c y a : Int) (r : Nat → Int) : tot (partU (gOne c y a) r) 1 = rof a (r 0) := by
 show 0 + rof a (r 0) = _; omega
theorem xps_zero (year : Int) : xpS (fun _ _ => 0) year = fun _ _ => 0 := by funext c y; unfold xpS; split <;> rfl
theorem tax_plain {p : Tq} (ha : TArg p) {N : Int} (hi : IncIs p.book p.perm p.moved N true) (h0 : 0 ≤ N) (gl : Nat → Bk) :
   TOk (fun _ _ => 0) 0 gl p ⟨N, 0, 0, 0, N, rof N p.r, 0, usU (fun _ => ⟨0, 0, 0⟩) p.year (floorV N p.cap)⟩ (fun _ _ => 0) := by
 refine ⟨ha, hi, ⟨0, fun _ => ⟨0, 0, 0⟩, ⟨by rw [xps_zero]; exact VInv.zero _, rfl, rfl⟩, ?_⟩, by dsimp only; omega, rfl⟩
 by_cases q : 0 < N
 · exact .inl ⟨q, rfl, rfl, rfl, rfl, rfl⟩
 · exact .inr (.inl ⟨by dsimp only; omega, rfl, rfl, rfl, by rw [xps_zero]⟩)
theorem turns_one {R : Nat → Rt} {nr : Nat} {j : ByteArray} {B M K : Int} (iv : TInv nr R) (F : Flat R nr j (10000 * K)) (hB : 100000 ≤ B ∧ B ≤ 200000) (hM : 1 ≤ M ∧ M ≤ 100000) (hK : 0 ≤ K ∧ K ≤ 100) (gl : Nat → Bk) :
   ∃ v, MkAt R nr ⟨j, 0, 100 * B, 0, 0, 0, 3, 0⟩ MBal.none (fun _ _ => 0) (upS (fun _ _ => 0) 2 7 (100 * M)) 1 (gOne 2 7 (100 * M)) (fun _ _ => 0) 0 gl v (fun _ _ => 0) ∧ Fit ⟨j, 0, 100 * B, 0, 0, 0, 3, 0⟩ MBal.none v ∧
     v.x.tax = B * K - M * K ∧ v.df = M * K ∧ v.tt = B * K ∧ v.cl.tmp = -(M * K) ∧ v.cl.ls = 0 ∧ v.cl.al = 0 ∧ v.cl.left = 0 ∧ v.cl.n = 1 ∧ (∀ k, k < v.cl.n → v.cl.r k = 10000 * K) ∧ v.cl.nx = 10000 * K ∧ v.x.q = 0 ∧ v.q = 1 := by
 have hb := bOne (c := 2) (y := 7) (a := 100 * M) (by unfold BOk; omega) (by unfold Mon; omega) (by omega)
 have p1 : 0 ≤ M * K ∧ M * K ≤ 100000 * 100 := ⟨Int.mul_nonneg (by omega) hK.1, Int.mul_le_mul hM.2 hK.2 hK.1 (by omega)⟩
 have p2 : 0 ≤ B * K ∧ B * K ≤ 200000 * 100 := ⟨Int.mul_nonneg (by omega) hK.1, Int.mul_le_mul hB.2 hK.2 hK.1 (by omega)⟩
 have bt : btot (gOne 2 7 (100 * M)) 1 - btot MBal.none.g MBal.none.n = 100 * M := by show 0 + 100 * M - 0 = _; omega
 obtain ⟨v, h, hx, hr, hq, hf⟩ := mk_make (op := MBal.none) (i := ⟨j, 0, 100 * B, 0, 0, 0, 3, 0⟩) (m := 1) (g := gOne 2 7 (100 * M)) (SL := fun _ _ => 0) (nl := 0) (gl := gl) ⟨by unfold PerOk; dsimp only; omega, by unfold RtOk; dsimp only; omega, by unfold Mon; dsimp only; omega⟩ (F _ _ (by dsimp only; omega) (by dsimp only; omega)) (fis_fresh hb.is)
   (tax_plain (N := 100 * (B - M)) (by unfold TArg tqOf; dsimp only; omega) (inc_y (by unfold Mon tqOf; dsimp only; rw [bt]; omega) (by unfold tqOf; dsimp only; rw [bt]; omega)) (by omega) gl)
 have fl := h.flat iv MBal.none_ok hb F (fun k hk => absurd hk (Nat.not_lt_zero _)) (.inr rfl)
 have e1 : v.x.tax = B * K - M * K := by
   rw [hx]
   show rof (100 * (B - M)) (10000 * K) = _
   rw [rof_hund, Int.sub_mul]
 have e2 : v.cl.tmp = -(M * K) := by
   rw [h.tmp, tot_gOne, fl.rs 0 (by rw [h.cn]; decide), rof_hund]
 have e3 : v.cl.left = 0 := by rw [h.left, hx]; rfl
 have e4 : v.cl.ls = 0 := by rw [h.ls, e3, rof_no]
 have e5 : v.cl.al = 0 := by rw [h.al, e4, rof_no]; rfl
 have e6 := fl.df
 have e7 := h.tt
 have z : MBal.none.tmp = 0 ∧ MBal.none.ls = 0 ∧ MBal.none.al = 0 := ⟨rfl, rfl, rfl⟩
 dsimp only at e7
 refine ⟨v, h, fl.fit h.tt (by omega) (by omega) (by dsimp only; omega), e1, by omega, by omega, e2, e4, e5, e3, h.cn, fl.rs, fl.nx, by rw [hx], hq⟩
theorem turns_two {R : Nat → Rt} {nr : Nat} {j : ByteArray} {B M K : Int} {op : MBal} (iv : TInv nr R) (F : Flat R nr j (10000 * K)) (hB : 100000 ≤ B ∧ B ≤ 200000) (hM : 1 ≤ M ∧ M ≤ 100000) (hK : 0 ≤ K ∧ K ≤ 100) (gl : Nat → Bk) (ok : op.Ok (upS (fun _ _ => 0) 2 7 (100 * M))) (_hn : op.n = 1)
   (o1 : op.tmp = -(M * K)) (o2 : op.ls = 0) (o3 : op.al = 0) (o5 : ∀ k, k < op.n → op.r k = 10000 * K) (o6 : op.nx = 10000 * K) (g : Nat → Bk) :
   ∃ v, MkAt R nr ⟨j, 1, 100 * B, 0, 0, 0, 3, 0⟩ op (upS (fun _ _ => 0) 2 7 (100 * M)) (fun _ _ => 0) 0 g (fun _ _ => 0) 0 gl v (fun _ _ => 0) ∧ Fit ⟨j, 1, 100 * B, 0, 0, 0, 3, 0⟩ op v ∧
     v.x.tax = B * K + M * K ∧ v.df = -(M * K) ∧ v.tt = B * K ∧ v.cl.tmp = 0 ∧ v.cl.n = 0 ∧ v.x.q = 0 ∧ v.q = 1 ∧ (v.f 0).m = -(100 * M) := by
 have hb := bOne (c := 2) (y := 7) (a := 100 * M) (by unfold BOk; omega) (by unfold Mon; omega) (by omega)
 have p1 : 0 ≤ M * K ∧ M * K ≤ 100000 * 100 := ⟨Int.mul_nonneg (by omega) hK.1, Int.mul_le_mul hM.2 hK.2 hK.1 (by omega)⟩
 have p2 : 0 ≤ B * K ∧ B * K ≤ 200000 * 100 := ⟨Int.mul_nonneg (by omega) hK.1, Int.mul_le_mul hB.2 hK.2 hK.1 (by omega)⟩
 have bt : btot g 0 - btot op.g op.n = -(100 * M) := by
   rw [ok.iv.is.total hb.is]
   show (0 : Int) - (0 + 100 * M) = _; omega
 obtain ⟨v, h, hx, hr, hq, hf⟩ := mk_make (op := op) (i := ⟨j, 1, 100 * B, 0, 0, 0, 3, 0⟩) (m := 0) (g := g) (SL := fun _ _ => 0) (nl := 0) (gl := gl) ⟨by unfold PerOk; dsimp only; omega, by unfold RtOk; dsimp only; omega, by unfold Mon; dsimp only; omega⟩ (F _ _ (by dsimp only; omega) (by dsimp only; omega)) (fis_gone hb.is)
   (tax_plain (N := 100 * (B + M)) (by unfold TArg tqOf; dsimp only; omega) (inc_y (by unfold Mon tqOf; dsimp only; rw [bt]; omega) (by unfold tqOf; dsimp only; rw [bt]; omega)) (by omega) gl)
 have fl := h.flat iv ok (BInv.zero g) F o5 (.inl o6)
 have e1 : v.x.tax = B * K + M * K := by
   rw [hx]
   show rof (100 * (B + M)) (10000 * K) = _
   rw [rof_hund, Int.add_mul]
 have e2 : v.cl.tmp = 0 := by rw [h.tmp]; rfl
 have e3 : v.cl.left = 0 := by rw [h.left, hx]; rfl
 have e4 : v.cl.ls = 0 := by rw [h.ls, e3, rof_no]
 have e5 : v.cl.al = 0 := by rw [h.al, e4, rof_no]; rfl
 have e6 := fl.df
 have e7 := h.tt
 dsimp only at e7
 refine ⟨v, h, fl.fit h.tt (by omega) (by omega) (by dsimp only; omega), e1, by omega, by omega, e2, h.cn, by rw [hx], hq, by rw [hf]; rfl⟩
theorem fis_nil : FIs (fun _ _ => 0) (fun _ _ => 0) 0 (fun _ => (⟨0, 0, 0, 0, 0⟩ : Wy)) := by
 have e : both (fun _ _ => 0) (fun _ _ => 0) = fun _ _ => 0 := by funext c y; unfold both; rfl
 exact ⟨by rw [e]; exact bis_zero _, fun j hj => by omega, fun j hj => by omega, fun j hj => by omega⟩
structure Bare (v : MPv) (tu : Int) : Prop where
 tmp : v.cl.tmp = 0
 ls : v.cl.ls = 0
 al : v.cl.al = 0
 tm : v.tm = 0
 tr : v.tr = 0
 lr : v.lr = 0
 lm : v.lm = 0
 am : v.am = 0
 df : v.df = 0
 tt : v.tt = v.x.tax + tu
section
variable {R : Nat → Rt} {nr : Nat} {i : MIn} {SL' : Int → Int → Int} {g gl : Nat → Bk} {v : MPv} {r N : Int}
theorem MkAt.bare (h : MkAt R nr i MBal.none (fun _ _ => 0) (fun _ _ => 0) 0 g (fun _ _ => 0) 0 gl v SL') (hq : v.q = 0) (h1 : v.x.exp = 0 ∧ v.x.used = 0 ∧ v.x.new = 0) : Bare v i.tu := by
 have e1 : v.cl.tmp = 0 := by rw [h.tmp]; rfl
 have e2 : v.cl.left = 0 := by rw [h.left, h1.1, h1.2.1, h1.2.2]; rfl
 have e3 : v.cl.ls = 0 := by rw [h.ls, e2, rof_no]
 have e4 : v.cl.al = 0 := by rw [h.al, e3, rof_no]; rfl
 have e5 : v.tm = 0 := by rw [h.tm, hq]; rfl
 have e6 : v.tr = 0 := by rw [h.tr, hq]; rfl
 have e7 : v.lr = 0 := by rw [h.lr]; show -(rof 0 _ - rof 0 _) = 0; rw [rof_no, rof_no]; rfl
 have z : MBal.none.tmp = 0 ∧ MBal.none.ls = 0 ∧ MBal.none.al = 0 := ⟨rfl, rfl, rfl⟩
 have e8 : v.lm = 0 := by rw [h.lm]; omega
 have e9 : v.am = 0 := by rw [h.am]; omega
 have e10 : v.df = 0 := by rw [h.df]; omega
 exact ⟨e1, e3, e4, e5, e6, e7, e8, e9, e10, by rw [h.tt, e10]; omega⟩
theorem Bare.fit (z : Bare v i.tu) (h : Mon (v.x.tax + i.tu)) : Fit i MBal.none v := by
 obtain ⟨e1, e2, e3, e4, e5, e6, e7, e8, e9, e10⟩ := z
 have n0 : Mon 0 := by unfold Mon; decide
 refine ⟨by rw [e1]; exact n0, ⟨by rw [e4]; exact n0, by rw [e5]; exact n0⟩, fun k hk => ?_⟩
 rcases (show k = 0 ∨ k = 1 ∨ k = 2 ∨ k = 3 ∨ k = 4 ∨ k = 5 ∨ k = 6 ∨ k = 7 ∨ k = 8 by omega) with rfl | rfl | rfl | rfl | rfl | rfl | rfl | rfl | rfl
 · show Mon v.lm; rw [e7]; exact n0
 · show Mon v.lr; rw [e6]; exact n0
 · show Mon v.am; rw [e8]; exact n0
 · exact h
 · show Mon (v.cl.tmp - 0); rw [e1]; exact n0
 · show Mon (v.cl.ls - 0); rw [e2]; exact n0
 · show Mon (v.cl.al - 0); rw [e3]; exact n0
 · show Mon v.df; rw [e9]; exact n0
 · show Mon v.tt; rw [e10]; exact h
theorem mk_bare (ha : MArg i) (hr : Known R nr i.j (i.p / 4) i.p r true) (hc : (0 ≤ i.cp ∧ i.cp ≤ 1000000) ∧ 0 ≤ i.lf ∧ i.lf ≤ 99) (hrt : 0 ≤ r ∧ r ≤ 1000000) (h0 : 0 ≤ i.bk + i.pm) (hm : Mon i.bk ∧ Mon i.pm ∧ Mon (i.bk + i.pm)) (g gl : Nat → Bk) :
   ∃ v, MkAt R nr i MBal.none (fun _ _ => 0) (fun _ _ => 0) 0 g (fun _ _ => 0) 0 gl v (fun _ _ => 0) ∧ Bare v i.tu ∧ v.x.tax = rof (i.bk + i.pm) r ∧ v.x.q = 0 ∧ v.q = 0 ∧ v.cl.n = 0 := by
 have hp := ha.1
 unfold PerOk at hp
 have bt : btot g 0 - btot MBal.none.g MBal.none.n = 0 := rfl
 obtain ⟨v, h, hx, _, hq, _⟩ := mk_make (op := MBal.none) (m := 0) (g := g) (gl := gl) (nl := 0) (SL := fun _ _ => 0) ha hr fis_nil
   (tax_plain (N := i.bk + i.pm) (by unfold TArg tqOf; dsimp only; omega) (inc_y (by unfold tqOf; dsimp only; exact ⟨hm.1, hm.2.1, by rw [bt]; unfold Mon; decide, hm.2.2⟩) (by unfold tqOf; dsimp only; rw [bt]; omega)) h0 gl)
 exact ⟨v, h, h.bare hq (by rw [hx]; exact ⟨rfl, rfl, rfl⟩), by rw [hx]; rfl, by rw [hx], hq, h.cn⟩
end
end Go.Proofs.YtmlafdehhbhbiaaGreat
