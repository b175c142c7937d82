/- A period's provision: how it comes about, and why there is none: mathematics alone. -/
import Derived.Test.YtmlafdehhbhbiaaM8
import Derived.Test.YtmlafdehhbhbiaaRmMath
import Derived.Test.YtmlafdehhbhbiaaM7
namespace Go.Proofs.Ytmlafdehhbhbiaa

/-- what a period has -/
structure MIn where
  j : ByteArray
  p : Int
  bk : Int
  pm : Int
  jd : Int
  cp : Int
  lf : Int
  tu : Int
/-- what a close leaves behind: its period, n buckets and their rates, the next rate, losses left, deferred tax -/
structure MBal where
  per : Int
  n : Nat
  g : Nat → Bk
  r : Nat → Int
  nx : Int
  left : Int
  tmp : Int
  ls : Int
  al : Int
def MBal.none : MBal := ⟨-1, 0, fun _ => ⟨0, 0, 0⟩, fun _ => 0, 0, 0, 0, 0, 0⟩
/-- balances that may be opening ones -/
structure MBal.Ok (b : MBal) (S : Int → Int → Int) : Prop where
  iv : BInv S b.n b.g
  rt : ∀ k, k < b.n → RtOk (b.r k)
  nx : RtOk b.nx
  left : 0 ≤ b.left ∧ b.left ≤ 100000000000
  tmp : b.tmp = -tot (partU b.g b.r) b.n ∧ Mon b.tmp
  ls : b.ls = rof b.left b.nx
  al : -b.ls ≤ b.al ∧ b.al ≤ 0
/-- a provision: its rate, both balances, the tax, the ways and their rates, the changes, the costs -/
structure MPv where
  r : Int
  cl : MBal
  x : Tx
  q : Nat
  f : Nat → Wy
  was : Nat → Int
  now : Nat → Int
  tm : Int
  tr : Int
  lm : Int
  lr : Int
  am : Int
  df : Int
  tt : Int
/-- the opening's rate of a place, or its rate now -/
def OldIs (b : MBal) (c y now v : Int) : Prop := (∃ k, k < b.n ∧ (b.g k).c = c ∧ (b.g k).y = y ∧ v = b.r k) ∨ ((∀ k, k < b.n → ¬ ((b.g k).c = c ∧ (b.g k).y = y)) ∧ v = now)
def MArg (i : MIn) : Prop := PerOk i.p ∧ RtOk i.jd ∧ Mon i.tu
/-- what the tax is asked -/
def tqOf (i : MIn) (op : MBal) (m : Nat) (g : Nat → Bk) (r : Int) : Tq := ⟨i.bk, i.pm, btot g m - btot op.g op.n, i.cp, i.lf, i.p / 4, r⟩
/-- all that is computed, whether it may be or not: table R, register S (rows g), losses SL (rows gl), behind it the losses SL' -/
structure MkAt (R : Nat → Rt) (nr : Nat) (i : MIn) (op : MBal) (S0 S : Int → Int → Int) (m : Nat) (g : Nat → Bk) (SL : Int → Int → Int) (nl : Nat) (gl : Nat → Bk) (v : MPv) (SL' : Int → Int → Int) : Prop where
  arg : MArg i
  rate : Known R nr i.j (i.p / 4) i.p v.r true
  nx : Known R nr i.j (min (i.p / 4 + 1) 99) i.p v.cl.nx true
  rs : ∀ k, k < m → Known R nr i.j (max (g k).y (i.p / 4)) i.p (v.cl.r k) true
  way : FIs S0 S v.q v.f
  tax : TOk SL nl gl (tqOf i op m g v.r) v.x SL'
  per : v.cl.per = i.p
  cn : v.cl.n = m
  cg : v.cl.g = g
  left : v.cl.left = btot gl nl - v.x.exp - v.x.used + v.x.new
  tmp : v.cl.tmp = -tot (partU g v.cl.r) m
  ls : v.cl.ls = rof v.cl.left v.cl.nx
  al : v.cl.al = -rof v.cl.ls i.jd
  now : ∀ k, k < v.q → Known R nr i.j (max (v.f k).y (i.p / 4)) i.p (v.now k) true
  was : ∀ k, k < v.q → OldIs op (v.f k).c (v.f k).y (v.now k) (v.was k)
  tm : v.tm = tot (mvU v.f v.now) v.q
  tr : v.tr = tot (rtU v.f v.was v.now) v.q
  lr : v.lr = -(rof op.left v.cl.nx - rof op.left op.nx)
  lm : v.lm = op.ls - v.cl.ls - v.lr
  am : v.am = op.al - v.cl.al
  df : v.df = v.tm + v.tr + v.lm + v.lr + v.am
  tt : v.tt = v.x.tax + v.df + i.tu
/-- the sums that must be money, one behind the other -/
def finU (i : MIn) (op : MBal) (v : MPv) : Nat → Int
  | 0 => v.lm
  | 1 => v.lr
  | 2 => v.am
  | 3 => v.x.tax + i.tu
  | 4 => v.cl.tmp - op.tmp
  | 5 => v.cl.ls - op.ls
  | 6 => v.cl.al - op.al
  | 7 => v.df
  | _ => v.tt
def Fit (i : MIn) (op : MBal) (v : MPv) : Prop := Mon v.cl.tmp ∧ (Mon v.tm ∧ Mon v.tr) ∧ ∀ k, k < 9 → Mon (finU i op v k)
/-- why there is no provision -/
inductive MkNo (R : Nat → Rt) (nr : Nat) (i : MIn) (op : MBal) (S0 S : Int → Int → Int) (m : Nat) (g : Nat → Bk) (SL : Int → Int → Int) (nl : Nat) (gl : Nat → Bk) : Int → Prop
  | arg : ¬ MArg i → MkNo R nr i op S0 S m g SL nl gl 1
  | rate : MArg i → Known R nr i.j (i.p / 4) i.p 0 false → MkNo R nr i op S0 S m g SL nl gl 7
  | tax {r nx e : Int} {rs : Nat → Int} : MArg i → Known R nr i.j (i.p / 4) i.p r true → Known R nr i.j (min (i.p / 4 + 1) 99) i.p nx true → (∀ k, k < m → Known R nr i.j (max (g k).y (i.p / 4)) i.p (rs k) true) → TNo SL nl gl (tqOf i op m g r) e → e ≠ 0 → MkNo R nr i op S0 S m g SL nl gl e
  | over {v : MPv} {SL' : Int → Int → Int} : MkAt R nr i op S0 S m g SL nl gl v SL' → ¬ Fit i op v → MkNo R nr i op S0 S m g SL nl gl 6
section
variable {R : Nat → Rt} {nr : Nat} {i : MIn} {op : MBal} {S0 S SL SL' : Int → Int → Int} {m nl : Nat} {g gl : Nat → Bk} {v : MPv} {r y y' : Int}
/-- known for a year, known for each later one -/
theorem known_up {j : ByteArray} {p : Int} (h : Known R nr j y p r true) (hy : y ≤ y') : ∃ r', Known R nr j y' p r' true := by
  obtain ⟨r', ok, h'⟩ := known_any R nr j y' p
  cases ok with
  | true => exact ⟨r', h'⟩
  | false =>
    exfalso
    rcases h' with ⟨q, _⟩ | ⟨_, _, hn⟩
    · cases q
    · rcases h with ⟨_, b, hb, hm, _⟩ | ⟨q, _⟩
      · exact hn b hb ⟨hm.1, by have := hm.2.1; omega, hm.2.2⟩
      · cases q
theorem known_rows {j : ByteArray} {p : Int} (h : Known R nr j y p r true) (u : Nat → Int) (hu : ∀ k, y ≤ u k) : ∃ rs : Nat → Int, ∀ k, Known R nr j (u k) p (rs k) true :=
  ⟨fun k => (known_up h (hu k)).choose, fun k => (known_up h (hu k)).choose_spec⟩
theorem known_rt {n : Nat} {j : ByteArray} {p : Int} (iv : TInv n R) (h : Known R n j y p r true) : RtOk r := by
  rcases h with ⟨_, b, hb, _, _, rfl⟩ | ⟨q, _⟩
  · have := iv.ok b hb
    exact ⟨this.2.2.2.1, this.2.2.2.2.1⟩
  · cases q
theorem old_any (b : MBal) (c y now : Int) : ∃ v, OldIs b c y now v := by
  by_cases h : ∃ k, k < b.n ∧ (b.g k).c = c ∧ (b.g k).y = y
  · obtain ⟨k, h1, h2, h3⟩ := h
    exact ⟨b.r k, .inl ⟨k, h1, h2, h3, rfl⟩⟩
  · exact ⟨now, .inr ⟨fun k hk e => h ⟨k, hk, e.1, e.2⟩, rfl⟩⟩
theorem OldIs.rt {b : MBal} {c y now w : Int} (h : OldIs b c y now w) (hb : ∀ k, k < b.n → RtOk (b.r k)) (hn : RtOk now) : RtOk w := by
  rcases h with ⟨k, hk, _, _, rfl⟩ | ⟨_, rfl⟩
  · exact hb k hk
  · exact hn
theorem mk_any {n0 : Nat} (_iv : TInv nr R) (i : MIn) (op : MBal) (_ok : op.Ok S0) (_b : BInv S m g) (vl : VInv SL nl gl) {q : Nat} {f : Nat → Wy} (hf : FIs S0 S q f) (_h0 : n0 = op.n) :
    (∃ e, e ≠ 0 ∧ MkNo R nr i op S0 S m g SL nl gl e) ∨ ∃ v SL', MkAt R nr i op S0 S m g SL nl gl v SL' ∧ Fit i op v := by
  by_cases ha : MArg i
  · obtain ⟨r, rk, hr⟩ := known_any R nr i.j (i.p / 4) i.p
    cases rk with
    | false =>
      refine .inl ⟨7, by decide, .rate ha ?_⟩
      rcases hr with ⟨z, _⟩ | ⟨_, rfl, z⟩
      · cases z
      · exact .inr ⟨rfl, rfl, z⟩
    | true =>
      have hp := ha.1
      unfold PerOk at hp
      obtain ⟨nx, hnx⟩ := known_up (y' := min (i.p / 4 + 1) 99) hr (by omega)
      obtain ⟨rs, hrs⟩ := known_rows hr (fun k => max (g k).y (i.p / 4)) (fun k => by show i.p / 4 ≤ max (g k).y (i.p / 4); omega)
      obtain ⟨now, hnow⟩ := known_rows hr (fun k => max (f k).y (i.p / 4)) (fun k => by show i.p / 4 ≤ max (f k).y (i.p / 4); omega)
      rcases tax_any vl (tqOf i op m g r) with ⟨e, he, ht⟩ | ⟨x, SL', ht⟩
      · exact .inl ⟨e, he, .tax ha hr hnx (fun k _ => hrs k) ht he⟩
      · let was : Nat → Int := fun k => (old_any op (f k).c (f k).y (now k)).choose
        have hwas : ∀ k, OldIs op (f k).c (f k).y (now k) (was k) := fun k => (old_any op (f k).c (f k).y (now k)).choose_spec
        let left := btot gl nl - x.exp - x.used + x.new
        let ls := rof left nx
        let lr := -(rof op.left nx - rof op.left op.nx)
        let lm := op.ls - ls - lr
        let al := -rof ls i.jd
        let tm := tot (mvU f now) q
        let tr := tot (rtU f was now) q
        let df := tm + tr + lm + lr + (op.al - al)
        have key : MkAt R nr i op S0 S m g SL nl gl ⟨r, ⟨i.p, m, g, rs, nx, left, -tot (partU g rs) m, ls, al⟩, x, q, f, was, now, tm, tr, lm, lr, op.al - al, df, x.tax + df + i.tu⟩ SL' :=
          ⟨ha, hr, hnx, fun k _ => hrs k, hf, ht, rfl, rfl, rfl, rfl, rfl, rfl, rfl, fun k _ => hnow k, fun k _ => hwas k, rfl, rfl, rfl, rfl, rfl, rfl, rfl⟩
        by_cases hfit : Fit i op ⟨r, ⟨i.p, m, g, rs, nx, left, -tot (partU g rs) m, ls, al⟩, x, q, f, was, now, tm, tr, lm, lr, op.al - al, df, x.tax + df + i.tu⟩
        · exact .inr ⟨_, _, key, hfit⟩
        · exact .inl ⟨6, by decide, .over key hfit⟩
  · exact .inl ⟨1, by decide, .arg ha⟩
/-- what a close leaves behind may be opened with -/
theorem MkAt.ok (h : MkAt R nr i op S0 S m g SL nl gl v SL') (hfit : Fit i op v) (iv : TInv nr R) (b : BInv S m g) (vl : VInv SL nl gl) : v.cl.Ok S := by
  obtain ⟨nl', gl', vl', e⟩ := h.tax.left vl
  have hl : 0 ≤ v.cl.left ∧ v.cl.left ≤ 100000000000 := by
    rw [h.left, ← e]
    exact ⟨tot_nonneg _ fun j hj => vl'.pos j hj, vl'.all⟩
  have hn := known_rt iv h.nx
  have s1 := share_low (a := v.cl.left) (r := v.cl.nx) (.inr ⟨⟨hl, hn⟩, rfl, rfl⟩)
  rw [← h.ls] at s1
  have s2 := (rof_rest (n := v.cl.ls) (r := i.jd) s1.1 h.arg.2.1).1
  refine ⟨by rw [h.cn, h.cg]; exact b, fun k hk => known_rt iv (h.rs k (by rw [← h.cn]; exact hk)), hn, hl, ⟨by rw [h.cn, h.cg]; exact h.tmp, hfit.1⟩, h.ls, ?_⟩
  rw [h.al]; omega
theorem MBal.none_ok : MBal.none.Ok (fun _ _ => 0) := ⟨BInv.zero _, fun k hk => absurd hk (Nat.not_lt_zero _), by unfold MBal.none RtOk; decide, by unfold MBal.none; decide, ⟨rfl, by unfold MBal.none Mon; decide⟩, by unfold MBal.none rof; decide, by unfold MBal.none; decide⟩
end
end Go.Proofs.Ytmlafdehhbhbiaa
