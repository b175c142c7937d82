/- Closes at one rate, with losses that live long; behind them a period in which nothing is: mathematics alone. -/
import Derived.Test.YtmlafdehhbhbiaaGreatMkFlat
import Derived.Test.YtmlafdehhbhbiaaGreatM5
namespace Go.Proofs.YtmlafdehhbhbiaaGreat
structure Stay (r judge : Int) (op : MBal) (S SL : Int → Int → Int) (nl : Nat) (gl : Nat → Bk) (V : Int) (k : Nat) : Prop where
 ok : op.Ok S
 v : S = upS (fun _ _ => 0) 1 3 V
 vb : -1000 * (k : Int) ≤ V ∧ V ≤ 1000 * (k : Int)
 fr : ∀ j, j < op.n → op.r j = r
 nx : op.nx = r ∨ op.left = 0
 nx2 : 0 ≤ op.per → op.nx = r
 al : op.al = -rof op.ls judge
 jd : RtOk judge
 vl : VInv SL nl gl
 left : op.left = btot gl nl
 far : ∀ c y, SL c y ≠ 0 → 50 ≤ c
section
variable {r judge V a : Int} {op : MBal} {S S' SL SL' : Int → Int → Int} {nl m k nr : Nat} {gl g : Nat → Bk} {R : Nat → Rt} {j : ByteArray}
theorem up_zero : upS (fun _ _ => 0) 1 3 0 = fun _ _ => 0 := by
 funext c y; unfold upS; split <;> rfl
theorem Stay.start (r : Int) (gl : Nat → Bk) : Stay r 0 MBal.none (fun _ _ => 0) (fun _ _ => 0) 0 gl 0 0 :=
 ⟨MBal.none_ok, up_zero.symm, by omega, fun j hj => absurd hj (Nat.not_lt_zero _), .inr rfl, fun h => by unfold MBal.none at h; dsimp only at h; omega, by unfold MBal.none rof; decide, by unfold RtOk; decide, VInv.zero _, rfl, fun c y h => absurd rfl h⟩
theorem up_up (V W : Int) : upS (upS (fun _ _ => 0) 1 3 V) 1 3 W = upS (fun _ _ => 0) 1 3 W := by
 funext c y; unfold upS; split <;> rfl
theorem one_is (V : Int) : ∃ n g, BIs (upS (fun _ _ => 0) 1 3 V) n g ∧ n ≤ 1 ∧ btot g n = V := by
 by_cases h : V = 0
 · subst h
   rw [up_zero]
   exact ⟨0, fun _ => ⟨0, 0, 0⟩, bis_zero _, by omega, rfl⟩
 · refine ⟨1, gOne 1 3 V, ⟨⟨fun j _ => by show BOk 1 3; unfold BOk; omega, fun j _ => h, fun i j hi hj => by omega⟩, fun c' y' => ?_⟩, by omega, by show 0 + V = V; omega⟩
   show 0 + bval ⟨1, 3, V⟩ c' y' = _
   unfold bval upS
   dsimp only
   by_cases q : (1 : Int) = c' ∧ (3 : Int) = y'
   · rw [if_pos q, if_pos ⟨q.1.symm, q.2.symm⟩]; omega
   · rw [if_neg q, if_neg (fun z => q ⟨z.1.symm, z.2.symm⟩)]; rfl
theorem one_move {n : Nat} {g : Nat → Bk} (b : BIs (upS (fun _ _ => 0) 1 3 V) n g) (hV : -10000 ≤ V ∧ V ≤ 10000) (ha : -1000 ≤ a ∧ a ≤ 1000) : MErr (upS (fun _ _ => 0) 1 3 V) n (btot g n) 1 3 a 0 := by
 obtain ⟨n', g', b', hn, ht⟩ := one_is V
 have e1 := (b.uniq b').1
 have e2 := b.total b'
 refine .ok ⟨by unfold BOk; omega, by unfold Mon; omega⟩ ⟨by rw [upS_at]; unfold Mon; omega, by rw [e2, ht]; unfold Mon; omega⟩ ?_
 unfold cntB
 split <;> split <;> omega
theorem Stay.later (h : Stay r judge op S SL nl gl V k) : Stay r judge op S SL nl gl V (k + 1) :=
 ⟨h.ok, h.v, by have := h.vb; omega, h.fr, h.nx, h.nx2, h.al, h.jd, h.vl, h.left, h.far⟩
theorem mv_one (V a : Int) : mvS 0 (upS (fun _ _ => 0) 1 3 V) 1 3 a = upS (fun _ _ => 0) 1 3 (V + a) := by
 unfold mvS
 rw [if_pos rfl, upS_at, up_up]
theorem Stay.made {i : MIn} {v : MPv} (h : Stay r judge op S SL nl gl V k) (iv : TInv nr R) (F : Flat R nr i.j r) (b : BInv S' m g) (hS : S' = upS (fun _ _ => 0) 1 3 (V + a)) (ha : -1000 ≤ a ∧ a ≤ 1000) (hlf : i.lf = 50) (hp : 0 ≤ i.p) (H : MkAt R nr i op S S' m g SL nl gl v SL') (ft : Fit i op v) :
   ∃ nl' gl', Stay r i.jd v.cl S' SL' nl' gl' (V + a) (k + 1) := by
 have fl := H.flat iv h.ok b F h.fr h.nx
 obtain ⟨n', g', vl', e⟩ := H.tax.left h.vl
 refine ⟨n', g', H.ok ft iv b h.vl, hS, by have := h.vb; omega, fl.rs, .inl fl.nx, fun _ => fl.nx, H.al, H.arg.2.1, vl', by rw [H.left, e], fun c y hne => ?_⟩
 obtain ⟨m2, h2, tl, nx⟩ := H.tax.next
 have old : ∀ c y, xpS SL (i.p / 4) c y ≠ 0 → 50 ≤ c := fun c y q => by
   unfold xpS at q
   split at q
   · exact absurd rfl q
   · exact h.far c y q
 rcases nx with ⟨_, _, _, _, _, hs⟩ | ⟨_, _, _, _, hs⟩ | ⟨_, _, _, _, _, hs⟩
 · rw [hs] at hne
   obtain ⟨q, hq, e1, e2⟩ := bget_some hne
   have e3 := tl.inv.is.at hq
   have e4 := tl.inv.is.1.nz q hq
   refine old c y ?_
   rw [← e1, ← e2]
   show xpS SL (tqOf i op m g v.r).year (h2 q).c (h2 q).y ≠ 0
   rw [e3]; exact e4
 · rw [hs] at hne
   exact old c y hne
 · rw [hs] at hne
   unfold upS at hne
   split at hne
   · rename_i q
     have : (tqOf i op m g v.r).year + (tqOf i op m g v.r).life = i.p / 4 + 50 := by unfold tqOf; dsimp only; rw [hlf]
     rw [q.1, this]; omega
   · exact old c y hne
theorem Stay.ends (h : Stay r judge op S SL nl gl V k) (iv : TInv nr R) (F : Flat R nr j r) (b : BInv S m g) (hper : 0 ≤ op.per) (hr : 0 ≤ r ∧ r ≤ 1000000) :
   ∃ v SL', MkAt R nr ⟨j, 9, 0, 0, judge, 500000, 1, 0⟩ op S S m g SL nl gl v SL' ∧ Fit ⟨j, 9, 0, 0, judge, 500000, 1, 0⟩ op v ∧ v.tt = 0 ∧ v.df = 0 ∧ v.x.tax = 0 ∧ v.cl.tmp = op.tmp ∧ v.cl.ls = op.ls ∧ v.cl.al = op.al ∧ v.cl.left = op.left ∧ v.cl.n = op.n ∧ (∀ i, i < op.n → v.cl.g i = op.g i) := by
 obtain ⟨en, eg⟩ := b.is.uniq h.ok.iv.is
 have bt : btot g m - btot op.g op.n = 0 := by rw [b.is.total h.ok.iv.is]; omega
 have ex : xpS SL 2 = SL := by
   funext c y
   unfold xpS
   split
   · rename_i q
     refine Classical.byContradiction fun z => ?_
     have := h.far c y (fun e => z e.symm)
     omega
   · rfl
 have eg0 : tot (goneU gl 2) nl = 0 := tot_zero nl fun q hq => by
   have e3 := h.vl.is.at hq
   have e4 := h.vl.is.1.nz q hq
   have := h.far (gl q).c (gl q).y (by rw [e3]; exact e4)
   unfold goneU
   rw [if_neg (by omega)]
 have tl : TLeft SL nl gl 2 nl gl 0 := ⟨by rw [ex]; exact h.vl, eg0, by omega⟩
 have hok : TOk SL nl gl (tqOf ⟨j, 9, 0, 0, judge, 500000, 1, 0⟩ op m g r) ⟨0, 0, 0, 0, 0, 0, 0, fun _ => 0⟩ SL := by
   unfold tqOf
   rw [bt]
   refine ⟨by unfold TArg; dsimp only; omega, inc_y (by unfold Mon; dsimp only; omega) (by dsimp only; omega), ⟨nl, gl, tl, .inr (.inl ⟨rfl, rfl, rfl, rfl, ?_⟩)⟩, rfl, by dsimp only; rw [rof_no]⟩
   exact ex.symm
 obtain ⟨v, H, hx, _, hq, hf⟩ := mk_make (op := op) (i := ⟨j, 9, 0, 0, judge, 500000, 1, 0⟩) (m := m) (g := g) ⟨by unfold PerOk; dsimp only; omega, h.jd, by unfold Mon; dsimp only; omega⟩ (F _ _ (by dsimp only; omega) (by dsimp only; omega)) (fis_still b.is) hok
 have fl := H.flat iv h.ok b F h.fr h.nx
 have nx := h.nx2 hper
 have e1 : v.cl.left = op.left := by rw [H.left, hx, h.left]; dsimp only; omega
 have e2 : v.cl.ls = op.ls := by rw [H.ls, e1, fl.nx, h.ok.ls, nx]
 have e3 : v.cl.al = op.al := by rw [H.al, e2, h.al]
 have e4 : v.cl.tmp = op.tmp := by
   rw [H.tmp, h.ok.tmp.1, ← en]
   have : tot (partU g v.cl.r) m = tot (partU op.g op.r) m := tot_ext m fun q hq => by
     unfold partU
     rw [eg q hq, fl.rs q (by rw [H.cn]; exact hq), h.fr q (by rw [← en]; exact hq)]
   rw [this]
 have e5 : v.df = 0 := by rw [fl.df, e2, e3, e4]; omega
 have e6 : v.x.tax = 0 := by rw [hx]
 have e7 : v.tt = 0 := by rw [H.tt, e5, e6]; rfl
 have f1 := fl.tm
 have f2 := fl.tr
 have f3 := fl.lr
 have f4 := fl.lm
 have f5 := fl.am
 have n0 : Mon 0 := by unfold Mon; decide
 refine ⟨v, SL, H, ⟨by rw [e4]; exact h.ok.tmp.2, ⟨by rw [f1, e4, Int.sub_self]; exact n0, by rw [f2]; exact n0⟩, fun q hq => ?_⟩, e7, e5, e6, e4, e2, e3, e1, by rw [H.cn, en], fun q hq => by rw [H.cg]; exact eg q (by omega)⟩
 rcases (show q = 0 ∨ q = 1 ∨ q = 2 ∨ q = 3 ∨ q = 4 ∨ q = 5 ∨ q = 6 ∨ q = 7 ∨ q = 8 by omega) with rfl | rfl | rfl | rfl | rfl | rfl | rfl | rfl | rfl
 · show Mon v.lm; rw [f4, e2, Int.sub_self]; exact n0
 · show Mon v.lr; rw [f3]; exact n0
 · show Mon v.am; rw [f5, e3, Int.sub_self]; exact n0
 · show Mon (v.x.tax + 0); rw [e6]; exact n0
 · show Mon (v.cl.tmp - op.tmp); rw [e4, Int.sub_self]; exact n0
 · show Mon (v.cl.ls - op.ls); rw [e2, Int.sub_self]; exact n0
 · show Mon (v.cl.al - op.al); rw [e3, Int.sub_self]; exact n0
 · show Mon v.df; rw [e5]; exact n0
 · show Mon v.tt; rw [e7]; exact n0
end
end Go.Proofs.YtmlafdehhbhbiaaGreat
