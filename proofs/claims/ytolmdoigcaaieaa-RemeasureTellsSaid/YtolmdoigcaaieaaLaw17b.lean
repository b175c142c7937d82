/- RemeasureTells: its walk. -/
import Derived.Test.YtolmdoigcaaieaaLaw17a
import Derived.Test.YtolmdoigcaaieaaOrd4
import Derived.BigQuiet
import Derived.Deep.QuietTactic
import Derived.Deep.RegionHeld3
import Derived.Deep.DeepCutAuto
import Derived.Laws.StructEq
namespace Go.Proofs.Ytolmdoigcaaieaa
open Go.RowKit

/-- the rows that are asked about, one of them written anew or not -/
def Asked (v w : World) (Ax Ay Ao An : Option Addr) (m my q p : Nat) (gy : Nat → Bk) (ro rn : Nat → Int) : Prop := ∃ (gx : Nat → Bk) (Sx : Int → Int → Int), AtR be 3 w Ax m gx ∧ BIs Sx m gx ∧ AtR be 3 w Ay my gy ∧ At w Ao q ro ∧ At w An p rn ∧ Below v.heap.size v w
theorem own_far3 {w : World} {base n size : Nat} {E : TypeId} {u : Value} {ys : List Value} (o : w.ownsRow base E size u n ys) {b o' : Nat} (x : Value) (hne : ∀ y, u.ownBlock = some y → y ≠ b) : (w.setCell ⟨b, o', none⟩ x).ownsRow base E size u n ys :=
  own_blocks o fun y hy => Below.heap_setCell _ _ _ _ (hne y hy)
set_option maxHeartbeats 16000000 in
set_option maxRecDepth 100000 in
theorem remeasureTells_walk (a0 : Option Addr) (len0 cap0 : Nat) (z0 : List Int) (a1 : Option Addr) (len1 cap1 : Nat) (z1 : List Int) (a2 : Option Addr) (len2 cap2 : Nat) (z2 : List Int) (a3 : Option Addr) (len3 cap3 : Nat) (z3 : List Int) (a4 a5 : Int) (w : World) (w0 : IsRow .i64 w a0 len0 cap0 z0) (w1 : IsRow .i64 w a1 len1 cap1 z1) (w2 : IsRow .i64 w a2 len2 cap2 z2) (w3 : IsRow .i64 w a3 len3 cap3 z3) (_k1 : (Lit.int .i64 a4).wf = true) (_k2 : (Lit.int .i64 a5).wf = true) :
    Calls Try.prog 5 #[.slice a0 len0 cap0, .slice a1 len1 cap1, .slice a2 len2 cap2, .slice a3 len3 cap3, .int .i64 a4, .int .i64 a5] w fun e w' => e = .returned (.bool true) ∧ Below w.heap.size w w' := by
  have W := Lib.hid fun w => wakes17_any w
  have CA := Lib.hid (preg_own a0 len0 cap0 z0 w.drew (w0.below (below_drew w)))
  have CB := Lib.hid fun v (k : Below w.drew.heap.size w.drew v) => preg_own a1 len1 cap1 z1 v (w1.below ((below_drew w).trans k))
  have CO := Lib.hid fun v (k : Below w.heap.size w v) (n : Nat) (hn : n ≤ 1000) => lrates a2 len2 cap2 z2 n v (w2.below k) hn
  have CN := Lib.hid fun v (k : Below w.heap.size w v) (n : Nat) (hn : n ≤ 1000) => lrates a3 len3 cap3 z3 n v (w3.below k) hn
  clear w0 w1 w2 w3 _k1 _k2
  go_enter Try.func5, Try.ntmps5
  go_upto_region 1 with fail
  refine wp_region_noPanic ?_
  refine AnyTill.begin (C := fun _ => True) (q := 99) (by kernel_rfl) ?_
  refine AnyTill.take (i := 0) (v := ?_) (by simp only [List.getElem?_toArray, List.getElem?_cons_zero]; rfl) (by kernel_rfl) (by kernel_rfl) (by kernel_rfl) (by kernel_rfl) (fun _ _ _ h => h) (Or.inl ⟨by rfl, ?_⟩) trivial ?_
  rotate_left
  · intro w' hw'; (try dsimp only at hw'); go_simp <;> with_reducible rfl
  try simp only [Act.put, List.setIfInBounds_toArray, List.set_cons_zero, List.set_cons_succ]
  refine AnyTill.take (i := 5) (v := ?_) (by simp only [List.getElem?_toArray, List.getElem?_cons_succ, List.getElem?_cons_zero]; rfl) (by kernel_rfl) (by kernel_rfl) (by kernel_rfl) (by kernel_rfl) (fun _ _ _ h => h) (Or.inl ⟨by rfl, ?_⟩) trivial ?_
  rotate_left
  · intro w' hw'; (try dsimp only at hw'); go_simp <;> with_reducible rfl
  try simp only [Act.put, List.setIfInBounds_toArray, List.set_cons_zero, List.set_cons_succ]
  refine' AnyTill.one (i := 1) (o := _) (by kernel_rfl) ?ho1 (fun K' hK => ?hh1)
  case ho1 => (simp only [List.getElem?_toArray, List.getElem?_cons_succ, List.getElem?_cons_zero]; rfl)
  go_simp
  (go_at_call 12; (refine (CA.out).mono ?_); rintro e v1 ⟨sx, Ax, cx, m, g, S, rfl, x0, hcx, ivx, hox, hb1⟩)
  refine hK.out _ _ (.inr trivial) ?_
  clear hK K'
  try simp only [Act.put, List.setIfInBounds_toArray, List.set_cons_zero, List.set_cons_succ]
  refine AnyTill.weaken (C' := fun w' => w'.cell? ⟨sx, 0, none⟩ = some (.slice Ax m cx)) (fun _ _ => trivial) _ _ _ _ ?_
  refine AnyTill.take (i := 2) (v := ?_) (by simp only [List.getElem?_toArray, List.getElem?_cons_succ, List.getElem?_cons_zero]; rfl) (by kernel_rfl) (by kernel_rfl) (by kernel_rfl) (by kernel_rfl) (fun _ _ _ h => h) (Or.inl ⟨by rfl, ?_⟩) x0 ?_
  rotate_left
  · intro w' hw'; (try dsimp only at hw'); go_simp <;> with_reducible rfl
  try simp only [Act.put, List.setIfInBounds_toArray, List.set_cons_zero, List.set_cons_succ]
  refine AnyTill.take (i := 3) (v := ?_) (by simp only [List.getElem?_toArray, List.getElem?_cons_succ, List.getElem?_cons_zero]; rfl) (by kernel_rfl) (by kernel_rfl) (by kernel_rfl) (by kernel_rfl) (fun _ _ _ h => h) (Or.inl ⟨by rfl, ?_⟩) x0 ?_
  rotate_left
  · intro w' hw'; (try dsimp only at hw'); go_simp <;> with_reducible rfl
  try simp only [Act.put, List.setIfInBounds_toArray, List.set_cons_zero, List.set_cons_succ]
  refine AnyTill.take (i := 4) (v := ?_) (by simp only [List.getElem?_toArray, List.getElem?_cons_succ, List.getElem?_cons_zero]; rfl) (by kernel_rfl) (by kernel_rfl) (by kernel_rfl) (by kernel_rfl) (fun _ _ _ h => h) (Or.inl ⟨by rfl, ?_⟩) x0 ?_
  rotate_left
  · intro w' hw'; (try dsimp only at hw'); go_simp <;> with_reducible rfl
  try simp only [Act.put, List.setIfInBounds_toArray, List.set_cons_zero, List.set_cons_succ]
  refine' AnyTill.one (i := 6) (o := _) (by kernel_rfl) ?ho6 (fun K' hK => ?hh6)
  case ho6 => (simp only [List.getElem?_toArray, List.getElem?_cons_succ, List.getElem?_cons_zero]; rfl)
  go_simp
  (go_at_call 12; (refine (CB.out _ hb1).mono ?_); rintro e v2 ⟨sy, Ay, cy, my, gy, Sy, rfl, y0, hcy, ivy, hoy, hb2⟩)
  refine hK.out _ _ (.inr (cell_keep x0 hb2)) ?_
  clear hK K'
  try simp only [Act.put, List.setIfInBounds_toArray, List.set_cons_zero, List.set_cons_succ]
  refine AnyTill.weaken (C' := fun w' => w'.cell? ⟨sx, 0, none⟩ = some (.slice Ax m cx) ∧ w'.cell? ⟨sy, 0, none⟩ = some (.slice Ay my cy)) (fun _ h => h.1) _ _ _ _ ?_
  have sc2 := And.intro (cell_keep x0 hb2) y0
  refine AnyTill.take (i := 7) (v := ?_) (by simp only [List.getElem?_toArray, List.getElem?_cons_succ, List.getElem?_cons_zero]; rfl) (by kernel_rfl) (by kernel_rfl) (by kernel_rfl) (by kernel_rfl) (fun _ _ _ h => h) (Or.inl ⟨by rfl, ?_⟩) sc2 ?_
  rotate_left
  · intro w' hw'; (try dsimp only at hw'); go_simp <;> with_reducible rfl
  try simp only [Act.put, List.setIfInBounds_toArray, List.set_cons_zero, List.set_cons_succ]
  refine AnyTill.take (i := 8) (v := ?_) (by simp only [List.getElem?_toArray, List.getElem?_cons_succ, List.getElem?_cons_zero]; rfl) (by kernel_rfl) (by kernel_rfl) (by kernel_rfl) (by kernel_rfl) (fun _ _ _ h => h) (Or.inl ⟨by rfl, ?_⟩) sc2 ?_
  rotate_left
  · intro w' hw'; (try dsimp only at hw'); go_simp <;> with_reducible rfl
  try simp only [Act.put, List.setIfInBounds_toArray, List.set_cons_zero, List.set_cons_succ]
  refine AnyTill.take (i := 9) (v := ?_) (by simp only [List.getElem?_toArray, List.getElem?_cons_succ, List.getElem?_cons_zero]; rfl) (by kernel_rfl) (by kernel_rfl) (by kernel_rfl) (by kernel_rfl) (fun _ _ _ h => h) (Or.inl ⟨by rfl, ?_⟩) sc2 ?_
  rotate_left
  · intro w' hw'; (try dsimp only at hw'); go_simp <;> with_reducible rfl
  try simp only [Act.put, List.setIfInBounds_toArray, List.set_cons_zero, List.set_cons_succ]
  refine AnyTill.take (i := 10) (v := ?_) (by simp only [List.getElem?_toArray, List.getElem?_cons_succ, List.getElem?_cons_zero]; rfl) (by kernel_rfl) (by kernel_rfl) (by kernel_rfl) (by kernel_rfl) (fun _ _ _ h => h) (Or.inl ⟨by rfl, ?_⟩) sc2 ?_
  rotate_left
  · intro w' hw'; (try dsimp only at hw'); go_simp <;> with_reducible rfl
  try simp only [Act.put, List.setIfInBounds_toArray, List.set_cons_zero, List.set_cons_succ]
  refine AnyTill.take (i := 11) (v := ?_) (by simp only [List.getElem?_toArray, List.getElem?_cons_succ, List.getElem?_cons_zero]; rfl) (by kernel_rfl) (by kernel_rfl) (by kernel_rfl) (by kernel_rfl) (fun _ _ _ h => h) (Or.inl ⟨by rfl, ?_⟩) sc2 ?_
  rotate_left
  · intro w' hw'; (try dsimp only at hw'); go_simp <;> with_reducible rfl
  try simp only [Act.put, List.setIfInBounds_toArray, List.set_cons_zero, List.set_cons_succ]
  refine AnyTill.done (by kernel_rfl) ?_ _
  refine NoPanic.normal ?_
  have B2 := Lib.hid ((below_drew w).trans ((hb1.trans (hb2.mono hb1.size)).mono (Nat.le_refl _)))
  have LTX := Lib.hid (World.ownsRow.lt hox)
  have BS2 := Lib.hid hb2.size
  have HOX : Hid (OwnR be 3 v2 26 w.heap.size (.slice Ax m cx) m g) := Lib.hid (own_blocks hox fun b hb => hb2.block b (World.ownsRow.lt hox b hb).2)
  have HOY : Hid (OwnR be 3 v2 26 v1.heap.size (.slice Ay my cy) my gy) := Lib.hid hoy
  have IX := Lib.hid ivx
  have IY := Lib.hid ivy
  have CX := Lib.hid hcx
  have CY := Lib.hid hcy
  have hm12 := ivx.le
  have hmy12 := ivy.le
  clear CA CB x0 y0 sc2 hox hoy ivx ivy hcx hcy
  go_wp2_with fail
  refine (rfwd (own_at3 HOX.out) (own_at3 HOY.out) IX.out IY.out).mono ?_
  rintro e v3 ⟨vf, q, f, rfl, hof, hf, hb3⟩
  obtain ⟨Af, cf, rfl, _, _, _⟩ := hof.form
  have hq9 := hf.le
  have B3 := Lib.hid (B2.out.trans (hb3.mono B2.out.size))
  have C4 := Lib.hid (CO.out v3 B3.out q (by omega))
  have BX3 := Lib.hid hb3
  obtain ⟨y, hy⟩ : ∃ y, a4 % 9 = y := ⟨_, rfl⟩
  have y0 : 0 ≤ y ∧ y ≤ 8 := by omega
  obtain ⟨d, hd, hd1⟩ : ∃ d : Nat, y.tdiv 8 = (d : Int) ∧ d ≤ 1 := ⟨(y.tdiv 8).toNat, by rw [Int.tdiv_eq_ediv_of_nonneg y0.1]; omega, by rw [Int.tdiv_eq_ediv_of_nonneg y0.1]; omega⟩
  have EY := Lib.hid hy
  clear hof hf hb3 hy CO
  go_wp2_with fail
  refine (C4.out).mono ?_
  rintro e v4 ⟨vo, ro, rfl, hoo, hb4⟩
  obtain ⟨Ao, co, rfl, ho1, ho2, _⟩ := hoo.form
  have OO4 := Lib.hid hoo
  have CO4 := Lib.hid (And.intro ho1 ho2)
  have BX4 := Lib.hid (BX3.out.trans (hb4.mono BX3.out.size))
  have B4 := Lib.hid (B3.out.trans (hb4.mono B3.out.size))
  have C5 := Lib.hid (by have := CN.out v4 B4.out (q + d) (by omega); rwa [Int.natCast_add] at this)
  clear hoo hb4 C4 CN ho1 ho2
  go_wp2_with (first | (go_at_call 8; (with_reducible refine (within_at _ _ _ _ (by omega) (by omega) EY).mono ?_); rintro e w' ⟨rfl, rfl⟩))
  refine (C5.out).mono ?_
  rintro e v5 ⟨vn, rn, rfl, hon, hb5⟩
  obtain ⟨An, cn, rfl, hn1, hn2, _⟩ := hon.form
  have ON5 := Lib.hid hon
  have CN5 := Lib.hid (And.intro hn1 hn2)
  have OO5 := Lib.hid (OO4.out.below hb5)
  have BX5 := Lib.hid (BX4.out.trans (hb5.mono BX4.out.size))
  have B5 := Lib.hid (B4.out.trans (hb5.mono B4.out.size))
  obtain ⟨p, hp⟩ : ∃ p, p = q + d := ⟨_, rfl⟩
  rw [← hp] at ON5 CN5
  have HP := Lib.hid hp
  have ep : (q : Int) + (d : Int) = (p : Int) := by omega
  have EP := Lib.hid ep
  rw [← hp]
  clear hon hb5 C5 hn1 hn2 hd y0 OO4 hp ep
  obtain ⟨t, ht⟩ : ∃ t, a4.tmod 13 = t := ⟨_, rfl⟩
  have t0 : -13 < t ∧ t < 13 := by
    have h1 := Int.tmod_lt_of_pos a4 (show (0 : Int) < 13 by decide)
    have h2 := Int.lt_tmod_of_pos a4 (show (0 : Int) < 13 by decide)
    omega
  go_upto_region 4 with fail
  go_cut [53] (fun s53 wx => ∃ b : Bool, s53 = .bool b ∧ (b = true → 0 < m) ∧ v5 = wx)
  case first =>
    by_cases h12 : t = 12
    · have hb : (t == 12) = true := by simp [h12]
      clear h12
      by_cases hm0 : 0 < m
      · have pm : decide (0 < m) = true := by simpa using hm0
        go_wp2
        go_meet
        exact ⟨true, rfl, fun _ => hm0, rfl⟩
      · have pm : decide (0 < m) = false := by simpa using hm0
        go_wp2
        go_meet
        exact ⟨false, rfl, (fun h => by cases h), rfl⟩
    · have hb : (t == 12) = false := by simpa using h12
      clear h12
      go_wp2
      go_meet
      exact ⟨false, rfl, (fun h => by cases h), rfl⟩
  case rest =>
    obtain ⟨bq, rfl, hbq, rfl⟩ := hcut
    have HBQ := Lib.hid hbq
    clear hbq t0 ht
    go_upto_if 53 with fail
    go_cut [100] (fun _ wx => Asked w wx Ax Ay Ao An m my q p gy ro rn)
    case first =>
      cases bq with
      | false =>
        go_wp2
        go_meet
        exact ⟨g, S, (own_at3 HOX.out).below BX5.out, IX.out.is, (own_at3 HOY.out).below BX5.out, own_atI OO5.out, own_atI ON5.out, B5.out⟩
      | true =>
        have hm0 := HBQ.out rfl
        have OX5 := Lib.hid (show OwnR be 3 v5 26 w.heap.size (.slice Ax m cx) m g from own_blocks HOX.out fun x hx => BX5.out.block x (World.ownsRow.lt HOX.out x hx).2)
        have OY5 := Lib.hid (show OwnR be 3 v5 26 v1.heap.size (.slice Ay my cy) my gy from own_blocks HOY.out fun x hx => BX5.out.block x (World.ownsRow.lt HOY.out x hx).2)
        obtain ⟨bx, ctx, ex, _, _, lbx, zbx, hcx, hfx⟩ := OX5.out.some be_len hm0
        injection ex with ex _ e2
        subst ex e2
        have t2 := hcx 0 hm0 2 _ rfl
        rw [Nat.zero_mul, Nat.zero_add] at t2
        have f2 := hfx 2
        have n0 : (0 : Int) < (m : Int) := by omega
        obtain ⟨x, hx⟩ : ∃ x, (g 0).a = x := ⟨_, rfl⟩
        rw [hx] at t2
        have LTB := Lib.hid (LTX.out bx rfl)
        clear hx hcx hfx
        go_wp2_with fail
        refine (amount_some _ _).mono ?_
        rintro e v6 ⟨z, rfl, rfl⟩
        have K6 : Hid (AtR be 3 (v5.setCell ⟨bx, 2, none⟩ (.int .i64 z)) (some ⟨bx, 0, none⟩) m (repB g 0 ⟨(g 0).c, (g 0).y, z⟩)) := Lib.hid (by
          have o := OX5.out.setc be_len 0 2 ⟨(g 0).c, (g 0).y, z⟩ (.int .i64 z) hm0 (by decide) (fun d hd => by
            match d, hd with
            | 0, _ => rfl
            | 1, _ => rfl
            | 2, h => exact absurd rfl h
            | d + 3, _ => rfl) rfl
          rw [Nat.zero_mul, Nat.zero_add] at o
          exact own_at3 o)
        have Y6 : Hid (AtR be 3 (v5.setCell ⟨bx, 2, none⟩ (.int .i64 z)) Ay my gy) := Lib.hid (own_at3 (own_far3 OY5.out _ fun y hy => by have := (World.ownsRow.lt OY5.out y hy).1; have := LTB.out; omega))
        have O6 : Hid (At (v5.setCell ⟨bx, 2, none⟩ (.int .i64 z)) Ao q ro) := Lib.hid (own_atI (own_far3 OO5.out _ fun y hy => by have := (World.ownsRow.lt OO5.out y hy).1; have := LTB.out; have := BX3.out.size; have := BS2.out; omega))
        have N6 : Hid (At (v5.setCell ⟨bx, 2, none⟩ (.int .i64 z)) An p rn) := Lib.hid (own_atI (own_far3 ON5.out _ fun y hy => by have := (World.ownsRow.lt ON5.out y hy).1; have := LTB.out; have := BX4.out.size; have := BS2.out; omega))
        have L6 := Lib.hid (B5.out.setCell (p := ⟨bx, 2, none⟩) lbx (.int .i64 z))
        by_cases hz : z = 0
        · have ez : (z == 0) = true := by simpa using hz
          clear hz
          go_wp2_with (go_at_call 11; (with_reducible refine (W.out _).mono ?_); rintro e w9 ⟨rfl, hb9⟩; have K9 := Lib.hid (L6.out.trans (hb9.mono L6.out.size)); clear hb9)
          go_ret
          exact ⟨rfl, K9.out⟩
        · have ez : (z == 0) = false := by simpa using hz
          have HZ := Lib.hid hz
          clear hz
          go_wp2
          go_meet
          exact ⟨_, _, K6.out, (bis_rep IX.out.is hm0 HZ.out).1, Y6.out, O6.out, N6.out, L6.out⟩
    case rest =>
      obtain ⟨gx, Sx, hax, hbx, hay, hao, han, hlow⟩ := hcut
      obtain ⟨v7, rfl⟩ : ∃ v7, v7 = wc := ⟨_, rfl⟩
      obtain ⟨qq, ff, hff⟩ := fiw_any hbx IY.out.is
      obtain ⟨mm, rr, er, hrm⟩ := rm_any qq ff q ro p rn
      have C6 := Lib.hid (prem_any (c := cx) (c' := cy) (cu := co) (cv := cn) hax hay hbx IY.out.is (by omega) (by omega) CX.out CY.out hao han CO4.out CN5.out hff hrm)
      have C7 := Lib.hid fun v (k : Below v7.heap.size v7 v) => rrem_any (c := cx) (c' := cy) (cu := co) (cv := cn) (hax.below k) (hay.below k) hbx IY.out.is (by omega) (by omega) (hao.below k) (han.below k) hff hrm
      obtain ⟨mn1, mn2⟩ := hrm.low
      have PT := Lib.hid fun v => ptot_any mm rr v ⟨mn1, mn2⟩
      unfold Mon at mn1 mn2
      have ew : IntKind.i64.wrap (mm + rr) = mm + rr := IntWalk.i64_in _ (by omega)
      have LW := Lib.hid hlow
      have q1 : (er == er) = true := by simp
      have q2 : (mm == mm) = true := by simp
      have q3 : (rr == rr) = true := by simp
      have q4 : (mm + rr == mm + rr) = true := by simp
      clear hax hbx hay hao han hlow hff hrm HOX HOY IX IY CX CY CO4 CN5 OO5 ON5 B5 BX5 BX3 BX4 B4 B3 B2 HBQ LTX BS2
      go_wp2_with fail
      refine (C6.out).mono ?_
      rintro e v8 ⟨rfl, hb8⟩
      have L8 := (Below.refl v8.heap.size v8).alloc (Nat.le_refl _) (.cells #[.int .i64 mm, .int .i64 rr] 28)
      have R8 := rec_lit v8 [.int .i64 mm, .int .i64 rr] 28 v8.heap.size rfl
      have D8 := Lib.hid (R8 0 _ rfl)
      have E8 := Lib.hid (R8 1 _ rfl)
      have K8 := Lib.hid (hb8.trans (L8.mono hb8.size))
      have LT8 := Lib.hid L8.size
      clear hb8 C6 L8 R8
      go_wp2_with fail
      refine (C7.out _ K8.out).mono ?_
      rintro e v9 ⟨rfl, hb9⟩
      have d8 := cell_keep D8.out hb9
      have e8 := cell_keep E8.out hb9
      have K9 := Lib.hid (LW.out.trans ((K8.out.trans (hb9.mono K8.out.size)).mono LW.out.size))
      obtain ⟨va, hva⟩ : ∃ va, v9.alloc (.cells #[.int .i64 mm, .int .i64 rr] 46) = va := ⟨_, rfl⟩
      have L9 := (Below.refl v9.heap.size v9).alloc (Nat.le_refl _) (.cells #[.int .i64 mm, .int .i64 rr] 46)
      have R9 := rec_lit v9 [.int .i64 mm, .int .i64 rr] 46 v9.heap.size rfl
      rw [hva] at L9
      have d9 : va.cell? ⟨v9.heap.size, 0, none⟩ = some (.int .i64 mm) := by rw [← hva]; exact R9 0 _ rfl
      have e9 : va.cell? ⟨v9.heap.size, 1, none⟩ = some (.int .i64 rr) := by rw [← hva]; exact R9 1 _ rfl
      have f8 := cell_keep d8 L9
      have g8 := cell_keep e8 L9
      have KA := Lib.hid ((K9.out.trans (L9.mono K9.out.size)).drew)
      have VA := Lib.hid hva
      have F8 : Hid (va.drew.cell? ⟨v8.heap.size, 0, none⟩ = some (.int .i64 mm)) := Lib.hid f8
      have G8 : Hid (va.drew.cell? ⟨v8.heap.size, 1, none⟩ = some (.int .i64 rr)) := Lib.hid g8
      have D9 : Hid (va.drew.cell? ⟨v9.heap.size, 0, none⟩ = some (.int .i64 mm)) := Lib.hid d9
      have E9 : Hid (va.drew.cell? ⟨v9.heap.size, 1, none⟩ = some (.int .i64 rr)) := Lib.hid e9
      clear hb9 C7 D8 E8 K8 d8 e8 K9 L9 R9 hva
      go_wp2
      rw [VA.out]
      clear VA
      go_region_held3 (fun w' => w'.cell? ⟨v8.heap.size, 0, none⟩ = some (.int .i64 mm) ∧ w'.cell? ⟨v8.heap.size, 1, none⟩ = some (.int .i64 rr) ∧ w'.cell? ⟨v9.heap.size, 0, none⟩ = some (.int .i64 mm) ∧ w'.cell? ⟨v9.heap.size, 1, none⟩ = some (.int .i64 rr)) (first | go_keep) (first | (go_at_call 10; (with_reducible refine (PT.out _).mono ?_); rintro e x1 ⟨rfl, hbx1⟩; have HB1 := Lib.hid hbx1; have k1 := cell_keep F8.out hbx1; have k2 := cell_keep G8.out hbx1; have k3 := cell_keep D9.out hbx1; have k4 := cell_keep E9.out hbx1; clear hbx1) | (go_at_call 11; (with_reducible refine (W.out _).mono ?_); rintro e x2 ⟨rfl, hbx2⟩; have HB2 := Lib.hid hbx2; have l1 := cell_keep k1 hbx2; have l2 := cell_keep k2 hbx2; have l3 := cell_keep k3 hbx2; have l4 := cell_keep k4 hbx2; clear hbx2))
      all_goals
        go_wp2
        go_ret
        exact ⟨rfl, (KA.out.trans (HB1.out.mono KA.out.size)).trans (HB2.out.mono (KA.out.trans (HB1.out.mono KA.out.size)).size)⟩
end Go.Proofs.Ytolmdoigcaaieaa
