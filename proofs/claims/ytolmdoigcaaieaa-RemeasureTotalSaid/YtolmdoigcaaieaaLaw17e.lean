/- RemeasureTotal: its walk. -/
import Derived.Test.YtolmdoigcaaieaaRmSel
import Derived.Test.YtolmdoigcaaieaaOrd4
import Derived.BigQuiet
import Derived.Deep.QuietTactic
import Derived.Deep.RegionHeld3
import Derived.Deep.DeepCutAuto
import Derived.Laws.StructEq
namespace Go.Proofs.Ytolmdoigcaaieaa
open Go.RowKit

theorem total_is {S S' : Int → Int → Int} {q n n' p p' : Nat} {f : Nat → Wy} {g g' G G' : Nat → Bk} {fo fw fx fy : Nat → Int} (h : FIs S S' q f) (iv : BInv S n g) (iv' : BInv S' n' g') (sx : Sel f (·.o) fo q q p G fx) (sy : Sel f (·.k) fw q q p' G' fy)
    (ro : ∀ j, RtOk (fo j)) (rw : ∀ j, RtOk (fw j)) :
    p = n ∧ p' = n' ∧ ∃ m r e a ea b eb, RmIs q f q fo q fw m r e ∧ TempIs g n fx n a ea ∧ TempIs g' n' fy n' b eb ∧ (e = 0 → ea = 0 → eb = 0 → m + r = a - b) := by
  obtain ⟨e1, t1⟩ := sx.done h h.op (fun c y z _ => z) iv.is
  obtain ⟨e2, t2⟩ := sy.done h h.cl (fun c y _ z => z) iv'.is
  subst e1 e2
  refine ⟨rfl, rfl, ?_⟩
  have a : RArgs q f q fo q fw := ⟨rfl, rfl, fun i hi => ⟨⟨ro i, rw i⟩, by rw [h.op i hi]; exact iv.mon _ _, by rw [h.cl i hi]; exact iv'.mon _ _⟩⟩
  have s : tot (mvU f fw) q + tot (rtU f fo fw) q = tot (fun j => rof (f j).k (fw j)) q - tot (fun j => rof (f j).o (fo j)) q := by
    have key : ∀ k, tot (mvU f fw) k + tot (rtU f fo fw) k = tot (fun j => rof (f j).k (fw j)) k - tot (fun j => rof (f j).o (fo j)) k := by
      intro k
      induction k with
      | zero => rfl
      | succ k ih =>
        rw [tot, tot, tot, tot]
        unfold mvU rtU at ih ⊢
        omega
    exact key q
  obtain ⟨va, ea, hta⟩ := temp_any g p fx p
  obtain ⟨vb, eb, htb⟩ := temp_any g' p' fy p'
  obtain ⟨m, r, e, hm⟩ := rm_any q f q fo q fw
  refine ⟨m, r, e, va, ea, vb, eb, hm, hta, htb, fun z1 z2 z3 => ?_⟩
  have hm' : m = tot (mvU f fw) q ∧ r = tot (rtU f fo fw) q := by rcases hm with ⟨_, _, _, q⟩ | ⟨_, _, _, _, q⟩ | ⟨_, _, q1, q2, _⟩ <;> first | omega | exact ⟨q1, q2⟩
  have ha' : va = -tot (partU g fx) p := by rcases hta with ⟨_, _, q⟩ | ⟨_, _, _, q⟩ | ⟨_, _, q1, _⟩ <;> first | omega | exact q1
  have hb' : vb = -tot (partU g' fy) p' := by rcases htb with ⟨_, _, q⟩ | ⟨_, _, _, q⟩ | ⟨_, _, q1, _⟩ <;> first | omega | exact q1
  rw [hm'.1, hm'.2, s, ha', hb', t1, t2]
  omega
theorem TempIs.low {g : Nat → Bk} {m k : Nat} {r : Nat → Int} {v e : Int} (h : TempIs g m r k v e) : Mon v := by
  rcases h with ⟨_, rfl, _⟩ | ⟨_, _, rfl, _⟩ | ⟨_, h, rfl, _⟩
  · exact zero_mon 0 0
  · exact zero_mon 0 0
  · exact h
/-- what the loop makes -/
structure TotAt (v w : World) (s12 s13 s14 s15 : Value) (f : Nat → Wy) (q k p p' : Nat) (fo fw fx fy : Nat → Int) (G G' : Nat → Bk) : Prop where
  qd : Quad w v.heap.size s12 s13 s14 s15 k k p p' fo fw fx fy
  sx : Sel f (·.o) fo q k p G fx
  sy : Sel f (·.k) fw q k p' G' fy
  ro : ∀ j, RtOk (fo j)
  rw : ∀ j, RtOk (fw j)
  rx : ∀ j, RtOk (fx j)
  ry : ∀ j, RtOk (fy j)
  low : Below v.heap.size v w
theorem rt_upd {u : Nat → Int} {x : Int} {k : Nat} (h : ∀ j, RtOk (u j)) (hx : RtOk x) : ∀ j, RtOk (if j = k then x else u j) := fun j => by split; exact hx; exact h j
theorem ne_lt {w : World} {base n : Nat} {v : Value} {g : Nat → Int} (o : Own w 3 base v n g) : v.ownBlock ≠ some w.heap.size := fun e => by
  have := (World.ownsRow.lt o _ e).2
  omega
set_option maxHeartbeats 16000000 in
set_option maxRecDepth 100000 in
theorem remeasureTotal_walk (a0 : Option Addr) (len0 cap0 : Nat) (z0 : List Int) (a1 : Option Addr) (len1 cap1 : Nat) (z1 : List Int) (a2 : Option Addr) (len2 cap2 : Nat) (z2 : List Int) (a3 : Option Addr) (len3 cap3 : Nat) (z3 : List Int) (w : World) (w0 : IsRow .i64 w a0 len0 cap0 z0) (w1 : IsRow .i64 w a1 len1 cap1 z1) (w2 : IsRow .i64 w a2 len2 cap2 z2) (w3 : IsRow .i64 w a3 len3 cap3 z3) :
    Calls Try.prog 6 #[.slice a0 len0 cap0, .slice a1 len1 cap1, .slice a2 len2 cap2, .slice a3 len3 cap3] w fun e w' => e = .returned (.bool true) ∧ Below w.heap.size w w' := by
  obtain ⟨i0, hi, hz0, hz1, hz2⟩ := info_parts int_info
  have W := Lib.hid fun w => wakes17_any w
  have CA := Lib.hid (preg_own a0 len0 cap0 z0 w.drew (w0.below (below_drew w)))
  have CB := Lib.hid fun v (k : Below w.drew.heap.size w.drew v) => preg_own a1 len1 cap1 z1 v (w1.below ((below_drew w).trans k))
  obtain ⟨f2, hf2⟩ : ∃ f : Nat → Int, (fun j => z2.getD j 0) = f := ⟨_, rfl⟩
  obtain ⟨f3, hf3⟩ : ∃ f : Nat → Int, (fun j => z3.getD j 0) = f := ⟨_, rfl⟩
  have RO := Lib.hid w2.at.1
  have RN := Lib.hid w3.at.1
  rw [hf2] at RO
  rw [hf3] at RN
  clear w0 w1 w2 w3 hf2 hf3
  go_enter Try.func6, Try.ntmps6
  go_upto_region 1 with fail
  refine wp_region_noPanic ?_
  refine AnyTill.begin (C := fun _ => True) (q := 99) (by kernel_rfl) ?_
  refine AnyTill.take (i := 0) (v := ?_) (by simp only [List.getElem?_toArray, List.getElem?_cons_zero]; rfl) (by kernel_rfl) (by kernel_rfl) (by kernel_rfl) (by kernel_rfl) (fun _ _ _ h => h) (Or.inl ⟨by rfl, ?_⟩) trivial ?_
  rotate_left
  · intro w' hw'; (try dsimp only at hw'); go_simp <;> with_reducible rfl
  try simp only [Act.put, List.setIfInBounds_toArray, List.set_cons_zero, List.set_cons_succ]
  refine AnyTill.take (i := 5) (v := ?_) (by simp only [List.getElem?_toArray, List.getElem?_cons_succ, List.getElem?_cons_zero]; rfl) (by kernel_rfl) (by kernel_rfl) (by kernel_rfl) (by kernel_rfl) (fun _ _ _ h => h) (Or.inl ⟨by rfl, ?_⟩) trivial ?_
  rotate_left
  · intro w' hw'; (try dsimp only at hw'); go_simp <;> with_reducible rfl
  try simp only [Act.put, List.setIfInBounds_toArray, List.set_cons_zero, List.set_cons_succ]
  refine' AnyTill.one (i := 1) (o := _) (by kernel_rfl) ?ho1 (fun K' hK => ?hh1)
  case ho1 => (simp only [List.getElem?_toArray, List.getElem?_cons_succ, List.getElem?_cons_zero]; rfl)
  go_simp
  (go_at_call 12; (refine (CA.out).mono ?_); rintro e v1 ⟨sx, Ax, cx, m, g, S, rfl, x0, hcx, ivx, hox, hb1⟩)
  refine hK.out _ _ (.inr trivial) ?_
  clear hK K'
  try simp only [Act.put, List.setIfInBounds_toArray, List.set_cons_zero, List.set_cons_succ]
  refine AnyTill.weaken (C' := fun w' => w'.cell? ⟨sx, 0, none⟩ = some (.slice Ax m cx)) (fun _ _ => trivial) _ _ _ _ ?_
  refine AnyTill.take (i := 2) (v := ?_) (by simp only [List.getElem?_toArray, List.getElem?_cons_succ, List.getElem?_cons_zero]; rfl) (by kernel_rfl) (by kernel_rfl) (by kernel_rfl) (by kernel_rfl) (fun _ _ _ h => h) (Or.inl ⟨by rfl, ?_⟩) x0 ?_
  rotate_left
  · intro w' hw'; (try dsimp only at hw'); go_simp <;> with_reducible rfl
  try simp only [Act.put, List.setIfInBounds_toArray, List.set_cons_zero, List.set_cons_succ]
  refine AnyTill.take (i := 3) (v := ?_) (by simp only [List.getElem?_toArray, List.getElem?_cons_succ, List.getElem?_cons_zero]; rfl) (by kernel_rfl) (by kernel_rfl) (by kernel_rfl) (by kernel_rfl) (fun _ _ _ h => h) (Or.inl ⟨by rfl, ?_⟩) x0 ?_
  rotate_left
  · intro w' hw'; (try dsimp only at hw'); go_simp <;> with_reducible rfl
  try simp only [Act.put, List.setIfInBounds_toArray, List.set_cons_zero, List.set_cons_succ]
  refine AnyTill.take (i := 4) (v := ?_) (by simp only [List.getElem?_toArray, List.getElem?_cons_succ, List.getElem?_cons_zero]; rfl) (by kernel_rfl) (by kernel_rfl) (by kernel_rfl) (by kernel_rfl) (fun _ _ _ h => h) (Or.inl ⟨by rfl, ?_⟩) x0 ?_
  rotate_left
  · intro w' hw'; (try dsimp only at hw'); go_simp <;> with_reducible rfl
  try simp only [Act.put, List.setIfInBounds_toArray, List.set_cons_zero, List.set_cons_succ]
  refine' AnyTill.one (i := 6) (o := _) (by kernel_rfl) ?ho6 (fun K' hK => ?hh6)
  case ho6 => (simp only [List.getElem?_toArray, List.getElem?_cons_succ, List.getElem?_cons_zero]; rfl)
  go_simp
  (go_at_call 12; (refine (CB.out _ hb1).mono ?_); rintro e v2 ⟨sy, Ay, cy, my, gy, Sy, rfl, y0, hcy, ivy, hoy, hb2⟩)
  refine hK.out _ _ (.inr (cell_keep x0 hb2)) ?_
  clear hK K'
  try simp only [Act.put, List.setIfInBounds_toArray, List.set_cons_zero, List.set_cons_succ]
  refine AnyTill.weaken (C' := fun w' => w'.cell? ⟨sx, 0, none⟩ = some (.slice Ax m cx) ∧ w'.cell? ⟨sy, 0, none⟩ = some (.slice Ay my cy)) (fun _ h => h.1) _ _ _ _ ?_
  have sc2 := And.intro (cell_keep x0 hb2) y0
  refine AnyTill.take (i := 7) (v := ?_) (by simp only [List.getElem?_toArray, List.getElem?_cons_succ, List.getElem?_cons_zero]; rfl) (by kernel_rfl) (by kernel_rfl) (by kernel_rfl) (by kernel_rfl) (fun _ _ _ h => h) (Or.inl ⟨by rfl, ?_⟩) sc2 ?_
  rotate_left
  · intro w' hw'; (try dsimp only at hw'); go_simp <;> with_reducible rfl
  try simp only [Act.put, List.setIfInBounds_toArray, List.set_cons_zero, List.set_cons_succ]
  refine AnyTill.take (i := 8) (v := ?_) (by simp only [List.getElem?_toArray, List.getElem?_cons_succ, List.getElem?_cons_zero]; rfl) (by kernel_rfl) (by kernel_rfl) (by kernel_rfl) (by kernel_rfl) (fun _ _ _ h => h) (Or.inl ⟨by rfl, ?_⟩) sc2 ?_
  rotate_left
  · intro w' hw'; (try dsimp only at hw'); go_simp <;> with_reducible rfl
  try simp only [Act.put, List.setIfInBounds_toArray, List.set_cons_zero, List.set_cons_succ]
  refine AnyTill.take (i := 9) (v := ?_) (by simp only [List.getElem?_toArray, List.getElem?_cons_succ, List.getElem?_cons_zero]; rfl) (by kernel_rfl) (by kernel_rfl) (by kernel_rfl) (by kernel_rfl) (fun _ _ _ h => h) (Or.inl ⟨by rfl, ?_⟩) sc2 ?_
  rotate_left
  · intro w' hw'; (try dsimp only at hw'); go_simp <;> with_reducible rfl
  try simp only [Act.put, List.setIfInBounds_toArray, List.set_cons_zero, List.set_cons_succ]
  refine AnyTill.take (i := 10) (v := ?_) (by simp only [List.getElem?_toArray, List.getElem?_cons_succ, List.getElem?_cons_zero]; rfl) (by kernel_rfl) (by kernel_rfl) (by kernel_rfl) (by kernel_rfl) (fun _ _ _ h => h) (Or.inl ⟨by rfl, ?_⟩) sc2 ?_
  rotate_left
  · intro w' hw'; (try dsimp only at hw'); go_simp <;> with_reducible rfl
  try simp only [Act.put, List.setIfInBounds_toArray, List.set_cons_zero, List.set_cons_succ]
  refine AnyTill.take (i := 11) (v := ?_) (by simp only [List.getElem?_toArray, List.getElem?_cons_succ, List.getElem?_cons_zero]; rfl) (by kernel_rfl) (by kernel_rfl) (by kernel_rfl) (by kernel_rfl) (fun _ _ _ h => h) (Or.inl ⟨by rfl, ?_⟩) sc2 ?_
  rotate_left
  · intro w' hw'; (try dsimp only at hw'); go_simp <;> with_reducible rfl
  try simp only [Act.put, List.setIfInBounds_toArray, List.set_cons_zero, List.set_cons_succ]
  refine AnyTill.done (by kernel_rfl) ?_ _
  refine NoPanic.normal ?_
  have B2 := Lib.hid ((below_drew w).trans ((hb1.trans (hb2.mono hb1.size)).mono (Nat.le_refl _)))
  have HX := Lib.hid (show AtR be 3 v2 Ax m g from (own_at3 hox).below hb2)
  have HY := Lib.hid (own_at3 hoy)
  have IX := Lib.hid ivx
  have IY := Lib.hid ivy
  have CX := Lib.hid hcx
  have CY := Lib.hid hcy
  have hm12 := ivx.le
  have hmy12 := ivy.le
  clear CA CB x0 y0 sc2 hox hoy ivx ivy hcx hcy hb1 hb2
  go_wp2_with fail
  refine (rfwd HX.out HY.out IX.out IY.out).mono ?_
  rintro e v3 ⟨vf, q, f, rfl, hof, hf, hb3⟩
  obtain ⟨Af, cf, rfl, _, _, _, haf⟩ := hof.at we_len
  have hq9 := hf.le
  have B3 := Lib.hid (B2.out.trans (hb3.mono B2.out.size))
  have HX3 := Lib.hid (HX.out.below hb3)
  have HY3 := Lib.hid (HY.out.below hb3)
  have HF := Lib.hid hf
  have AF := Lib.hid haf
  clear hof hf hb3 haf HX HY B2
  go_wp2
  go_loopg [12, 13, 14, 15, 16, 17, 18, 19, 41] q (fun gh s12 s13 s14 s15 _ _ _ _ i wr => ∃ (k p p' : Nat) (fo fw fx fy : Nat → Int) (G G' : Nat → Bk), k ≤ q ∧ gh = q - k ∧ i = .int .i64 k ∧ TotAt v3 wr s12 s13 s14 s15 f q k p p' fo fw fx fy G G')
  case atStart => exact ⟨0, 0, 0, fun _ => 0, fun _ => 0, fun _ => 0, fun _ => 0, fun _ => ⟨0, 0, 0⟩, fun _ => ⟨0, 0, 0⟩, by omega, rfl, rfl, ⟨Quad.nil _ _ _ _ _ _, Sel.zero _ _ _ _ _ _, Sel.zero _ _ _ _ _ _, fun _ => ⟨by omega, by omega⟩, fun _ => ⟨by omega, by omega⟩, fun _ => ⟨by omega, by omega⟩, fun _ => ⟨by omega, by omega⟩, Below.refl _ _⟩⟩
  case round =>
    obtain ⟨k, p, p', fo, fw, fx, fy, G, G', hk, hgk, rfl, ht⟩ := hrel
    have HGK := Lib.hid hgk
    have HT := Lib.hid ht
    have pk := ht.sx.le
    have pk' := ht.sy.le
    clear hgk ht
    by_cases hlt : k < q
    · obtain ⟨b, off, rfl, hb, c0, c1, c2, c3, c4⟩ := (AF.out.below HT.out.low).five hlt
      obtain ⟨wc, hwc⟩ : ∃ wc, (f k).c = wc := ⟨_, rfl⟩
      obtain ⟨wy, hwy⟩ : ∃ wy, (f k).y = wy := ⟨_, rfl⟩
      obtain ⟨a, ha⟩ : ∃ a, (f k).o = a := ⟨_, rfl⟩
      obtain ⟨a', ha'⟩ : ∃ a', (f k).k = a' := ⟨_, rfl⟩
      obtain ⟨wm, hwm⟩ : ∃ wm, (f k).m = wm := ⟨_, rfl⟩
      rw [hwc] at c0
      rw [hwy] at c1
      rw [ha] at c2
      rw [hwm] at c3
      rw [ha'] at c4
      have EA := Lib.hid ha
      have EA' := Lib.hid ha'
      have k0 : (0 : Int) ≤ (k : Int) := by omega
      have kk : (k : Int) < (q : Int) := by omega
      obtain ⟨wa, hwa⟩ : ∃ wa, wr.alloc (.cells #[.int .i64 wc, .int .i64 wy, .int .i64 a, .int .i64 wm, .int .i64 a'] 51) = wa := ⟨_, rfl⟩
      have ala := (Below.refl wr.heap.size wr).alloc (Nat.le_refl _) (.cells #[.int .i64 wc, .int .i64 wy, .int .i64 a, .int .i64 wm, .int .i64 a'] 51)
      have RA := rec_lit wr [.int .i64 wc, .int .i64 wy, .int .i64 a, .int .i64 wm, .int .i64 a'] 51 wr.heap.size rfl
      rw [hwa] at ala
      have x2 : wa.cell? ⟨wr.heap.size, 2, none⟩ = some (.int .i64 a) := by rw [← hwa]; exact RA 2 _ rfl
      have x4 : wa.cell? ⟨wr.heap.size, 4, none⟩ = some (.int .i64 a') := by rw [← hwa]; exact RA 4 _ rfl
      have HXS := Lib.hid (show wr.heap.size < wa.heap.size by rw [← hwa]; simp)
      have Q0 := Lib.hid (HT.out.qd.below ala)
      have LW0 := Lib.hid (HT.out.low.trans (ala.mono HT.out.low.size))
      have NX1 := Lib.hid (ne_lt HT.out.qd.o1)
      have NX2 := Lib.hid (ne_lt HT.out.qd.o2)
      have NX3 := Lib.hid (ne_lt HT.out.qd.o3)
      have NX4 := Lib.hid (ne_lt HT.out.qd.o4)
      have HWA := Lib.hid hwa
      have LWW := Lib.hid (B3.out.trans (LW0.out.mono B3.out.size))
      clear hwc hwy ha ha' hwm hwa ala RA
      go_upto_if 49 with fail
      rw [HWA.out]
      clear HWA c0 c1 c2 c3 c4
      go_cut [18] (fun s18 wx => ∃ x, s18 = .int .i64 x ∧ RtOk x ∧ wa = wx)
      case first =>
        by_cases h0 : k < len2
        · obtain ⟨b', off', rfl, hb', hc'⟩ := (RO.out.below LWW.out).some (by omega)
          have d0 := hc' k h0
          have kl : (k : Int) < (len2 : Int) := by omega
          obtain ⟨x, hx⟩ : ∃ x, f2 k % 1000001 = x := ⟨_, rfl⟩
          have HXX := Lib.hid hx
          have hxb : RtOk x := by unfold RtOk; omega
          clear hc' hx
          go_wp2_with (first | (go_at_call 8; (with_reducible refine (within_at _ _ _ _ (by omega) (by omega) HXX).mono ?_); rintro e w' ⟨rfl, rfl⟩))
          go_meet
          exact ⟨x, rfl, hxb, rfl⟩
        · have kl : ¬ (k : Int) < (len2 : Int) := by omega
          go_wp2
          go_meet
          exact ⟨250000, rfl, by unfold RtOk; omega, rfl⟩
      case rest =>
      obtain ⟨y1, rfl, hy1, rfl⟩ := hcut
      go_upto_if 58 with fail
      go_cut [19] (fun s19 wx => ∃ x, s19 = .int .i64 x ∧ RtOk x ∧ wa = wx)
      case first =>
        by_cases h0 : k < len3
        · obtain ⟨b', off', rfl, hb', hc'⟩ := (RN.out.below LWW.out).some (by omega)
          have d0 := hc' k h0
          have kl : (k : Int) < (len3 : Int) := by omega
          obtain ⟨x, hx⟩ : ∃ x, f3 k % 1000001 = x := ⟨_, rfl⟩
          have HXX := Lib.hid hx
          have hxb : RtOk x := by unfold RtOk; omega
          clear hc' hx
          go_wp2_with (first | (go_at_call 8; (with_reducible refine (within_at _ _ _ _ (by omega) (by omega) HXX).mono ?_); rintro e w' ⟨rfl, rfl⟩))
          go_meet
          exact ⟨x, rfl, hxb, rfl⟩
        · have kl : ¬ (k : Int) < (len3 : Int) := by omega
          go_wp2
          go_meet
          exact ⟨300000, rfl, by unfold RtOk; omega, rfl⟩
      case rest =>
      obtain ⟨y2, rfl, hy2, rfl⟩ := hcut
      have HY1 := Lib.hid hy1
      have HY2 := Lib.hid hy2
      clear hy1 hy2 LWW
      by_cases hA0 : a = 0
      · by_cases hB0 : a' = 0
        · have hA : a = 0 := hA0
          have HA := Lib.hid hA0
          have HB := Lib.hid hB0
          have eA : (a != 0) = false := by simpa using hA0
          have eB : (a' != 0) = false := by simpa using hB0
          clear hA hA0 hB0
          go_wp2_with (first | (at_builtin; (refine wpList_push_int rfl (.tmp 64) (.tmp 66) rfl Try.underlying22 hi hz0 hz1 hz2 v3 v3.heap.size k wa.heap.size _ fo y1 rfl rfl (by simp) (Q0.out.o1.alloc _) (by omega) (LW0.out.alloc LW0.out.size _) (by have := LW0.out.size; simp; omega) _ rfl ?_; intro b1 c1 w1 ho1 hb1 hg1 hat1; have al1 := (Below.refl wa.heap.size wa).alloc (Nat.le_refl _) (.cells #[.int .i64 y1] 3); have Q1 := Lib.hid (((Q0.out.below al1).push ho1 hg1 hat1 (Nat.le_refl _)).rot); have LW1 := Lib.hid hb1; have SZ1 := Lib.hid (show wr.heap.size < w1.heap.size by have := hg1.size; have := HXS.out; simp at *; omega); have p1 := hg1.cell (cell_keep x2 al1) (NX1.out.symm); have r1 := hg1.cell (cell_keep x4 al1) (NX1.out.symm); clear ho1 hb1 hg1 hat1 al1)) | (at_builtin; (refine wpList_push_int rfl (.tmp 68) (.tmp 70) rfl Try.underlying22 hi hz0 hz1 hz2 v3 v3.heap.size k w1.heap.size _ fw y2 rfl rfl (by simp) (Q1.out.o1.alloc _) (by omega) (LW1.out.alloc LW1.out.size _) (by have := LW1.out.size; simp; omega) _ rfl ?_; intro b2 c2 w2 ho2 hb2 hg2 hat2; have al2 := (Below.refl w1.heap.size w1).alloc (Nat.le_refl _) (.cells #[.int .i64 y2] 3); have Q2 := Lib.hid (((Q1.out.below al2).push ho2 hg2 hat2 (Nat.le_refl _)).rot); have LW2 := Lib.hid hb2; have SZ2 := Lib.hid (show wr.heap.size < w2.heap.size by have := hg2.size; have := SZ1.out; simp at *; omega); have p2 := hg2.cell (cell_keep p1 al2) (NX2.out.symm); have r2 := hg2.cell (cell_keep r1 al2) (NX2.out.symm); clear ho2 hb2 hg2 hat2 al2)))
          go_roundg (q - (k + 1))
          case measure => have := HGK.out; omega
          case rel => exact ⟨k + 1, p, p', _, _, _, _, _, _, by omega, rfl, by go_num, ⟨Q2.out.rot.rot, HT.out.sx.skip (EA.out.trans HA.out) y1, HT.out.sy.skip (EA'.out.trans HB.out) y2, rt_upd HT.out.ro HY1.out, rt_upd HT.out.rw HY2.out, HT.out.rx, HT.out.ry, LW2.out⟩⟩
        · have hA : a = 0 := hA0
          have HA := Lib.hid hA0
          have HB := Lib.hid hB0
          have eA : (a != 0) = false := by simpa using hA0
          have eB : (a' != 0) = true := by simpa using hB0
          clear hA hA0 hB0
          go_wp2_with (first | (at_builtin; (refine wpList_push_int rfl (.tmp 64) (.tmp 66) rfl Try.underlying22 hi hz0 hz1 hz2 v3 v3.heap.size k wa.heap.size _ fo y1 rfl rfl (by simp) (Q0.out.o1.alloc _) (by omega) (LW0.out.alloc LW0.out.size _) (by have := LW0.out.size; simp; omega) _ rfl ?_; intro b1 c1 w1 ho1 hb1 hg1 hat1; have al1 := (Below.refl wa.heap.size wa).alloc (Nat.le_refl _) (.cells #[.int .i64 y1] 3); have Q1 := Lib.hid (((Q0.out.below al1).push ho1 hg1 hat1 (Nat.le_refl _)).rot); have LW1 := Lib.hid hb1; have SZ1 := Lib.hid (show wr.heap.size < w1.heap.size by have := hg1.size; have := HXS.out; simp at *; omega); have p1 := hg1.cell (cell_keep x2 al1) (NX1.out.symm); have r1 := hg1.cell (cell_keep x4 al1) (NX1.out.symm); clear ho1 hb1 hg1 hat1 al1)) | (at_builtin; (refine wpList_push_int rfl (.tmp 68) (.tmp 70) rfl Try.underlying22 hi hz0 hz1 hz2 v3 v3.heap.size k w1.heap.size _ fw y2 rfl rfl (by simp) (Q1.out.o1.alloc _) (by omega) (LW1.out.alloc LW1.out.size _) (by have := LW1.out.size; simp; omega) _ rfl ?_; intro b2 c2 w2 ho2 hb2 hg2 hat2; have al2 := (Below.refl w1.heap.size w1).alloc (Nat.le_refl _) (.cells #[.int .i64 y2] 3); have Q2 := Lib.hid (((Q1.out.below al2).push ho2 hg2 hat2 (Nat.le_refl _)).rot); have LW2 := Lib.hid hb2; have SZ2 := Lib.hid (show wr.heap.size < w2.heap.size by have := hg2.size; have := SZ1.out; simp at *; omega); have p2 := hg2.cell (cell_keep p1 al2) (NX2.out.symm); have r2 := hg2.cell (cell_keep r1 al2) (NX2.out.symm); clear ho2 hb2 hg2 hat2 al2; have Q2R := Lib.hid Q2.out.rot)) | (at_builtin; (refine wpList_push_int rfl (.tmp 82) (.tmp 84) rfl Try.underlying22 hi hz0 hz1 hz2 v3 v3.heap.size p' w2.heap.size _ fy y2 rfl rfl (by simp) (Q2R.out.o1.alloc _) (by omega) (LW2.out.alloc LW2.out.size _) (by have := LW2.out.size; simp; omega) _ rfl ?_; intro b4 c4 w4 ho4 hb4 hg4 hat4; have al4 := (Below.refl w2.heap.size w2).alloc (Nat.le_refl _) (.cells #[.int .i64 y2] 3); have Q4 := Lib.hid (((Q2R.out.below al4).push ho4 hg4 hat4 (Nat.le_refl _)).rot); have LW4 := Lib.hid hb4; have SZ4 := Lib.hid (show wr.heap.size < w4.heap.size by have := hg4.size; have := SZ2.out; simp at *; omega); have p4 := hg4.cell (cell_keep p2 al4) (NX4.out.symm); have r4 := hg4.cell (cell_keep r2 al4) (NX4.out.symm); clear ho4 hb4 hg4 hat4 al4)))
          go_roundg (q - (k + 1))
          case measure => have := HGK.out; omega
          case rel => exact ⟨k + 1, p, p' + 1, _, _, _, _, _, _, by omega, rfl, by go_num, ⟨Q4.out, HT.out.sx.skip (EA.out.trans HA.out) y1, HT.out.sy.keep HF.out hlt (fun e => HB.out (EA'.out ▸ e)) y2, rt_upd HT.out.ro HY1.out, rt_upd HT.out.rw HY2.out, HT.out.rx, rt_upd HT.out.ry HY2.out, LW4.out⟩⟩
      · by_cases hB0 : a' = 0
        · have hA : ¬ a = 0 := hA0
          have HA := Lib.hid hA0
          have HB := Lib.hid hB0
          have eA : (a != 0) = true := by simpa using hA0
          have eB : (a' != 0) = false := by simpa using hB0
          clear hA hA0 hB0
          go_wp2_with (first | (at_builtin; (refine wpList_push_int rfl (.tmp 64) (.tmp 66) rfl Try.underlying22 hi hz0 hz1 hz2 v3 v3.heap.size k wa.heap.size _ fo y1 rfl rfl (by simp) (Q0.out.o1.alloc _) (by omega) (LW0.out.alloc LW0.out.size _) (by have := LW0.out.size; simp; omega) _ rfl ?_; intro b1 c1 w1 ho1 hb1 hg1 hat1; have al1 := (Below.refl wa.heap.size wa).alloc (Nat.le_refl _) (.cells #[.int .i64 y1] 3); have Q1 := Lib.hid (((Q0.out.below al1).push ho1 hg1 hat1 (Nat.le_refl _)).rot); have LW1 := Lib.hid hb1; have SZ1 := Lib.hid (show wr.heap.size < w1.heap.size by have := hg1.size; have := HXS.out; simp at *; omega); have p1 := hg1.cell (cell_keep x2 al1) (NX1.out.symm); have r1 := hg1.cell (cell_keep x4 al1) (NX1.out.symm); clear ho1 hb1 hg1 hat1 al1)) | (at_builtin; (refine wpList_push_int rfl (.tmp 68) (.tmp 70) rfl Try.underlying22 hi hz0 hz1 hz2 v3 v3.heap.size k w1.heap.size _ fw y2 rfl rfl (by simp) (Q1.out.o1.alloc _) (by omega) (LW1.out.alloc LW1.out.size _) (by have := LW1.out.size; simp; omega) _ rfl ?_; intro b2 c2 w2 ho2 hb2 hg2 hat2; have al2 := (Below.refl w1.heap.size w1).alloc (Nat.le_refl _) (.cells #[.int .i64 y2] 3); have Q2 := Lib.hid (((Q1.out.below al2).push ho2 hg2 hat2 (Nat.le_refl _)).rot); have LW2 := Lib.hid hb2; have SZ2 := Lib.hid (show wr.heap.size < w2.heap.size by have := hg2.size; have := SZ1.out; simp at *; omega); have p2 := hg2.cell (cell_keep p1 al2) (NX2.out.symm); have r2 := hg2.cell (cell_keep r1 al2) (NX2.out.symm); clear ho2 hb2 hg2 hat2 al2)) | (at_builtin; (refine wpList_push_int rfl (.tmp 75) (.tmp 77) rfl Try.underlying22 hi hz0 hz1 hz2 v3 v3.heap.size p w2.heap.size _ fx y1 rfl rfl (by simp) (Q2.out.o1.alloc _) (by omega) (LW2.out.alloc LW2.out.size _) (by have := LW2.out.size; simp; omega) _ rfl ?_; intro b3 c3 w3 ho3 hb3 hg3 hat3; have al3 := (Below.refl w2.heap.size w2).alloc (Nat.le_refl _) (.cells #[.int .i64 y1] 3); have Q3 := Lib.hid (((Q2.out.below al3).push ho3 hg3 hat3 (Nat.le_refl _)).rot); have LW3 := Lib.hid hb3; have SZ3 := Lib.hid (show wr.heap.size < w3.heap.size by have := hg3.size; have := SZ2.out; simp at *; omega); have p3 := hg3.cell (cell_keep p2 al3) (NX3.out.symm); have r3 := hg3.cell (cell_keep r2 al3) (NX3.out.symm); clear ho3 hb3 hg3 hat3 al3)))
          go_roundg (q - (k + 1))
          case measure => have := HGK.out; omega
          case rel => exact ⟨k + 1, p + 1, p', _, _, _, _, _, _, by omega, rfl, by go_num, ⟨Q3.out.rot, HT.out.sx.keep HF.out hlt (fun e => HA.out (EA.out ▸ e)) y1, HT.out.sy.skip (EA'.out.trans HB.out) y2, rt_upd HT.out.ro HY1.out, rt_upd HT.out.rw HY2.out, rt_upd HT.out.rx HY1.out, HT.out.ry, LW3.out⟩⟩
        · have hA : ¬ a = 0 := hA0
          have HA := Lib.hid hA0
          have HB := Lib.hid hB0
          have eA : (a != 0) = true := by simpa using hA0
          have eB : (a' != 0) = true := by simpa using hB0
          clear hA hA0 hB0
          go_wp2_with (first | (at_builtin; (refine wpList_push_int rfl (.tmp 64) (.tmp 66) rfl Try.underlying22 hi hz0 hz1 hz2 v3 v3.heap.size k wa.heap.size _ fo y1 rfl rfl (by simp) (Q0.out.o1.alloc _) (by omega) (LW0.out.alloc LW0.out.size _) (by have := LW0.out.size; simp; omega) _ rfl ?_; intro b1 c1 w1 ho1 hb1 hg1 hat1; have al1 := (Below.refl wa.heap.size wa).alloc (Nat.le_refl _) (.cells #[.int .i64 y1] 3); have Q1 := Lib.hid (((Q0.out.below al1).push ho1 hg1 hat1 (Nat.le_refl _)).rot); have LW1 := Lib.hid hb1; have SZ1 := Lib.hid (show wr.heap.size < w1.heap.size by have := hg1.size; have := HXS.out; simp at *; omega); have p1 := hg1.cell (cell_keep x2 al1) (NX1.out.symm); have r1 := hg1.cell (cell_keep x4 al1) (NX1.out.symm); clear ho1 hb1 hg1 hat1 al1)) | (at_builtin; (refine wpList_push_int rfl (.tmp 68) (.tmp 70) rfl Try.underlying22 hi hz0 hz1 hz2 v3 v3.heap.size k w1.heap.size _ fw y2 rfl rfl (by simp) (Q1.out.o1.alloc _) (by omega) (LW1.out.alloc LW1.out.size _) (by have := LW1.out.size; simp; omega) _ rfl ?_; intro b2 c2 w2 ho2 hb2 hg2 hat2; have al2 := (Below.refl w1.heap.size w1).alloc (Nat.le_refl _) (.cells #[.int .i64 y2] 3); have Q2 := Lib.hid (((Q1.out.below al2).push ho2 hg2 hat2 (Nat.le_refl _)).rot); have LW2 := Lib.hid hb2; have SZ2 := Lib.hid (show wr.heap.size < w2.heap.size by have := hg2.size; have := SZ1.out; simp at *; omega); have p2 := hg2.cell (cell_keep p1 al2) (NX2.out.symm); have r2 := hg2.cell (cell_keep r1 al2) (NX2.out.symm); clear ho2 hb2 hg2 hat2 al2)) | (at_builtin; (refine wpList_push_int rfl (.tmp 75) (.tmp 77) rfl Try.underlying22 hi hz0 hz1 hz2 v3 v3.heap.size p w2.heap.size _ fx y1 rfl rfl (by simp) (Q2.out.o1.alloc _) (by omega) (LW2.out.alloc LW2.out.size _) (by have := LW2.out.size; simp; omega) _ rfl ?_; intro b3 c3 w3 ho3 hb3 hg3 hat3; have al3 := (Below.refl w2.heap.size w2).alloc (Nat.le_refl _) (.cells #[.int .i64 y1] 3); have Q3 := Lib.hid (((Q2.out.below al3).push ho3 hg3 hat3 (Nat.le_refl _)).rot); have LW3 := Lib.hid hb3; have SZ3 := Lib.hid (show wr.heap.size < w3.heap.size by have := hg3.size; have := SZ2.out; simp at *; omega); have p3 := hg3.cell (cell_keep p2 al3) (NX3.out.symm); have r3 := hg3.cell (cell_keep r2 al3) (NX3.out.symm); clear ho3 hb3 hg3 hat3 al3)) | (at_builtin; (refine wpList_push_int rfl (.tmp 82) (.tmp 84) rfl Try.underlying22 hi hz0 hz1 hz2 v3 v3.heap.size p' w3.heap.size _ fy y2 rfl rfl (by simp) (Q3.out.o1.alloc _) (by omega) (LW3.out.alloc LW3.out.size _) (by have := LW3.out.size; simp; omega) _ rfl ?_; intro b4 c4 w4 ho4 hb4 hg4 hat4; have al4 := (Below.refl w3.heap.size w3).alloc (Nat.le_refl _) (.cells #[.int .i64 y2] 3); have Q4 := Lib.hid (((Q3.out.below al4).push ho4 hg4 hat4 (Nat.le_refl _)).rot); have LW4 := Lib.hid hb4; have SZ4 := Lib.hid (show wr.heap.size < w4.heap.size by have := hg4.size; have := SZ3.out; simp at *; omega); have p4 := hg4.cell (cell_keep p3 al4) (NX4.out.symm); have r4 := hg4.cell (cell_keep r3 al4) (NX4.out.symm); clear ho4 hb4 hg4 hat4 al4)))
          go_roundg (q - (k + 1))
          case measure => have := HGK.out; omega
          case rel => exact ⟨k + 1, p + 1, p' + 1, _, _, _, _, _, _, by omega, rfl, by go_num, ⟨Q4.out, HT.out.sx.keep HF.out hlt (fun e => HA.out (EA.out ▸ e)) y1, HT.out.sy.keep HF.out hlt (fun e => HB.out (EA'.out ▸ e)) y2, rt_upd HT.out.ro HY1.out, rt_upd HT.out.rw HY2.out, rt_upd HT.out.rx HY1.out, rt_upd HT.out.ry HY2.out, LW4.out⟩⟩
    · obtain rfl : k = q := by omega
      obtain ⟨A12, c12, rfl, hc12, hm12', _⟩ := HT.out.qd.o1.form
      obtain ⟨A13, c13, rfl, hc13, hm13, _⟩ := HT.out.qd.o2.form
      obtain ⟨A14, c14, rfl, hc14, hm14, _⟩ := HT.out.qd.o3.form
      obtain ⟨A15, c15, rfl, hc15, hm15, _⟩ := HT.out.qd.o4.form
      obtain ⟨ep, ep', mm, rr, er, va, ea, vb, eb, hrm, hta, htb, heq⟩ := total_is HF.out IX.out IY.out HT.out.sx HT.out.sy HT.out.ro HT.out.rw
      obtain rfl : p = m := ep
      obtain rfl : p' = my := ep'
      have fw' := HF.out.fiw IX.out.mon IY.out.mon
      have X4 := Lib.hid (HX3.out.below HT.out.low)
      have Y4 := Lib.hid (HY3.out.below HT.out.low)
      have A1 := Lib.hid (own_atI HT.out.qd.o1)
      have A2 := Lib.hid (own_atI HT.out.qd.o2)
      have A3 := Lib.hid (own_atI HT.out.qd.o3)
      have A4 := Lib.hid (own_atI HT.out.qd.o4)
      have C1 := Lib.hid (prem_any (c := cx) (c' := cy) (cu := c12) (cv := c13) X4.out Y4.out IX.out.is IY.out.is (by omega) (by omega) CX.out CY.out A1.out A2.out ⟨hc12, hm12'⟩ ⟨hc13, hm13⟩ fw' hrm)
      have C2 := Lib.hid fun v (z : Below wr.heap.size wr v) => ptemp_any Ax A14 p cx p c14 g fx va ea v (X4.out.below z) (A3.out.below z) (by omega) CX.out ⟨hc14, hm14⟩ hta
      have C3 := Lib.hid fun v (z : Below wr.heap.size wr v) => ptemp_any Ay A15 p' cy p' c15 gy fy vb eb v (Y4.out.below z) (A4.out.below z) (by omega) CY.out ⟨hc15, hm15⟩ htb
      have LW := Lib.hid (B3.out.trans (HT.out.low.mono B3.out.size))
      have PT := Lib.hid fun v => ptot_any mm rr v hrm.low
      have HEQ := Lib.hid heq
      have ma := hta.low
      have mb := htb.low
      unfold Mon at ma mb
      have ew : IntKind.i64.wrap (va - vb) = va - vb := IntWalk.i64_in _ (by omega)
      clear hc12 hm12' hc13 hm13 hc14 hm14 hc15 hm15 hrm hta htb heq fw' X4 Y4 A1 A2 A3 A4 HT HX3 HY3 IX IY CX CY B3 HF AF RO RN HGK hlt hk pk pk'
      go_wp2_with fail
      refine (C1.out).mono ?_
      rintro e v5 ⟨rfl, hb5⟩
      have al5 := (Below.refl v5.heap.size v5).alloc (Nat.le_refl _) (.cells #[.int .i64 mm, .int .i64 rr] 28)
      have R5 := rec_lit v5 [.int .i64 mm, .int .i64 rr] 28 v5.heap.size rfl
      have D5 := Lib.hid (R5 0 _ rfl)
      have E5 := Lib.hid (R5 1 _ rfl)
      have K5 := Lib.hid (hb5.trans (al5.mono hb5.size))
      clear hb5 al5 R5 C1
      go_wp2_with fail
      refine (C2.out _ K5.out).mono ?_
      rintro e v6 ⟨rfl, hb6⟩
      have D6 := Lib.hid (cell_keep D5.out hb6)
      have E6 := Lib.hid (cell_keep E5.out hb6)
      have K6 := Lib.hid (K5.out.trans (hb6.mono K5.out.size))
      clear hb6 D5 E5 C2 K5
      go_wp2_with fail
      refine (C3.out _ K6.out).mono ?_
      rintro e v7 ⟨rfl, hb7⟩
      have d7 := cell_keep D6.out hb7
      have e7 := cell_keep E6.out hb7
      have K7 := Lib.hid (LW.out.trans ((K6.out.trans (hb7.mono K6.out.size)).mono LW.out.size))
      clear hb7 D6 E6 C3 K6 LW
      by_cases z1 : er = 0
      · by_cases z2 : ea = 0
        · by_cases z3 : eb = 0
          · have e4 := HEQ.out z1 z2 z3
            subst z1 z2 z3
            have e5 : (mm + rr == va - vb) = true := by simpa using e4
            have PT2 : Hid (∀ v, Calls Try.prog 10 #[.agg #[.int .i64 mm, .int .i64 rr]] v fun e w' => e = .returned (.int .i64 (mm + rr)) ∧ Below v.heap.size v w') := PT
            clear HEQ e4
            go_wp2_with (first | (go_at_call 10; (with_reducible refine (PT2.out _).mono ?_); rintro e x1 ⟨rfl, hx1⟩; have J1 := Lib.hid (K7.out.trans (hx1.mono K7.out.size)); clear hx1) | (go_at_call 11; (with_reducible refine (W.out _).mono ?_); rintro e x2 ⟨rfl, hx2⟩; have J2 := Lib.hid (J1.out.trans (hx2.mono J1.out.size)); clear hx2))
            go_ret
            exact ⟨rfl, J2.out⟩
          · subst z1 z2
            go_wp2_with (go_at_call 11; (with_reducible refine (W.out _).mono ?_); rintro e x2 ⟨rfl, hx2⟩; have J2 := Lib.hid (K7.out.trans (hx2.mono K7.out.size)); clear hx2)
            go_ret
            exact ⟨rfl, J2.out⟩
        · subst z1
          go_wp2_with (go_at_call 11; (with_reducible refine (W.out _).mono ?_); rintro e x2 ⟨rfl, hx2⟩; have J2 := Lib.hid (K7.out.trans (hx2.mono K7.out.size)); clear hx2)
          go_ret
          exact ⟨rfl, J2.out⟩
      · go_wp2_with (go_at_call 11; (with_reducible refine (W.out _).mono ?_); rintro e x2 ⟨rfl, hx2⟩; have J2 := Lib.hid (K7.out.trans (hx2.mono K7.out.size)); clear hx2)
        go_ret
        exact ⟨rfl, J2.out⟩
end Go.Proofs.Ytolmdoigcaaieaa
